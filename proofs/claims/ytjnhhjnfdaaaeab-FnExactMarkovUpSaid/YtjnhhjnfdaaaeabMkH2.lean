/- Triples modulo a prime number: isModTriple (the program) at what is one. -/
import Derived.Test.YtjnhhjnfdaaaeabMkD
import Derived.Shelf.SlSortCmp.QuietGrown
import Derived.Test.YtjnhhjnfdaaaeabMkR
import Derived.Test.YtjnhhjnfdaaaeabMkM
import Derived.Test.YtjnhhjnfdaaaeabMkO
namespace Go.Proofs.Ytjnhhjnfdaaaeab
open Go.RowKit

theorem isRem_any (p n : Int) (b : Nat) (w : World) (hc : w.cell? ⟨b, 0, none⟩ = some (.int .i64 p)) :
    Calls Try.prog 107 #[.int .i64 n, .pointer (some ⟨b, 0, none⟩)] w fun e w' => e = .returned (.bool (decide (0 ≤ n) && decide (n < p))) ∧ w = w' := by
  by_cases h1 : 0 ≤ n
  · go_enter Try.func107, Try.ntmps107
    go_wp2_with fail
    go_ret
    exact ⟨ret_bool (by simp [h1]), rfl⟩
  · have hd : decide (0 ≤ n) = false := decide_eq_false h1
    go_enter Try.func107, Try.ntmps107
    go_wp2_with fail
    go_ret
    exact ⟨ret_bool (by first | rfl | (rw [decide_eq_false (by omega : ¬ 0 ≤ n)]; rfl)), rfl⟩
theorem isRem_as (p n : Int) (r : Bool) (b : Nat) (w : World) (h : within 0 (p - 1) n = r) (hc : w.cell? ⟨b, 0, none⟩ = some (.int .i64 p)) :
    Calls Try.prog 107 #[.int .i64 n, .pointer (some ⟨b, 0, none⟩)] w fun e w' => e = .returned (.bool r) ∧ w = w' := by
  have h2 : (decide (0 ≤ n) && decide (n < p)) = r := by rw [← h]; simp only [within]; congr 1; exact decide_eq_decide.2 (by omega)
  rw [← h2]; exact isRem_any p n b w hc
theorem isModulus_as (p : Int) (b : Bool) (w : World) (h : prime13 p = b) (h64 : -9223372036854775808 ≤ p) :
    Calls Try.prog 106 #[.int .i64 p] w fun e w' => e = .returned (.bool b) ∧ w = w' := by
  subst h; exact isModulus_any p w h64
theorem prime13_in {p : Int} (h : prime13 p = true) : 2 ≤ p ∧ p ≤ 13 := by have := (prime13_iff p).1 h; omega
theorem isRem_in (p n : Int) (b : Nat) (w : World) (hc : w.cell? ⟨b, 0, none⟩ = some (.int .i64 p)) :
    Calls Try.prog 107 #[.int .i64 n, .pointer (some ⟨b, 0, none⟩)] w fun e w' => e = .returned (.bool (within 0 (p - 1) n)) ∧ w = w' := isRem_as p n _ b w rfl hc
open Go.Sort in
theorem Later.grow (w : World) (n : Nat) (os : Array Obj) : Later w (grow (w.drewN n) os) := (Later.drewN w n).trans ⟨rfl, rfl, rfl, by simp, fun _ hk => heap_grow_old _ _ hk⟩
def modOk (p : Int) (zs : List Int) : Bool := prime13 p && modGood p zs


theorem isRem_grown (p n : Int) (b : Nat) (w1 : World) (m : Nat) (os : Array Obj) (hc : (Go.Sort.grow (w1.drewN m) os).cell? ⟨b, 0, none⟩ = some (.int .i64 p)) :
    Calls Try.prog 107 #[.int .i64 n, .pointer (some ⟨b, 0, none⟩)] (Go.Sort.grow (w1.drewN m) os) fun e w'' => e = .returned (.bool (within 0 (p - 1) n)) ∧ ∃ q : GrownBy, w'' = Go.Sort.grow (w1.drewN q.n) q.os :=
  (isRem_in p n b _ hc).mono fun _ _ h => ⟨h.1, ⟨m, os⟩, h.2.symm⟩
theorem solvesModulo_grown (x y z p : Int) (w1 : World) (m : Nat) (os : Array Obj) (hx : Sm x) (hy : Sm y) (hz : Sm z) (hp : 2 ≤ p ∧ p ≤ 13) :
    Calls Try.prog 108 #[.agg #[.int .i64 x, .int .i64 y, .int .i64 z], .int .i64 p] (Go.Sort.grow (w1.drewN m) os) fun e w'' => e = .returned (.bool (modT p x y z)) ∧ ∃ q : GrownBy, w'' = Go.Sort.grow (w1.drewN q.n) q.os :=
  (solvesModulo_exact x y z p _ hx hy hz hp).mono fun _ _ h => ⟨h.1, ⟨m, os ++ #[.cells #[.int .i64 x, .int .i64 y, .int .i64 z] 59]⟩, h.2.trans (by rw [Go.Sort.alloc_eq_grow, Go.Sort.grow_grow])⟩
set_option maxRecDepth 20000 in
set_option maxHeartbeats 4000000 in
theorem isModTriple_yes (p x y z : Int) (ad : Addr) (cap : Nat) (w : World) (h64' : -9223372036854775808 ≤ p) (hp : prime13 p = true) (H0 : Ints w (.slice (some ad) 3 cap) [x, y, z])
    (hx : within 0 (p - 1) x = true) (hy : within 0 (p - 1) y = true) (hz : within 0 (p - 1) z = true) :
    Calls Try.prog 70 #[.int .i64 p, .slice (some ad) 3 cap] w fun e w' => e = .returned (.bool (modT p x y z)) ∧ Later w w' := by
  have hb0 : (w.alloc (.cells #[.int .i64 p] 3)).cell? ⟨w.heap.size, 0, none⟩ = some (.int .i64 p) := by simp [go_sem]
  have HL := hid (Later.alloc w (.cells #[.int .i64 p] 3))
  have HP := hid hp
  have hpp := prime13_in hp
  obtain ⟨x', y', z', ad', cap', e1, e2, c0, c1, c2⟩ := (H0.later HL.out).three rfl
  simp only [Value.slice.injEq, Option.some.injEq, true_and, List.cons.injEq, and_true] at e1 e2
  obtain ⟨rfl, rfl, rfl⟩ := e1
  obtain ⟨rfl, rfl⟩ := e2
  have ha := arrayAt3 ad cap
  have hsx : Sm x := by have := hx; simp [within] at this; exact ⟨by omega, by omega⟩
  have hsy : Sm y := by have := hy; simp [within] at this; exact ⟨by omega, by omega⟩
  have hsz : Sm z := by have := hz; simp [within] at this; exact ⟨by omega, by omega⟩
  have HMO := hid (show Try.prog.follows .mixedOrders = true by kernel_rfl)
  clear hp H0
  go_enter Try.func70, Try.ntmps70
  go_wp2_with fail
  generalize w.alloc (.cells #[.int .i64 p] 3) = w1 at hb0 HL c0 c1 c2 ⊢
  refine (isModulus_as p true _ HP.out h64').mono ?_
  rintro e w' ⟨rfl, rfl⟩
  go_wp2_with fail
  have k0 := Go.cell_grown (World.block_lt_of_cell? w1 ad c0) c0
  have k1 := Go.cell_grown (World.block_lt_of_cell? w1 _ c1) c1
  have k2 := Go.cell_grown (World.block_lt_of_cell? w1 _ c2) c2
  have k3 := Go.cell_grown (World.block_lt_of_cell? w1 _ hb0) hb0
  have HK3 := hid k3
  have hmo := HMO.out
  clear c0 c1 c2 hb0
  go_quiet_grown (first | (go_at_call 107; exact isRem_grown p _ _ w1 _ _ (HK3.out _ _)) | (go_at_call 108; exact solvesModulo_grown x y z p w1 _ _ hsx hsy hsz hpp))
  have HL3 := hid (HL.out.trans (Later.grow w1 nq osq))
  go_wp2_with fail
  go_ret
  exact ⟨rfl, HL3.out⟩
end Go.Proofs.Ytjnhhjnfdaaaeab
