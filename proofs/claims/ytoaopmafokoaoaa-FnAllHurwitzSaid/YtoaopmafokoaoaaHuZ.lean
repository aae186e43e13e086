/- Equations of Hurwitz: four numbers sorted downwards by the library. -/
import Derived.Test.YtoaopmafokoaoaaHuQ
import Derived.Test.YtoaopmafokoaoaaLaySortF
import Derived.Sort.OwnSortedInts
namespace Go.Proofs.Ytoaopmafokoaoaa
open Go.RowKit

theorem cmpD_any (m n : Int) (w : World) (hm : 0 ≤ m ∧ m ≤ 100000) (hn : 0 ≤ n ∧ n ≤ 100000) :
    Calls Try.prog 143 #[.int .i64 m, .int .i64 n] w fun e w' => e = .returned (.int .i64 (n - m)) ∧ w = w' := by
  obtain ⟨m1, m2⟩ := hm
  obtain ⟨n1, n2⟩ := hn
  go_enter Try.func143, Try.ntmps143
  go_wp2_with fail
  go_ret
  exact ⟨rfl, rfl⟩

abbrev N5 : Type := Fin 100001
def encN (f : N5) : Value := .int .i64 (f.val : Int)
def cfN (f g : N5) : Int := (g.val : Int) - (f.val : Int)
def toN (x : Int) (h : 0 ≤ x ∧ x ≤ 100000) : N5 := ⟨x.toNat, by omega⟩
theorem toN_val (x : Int) (h : 0 ≤ x ∧ x ≤ 100000) : (((toN x h).val : Nat) : Int) = x := by show ((x.toNat : Nat) : Int) = x; omega
theorem encN_toN (x : Int) (h : 0 ≤ x ∧ x ≤ 100000) : encN (toN x h) = .int .i64 x := by unfold encN; rw [toN_val]
theorem n5_bd (f : N5) : 0 ≤ (f.val : Int) ∧ (f.val : Int) ≤ 100000 := by have := f.isLt; omega
theorem swoN : Go.Sort.SWO (ltOf cfN) := by
  refine ⟨fun x => ?_, fun x y z h1 h2 => ?_, fun x y z h1 h2 => ?_⟩
  · exact decide_eq_false (show ¬ ((x.val : Int) - (x.val : Int) < 0) by omega)
  · have g1 : (y.val : Int) - (x.val : Int) < 0 := of_decide_eq_true h1
    have g2 : (z.val : Int) - (y.val : Int) < 0 := of_decide_eq_true h2
    exact decide_eq_true (show (z.val : Int) - (x.val : Int) < 0 by omega)
  · have g1 : ¬ ((y.val : Int) - (x.val : Int) < 0) := of_decide_eq_false h1
    have g2 : ¬ ((z.val : Int) - (y.val : Int) < 0) := of_decide_eq_false h2
    exact decide_eq_false (show ¬ ((z.val : Int) - (x.val : Int) < 0) by omega)
structure Frz4 (w : World) (B : Nat) : Prop where
  f0 : w.frozen? ⟨B, 0, none⟩ = false
  f1 : w.frozen? ⟨B, 1, none⟩ = false
  f2 : w.frozen? ⟨B, 2, none⟩ = false
  f3 : w.frozen? ⟨B, 3, none⟩ = false
def Sorted4 (w : World) (B : Nat) (x y z t : Int) (e : Ending) (w' : World) : Prop :=
  e = .returned (.tuple #[]) ∧ w.grownBy w' (some B) ∧ ∃ p q r s, sortD [x, y, z, t] = [p, q, r, s] ∧ Arr4 w' B p q r s ∧ Frz4 w' B
theorem grownBy_sorted4 {w : World} {g n : Nat} {os : Array Obj} (d : Array N5) : w.grownBy (Go.Sort.grow (Go.Sort.putRow encN (Sort.ahead w n) g 0 d) os) (some g) := by
  refine ⟨rfl, rfl, rfl, by simp, fun k hk hne => ?_⟩
  rw [Go.Sort.heap_grow_old _ _ (by simpa using hk)]
  have : g ≠ k := fun e => hne (by rw [e])
  simp [Go.Sort.putRow, Go.Sort.mapBlock, Sort.ahead, Array.getElem?_modify, this]
theorem four_array (d : Array N5) (h : d.size = 4) : ∃ a b c e, d = #[a, b, c, e] := by
  obtain ⟨l⟩ := d
  match l, h with
  | [a, b, c, e], _ => exact ⟨a, b, c, e, rfl⟩

open Go.Sort in
set_option maxRecDepth 20000 in
theorem sort4_any (B : Nat) (x y z t : Int) (w : World) (hc : Arr4 w B x y z t) (hf : Frz4 w B) (hx : 0 ≤ x ∧ x ≤ 100000) (hy : 0 ≤ y ∧ y ≤ 100000) (hz : 0 ≤ z ∧ z ≤ 100000) (ht : 0 ≤ t ∧ t ≤ 100000) :
    Calls Try.prog 142 #[.slice (some ⟨B, 0, none⟩) 4 4, .func (.func 143) #[] #[]] w fun e w' => Sorted4 w B x y z t e w' := by
  have hb : B < w.heap.size := World.block_lt_of_cell? w ⟨B, 0, none⟩ hc.c0
  have hH : Holds encN w B 0 #[toN x hx, toN y hy, toN z hz, toN t ht] := by
    intro j hj
    match j, hj with
    | 0, _ => exact ⟨by simpa [encN_toN] using hc.c0, by simpa using hf.f0⟩
    | 1, _ => exact ⟨by simpa [encN_toN] using hc.c1, by simpa using hf.f1⟩
    | 2, _ => exact ⟨by simpa [encN_toN] using hc.c2, by simpa using hf.f2⟩
    | 3, _ => exact ⟨by simpa [encN_toN] using hc.c3, by simpa using hf.f3⟩
  have hcmp : CmpReads Try.prog 143 #[] encN cfN B 0 4 w := by
    intro m os dk hs a b
    refine (cmpD_any _ _ _ (n5_bd a) (n5_bd b)).mono ?_
    rintro e w' ⟨rfl, rfl⟩
    exact ⟨rfl, 0, rfl⟩
  refine (Any.slices_SortFunc laysSlLaysF6 encN (fun _ => rfl) cfN swoN 143 #[] B 0 4 #[toN x hx, toN y hy, toN z hz, toN t ht] w Try.call143 hcmp.lays hH hb (by simp)).mono ?_
  rintro e w' ⟨rfl, d', n, os, hp, hs, rfl⟩
  obtain ⟨hsz, _, hpm⟩ := hp
  obtain ⟨e0, e1, e2, e3, rfl⟩ := four_array d' hsz
  have hput := fun j hj => cell?_putRow encN (Sort.ahead w n) B 0 #[toN x hx, toN y hy, toN z hz, toN t ht] #[e0, e1, e2, e3] (fun j hj => ⟨(hH j hj).1, (hH j hj).2⟩) rfl j hj
  have hg : ∀ a : Addr, a.block = B → (grow (putRow encN (Sort.ahead w n) B 0 #[e0, e1, e2, e3]) os).cell? a = (putRow encN (Sort.ahead w n) B 0 #[e0, e1, e2, e3]).cell? a := fun a ha => cell?_grow _ _ _ (by rw [ha]; simpa using hb)
  have hgf : ∀ a : Addr, a.block = B → (grow (putRow encN (Sort.ahead w n) B 0 #[e0, e1, e2, e3]) os).frozen? a = w.frozen? a := fun a ha => (frozen?_grow _ _ _ (by rw [ha]; simpa using hb)).trans (by simp)
  refine ⟨rfl, grownBy_sorted4 _, (e0.val : Int), (e1.val : Int), (e2.val : Int), (e3.val : Int), ?_, ?_, ?_⟩
  · refine sortD_of ?_ ?_
    · have s01 := hs 0 1 (by omega) (by omega) (by simp)
      have s12 := hs 1 2 (by omega) (by omega) (by simp)
      have s23 := hs 2 3 (by omega) (by omega) (by simp)
      simp [ltOf, cfN] at s01 s12 s23
      simp [Dn]
      omega
    · have h2 := hpm.map (fun f : N5 => (f.val : Int))
      simpa [toN_val] using h2
  · refine ⟨?_, ?_, ?_, ?_⟩
    · rw [show sortWorld encN w B 0 n #[e0, e1, e2, e3] os = grow (putRow encN (Sort.ahead w n) B 0 #[e0, e1, e2, e3]) os from rfl, hg _ rfl]; simpa [encN] using hput 0 (by simp)
    · rw [show sortWorld encN w B 0 n #[e0, e1, e2, e3] os = grow (putRow encN (Sort.ahead w n) B 0 #[e0, e1, e2, e3]) os from rfl, hg _ rfl]; simpa [encN] using hput 1 (by simp)
    · rw [show sortWorld encN w B 0 n #[e0, e1, e2, e3] os = grow (putRow encN (Sort.ahead w n) B 0 #[e0, e1, e2, e3]) os from rfl, hg _ rfl]; simpa [encN] using hput 2 (by simp)
    · rw [show sortWorld encN w B 0 n #[e0, e1, e2, e3] os = grow (putRow encN (Sort.ahead w n) B 0 #[e0, e1, e2, e3]) os from rfl, hg _ rfl]; simpa [encN] using hput 3 (by simp)
  · exact ⟨(hgf _ rfl).trans hf.f0, (hgf _ rfl).trans hf.f1, (hgf _ rfl).trans hf.f2, (hgf _ rfl).trans hf.f3⟩
end Go.Proofs.Ytoaopmafokoaoaa
