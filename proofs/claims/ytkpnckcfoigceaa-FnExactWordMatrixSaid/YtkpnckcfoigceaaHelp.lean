/- Contracts of the functions that every law calls: copies, comparisons, marks. -/
import Derived.Test.YtkpnckcfoigceaaBase
namespace Go.Proofs.Ytkpnckcfoigceaa
open Go.RowKit

theorem Try.infoInt : (Try.prog.info? 3).map (fun i => (i.zero, i.size, i.bytes)) = some (some (.int .i64 0), 1, 8) := by kernel_rfl
theorem Try.infoInts : (Try.prog.info? 23).map (fun i => (i.zero, i.size, i.bytes)) = some (some (.slice none 0 0), 1, 24) := by kernel_rfl

/-! ### szIntS, szIntSS, szMatrix: what is left of the bound, or -1 -/

def SzRes1 (n : Nat) (l : Int) (e : Ending) : Prop := ∃ r : Int, e = .returned (.int .i64 r) ∧ (r = -1 ∨ (0 ≤ r ∧ r ≤ l ∧ (n : Int) ≤ l))
def SzOk (zss : List (List Int)) (l r : Int) : Prop := r = -1 ∨ (0 ≤ r ∧ r ≤ l ∧ (zss.length : Int) ≤ l ∧ ∀ i, i < zss.length → ((zss.getD i []).length : Int) ≤ l)
def SzRes2 (zss : List (List Int)) (l : Int) (e : Ending) : Prop := ∃ r : Int, e = .returned (.int .i64 r) ∧ SzOk zss l r

theorem szIntS_any (v : Value) (zs : List Int) (l : Int) (w : World) (hl : 0 ≤ l ∧ l ≤ 1048576) (h : Ints w v zs) :
    Calls Try.prog 68 #[v, .int .i64 l] w fun e w' => SzRes1 zs.length l e ∧ w = w' := by
  obtain ⟨a, cap, rfl, hm, _⟩ := h
  obtain ⟨hl0, hl1⟩ := hl
  by_cases hx : (zs.length : Int) ≤ l
  · have h1 : ¬ l - (zs.length : Int) < 0 := by omega
    go_enter Try.func68, Try.ntmps68
    go_wp2
    go_ret
    exact ⟨⟨_, rfl, .inr ⟨by omega, by omega, hx⟩⟩, rfl⟩
  · have h1 : l - (zs.length : Int) < 0 := by omega
    go_enter Try.func68, Try.ntmps68
    go_wp2
    go_ret
    exact ⟨⟨_, rfl, .inl rfl⟩, rfl⟩

set_option maxHeartbeats 400000 in
theorem szIntSS_any (v : Value) (zss : List (List Int)) (l : Int) (w : World) (hl : 0 ≤ l ∧ l ≤ 1048576) (h : Rows2 w v zss) :
    Calls Try.prog 45 #[v, .int .i64 l] w fun e w' => SzRes2 zss l e ∧ w = w' := by
  obtain ⟨a, cap, rfl, hm, hc⟩ := h
  obtain ⟨hl0, hl1⟩ := hl
  have HC := hid hc; clear hc
  by_cases hx : (zss.length : Int) ≤ l
  · have h1 : ¬ l - (zss.length : Int) < 0 := by omega
    go_enter Try.func45, Try.ntmps45
    go_wp2
    go_loop [1, 5] (fun x i => ∃ (k : Nat) (r : Int), k ≤ zss.length ∧ i = .int .i64 k ∧ x = .int .i64 r ∧ 0 ≤ r ∧ r ≤ l ∧ ∀ j, j < k → ((zss.getD j []).length : Int) ≤ l) (fun _ i => zss.length - (intOf i).toNat)
    case atStart => exact ⟨0, _, Nat.zero_le _, rfl, rfl, by omega, by omega, fun j hj => absurd hj (Nat.not_lt_zero j)⟩
    case round =>
      obtain ⟨k, r, hk, rfl, rfl, hr0, hr1, hall⟩ := hrel
      have HA := hid hall; clear hall
      by_cases hlt : k < zss.length
      · obtain ⟨ad, u, rfl, hcell, hu⟩ := HC.out k hlt
        go_wp2_with (go_at_call 68; refine (szIntS_any u (zss.getD k []) r _ ⟨hr0, by omega⟩ hu).mono ?_; rintro e w' ⟨⟨r', rfl, hr'⟩, rfl⟩)
        · rename_i hneg
          go_ret
          exact ⟨⟨_, rfl, .inl rfl⟩, rfl⟩
        · rename_i hneg
          have hr2 : 0 ≤ r' ∧ r' ≤ r ∧ ((zss.getD k []).length : Int) ≤ r := by
            rcases hr' with h | h
            · omega
            · exact h
          go_round
          case rel => exact ⟨k + 1, r', hlt, by go_num, rfl, hr2.1, by omega, fun j hj => by
              by_cases e : j = k
              · subst e; omega
              · exact HA.out j (by omega)⟩
          case measure => simp [intOf]; omega
      · go_wp2
        go_ret
        exact ⟨⟨r, rfl, .inr ⟨hr0, by omega, hx, fun i hi => HA.out i (by omega)⟩⟩, rfl⟩
  · have h1 : l - (zss.length : Int) < 0 := by omega
    go_enter Try.func45, Try.ntmps45
    go_wp2
    go_ret
    exact ⟨⟨_, rfl, .inl rfl⟩, rfl⟩

theorem szMatrix_any (v : Value) (zss : List (List Int)) (l : Int) (w : World) (hl : 0 ≤ l ∧ l ≤ 1048576) (h : Rows2 w v zss) :
    Calls Try.prog 23 #[.agg #[v], .int .i64 l] w fun e w' => SzRes2 zss l e ∧ Later w w' := by
  have hr2 := h.later (Later.alloc w (.cells #[v] 46))
  obtain ⟨a, cap, rfl, _⟩ := id h
  go_enter Try.func23, Try.ntmps23
  go_wp2_with (go_at_call 45; refine (szIntSS_any _ zss l _ hl hr2).mono ?_; rintro e w' ⟨⟨r', rfl, hr'⟩, rfl⟩)
  · rename_i hneg
    go_ret
    exact ⟨⟨_, rfl, .inl rfl⟩, Later.alloc _ _⟩
  · rename_i hneg
    go_ret
    exact ⟨⟨_, rfl, hr'⟩, Later.alloc _ _⟩
end Go.Proofs.Ytkpnckcfoigceaa
