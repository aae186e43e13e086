/- Contracts of IsMarkov. -/
import Derived.Test.YtjnhhjnfdaaaeabMkT
namespace Go.Proofs.Ytjnhhjnfdaaaeab
open Go.RowKit

def mkGoodW (zs : List Int) : Bool := decide (zs.length = 3) && areCnt zs && decide (zs.getD 0 0 ≤ zs.getD 1 0) && decide (zs.getD 1 0 ≤ zs.getD 2 0) && solves3 (zs.getD 0 0) (zs.getD 1 0) (zs.getD 2 0)
theorem mkGoodW3 (x y z : Int) : mkGoodW [x, y, z] = (areCnt [x, y, z] && decide (x ≤ y) && decide (y ≤ z) && solves3 x y z) := by simp [mkGoodW]
/-- A list that is a triple. -/
theorem mkGoodW_three {zs : List Int} (h : mkGoodW zs = true) : ∃ x y z, zs = [x, y, z] ∧ (1 ≤ x ∧ x ≤ 1000000000) ∧ (1 ≤ y ∧ y ≤ 1000000000) ∧ (1 ≤ z ∧ z ≤ 1000000000) ∧ x ≤ y ∧ y ≤ z ∧ x * x + y * y + z * z = 3 * x * y * z := by
  have h3 : zs.length = 3 := by simp only [mkGoodW, Bool.and_eq_true, decide_eq_true_eq] at h; exact h.1.1.1.1
  match zs, h3 with
  | [x, y, z], _ =>
    rw [mkGoodW3] at h
    simp only [Bool.and_eq_true, decide_eq_true_eq, solves3] at h
    have := areCnt3 h.1.1.1
    exact ⟨x, y, z, rfl, this.1, this.2.1, this.2.2, h.1.1.2, h.1.2, h.2⟩

def Quiet (w w' : World) : Prop := ∃ n, w' = w.drewN n
theorem Quiet.later {w w' : World} (h : Quiet w w') : Later w w' := by obtain ⟨n, rfl⟩ := h; exact Later.drewN _ _
theorem Quiet.refl (w : World) : Quiet w w := ⟨0, rfl⟩

set_option maxRecDepth 20000 in
set_option maxHeartbeats 2000000 in
theorem mkGood_any (v : Value) (zs : List Int) (w : World) (h : Ints w v zs) :
    Calls Try.prog 46 #[v] w fun e w' => e = .returned (.bool (mkGoodW zs)) ∧ Quiet w w' := by
  by_cases h3 : zs.length = 3
  · obtain ⟨x, y, z, ad, cap, rfl, rfl, c0, c1, c2⟩ := h.three h3
    have H := hid h
    clear h h3
    cases hcn : areCnt [x, y, z]
    · have HA := hid (show mkGoodW [x, y, z] = false by rw [mkGoodW3, hcn]; rfl)
      have HC := hid (show [x, y, z].all (within 1 1000000000) = false from hcn)
      clear hcn
      go_enter Try.func46, Try.ntmps46
      go_wp2_with fail
      go_quiet (first | (go_at_call 74; exact Calls.quiet_of_same ((l1All_as (.slice (some ad) 3 cap) [x, y, z] 1 1000000000 false _ HC.out (H.out.later (Later.drewN _ _))).mono fun _ _ ⟨a, b⟩ => ⟨a, b.symm⟩)))
      go_wp2_with fail
      go_ret
      exact ⟨ret_bool HA.out.symm, _, rfl⟩
    · have HC := hid (show [x, y, z].all (within 1 1000000000) = true from hcn)
      obtain ⟨hx, hy, hz⟩ := areCnt3 hcn
      by_cases hxy : x ≤ y
      · by_cases hyz : y ≤ z
        · have HA := hid (show mkGoodW [x, y, z] = solves3 x y z by rw [mkGoodW3, hcn, decide_eq_true hxy, decide_eq_true hyz]; rfl)
          have hd1 : decide (x ≤ y) = true := decide_eq_true hxy
          have hd2 : decide (y ≤ z) = true := decide_eq_true hyz
          clear hcn
          go_enter Try.func46, Try.ntmps46
          go_wp2_with fail
          go_quiet (first | (go_at_call 74; exact Calls.quiet_of_same ((l1All_as (.slice (some ad) 3 cap) [x, y, z] 1 1000000000 true _ HC.out (H.out.later (Later.drewN _ _))).mono fun _ _ ⟨a, b⟩ => ⟨a, b.symm⟩)) | (go_at_call 93; exact Calls.quiet_of_same ((mkSolves_any x y z _ hx hy hz).mono fun _ _ ⟨a, b⟩ => ⟨a, b.symm⟩)))
          go_wp2_with fail
          go_ret
          exact ⟨ret_bool HA.out.symm, _, rfl⟩
        · have HA := hid (show mkGoodW [x, y, z] = false by rw [mkGoodW3, decide_eq_false hyz]; simp)
          have hd1 : decide (x ≤ y) = true := decide_eq_true hxy
          have hd2 : decide (y ≤ z) = false := decide_eq_false hyz
          clear hcn
          go_enter Try.func46, Try.ntmps46
          go_wp2_with fail
          go_quiet (first | (go_at_call 74; exact Calls.quiet_of_same ((l1All_as (.slice (some ad) 3 cap) [x, y, z] 1 1000000000 true _ HC.out (H.out.later (Later.drewN _ _))).mono fun _ _ ⟨a, b⟩ => ⟨a, b.symm⟩)))
          go_wp2_with fail
          go_ret
          exact ⟨ret_bool HA.out.symm, _, rfl⟩
      · have HA := hid (show mkGoodW [x, y, z] = false by rw [mkGoodW3, decide_eq_false hxy]; simp)
        have hd1 : decide (x ≤ y) = false := decide_eq_false hxy
        clear hcn
        go_enter Try.func46, Try.ntmps46
        go_wp2_with fail
        go_quiet (first | (go_at_call 74; exact Calls.quiet_of_same ((l1All_as (.slice (some ad) 3 cap) [x, y, z] 1 1000000000 true _ HC.out (H.out.later (Later.drewN _ _))).mono fun _ _ ⟨a, b⟩ => ⟨a, b.symm⟩)))
        go_wp2_with fail
        go_ret
        exact ⟨ret_bool HA.out.symm, _, rfl⟩
  · have HA := hid (show mkGoodW zs = false by unfold mkGoodW; rw [decide_eq_false h3]; simp)
    obtain ⟨a, cap, rfl, hl, _⟩ := id h
    have hn : ((zs.length : Int) == 3) = false := by simp; omega
    clear h h3
    go_enter Try.func46, Try.ntmps46
    go_wp2_with fail
    go_quiet (fail)
    go_wp2_with fail
    go_ret
    exact ⟨ret_bool HA.out.symm, _, rfl⟩
theorem mkGood_as (v : Value) (zs : List Int) (b : Bool) (w : World) (hb : mkGoodW zs = b) (h : Ints w v zs) :
    Calls Try.prog 46 #[v] w fun e w' => e = .returned (.bool b) ∧ Quiet w w' := by
  subst hb; exact mkGood_any v zs w h
/-! ### slices.IsSorted at three numbers -/

theorem isNaN_any (x : Int) (w : World) : Calls Try.prog 157 #[.int .i64 x] w fun e w' => e = .returned (.bool false) ∧ w = w' := by
  go_enter Try.func157, Try.ntmps157
  go_wp2_with fail
  go_ret
  exact ⟨ret_bool (by simp), rfl⟩
theorem cmpLess_any0 (x y : Int) (w : World) : Calls Try.prog 133 #[.int .i64 x, .int .i64 y] w fun e w' => e = .returned (.bool (decide (x < y))) ∧ w = w' := by
  go_enter Try.func133, Try.ntmps133
  go_wp2_with (first | (go_at_call 157; refine (isNaN_any _ _).mono ?_; rintro e w' ⟨rfl, rfl⟩))
  go_ret
  exact ⟨rfl, rfl⟩
theorem cmpLess_as (x y : Int) (b : Bool) (w : World) (h : decide (x < y) = b) : Calls Try.prog 133 #[.int .i64 x, .int .i64 y] w fun e w' => e = .returned (.bool b) ∧ w = w' := by
  subst h; exact cmpLess_any0 x y w
set_option maxRecDepth 20000 in
set_option maxHeartbeats 2000000 in
theorem isSorted3_any (x y z : Int) (ad : Addr) (cap : Nat) (w : World) (h : Ints w (.slice (some ad) 3 cap) [x, y, z]) :
    Calls Try.prog 96 #[.slice (some ad) 3 cap] w fun e w' => e = .returned (.bool (decide (x ≤ y) && decide (y ≤ z))) ∧ Quiet w w' := by
  obtain ⟨x', y', z', ad', cap', e1, e2, c0, c1, c2⟩ := h.three rfl
  simp only [Value.slice.injEq, Option.some.injEq, true_and, List.cons.injEq, and_true] at e1 e2
  obtain ⟨rfl, rfl, rfl⟩ := e1
  obtain ⟨rfl, rfl⟩ := e2
  clear h
  go_enter Try.func96, Try.ntmps96
  go_wp2_with fail
  go_loopw [3] (fun i wr => Quiet w wr ∧ (i = .int .i64 2 ∨ (i = .int .i64 1 ∧ y ≤ z) ∨ (i = .int .i64 0 ∧ x ≤ y ∧ y ≤ z))) (fun i _ => (intOf i).toNat)
  case atStart => exact ⟨Quiet.refl w, .inl rfl⟩
  case round =>
    obtain ⟨hq, hc⟩ := hrel
    have c0r := hq.later.cell c0
    have c1r := hq.later.cell c1
    have c2r := hq.later.cell c2
    have HQ := hid hq
    clear hq
    rcases hc with rfl | ⟨rfl, hyz⟩ | ⟨rfl, hxy, hyz⟩
    · by_cases hyz : y ≤ z
      · have hd : decide (z < y) = false := decide_eq_false (by omega)
        go_wp2_with fail
        go_quiet (first | (go_at_call 133; exact Calls.quiet_of_same ((cmpLess_as _ _ _ _ hd).mono fun _ _ ⟨a, b⟩ => ⟨a, b.symm⟩)))
        go_wp2_with fail
        go_roundw
        case rel => exact ⟨by obtain ⟨n, hn⟩ := HQ.out; subst hn; exact ⟨_, by rw [World.drewN_drewN]⟩, .inr (.inl ⟨rfl, hyz⟩)⟩
        case measure => simp [intOf]
      · have hd : decide (z < y) = true := decide_eq_true (by omega)
        go_wp2_with fail
        go_quiet (first | (go_at_call 133; exact Calls.quiet_of_same ((cmpLess_as _ _ _ _ hd).mono fun _ _ ⟨a, b⟩ => ⟨a, b.symm⟩)))
        go_wp2_with fail
        go_ret
        exact ⟨ret_bool (by simp [hyz]), by obtain ⟨n, hn⟩ := HQ.out; subst hn; exact ⟨_, by rw [World.drewN_drewN]⟩⟩
    · by_cases hxy : x ≤ y
      · have hd : decide (y < x) = false := decide_eq_false (by omega)
        go_wp2_with fail
        go_quiet (first | (go_at_call 133; exact Calls.quiet_of_same ((cmpLess_as _ _ _ _ hd).mono fun _ _ ⟨a, b⟩ => ⟨a, b.symm⟩)))
        go_wp2_with fail
        go_roundw
        case rel => exact ⟨by obtain ⟨n, hn⟩ := HQ.out; subst hn; exact ⟨_, by rw [World.drewN_drewN]⟩, .inr (.inr ⟨rfl, hxy, hyz⟩)⟩
        case measure => simp [intOf]
      · have hd : decide (y < x) = true := decide_eq_true (by omega)
        go_wp2_with fail
        go_quiet (first | (go_at_call 133; exact Calls.quiet_of_same ((cmpLess_as _ _ _ _ hd).mono fun _ _ ⟨a, b⟩ => ⟨a, b.symm⟩)))
        go_wp2_with fail
        go_ret
        exact ⟨ret_bool (show false = (decide (x ≤ y) && decide (y ≤ z)) by rw [decide_eq_false (by omega)]; rfl), by obtain ⟨n, hn⟩ := HQ.out; subst hn; exact ⟨_, by rw [World.drewN_drewN]⟩⟩
    · go_wp2_with fail
      go_ret
      exact ⟨ret_bool (by simp [hxy, hyz]), HQ.out⟩
theorem isSorted3_as (x y z : Int) (b : Bool) (ad : Addr) (cap : Nat) (w : World) (hb : (decide (x ≤ y) && decide (y ≤ z)) = b) (h : Ints w (.slice (some ad) 3 cap) [x, y, z]) :
    Calls Try.prog 96 #[.slice (some ad) 3 cap] w fun e w' => e = .returned (.bool b) ∧ Quiet w w' := by
  subst hb; exact isSorted3_any x y z ad cap w h

set_option maxHeartbeats 1000000 in
theorem implIsMarkov_any (v : Value) (zs : List Int) (w : World) (h : Ints w v zs) :
    Calls Try.prog 48 #[v] w fun e w' => BoolRes w (mkGoodW zs) e w' := by
  have H := hid h
  obtain ⟨a, cap, rfl, hl, _⟩ := id h
  clear h
  cases hs : (solvesAns zs).getD false
  · have HS := hid hs
    have HA := hid (show mkGoodW zs = false by
      cases hg : mkGoodW zs
      · rfl
      · obtain ⟨x, y, z, rfl, hx, hy, hz, _, _, he⟩ := mkGoodW_three hg
        rw [solvesAns, if_pos ⟨rfl, by simp [areCnt, within, hx.1, hx.2, hy.1, hy.2, hz.1, hz.2]⟩] at hs
        simp only [Option.getD_some, solves3] at hs
        exact absurd he (of_decide_eq_false hs))
    clear hs
    go_enter Try.func48, Try.ntmps48
    go_wp2_with fail
    refine (implSolvesMarkov_any _ zs _ H.out).mono ?_
    rintro e w2 ⟨rfl, hL⟩
    rw [HS.out]
    have HL := hid hL
    clear hL
    go_wp2_with fail
    go_ret
    exact ⟨ret_bool HA.out.symm, HL.out⟩
  · have HS := hid hs
    have hx : ∃ x y z, zs = [x, y, z] ∧ areCnt zs = true ∧ solves3 x y z = true := by
      unfold solvesAns at hs
      split at hs
      · rename_i h
        match zs, h.1 with
        | [x, y, z], _ => exact ⟨x, y, z, rfl, h.2, by simpa using hs⟩
      · simp at hs
    obtain ⟨x, y, z, rfl, hc, hso⟩ := hx
    have HA := hid (show mkGoodW [x, y, z] = (decide (x ≤ y) && decide (y ≤ z)) by rw [mkGoodW3, hc, hso]; simp)
    obtain ⟨ad, rfl⟩ : ∃ ad, a = some ad := by
      obtain ⟨_, _, _, ad, _, _, e, _⟩ := H.out.three rfl
      simp only [Value.slice.injEq] at e
      exact ⟨ad, e.1⟩
    clear hs hc hso
    go_enter Try.func48, Try.ntmps48
    go_wp2_with fail
    refine (implSolvesMarkov_any _ [x, y, z] _ H.out).mono ?_
    rintro e w2 ⟨rfl, hL⟩
    rw [HS.out]
    have HL := hid hL
    clear hL
    go_wp2_with fail
    refine (isSorted3_as x y z _ ad cap _ rfl (H.out.later HL.out)).mono ?_
    rintro e w3 ⟨rfl, hL⟩
    have HL3 := hid (HL.out.trans hL.later)
    clear hL
    go_wp2_with fail
    go_ret
    exact ⟨ret_bool HA.out.symm, HL3.out⟩
end Go.Proofs.Ytjnhhjnfdaaaeab
