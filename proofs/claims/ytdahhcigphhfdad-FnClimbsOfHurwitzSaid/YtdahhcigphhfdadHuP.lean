/- Equations of Hurwitz: OtherRootAt, IsFundamental (the model). -/
import Derived.Test.YtdahhcigphhfdadHuO
namespace Go.Proofs.Ytdahhcigphhfdad
open Go.RowKit

theorem huOther_sol (zs : List Int) (a b : Int) (i : Nat) (ad : Addr) (c : Nat) (w : World) (hi' : i < zs.length) (hnc : zs.length ≤ c) (hS : Sol zs a b) (h : Ints w (.slice (some ad) zs.length c) zs) :
    Calls Try.prog 38 #[.slice (some ad) zs.length c, .int .i64 a, .int .i64 i] w fun e w' => e = .returned (.int .i64 (othL a zs i)) ∧ Later w w' := by
  refine (huOther_any zs a i ad zs.length c w hi' rfl (by have := hS.hl; omega) hnc hS.in5 hS.ha h).mono ?_
  rintro e w' ⟨rfl, hL⟩
  exact ⟨ret_int (by rw [hS.cap_rest i hi']; rfl), hL⟩
theorem Sol.oth_bd {zs : List Int} {a b : Int} (h : Sol zs a b) (i : Nat) (hi : i < zs.length) : -100000 ≤ othL a zs i ∧ othL a zs i ≤ 40000000050 := by
  have h1 := h.rest_bd i hi
  have h2 := h.in5 (zs.getD i 0) (by simp [hi])
  unfold othL
  omega

set_option maxRecDepth 20000 in
set_option maxHeartbeats 2000000 in
theorem huLast_any (v : Value) (zs : List Int) (a b : Int) (w : World) (hS : Sol zs a b) (h : IntsC w v zs) :
    Calls Try.prog 69 #[v, .int .i64 a] w fun e w' => e = .returned (.bool (lastB a zs)) ∧ Later w w' := by
  have h0 : 0 < zs.length := by have := hS.hl; omega
  obtain ⟨ad, c, rfl, hnc⟩ := h.addr h0
  obtain ⟨_, _, e1, _, hc⟩ := id h.1
  simp only [Value.slice.injEq, true_and] at e1
  obtain ⟨rfl, rfl⟩ := e1
  obtain ⟨ad', e2, c0⟩ := hc 0 h0
  simp only [Option.some.injEq] at e2
  subst e2
  rw [show ad.add 0 = ad by simp [Addr.add]] at c0
  have hxb := hS.in5 (zs.getD 0 0) (by simp [h0])
  have HS := hid hS
  have HI := hid h.1
  have HN0 := hid h0
  have HNC := hid hnc
  obtain ⟨x, hx⟩ : ∃ x, zs.getD 0 0 = x := ⟨_, rfl⟩
  rw [hx] at c0 hxb
  have HX := hid hx
  have hi0 : (0 : Int) < (zs.length : Int) := by omega
  have hwx : IntKind.i64.wrap (x - 1) = x - 1 := by rw [IntWalk.i64_left]; exact IntWalk.wrap64_in _ (by omega)
  clear hc hx hS h hnc
  go_enter Try.func69, Try.ntmps69
  go_wp2_with fail
  go_region_held3 (fun w' => w'.cell? ad = some (.int .i64 x)) (first | exact c0 | exact d0) (first | (go_at_call 38; refine (huOther_sol zs a b 0 ad c _ HN0.out HNC.out HS.out (HI.out.later (Later.drew w))).mono ?_; rintro e w2 ⟨rfl, hL⟩; have d0 := hL.cell (w := w.drew) c0; have HL := hid ((Later.drew w).trans hL); clear hL) | (go_at_call 34; refine (l1In_any _ _ _ _).mono ?_; rintro e w3 ⟨rfl, rfl⟩))
  go_wp2_with fail
  go_ret
  exact ⟨ret_bool (by unfold lastB; rw [HX.out]), HL.out⟩

def othAns (zs : List Int) (a b i : Int) : Option Int := if (givenB a b && solB zs a b) = true ∧ within 0 ((zs.length : Int) - 1) i = true then some (othL a zs i.toNat) else none
theorem within_idx {n : Nat} {i : Int} : within 0 ((n : Int) - 1) i = true ↔ 0 ≤ i ∧ i < (n : Int) := by simp only [within, Bool.and_eq_true, decide_eq_true_eq]; omega
set_option maxRecDepth 20000 in
set_option maxHeartbeats 2000000 in
theorem specOtherRootAt_any (v : Value) (zs : List Int) (a b i : Int) (w : World) (h : IntsC w v zs) :
    Calls Try.prog 11 #[v, .int .i64 a, .int .i64 b, .int .i64 i] w fun e w' => NumAns w (othAns zs a b i) e w' := by
  obtain ⟨p, cap, rfl, hl, _⟩ := id h.1
  have H := hid h
  clear h
  cases hg : givenB a b
  · have HG := hid hg
    have HA := hid (show othAns zs a b i = none by unfold othAns; rw [hg]; simp)
    clear hg
    go_enter Try.func11, Try.ntmps11
    go_wp2_with fail
    refine (huGiven_as a b _ _ HG.out).mono ?_
    rintro e w' ⟨rfl, rfl⟩
    go_wp2_with fail
    go_ret2
    exact ⟨by rw [HA.out]; rfl, Later.refl _⟩
  · have HG := hid hg
    cases hs : solB zs a b
    · have HS := hid hs
      have HA := hid (show othAns zs a b i = none by unfold othAns; rw [hg, hs]; simp)
      clear hg hs
      go_enter Try.func11, Try.ntmps11
      go_wp2_with fail
      refine (huGiven_as a b _ _ HG.out).mono ?_
      rintro e w' ⟨rfl, rfl⟩
      go_wp2_with fail
      refine (huGood_as _ zs a b _ _ HG.out HS.out H.out.1).mono ?_
      rintro e w' ⟨rfl, hL⟩
      have HL := hid hL
      clear hL
      go_wp2_with fail
      go_ret2
      exact ⟨by rw [HA.out]; rfl, HL.out⟩
    · have hSol := Sol.of hg hs
      have HSol := hid hSol
      have HS := hid hs
      have hnb : 1 ≤ (zs.length : Int) ∧ (zs.length : Int) ≤ 4 := by have := hSol.hl; omega
      obtain ⟨hn1, hn2⟩ := hnb
      cases hin : within 0 ((zs.length : Int) - 1) i
      · have HIN := hid hin
        have HA := hid (show othAns zs a b i = none by unfold othAns; rw [hin]; simp)
        clear hg hs hSol hin
        go_enter Try.func11, Try.ntmps11
        go_wp2_with fail
        refine (huGiven_as a b _ _ HG.out).mono ?_
        rintro e w' ⟨rfl, rfl⟩
        go_wp2_with fail
        refine (huGood_as _ zs a b _ _ HG.out HS.out H.out.1).mono ?_
        rintro e w' ⟨rfl, hL⟩
        have HL := hid hL
        clear hL
        go_wp2_with fail
        refine (l1In_as _ _ _ _ _ HIN.out).mono ?_
        rintro e w' ⟨rfl, rfl⟩
        go_wp2_with fail
        go_ret2
        exact ⟨by rw [HA.out]; rfl, HL.out⟩
      · have HIN := hid hin
        have HA := hid (show othAns zs a b i = some (othL a zs i.toNat) by unfold othAns; rw [if_pos ⟨by rw [hg, hs]; rfl, hin⟩])
        have hib := within_idx.1 hin
        obtain ⟨j, rfl⟩ : ∃ j : Nat, i = (j : Int) := ⟨i.toNat, by omega⟩
        have HJ := hid (show j < zs.length by omega)
        obtain ⟨ad, c, e1, hnc⟩ := H.out.addr (by omega)
        simp only [Value.slice.injEq, true_and] at e1
        obtain ⟨rfl, rfl⟩ := e1
        have HNC := hid hnc
        have ⟨ob1, ob2⟩ := hSol.oth_bd j HJ.out
        clear hg hs hSol hin hib hnc
        go_enter Try.func11, Try.ntmps11
        go_wp2_with fail
        refine (huGiven_as a b _ _ HG.out).mono ?_
        rintro e w' ⟨rfl, rfl⟩
        go_wp2_with fail
        refine (huGood_as _ zs a b _ _ HG.out HS.out H.out.1).mono ?_
        rintro e w' ⟨rfl, hL⟩
        have HL := hid hL
        clear hL
        go_wp2_with fail
        refine (l1In_as _ _ _ _ _ HIN.out).mono ?_
        rintro e w' ⟨rfl, rfl⟩
        go_wp2_with fail
        refine (huOther_sol zs a b j ad _ _ HJ.out HNC.out HSol.out (H.out.1.later HL.out)).mono ?_
        rintro e w2 ⟨rfl, hL⟩
        have HL2 := hid (HL.out.trans hL)
        clear hL
        go_wp2_with fail
        go_ret2
        exact ⟨by rw [HA.out]; rfl, HL2.out⟩

def fundAns (zs : List Int) (a b : Int) : Option Bool := if (givenB a b && solB zs a b) = true then some (lastB a zs) else none
end Go.Proofs.Ytdahhcigphhfdad
