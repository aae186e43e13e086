/- Four curvatures: RootQuad (the model). -/
import Derived.Test.YtoaopmafokoaoabQdQ
namespace Go.Proofs.Ytoaopmafokoaoab
open Go.RowKit

theorem sortQ_up (zs : List Int) : UpQ (sortQ zs) := by
  have h := List.pairwise_mergeSort (le := fun a b : Int => decide (a ≤ b)) (fun a b c h1 h2 => by simp at *; omega) (fun a b => by simp; omega) zs
  unfold UpQ sortQ
  exact h.imp fun hab => by simpa using hab
theorem sortU_eq (zs : List Int) : sortU zs = sortQ zs := sortU_of (sortQ_up zs) (List.mergeSort_perm zs _)
theorem wayQ_last_good {zs : List Int} (hg : apB zs = true) : apB ((wayQ zs).getD ((wayQ zs).length - 1) []) = true := by
  refine wayQ_good hg _ ?_
  have h : (wayQ zs).length - 1 < (wayQ zs).length := by simp [wayQ]
  rw [List.getD_eq_getElem?_getD, List.getElem?_eq_getElem h]
  exact List.getElem_mem h
set_option maxRecDepth 20000 in
set_option maxHeartbeats 4000000 in
theorem specRootQuad_any (v : Value) (zs : List Int) (w : World) (h : Ints w v zs) :
    Calls Try.prog 13 #[v] w fun e w' => IntsAns w (rootQAns zs) e w' := by
  obtain ⟨p, cap, rfl, hl, _⟩ := id h
  have H := hid h
  clear h
  by_cases hq : apB zs = true ∧ (wayQ zs).length ≤ 200
  · have HA := hid (show rootQAns zs = some (rootL zs) by unfold rootQAns; rw [if_pos hq])
    have HP := hid (show qwayAns zs = some (wayQ zs) by unfold qwayAns; rw [if_pos hq])
    have HG := hid hq.1
    obtain ⟨n, hn⟩ : ∃ n, (wayQ zs).length = n + 1 := ⟨(wayQ zs).length - 1, by simp [wayQ]⟩
    have hnb : n ≤ 199 := by omega
    have HN := hid hn
    have hlg := wayQ_last_good hq.1
    rw [hn, Nat.add_sub_cancel] at hlg
    have HLG := hid hlg
    have HE := hid (show rootL zs = sortU ((wayQ zs).getD n []) by unfold rootL; rw [sortU_eq, hn, Nat.add_sub_cancel])
    clear hq hn hlg
    go_enter Try.func13, Try.ntmps13
    go_wp2_with fail
    refine (specDownPath_any _ zs _ H.out).mono ?_
    rintro e w1 ⟨v1, rfl, ho, hL⟩
    rw [HP.out] at ho ⊢
    simp only [Option.getD_some] at ho
    obtain ⟨a1, c1, hv, _, hcs⟩ := id ho.rows
    subst hv
    obtain ⟨ad, u, ea, hcell, hu⟩ := hcs n (by rw [HN.out]; omega)
    subst ea
    obtain ⟨q, hq⟩ : ∃ q, (wayQ zs).getD n [] = q := ⟨_, rfl⟩
    rw [hq] at hu HLG HE
    have hs1 : ((n : Int) + 1) - 1 = (n : Int) := by omega
    have HU := hid hu
    have HL := hid hL
    have HQ4 := hid (apB_hlen HLG.out)
    rw [HN.out]
    clear ho hL hcs hu hq
    go_wp2_with fail
    refine (apSorted_any u q _ (by rw [HQ4.out]; omega) HU.out).mono ?_
    rintro e w2 ⟨v2, rfl, ho2, hL2⟩
    have HO2 := hid (ho2.wide HL.out.size (Nat.le_refl _))
    have HL2 := hid (HL.out.trans hL2)
    clear ho2 hL2
    go_wp2_with fail
    go_ret2
    rw [HA.out, HE.out]
    exact ⟨_, rfl, HO2.out, HL2.out⟩
  · have HA := hid (show rootQAns zs = none by unfold rootQAns; rw [if_neg hq])
    have HP := hid (show qwayAns zs = none by unfold qwayAns; rw [if_neg hq])
    clear hq
    go_enter Try.func13, Try.ntmps13
    go_wp2_with fail
    refine (specDownPath_any _ zs _ H.out).mono ?_
    rintro e w1 ⟨v1, rfl, ho, hL⟩
    rw [HP.out] at ho ⊢
    have HL := hid hL
    clear ho hL
    go_wp2_with fail
    go_ret2
    rw [HA.out]
    exact ⟨_, rfl, OwnInts.nothing0 _ _ _, HL.out⟩
end Go.Proofs.Ytoaopmafokoaoab
