/- IsConfig (the model, the program). -/
import Derived.Test.YtljikcajfmnnmabCiH
namespace Go.Proofs.Ytljikcajfmnnmab
open Go.RowKit

theorem off_two (Z : List (List Int)) (h : ∀ i, i < Z.length → (Z.getD i []).length ≤ 2) : off Z Z.length ≤ 2 * Z.length := by
  have := off_bound Z 2 Z.length h (Nat.le_refl _)
  omega
theorem rowP_two (L : List Ci4) (i m : Nat) : ∀ z ∈ rowP L i m, z.length ≤ 2 := by
  induction m with
  | zero => simp [rowP]
  | succ m ih =>
    unfold rowP
    intro z hz
    rw [List.mem_append] at hz
    rcases hz with hz | hz
    · exact ih z hz
    · split at hz
      · simp at hz; subst hz; simp
      · simp at hz
theorem allP_two (L : List Ci4) (k : Nat) : ∀ z ∈ allP L k, z.length ≤ 2 := by
  induction k with
  | zero => simp [allP]
  | succ k ih =>
    unfold allP
    intro z hz
    rw [List.mem_append] at hz
    rcases hz with hz | hz
    · exact ih z hz
    · exact rowP_two L k _ z hz
theorem pairsAns_off (L : List Ci4) : off ((pairsAns L).getD []) ((pairsAns L).getD []).length ≤ 1000000000000 := by
  unfold pairsAns
  split
  · rename_i h
    have h1 := off_two (allP L L.length) (fun i hi => allP_two L L.length _ (by rw [getD_row _ i hi]; exact List.getElem_mem hi))
    have h2 := allP_len L L.length
    have h3 : L.length * L.length ≤ 40 * 40 := Nat.mul_le_mul h.1 h.1
    simp only [Option.getD_some]
    omega
  · simp [off]
theorem twP_comm (L : List Ci4) (i j : Nat) : twP L i j = twP L j i := by unfold twP; rw [ciTw_comm]
theorem conf_six {L : List Ci4} (h : fourB L = true) : (((allP L L.length).length : Int) == 6) = confB L := by
  have h4 := fourB_len h
  have e : confB L = ((List.range 4).all fun i => (List.range i).all fun j => twP L i j) := by unfold confB; rw [h, h4, Bool.true_and]
  rw [e, h4]
  have k1 := twP_comm L 0 1
  have k2 := twP_comm L 0 2
  have k3 := twP_comm L 0 3
  have k4 := twP_comm L 1 2
  have k5 := twP_comm L 1 3
  have k6 := twP_comm L 2 3
  simp only [allP, rowP, h4, List.length_append, List.length_nil]
  rw [k1, k2, k3, k4, k5, k6]
  simp only [show (List.range 4) = [0, 1, 2, 3] by decide, show (List.range 3) = [0, 1, 2] by decide, show (List.range 2) = [0, 1] by decide, show (List.range 1) = [0] by decide, show (List.range 0) = [] by decide, List.all_cons, List.all_nil, Bool.and_true]
  cases twP L 1 0 <;> cases twP L 2 0 <;> cases twP L 3 0 <;> cases twP L 2 1 <;> cases twP L 3 1 <;> cases twP L 3 2 <;> simp
def confAns (L : List Ci4) : Option Bool := if fourB L = true then some (confB L) else none

theorem ciConfig_as (v : Value) (L : List Ci4) (o : Bool) (w : World) (h : Cis w v L) (ho : confB L = o) :
    Calls Try.prog 43 #[v] w fun e w' => BoolRes w o e w' := by
  subst ho; exact ciConfig_any v L w h
set_option maxRecDepth 20000 in
theorem isConfigS_any (v : Value) (L : List Ci4) (w : World) (h : Cis w v L) :
    Calls Try.prog 22 #[v] w fun e w' => BoolAns w (confAns L) e w' := by
  obtain ⟨a, cap, rfl, _⟩ := id h
  have H := hid h
  clear h
  cases h4 : fourB L
  · have HF := hid h4
    have HA := hid (show confAns L = none by unfold confAns; rw [h4]; simp)
    clear h4
    go_enter Try.func22, Try.ntmps22
    go_wp2_with fail
    refine (ciFour_as _ L false _ H.out HF.out).mono ?_
    rintro e w2 ⟨rfl, hL⟩
    have HL := hid hL
    clear hL
    go_wp2_with fail
    go_ret2
    exact ⟨by rw [HA.out]; rfl, HL.out⟩
  · have HF := hid h4
    have HA := hid (show confAns L = some (confB L) by unfold confAns; rw [h4]; simp)
    clear h4
    go_enter Try.func22, Try.ntmps22
    go_wp2_with fail
    refine (ciFour_as _ L true _ H.out HF.out).mono ?_
    rintro e w2 ⟨rfl, hL⟩
    have HL := hid hL
    have H2 := hid (H.out.later hL)
    clear hL
    go_wp2_with fail
    refine (ciConfig_any _ L _ H2.out).mono ?_
    rintro e w3 ⟨rfl, hL⟩
    have HL3 := hid (HL.out.trans hL)
    clear hL
    go_wp2_with fail
    go_ret2
    exact ⟨by rw [HA.out]; rfl, HL3.out⟩
set_option maxRecDepth 20000 in
theorem isConfigP_any (v : Value) (L : List Ci4) (w : World) (h : Cis w v L) :
    Calls Try.prog 23 #[v] w fun e w' => BoolAns w (confAns L) e w' := by
  obtain ⟨a, cap, rfl, _⟩ := id h
  have H := hid h
  clear h
  have HP := hid (fun w0 (h0 : Cis w0 (.slice a L.length cap) L) => pairsP_any _ L w0 h0)
  unfold RowsAns at HP
  cases hp : (pairsAns L).isSome
  · have HA := hid (show confAns L = none by
      unfold confAns
      rw [if_neg]
      intro hf
      unfold pairsAns at hp
      rw [if_pos] at hp
      · cases hp
      · have h4 := fourB_len hf
        refine ⟨by omega, ?_⟩
        unfold fourB at hf
        rw [Bool.and_eq_true] at hf
        exact hf.2)
    rw [hp] at HP
    clear hp
    go_enter Try.func23, Try.ntmps23
    go_wp2_with fail
    refine (HP.out _ H.out).mono ?_
    rintro e w2 ⟨v2, rfl, hO, hL⟩
    obtain ⟨o1, o2, rfl, _⟩ := hO.shape
    have HL := hid hL
    clear hL hO
    go_wp2_with fail
    go_ret2
    exact ⟨by rw [HA.out]; rfl, HL.out⟩
  · rw [hp] at HP
    have hok : L.length ≤ 40 ∧ L.all ciB = true := by
      unfold pairsAns at hp
      split at hp
      · assumption
      · cases hp
    have HR := hid (show (pairsAns L).getD [] = allP L L.length by unfold pairsAns; rw [if_pos hok]; rfl)
    rw [HR.out] at HP
    by_cases h4 : L.length = 4
    · have hf : fourB L = true := by unfold fourB; rw [decide_eq_true h4, hok.2]; rfl
      have HA := hid (show confAns L = some (((allP L L.length).length : Int) == 6) by unfold confAns; rw [if_pos hf, conf_six hf])
      have hne : ((L.length : Int) != 4) = false := by simp [h4]
      obtain ⟨Z, hZ⟩ : ∃ Z, allP L L.length = Z := ⟨_, rfl⟩
      rw [hZ] at HP HA
      clear hp hok h4 hf hZ HR
      go_enter Try.func23, Try.ntmps23
      go_wp2_with fail
      refine (HP.out _ H.out).mono ?_
      rintro e w2 ⟨v2, rfl, hO, hL⟩
      obtain ⟨o1, o2, rfl, _⟩ := hO.shape
      have HL := hid hL
      clear hL hO
      go_wp2_with fail
      go_ret2
      exact ⟨by rw [HA.out]; rfl, HL.out⟩
    · have HA := hid (show confAns L = none by unfold confAns fourB; rw [decide_eq_false h4]; simp)
      have hne : ((L.length : Int) != 4) = true := by simp; omega
      clear hp hok h4
      go_enter Try.func23, Try.ntmps23
      go_wp2_with fail
      refine (HP.out _ H.out).mono ?_
      rintro e w2 ⟨v2, rfl, hO, hL⟩
      obtain ⟨o1, o2, rfl, _⟩ := hO.shape
      have HL := hid hL
      clear hL hO
      go_wp2_with fail
      go_ret2
      exact ⟨by rw [HA.out]; rfl, HL.out⟩
end Go.Proofs.Ytljikcajfmnnmab
