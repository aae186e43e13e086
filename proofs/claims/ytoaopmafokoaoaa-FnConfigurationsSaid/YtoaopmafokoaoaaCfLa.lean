/- Configurations: swaps lead to configurations and undo themselves; their curvatures are swapped as quads are (arithmetic). -/
import Derived.Test.YtoaopmafokoaoaaCfF
import Derived.Test.YtoaopmafokoaoaaCiDJ
import Derived.Test.YtoaopmafokoaoaaQdF
namespace Go.Proofs.Ytoaopmafokoaoaa
open Go.RowKit

theorem tw_self {c : Ci4} (h : ciB c = true) : ciTw c c = 2 := by
  obtain ⟨a, b, x, y⟩ := c
  rw [ciB_at (ciB_in h)] at h
  have h := eq_of_beq h
  unfold ciTw
  simp only
  grind
theorem tw_new (p : Ci4) (L : List Ci4) (i : Nat) : ciTw p (ciNew L i) = 2 * (ciTw p (L.getD 0 c00) + ciTw p (L.getD 1 c00) + ciTw p (L.getD 2 c00) + ciTw p (L.getD 3 c00)) - 3 * ciTw p (L.getD i c00) := by
  obtain ⟨a, b, x, y⟩ := p
  unfold ciTw ciNew
  simp only
  grind
theorem conf_pair {L : List Ci4} (h : confB L = true) {i j : Nat} (hi : i < 4) (hj : j < 4) (hij : i ≠ j) : ciTw (L.getD i c00) (L.getD j c00) = -2 := by
  have hl := fourB_len (confB_four h)
  rcases Nat.lt_or_gt_of_ne hij with h1 | h1
  · have := confB_tw h j i h1 (by omega)
    unfold twP at this
    rw [ciTw_comm]
    exact eq_of_beq this
  · have := confB_tw h i j h1 (by omega)
    unfold twP at this
    exact eq_of_beq this
theorem conf_row {L : List Ci4} (h : confB L = true) {j : Nat} (hj : j < 4) : ciTw (L.getD j c00) (L.getD 0 c00) + ciTw (L.getD j c00) (L.getD 1 c00) + ciTw (L.getD j c00) (L.getD 2 c00) + ciTw (L.getD j c00) (L.getD 3 c00) = -4 := by
  have hs := tw_self ((GoodL.of h).2 j hj)
  rcases lt4 hj with rfl | rfl | rfl | rfl
  · have h1 := conf_pair h (i := 0) (j := 1) (by omega) (by omega) (by omega)
    have h2 := conf_pair h (i := 0) (j := 2) (by omega) (by omega) (by omega)
    have h3 := conf_pair h (i := 0) (j := 3) (by omega) (by omega) (by omega)
    omega
  · have h1 := conf_pair h (i := 1) (j := 0) (by omega) (by omega) (by omega)
    have h2 := conf_pair h (i := 1) (j := 2) (by omega) (by omega) (by omega)
    have h3 := conf_pair h (i := 1) (j := 3) (by omega) (by omega) (by omega)
    omega
  · have h1 := conf_pair h (i := 2) (j := 0) (by omega) (by omega) (by omega)
    have h2 := conf_pair h (i := 2) (j := 1) (by omega) (by omega) (by omega)
    have h3 := conf_pair h (i := 2) (j := 3) (by omega) (by omega) (by omega)
    omega
  · have h1 := conf_pair h (i := 3) (j := 0) (by omega) (by omega) (by omega)
    have h2 := conf_pair h (i := 3) (j := 1) (by omega) (by omega) (by omega)
    have h3 := conf_pair h (i := 3) (j := 2) (by omega) (by omega) (by omega)
    omega
theorem conf_step {L : List Ci4} (h : confB L = true) {i : Nat} (hi : i < 4) (hc : ciB (ciNew L i) = true) : confB (ciSwL L i) = true := by
  have hg := (GoodL.of h).step hi hc
  have hl := (GoodL.of h).1
  refine confB_true ?_ fun a b hab ha => ?_
  · unfold fourB
    rw [Bool.and_eq_true, List.all_eq_true]
    refine ⟨decide_eq_true hg.1, fun c hc => ?_⟩
    obtain ⟨k, hk, rfl⟩ := List.getElem_of_mem hc
    have := hg.2 k (by have := hg.1; omega)
    rwa [show (ciSwL L i).getD k c00 = (ciSwL L i)[k] by simp [hk]] at this
  · rw [hg.1] at ha
    unfold twP
    refine beq_iff_eq.2 ?_
    by_cases h1 : a = i
    · subst h1
      rw [swL_same L a hl ha, swL_other L a b (by omega), ciTw_comm, tw_new, conf_row h (by omega), conf_pair h (by omega) ha (by omega)]
      decide
    · rw [swL_other L i a h1]
      by_cases h2 : b = i
      · subst h2
        rw [swL_same L b hl hi, tw_new, conf_row h ha, conf_pair h ha hi (by omega)]
        decide
      · rw [swL_other L i b h2]
        exact conf_pair h ha (by omega) (by omega)
theorem new_back {L : List Ci4} (hl : L.length = 4) {i : Nat} (hi : i < 4) : ciNew (ciSwL L i) i = L.getD i c00 := by
  obtain ⟨a, b, c, d, rfl⟩ := four_of L hl
  obtain ⟨a1, a2, a3, a4⟩ := a
  obtain ⟨b1, b2, b3, b4⟩ := b
  obtain ⟨c1, c2, c3, c4⟩ := c
  obtain ⟨d1, d2, d3, d4⟩ := d
  rcases lt4 hi with rfl | rfl | rfl | rfl <;> simp only [ciSwL, ciNew, List.getD_cons_zero, List.getD_cons_succ, List.set_cons_zero, List.set_cons_succ, Prod.mk.injEq] <;> omega
theorem swL_backC {L : List Ci4} (hl : L.length = 4) {i : Nat} (hi : i < 4) : ciSwL (ciSwL L i) i = L := by
  have h := new_back hl hi
  unfold ciSwL at h ⊢
  rw [h, List.set_set]
  apply List.ext_getElem (by simp)
  intro j h2 h3
  by_cases e : j = i
  · subst e; simp [h3]
  · rw [List.getElem_set_ne (by omega)]
theorem curv_swap {L : List Ci4} (hl : L.length = 4) {i : Nat} (hi : i < 4) : curvL (ciSwL L i) = swL (curvL L) i := by
  obtain ⟨a, b, c, d, rfl⟩ := four_of L hl
  obtain ⟨a1, a2, a3, a4⟩ := a
  obtain ⟨b1, b2, b3, b4⟩ := b
  obtain ⟨c1, c2, c3, c4⟩ := c
  obtain ⟨d1, d2, d3, d4⟩ := d
  obtain ⟨e0, e1, e2, e3⟩ := swN4 a2 b2 c2 d2
  rcases lt4 hi with rfl | rfl | rfl | rfl <;> simp only [curvL, swL, ciSwL, ciNew, List.map_cons, List.map_nil, List.getD_cons_zero, List.getD_cons_succ, List.set_cons_zero, List.set_cons_succ, e0, e1, e2, e3, List.cons.injEq, and_true, true_and] <;> omega
/-- what the law asks of a swap -/
theorem swapC_law (L : List Ci4) (i : Int) : swapAnsC L i = none ∨ ∃ O, swapAnsC L i = some O ∧ confB L = true ∧ confB O = true ∧ swapAnsC O i = some L ∧ ∀ q, swapAns (curvL L) i = some q → q = curvL O := by
  cases hc : confB L
  · exact .inl (swapAnsC_no1 hc)
  · cases hw : within 0 3 i
    · exact .inl (swapAnsC_no2 hw)
    · have hi := within03.1 hw
      obtain ⟨k, rfl⟩ : ∃ k : Nat, i = k := ⟨i.toNat, by omega⟩
      have hk : k < 4 := by omega
      have hl := (GoodL.of hc).1
      rw [swapAnsC_at hc hk]
      cases hb : ciB (ciNew L k)
      · left; simp
      · right
        have hco := conf_step hc hk hb
        refine ⟨ciSwL L k, by simp, rfl, hco, ?_, fun q hq => ?_⟩
        · rw [swapAnsC_at hco hk, new_back hl hk, (GoodL.of hc).2 k hk, swL_backC hl hk]; simp
        · unfold swapAns at hq
          split at hq
          · simp only [Option.some.injEq, Int.toNat_natCast] at hq
            rw [← hq, curv_swap hl hk]
          · cases hq
theorem followC_law : ∀ (ws : List Int) (L b : List Ci4), confB L = true → ws.all (within 0 3) = true → followCL L ws = some b → confB b = true ∧ ∀ q, followL (curvL L) ws = some q → q = curvL b := by
  intro ws
  induction ws with
  | nil =>
    intro L b h _ hb
    simp only [followCL, Option.some.injEq] at hb
    subst hb
    exact ⟨h, fun q hq => by simp only [followL, Option.some.injEq] at hq; exact hq.symm⟩
  | cons z ws ih =>
    intro L b h hw hb
    rw [List.all_cons, Bool.and_eq_true] at hw
    have hz := within03.1 hw.1
    have hk : z.toNat < 4 := by omega
    unfold followCL at hb
    split at hb
    · rename_i hc
      obtain ⟨q1, q2⟩ := ih _ _ (conf_step h hk hc) hw.2 hb
      refine ⟨q1, fun q hq => ?_⟩
      unfold followL at hq
      split at hq
      · rw [← curv_swap (GoodL.of h).1 hk] at hq
        exact q2 q hq
      · cases hq
    · cases hb
/-- .. and of a word of swaps -/
theorem followC_ans {L b : List Ci4} {ws : List Int} (h : followCAns L ws = some b) : confB L = true ∧ confB b = true ∧ ∀ q, followAns (curvL L) ws = some q → q = curvL b := by
  unfold followCAns at h
  split at h
  · rename_i hc
    have hw := hc.2
    unfold wordC at hw
    rw [Bool.and_eq_true] at hw
    obtain ⟨q1, q2⟩ := followC_law ws L b hc.1 hw.2 h
    refine ⟨hc.1, q1, fun q hq => ?_⟩
    unfold followAns at hq
    split at hq
    · exact q2 q hq
    · cases hq
  · cases h
theorem start_conf {k : Int} {L : List Ci4} (h : startAns k = some L) : confB L = true := by
  unfold startAns at h
  split at h
  · simp only [Option.some.injEq] at h; subst h; decide
  · split at h
    · simp only [Option.some.injEq] at h; subst h; decide
    · cases h
end Go.Proofs.Ytoaopmafokoaoaa
