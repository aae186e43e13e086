/- Markov triples: what the law on moves says: arithmetic. -/
import Derived.Test.YtdahhcigphhfdabMuA
import Derived.Test.YtdahhcigphhfdabMuS
namespace Go.Proofs.Ytdahhcigphhfdab
open Go.RowKit

theorem T3.good {x y z : Int} (h : T3 x y z) : mkGoodW [x, y, z] = true := by
  obtain ⟨hx, hy, hz, hxy, hyz, he⟩ := h
  rw [mkGoodW3, areCnt_of hx hy hz, decide_eq_true hxy, decide_eq_true hyz]
  simpa [solves3] using he
theorem move_T3 {x y z : Int} (h : T3 x y z) {i : Nat} (hi : i ≤ 2) (hb : other3 x y z i ≤ 1000000000) : ∃ p q r, moveL x y z i = [p, q, r] ∧ T3 p q r ∧ ∃ k, k ≤ 2 ∧ moveL p q r k = [x, y, z] ∧ other3 p q r k ≤ 1000000000 := by
  obtain ⟨m0, m1, g0, g1, _⟩ := up_moves h
  obtain ⟨hx, hy, hz, hxy, hyz, he⟩ := id h
  have hi3 : i = 0 ∨ i = 1 ∨ i = 2 := by omega
  rcases hi3 with rfl | rfl | rfl
  · refine ⟨_, _, _, m0, ?_, 2, by omega, ?_, ?_⟩
    · have hA : 3 * y * z - x ≤ 1000000000 := hb
      exact ⟨hy, hz, by omega, hyz, by omega, by grind⟩
    · show ordL y z (3 * y * z - (3 * y * z - x)) = _
      rw [show 3 * y * z - (3 * y * z - x) = x by omega, ordL_rot0]
      exact ordL_eq _ _ _ _ _ _ hxy hyz (by simp)
    · show 3 * y * z - (3 * y * z - x) ≤ _
      omega
  · refine ⟨_, _, _, m1, ?_, 2, by omega, ?_, ?_⟩
    · have hA : 3 * z * x - y ≤ 1000000000 := hb
      exact ⟨hx, hz, by omega, by omega, by omega, by grind⟩
    · have e : 3 * x * z - (3 * z * x - y) = y := by grind
      show ordL x z (3 * x * z - (3 * z * x - y)) = _
      rw [e, ordL_swap2]
      exact ordL_eq _ _ _ _ _ _ hxy hyz (by simp)
    · have e : 3 * x * z - (3 * z * x - y) = y := by grind
      show 3 * x * z - (3 * z * x - y) ≤ _
      omega
  · have hC : 3 * x * y - z ≤ 1000000000 := hb
    have hp := down_pos x y z hx.1 hy.1 hz.1 he
    obtain ⟨C, hCe⟩ : ∃ C, 3 * x * y - z = C := ⟨_, rfl⟩
    have eC : x * x + y * y + C * C = 3 * x * y * C := by rw [← hCe]; grind
    have ez : 3 * x * y - C = z := by omega
    show ∃ p q r, ordL x y (3 * x * y - z) = [p, q, r] ∧ _
    rw [hCe] at hC hp ⊢
    by_cases h1 : C ≤ x
    · refine ⟨C, x, y, ordL_eq _ _ _ _ _ _ h1 hxy (by simp), ⟨⟨hp, hC⟩, hx, hy, h1, hxy, by grind⟩, 0, by omega, ?_, ?_⟩
      · show ordL (3 * x * y - C) x y = _
        rw [ez, ordL_rot1]
        exact ordL_eq _ _ _ _ _ _ hxy hyz (by simp)
      · show 3 * x * y - C ≤ _
        omega
    · by_cases h2 : C ≤ y
      · refine ⟨x, C, y, ordL_eq _ _ _ _ _ _ (by omega) h2 (by simp), ⟨hx, ⟨hp, hC⟩, hy, by omega, h2, by grind⟩, 1, by omega, ?_, ?_⟩
        · have e : 3 * y * x - C = z := by rw [← ez]; grind
          show ordL x (3 * y * x - C) y = _
          rw [e, ordL_swap2]
          exact ordL_eq _ _ _ _ _ _ hxy hyz (by simp)
        · have e : 3 * y * x - C = z := by rw [← ez]; grind
          show 3 * y * x - C ≤ _
          omega
      · refine ⟨x, y, C, ordL_eq _ _ _ _ _ _ hxy (by omega) (by simp), ⟨hx, hy, ⟨hp, hC⟩, hxy, by omega, by grind⟩, 2, by omega, ?_, ?_⟩
        · show ordL x y (3 * x * y - C) = _
          rw [ez]
          exact ordL_eq _ _ _ _ _ _ hxy hyz (by simp)
        · show 3 * x * y - C ≤ _
          omega
theorem moveOpt_iff {x y z : Int} {i : Nat} {u : List Int} (h : moveOpt x y z i = some u) : other3 x y z i ≤ 1000000000 ∧ u = moveL x y z i := by
  unfold moveOpt at h
  split at h
  · cases h
  · injection h with h; exact ⟨by omega, h.symm⟩
theorem move_law {t u : List Int} {i : Int} (h : moveAns t i = some u) : mkGoodW u = true ∧ u.length = 3 ∧ ∃ k : Nat, k ≤ 2 ∧ moveAns u (k : Int) = some t := by
  unfold moveAns at h
  split at h
  · rename_i hc
    obtain ⟨x, y, z, rfl, hT⟩ := mkGoodW_T3 hc.1
    obtain ⟨hb, hu⟩ := moveOpt_iff h
    obtain ⟨p, q, r, e, hT2, k, hk, hm, ho⟩ := move_T3 hT (i := i.toNat) (by omega) hb
    subst hu
    simp only [List.getD_cons_zero, List.getD_cons_succ] at e ⊢
    rw [e]
    refine ⟨hT2.good, rfl, k, hk, ?_⟩
    rw [moveAns_yes hT2.good hk, moveOpt_yes (by omega), hm]
  · cases h
theorem restU_mem {x y z : Int} {u : List Int} : ∀ (k : Nat) (L : List (List Int)), u ∈ restU x y z k L → u ∈ L ∨ ∃ i, i < k ∧ moveOpt x y z i = some u := by
  intro k
  induction k with
  | zero => intro L h; exact .inl h
  | succ k ih =>
    intro L h
    unfold restU at h
    rcases ih _ h with h | ⟨i, hi, h⟩
    · cases hm : moveOpt x y z k with
      | none => rw [stepU_none hm] at h; exact .inl h
      | some v =>
        rw [stepU_some hm] at h
        split at h
        · rw [List.mem_append, List.mem_singleton] at h
          rcases h with h | rfl
          · exact .inl h
          · exact .inr ⟨k, by omega, hm⟩
        · exact .inl h
    · exact .inr ⟨i, by omega, h⟩
theorem down_of {x y z : Int} (h : T3 x y z) (hz : z ≠ 1) : downAns [x, y, z] = some (ordL x y (3 * x * y - z)) := by
  unfold downAns
  exact if_pos ⟨h.good, hz⟩
theorem up_law {x y z : Int} (h : T3 x y z) {u : List Int} (hu : u ∈ upsU x y z) : ∃ a b c, u = [a, b, c] ∧ z < c ∧ downAns u = some [x, y, z] := by
  obtain ⟨m0, m1, g0, g1, _⟩ := up_moves h
  rcases restU_mem 2 [] hu with h0 | ⟨i, hi, hm⟩
  · cases h0
  · obtain ⟨hb, rfl⟩ := moveOpt_iff hm
    obtain ⟨p, q, r, e, hT2, _⟩ := move_T3 h (i := i) (by omega) hb
    obtain ⟨hx, hy, hz, hxy, hyz, he⟩ := id h
    have hi2 : i = 0 ∨ i = 1 := by omega
    rcases hi2 with rfl | rfl
    · rw [m0] at e ⊢
      simp only [List.cons.injEq, and_true] at e
      obtain ⟨rfl, rfl, rfl⟩ := e
      refine ⟨_, _, _, rfl, g0, ?_⟩
      rw [down_of hT2 (by omega), show 3 * y * z - (3 * y * z - x) = x by omega, ordL_rot0]
      congr 1
      exact ordL_eq _ _ _ _ _ _ hxy hyz (by simp)
    · rw [m1] at e ⊢
      simp only [List.cons.injEq, and_true] at e
      obtain ⟨rfl, rfl, rfl⟩ := e
      refine ⟨_, _, _, rfl, g1, ?_⟩
      have e2 : 3 * x * z - (3 * z * x - y) = y := by grind
      rw [down_of hT2 (by omega), e2, ordL_swap2]
      congr 1
      exact ordL_eq _ _ _ _ _ _ hxy hyz (by simp)
theorem up_T3 {x y z : Int} (h : T3 x y z) {u : List Int} (hu : u ∈ upsU x y z) : ∃ a b c, u = [a, b, c] ∧ T3 a b c := by
  rcases restU_mem 2 [] hu with h0 | ⟨i, hi, hm⟩
  · cases h0
  · obtain ⟨hb, rfl⟩ := moveOpt_iff hm
    obtain ⟨p, q, r, e, hT2, _⟩ := move_T3 h (i := i) (by omega) hb
    exact ⟨p, q, r, e, hT2⟩
theorem ups_len (x y z : Int) : (upsU x y z).length ≤ 2 := by
  have h1 := stepU_len x y z [] 1
  have h2 := stepU_len x y z (stepU x y z [] 1) 0
  show (stepU x y z (stepU x y z [] 1) 0).length ≤ 2
  simp at h1
  omega
theorem upAns_some {v : List Int} {R : List (List Int)} (h : upAnsM v = some R) : ∃ x y z, v = [x, y, z] ∧ T3 x y z ∧ R = upsU x y z ∧ ∀ u ∈ R, ∃ a b c, u = [a, b, c] ∧ z < c ∧ downAns u = some v := by
  unfold upAnsM at h
  split at h
  · rename_i hg
    obtain ⟨x, y, z, rfl, hT⟩ := mkGoodW_T3 hg
    injection h with h
    subst h
    exact ⟨x, y, z, rfl, hT, rfl, fun u hu => up_law hT hu⟩
  · cases h
theorem upAns_is (v : List Int) : (upAnsM v).isSome = mkGoodW v := by
  unfold upAnsM
  cases h : mkGoodW v
  · rw [if_neg (by simp)]; rfl
  · rw [if_pos rfl]; rfl
/-- the triple below -/
theorem down_law {x y z : Int} (h : T3 x y z) : (z = 1 ∧ downAns [x, y, z] = none) ∨ (1 < z ∧ ∃ p q r, downAns [x, y, z] = some [p, q, r] ∧ mkGoodW [p, q, r] = true ∧ r < z) := by
  by_cases hz : z = 1
  · refine .inl ⟨hz, ?_⟩
    unfold downAns
    exact if_neg (by simp [hz])
  · refine .inr ⟨by have := h.2.2.1.1; omega, nx x y z, ny x y z, nz x y z, ?_, ?_⟩
    · rw [down_of h hz, next_ord]
    · obtain ⟨h1, h2⟩ := next_T3 h hz
      exact ⟨h1.good, h2⟩
theorem solves_turn {zs : List Int} (h : solvesAns zs = some true) : ∃ x y z, zs = [x, y, z] ∧ solvesAns [z, x, y] = some true := by
  unfold solvesAns at h
  split at h
  · rename_i hc
    match zs, hc with
    | [x, y, z], hc =>
      injection h with h
      obtain ⟨hx, hy, hz⟩ := areCnt3 hc.2
      refine ⟨x, y, z, rfl, ?_⟩
      unfold solvesAns
      rw [if_pos ⟨rfl, areCnt_of hz hx hy⟩]
      congr 1
      rw [← h]
      exact solves3_perm (by simp)
  · cases h
end Go.Proofs.Ytdahhcigphhfdab
