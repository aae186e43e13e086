/- Insertion into a rising row: what it holds. -/
import Derived.Test.YtdahhcigphhfdaaMpB
import Derived.Test.YtdahhcigphhfdaaMpO
namespace Go.Proofs.Ytdahhcigphhfdaa
open Go.RowKit

theorem putZ_mem {L : List Int} {x y : Int} : y ∈ putZ L x ↔ y ∈ L ∨ y = x := by
  unfold putZ
  split
  · rename_i h
    constructor
    · exact Or.inl
    · rintro (h1 | rfl)
      · exact h1
      · have h3 := getD_at L (putZk L y) h.2
        have h4 := List.getElem_mem h.2
        rw [← h3, h.1] at h4
        exact h4
  · constructor
    · intro h
      rcases List.mem_append.1 h with h1 | h1
      · exact .inl (List.mem_of_mem_take h1)
      · rcases List.mem_cons.1 h1 with rfl | h2
        · exact .inr rfl
        · exact .inl (List.mem_of_mem_drop h2)
    · rintro (h | rfl)
      · rw [← List.take_append_drop (putZk L x) L] at h
        rcases List.mem_append.1 h with h1 | h1
        · exact List.mem_append.2 (.inl h1)
        · exact List.mem_append.2 (.inr (List.mem_cons_of_mem _ h1))
      · exact List.mem_append.2 (.inr List.mem_cons_self)
theorem putZ_rising {L : List Int} {x : Int} (h : RisingI L) : RisingI (putZ L x) := by
  unfold putZ
  split
  · exact h
  · rename_i hn
    have h1 : RisingI (L.take (putZk L x)) := h.sublist (List.take_sublist _ _)
    have h2 : RisingI (L.drop (putZk L x)) := h.sublist (List.drop_sublist _ _)
    have hlt : ∀ y ∈ L.take (putZk L x), y < x := fun y hy => by
      obtain ⟨i, hi, rfl⟩ := List.getElem_of_mem hy
      have hi2 : i < putZk L x := by rw [List.length_take] at hi; omega
      have h3 := putZk_lt i hi2
      have h4 : i < L.length := by have := putZk_le L x; omega
      rw [getD_at L i h4] at h3
      simpa using h3
    have hgt : ∀ y ∈ L.drop (putZk L x), x < y := fun y hy => by
      obtain ⟨i, hi, rfl⟩ := List.getElem_of_mem hy
      rw [List.length_drop] at hi
      have h4 : putZk L x < L.length := by omega
      have h5 := putZk_at h4
      have h6 : L.getD (putZk L x) 0 ≠ x := fun e => hn ⟨e, h4⟩
      rw [getD_at L _ h4] at h5 h6
      rw [List.getElem_drop]
      cases i with
      | zero => simp; omega
      | succ i =>
        have := (List.pairwise_iff_getElem.1 h) (putZk L x) (putZk L x + (i + 1)) h4 (by omega) (by omega)
        omega
    unfold RisingI
    rw [List.pairwise_append]
    refine ⟨h1, List.pairwise_cons.2 ⟨fun y hy => hgt y hy, h2⟩, fun y hy z hz => ?_⟩
    have := hlt y hy
    rcases List.mem_cons.1 hz with rfl | hz
    · exact this
    · have := hgt z hz; omega
def putsZ (L : List Int) (xs : List Int) : List Int := xs.foldl putZ L
theorem putsZ_snoc (L xs : List Int) (x : Int) : putsZ L (xs ++ [x]) = putZ (putsZ L xs) x := by simp [putsZ]
theorem putsZ_mem {L xs : List Int} {y : Int} : y ∈ putsZ L xs ↔ y ∈ L ∨ y ∈ xs := by
  induction xs generalizing L with
  | nil => simp [putsZ]
  | cons x xs ih =>
    show y ∈ putsZ (putZ L x) xs ↔ _
    rw [ih, putZ_mem]
    simp only [List.mem_cons]
    constructor
    · rintro ((h | h) | h)
      · exact .inl h
      · exact .inr (.inl h)
      · exact .inr (.inr h)
    · rintro (h | h | h)
      · exact .inl (.inl h)
      · exact .inl (.inr h)
      · exact .inr h
theorem putsZ_rising {L xs : List Int} (h : RisingI L) : RisingI (putsZ L xs) := by
  induction xs generalizing L with
  | nil => exact h
  | cons x xs ih => exact ih (putZ_rising h)
end Go.Proofs.Ytdahhcigphhfdaa
