/- What the lists of descents have, for the big laws: each its sum, falling multiples, 1 at the end alone. -/
import Derived.Test.YtofmmegpadojlaaSqDa
namespace Go.Proofs.Ytofmmegpadojlaa
open Go.RowKit

def at4 (s : List Int) : Int := s.getD 4 0
def at2 (s : List Int) : Int := s.getD 2 0
theorem run4_ne (p : Int) (f : Nat) (q : Sq.Q4) (m : Int) : ∃ rest, run4 p f q m = [q.a, q.b, q.c, q.d, m] :: rest := by
  cases f with
  | zero => exact ⟨[], rfl⟩
  | succ f => exact ⟨_, rfl⟩
theorem run4_good {p : Int} (hp : 0 < p) (hpr : ∀ d : Int, 1 < d → d < p → ¬ d ∣ p) : ∀ (f : Nat) (q : Sq.Q4) (m : Int), Sq.D4 p q m → 1 ≤ m → m ≤ f →
    (∀ s ∈ run4 p f q m, ∃ t k, s = [t.a, t.b, t.c, t.d, k] ∧ Sq.D4 p t k ∧ 1 ≤ k) ∧
    (∀ i, i + 1 < (run4 p f q m).length → at4 ((run4 p f q m).getD (i + 1) []) < at4 ((run4 p f q m).getD i [])) ∧
    (∀ i, i < (run4 p f q m).length → (at4 ((run4 p f q m).getD i []) = 1 ↔ i + 1 = (run4 p f q m).length)) := by
  intro f
  induction f with
  | zero => intro q m h h1 h2; omega
  | succ f ih =>
    intro q m h h1 h2
    by_cases hm : m ≤ 1
    · have hm1 : m = 1 := by omega
      obtain ⟨a, b, c, d⟩ := q
      rw [run4_end hm]
      refine ⟨fun s hs => ⟨⟨a, b, c, d⟩, m, by simpa using hs, h, h1⟩, fun i hi => by simp at hi, fun i hi => ?_⟩
      have hi0 : i = 0 := by simpa using hi
      subst hi0
      simp [at4, hm1]
    · obtain ⟨r, hr, hrm, hr0⟩ := h.step hp (by omega) hpr
      have hrp := h.pos hp (by omega) hpr hr hr0
      obtain ⟨g1, g2, g3⟩ := ih (Sq.st4 q m) r hr (by omega) (by omega)
      have e : run4 p (f + 1) q m = [q.a, q.b, q.c, q.d, m] :: run4 p f (Sq.st4 q m) r := by
        obtain ⟨a, b, c, d⟩ := q
        exact run4_go (by omega) (by omega) hr hp
      obtain ⟨rest, hrest⟩ := run4_ne p f (Sq.st4 q m) r
      rw [e]
      refine ⟨fun s hs => ?_, fun i hi => ?_, fun i hi => ?_⟩
      · rcases List.mem_cons.1 hs with rfl | hs
        · exact ⟨q, m, rfl, h, h1⟩
        · exact g1 s hs
      · cases i with
        | zero => rw [hrest]; simpa [at4] using hrm
        | succ i => simpa using g2 i (by simpa using hi)
      · cases i with
        | zero => rw [hrest]; simp [at4]; omega
        | succ i => have := g3 i (by simpa using hi); simpa using this
theorem run2_ne (p : Int) (f : Nat) (a b m : Int) : ∃ rest, run2 p f a b m = [a, b, m] :: rest := by
  cases f with
  | zero => exact ⟨[], rfl⟩
  | succ f => exact ⟨_, rfl⟩
theorem run2_good {p : Int} (hp : 0 < p) (hpr : ∀ d : Int, 1 < d → d < p → ¬ d ∣ p) : ∀ (f : Nat) (a b m : Int), Sq.D2 p a b m → 1 ≤ m → m ≤ f →
    (∀ s ∈ run2 p f a b m, ∃ x y k, s = [x, y, k] ∧ Sq.D2 p x y k ∧ 1 ≤ k) ∧
    (∀ i, i + 1 < (run2 p f a b m).length → 2 * at2 ((run2 p f a b m).getD (i + 1) []) ≤ at2 ((run2 p f a b m).getD i [])) ∧
    (∀ i, i < (run2 p f a b m).length → (at2 ((run2 p f a b m).getD i []) = 1 ↔ i + 1 = (run2 p f a b m).length)) := by
  intro f
  induction f with
  | zero => intro a b m h h1 h2; omega
  | succ f ih =>
    intro a b m h h1 h2
    by_cases hm : m ≤ 1
    · have hm1 : m = 1 := by omega
      rw [run2_end hm]
      refine ⟨fun s hs => ⟨a, b, m, by simpa using hs, h, h1⟩, fun i hi => by simp at hi, fun i hi => ?_⟩
      have hi0 : i = 0 := by simpa using hi
      subst hi0
      simp [at2, hm1]
    · obtain ⟨r, hr, hrm, hr0⟩ := h.step hp (by omega)
      have hrp := h.pos hp (by omega) hpr hr hr0
      obtain ⟨g1, g2, g3⟩ := ih _ _ r hr (by omega) (by omega)
      have e : run2 p (f + 1) a b m = [a, b, m] :: run2 p f (Sq.st2 a b m).1 (Sq.st2 a b m).2 r := run2_go (by omega) (by omega) hr hp
      obtain ⟨rest, hrest⟩ := run2_ne p f (Sq.st2 a b m).1 (Sq.st2 a b m).2 r
      rw [e]
      refine ⟨fun s hs => ?_, fun i hi => ?_, fun i hi => ?_⟩
      · rcases List.mem_cons.1 hs with rfl | hs
        · exact ⟨a, b, m, rfl, h, h1⟩
        · exact g1 s hs
      · cases i with
        | zero => rw [hrest]; simpa [at2] using hrm
        | succ i => simpa using g2 i (by simpa using hi)
      · cases i with
        | zero => rw [hrest]; simp [at2]; omega
        | succ i => have := g3 i (by simpa using hi); simpa using this
end Go.Proofs.Ytofmmegpadojlaa
