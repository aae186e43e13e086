/- Lists of squares: which they are, and their order; two squares of a prime number are one list. -/
import Derived.Test.YtofmmegpadojlaaSqDb
namespace Go.Proofs.Ytofmmegpadojlaa.Sq
open Go.RowKit

theorem lp_mem2 {α : Type} (stop : Nat → Bool) (f : Nat → List α) (a : α) (y : Nat) (ha : a ∈ f y) : ∀ x, y ≤ x → (∀ z, y ≤ z → z ≤ x → stop z = false) → a ∈ lp stop f x := by
  intro x
  induction x with
  | zero =>
    intro hy hs
    have : y = 0 := by omega
    subst this
    unfold lp; rw [hs 0 (Nat.le_refl _) (Nat.le_refl _)]; simpa using ha
  | succ x ih =>
    intro hy hs
    unfold lp; rw [hs (x + 1) hy (Nat.le_refl _)]
    by_cases e : y = x + 1
    · subst e; simp [ha]
    · have := ih (by omega) (fun z h1 h2 => hs z h1 (by omega))
      simp [this]
theorem lp_pairwise {α : Type} {R : α → α → Prop} (stop : Nat → Bool) (f : Nat → List α) (h1 : ∀ x, (f x).Pairwise R) (h2 : ∀ x y a b, y < x → a ∈ f x → b ∈ f y → R a b) : ∀ x, (lp stop f x).Pairwise R := by
  intro x
  induction x with
  | zero => unfold lp; split
            · exact List.Pairwise.nil
            · exact h1 0
  | succ x ih =>
    unfold lp; split
    · exact List.Pairwise.nil
    · rw [List.pairwise_append]
      refine ⟨h1 _, ih, fun a ha b hb => ?_⟩
      obtain ⟨y, hy, _, hb⟩ := lp_mem stop f b x hb
      exact h2 (x + 1) y a b (by omega) ha hb
def sqs : List Int → Int
  | [] => 0
  | z :: zs => z * z + sqs zs
theorem sqs_nonneg : ∀ zs, 0 ≤ sqs zs := by
  intro zs
  induction zs with
  | nil => exact Int.le_refl _
  | cons z zs ih => have := sq0 z; unfold sqs; omega
theorem sqL_is : ∀ (k n most : Nat) (zs : List Int), zs ∈ sqL k n most → sqs zs = n ∧ zs.Pairwise (fun a b => b ≤ a) := by
  intro k
  induction k with
  | zero =>
    intro n most zs h; unfold sqL at h; split at h <;> simp at h
    subst h; rename_i h0; subst h0; exact ⟨rfl, List.Pairwise.nil⟩
  | succ k ih =>
    intro n most zs h
    unfold sqL at h
    obtain ⟨y, h1, _, h3⟩ := lp_mem _ _ _ _ h
    simp only [List.mem_map] at h3
    obtain ⟨ys, h4, rfl⟩ := h3
    obtain ⟨h5, h6⟩ := ih _ _ _ h4
    obtain ⟨_, h7⟩ := sqL_mem _ _ _ _ h4
    have hy : y * y ≤ n := by
      have := rootN_spec n
      have h8 : y ≤ rootN n := by omega
      have := Nat.mul_le_mul h8 h8
      omega
    refine ⟨?_, ?_⟩
    · unfold sqs; rw [h5, ← Int.natCast_mul]; omega
    · rw [List.pairwise_cons]
      exact ⟨fun z hz => (h7 z hz).2, h6⟩
theorem sqs_le (y : Int) : ∀ (zs : List Int), (∀ z ∈ zs, 0 ≤ z ∧ z ≤ y) → sqs zs ≤ zs.length * (y * y) := by
  intro zs
  induction zs with
  | nil => intro _; simp [sqs]
  | cons z zs ih =>
    intro h
    have h1 := ih fun w hw => h w (by simp [hw])
    have h2 := h z (by simp)
    have h3 := sq_le (x := z) (y := y) (by omega) h2.2
    unfold sqs
    rw [List.length_cons]
    have : ((zs.length + 1 : Nat) : Int) * (y * y) = zs.length * (y * y) + y * y := by grind
    omega
theorem sqL_all : ∀ (zs : List Int) (n most : Nat), sqs zs = n → zs.Pairwise (fun a b => b ≤ a) → (∀ z ∈ zs, 0 ≤ z ∧ z ≤ most) → zs ∈ sqL zs.length n most := by
  intro zs
  induction zs with
  | nil => intro n most h _ _; unfold sqs at h; show [] ∈ (if n = 0 then [[]] else ([] : List (List Int))); rw [if_pos (by omega)]; simp
  | cons z zs ih =>
    intro n most h hp hb
    rw [List.pairwise_cons] at hp
    obtain ⟨hz0, hzm⟩ := hb z (by simp)
    obtain ⟨y, rfl⟩ : ∃ y : Nat, z = (y : Int) := ⟨z.toNat, by omega⟩
    have hn := sqs_nonneg zs
    unfold sqs at h
    rw [← Int.natCast_mul] at h
    have hyn : y * y ≤ n := by omega
    have hin := ih (n - y * y) y (by omega) hp.2 (fun w hw => ⟨(hb w (by simp [hw])).1, hp.1 w hw⟩)
    rw [List.length_cons]
    unfold sqL
    have hr := rootN_spec n
    have hyr : y ≤ rootN n := by
      refine Nat.not_lt.1 fun hlt => ?_
      have := Nat.mul_le_mul (show rootN n + 1 ≤ y by omega) (show rootN n + 1 ≤ y by omega)
      omega
    refine lp_mem2 _ _ _ y (List.mem_map.2 ⟨zs, hin, rfl⟩) _ (by omega) fun x h1 _ => ?_
    simp only [decide_eq_false_iff_not, Nat.not_lt]
    have h2 := sqs_le (y : Int) zs (fun w hw => ⟨(hb w (by simp [hw])).1, hp.1 w hw⟩)
    have h3 : n ≤ (zs.length + 1) * (y * y) := by
      have h4 : (n : Int) ≤ ((zs.length + 1 : Nat) : Int) * ((y * y : Nat) : Int) := by
        rw [← h]
        have e : ((zs.length + 1 : Nat) : Int) * ((y * y : Nat) : Int) = zs.length * ((y : Int) * y) + ((y * y : Nat) : Int) := by
          rw [Int.natCast_mul y y]; grind
        omega
      rw [← Int.natCast_mul] at h4
      omega
    have h5 := Nat.mul_le_mul h1 h1
    have h6 := Nat.mul_le_mul_left (zs.length + 1) h5
    rw [Nat.mul_assoc]
    omega
/-- One list stands before another: as the numbers stand. -/
def lexB : List Int → List Int → Bool
  | a :: l, b :: m => if a = b then lexB l m else decide (a < b)
  | [], b => decide (0 < b.length)
  | _, [] => false
theorem lexB_irrefl : ∀ l, lexB l l = false := by
  intro l
  induction l with
  | nil => rfl
  | cons a l ih => unfold lexB; simp [ih]
theorem sqL_order : ∀ (k n most : Nat), (sqL k n most).Pairwise (fun s t => lexB t s = true) := by
  intro k
  induction k with
  | zero => intro n most; unfold sqL; split <;> simp
  | succ k ih =>
    intro n most
    unfold sqL
    refine lp_pairwise _ _ (fun x => ?_) (fun x y a b hxy ha hb => ?_) _
    · rw [List.pairwise_map]
      exact (ih _ _).imp fun h => by unfold lexB; simpa using h
    · obtain ⟨a', _, rfl⟩ := List.mem_map.1 ha
      obtain ⟨b', _, rfl⟩ := List.mem_map.1 hb
      unfold lexB
      rw [if_neg (by omega)]
      simp; omega
theorem prim_nosq {p : Nat} {z : Int} (hp : Prim p) (h : z * z = p) : False := by
  have h2 := hp.1
  rcases hp.idvd_mul (show (p : Int) ∣ z * z from ⟨1, by omega⟩) with hd | hd <;>
  · obtain ⟨k, hk⟩ := hd
    have e : (p : Int) * (p * (k * k)) = p * 1 := by rw [Int.mul_one, ← h, hk]; grind
    have e2 := Int.eq_of_mul_eq_mul_left (show (p : Int) ≠ 0 by omega) e
    have hk2 := sq0 k
    rcases Int.lt_or_le 0 (k * k) with hh | hh
    · have := Int.mul_le_mul_of_nonneg_left (show (1 : Int) ≤ k * k by omega) (show (0 : Int) ≤ p by omega)
      omega
    · rw [show k * k = 0 by omega, Int.mul_zero] at e2
      omega
theorem two_one {p : Nat} {a b : Int} (hp : Prim p) (ha : 0 ≤ a) (hb : 0 ≤ b) (h : a * a + b * b = p) (hba : b ≤ a) : sqL 2 p p = [[a, b]] := by
  have hp2 := hp.1
  have hpos : ∀ {x y : Int}, 0 ≤ x → 0 ≤ y → x * x + y * y = p → 0 < x ∧ 0 < y := fun {x y} hx hy e => by
    constructor
    · refine Int.lt_iff_le_and_ne.2 ⟨hx, fun h0 => ?_⟩
      rw [← h0] at e; exact prim_nosq (z := y) hp (by omega)
    · refine Int.lt_iff_le_and_ne.2 ⟨hy, fun h0 => ?_⟩
      rw [← h0] at e; exact prim_nosq (z := x) hp (by omega)
  obtain ⟨ha1, hb1⟩ := hpos ha hb h
  have hap : a ≤ p := by
    have h1 := Int.mul_le_mul_of_nonneg_left (show (1 : Int) ≤ a by omega) ha
    have h2 := Int.mul_pos hb1 hb1
    omega
  have hin : [a, b] ∈ sqL 2 p p := sqL_all [a, b] p p (by simp only [sqs]; omega) (by simp [hba]) (by simp; omega)
  have hall : ∀ s ∈ sqL 2 p p, s = [a, b] := fun s hs => by
    obtain ⟨g1, g2⟩ := sqL_is _ _ _ _ hs
    obtain ⟨g3, g4⟩ := sqL_mem _ _ _ _ hs
    match s, g3 with
    | [c, d], _ =>
      simp only [sqs] at g1
      simp at g2 g4
      obtain ⟨hc1, hd1⟩ := hpos g4.1.1 g4.2.1 (show c * c + d * d = p by omega)
      rcases two_unique hp ha1 hb1 hc1 hd1 h (by omega) with ⟨rfl, rfl⟩ | ⟨rfl, rfl⟩
      · rfl
      · have : a = b := by omega
        subst this; rfl
  have hord := sqL_order 2 p p
  match hl : sqL 2 p p with
  | [] => rw [hl] at hin; simp at hin
  | [x] => rw [hall x (by rw [hl]; simp)]
  | x :: y :: l =>
    rw [hl] at hord
    rw [List.pairwise_cons] at hord
    have := hord.1 y (by simp)
    rw [hall x (by rw [hl]; simp), hall y (by rw [hl]; simp), lexB_irrefl] at this
    cases this
end Go.Proofs.Ytofmmegpadojlaa.Sq
