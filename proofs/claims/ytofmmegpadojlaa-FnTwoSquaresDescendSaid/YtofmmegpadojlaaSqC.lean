/- Lists of squares, the first index with a property, sums over divisors. -/
import Derived.Test.YtofmmegpadojlaaRoot
namespace Go.Proofs.Ytofmmegpadojlaa.Sq
/-! ### the first index with a property -/
def firstI (P : Nat → Bool) : Nat → Nat → Option Nat
  | 0, _ => none
  | n + 1, k => if P k then some k else firstI P n (k + 1)
theorem firstI_some (P : Nat → Bool) : ∀ (n k r : Nat), firstI P n k = some r → k ≤ r ∧ r < k + n ∧ P r = true ∧ ∀ s, k ≤ s → s < r → P s = false := by
  intro n
  induction n with
  | zero => intro k r h; simp [firstI] at h
  | succ n ih =>
    intro k r h
    unfold firstI at h
    cases hk : P k with
    | true =>
      rw [hk] at h; simp at h; subst h
      exact ⟨Nat.le_refl _, by omega, hk, fun s h1 h2 => by omega⟩
    | false =>
      rw [hk] at h; simp at h
      obtain ⟨h1, h2, h3, h4⟩ := ih _ _ h
      refine ⟨by omega, by omega, h3, fun s h5 h6 => ?_⟩
      rcases Nat.eq_or_lt_of_le h5 with rfl | h7
      · exact hk
      · exact h4 s h7 h6
theorem firstI_none (P : Nat → Bool) : ∀ (n k : Nat), firstI P n k = none → ∀ s, k ≤ s → s < k + n → P s = false := by
  intro n
  induction n with
  | zero => intro k _ s h1 h2; omega
  | succ n ih =>
    intro k h s h5 h6
    unfold firstI at h
    cases hk : P k with
    | true => rw [hk] at h; simp at h
    | false =>
      rw [hk] at h; simp at h
      rcases Nat.eq_or_lt_of_le h5 with rfl | h7
      · exact hk
      · exact ih _ h s h7 (by omega)
theorem firstI_is (P : Nat → Bool) (n k r : Nat) (h1 : k ≤ r) (h2 : r < k + n) (h3 : P r = true) (h4 : ∀ s, k ≤ s → s < r → P s = false) : firstI P n k = some r := by
  cases h : firstI P n k with
  | none => have := firstI_none P n k h r h1 h2; rw [h3] at this; cases this
  | some s =>
    obtain ⟨g1, g2, g3, g4⟩ := firstI_some P n k s h
    rcases Nat.lt_trichotomy r s with h | h | h
    · have := g4 r h1 h; rw [h3] at this; cases this
    · rw [h]
    · have := h4 s g1 h; rw [g3] at this; cases this

/-! ### lists of squares -/
def lp {α : Type} (stop : Nat → Bool) (f : Nat → List α) : Nat → List α
  | 0 => if stop 0 then [] else f 0
  | x + 1 => if stop (x + 1) then [] else f (x + 1) ++ lp stop f x
theorem lp_len {α : Type} (stop : Nat → Bool) (f : Nat → List α) (B : Nat) (h : ∀ x, (f x).length ≤ B) : ∀ x, (lp stop f x).length ≤ (x + 1) * B := by
  intro x
  induction x with
  | zero => unfold lp; split <;> simp; exact h 0
  | succ x ih =>
    unfold lp; split
    · simp
    · rw [List.length_append, Nat.add_mul (x + 1) 1 B]; have := h (x + 1); omega
def sqL : Nat → Nat → Nat → List (List Int)
  | 0, n, _ => if n = 0 then [[]] else []
  | k + 1, n, most => lp (fun x => decide ((k + 1) * x * x < n)) (fun x => (sqL k (n - x * x) x).map ((x : Int) :: ·)) (min most (rootN n))
theorem sqL1_len (n most : Nat) : (sqL 1 n most).length ≤ 1 := by
  have hr := rootN_spec n
  have key : ∀ x, x * x ≤ n → (lp (fun x => decide ((0 + 1) * x * x < n)) (fun x => (sqL 0 (n - x * x) x).map ((x : Int) :: ·)) x).length ≤ 1 := by
    intro x
    induction x with
    | zero => intro _; unfold lp; split <;> simp [sqL]; split <;> simp
    | succ x _ =>
      intro hx
      unfold lp
      split
      · simp
      · rename_i hs
        have hs' : ¬ (0 + 1) * (x + 1) * (x + 1) < n := by simpa using hs
        have h2 : (x + 1) * (x + 1) = x * x + 2 * x + 1 := by rw [Nat.mul_add, Nat.add_mul]; omega
        have h3 : (0 + 1) * (x + 1) * (x + 1) = (x + 1) * (x + 1) := by rw [Nat.zero_add, Nat.one_mul]
        have hlt : (0 + 1) * x * x < n := by rw [Nat.zero_add, Nat.one_mul]; omega
        have h4 : lp (fun x => decide ((0 + 1) * x * x < n)) (fun x => (sqL 0 (n - x * x) x).map ((x : Int) :: ·)) x = [] := by
          cases x with
          | zero => unfold lp; rw [if_pos (decide_eq_true hlt)]
          | succ y => unfold lp; rw [if_pos (decide_eq_true hlt)]
        rw [h4, List.append_nil, List.length_map]
        unfold sqL; split <;> simp
  refine key _ ?_
  have := Nat.mul_le_mul (Nat.min_le_right most (rootN n)) (Nat.min_le_right most (rootN n))
  omega
theorem sqL_len (n : Nat) (r : Nat) (hr : ∀ m, m ≤ n → rootN m ≤ r) : ∀ (k m most : Nat), m ≤ n → (sqL (k + 1) m most).length ≤ (r + 1) ^ k := by
  intro k
  induction k with
  | zero => intro m most _; exact sqL1_len m most
  | succ k ih =>
    intro m most hm
    unfold sqL
    have h1 := lp_len (fun x => decide ((k + 1 + 1) * x * x < m)) (fun x => (sqL (k + 1) (m - x * x) x).map ((x : Int) :: ·)) ((r + 1) ^ k) (by intro x; rw [List.length_map]; exact ih _ _ (by omega)) (min most (rootN m))
    have h2 : min most (rootN m) + 1 ≤ r + 1 := by have := hr m hm; omega
    have h3 := Nat.mul_le_mul_right ((r + 1) ^ k) h2
    rw [Nat.pow_succ, Nat.mul_comm ((r + 1) ^ k)]
    omega
theorem lp_mem {α : Type} (stop : Nat → Bool) (f : Nat → List α) (a : α) : ∀ x, a ∈ lp stop f x → ∃ y, y ≤ x ∧ stop y = false ∧ a ∈ f y := by
  intro x
  induction x with
  | zero =>
    intro h; unfold lp at h
    cases hs : stop 0 <;> simp [hs] at h
    exact ⟨0, Nat.le_refl _, hs, h⟩
  | succ x ih =>
    intro h; unfold lp at h
    cases hs : stop (x + 1) <;> simp [hs] at h
    rcases h with h | h
    · exact ⟨x + 1, Nat.le_refl _, hs, h⟩
    · obtain ⟨y, h1, h2, h3⟩ := ih h; exact ⟨y, by omega, h2, h3⟩
theorem sqL_mem : ∀ (k n most : Nat) (zs : List Int), zs ∈ sqL k n most → zs.length = k ∧ ∀ z ∈ zs, 0 ≤ z ∧ z ≤ most := by
  intro k
  induction k with
  | zero =>
    intro n most zs h; unfold sqL at h; split at h <;> simp at h
    subst h; simp
  | succ k ih =>
    intro n most zs h
    unfold sqL at h
    obtain ⟨y, h1, _, h3⟩ := lp_mem _ _ _ _ h
    simp only [List.mem_map] at h3
    obtain ⟨ys, h4, rfl⟩ := h3
    obtain ⟨h5, h6⟩ := ih _ _ _ h4
    refine ⟨by simp [h5], fun z hz => ?_⟩
    rcases List.mem_cons.1 hz with rfl | hz
    · omega
    · have := h6 z hz; omega

/-! ### sums over divisors -/
def sumI : List Int → Int
  | [] => 0
  | a :: l => a + sumI l
theorem sumI_append (l m : List Int) : sumI (l ++ m) = sumI l + sumI m := by
  induction l with
  | nil => simp [sumI]
  | cons a l ih => simp only [List.cons_append, sumI, ih]; omega
theorem sumI_perm {l m : List Int} (h : l.Perm m) : sumI l = sumI m := by
  induction h with
  | nil => rfl
  | cons x _ ih => simp [sumI, ih]
  | swap x y l => simp only [sumI]; omega
  | trans _ _ h1 h2 => rw [h1, h2]
theorem perm_of_same : ∀ (l m : List Nat), l.Nodup → m.Nodup → (∀ x, x ∈ l ↔ x ∈ m) → l.Perm m := by
  intro l
  induction l with
  | nil =>
    intro m _ _ h
    cases m with
    | nil => exact List.Perm.nil
    | cons a m => have := (h a).2 (by simp); simp at this
  | cons a l ih =>
    intro m hl hm h
    have ha : a ∈ m := (h a).1 (by simp)
    have hp : m.Perm (a :: m.erase a) := List.perm_cons_erase ha
    have hn : (a :: m.erase a).Nodup := hp.nodup_iff.1 hm
    rw [List.nodup_cons] at hl hn
    refine List.Perm.trans (List.Perm.cons a (ih _ hl.2 hn.2 ?_)) hp.symm
    intro x
    constructor
    · intro hx
      have h1 := (h x).1 (by simp [hx])
      have h2 := hp.mem_iff.1 h1
      rcases List.mem_cons.1 h2 with rfl | h3
      · exact absurd hx hl.1
      · exact h3
    · intro hx
      have h1 := (h x).2 (hp.mem_iff.2 (by simp [hx]))
      rcases List.mem_cons.1 h1 with rfl | h3
      · exact absurd hx hn.1
      · exact h3
def divL (n : Nat) : Nat → List Nat
  | 0 => []
  | k + 1 => divL n k ++ (if n % (k + 1) = 0 then (k + 1) :: (if (k + 1) * (k + 1) < n then [n / (k + 1)] else []) else [])
theorem divL_mem (n x : Nat) : ∀ k, x ∈ divL n k ↔ ∃ d, 1 ≤ d ∧ d ≤ k ∧ n % d = 0 ∧ (x = d ∨ (d * d < n ∧ x = n / d)) := by
  intro k
  induction k with
  | zero => simp [divL]; intro d h1 h2; omega
  | succ k ih =>
    unfold divL
    rw [List.mem_append, ih]
    constructor
    · rintro (⟨d, h1, h2, h3, h4⟩ | h)
      · exact ⟨d, h1, by omega, h3, h4⟩
      · refine ⟨k + 1, by omega, by omega, ?_⟩
        split at h
        · rename_i h5
          refine ⟨h5, ?_⟩
          rcases List.mem_cons.1 h with h6 | h6
          · exact .inl h6
          · split at h6
            · rename_i h7; exact .inr ⟨h7, by simpa using h6⟩
            · simp at h6
        · simp at h
    · rintro ⟨d, h1, h2, h3, h4⟩
      by_cases hd : d = k + 1
      · subst hd
        right
        rw [if_pos h3]
        rcases h4 with h4 | ⟨h4, h5⟩
        · simp [h4]
        · rw [if_pos h4]; simp [h5]
      · exact .inl ⟨d, h1, by omega, h3, h4⟩
theorem divL_nodup (n : Nat) : ∀ k, k * k ≤ n → (divL n k).Nodup := by
  intro k
  induction k with
  | zero => intro _; simp [divL]
  | succ k ih =>
    intro hk
    have h2 : (k + 1) * (k + 1) = k * k + 2 * k + 1 := by rw [Nat.mul_add, Nat.add_mul]; omega
    have h0 := ih (by omega)
    unfold divL
    split
    · rename_i hd
      have hn : n / (k + 1) * (k + 1) = n := Nat.div_mul_cancel (Nat.dvd_of_mod_eq_zero hd)
      have hno : ∀ e d : Nat, d ≤ k → d * (k + 1) = n → False := by
        intro _ d h1 h3
        have := Nat.mul_le_mul_right (k + 1) h1
        have h4 : k * (k + 1) = k * k + k := by rw [Nat.mul_add]; omega
        omega
      have a1 : k + 1 ∉ divL n k := by
        intro h
        rw [divL_mem] at h
        obtain ⟨d, g1, g2, g3, g4⟩ := h
        rcases g4 with g4 | ⟨_, g4⟩
        · omega
        · refine hno 0 d g2 ?_
          rw [g4, Nat.mul_comm]; exact Nat.div_mul_cancel (Nat.dvd_of_mod_eq_zero g3)
      have a2 : (k + 1) * (k + 1) < n → n / (k + 1) ∉ divL n k := by
        intro _ h
        rw [divL_mem] at h
        obtain ⟨d, g1, g2, g3, g4⟩ := h
        rcases g4 with g4 | ⟨_, g4⟩
        · exact hno 0 d g2 (by rw [← g4]; exact hn)
        · have g5 := Nat.div_mul_cancel (Nat.dvd_of_mod_eq_zero g3)
          rw [← g4] at g5
          have : n / (k + 1) * d < n / (k + 1) * (k + 1) := by
            refine Nat.mul_lt_mul_of_pos_left (by omega) ?_
            rcases Nat.eq_zero_or_pos (n / (k + 1)) with h | h
            · rw [h] at hn; omega
            · exact h
          omega
      rw [List.nodup_append]
      refine ⟨h0, ?_, ?_⟩
      · split
        · rename_i hlt
          rw [List.nodup_cons]
          refine ⟨?_, by simp⟩
          simp only [List.mem_singleton]
          intro h
          rw [← h] at hn; omega
        · simp
      · intro a ha b hb hab
        subst hab
        rcases List.mem_cons.1 hb with h | h
        · exact a1 (h ▸ ha)
        · split at h
          · rename_i hlt
            exact a2 hlt ((List.mem_singleton.1 h) ▸ ha)
          · simp at h
    · simpa using h0
/-- The divisors in pairs are all of them. -/
theorem divL_perm (n : Nat) (hn : 1 ≤ n) (r : Nat) (h1 : r * r ≤ n) (h2 : n < (r + 1) * (r + 1)) : (divL n r).Perm (((List.range n).map (· + 1)).filter fun d => n % d == 0) := by
  refine perm_of_same _ _ (divL_nodup n r h1) ?_ ?_
  · refine List.Pairwise.filter _ ?_
    refine List.Pairwise.map _ ?_ List.nodup_range
    intro a b h; omega
  · intro x
    rw [divL_mem]
    simp only [List.mem_filter, List.mem_map, List.mem_range, beq_iff_eq]
    constructor
    · rintro ⟨d, g1, g2, g3, g4⟩
      have g5 := Nat.div_mul_cancel (Nat.dvd_of_mod_eq_zero g3)
      have hle : d ≤ n := Nat.le_of_dvd (by omega) (Nat.dvd_of_mod_eq_zero g3)
      rcases g4 with rfl | ⟨g4, rfl⟩
      · exact ⟨⟨x - 1, by omega, by omega⟩, g3⟩
      · have hpos : 1 ≤ n / d := Nat.div_pos hle (by omega)
        have hle2 : n / d ≤ n := Nat.div_le_self _ _
        exact ⟨⟨n / d - 1, by omega, by omega⟩, Nat.mod_eq_zero_of_dvd ⟨d, g5.symm⟩⟩
    · rintro ⟨⟨y, hy, rfl⟩, hd⟩
      have g5 := Nat.div_mul_cancel (Nat.dvd_of_mod_eq_zero hd)
      by_cases hle : y + 1 ≤ r
      · exact ⟨y + 1, by omega, hle, hd, .inl rfl⟩
      · have hpos : 1 ≤ n / (y + 1) := Nat.div_pos (by omega) (by omega)
        have hlt : n / (y + 1) ≤ r := by
          refine Nat.not_lt.1 fun hh => ?_
          have := Nat.mul_le_mul (show r + 1 ≤ n / (y + 1) by omega) (show r + 1 ≤ y + 1 by omega)
          omega
        refine ⟨n / (y + 1), hpos, hlt, Nat.mod_eq_zero_of_dvd ⟨y + 1, g5.symm⟩, .inr ⟨?_, ?_⟩⟩
        · have : n / (y + 1) * (n / (y + 1)) < n / (y + 1) * (y + 1) := Nat.mul_lt_mul_of_pos_left (by omega) hpos
          omega
        · have : n = (y + 1) * (n / (y + 1)) := by rw [Nat.mul_comm]; exact g5.symm
          exact (Nat.div_eq_of_eq_mul_left hpos this).symm
end Go.Proofs.Ytofmmegpadojlaa.Sq
