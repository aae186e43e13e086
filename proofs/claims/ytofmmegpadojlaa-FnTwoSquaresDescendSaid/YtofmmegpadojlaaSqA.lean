/- Number theory: roots of polynomials modulo a prime number, the theorem of Fermat, a base whose power is a root of minus one. -/
import Derived.WalkKit
namespace Go.Proofs.Ytofmmegpadojlaa.Sq
/-- A prime number, told by all lesser divisors. -/
def Prim (p : Nat) : Prop := 2 ≤ p ∧ ∀ d, 2 ≤ d → d < p → ¬ d ∣ p
theorem Prim.gcd {p a : Nat} (h : Prim p) (ha : ¬ p ∣ a) : Nat.gcd p a = 1 := by
  have h1 : Nat.gcd p a ∣ p := Nat.gcd_dvd_left p a
  have h2 : Nat.gcd p a ∣ a := Nat.gcd_dvd_right p a
  have h3 : Nat.gcd p a ≤ p := Nat.le_of_dvd (by have := h.1; omega) h1
  have h0 : 0 < Nat.gcd p a := Nat.gcd_pos_of_pos_left _ (by have := h.1; omega)
  rcases Nat.lt_or_ge (Nat.gcd p a) 2 with h4 | h4
  · omega
  · rcases Nat.lt_or_ge (Nat.gcd p a) p with h5 | h5
    · exact absurd h1 (h.2 _ h4 h5)
    · have h6 : Nat.gcd p a = p := by omega
      rw [h6] at h2; exact absurd h2 ha
theorem Prim.dvd_mul {p a b : Nat} (h : Prim p) (hd : p ∣ a * b) : p ∣ a ∨ p ∣ b := by
  by_cases ha : p ∣ a
  · exact .inl ha
  · exact .inr (Nat.Coprime.dvd_of_dvd_mul_left (h.gcd ha) hd)
theorem Prim.idvd_mul {p : Nat} {a b : Int} (h : Prim p) (hd : (p : Int) ∣ a * b) : (p : Int) ∣ a ∨ (p : Int) ∣ b := by
  have h1 : p ∣ a.natAbs * b.natAbs := by rw [← Int.natAbs_mul]; exact Int.ofNat_dvd_left.1 hd
  rcases h.dvd_mul h1 with h2 | h2
  · exact .inl (Int.ofNat_dvd_left.2 h2)
  · exact .inr (Int.ofNat_dvd_left.2 h2)

/-! ### polynomials -/
def ev : List Int → Int → Int
  | [], _ => 0
  | c :: l, x => c + x * ev l x
def quo (r : Int) : List Int → List Int
  | [] => []
  | _ :: [] => []
  | _ :: (a :: l) => ev (a :: l) r :: quo r (a :: l)
theorem quo_len (r : Int) (c : Int) (l : List Int) : (quo r (c :: l)).length = l.length := by
  induction l generalizing c with
  | nil => rfl
  | cons a l ih => simp [quo, ih]
theorem ev_quo (r x : Int) (l : List Int) : ev l x - ev l r = (x - r) * ev (quo r l) x := by
  induction l with
  | nil => simp [ev, quo]
  | cons c l ih =>
    cases l with
    | nil => simp [ev, quo]
    | cons a l =>
      simp only [quo, ev] at ih ⊢
      grind
def lead : List Int → Int
  | [] => 0
  | [c] => c
  | _ :: (a :: l) => lead (a :: l)
theorem lead_quo (r : Int) (c a : Int) (l : List Int) : lead (quo r (c :: a :: l)) = lead (c :: a :: l) := by
  induction l generalizing c a with
  | nil => simp [quo, lead, ev]
  | cons b l ih =>
    have h := ih a b
    have h2 : quo r (c :: a :: b :: l) = ev (a :: b :: l) r :: quo r (a :: b :: l) := rfl
    have h3 : ∃ y t, quo r (a :: b :: l) = y :: t := ⟨_, _, rfl⟩
    obtain ⟨y, t, h3⟩ := h3
    rw [h2, h3]
    simp only [lead]
    rw [← h3, h]
    rfl
/-- A polynomial has no more roots modulo a prime number than its degree says. -/
theorem roots_few {p : Nat} (hp : Prim p) : ∀ (n : Nat) (l : List Int) (rs : List Int), l.length = n + 1 → ¬ (p : Int) ∣ lead l → rs.Pairwise (fun a b => ¬ (p : Int) ∣ b - a) →
    (∀ r ∈ rs, (p : Int) ∣ ev l r) → rs.length ≤ n := by
  intro n
  induction n with
  | zero =>
    intro l rs hl hlead _ hr
    match l, hl with
    | [c], _ =>
      cases rs with
      | nil => simp
      | cons r rs =>
        have := hr r (by simp)
        simp [ev] at this
        simp [lead] at hlead
        exact absurd this hlead
  | succ n ih =>
    intro l rs hl hlead hd hr
    match l, hl with
    | c :: a :: l, hl =>
      cases rs with
      | nil => simp
      | cons r rs =>
        have h1 : (quo r (c :: a :: l)).length = n + 1 := by rw [quo_len]; simpa using hl
        have hr0 := hr r (by simp)
        rw [List.pairwise_cons] at hd
        have := ih (quo r (c :: a :: l)) rs h1 (by rw [lead_quo]; exact hlead) hd.2 (by
          intro s hs
          have h2 := ev_quo r s (c :: a :: l)
          have h3 : (p : Int) ∣ (s - r) * ev (quo r (c :: a :: l)) s := by rw [← h2]; exact Int.dvd_sub (hr s (by simp [hs])) hr0
          rcases hp.idvd_mul h3 with h4 | h4
          · exact absurd h4 (hd.1 s hs)
          · exact h4)
        simpa using this

/-! ### products of all remainders -/
def fac : Nat → Nat
  | 0 => 1
  | n + 1 => (n + 1) * fac n
def prodL : List Nat → Nat
  | [] => 1
  | a :: l => a * prodL l
theorem prodL_perm {l m : List Nat} (h : l.Perm m) : prodL l = prodL m := by
  induction h with
  | nil => rfl
  | cons x _ ih => simp [prodL, ih]
  | swap x y l => simp only [prodL]; rw [← Nat.mul_assoc, ← Nat.mul_assoc, Nat.mul_comm x y]
  | trans _ _ h1 h2 => rw [h1, h2]
theorem prod_all : ∀ (n : Nat) (l : List Nat), l.Nodup → (∀ x ∈ l, 1 ≤ x ∧ x ≤ n) → l.length ≤ n ∧ (l.length = n → prodL l = fac n) := by
  intro n
  induction n with
  | zero =>
    intro l _ hx
    cases l with
    | nil => exact ⟨Nat.le_refl _, fun _ => rfl⟩
    | cons a l => have := hx a (by simp); omega
  | succ n ih =>
    intro l hn hx
    by_cases hm : n + 1 ∈ l
    · have hp := List.perm_cons_erase hm
      have hlen := hp.length_eq
      have hnd : ((n + 1) :: l.erase (n + 1)).Nodup := hp.nodup_iff.1 hn
      rw [List.nodup_cons] at hnd
      have := ih (l.erase (n + 1)) hnd.2 (by
        intro x hx2
        have h3 := hx x (List.mem_of_mem_erase hx2)
        have : x ≠ n + 1 := fun h => hnd.1 (h ▸ hx2)
        omega)
      simp only [List.length_cons] at hlen
      refine ⟨by omega, fun hl => ?_⟩
      rw [prodL_perm hp]
      simp only [prodL, fac]
      rw [this.2 (by omega)]
    · have := ih l hn (by
        intro x hx2
        have h3 := hx x hx2
        have : x ≠ n + 1 := fun h => hm (h ▸ hx2)
        omega)
      exact ⟨by omega, fun hl => by omega⟩
theorem fac_not {p : Nat} (hp : Prim p) : ∀ n, n < p → ¬ p ∣ fac n := by
  intro n
  induction n with
  | zero => intro _ h; have := Nat.le_of_dvd (by decide : 0 < 1) h; have := hp.1; omega
  | succ n ih =>
    intro hn h
    rcases hp.dvd_mul h with h1 | h1
    · have := Nat.le_of_dvd (by omega) h1; omega
    · exact ih (by omega) h1
theorem prod_map (p b : Nat) : ∀ l : List Nat, (prodL (l.map fun x => b * x % p)) % p = (b ^ l.length * prodL l) % p := by
  intro l
  induction l with
  | nil => simp [prodL]
  | cons a l ih =>
    simp only [List.map_cons, prodL, List.length_cons]
    rw [Nat.mul_mod, ih, ← Nat.mul_mod, Nat.mul_mod, Nat.mod_mod, ← Nat.mul_mod]
    congr 1
    rw [Nat.pow_succ]
    simp only [Nat.mul_assoc, Nat.mul_comm, Nat.mul_left_comm]
/-- Fermat's theorem. -/
theorem fermat {p b : Nat} (hp : Prim p) (hb : ¬ p ∣ b) : p ∣ b ^ (p - 1) - 1 := by
  have h2 := hp.1
  let L := (List.range (p - 1)).map (· + 1)
  have hL : ∀ x ∈ L, 1 ≤ x ∧ x ≤ p - 1 := by
    intro x hx
    simp only [L, List.mem_map, List.mem_range] at hx
    obtain ⟨y, hy, rfl⟩ := hx
    omega
  have hnd : L.Nodup := by
    simp only [L]
    refine List.Pairwise.map _ ?_ List.nodup_range
    intro a b h; omega
  have hlen : L.length = p - 1 := by simp [L]
  have hinj : (L.map fun x => b * x % p).Nodup := by
    have : L.Pairwise (fun x y => x ≠ y ∧ (1 ≤ x ∧ x ≤ p - 1) ∧ (1 ≤ y ∧ y ≤ p - 1)) :=
      List.Pairwise.imp_of_mem (fun hx hy h => ⟨h, hL _ hx, hL _ hy⟩) hnd
    refine List.Pairwise.map _ ?_ this
    rintro x y ⟨hne, hx, hy⟩ he
    have hdv : (p : Int) ∣ (b : Int) * ((x : Int) - (y : Int)) := by
      have h3 : ((b * x % p : Nat) : Int) = ((b * y % p : Nat) : Int) := by rw [he]
      have h4 := Int.emod_emod_of_dvd
      rw [Int.mul_sub]
      refine Int.dvd_of_emod_eq_zero ?_
      rw [Int.sub_emod]
      simp only [Int.natCast_emod, Int.natCast_mul] at h3
      rw [h3]; simp
    rcases hp.idvd_mul hdv with h3 | h3
    · exact hb (Int.natCast_dvd_natCast.1 h3)
    · have h5 : p ∣ ((x : Int) - (y : Int)).natAbs := Int.ofNat_dvd_left.1 h3
      have := Nat.le_of_dvd (by omega) h5
      omega
  have hr : ∀ x ∈ (L.map fun x => b * x % p), 1 ≤ x ∧ x ≤ p - 1 := by
    intro x hx
    simp only [List.mem_map] at hx
    obtain ⟨y, hy, rfl⟩ := hx
    have h3 := hL y hy
    have h4 := Nat.mod_lt (b * y) (show 0 < p by omega)
    refine ⟨?_, by omega⟩
    rcases Nat.eq_zero_or_pos (b * y % p) with h5 | h5
    · rcases hp.dvd_mul (Nat.dvd_of_mod_eq_zero h5) with h6 | h6
      · exact absurd h6 hb
      · have := Nat.le_of_dvd (by omega) h6; omega
    · exact h5
  have e1 := (prod_all (p - 1) _ hinj hr).2 (by simp [hlen])
  have e2 := (prod_all (p - 1) L hnd hL).2 hlen
  have e3 := prod_map p b L
  rw [e1, e2, hlen] at e3
  have hb0 : 0 < b := by
    rcases Nat.eq_zero_or_pos b with h | h
    · subst h; simp at hb
    · exact h
  have hpos : 1 ≤ b ^ (p - 1) := Nat.pow_pos hb0
  have h7 : p ∣ (b ^ (p - 1) - 1) * fac (p - 1) := by
    rw [Nat.sub_mul, Nat.one_mul]
    have h9 : (p : Int) ∣ ((b ^ (p - 1) * fac (p - 1) : Nat) : Int) - ((fac (p - 1) : Nat) : Int) := by
      refine Int.dvd_of_emod_eq_zero ?_
      rw [Int.sub_emod, ← Int.natCast_emod, ← Int.natCast_emod, e3]; simp
    have hle : fac (p - 1) ≤ b ^ (p - 1) * fac (p - 1) := Nat.le_mul_of_pos_left _ hpos
    rw [← Int.natCast_sub hle] at h9
    exact Int.natCast_dvd_natCast.1 h9
  rcases hp.dvd_mul h7 with h8 | h8
  · exact h8
  · exact absurd h8 (fac_not hp _ (by omega))

/-- The polynomial x^(m+1) - 1. -/
def xp (m : Nat) : List Int := -1 :: (List.replicate m 0 ++ [1])
theorem ev_rep (m : Nat) (x : Int) : ev (List.replicate m 0 ++ [1]) x = x ^ m := by
  induction m with
  | zero => simp [ev]
  | succ m ih => simp only [List.replicate_succ, List.cons_append, ev, ih]; rw [Int.pow_succ, Int.mul_comm]; simp
theorem ev_xp (m : Nat) (x : Int) : ev (xp m) x = x ^ (m + 1) - 1 := by
  simp only [xp, ev, ev_rep]; rw [Int.pow_succ, Int.mul_comm]; omega
theorem lead_rep (m : Nat) : lead (List.replicate m 0 ++ [1]) = 1 := by
  induction m with
  | zero => rfl
  | succ m ih =>
    rw [List.replicate_succ, List.cons_append]
    cases m with
    | zero => rfl
    | succ m => rw [List.replicate_succ, List.cons_append] at ih ⊢; simp only [lead]; exact ih
theorem lead_xp (m : Nat) : lead (xp m) = 1 := by
  have h := lead_rep m
  unfold xp
  cases m with
  | zero => rfl
  | succ m => rw [List.replicate_succ, List.cons_append] at h ⊢; simp only [lead]; exact h
/-- A base whose power is a root of minus one. -/
theorem base_ex {p k : Nat} (hp : Prim p) (hk : p = 4 * k + 1) : ∃ b, 2 ≤ b ∧ b < p ∧ p ∣ (b ^ k) * (b ^ k) + 1 := by
  have h2 := hp.1
  refine Classical.byContradiction fun hno => ?_
  have hk1 : 1 ≤ k := by omega
  have hall : ∀ b : Nat, 1 ≤ b → b < p → (p : Int) ∣ (b : Int) ^ (2 * k) - 1 := by
    intro b h1 hb
    by_cases hb1 : b = 1
    · subst hb1; rw [show ((1 : Nat) : Int) = 1 from rfl, Int.one_pow]; simp
    · have hnb : ¬ p ∣ b := fun h => by have := Nat.le_of_dvd (by omega) h; omega
      have hf := fermat hp hnb
      have hpos : 1 ≤ b ^ (p - 1) := Nat.pow_pos (by omega)
      have hf2 : (p : Int) ∣ (b : Int) ^ (p - 1) - 1 := by
        have h3 : (p : Int) ∣ ((b ^ (p - 1) - 1 : Nat) : Int) := Int.natCast_dvd_natCast.2 hf
        rw [Int.natCast_sub hpos] at h3
        simpa using h3
      have h4 : (b : Int) ^ (p - 1) - 1 = ((b : Int) ^ (2 * k) - 1) * ((b : Int) ^ (2 * k) + 1) := by
        have h5 : p - 1 = 2 * k + 2 * k := by omega
        rw [h5, Int.pow_add]
        generalize (b : Int) ^ (2 * k) = y
        grind
      rw [h4] at hf2
      rcases hp.idvd_mul hf2 with h6 | h6
      · exact h6
      · exfalso
        refine hno ⟨b, by omega, hb, ?_⟩
        have h7 : (b : Int) ^ (2 * k) + 1 = (((b ^ k) * (b ^ k) + 1 : Nat) : Int) := by
          rw [show 2 * k = k + k by omega, Int.pow_add]; simp
        rw [h7] at h6
        exact Int.natCast_dvd_natCast.1 h6
  have := roots_few hp (2 * k) (xp (2 * k - 1)) ((List.range (p - 1)).map fun (i : Nat) => ((i : Int) + 1)) (by simp [xp]; omega)
    (by rw [lead_xp]; intro h; have := Int.le_of_dvd (by omega) h; omega)
    (by
      have hl := List.pairwise_lt_range (n := p - 1)
      refine List.Pairwise.map _ (R := fun a b : Nat => a < b ∧ b < p - 1) ?_ (List.Pairwise.imp_of_mem (fun _ hy h => ⟨h, List.mem_range.1 hy⟩) hl)
      rintro a b ⟨hab, hb⟩ h
      have := Int.le_of_dvd (by omega) h
      omega)
    (by
      intro r hr
      simp only [List.mem_map, List.mem_range] at hr
      obtain ⟨i, hi, rfl⟩ := hr
      rw [ev_xp]
      have h3 := hall (i + 1) (by omega) (by omega)
      rw [show 2 * k - 1 + 1 = 2 * k by omega]
      simpa using h3)
  simp at this
  omega
end Go.Proofs.Ytofmmegpadojlaa.Sq
