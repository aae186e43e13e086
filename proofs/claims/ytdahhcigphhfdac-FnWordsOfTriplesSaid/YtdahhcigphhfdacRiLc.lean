/- Right triples: words and triples tell each other, words and ranks tell each other: arithmetic. -/
import Derived.Test.YtdahhcigphhfdacRiLa
import Derived.Test.YtdahhcigphhfdacRiNc
namespace Go.Proofs.Ytdahhcigphhfdac
open Go.RowKit

section
variable {T : Nat → St} {C : Int → Int → Int → Int × Int} {U : Int → Int → Int × Int × Int}
theorem foldP_word (t : Tree T C U) : ∀ (ks : List Int) (m n A B : Int), (∀ k ∈ ks, 0 ≤ k ∧ k ≤ 2) → Pair m n → foldP C ks m n = some (A, B) → Pair A B ∧ riwL U A B = ks.reverse ++ riwL U m n := by
  intro ks
  induction ks with
  | nil =>
    intro m n A B _ hp h
    simp only [foldP, Option.some.injEq, Prod.mk.injEq] at h
    obtain ⟨rfl, rfl⟩ := h
    exact ⟨hp, rfl⟩
  | cons k ks ih =>
    intro m n A B hk hp h
    unfold foldP at h
    split at h
    · rename_i hc
      have hpc := pairB_iff.1 hc
      obtain ⟨k0, k2⟩ := hk k (List.mem_cons_self ..)
      obtain ⟨j, rfl⟩ : ∃ j : Nat, k = (j : Int) := ⟨k.toNat, by omega⟩
      obtain ⟨hu, h2⟩ := t.only j m n (by omega) hp.toValid
      obtain ⟨h3, h4⟩ := ih _ _ A B (fun x hx => hk x (List.mem_cons_of_mem _ hx)) hpc h
      refine ⟨h3, ?_⟩
      rw [h4, t.riwL_step hpc h2, hu]
      simp
    · cases h
theorem foldP_snoc (k : Int) : ∀ (l : List Int) (x y a b : Int), foldP C l x y = some (a, b) → pairB (C a b k).1 (C a b k).2 = true → foldP C (l ++ [k]) x y = some (C a b k) := by
  intro l
  induction l with
  | nil =>
    intro x y a b h hp
    simp only [foldP, Option.some.injEq, Prod.mk.injEq] at h
    obtain ⟨rfl, rfl⟩ := h
    show (if pairB (C x y k).1 (C x y k).2 = true then _ else none) = _
    rw [if_pos hp]
    rfl
  | cons z l ih =>
    intro x y a b h hp
    unfold foldP at h
    split at h
    · rename_i hc
      show (if pairB (C x y z).1 (C x y z).2 = true then foldP C (l ++ [k]) (C x y z).1 (C x y z).2 else none) = _
      rw [if_pos hc]
      exact ih _ _ a b h hp
    · cases h
theorem foldP_back (t : Tree T C U) : ∀ (f : Nat) (m n : Int), m.toNat ≤ f → Pair m n → foldP C (riwL U m n).reverse 2 1 = some (m, n) := by
  intro f
  induction f with
  | zero => intro m n hf hp; have := hp.h1; have := hp.h2; omega
  | succ f ih =>
    intro m n hf hp
    by_cases hm : m ≤ 2
    · have h := (pair_small hp).1 hm
      obtain ⟨rfl, rfl⟩ := h
      rw [riwL_root _ _ (by omega)]
      rfl
    · obtain ⟨u1, u2, u3⟩ := t.up m n hp (by omega)
      rw [t.riwL_step hp (by omega), List.reverse_cons]
      have h := foldP_snoc (C := C) (U m n).2.2 _ 2 1 _ _ (ih (U m n).1 (U m n).2.1 (by omega) u1) (by rw [u2]; exact hp.yes)
      rw [h, u2]
theorem riwF_in (t : Tree T C U) : ∀ (f : Nat) (m n : Int), ∀ z ∈ riwF U f m n, 0 ≤ z ∧ z ≤ 2 := by
  intro f
  induction f with
  | zero => intro m n z hz; simp [riwF] at hz
  | succ f ih =>
    intro m n z hz
    unfold riwF at hz
    split at hz
    · cases hz
    · rw [List.mem_cons] at hz
      rcases hz with rfl | hz
      · obtain ⟨h1, h2⟩ := t.idx m n; omega
      · exact ih _ _ z hz
theorem word_of_by (t : Tree T C U) {zs x : List Int} (h : byWordAns C zs = some x) : wordAns U x = some zs := by
  unfold byWordAns at h
  split at h
  · rename_i hw
    cases hf : foldP C zs 2 1 with
    | none => rw [hf] at h; cases h
    | some p =>
      obtain ⟨A, B⟩ := p
      rw [hf] at h
      simp only [Option.map_some, Option.some.injEq] at h
      obtain ⟨h1, h2⟩ := foldP_word t zs 2 1 A B (by
        intro k hk
        unfold wordR at hw
        rw [Bool.and_eq_true, List.all_eq_true] at hw
        have := hw.2 k hk
        simp only [within, Bool.and_eq_true, decide_eq_true_eq] at this
        omega) pair21 hf
      unfold wordAns
      rw [← h, right_sides h1]
      simp only [Option.map_some]
      rw [h2, riwL_root 2 1 (by omega)]
      simp
  · cases h
theorem by_of_word (t : Tree T C U) {x ws : List Int} (h : wordAns U x = some ws) (hl : ws.length ≤ 40) : byWordAns C ws = some x := by
  unfold wordAns at h
  cases hr : rightP x with
  | none => rw [hr] at h; cases h
  | some p =>
    obtain ⟨m, n⟩ := p
    rw [hr] at h
    simp only [Option.map_some, Option.some.injEq] at h
    obtain ⟨hp, hx⟩ := right_some hr
    unfold byWordAns
    rw [if_pos]
    · rw [← h, foldP_back t m.toNat m n (Nat.le_refl _) hp, hx]; rfl
    · unfold wordR
      rw [Bool.and_eq_true, List.all_eq_true]
      refine ⟨decide_eq_true hl, fun k hk => ?_⟩
      rw [← h, List.mem_reverse] at hk
      have := riwF_in t _ _ _ k hk
      simp only [within, Bool.and_eq_true, decide_eq_true_eq]
      omega
theorem wordAns_is {x : List Int} : (wordAns U x).isSome = (rightP x).isSome := by
  unfold wordAns; cases rightP x <;> rfl
end
theorem lowL_val (ys : List Int) : tri ys → lowL ys.length (valL ys.reverse).toNat = ys := by
  induction ys with
  | nil => intro _; rfl
  | cons k ys ih =>
    intro ht
    have hk := ht k (List.mem_cons_self ..)
    have ht' : tri ys := fun z hz => ht z (List.mem_cons_of_mem _ hz)
    obtain ⟨v0, _⟩ := valL_bd ys.reverse (fun z hz => ht' z (List.mem_reverse.1 hz))
    rw [List.reverse_cons, valL_snoc, List.length_cons]
    show (((3 * valL ys.reverse + k).toNat % 3 : Nat) : Int) :: lowL ys.length ((3 * valL ys.reverse + k).toNat / 3) = _
    rw [show (3 * valL ys.reverse + k).toNat / 3 = (valL ys.reverse).toNat by omega, ih ht']
    congr 1
    omega
theorem val_lowL (n : Nat) : ∀ x : Nat, x < 3 ^ n → valL (lowL n x).reverse = x ∧ tri (lowL n x) := by
  induction n with
  | zero => intro x hx; obtain rfl : x = 0 := by simpa using hx
            exact ⟨rfl, fun z hz => by cases hz⟩
  | succ n ih =>
    intro x hx
    rw [Nat.pow_succ] at hx
    obtain ⟨h1, h2⟩ := ih (x / 3) (by omega)
    show valL ((((x % 3 : Nat) : Int)) :: lowL n (x / 3)).reverse = x ∧ _
    rw [List.reverse_cons, valL_snoc, h1]
    refine ⟨by omega, fun z hz => ?_⟩
    rcases List.mem_cons.1 hz with rfl | hz
    · omega
    · exact h2 z hz
theorem rank_back {zs : List Int} {r : Int} (h : rankAns zs = some r) : wrAns r = some zs := by
  unfold rankAns at h
  split at h
  · rename_i hc
    injection h with h
    have ht : tri zs := by have := tri_take hc.2 zs.length; rwa [List.take_length] at this
    obtain ⟨v0, v1⟩ := valL_bd zs ht
    have e := rankL_eq zs
    have p := short_pow zs.length
    have s1 : shortN (zs.length + 1) = 3 * shortN zs.length + 1 := rfl
    have s19 := short_le (show zs.length + 1 ≤ 19 by omega)
    rw [short19] at s19
    obtain ⟨q, rfl⟩ : ∃ q : Nat, r = (q : Int) := ⟨r.toNat, by omega⟩
    rw [wrAns_yes (n := zs.length) (by omega) (by omega) (by omega)]
    have hv : q - shortN zs.length = (valL zs.reverse.reverse).toNat := by rw [List.reverse_reverse]; omega
    have hl := lowL_val zs.reverse (fun z hz => ht z (List.mem_reverse.1 hz))
    rw [List.length_reverse] at hl
    rw [hv, hl, List.reverse_reverse]
  · cases h
theorem rank_of {r : Int} {ws : List Int} (h : wrAns r = some ws) : rankAns ws = some r := by
  have h0 : 0 ≤ r ∧ r < 581130733 := by
    unfold wrAns at h
    split at h
    · assumption
    · cases h
  obtain ⟨q, rfl⟩ : ∃ q : Nat, r = (q : Int) := ⟨r.toNat, by omega⟩
  obtain ⟨n, h1, h2⟩ := short_at q
  have hn : n ≤ 18 := by
    apply Nat.le_of_not_gt
    intro hh
    have := short_le (show 19 ≤ n by omega)
    rw [short19] at this
    omega
  rw [wrAns_yes h1 h2 (by omega)] at h
  injection h with h
  have hx := rank_rest h1 h2
  obtain ⟨hv, ht⟩ := val_lowL n (q - shortN n) hx
  have hl : ws.length = n := by rw [← h, List.length_reverse, lowL_len]
  unfold rankAns
  rw [if_pos]
  · rw [rankL_eq, hl, ← h, hv]
    congr 1
    omega
  · refine ⟨by omega, ?_⟩
    rw [List.all_eq_true]
    intro z hz
    rw [← h, List.mem_reverse] at hz
    have := ht z hz
    simp only [within, Bool.and_eq_true, decide_eq_true_eq]
    omega
end Go.Proofs.Ytdahhcigphhfdac
