/- HuOr, HuPu: in one text. -/
import Derived.Test.YtoaopmafokoaoaaHuDlx
import Derived.Test.YtoaopmafokoaoaaSqTr
import Derived.Test.YtoaopmafokoaoaaHuWu
import Derived.Deep.RegionHeld3
namespace Go.Proofs.Ytoaopmafokoaoaa
open Go.RowKit


def befL : List Int → List Int → Bool
  | x :: xs, y :: ys => if x ≠ y then decide (x < y) else befL xs ys
  | [], ys => decide (0 < ys.length)
  | _ :: _, [] => false
def putK (L : List (List Int)) (a : List Int) : Nat := (L.takeWhile fun l => befL l a).length
def putL (L : List (List Int)) (a : List Int) : List (List Int) := if L.getD (putK L a) [] = a ∧ putK L a < L.length then L else L.take (putK L a) ++ a :: L.drop (putK L a)
theorem befL_irr (xs : List Int) : befL xs xs = false := by
  induction xs with
  | nil => rfl
  | cons x xs ih => simp [befL, ih]
theorem befL_trans : ∀ {xs ys zs : List Int}, befL xs ys = true → befL ys zs = true → befL xs zs = true := by
  intro xs
  induction xs with
  | nil =>
    intro ys zs h1 h2
    cases ys with
    | nil => simp [befL] at h1
    | cons y ys =>
      cases zs with
      | nil => simp [befL] at h2
      | cons z zs => simp [befL]
  | cons x xs ih =>
    intro ys zs h1 h2
    cases ys with
    | nil => simp [befL] at h1
    | cons y ys =>
      cases zs with
      | nil => simp [befL] at h2
      | cons z zs =>
        unfold befL at h1 h2 ⊢
        by_cases hxy : x = y
        · subst hxy
          by_cases hyz : x = z
          · subst hyz; simp at h1 h2 ⊢; exact ih h1 h2
          · simp [hyz] at h2 ⊢; exact h2
        · by_cases hyz : y = z
          · subst hyz; simp [hxy] at h1 ⊢; exact h1
          · simp [hxy] at h1; simp [hyz] at h2
            have : x ≠ z := by omega
            simp [this]; omega
def cntV (v : Int) (xs : List Int) : Nat := (xs.filter fun x => decide (v ≤ x)).length
theorem cntV_perm (v : Int) {xs ys : List Int} (h : xs.Perm ys) : cntV v xs = cntV v ys := (h.filter _).length_eq
theorem cntV_cons (v x : Int) (xs : List Int) : cntV v (x :: xs) = (if v ≤ x then 1 else 0) + cntV v xs := by
  unfold cntV
  by_cases h : v ≤ x
  · simp [h]; omega
  · simp [h]
/-- Two rows that fall, one below the other by counting: the second one is not ahead. -/
theorem befL_dom : ∀ {P Q : List Int}, P.length = Q.length → Dn P → Dn Q → (∀ v, cntV v P ≤ cntV v Q) → befL Q P = false ∧ (P ≠ Q → befL P Q = true) := by
  intro P
  induction P with
  | nil => intro Q hl _ _ _; cases Q <;> simp_all [befL]
  | cons p P ih =>
    intro Q hl hP hQ hc
    cases Q with
    | nil => simp at hl
    | cons q Q =>
      have hpq : p ≤ q := by
        apply Decidable.byContradiction
        intro hlt
        have h1 := hc p
        rw [cntV_cons, cntV_cons, if_pos (Int.le_refl _), if_neg (by omega)] at h1
        have h2 : cntV p Q = 0 := by
          unfold cntV
          rw [List.length_eq_zero_iff, List.filter_eq_nil_iff]
          intro x hx
          have := (List.pairwise_cons.1 hQ).1 x hx
          simp; omega
        omega
      by_cases he : p = q
      · subst he
        have h2 := ih (by simpa using hl) (List.pairwise_cons.1 hP).2 (List.pairwise_cons.1 hQ).2 (fun v => by have := hc v; rw [cntV_cons, cntV_cons] at this; omega)
        refine ⟨by simp [befL, h2.1], fun hne => ?_⟩
        simp [befL]
        exact h2.2 (fun e => hne (by rw [e]))
      · have : q ≠ p := fun e => he e.symm
        refine ⟨by simp [befL, this]; omega, fun _ => by simp [befL, he]; omega⟩
theorem Dn.getD {zs : List Int} (h : Dn zs) {i k : Nat} (hik : i ≤ k) (hk : k < zs.length) : zs.getD k 0 ≤ zs.getD i 0 := by
  rcases Nat.lt_or_ge i k with hlt | hge
  · have := List.pairwise_iff_getElem.1 h i k (by omega) hk hlt
    simpa [hk, show i < zs.length by omega] using this
  · have : i = k := by omega
    rw [this]; exact Int.le_refl _
/-- A later branch is not ahead of an earlier one. -/
theorem branch_dom {zs : List Int} {a b : Int} (hS : Sol zs a b) {i k : Nat} (hik : i < k) (hk : k < zs.length) {ys us : List Int} (hi : jumpL a zs i = some ys) (hj : jumpL a zs k = some us) : ∀ v, cntV v ys ≤ cntV v us := by
  have hd : Dn zs := ((fallB_iff (by omega)).1 hS.hf).1
  have hz := hd.getD (Nat.le_of_lt hik) hk
  have h1 : ∀ j, j < zs.length → ∀ x, ∀ r, jumpL a zs j = some x → r = othL a zs j → x.Perm (r :: zs.eraseIdx j) := by
    intro j hj2 x r hx hr
    unfold jumpL at hx
    split at hx
    · simp only [Option.some.injEq] at hx
      rw [← hx, hr]
      exact (sortD_perm _).trans (set_perm_erase zs j hj2 _)
    · simp at hx
  have hr : othL a zs i ≤ othL a zs k := by
    have e1 := prodL_erase zs i (by omega)
    have e2 := prodL_erase zs k hk
    have hpi : prodL (zs.eraseIdx i) ≤ prodL (zs.eraseIdx k) := by
      have p1 : 1 ≤ zs.getD i 0 := (hS.in5 _ (by simp [show i < zs.length by omega])).1
      have p2 : 1 ≤ zs.getD k 0 := (hS.in5 _ (by simp [hk])).1
      have e3 : zs.getD i 0 * prodL (zs.eraseIdx i) = zs.getD k 0 * prodL (zs.eraseIdx k) := by rw [← e1, ← e2]
      apply Decidable.byContradiction
      intro hc
      have hpos : 0 ≤ prodL (zs.eraseIdx k) := by
        apply Decidable.byContradiction
        intro h0
        have : 1 ≤ prodL zs := by
          have : ∀ l : List Int, In5 l → 1 ≤ prodL l := by
            intro l
            induction l with
            | nil => intro _; simp [prodL]
            | cons z l ih =>
              intro hl
              have := ih hl.tail
              have hz1 := (hl z (by simp)).1
              show 1 ≤ z * prodL l
              have := Int.mul_le_mul_of_nonneg_right hz1 (show 0 ≤ prodL l by omega)
              omega
          exact this zs hS.in5
        have : zs.getD k 0 * prodL (zs.eraseIdx k) ≤ 0 := Int.mul_nonpos_of_nonneg_of_nonpos (by omega) (by omega)
        omega
      have h5 : zs.getD k 0 * prodL (zs.eraseIdx k) ≤ zs.getD i 0 * prodL (zs.eraseIdx k) := Int.mul_le_mul_of_nonneg_right hz hpos
      have h6 : zs.getD i 0 * prodL (zs.eraseIdx k) < zs.getD i 0 * prodL (zs.eraseIdx i) := Int.mul_lt_mul_of_pos_left (by omega) (by omega)
      omega
    unfold othL restP
    have ha := hS.ha
    have := Int.mul_le_mul_of_nonneg_left hpi (show 0 ≤ a by omega)
    omega
  intro v
  rw [cntV_perm v (h1 i (by omega) ys _ hi rfl), cntV_perm v (h1 k hk us _ hj rfl), cntV_cons, cntV_cons]
  have q1 := cntV_perm v (erase_perm zs i (by omega))
  have q2 := cntV_perm v (erase_perm zs k hk)
  rw [cntV_cons] at q1 q2
  rw [show zs[i] = zs.getD i 0 by simp [show i < zs.length by omega]] at q1
  rw [show zs[k] = zs.getD k 0 by simp [hk]] at q2
  split at q1 <;> split at q2 <;> split <;> split <;> omega


theorem befL_at : ∀ {xs ys : List Int} {k : Nat}, xs.take k = ys.take k → k < xs.length → k < ys.length → xs.getD k 0 ≠ ys.getD k 0 → befL xs ys = decide (xs.getD k 0 < ys.getD k 0) := by
  intro xs
  induction xs with
  | nil => intro ys k _ h; simp at h
  | cons x xs ih =>
    intro ys k ht h1 h2 hne
    cases ys with
    | nil => simp at h2
    | cons y ys =>
      cases k with
      | zero => have hne' : x ≠ y := by simpa using hne
                unfold befL; rw [if_pos hne']; rfl
      | succ k =>
        simp only [List.take_succ_cons, List.cons.injEq] at ht
        unfold befL
        rw [if_neg (by simp [ht.1])]
        exact ih ht.2 (by simpa using h1) (by simpa using h2) (by simpa using hne)
theorem befL_end : ∀ {xs ys : List Int} {k : Nat}, xs.take k = ys.take k → k ≤ xs.length → k ≤ ys.length → (k = xs.length ∨ k = ys.length) → befL xs ys = decide (xs.length < ys.length) := by
  intro xs
  induction xs with
  | nil => intro ys k _ _ _ _; rfl
  | cons x xs ih =>
    intro ys k ht h1 h2 h3
    cases ys with
    | nil => simp [befL]
    | cons y ys =>
      cases k with
      | zero => simp at h3
      | succ k =>
        simp only [List.take_succ_cons, List.cons.injEq] at ht
        unfold befL
        rw [if_neg (by simp [ht.1]), ih ht.2 (by simpa using h1) (by simpa using h2) (by simpa using h3)]
        simp
set_option maxRecDepth 20000 in
set_option maxHeartbeats 1000000 in
theorem huBefore_any (u v : Value) (xs ys : List Int) (w : World) (hx : Ints w u xs) (hy : Ints w v ys) :
    Calls Try.prog 110 #[u, v] w fun e w' => e = .returned (.bool (befL xs ys)) ∧ Drew w w' := by
  obtain ⟨a, cap, rfl, hl, hc⟩ := hx
  obtain ⟨b, cap2, rfl, hl2, hc2⟩ := hy
  have HC := hid hc
  have HC2 := hid hc2
  have HAT := hid (fun k => befL_at (xs := xs) (ys := ys) (k := k))
  have HEND := hid (fun k => befL_end (xs := xs) (ys := ys) (k := k))
  obtain ⟨B, hB⟩ : ∃ B, befL xs ys = B := ⟨_, rfl⟩
  rw [hB] at HAT HEND ⊢
  clear hc hc2 hB
  go_enter Try.func110, Try.ntmps110
  go_wp2_with fail
  go_loopw [5] (fun i wr => ∃ k n : Nat, k ≤ xs.length ∧ k ≤ ys.length ∧ i = .int .i64 k ∧ xs.take k = ys.take k ∧ wr = w.drewN n) (fun i _ => xs.length - (intOf i).toNat)
  case atStart => exact ⟨0, 0, Nat.zero_le _, Nat.zero_le _, rfl, rfl, rfl⟩
  case round =>
    obtain ⟨k, n, hk, hk2, rfl, heq, rfl⟩ := hrel
    have HE := hid heq; clear heq
    by_cases hlt : k < xs.length
    · by_cases hlt2 : k < ys.length
      · obtain ⟨ad, rfl, hcell⟩ := HC.out k hlt
        obtain ⟨ad2, rfl, hcell2⟩ := HC2.out k hlt2
        have hi1 : (k : Int) < (xs.length : Int) := by omega
        have hi2 : (k : Int) < (ys.length : Int) := by omega
        have HT1 := hid (take_snoc xs k hlt)
        have HT2 := hid (take_snoc ys k hlt2)
        have HATk := hid (HAT.out k HE.out hlt hlt2)
        rw [show xs[k] = xs.getD k 0 by simp [hlt]] at HT1
        rw [show ys[k] = ys.getD k 0 by simp [hlt2]] at HT2
        obtain ⟨x, hxx⟩ : ∃ x, xs.getD k 0 = x := ⟨_, rfl⟩
        obtain ⟨y, hyy⟩ : ∃ y, ys.getD k 0 = y := ⟨_, rfl⟩
        rw [hxx] at hcell HT1 HATk
        rw [hyy] at hcell2 HT2 HATk
        clear hxx hyy
        by_cases hv : x = y
        · have HV := hid hv
          have hb : (x != y) = false := by simp [hv]
          clear hv
          go_wp2
          go_quiet (fail)
          go_wp2
          go_roundw
          case rel => exact ⟨k + 1, n + nq, hlt, hlt2, by go_num, by rw [HT1.out, HT2.out, HE.out, HV.out], by simp⟩
          case measure => simp [intOf]; omega
        · have hb : (x != y) = true := by simp [hv]
          have HN := hid (HATk.out hv); clear hv
          go_wp2
          go_quiet (fail)
          go_wp2
          go_quiet (fail)
          go_wp2
          go_ret
          exact ⟨ret_bool HN.out.symm, ⟨_, by simp; rfl⟩⟩
      · have hk3 : k = ys.length := by omega
        have HN := hid (HEND.out k HE.out hk hk2 (.inr hk3))
        have hi1 : (k : Int) < (xs.length : Int) := by omega
        have hi2 : ¬ (k : Int) < (ys.length : Int) := by omega
        clear hk3
        go_wp2
        go_ret
        exact ⟨ret_bool (by rw [HN.out]), ⟨n, rfl⟩⟩
    · have hk3 : k = xs.length := by omega
      have HN := hid (HEND.out k HE.out hk hk2 (.inl hk3))
      have hi1 : ¬ (k : Int) < (xs.length : Int) := by omega
      clear hk3
      go_wp2
      go_ret
      exact ⟨ret_bool (by rw [HN.out]), ⟨n, rfl⟩⟩
theorem huBefore_as {u v : Value} {xs ys : List Int} {w : World} {b : Bool} (hb : befL xs ys = b) (hx : Ints w u xs) (hy : Ints w v ys) :
    Calls Try.prog 110 #[u, v] w fun e w' => e = .returned (.bool b) ∧ Drew w w' := by
  subst hb; exact huBefore_any u v xs ys w hx hy
end Go.Proofs.Ytoaopmafokoaoaa
