/- HuOr, HuPu, HuPv, HuUp, HuFa, HuFs, HuFt, HuEf, HuSo, HuSp, HuSq, LawSolutionsUpTo, LawFundamentalsUpTo: in one text. -/
import Derived.Test.YtjnhhjnfdaaaeaaHuCp
import Derived.Test.YtjnhhjnfdaaaeaaSame
import Derived.Test.YtjnhhjnfdaaaeaaHuWu
import Derived.Deep.RegionHeld3
import Derived.Test.YtjnhhjnfdaaaeaaHuDl
import Derived.Test.YtjnhhjnfdaaaeaaHuY
import Derived.Test.YtjnhhjnfdaaaeaaHuTr
import Derived.Test.YtjnhhjnfdaaaeaaHuDm
import Derived.Test.YtjnhhjnfdaaaeaaHuDi
import Derived.Test.YtjnhhjnfdaaaeaaAns2
import Derived.Deep.DeepCutAuto
namespace Go.Proofs.Ytjnhhjnfdaaaeaa
open Go.RowKit


def befL : List Int → List Int → Bool
  | x :: xs, y :: ys => if x ≠ y then decide (x < y) else befL xs ys
  | [], ys => decide (0 < ys.length)
  | _ :: _, [] => false
def putK (L : List (List Int)) (a : List Int) : Nat := (L.takeWhile fun l => befL l a).length
def putL (L : List (List Int)) (a : List Int) : List (List Int) := if L.getD (putK L a) [] = a ∧ putK L a < L.length then L else L.take (putK L a) ++ a :: L.drop (putK L a)
theorem befL_irr (xs : List Int) : befL xs xs = false := by
  induction xs with
  | nil => rfl
  | cons x xs ih => simp [befL, ih]
theorem befL_trans : ∀ {xs ys zs : List Int}, befL xs ys = true → befL ys zs = true → befL xs zs = true := by
  intro xs
  induction xs with
  | nil =>
    intro ys zs h1 h2
    cases ys with
    | nil => simp [befL] at h1
    | cons y ys =>
      cases zs with
      | nil => simp [befL] at h2
      | cons z zs => simp [befL]
  | cons x xs ih =>
    intro ys zs h1 h2
    cases ys with
    | nil => simp [befL] at h1
    | cons y ys =>
      cases zs with
      | nil => simp [befL] at h2
      | cons z zs =>
        unfold befL at h1 h2 ⊢
        by_cases hxy : x = y
        · subst hxy
          by_cases hyz : x = z
          · subst hyz; simp at h1 h2 ⊢; exact ih h1 h2
          · simp [hyz] at h2 ⊢; exact h2
        · by_cases hyz : y = z
          · subst hyz; simp [hxy] at h1 ⊢; exact h1
          · simp [hxy] at h1; simp [hyz] at h2
            have : x ≠ z := by omega
            simp [this]; omega
def cntV (v : Int) (xs : List Int) : Nat := (xs.filter fun x => decide (v ≤ x)).length
theorem cntV_perm (v : Int) {xs ys : List Int} (h : xs.Perm ys) : cntV v xs = cntV v ys := (h.filter _).length_eq
theorem cntV_cons (v x : Int) (xs : List Int) : cntV v (x :: xs) = (if v ≤ x then 1 else 0) + cntV v xs := by
  unfold cntV
  by_cases h : v ≤ x
  · simp [h]; omega
  · simp [h]
/-- Two rows that fall, one below the other by counting: the second one is not ahead. -/
theorem befL_dom : ∀ {P Q : List Int}, P.length = Q.length → Dn P → Dn Q → (∀ v, cntV v P ≤ cntV v Q) → befL Q P = false ∧ (P ≠ Q → befL P Q = true) := by
  intro P
  induction P with
  | nil => intro Q hl _ _ _; cases Q <;> simp_all [befL]
  | cons p P ih =>
    intro Q hl hP hQ hc
    cases Q with
    | nil => simp at hl
    | cons q Q =>
      have hpq : p ≤ q := by
        apply Decidable.byContradiction
        intro hlt
        have h1 := hc p
        rw [cntV_cons, cntV_cons, if_pos (Int.le_refl _), if_neg (by omega)] at h1
        have h2 : cntV p Q = 0 := by
          unfold cntV
          rw [List.length_eq_zero_iff, List.filter_eq_nil_iff]
          intro x hx
          have := (List.pairwise_cons.1 hQ).1 x hx
          simp; omega
        omega
      by_cases he : p = q
      · subst he
        have h2 := ih (by simpa using hl) (List.pairwise_cons.1 hP).2 (List.pairwise_cons.1 hQ).2 (fun v => by have := hc v; rw [cntV_cons, cntV_cons] at this; omega)
        refine ⟨by simp [befL, h2.1], fun hne => ?_⟩
        simp [befL]
        exact h2.2 (fun e => hne (by rw [e]))
      · have : q ≠ p := fun e => he e.symm
        refine ⟨by simp [befL, this]; omega, fun _ => by simp [befL, he]; omega⟩
theorem Dn.getD {zs : List Int} (h : Dn zs) {i k : Nat} (hik : i ≤ k) (hk : k < zs.length) : zs.getD k 0 ≤ zs.getD i 0 := by
  rcases Nat.lt_or_ge i k with hlt | hge
  · have := List.pairwise_iff_getElem.1 h i k (by omega) hk hlt
    simpa [hk, show i < zs.length by omega] using this
  · have : i = k := by omega
    rw [this]; exact Int.le_refl _
/-- A later branch is not ahead of an earlier one. -/
theorem branch_dom {zs : List Int} {a b : Int} (hS : Sol zs a b) {i k : Nat} (hik : i < k) (hk : k < zs.length) {ys us : List Int} (hi : jumpL a zs i = some ys) (hj : jumpL a zs k = some us) : ∀ v, cntV v ys ≤ cntV v us := by
  have hd : Dn zs := ((fallB_iff (by omega)).1 hS.hf).1
  have hz := hd.getD (Nat.le_of_lt hik) hk
  have h1 : ∀ j, j < zs.length → ∀ x, ∀ r, jumpL a zs j = some x → r = othL a zs j → x.Perm (r :: zs.eraseIdx j) := by
    intro j hj2 x r hx hr
    unfold jumpL at hx
    split at hx
    · simp only [Option.some.injEq] at hx
      rw [← hx, hr]
      exact (sortD_perm _).trans (set_perm_erase zs j hj2 _)
    · simp at hx
  have hr : othL a zs i ≤ othL a zs k := by
    have e1 := prodL_erase zs i (by omega)
    have e2 := prodL_erase zs k hk
    have hpi : prodL (zs.eraseIdx i) ≤ prodL (zs.eraseIdx k) := by
      have p1 : 1 ≤ zs.getD i 0 := (hS.in5 _ (by simp [show i < zs.length by omega])).1
      have p2 : 1 ≤ zs.getD k 0 := (hS.in5 _ (by simp [hk])).1
      have e3 : zs.getD i 0 * prodL (zs.eraseIdx i) = zs.getD k 0 * prodL (zs.eraseIdx k) := by rw [← e1, ← e2]
      apply Decidable.byContradiction
      intro hc
      have hpos : 0 ≤ prodL (zs.eraseIdx k) := by
        apply Decidable.byContradiction
        intro h0
        have : 1 ≤ prodL zs := by
          have : ∀ l : List Int, In5 l → 1 ≤ prodL l := by
            intro l
            induction l with
            | nil => intro _; simp [prodL]
            | cons z l ih =>
              intro hl
              have := ih hl.tail
              have hz1 := (hl z (by simp)).1
              show 1 ≤ z * prodL l
              have := Int.mul_le_mul_of_nonneg_right hz1 (show 0 ≤ prodL l by omega)
              omega
          exact this zs hS.in5
        have : zs.getD k 0 * prodL (zs.eraseIdx k) ≤ 0 := Int.mul_nonpos_of_nonneg_of_nonpos (by omega) (by omega)
        omega
      have h5 : zs.getD k 0 * prodL (zs.eraseIdx k) ≤ zs.getD i 0 * prodL (zs.eraseIdx k) := Int.mul_le_mul_of_nonneg_right hz hpos
      have h6 : zs.getD i 0 * prodL (zs.eraseIdx k) < zs.getD i 0 * prodL (zs.eraseIdx i) := Int.mul_lt_mul_of_pos_left (by omega) (by omega)
      omega
    unfold othL restP
    have ha := hS.ha
    have := Int.mul_le_mul_of_nonneg_left hpi (show 0 ≤ a by omega)
    omega
  intro v
  rw [cntV_perm v (h1 i (by omega) ys _ hi rfl), cntV_perm v (h1 k hk us _ hj rfl), cntV_cons, cntV_cons]
  have q1 := cntV_perm v (erase_perm zs i (by omega))
  have q2 := cntV_perm v (erase_perm zs k hk)
  rw [cntV_cons] at q1 q2
  rw [show zs[i] = zs.getD i 0 by simp [show i < zs.length by omega]] at q1
  rw [show zs[k] = zs.getD k 0 by simp [hk]] at q2
  split at q1 <;> split at q2 <;> split <;> split <;> omega


theorem befL_at : ∀ {xs ys : List Int} {k : Nat}, xs.take k = ys.take k → k < xs.length → k < ys.length → xs.getD k 0 ≠ ys.getD k 0 → befL xs ys = decide (xs.getD k 0 < ys.getD k 0) := by
  intro xs
  induction xs with
  | nil => intro ys k _ h; simp at h
  | cons x xs ih =>
    intro ys k ht h1 h2 hne
    cases ys with
    | nil => simp at h2
    | cons y ys =>
      cases k with
      | zero => have hne' : x ≠ y := by simpa using hne
                unfold befL; rw [if_pos hne']; rfl
      | succ k =>
        simp only [List.take_succ_cons, List.cons.injEq] at ht
        unfold befL
        rw [if_neg (by simp [ht.1])]
        exact ih ht.2 (by simpa using h1) (by simpa using h2) (by simpa using hne)
theorem befL_end : ∀ {xs ys : List Int} {k : Nat}, xs.take k = ys.take k → k ≤ xs.length → k ≤ ys.length → (k = xs.length ∨ k = ys.length) → befL xs ys = decide (xs.length < ys.length) := by
  intro xs
  induction xs with
  | nil => intro ys k _ _ _ _; rfl
  | cons x xs ih =>
    intro ys k ht h1 h2 h3
    cases ys with
    | nil => simp [befL]
    | cons y ys =>
      cases k with
      | zero => simp at h3
      | succ k =>
        simp only [List.take_succ_cons, List.cons.injEq] at ht
        unfold befL
        rw [if_neg (by simp [ht.1]), ih ht.2 (by simpa using h1) (by simpa using h2) (by simpa using h3)]
        simp
set_option maxRecDepth 20000 in
set_option maxHeartbeats 1000000 in
theorem huBefore_any (u v : Value) (xs ys : List Int) (w : World) (hx : Ints w u xs) (hy : Ints w v ys) :
    Calls Try.prog 100 #[u, v] w fun e w' => e = .returned (.bool (befL xs ys)) ∧ Drew w w' := by
  obtain ⟨a, cap, rfl, hl, hc⟩ := hx
  obtain ⟨b, cap2, rfl, hl2, hc2⟩ := hy
  have HC := hid hc
  have HC2 := hid hc2
  have HAT := hid (fun k => befL_at (xs := xs) (ys := ys) (k := k))
  have HEND := hid (fun k => befL_end (xs := xs) (ys := ys) (k := k))
  obtain ⟨B, hB⟩ : ∃ B, befL xs ys = B := ⟨_, rfl⟩
  rw [hB] at HAT HEND ⊢
  clear hc hc2 hB
  go_enter Try.func100, Try.ntmps100
  go_wp2_with fail
  go_loopw [5] (fun i wr => ∃ k n : Nat, k ≤ xs.length ∧ k ≤ ys.length ∧ i = .int .i64 k ∧ xs.take k = ys.take k ∧ wr = w.drewN n) (fun i _ => xs.length - (intOf i).toNat)
  case atStart => exact ⟨0, 0, Nat.zero_le _, Nat.zero_le _, rfl, rfl, rfl⟩
  case round =>
    obtain ⟨k, n, hk, hk2, rfl, heq, rfl⟩ := hrel
    have HE := hid heq; clear heq
    by_cases hlt : k < xs.length
    · by_cases hlt2 : k < ys.length
      · obtain ⟨ad, rfl, hcell⟩ := HC.out k hlt
        obtain ⟨ad2, rfl, hcell2⟩ := HC2.out k hlt2
        have hi1 : (k : Int) < (xs.length : Int) := by omega
        have hi2 : (k : Int) < (ys.length : Int) := by omega
        have HT1 := hid (take_snoc xs k hlt)
        have HT2 := hid (take_snoc ys k hlt2)
        have HATk := hid (HAT.out k HE.out hlt hlt2)
        rw [show xs[k] = xs.getD k 0 by simp [hlt]] at HT1
        rw [show ys[k] = ys.getD k 0 by simp [hlt2]] at HT2
        obtain ⟨x, hxx⟩ : ∃ x, xs.getD k 0 = x := ⟨_, rfl⟩
        obtain ⟨y, hyy⟩ : ∃ y, ys.getD k 0 = y := ⟨_, rfl⟩
        rw [hxx] at hcell HT1 HATk
        rw [hyy] at hcell2 HT2 HATk
        clear hxx hyy
        by_cases hv : x = y
        · have HV := hid hv
          have hb : (x != y) = false := by simp [hv]
          clear hv
          go_wp2
          go_quiet (fail)
          go_wp2
          go_roundw
          case rel => exact ⟨k + 1, n + nq, hlt, hlt2, by go_num, by rw [HT1.out, HT2.out, HE.out, HV.out], by simp⟩
          case measure => simp [intOf]; omega
        · have hb : (x != y) = true := by simp [hv]
          have HN := hid (HATk.out hv); clear hv
          go_wp2
          go_quiet (fail)
          go_wp2
          go_quiet (fail)
          go_wp2
          go_ret
          exact ⟨ret_bool HN.out.symm, ⟨_, by simp; rfl⟩⟩
      · have hk3 : k = ys.length := by omega
        have HN := hid (HEND.out k HE.out hk hk2 (.inr hk3))
        have hi1 : (k : Int) < (xs.length : Int) := by omega
        have hi2 : ¬ (k : Int) < (ys.length : Int) := by omega
        clear hk3
        go_wp2
        go_ret
        exact ⟨ret_bool (by rw [HN.out]), ⟨n, rfl⟩⟩
    · have hk3 : k = xs.length := by omega
      have HN := hid (HEND.out k HE.out hk hk2 (.inl hk3))
      have hi1 : ¬ (k : Int) < (xs.length : Int) := by omega
      clear hk3
      go_wp2
      go_ret
      exact ⟨ret_bool (by rw [HN.out]), ⟨n, rfl⟩⟩
theorem huBefore_as {u v : Value} {xs ys : List Int} {w : World} {b : Bool} (hb : befL xs ys = b) (hx : Ints w u xs) (hy : Ints w v ys) :
    Calls Try.prog 100 #[u, v] w fun e w' => e = .returned (.bool b) ∧ Drew w w' := by
  subst hb; exact huBefore_any u v xs ys w hx hy


abbrev Pr : Type := Value × List Int
def NePr (p q : Pr) : Prop := ∀ k, p.1.ownBlock = some k → q.1.ownBlock ≠ some k
theorem NePr.symm {p q : Pr} (h : NePr p q) : NePr q p := fun k hq hp => h k hp hq
/-- A row of rows of its own, its rows with what they hold. -/
structure OwnPs (lo hi : Nat) (w : World) (v : Value) (ps : List Pr) : Prop where
  own : w.ownsRow lo 22 1 v ps.length (ps.map (·.1))
  blk : ∀ k, v.ownBlock = some k → k < hi
  ints : ∀ p ∈ ps, OwnInts lo hi w p.1 p.2
  ne : ps.Pairwise NePr
theorem OwnPs.rows {lo hi : Nat} {w : World} {v : Value} {ps : List Pr} (h : OwnPs lo hi w v ps) : OwnRows lo hi w v (ps.map (·.2)) := by
  refine ⟨ps.map (·.1), by simp, by simpa using h.own, h.blk, fun i hi => ?_, fun i j hij hj k hk => ?_⟩
  · have hi' : i < ps.length := by simpa using hi
    have := h.ints ps[i] (List.getElem_mem hi')
    simpa [hi'] using this
  · have hj' : j < ps.length := by simpa using hj
    have := List.pairwise_iff_getElem.1 h.ne i j (by omega) hj' hij k
    simp [hj', show i < ps.length by omega] at hk ⊢
    exact this hk
theorem OwnRows.ps {lo hi : Nat} {w : World} {v : Value} {L : List (List Int)} (h : OwnRows lo hi w v L) : ∃ ps, OwnPs lo hi w v ps ∧ ps.map (·.2) = L := by
  obtain ⟨us, hl, ho, hb, hi2, hd⟩ := h.partsH
  refine ⟨us.zip L, ⟨?_, hb, ?_, ?_⟩, ?_⟩
  · rw [List.length_zip, ← hl, Nat.min_self]
    have : (us.zip L).map (·.1) = us := by rw [List.map_fst_zip]; omega
    rw [this]; exact ho
  · intro p hp
    obtain ⟨i, hi3, rfl⟩ := List.getElem_of_mem hp
    have hi4 : i < L.length := by rw [List.length_zip] at hi3; omega
    have := hi2 i hi4
    simpa [hi4, show i < us.length by omega] using this
  · rw [List.pairwise_iff_getElem]
    intro i j hi3 hj3 hij k hk
    have hj4 : j < L.length := by rw [List.length_zip] at hj3; omega
    have := hd i j hij hj4 k
    simp [show i < us.length by omega, show j < us.length by omega] at this
    simpa using this (by simpa using hk)
  · rw [List.map_snd_zip]; omega
theorem OwnPs.later {lo hi : Nat} {w w' : World} {v : Value} {ps : List Pr} (h : OwnPs lo hi w v ps) (k : Later w w') : OwnPs lo hi w' v ps :=
  ⟨ownsRow_keep h.own fun b hb => k.block b (h.own.lt b hb).2, h.blk, fun p hp => (h.ints p hp).later k, h.ne⟩
theorem OwnPs.wide {lo hi lo' hi' : Nat} {w : World} {v : Value} {ps : List Pr} (h : OwnPs lo hi w v ps) (h1 : lo' ≤ lo) (h2 : hi ≤ hi') : OwnPs lo' hi' w v ps :=
  ⟨ownsRow_base h.own h1, fun k hk => Nat.lt_of_lt_of_le (h.blk k hk) h2, fun p hp => (h.ints p hp).wide h1 h2, h.ne⟩
/-- insertion in order -/
def putKp (ps : List Pr) (a : List Int) : Nat := (ps.takeWhile fun p => befL p.2 a).length
def inPs (ps : List Pr) (a : List Int) : Prop := (ps.map (·.2)).getD (putKp ps a) [] = a ∧ putKp ps a < ps.length
instance (ps : List Pr) (a : List Int) : Decidable (inPs ps a) := by unfold inPs; infer_instance
def insPs (ps : List Pr) (p : Pr) : List Pr := ps.take (putKp ps p.2) ++ p :: ps.drop (putKp ps p.2)
def putPs (ps : List Pr) (p : Pr) : List Pr := if inPs ps p.2 then ps else insPs ps p
theorem putKp_map (ps : List Pr) (a : List Int) : putKp ps a = putK (ps.map (·.2)) a := by
  unfold putKp putK
  induction ps with
  | nil => rfl
  | cons p ps ih => simp only [List.map_cons, List.takeWhile_cons]; split <;> simp_all
theorem putPs_map (ps : List Pr) (p : Pr) : (putPs ps p).map (·.2) = putL (ps.map (·.2)) p.2 := by
  unfold putPs putL
  by_cases h : inPs ps p.2
  · rw [if_pos h, if_pos (by unfold inPs at h; rw [putKp_map] at h; simpa using h)]
  · rw [if_neg h, if_neg (by unfold inPs at h; rw [putKp_map] at h; simpa using h)]
    unfold insPs
    rw [putKp_map]
    simp
theorem insPs_perm (ps : List Pr) (p : Pr) : (insPs ps p).Perm (p :: ps) := by
  unfold insPs
  refine List.perm_middle.trans ?_
  rw [List.take_append_drop]
theorem putKp_le (ps : List Pr) (a : List Int) : putKp ps a ≤ ps.length := (List.takeWhile_prefix _).length_le
theorem putKp_lt (ps : List Pr) (a : List Int) : ∀ j (_ : j < putKp ps a), befL ((ps.map (·.2)).getD j []) a = true := by
  induction ps with
  | nil => intro j h; simp [putKp] at h
  | cons p ps ih =>
    intro j h
    unfold putKp at h
    rw [List.takeWhile_cons] at h
    split at h
    · rename_i hp
      cases j with
      | zero => simpa using hp
      | succ j => simpa using ih j (by unfold putKp; simpa using h)
    · simp at h
theorem putKp_at (ps : List Pr) (a : List Int) : putKp ps a < ps.length → befL ((ps.map (·.2)).getD (putKp ps a) []) a = false := by
  induction ps with
  | nil => intro h; simp at h
  | cons p ps ih =>
    intro h
    unfold putKp at h ⊢
    rw [List.takeWhile_cons] at h ⊢
    split at h
    · rename_i hp
      rw [if_pos hp]
      have := ih (by unfold putKp; simpa using h)
      unfold putKp at this
      simpa using this
    · rename_i hp
      rw [if_neg hp]
      simpa using hp
theorem OwnPs.insert {lo : Nat} {w w' : World} {v v' u : Value} {a : List Int} {ps : List Pr} (h : OwnPs lo w.heap.size w v ps) (hu : OwnInts lo w.heap.size w u a) (hne : ∀ p ∈ ps, NePr p (u, a)) (hL : Later w w')
    (ho : w'.ownsRow lo 22 1 v' (insPs ps (u, a)).length ((insPs ps (u, a)).map (·.1))) : OwnPs lo w'.heap.size w' v' (insPs ps (u, a)) := by
  have hp := insPs_perm ps (u, a)
  refine ⟨ho, fun k hk => (ho.lt k hk).2, fun q hq => ?_, ?_⟩
  · rcases List.mem_cons.1 (hp.mem_iff.1 hq) with rfl | hq
    · exact (hu.later hL).wide (Nat.le_refl _) hL.size
    · exact ((h.ints q hq).later hL).wide (Nat.le_refl _) hL.size
  · refine (hp.pairwise_iff (fun h => h.symm)).2 ?_
    exact List.pairwise_cons.2 ⟨fun q hq => (hne q hq).symm, h.ne⟩
theorem ownPs_head {lo hi : Nat} {w : World} {g n cg : Nat} {ps : List Pr} (h : OwnPs lo hi w (.slice (some ⟨g, 0, none⟩) n cg) ps) : n = ps.length ∧ n ≤ cg ∧ ∀ k, k < ps.length → w.cell? ⟨g, k, none⟩ = some (ps.getD k (undef, [])).1 := by
  rcases h.own.2 with ⟨e, _⟩ | ⟨g', cg', cur, e, hb, hg, hn, hm, hs, ht⟩
  · simp at e
  · simp only [Value.slice.injEq] at e
    obtain ⟨_, rfl, rfl⟩ := e
    refine ⟨rfl, hn, fun k hk => ?_⟩
    rw [h.own.cellAt k (by omega)]
    simp [hk]

/-- append of nothing, at a step of a region that draws. -/
theorem step_append_noneH {P : Program} (w : World) {ops : Array Oper} {o : Oper} {a : Act} {K : Act → World → Prop} {Q : Exit → Act → World → Prop} {E : Prop} (hgd : o.guard = none) (s x : Operand) (t : TypeId)
    (ho : o.op = .call { callee := .builtin .append, args := #[s, x], argTypes := #[t, t] })
    (base : Nat) (e : TypeId) (i : TypeInfo) (size : Nat) (ht : P.underlying t = some (.slice e)) (hi : P.info? e = some i)
    (v : Value) (n : Nat) (xs : List Value) (hs : a.eval s = v) (hown : w.ownsRow base e size v n xs) (hx : a.eval x = .slice none 0 0)
    (h : K (a.put o.dst v) w) :
    if Region.wanted o (yielded ops a.tmps) = true then Oper.wp P o a w K Q else E := by
  have hw : Region.wanted o (yielded ops a.tmps) = true := by simp [Region.wanted, hgd]
  rw [if_pos hw]
  have hr := run_append_owned_none (P := P) (w := w) base t o.type e i size ht hi v n xs hown
  unfold Oper.wp execOp
  simp only [ho, resolve, invoke, builtin, Sem.run_bind, Sem.run_pure, Result.andThen_ok, List.map_toArray, List.map_cons, List.map_nil, hs, hx, hr]
  exact h

set_option maxRecDepth 20000 in
set_option maxHeartbeats 8000000 in
theorem huPut_any {lo : Nat} (v u : Value) (a : List Int) (ps : List Pr) (w : World) (hlo : lo ≤ w.heap.size) (hb : ps.length ≤ 1000000) (h : OwnPs lo w.heap.size w v ps) (hu : OwnInts lo w.heap.size w u a) (hne : ∀ p ∈ ps, NePr p (u, a)) :
    Calls Try.prog 90 #[v, u] w fun e w' => ∃ v', e = .returned v' ∧ OwnPs lo w'.heap.size w' v' (putPs ps (u, a)) ∧ Later w w' ∧ (inPs ps a → v' = v) := by
  obtain ⟨i0, hi, hz0, hz1, hz2⟩ := info_parts Try.infoInts
  rcases h.own.2 with ⟨rfl, h0⟩ | ⟨g, cg, cur, rfl, _, hgl, hncg, _⟩
  · have hps : ps = [] := List.eq_nil_of_length_eq_zero h0
    subst hps
    obtain ⟨ua, uc, rfl, huc⟩ := hu.shape
    have HU := hid hu
    have HLO := hid hlo
    have HNI := hid (show ¬ inPs [] a by unfold inPs; simp)
    have HPE := hid (show putPs [] (Value.slice ua a.length uc, a) = [(Value.slice ua a.length uc, a)] by unfold putPs; rw [if_neg HNI.out]; rfl)
    have H := hid h
    clear h hu hne h0 hb hlo
    go_enter Try.func90, Try.ntmps90
    go_wp2_with fail
    go_loopw [5] (fun k wr => k = .int .i64 0 ∧ wr = w) (fun _ _ => 0)
    case atStart => exact ⟨rfl, rfl⟩
    case round =>
      obtain ⟨rfl, rfl⟩ := hrel
      have HO6 : Hid ((wr.alloc (.cells #[] 22)).ownsRow wr.heap.size 22 1 (.slice (some ⟨wr.heap.size, 0, none⟩) 0 0) 0 []) := hid ⟨rfl, .inr ⟨wr.heap.size, 0, #[], rfl, Nat.le_refl _, heap_alloc_new wr _, Nat.le_refl _, by omega, by simp, by simp⟩⟩
      have HL6 := hid (Later.alloc wr (.cells #[] 22))
      have HW6 := hid HL6.out.size
      go_wp2_with fail
      obtain ⟨v6, hv6⟩ : ∃ v : Value, .slice (some ⟨wr.heap.size, 0, none⟩) 0 0 = v := ⟨_, rfl⟩
      rw [hv6] at HO6 ⊢
      generalize wr.alloc (.cells #[] 22) = w6 at HO6 HL6 HW6 ⊢
      clear hv6
      go_region_held3 (fun _ => True) (trivial) (first | (have hh := HW6; clear hh; refine step_append_atH _ (by rfl) _ _ _ (by rfl) wr.heap.size 22 i0 (.slice none 0 0) 1 24 Try.underlying36 hi hz0 hz1 hz2 rfl (by omega) v6 0 [] (by rfl) (by exact (HO6.out.alloc (.cells #[Value.slice ua a.length uc] 22)).drew) _ _ _ [.slice ua a.length uc] (by rfl) (by rfl) (by intro j u hj; rw [World.cell?_drew]; exact World.news_of_block (cs := #[.slice ua a.length uc]) (t := 22) (fr := (0, 0)) (heap_alloc_new w6 _) j u hj) (fun u hu => by simp at hu; subst hu; rfl) (by unfold maxLen; omega) (by omega) (by have := HW6.out; simp; omega) ?_; intro v7 w7 hown7 hgrow7; clear HW6; have HO7 := hid hown7; have HL7 := hid (show Later wr w7 from ((HL6.out.trans (Later.alloc w6 (.cells #[Value.slice ua a.length uc] 22))).trans (Later.drew _)).grown hgrow7 (by have := HL6.out.size; simp; omega) (fun b hb => (HO6.out.lt b hb).1)); obtain ⟨a7, c7, rfl, _⟩ := ownsRow_shape hown7; clear hown7 hgrow7) | (have hh := HO7; clear hh; refine step_append_noneH _ (by rfl) _ _ _ (by rfl) wr.heap.size 22 i0 1 Try.underlying36 hi _ 1 ([] ++ [.slice ua a.length uc]) (by rfl) (by exact HO7.out) (by rfl) ?_))
      go_wp2_with fail
      go_ret
      refine ⟨_, rfl, ?_, HL7.out, fun h => absurd h HNI.out⟩
      have e := H.out.insert HU.out (fun p hp => by simp at hp) HL7.out (v' := .slice a7 (0 + 1) c7) (by exact ownsRow_base HO7.out HLO.out)
      rw [HPE.out]
      exact e
  · obtain ⟨ua, uc, rfl, huc⟩ := hu.shape
    have hhd := (ownPs_head h).2.2
    have HOS := hid h
    have HUS := hid hu
    have HNE := hid hne
    have HLO := hid hlo
    have HKL := hid (putKp_lt ps a)
    have HKA := hid (putKp_at ps a)
    have hkl := putKp_le ps a
    have HHD := hid hhd
    have HDEF := hid (show inPs ps a ↔ ((ps.map (·.2)).getD (putKp ps a) [] = a ∧ putKp ps a < ps.length) from Iff.rfl)
    have HINS := hid (show ∀ u, insPs ps (u, a) = ps.take (putKp ps a) ++ (u, a) :: ps.drop (putKp ps a) from fun u => rfl)
    obtain ⟨K, hK⟩ : ∃ K, putKp ps a = K := ⟨_, rfl⟩
    rw [hK] at HKL HKA hkl HDEF HINS
    clear h hu hne hlo hhd hK hgl
    go_enter Try.func90, Try.ntmps90
    go_wp2_with fail
    go_loopw [5] (fun s5 wr => ∃ k : Nat, k ≤ K ∧ s5 = .int .i64 k ∧ Later w wr) (fun s5 _ => K - (intOf s5).toNat)
    case atStart => exact ⟨0, Nat.zero_le _, rfl, Later.refl _⟩
    case round =>
      obtain ⟨k, hk, rfl, hL⟩ := hrel
      have HL := hid hL
      have row : ∀ k, k < ps.length → ∃ ad c, wr.cell? ⟨g, k, none⟩ = some (.slice ad ((ps.map (·.2)).getD k []).length c) ∧ Ints wr (.slice ad ((ps.map (·.2)).getD k []).length c) ((ps.map (·.2)).getD k []) := by
        intro k hk
        have h1 := HHD.out k hk
        have h2 := HOS.out.ints ps[k] (List.getElem_mem hk)
        obtain ⟨ad, c, e, _⟩ := h2.shape
        rw [show ps.getD k (undef, []) = ps[k] by simp [hk]] at h1
        have e2 : (ps.map (·.2)).getD k [] = ps[k].2 := by simp [hk]
        refine ⟨ad, c, ?_, ?_⟩
        · rw [e2, ← e]; exact hL.cell h1
        · rw [e2, ← e]; exact (h2.later hL).ints
      by_cases hlt : k < K
      · obtain ⟨ad, c, hc, hr⟩ := row k (by omega)
        have HB := hid (HKL.out k hlt)
        have hkI : (k : Int) < (ps.length : Int) := by omega
        obtain ⟨l, hl⟩ : ∃ l, (ps.map (·.2)).getD k [] = l := ⟨_, rfl⟩
        rw [hl] at hc hr HB
        have HRI := hid hr
        clear row hr hl hL
        go_wp2_with fail
        refine (huBefore_as HB.out HRI.out (HUS.out.later HL.out).ints).mono ?_
        rintro e w2 ⟨rfl, hD⟩
        have HL2 := hid (HL.out.trans hD.later)
        clear hD
        go_wp2_with fail
        go_roundw
        case rel => exact ⟨k + 1, hlt, by go_num, HL2.out⟩
        case measure => simp [intOf]; omega
      · obtain rfl : k = K := by omega
        clear hk hlt
        by_cases hkn : k < ps.length
        · obtain ⟨ad, c, hc, hr⟩ := row k hkn
          have HB := hid (HKA.out hkn)
          have hkI : (k : Int) < (ps.length : Int) := by omega
          obtain ⟨l, hl⟩ : ∃ l, (ps.map (·.2)).getD k [] = l := ⟨_, rfl⟩
          rw [hl] at hc hr HB HDEF
          have HRI := hid hr
          clear row hr hl hL
          go_wp2_with fail
          refine (huBefore_as HB.out HRI.out (HUS.out.later HL.out).ints).mono ?_
          rintro e w2 ⟨rfl, hD⟩
          have HL2 := hid (HL.out.trans hD.later)
          have HRI2 := hid (HRI.out.later hD.later)
          replace hc := hD.later.cell hc
          clear hD
          by_cases hla : l = a
          · have HEQ := hid (eqL_iff.2 hla)
            have HIN := hid (HDEF.out.2 ⟨hla, hkn⟩)
            clear hla
            go_wp2_with fail
            refine (l1Same_as HEQ.out HRI2.out (HUS.out.later HL2.out).ints).mono ?_
            rintro e w3 ⟨rfl, hD⟩
            have HL3 := hid (HL2.out.trans hD.later)
            clear hD
            go_wp2_with fail
            go_ret
            refine ⟨_, rfl, ?_, HL3.out, fun _ => rfl⟩
            unfold putPs
            rw [if_pos HIN.out]
            exact (HOS.out.later HL3.out).wide (Nat.le_refl _) HL3.out.size
          · have HEQ := hid (show eqL l a = false by
              cases he : eqL l a
              · rfl
              · exact absurd (eqL_iff.1 he) hla)
            have HNI := hid (show ¬ inPs ps a from fun h => hla (HDEF.out.1 h).1)
            clear hla
            go_wp2_with fail
            refine (l1Same_as HEQ.out HRI2.out (HUS.out.later HL2.out).ints).mono ?_
            rintro e w3 ⟨rfl, hD⟩
            have HL3 := hid (HL2.out.trans hD.later)
            clear hD hc
            have HOW := hid (show (w3.alloc (.cells #[] 22)).ownsRow w3.heap.size 22 1 (.slice (some ⟨w3.heap.size, 0, none⟩) 0 0) 0 [] from ⟨rfl, .inr ⟨w3.heap.size, 0, #[], rfl, Nat.le_refl _, heap_alloc_new w3 _, Nat.le_refl _, by omega, by simp, by simp⟩⟩)
            have HCL := hid (show ∀ j, j < ps.length → w3.cell? ⟨g, j, none⟩ = some (ps.getD j (undef, [])).1 from fun j hj => HL3.out.cell (HHD.out j hj))
            obtain ⟨XS, hXS⟩ : ∃ XS, (ps.take k).map (·.1) = XS := ⟨_, rfl⟩
            obtain ⟨YS, hYS⟩ : ∃ YS, (ps.drop k).map (·.1) = YS := ⟨_, rfl⟩
            have HXL := hid (show XS.length = k * 1 by rw [← hXS]; simp; omega)
            have HYL := hid (show YS.length = (ps.length - k) * 1 by rw [← hYS]; simp)
            have hsl : ∀ p ∈ ps, p.1.oneCell' = true := fun p hp => by obtain ⟨_, _, e, _⟩ := (HOS.out.ints p hp).shape; rw [e]; rfl
            have HXO := hid (show ∀ u ∈ XS, u.oneCell' = true by intro u hu; rw [← hXS] at hu; obtain ⟨p, hp, rfl⟩ := List.mem_map.1 hu; exact hsl p (List.mem_of_mem_take hp))
            have HYO := hid (show ∀ u ∈ YS, u.oneCell' = true by intro u hu; rw [← hYS] at hu; obtain ⟨p, hp, rfl⟩ := List.mem_map.1 hu; exact hsl p (List.mem_of_mem_drop hp))
            have hat : ∀ j u, (ps.map (·.1))[j]? = some u → w3.cell? ⟨g, j, none⟩ = some u := by
              intro j u hj
              have hj2 : j < ps.length := by
                rcases Nat.lt_or_ge j ps.length with h | h
                · exact h
                · rw [List.getElem?_eq_none (by simpa using h)] at hj; cases hj
              rw [HCL.out j hj2, ← hj]
              simp [hj2]
            have HNX := hid (show ∀ j u, XS[j]? = some u → (w3.alloc (.cells #[] 22)).cell? ((⟨g, 0, none⟩ : Addr).add j) = some u from fun j u hj => by
              rw [addr_add0]
              refine (Later.alloc w3 _).cell (hat j u ?_)
              rw [← hXS, List.map_take, List.getElem?_take] at hj
              split at hj
              · exact hj
              · cases hj)
            have HINL := hid (show (insPs ps (.slice ua a.length uc, a)).length = k + 1 + (ps.length - k) by rw [(insPs_perm ps _).length_eq]; simp; omega)
            have HINM := hid (show (insPs ps (.slice ua a.length uc, a)).map (·.1) = XS ++ [.slice ua a.length uc] ++ YS by rw [HINS.out, ← hXS, ← hYS]; simp)
            have HLW := hid (show lo ≤ w3.heap.size from Nat.le_trans HLO.out HL3.out.size)
            have hkc : (k : Int) ≤ (cg : Int) := by omega
            have hkp : (k : Int) ≤ (ps.length : Int) := by omega
            have hpc : (ps.length : Int) ≤ (cg : Int) := by omega
            have hk0 : (0 : Int) ≤ (k : Int) := by omega
            have hktn : ((k : Int)).toNat = k := by omega
            clear hsl
            go_wp2_with (at_builtin; refine wpList_append_own_at _ (by rfl) _ _ _ (by rfl) w3.heap.size 22 i0 (.slice none 0 0) 1 24 Try.underlying36 hi hz0 hz1 hz2 rfl (by omega) (.slice (some ⟨w3.heap.size, 0, none⟩) 0 0) 0 [] (by rfl) (by exact HOW.out) ⟨g, 0, none⟩ k cg XS (by rfl) (by exact HXL.out) HNX.out (fun u hu => HXO.out u hu) (by unfold maxLen; omega) (by omega) (by simp) ?_)
            intro v6 w6 hown6 hgrow6 _ _
            have HO6 := hid (show w6.ownsRow w3.heap.size 22 1 v6 k XS by simpa using hown6)
            have HL6 := hid (show Later w3 w6 from (Later.alloc w3 (.cells #[] 22)).grown hgrow6 (by simp) (fun b hb => Nat.le_of_eq (Option.some.inj hb)))
            have HW6 := hid HL6.out.size
            clear hown6 hgrow6 HOW HNX
            by_cases hcq : cg = k
            · have HNY := hid (show ∀ t u, YS[t]? = some u → w3.cell? ((⟨g, 0, none⟩ : Addr).add t) = some u from fun t u ht => by
                rw [List.getElem?_eq_none (by have := HYL.out; omega)] at ht; cases ht)
              clear hat hXS hYS
              go_wp2_with fail
              go_region_held3 (fun _ => True) (trivial) (first | (have hh := HW6; clear hh; refine step_append_atH _ (by rfl) _ _ _ (by rfl) w3.heap.size 22 i0 (.slice none 0 0) 1 24 Try.underlying36 hi hz0 hz1 hz2 rfl (by omega) v6 k XS (by rfl) (by exact (HO6.out.alloc (.cells #[Value.slice ua a.length uc] 22)).drew) _ _ _ [.slice ua a.length uc] (by rfl) (by rfl) (by intro j u hj; rw [World.cell?_drew]; exact World.news_of_block (cs := #[.slice ua a.length uc]) (t := 22) (fr := (0, 0)) (heap_alloc_new w6 _) j u hj) (fun u hu => by simp at hu; subst hu; rfl) (by unfold maxLen; omega) (by omega) (by have := HW6.out; simp; omega) ?_; intro v7 w7 hown7 hgrow7; clear HW6; have HO7 := hid hown7; have HL7 := hid (show Later w3 w7 from ((HL6.out.trans (Later.alloc w6 (.cells #[Value.slice ua a.length uc] 22))).trans (Later.drew _)).grown hgrow7 (by have := HL6.out.size; simp; omega) (fun b hb => (HO6.out.lt b hb).1)); clear hown7 hgrow7) | (have hh := HO7; clear hh; refine step_append_atH _ (by rfl) _ _ _ (by rfl) w3.heap.size 22 i0 (.slice none 0 0) 1 24 Try.underlying36 hi hz0 hz1 hz2 rfl (by omega) _ (k + 1) (XS ++ [.slice ua a.length uc]) (by rfl) (by exact HO7.out) ⟨g, 0, none⟩ (ps.length - k) 0 YS (by rfl) (by exact HYL.out) (fun t u ht => HL7.out.cell (HNY.out t u ht)) (fun u hu => HYO.out u hu) (by unfold maxLen; omega) (by omega) (by have := HL7.out.size; omega) ?_; intro v8 w8 hown8 hgrow8; have HO8 := hid hown8; have HL8 := hid (show Later w3 w8 from HL7.out.grown hgrow8 HL7.out.size (fun b hb => (HO7.out.lt b hb).1)); obtain ⟨a8, c8, rfl, _⟩ := ownsRow_shape hown8; clear hown8 hgrow8 HO7 HL7))
              go_wp2_with fail
              go_ret
              refine ⟨_, rfl, ?_, HL3.out.trans HL8.out, fun h => absurd h HNI.out⟩
              have e := (show OwnPs lo w3.heap.size w3 _ ps from (HOS.out.later HL3.out).wide (Nat.le_refl _) HL3.out.size).insert ((HUS.out.later HL3.out).wide (Nat.le_refl _) HL3.out.size) HNE.out HL8.out (v' := .slice a8 (k + 1 + (ps.length - k)) c8) (by
                rw [HINL.out, HINM.out]
                exact ownsRow_base HO8.out HLW.out)
              unfold putPs
              rw [if_neg HNI.out]
              exact e
            · have HNY := hid (show ∀ t u, YS[t]? = some u → w3.cell? ((⟨g, k, none⟩ : Addr).add t) = some u from fun t u ht => by
                have h1 := hat (k + t) u (by rw [← hYS] at ht; rw [← ht]; simp)
                rw [← h1]
                congr 1
                unfold Addr.add
                by_cases h0 : t = 0 <;> simp [h0])
              clear hat hXS hYS
              go_wp2_with fail
              go_region_held3 (fun _ => True) (trivial) (first | (have hh := HW6; clear hh; refine step_append_atH _ (by rfl) _ _ _ (by rfl) w3.heap.size 22 i0 (.slice none 0 0) 1 24 Try.underlying36 hi hz0 hz1 hz2 rfl (by omega) v6 k XS (by rfl) (by exact (HO6.out.alloc (.cells #[Value.slice ua a.length uc] 22)).drew) _ _ _ [.slice ua a.length uc] (by rfl) (by rfl) (by intro j u hj; rw [World.cell?_drew]; exact World.news_of_block (cs := #[.slice ua a.length uc]) (t := 22) (fr := (0, 0)) (heap_alloc_new w6 _) j u hj) (fun u hu => by simp at hu; subst hu; rfl) (by unfold maxLen; omega) (by omega) (by have := HW6.out; simp; omega) ?_; intro v7 w7 hown7 hgrow7; clear HW6; have HO7 := hid hown7; have HL7 := hid (show Later w3 w7 from ((HL6.out.trans (Later.alloc w6 (.cells #[Value.slice ua a.length uc] 22))).trans (Later.drew _)).grown hgrow7 (by have := HL6.out.size; simp; omega) (fun b hb => (HO6.out.lt b hb).1)); clear hown7 hgrow7) | (have hh := HO7; clear hh; refine step_append_atH _ (by rfl) _ _ _ (by rfl) w3.heap.size 22 i0 (.slice none 0 0) 1 24 Try.underlying36 hi hz0 hz1 hz2 rfl (by omega) _ (k + 1) (XS ++ [.slice ua a.length uc]) (by rfl) (by exact HO7.out) ⟨g, k, none⟩ (ps.length - k) (cg - k) YS (by rfl) (by exact HYL.out) (fun t u ht => HL7.out.cell (HNY.out t u ht)) (fun u hu => HYO.out u hu) (by unfold maxLen; omega) (by omega) (by have := HL7.out.size; omega) ?_; intro v8 w8 hown8 hgrow8; have HO8 := hid hown8; have HL8 := hid (show Later w3 w8 from HL7.out.grown hgrow8 HL7.out.size (fun b hb => (HO7.out.lt b hb).1)); obtain ⟨a8, c8, rfl, _⟩ := ownsRow_shape hown8; clear hown8 hgrow8 HO7 HL7))
              go_wp2_with fail
              go_ret
              refine ⟨_, rfl, ?_, HL3.out.trans HL8.out, fun h => absurd h HNI.out⟩
              have e := (show OwnPs lo w3.heap.size w3 _ ps from (HOS.out.later HL3.out).wide (Nat.le_refl _) HL3.out.size).insert ((HUS.out.later HL3.out).wide (Nat.le_refl _) HL3.out.size) HNE.out HL8.out (v' := .slice a8 (k + 1 + (ps.length - k)) c8) (by
                rw [HINL.out, HINM.out]
                exact ownsRow_base HO8.out HLW.out)
              unfold putPs
              rw [if_neg HNI.out]
              exact e
        · have HNI := hid (show ¬ inPs ps a from fun h => hkn (HDEF.out.1 h).2)
          have hkn2 : ¬ (k : Int) < (ps.length : Int) := by omega
          clear row hL
          have HOW := hid (show (wr.alloc (.cells #[] 22)).ownsRow wr.heap.size 22 1 (.slice (some ⟨wr.heap.size, 0, none⟩) 0 0) 0 [] from ⟨rfl, .inr ⟨wr.heap.size, 0, #[], rfl, Nat.le_refl _, heap_alloc_new wr _, Nat.le_refl _, by omega, by simp, by simp⟩⟩)
          have HCL := hid (show ∀ j, j < ps.length → wr.cell? ⟨g, j, none⟩ = some (ps.getD j (undef, [])).1 from fun j hj => HL.out.cell (HHD.out j hj))
          obtain ⟨XS, hXS⟩ : ∃ XS, (ps.take k).map (·.1) = XS := ⟨_, rfl⟩
          obtain ⟨YS, hYS⟩ : ∃ YS, (ps.drop k).map (·.1) = YS := ⟨_, rfl⟩
          have HXL := hid (show XS.length = k * 1 by rw [← hXS]; simp; omega)
          have HYL := hid (show YS.length = (ps.length - k) * 1 by rw [← hYS]; simp)
          have hsl : ∀ p ∈ ps, p.1.oneCell' = true := fun p hp => by obtain ⟨_, _, e, _⟩ := (HOS.out.ints p hp).shape; rw [e]; rfl
          have HXO := hid (show ∀ u ∈ XS, u.oneCell' = true by intro u hu; rw [← hXS] at hu; obtain ⟨p, hp, rfl⟩ := List.mem_map.1 hu; exact hsl p (List.mem_of_mem_take hp))
          have HYO := hid (show ∀ u ∈ YS, u.oneCell' = true by intro u hu; rw [← hYS] at hu; obtain ⟨p, hp, rfl⟩ := List.mem_map.1 hu; exact hsl p (List.mem_of_mem_drop hp))
          have hat : ∀ j u, (ps.map (·.1))[j]? = some u → wr.cell? ⟨g, j, none⟩ = some u := by
            intro j u hj
            have hj2 : j < ps.length := by
              rcases Nat.lt_or_ge j ps.length with h | h
              · exact h
              · rw [List.getElem?_eq_none (by simpa using h)] at hj; cases hj
            rw [HCL.out j hj2, ← hj]
            simp [hj2]
          have HNX := hid (show ∀ j u, XS[j]? = some u → (wr.alloc (.cells #[] 22)).cell? ((⟨g, 0, none⟩ : Addr).add j) = some u from fun j u hj => by
            rw [addr_add0]
            refine (Later.alloc wr _).cell (hat j u ?_)
            rw [← hXS, List.map_take, List.getElem?_take] at hj
            split at hj
            · exact hj
            · cases hj)
          have HINL := hid (show (insPs ps (.slice ua a.length uc, a)).length = k + 1 + (ps.length - k) by rw [(insPs_perm ps _).length_eq]; simp; omega)
          have HINM := hid (show (insPs ps (.slice ua a.length uc, a)).map (·.1) = XS ++ [.slice ua a.length uc] ++ YS by rw [HINS.out, ← hXS, ← hYS]; simp)
          have HLW := hid (show lo ≤ wr.heap.size from Nat.le_trans HLO.out HL.out.size)
          have hkc : (k : Int) ≤ (cg : Int) := by omega
          have hkp : (k : Int) ≤ (ps.length : Int) := by omega
          have hpc : (ps.length : Int) ≤ (cg : Int) := by omega
          have hk0 : (0 : Int) ≤ (k : Int) := by omega
          have hktn : ((k : Int)).toNat = k := by omega
          clear hsl
          go_wp2_with (at_builtin; refine wpList_append_own_at _ (by rfl) _ _ _ (by rfl) wr.heap.size 22 i0 (.slice none 0 0) 1 24 Try.underlying36 hi hz0 hz1 hz2 rfl (by omega) (.slice (some ⟨wr.heap.size, 0, none⟩) 0 0) 0 [] (by rfl) (by exact HOW.out) ⟨g, 0, none⟩ k cg XS (by rfl) (by exact HXL.out) HNX.out (fun u hu => HXO.out u hu) (by unfold maxLen; omega) (by omega) (by simp) ?_)
          intro v6 w6 hown6 hgrow6 _ _
          have HO6 := hid (show w6.ownsRow wr.heap.size 22 1 v6 k XS by simpa using hown6)
          have HL6 := hid (show Later wr w6 from (Later.alloc wr (.cells #[] 22)).grown hgrow6 (by simp) (fun b hb => Nat.le_of_eq (Option.some.inj hb)))
          have HW6 := hid HL6.out.size
          clear hown6 hgrow6 HOW HNX
          by_cases hcq : cg = k
          · have HNY := hid (show ∀ t u, YS[t]? = some u → wr.cell? ((⟨g, 0, none⟩ : Addr).add t) = some u from fun t u ht => by
              rw [List.getElem?_eq_none (by have := HYL.out; omega)] at ht; cases ht)
            clear hat hXS hYS
            go_wp2_with fail
            go_region_held3 (fun _ => True) (trivial) (first | (have hh := HW6; clear hh; refine step_append_atH _ (by rfl) _ _ _ (by rfl) wr.heap.size 22 i0 (.slice none 0 0) 1 24 Try.underlying36 hi hz0 hz1 hz2 rfl (by omega) v6 k XS (by rfl) (by exact (HO6.out.alloc (.cells #[Value.slice ua a.length uc] 22)).drew) _ _ _ [.slice ua a.length uc] (by rfl) (by rfl) (by intro j u hj; rw [World.cell?_drew]; exact World.news_of_block (cs := #[.slice ua a.length uc]) (t := 22) (fr := (0, 0)) (heap_alloc_new w6 _) j u hj) (fun u hu => by simp at hu; subst hu; rfl) (by unfold maxLen; omega) (by omega) (by have := HW6.out; simp; omega) ?_; intro v7 w7 hown7 hgrow7; clear HW6; have HO7 := hid hown7; have HL7 := hid (show Later wr w7 from ((HL6.out.trans (Later.alloc w6 (.cells #[Value.slice ua a.length uc] 22))).trans (Later.drew _)).grown hgrow7 (by have := HL6.out.size; simp; omega) (fun b hb => (HO6.out.lt b hb).1)); clear hown7 hgrow7) | (have hh := HO7; clear hh; refine step_append_atH _ (by rfl) _ _ _ (by rfl) wr.heap.size 22 i0 (.slice none 0 0) 1 24 Try.underlying36 hi hz0 hz1 hz2 rfl (by omega) _ (k + 1) (XS ++ [.slice ua a.length uc]) (by rfl) (by exact HO7.out) ⟨g, 0, none⟩ (ps.length - k) 0 YS (by rfl) (by exact HYL.out) (fun t u ht => HL7.out.cell (HNY.out t u ht)) (fun u hu => HYO.out u hu) (by unfold maxLen; omega) (by omega) (by have := HL7.out.size; omega) ?_; intro v8 w8 hown8 hgrow8; have HO8 := hid hown8; have HL8 := hid (show Later wr w8 from HL7.out.grown hgrow8 HL7.out.size (fun b hb => (HO7.out.lt b hb).1)); obtain ⟨a8, c8, rfl, _⟩ := ownsRow_shape hown8; clear hown8 hgrow8 HO7 HL7))
            go_wp2_with fail
            go_ret
            refine ⟨_, rfl, ?_, HL.out.trans HL8.out, fun h => absurd h HNI.out⟩
            have e := (show OwnPs lo wr.heap.size wr _ ps from (HOS.out.later HL.out).wide (Nat.le_refl _) HL.out.size).insert ((HUS.out.later HL.out).wide (Nat.le_refl _) HL.out.size) HNE.out HL8.out (v' := .slice a8 (k + 1 + (ps.length - k)) c8) (by
              rw [HINL.out, HINM.out]
              exact ownsRow_base HO8.out HLW.out)
            unfold putPs
            rw [if_neg HNI.out]
            exact e
          · have HNY := hid (show ∀ t u, YS[t]? = some u → wr.cell? ((⟨g, k, none⟩ : Addr).add t) = some u from fun t u ht => by
              have h1 := hat (k + t) u (by rw [← hYS] at ht; rw [← ht]; simp)
              rw [← h1]
              congr 1
              unfold Addr.add
              by_cases h0 : t = 0 <;> simp [h0])
            clear hat hXS hYS
            go_wp2_with fail
            go_region_held3 (fun _ => True) (trivial) (first | (have hh := HW6; clear hh; refine step_append_atH _ (by rfl) _ _ _ (by rfl) wr.heap.size 22 i0 (.slice none 0 0) 1 24 Try.underlying36 hi hz0 hz1 hz2 rfl (by omega) v6 k XS (by rfl) (by exact (HO6.out.alloc (.cells #[Value.slice ua a.length uc] 22)).drew) _ _ _ [.slice ua a.length uc] (by rfl) (by rfl) (by intro j u hj; rw [World.cell?_drew]; exact World.news_of_block (cs := #[.slice ua a.length uc]) (t := 22) (fr := (0, 0)) (heap_alloc_new w6 _) j u hj) (fun u hu => by simp at hu; subst hu; rfl) (by unfold maxLen; omega) (by omega) (by have := HW6.out; simp; omega) ?_; intro v7 w7 hown7 hgrow7; clear HW6; have HO7 := hid hown7; have HL7 := hid (show Later wr w7 from ((HL6.out.trans (Later.alloc w6 (.cells #[Value.slice ua a.length uc] 22))).trans (Later.drew _)).grown hgrow7 (by have := HL6.out.size; simp; omega) (fun b hb => (HO6.out.lt b hb).1)); clear hown7 hgrow7) | (have hh := HO7; clear hh; refine step_append_atH _ (by rfl) _ _ _ (by rfl) wr.heap.size 22 i0 (.slice none 0 0) 1 24 Try.underlying36 hi hz0 hz1 hz2 rfl (by omega) _ (k + 1) (XS ++ [.slice ua a.length uc]) (by rfl) (by exact HO7.out) ⟨g, k, none⟩ (ps.length - k) (cg - k) YS (by rfl) (by exact HYL.out) (fun t u ht => HL7.out.cell (HNY.out t u ht)) (fun u hu => HYO.out u hu) (by unfold maxLen; omega) (by omega) (by have := HL7.out.size; omega) ?_; intro v8 w8 hown8 hgrow8; have HO8 := hid hown8; have HL8 := hid (show Later wr w8 from HL7.out.grown hgrow8 HL7.out.size (fun b hb => (HO7.out.lt b hb).1)); obtain ⟨a8, c8, rfl, _⟩ := ownsRow_shape hown8; clear hown8 hgrow8 HO7 HL7))
            go_wp2_with fail
            go_ret
            refine ⟨_, rfl, ?_, HL.out.trans HL8.out, fun h => absurd h HNI.out⟩
            have e := (show OwnPs lo wr.heap.size wr _ ps from (HOS.out.later HL.out).wide (Nat.le_refl _) HL.out.size).insert ((HUS.out.later HL.out).wide (Nat.le_refl _) HL.out.size) HNE.out HL8.out (v' := .slice a8 (k + 1 + (ps.length - k)) c8) (by
              rw [HINL.out, HINM.out]
              exact ownsRow_base HO8.out HLW.out)
            unfold putPs
            rw [if_neg HNI.out]
            exact e


/-- The branches behind jumps at the first i indices, in order. -/
def upF (a : Int) (zs : List Int) : Nat → List (List Int)
  | 0 => []
  | i + 1 => match jumpL a zs i with
    | none => upF a zs i
    | some ys => if zs.getD i 0 < othL a zs i then putL (upF a zs i) ys else upF a zs i
theorem putL_len (L : List (List Int)) (a : List Int) : (putL L a).length ≤ L.length + 1 := by
  unfold putL
  split
  · omega
  · rw [List.length_append, List.length_cons, List.length_take, List.length_drop]; omega
theorem upF_len (a : Int) (zs : List Int) (i : Nat) : (upF a zs i).length ≤ i := by
  induction i with
  | zero => simp [upF]
  | succ i ih =>
    unfold upF
    split
    · omega
    · split
      · have := putL_len (upF a zs i) ‹_›; omega
      · omega
theorem upF_none {a : Int} {zs : List Int} {i : Nat} (h : jumpL a zs i = none) : upF a zs (i + 1) = upF a zs i := by
  show (match jumpL a zs i with | none => upF a zs i | some ys => if zs.getD i 0 < othL a zs i then putL (upF a zs i) ys else upF a zs i) = _
  rw [h]
theorem upF_some {a : Int} {zs ys : List Int} {i : Nat} (h : jumpL a zs i = some ys) : upF a zs (i + 1) = if zs.getD i 0 < othL a zs i then putL (upF a zs i) ys else upF a zs i := by
  show (match jumpL a zs i with | none => upF a zs i | some ys => if zs.getD i 0 < othL a zs i then putL (upF a zs i) ys else upF a zs i) = _
  rw [h]
theorem OwnInts.neOld {lo hi lo2 hi2 : Nat} {w w2 : World} {u v : Value} {x y : List Int} (h : OwnInts lo hi w u x) (h2 : OwnInts lo2 hi2 w2 v y) (hh : hi ≤ lo2) : NePr (u, x) (v, y) := by
  intro k hk hk2
  have h3 := h.2 k hk
  have h4 := (h2.1.lt k hk2).1
  omega
theorem OwnPs.none_ (lo hi : Nat) (w : World) : OwnPs lo hi w (.slice none 0 0) [] :=
  ⟨World.ownsRow_nil _ _ _ _, fun b hb => by simp [Value.ownBlock] at hb, fun p hp => by simp at hp, List.Pairwise.nil⟩

set_option maxRecDepth 20000 in
set_option maxHeartbeats 1000000 in
theorem huUp_any (v : Value) (zs : List Int) (a b : Int) (w : World) (hS : Sol zs a b) (h : IntsC w v zs) :
    Calls Try.prog 69 #[v, .int .i64 a] w fun e w' => ∃ v' ps, e = .returned v' ∧ OwnPs w.heap.size w'.heap.size w' v' ps ∧ ps.map (·.2) = upF a zs zs.length ∧ Later w w' := by
  have hlen := hS.hl
  obtain ⟨ad, c, rfl, hnc⟩ := h.addr (by omega)
  have H := hid h
  have HS := hid hS
  have HNC := hid hnc
  obtain ⟨_, _, e1, _, hcc⟩ := h.1
  simp only [Value.slice.injEq] at e1
  obtain ⟨rfl, _, rfl⟩ := e1
  have HCC := hid hcc
  have hn4 : zs.length ≤ 4 := by omega
  clear h hS hlen hnc hcc
  go_enter Try.func69, Try.ntmps69
  go_wp2_with fail
  go_loopw [5, 12] (fun o i wr => ∃ (k : Nat) (ps : List Pr), k ≤ zs.length ∧ i = .int .i64 k ∧ OwnPs w.heap.size wr.heap.size wr o ps ∧ ps.map (·.2) = upF a zs k ∧ Later w wr) (fun _ i _ => zs.length - (intOf i).toNat)
  case atStart => exact ⟨0, [], Nat.zero_le _, rfl, OwnPs.none_ _ _ _, rfl, Later.refl _⟩
  case round =>
    obtain ⟨k, ps, hk, rfl, hO, hU, hL⟩ := hrel
    have HO := hid hO
    have HU := hid hU
    have HL := hid hL
    have hpl : ps.length ≤ 4 := by have := upF_len a zs k; rw [← hU, List.length_map] at this; omega
    by_cases hlt : k < zs.length
    · have HK := hid hlt
      have hkz : (k : Int) < (zs.length : Int) := by omega
      obtain ⟨ad', e2, hcell⟩ := HCC.out k HK.out
      simp only [Option.some.injEq] at e2
      subst e2
      replace hcell := hL.cell hcell
      have HI := hid (H.out.later hL)
      obtain ⟨x, hx⟩ : ∃ x, zs.getD k 0 = x := ⟨_, rfl⟩
      have HX := hid hx
      rw [hx] at hcell
      clear hO hU hL hx
      cases hj : jumpL a zs k
      · have HJ := hid hj
        have HST := hid (upF_none hj)
        clear hj
        go_wp2_with fail
        refine (huJump_any zs a b k _ _ HK.out HS.out HI.out).mono ?_
        rintro e w2 ⟨v2, rfl, ho2, hL2⟩
        rw [HJ.out]
        have HO2 := hid ((HO.out.later hL2).wide (Nat.le_refl _) hL2.size)
        have HL2 := hid (HL.out.trans hL2)
        clear ho2 hL2 hcell
        go_wp2_with fail
        go_roundw
        case rel => exact ⟨k + 1, ps, hlt, by go_num, HO2.out, by rw [HST.out]; exact HU.out, HL2.out⟩
        case measure => simp [intOf]; omega
      · rename_i ys
        have HJ := hid hj
        have HST := hid (upF_some hj)
        clear hj
        go_wp2_with fail
        refine (huJump_any zs a b k _ _ HK.out HS.out HI.out).mono ?_
        rintro e w2 ⟨v2, rfl, ho2, hL2⟩
        rw [HJ.out] at ho2 ⊢
        have ho2' : OwnInts wr.heap.size w2.heap.size w2 v2 ys := ho2
        have HNE := hid (fun p (hp : p ∈ ps) => show NePr p (v2, ys) from (HO.out.ints p hp).neOld ho2' (Nat.le_refl _))
        have HV2 := hid (ho2'.wide HL.out.size (Nat.le_refl _))
        have HO2 := hid ((HO.out.later hL2).wide (Nat.le_refl _) hL2.size)
        have HI2 := hid (HI.out.later hL2)
        have HL2 := hid (HL.out.trans hL2)
        clear ho2 ho2' hL2 hcell
        go_wp2_with fail
        refine (huOther_sol zs a b k ad c _ HK.out HNC.out HS.out HI2.out.1).mono ?_
        rintro e w3 ⟨rfl, hL3⟩
        have HO3 := hid ((HO2.out.later hL3).wide (Nat.le_refl _) hL3.size)
        have HV3 := hid ((HV2.out.later hL3).wide (Nat.le_refl _) hL3.size)
        have HL3 := hid (HL2.out.trans hL3)
        obtain ⟨r, hr⟩ : ∃ r, othL a zs k = r := ⟨_, rfl⟩
        rw [HX.out, hr] at HST
        rw [hr]
        clear hL3 hr
        by_cases hxr : x < r
        · have hd : decide (x < r) = true := decide_eq_true hxr
          have HST2 := hid (HST.out.trans (if_pos hxr))
          clear hxr
          go_wp2_with fail
          refine (huPut_any _ v2 ys ps w3 HL3.out.size (by omega) HO3.out HV3.out HNE.out).mono ?_
          rintro e w4 ⟨v4, rfl, ho4, hL4, _⟩
          have HO4 := hid ho4
          have HL4 := hid (HL3.out.trans hL4)
          have HPM := hid (putPs_map ps (v2, ys))
          clear ho4 hL4
          go_wp2_with fail
          go_roundw
          case rel => exact ⟨k + 1, _, hlt, by go_num, HO4.out, by rw [HPM.out, HST2.out, HU.out], HL4.out⟩
          case measure => simp [intOf]; omega
        · have hd : decide (x < r) = false := decide_eq_false hxr
          have HST2 := hid (HST.out.trans (if_neg hxr))
          clear hxr
          go_wp2_with fail
          go_roundw
          case rel => exact ⟨k + 1, ps, hlt, by go_num, HO3.out, by rw [HST2.out]; exact HU.out, HL3.out⟩
          case measure => simp [intOf]; omega
    · have hkn : k = zs.length := by omega
      have HU2 := hid (show ps.map (·.2) = upF a zs zs.length by rw [← hkn]; exact HU.out)
      clear hO hU hL hkn
      go_wp2_with fail
      go_ret
      exact ⟨_, ps, rfl, HO.out, HU2.out, HL.out⟩
def brAns (zs : List Int) (a b : Int) : Option (List (List Int)) := if (givenB a b && solB zs a b) = true then some (upF a zs zs.length) else none
set_option maxRecDepth 20000 in
set_option maxHeartbeats 2000000 in
theorem specBranchesOf_any (v : Value) (zs : List Int) (a b : Int) (w : World) (h : IntsC w v zs) :
    Calls Try.prog 38 #[v, .int .i64 a, .int .i64 b] w fun e w' => RowsAns w (brAns zs a b) e w' := by
  obtain ⟨p, cap, rfl, hl, _⟩ := id h.1
  have H := hid h
  clear h
  cases hg : givenB a b
  · have HG := hid hg
    have HA := hid (show brAns zs a b = none by unfold brAns; rw [hg]; simp)
    clear hg
    go_enter Try.func38, Try.ntmps38
    go_wp2_with fail
    refine (huGiven_as a b _ _ HG.out).mono ?_
    rintro e w' ⟨rfl, rfl⟩
    go_wp2_with fail
    go_ret2
    rw [HA.out]
    exact ⟨_, rfl, OwnRows.noneH _ _ _, Later.refl _⟩
  · have HG := hid hg
    cases hs : solB zs a b
    · have HS := hid hs
      have HA := hid (show brAns zs a b = none by unfold brAns; rw [hg, hs]; simp)
      clear hg hs
      go_enter Try.func38, Try.ntmps38
      go_wp2_with fail
      refine (huGiven_as a b _ _ HG.out).mono ?_
      rintro e w' ⟨rfl, rfl⟩
      go_wp2_with fail
      refine (huGood_as _ zs a b _ _ HG.out HS.out H.out.1).mono ?_
      rintro e w' ⟨rfl, hL⟩
      have HL := hid hL
      clear hL
      go_wp2_with fail
      go_ret2
      rw [HA.out]
      exact ⟨_, rfl, OwnRows.noneH _ _ _, HL.out⟩
    · have HSol := hid (Sol.of hg hs)
      have HS := hid hs
      have HA := hid (show brAns zs a b = some (upF a zs zs.length) by unfold brAns; rw [if_pos (by rw [hg, hs]; rfl)])
      clear hg hs
      go_enter Try.func38, Try.ntmps38
      go_wp2_with fail
      refine (huGiven_as a b _ _ HG.out).mono ?_
      rintro e w' ⟨rfl, rfl⟩
      go_wp2_with fail
      refine (huGood_as _ zs a b _ _ HG.out HS.out H.out.1).mono ?_
      rintro e w' ⟨rfl, hL⟩
      have HL := hid hL
      clear hL
      go_wp2_with fail
      refine (huUp_any _ zs a b _ HSol.out (H.out.later HL.out)).mono ?_
      rintro e w2 ⟨v2, ps, rfl, ho, hm, hL⟩
      have hor := ho.rows
      rw [hm] at hor
      obtain ⟨a2, c2, rfl, _⟩ := hor.shape
      have HO := hid (hor.wide HL.out.size (Nat.le_refl _))
      have HL2 := hid (HL.out.trans hL)
      clear ho hor hL
      go_wp2_with fail
      go_ret2
      rw [HA.out]
      exact ⟨_, rfl, HO.out, HL2.out⟩


/-- All numbers that do not rise and go on a list, m of them. -/
def visP : Nat → List Int → Nat → List (List Int)
  | 0, pre, _ => [pre]
  | m + 1, pre, most => (List.range most).flatMap fun x => visP m (pre ++ [((x + 1 : Nat) : Int)]) (x + 1)
def allF (a b : Int) (m : Nat) (pre : List Int) (most : Nat) : List (List Int) := (visP m pre most).filter fun l => solB l a b
def allK (a b : Int) (m : Nat) (pre : List Int) (k : Nat) : List (List Int) := (List.range k).flatMap fun x => allF a b m (pre ++ [((x + 1 : Nat) : Int)]) (x + 1)
theorem filter_flatMapH {α β : Type} (l : List α) (f : α → List β) (p : β → Bool) : (l.flatMap f).filter p = l.flatMap fun x => (f x).filter p := by
  induction l with
  | nil => rfl
  | cons x l ih => simp [ih]
theorem allF_succ (a b : Int) (m : Nat) (pre : List Int) (most : Nat) : allF a b (m + 1) pre most = allK a b m pre most := by
  unfold allK
  show ((List.range most).flatMap fun x => visP m (pre ++ [((x + 1 : Nat) : Int)]) (x + 1)).filter _ = _
  rw [filter_flatMapH]; rfl
theorem allK_succ (a b : Int) (m : Nat) (pre : List Int) (k : Nat) : allK a b m pre (k + 1) = allK a b m pre k ++ allF a b m (pre ++ [((k + 1 : Nat) : Int)]) (k + 1) := by
  unfold allK
  rw [List.range_succ, List.flatMap_append]
  simp
theorem visP_len (m : Nat) : ∀ (pre : List Int) (most : Nat), most ≤ 40 → (visP m pre most).length ≤ 40 ^ m := by
  induction m with
  | zero => intro pre most _; simp [visP]
  | succ m ih =>
    intro pre most hm
    have key : ∀ k, k ≤ most → ((List.range k).flatMap fun x => visP m (pre ++ [((x + 1 : Nat) : Int)]) (x + 1)).length ≤ k * 40 ^ m := by
      intro k
      induction k with
      | zero => intro _; simp
      | succ k ih2 =>
        intro hk
        rw [List.range_succ, List.flatMap_append, List.length_append]
        have h1 := ih2 (by omega)
        have h2 := ih (pre ++ [((k + 1 : Nat) : Int)]) (k + 1) (by omega)
        simp only [List.flatMap_cons, List.flatMap_nil, List.append_nil]
        rw [Nat.add_mul, Nat.one_mul]
        omega
    have h3 := key most (Nat.le_refl _)
    have h4 : most * 40 ^ m ≤ 40 * 40 ^ m := Nat.mul_le_mul_right _ hm
    show ((List.range most).flatMap fun x => visP m (pre ++ [((x + 1 : Nat) : Int)]) (x + 1)).length ≤ _
    rw [Nat.pow_succ, Nat.mul_comm (40 ^ m) 40]
    omega
theorem allK_len (a b : Int) (m : Nat) (pre : List Int) (k : Nat) (hk : k ≤ 40) : (allK a b m pre k).length ≤ 40 ^ (m + 1) := by
  rw [← allF_succ]
  exact Nat.le_trans (List.length_filter_le _ _) (visP_len (m + 1) pre k hk)
theorem pow40 (m : Nat) (hm : m ≤ 4) : 40 ^ m ≤ 2560000 := by
  have h : m = 0 ∨ m = 1 ∨ m = 2 ∨ m = 3 ∨ m = 4 := by omega
  rcases h with rfl | rfl | rfl | rfl | rfl <;> decide
theorem l1OwnV_any (v : Value) (zs : List Int) (w : World) (hb : zs.length ≤ 1000) (h : Ints w v zs) :
    Calls Try.prog 58 #[v] w fun e w' => MadeInts w zs e w' := by
  obtain ⟨a, c, rfl, hl, hc⟩ := id h
  cases a with
  | none =>
    have h0 : zs = [] := by
      cases zs with
      | nil => rfl
      | cons z zs => obtain ⟨ad, e, _⟩ := hc 0 (by simp); cases e
    subst h0
    exact l1OwnN_any c w
  | some ad => exact l1OwnH_any ad zs.length c zs w rfl (by omega) h
theorem OwnPs.append {lo hi1 lo2 : Nat} {w w' : World} {o v v' : Value} {ps qs : List Pr} (h1 : OwnPs lo hi1 w o ps) (h2 : OwnPs lo2 w.heap.size w v qs) (hh : hi1 ≤ lo2) (hl : lo ≤ lo2) (hi1w : hi1 ≤ w.heap.size)
    (ho : w'.ownsRow lo 22 1 v' (ps.length + qs.length) (ps.map (·.1) ++ qs.map (·.1))) (hg : w.grownBy w' o.ownBlock) : OwnPs lo w'.heap.size w' v' (ps ++ qs) := by
  refine ⟨by rw [List.length_append, List.map_append]; exact ho, fun k hk => (ho.lt k hk).2, fun p hp => ?_, ?_⟩
  · rcases List.mem_append.1 hp with h | h
    · exact ((h1.ints p h).keptH h1.own hg).wide (Nat.le_refl _) (Nat.le_trans hi1w hg.size)
    · exact ((h2.ints p h).keptH h1.own hg).wide hl hg.size
  · rw [List.pairwise_append]
    exact ⟨h1.ne, h2.ne, fun p hp q hq => (h1.ints p hp).neOld (h2.ints q hq) hh⟩

set_option maxRecDepth 20000 in
set_option maxHeartbeats 2000000 in
theorem huAll_any (a b : Int) (hg : givenB a b = true) (m : Nat) : m ≤ 4 → ∀ (v : Value) (pre : List Int) (most : Nat) (w : World), most ≤ 40 → pre.length + m ≤ 4 → Ints w v pre →
    Calls Try.prog 73 #[v, .int .i64 m, .int .i64 a, .int .i64 b, .int .i64 most] w fun e w' => ∃ v' ps, e = .returned v' ∧ OwnPs w.heap.size w'.heap.size w' v' ps ∧ ps.map (·.2) = allF a b m pre most ∧ Later w w' := by
  induction m with
  | zero =>
    intro _ v pre most w hm hp h
    obtain ⟨p, cap, rfl, hl, _⟩ := id h
    have H := hid h
    have HG := hid hg
    cases hs : solB pre a b
    · have HS := hid hs
      have HA := hid (show allF a b 0 pre most = [] by unfold allF visP; simp [hs])
      clear h hg hs
      go_enter Try.func73, Try.ntmps73
      go_wp2_with fail
      refine (huGood_as _ pre a b _ _ HG.out HS.out H.out).mono ?_
      rintro e w' ⟨rfl, hL⟩
      have HL := hid hL
      clear hL
      go_wp2_with fail
      go_ret
      exact ⟨_, [], rfl, OwnPs.none_ _ _ _, HA.out.symm, HL.out⟩
    · have HS := hid hs
      have HA := hid (show allF a b 0 pre most = [pre] by unfold allF visP; simp [hs])
      have hpl : pre.length ≤ 1000 := by omega
      clear h hg hs
      go_enter Try.func73, Try.ntmps73
      go_wp2_with fail
      refine (huGood_as _ pre a b _ _ HG.out HS.out H.out).mono ?_
      rintro e w' ⟨rfl, hL⟩
      have HL := hid hL
      clear hL
      go_wp2_with fail
      refine (l1OwnV_any _ pre _ hpl (H.out.later HL.out)).mono ?_
      rintro e w2 ⟨v2, rfl, ho, hL2⟩
      obtain ⟨a2, c2, rfl, _⟩ := ho.shape
      have HR := hid (OwnRows.oneH hL2.size ho)
      have HL2 := hid ((HL.out.trans hL2).trans (Later.alloc w2 (.cells #[.slice a2 pre.length c2] 22)))
      have HLW := hid HL.out.size
      clear ho hL2
      go_wp2_with fail
      go_ret
      obtain ⟨ps, hps, hpm⟩ := HR.out.ps
      exact ⟨_, ps, rfl, (hps.wide HLW.out (by simp)), by rw [hpm, HA.out], HL2.out⟩
  | succ m ih =>
    intro hm4 v pre most w hm hp h
    obtain ⟨p, cap, rfl, hl, _⟩ := id h
    obtain ⟨ii, hii, ii0, ii1, ii2⟩ := info_parts Try.infoInt
    obtain ⟨i0, hi, hz0, hz1, hz2⟩ := info_parts Try.infoInts
    have H := hid h
    have HG := hid hg
    have HIH := hid (fun v pre most w h1 h2 h3 => ih (by omega) v pre most w h1 h2 h3)
    have HAS := hid (allF_succ a b m pre most)
    have HKS := hid (allK_succ a b m pre)
    have HKL := hid (fun k hk => Nat.le_trans (allK_len a b m pre k hk) (pow40 (m + 1) hm4))
    have hm0 : ((m : Int) + 1 == 0) = false := beq_eq_false_iff_ne.2 (by omega)
    have hmI : (m : Int) ≤ 4 := by omega
    have hpl : pre.length ≤ 4 := by omega
    rw [show ((m + 1 : Nat) : Int) = (m : Int) + 1 by omega]
    clear h hg ih
    go_enter Try.func73, Try.ntmps73
    go_wp2_with fail
    go_loopw [11, 12] (fun o x wr => ∃ (k : Nat) (ps : List Pr), k ≤ most ∧ x = .int .i64 ((k : Int) + 1) ∧ OwnPs w.heap.size wr.heap.size wr o ps ∧ ps.map (·.2) = allK a b m pre k ∧ Later w wr) (fun _ x _ => most + 1 - (intOf x).toNat)
    case atStart => exact ⟨0, [], Nat.zero_le _, by simp, OwnPs.none_ _ _ _, rfl, Later.refl _⟩
    case round =>
      obtain ⟨k, ps, hk, rfl, hO, hU, hL⟩ := hrel
      have HO := hid hO
      have HU := hid hU
      have HL := hid hL
      by_cases hlt : k < most
      · have hkm : (k : Int) + 1 ≤ (most : Int) := by omega
        have hpsl : ps.length ≤ 2560000 := by have := HKL.out k (by omega); rw [← hU, List.length_map] at this; exact this
        clear hO hU hL
        go_wp2_with fail
        refine (l1OwnV_any _ pre _ (by omega) (H.out.later HL.out)).mono ?_
        rintro e w2 ⟨v2, rfl, ho2, hL2⟩
        have HOA := hid (ho2.1.alloc (.cells #[Value.int .i64 ((k : Int) + 1)] 3))
        have HLT2 := hid ho2.1.lt
        have HLA := hid (hL2.trans (Later.alloc w2 (.cells #[Value.int .i64 ((k : Int) + 1)] 3)))
        clear hL2 ho2
        go_wp2_with (at_builtin; refine wpList_append_own_at _ (by rfl) _ _ _ (by rfl) wr.heap.size 3 ii (.int .i64 0) 1 8 Try.underlying22 hii ii0 ii1 ii2 rfl (by omega) v2 pre.length (pre.map (Value.int .i64)) (by rfl) (by exact HOA.out) ⟨w2.heap.size, 0, none⟩ 1 1 [.int .i64 ((k : Int) + 1)] (by rfl) (by simp) (cell_one_new _ _ _) (fun u hu => by first | (obtain ⟨y, _, rfl⟩ := List.mem_map.1 hu; rfl) | (simp at hu; subst hu; rfl)) (by unfold maxLen; omega) (by omega) HLA.out.size ?_)
        intro v4 w4 hown4 hgrow4 _ _
        have HO4 := hid (OwnInts.ofH (zs := pre ++ [((k + 1 : Nat) : Int)]) hown4 (by simp))
        have HL4 := hid (show Later wr w4 from HLA.out.grown hgrow4 HLA.out.size (fun b hb => (HLT2.out b hb).1))
        have HLw4 := hid (HL.out.trans HL4.out)
        have HAF := hid (HKS.out k)
        have HC := hid (HIH.out v4 (pre ++ [((k + 1 : Nat) : Int)]) (k + 1) w4 (by omega) (by simp; omega) HO4.out.ints)
        rw [show ((k + 1 : Nat) : Int) = (k : Int) + 1 by omega] at HC HAF
        clear hown4 hgrow4 HOA HLA HLT2
        go_wp2_with fail
        refine HC.out.mono ?_
        rintro e w5 ⟨v5, qs, rfl, ho5, hm5, hL5⟩
        have HO5 := hid ho5
        have HM5 := hid hm5
        have HOo := hid (HO.out.later (HL4.out.trans hL5))
        have HL5 := hid (HLw4.out.trans hL5)
        have HW4 := hid HL4.out.size
        have HW5 := hid hL5.size
        have HWr := hid HL.out.size
        have hql : qs.length ≤ 2560000 := by
          have h1 := HKL.out (k + 1) (by omega)
          rw [HAF.out, List.length_append, ← hm5, List.length_map] at h1
          omega
        have HNU := hid (show ps.map (·.2) ++ qs.map (·.2) = allK a b m pre (k + 1) by rw [HAF.out, HU.out, HM5.out])
        rcases ho5.own.2 with ⟨rfl, h0⟩ | ⟨g5, c5, cur5, rfl, _, _, hn5, _⟩
        · have hqs : qs = [] := List.eq_nil_of_length_eq_zero h0
          subst hqs
          clear ho5 hm5 hL5 hql
          go_wp2_with (at_builtin; refine wpList_append_own_none (by rfl) _ _ _ (by rfl) w.heap.size 22 i0 1 Try.underlying36 hi u11 _ _ (by rfl) HOo.out.own (by rfl) ?_)
          go_roundw
          case rel => exact ⟨k + 1, ps, hlt, by go_num, HOo.out.wide (Nat.le_refl _) (Nat.le_trans HW4.out HW5.out), by simpa using HNU.out, HL5.out⟩
          case measure => simp [intOf]; omega
        · have hhd := (ownPs_head HO5.out).2.2
          have HNX := hid (show ∀ j u, (qs.map (·.1))[j]? = some u → w5.cell? ((⟨g5, 0, none⟩ : Addr).add j) = some u from fun j u hj => by
            have hj2 : j < qs.length := by
              rcases Nat.lt_or_ge j qs.length with h | h
              · exact h
              · rw [List.getElem?_eq_none (by simpa using h)] at hj; cases hj
            rw [addr_add0, hhd j hj2, ← hj]
            simp [hj2])
          have HXO := hid (show ∀ u ∈ qs.map (·.1), u.oneCell' = true by intro u hu; obtain ⟨p, hp, rfl⟩ := List.mem_map.1 hu; obtain ⟨_, _, e, _⟩ := (HO5.out.ints p hp).shape; rw [e]; rfl)
          clear ho5 hm5 hL5 hhd
          go_wp2_with (at_builtin; refine wpList_append_own_at _ (by rfl) _ _ _ (by rfl) w.heap.size 22 i0 (.slice none 0 0) 1 24 Try.underlying36 hi hz0 hz1 hz2 rfl (by omega) u11 ps.length (ps.map (·.1)) (by rfl) (by exact HOo.out.own) ⟨g5, 0, none⟩ qs.length c5 (qs.map (·.1)) (by rfl) (by simp) HNX.out (fun u hu => HXO.out u hu) (by unfold maxLen; omega) (by omega) HL5.out.size ?_)
          intro v6 w6 hown6 hgrow6 _ _
          have HO6 := hid (OwnPs.append HOo.out HO5.out HW4.out (Nat.le_trans HWr.out HW4.out) (Nat.le_trans HW4.out HW5.out) hown6 hgrow6)
          have HL6 := hid (show Later w w6 from HL5.out.grown hgrow6 HL5.out.size (fun b hb => (HOo.out.own.lt b hb).1))
          clear hown6 hgrow6
          go_wp2_with fail
          go_roundw
          case rel => exact ⟨k + 1, ps ++ qs, hlt, by go_num, HO6.out, by rw [List.map_append]; exact HNU.out, HL6.out⟩
          case measure => simp [intOf]; omega
      · obtain rfl : k = most := by omega
        clear hO hU hL
        go_wp2_with fail
        go_ret
        exact ⟨_, ps, rfl, HO.out, by rw [HU.out, HAS.out], HL.out⟩


def taskB (parts a b most : Int) : Bool := within 3 4 parts && givenB a b && within 1 40 most
def allS (parts a b most : Int) : List (List Int) := allF a b parts.toNat [] most.toNat
def solsAns (parts a b most : Int) : Option (List (List Int)) := if taskB parts a b most = true ∧ (allS parts a b most).length ≤ 500 then some (allS parts a b most) else none
def fundsAns (parts a b most : Int) : Option (List (List Int)) := if taskB parts a b most = true ∧ (allS parts a b most).length ≤ 500 then some ((allS parts a b most).filter (lastB a)) else none
theorem within34 {x : Int} : within 3 4 x = true ↔ x = 3 ∨ x = 4 := by simp only [within, Bool.and_eq_true, decide_eq_true_eq]; omega
theorem within40 {x : Int} : within 1 40 x = true ↔ 1 ≤ x ∧ x ≤ 40 := by simp only [within, Bool.and_eq_true, decide_eq_true_eq]
theorem taskB_iff {parts a b most : Int} : taskB parts a b most = true ↔ (parts = 3 ∨ parts = 4) ∧ givenB a b = true ∧ 1 ≤ most ∧ most ≤ 40 := by
  unfold taskB
  rw [Bool.and_eq_true, Bool.and_eq_true, within34, within40, and_assoc]
set_option maxRecDepth 20000 in
set_option maxHeartbeats 1000000 in
theorem huTask_any (parts a b most : Int) (w : World) : Calls Try.prog 72 #[.int .i64 parts, .int .i64 a, .int .i64 b, .int .i64 most] w fun e w' => e = .returned (.bool (taskB parts a b most)) ∧ w = w' := by
  obtain ⟨T, hT⟩ : ∃ T, taskB parts a b most = T := ⟨_, rfl⟩
  have HT := hid (show T = (within 3 4 parts && givenB a b && within 1 40 most) from hT.symm)
  rw [hT]
  clear hT
  cases h1 : within 3 4 parts
  · have H1 := hid h1
    rw [h1] at HT
    clear h1
    go_enter Try.func72, Try.ntmps72
    go_wp2_with fail
    refine (l1In_as _ _ _ _ _ H1.out).mono ?_
    rintro e w' ⟨rfl, rfl⟩
    go_wp2_with fail
    go_ret
    exact ⟨ret_bool HT.out.symm, rfl⟩
  · have H1 := hid h1
    rw [h1] at HT
    clear h1
    cases h2 : givenB a b
    · have H2 := hid h2
      rw [h2] at HT
      clear h2
      go_enter Try.func72, Try.ntmps72
      go_wp2_with fail
      refine (l1In_as _ _ _ _ _ H1.out).mono ?_
      rintro e w' ⟨rfl, rfl⟩
      go_wp2_with fail
      refine (huGiven_as a b _ _ H2.out).mono ?_
      rintro e w' ⟨rfl, rfl⟩
      go_wp2_with fail
      go_ret
      exact ⟨ret_bool HT.out.symm, rfl⟩
    · have H2 := hid h2
      rw [h2] at HT
      obtain ⟨T3, h3⟩ : ∃ T3, within 1 40 most = T3 := ⟨_, rfl⟩
      have H3 := hid h3
      rw [h3] at HT
      clear h2 h3
      go_enter Try.func72, Try.ntmps72
      go_wp2_with fail
      refine (l1In_as _ _ _ _ _ H1.out).mono ?_
      rintro e w' ⟨rfl, rfl⟩
      go_wp2_with fail
      refine (huGiven_as a b _ _ H2.out).mono ?_
      rintro e w' ⟨rfl, rfl⟩
      go_wp2_with fail
      refine (l1In_as _ _ _ _ _ H3.out).mono ?_
      rintro e w' ⟨rfl, rfl⟩
      go_wp2_with fail
      go_ret
      exact ⟨ret_bool (by rw [HT.out]; rfl), rfl⟩
theorem huTask_as {parts a b most : Int} {T : Bool} (w : World) (h : taskB parts a b most = T) : Calls Try.prog 72 #[.int .i64 parts, .int .i64 a, .int .i64 b, .int .i64 most] w fun e w' => e = .returned (.bool T) ∧ w = w' := by
  subst h; exact huTask_any parts a b most w
theorem ints_nil (w : World) (c : Nat) : Ints w (.slice none 0 c) [] := ⟨none, c, rfl, by simp, fun i hi => absurd hi (Nat.not_lt_zero i)⟩
/-- All solutions, made anew. -/
theorem huAllS_any (parts a b most : Int) (w : World) (h : taskB parts a b most = true) :
    Calls Try.prog 73 #[.slice none 0 0, .int .i64 parts, .int .i64 a, .int .i64 b, .int .i64 most] w fun e w' => ∃ v' ps, e = .returned v' ∧ OwnPs w.heap.size w'.heap.size w' v' ps ∧ ps.map (·.2) = allS parts a b most ∧ Later w w' := by
  obtain ⟨hp, hg, h1, h2⟩ := taskB_iff.1 h
  have := huAll_any a b hg parts.toNat (by omega) (.slice none 0 0) [] most.toNat w (by omega) (by simp; omega) (ints_nil w 0)
  rw [show ((parts.toNat : Nat) : Int) = parts by omega, show ((most.toNat : Nat) : Int) = most by omega] at this
  exact this
theorem allS_len {parts a b most : Int} (h : taskB parts a b most = true) : (allS parts a b most).length ≤ 2560000 := by
  obtain ⟨hp, hg, h1, h2⟩ := taskB_iff.1 h
  exact Nat.le_trans (Nat.le_trans (List.length_filter_le _ _) (visP_len _ _ _ (by omega))) (pow40 _ (by omega))

set_option maxRecDepth 20000 in
set_option maxHeartbeats 1000000 in
theorem specSolutionsUpTo_any (parts a b most : Int) (w : World) : Calls Try.prog 40 #[.int .i64 parts, .int .i64 a, .int .i64 b, .int .i64 most] w fun e w' => RowsAns w (solsAns parts a b most) e w' := by
  cases h : taskB parts a b most
  · have H := hid h
    have HA := hid (show solsAns parts a b most = none by unfold solsAns; rw [if_neg (by rw [h]; simp)])
    clear h
    go_enter Try.func40, Try.ntmps40
    go_wp2_with fail
    refine (huTask_as _ H.out).mono ?_
    rintro e w' ⟨rfl, rfl⟩
    go_wp2_with fail
    go_ret2
    rw [HA.out]
    exact ⟨_, rfl, OwnRows.noneH _ _ _, Later.refl _⟩
  · have H := hid h
    have HAL := hid (show ∀ n, (allS parts a b most).length = n → solsAns parts a b most = if n ≤ 500 then some (allS parts a b most) else none from fun n hn => by
      unfold solsAns
      rw [hn]
      by_cases h5 : n ≤ 500
      · rw [if_pos ⟨h, h5⟩, if_pos h5]
      · rw [if_neg (fun hh => h5 hh.2), if_neg h5])
    have hal := allS_len h
    have HC := hid (fun w => huAllS_any parts a b most w h)
    obtain ⟨R, hR⟩ : ∃ R, allS parts a b most = R := ⟨_, rfl⟩
    rw [hR] at HAL HC hal
    clear h hR
    go_enter Try.func40, Try.ntmps40
    go_wp2_with fail
    refine (huTask_as _ H.out).mono ?_
    rintro e w' ⟨rfl, rfl⟩
    go_wp2_with fail
    refine (HC.out w).mono ?_
    rintro e w2 ⟨v2, ps, rfl, ho, hm, hL⟩
    have hor := ho.rows
    rw [hm] at hor
    obtain ⟨a2, c2, rfl, _⟩ := hor.shape
    have HO := hid hor
    have HL := hid hL
    clear ho hor hL hm
    by_cases h5 : R.length ≤ 500
    · have HA := hid (show solsAns parts a b most = some R by rw [HAL.out _ rfl, if_pos h5])
      have hd : decide ((500 : Int) < (R.length : Int)) = false := decide_eq_false (by omega)
      clear h5
      go_wp2_with fail
      go_ret2
      rw [HA.out]
      exact ⟨_, rfl, HO.out, HL.out⟩
    · have HA := hid (show solsAns parts a b most = none by rw [HAL.out _ rfl, if_neg h5])
      have hd : decide ((500 : Int) < (R.length : Int)) = true := decide_eq_true (by omega)
      clear h5
      go_wp2_with fail
      go_ret2
      rw [HA.out]
      exact ⟨_, rfl, OwnRows.noneH _ _ _, HL.out⟩


theorem fundsAns_of (parts a b most : Int) : fundsAns parts a b most = (solsAns parts a b most).map fun L => L.filter (lastB a) := by
  unfold fundsAns solsAns; split <;> rfl
theorem sols_sol {parts a b most : Int} {R : List (List Int)} (h : solsAns parts a b most = some R) : R.length ≤ 500 ∧ ∀ r ∈ R, Sol r a b := by
  unfold solsAns at h
  split at h
  · rename_i hh
    simp only [Option.some.injEq] at h
    subst h
    refine ⟨hh.2, fun r hr => ?_⟩
    unfold allS allF at hr
    exact Sol.of (taskB_iff.1 hh.1).2.1 (List.mem_filter.1 hr).2
  · cases h
theorem filter_takeL {p : List Int → Bool} {R : List (List Int)} {k : Nat} (h : k < R.length) : (R.take (k + 1)).filter p = (R.take k).filter p ++ (if p (R.getD k []) = true then [R.getD k []] else []) := by
  rw [List.take_add_one, List.getElem?_eq_getElem h, List.filter_append, List.getD_eq_getElem?_getD, List.getElem?_eq_getElem h]
  congr 1
  simp only [Option.getD_some, Option.toList_some]
  cases hp : p R[k] <;> simp [hp]
theorem ownsRow_up {w : World} {lo lo' : Nat} {e : TypeId} {v : Value} {n : Nat} {xs : List Value} (h : w.ownsRow lo e 1 v n xs) (hb : ∀ b, v.ownBlock = some b → lo' ≤ b) : w.ownsRow lo' e 1 v n xs := by
  refine ⟨h.1, ?_⟩
  rcases h.2 with hn | ⟨g, cap, cur, rfl, _, rest⟩
  · exact .inl hn
  · exact .inr ⟨g, cap, cur, rfl, hb g rfl, rest⟩

set_option maxRecDepth 20000 in
set_option maxHeartbeats 2000000 in
theorem specFundamentalsUpTo_any (parts a b most : Int) (w : World) : Calls Try.prog 42 #[.int .i64 parts, .int .i64 a, .int .i64 b, .int .i64 most] w fun e w' => RowsAns w (fundsAns parts a b most) e w' := by
  have HC := hid (specSolutionsUpTo_any parts a b most)
  have HF := hid (fundsAns_of parts a b most)
  have hss := fun R h => sols_sol (parts := parts) (a := a) (b := b) (most := most) (R := R) h
  obtain ⟨o, ho⟩ : ∃ o, solsAns parts a b most = o := ⟨_, rfl⟩
  rw [ho] at HC HF
  simp only [ho] at hss
  clear ho
  cases o with
  | none =>
    have HA := hid (show fundsAns parts a b most = none from HF.out)
    clear hss
    go_enter Try.func42, Try.ntmps42
    go_wp2_with fail
    refine (HC.out w).mono ?_
    rintro e w1 ⟨v1, rfl, ho1, hL1⟩
    have HL1 := hid hL1
    clear hL1 ho1
    go_wp2_with fail
    go_ret2
    rw [HA.out]
    exact ⟨_, rfl, OwnRows.noneH _ _ _, HL1.out⟩
  | some R =>
    obtain ⟨hRl, hRs⟩ := hss R rfl
    have HRS := hid hRs
    have HA := hid (show fundsAns parts a b most = some (R.filter (lastB a)) from HF.out)
    obtain ⟨i0, hi, hz0, hz1, hz2⟩ := info_parts Try.infoInts
    clear hss hRs
    go_enter Try.func42, Try.ntmps42
    go_wp2_with fail
    refine (HC.out w).mono ?_
    rintro e w1 ⟨v1, rfl, ho1, hL1⟩
    have ho1' : OwnRows w.heap.size w1.heap.size w1 v1 R := ho1
    obtain ⟨ps, hps, hpm⟩ := ho1'.ps
    have HPM := hid hpm
    have HPS := hid hps
    have HL1 := hid hL1
    have hpl : ps.length = R.length := by rw [← hpm, List.length_map]
    have HPL := hid hpl
    obtain ⟨a1, c1, e1, _⟩ := ho1'.shape
    subst e1
    have HRO := hid (show ∀ k, k < ps.length → ∃ g ad c, a1 = some ⟨g, 0, none⟩ ∧ w1.cell? ⟨g, k, none⟩ = some (.slice ad (R.getD k []).length c) ∧ OwnInts w.heap.size w1.heap.size w1 (.slice ad (R.getD k []).length c) (R.getD k []) ∧ (ps.getD k (undef, [])) = (.slice ad (R.getD k []).length c, R.getD k []) ∧ R.getD k [] ∈ R by
      intro k hk
      rcases hps.own.2 with ⟨_, h0⟩ | ⟨g, cg, cur, e, _⟩
      · omega
      · simp only [Value.slice.injEq] at e
        obtain ⟨rfl, _, _⟩ := e
        have h1 := (ownPs_head hps).2.2 k hk
        have h2 := hps.ints ps[k] (List.getElem_mem hk)
        have h3 : ps.getD k (undef, []) = ps[k] := by simp [hk]
        have h4 : R.getD k [] = ps[k].2 := by rw [← hpm]; simp [hk]
        obtain ⟨ad, c, e5, _⟩ := h2.shape
        refine ⟨g, ad, c, rfl, ?_, ?_, ?_, ?_⟩
        · rw [h4, ← e5, ← h3]; exact h1
        · rw [h4, ← e5]; exact h2
        · rw [h3, h4, ← e5]
        · rw [h4, ← hpm]; exact List.mem_map.2 ⟨ps[k], List.getElem_mem hk, rfl⟩)
    clear ho1 ho1' hps hpm hL1
    rw [← hpl] at hRl
    have HRL := hid (show (R.length : Int) = (ps.length : Int) by omega)
    rw [show R.length = ps.length from hpl.symm]
    clear hpl
    go_wp2_with fail
    go_loopw [12, 27] (fun o i wr => ∃ (k : Nat) (qs : List Pr), k ≤ ps.length ∧ i = .int .i64 k ∧ OwnPs w.heap.size wr.heap.size wr o qs ∧ qs.map (·.2) = (R.take k).filter (lastB a) ∧ qs.Sublist (ps.take k) ∧ Later w1 wr ∧ (∀ b, o.ownBlock = some b → w1.heap.size ≤ b)) (fun _ i _ => ps.length - (intOf i).toNat)
    case atStart => exact ⟨0, [], Nat.zero_le _, rfl, OwnPs.none_ _ _ _, by simp, List.nil_sublist _, Later.refl _, fun b hb => by simp [Value.ownBlock] at hb⟩
    case round =>
      obtain ⟨k, qs, hk, rfl, hO, hU, hS, hL, hbk⟩ := hrel
      have HO := hid hO
      have HU := hid hU
      have HSL := hid hS
      have HL := hid hL
      have HBK := hid hbk
      by_cases hlt : k < ps.length
      · obtain ⟨g, ad, c, rfl, hcell, hown, hpe, hmem⟩ := HRO.out k hlt
        have hkI : (k : Int) < (ps.length : Int) := by omega
        have HFT := hid (filter_takeL (p := lastB a) (R := R) (k := k) (by rw [← HPL.out]; exact hlt))
        have HRk := hid (HRS.out _ hmem)
        replace hcell := hL.cell hcell
        have HOWk := hid (hown.later hL)
        have HPE := hid hpe
        have HTK := hid (show ps.take (k + 1) = ps.take k ++ [ps.getD k (undef, [])] by rw [List.take_add_one, List.getElem?_eq_getElem hlt, List.getD_eq_getElem?_getD, List.getElem?_eq_getElem hlt]; rfl)
        rw [hpe] at HTK
        obtain ⟨r, hr⟩ : ∃ r, R.getD k [] = r := ⟨_, rfl⟩
        rw [hr] at hcell HOWk HFT HRk HTK
        have hql : qs.length ≤ 500 := by
          have := hS.length_le
          rw [List.length_take] at this
          omega
        clear hO hU hS hL hbk hown hpe hmem hr HPE
        go_wp2_with fail
        refine (huLast_any _ r a b _ HRk.out HOWk.out.intsC).mono ?_
        rintro e w2 ⟨rfl, hL2⟩
        have HO2 := hid ((HO.out.later hL2).wide (Nat.le_refl _) hL2.size)
        have HOWk2 := hid (HOWk.out.later hL2)
        have HL2 := hid (HL.out.trans hL2)
        clear hL2 hcell
        cases hlb : lastB a r
        · have HFT2 := hid (show (R.take (k + 1)).filter (lastB a) = (R.take k).filter (lastB a) by rw [HFT.out, hlb]; simp)
          clear hlb
          go_wp2_with fail
          go_roundw
          case rel => exact ⟨k + 1, qs, hlt, by go_num, HO2.out, by rw [HFT2.out]; exact HU.out, by rw [HTK.out]; exact HSL.out.trans (List.sublist_append_left _ _), HL2.out, HBK.out⟩
          case measure => simp [intOf]; omega
        · have HFT2 := hid (show (R.take (k + 1)).filter (lastB a) = (R.take k).filter (lastB a) ++ [r] by rw [HFT.out, hlb]; simp)
          have HUP := hid (ownsRow_up HO2.out.own HBK.out)
          have HOA := hid ((ownsRow_up HO2.out.own HBK.out).alloc (.cells #[Value.slice ad r.length c] 22))
          have hA := Later.alloc w2 (.cells #[Value.slice ad r.length c] 22)
          have HLA := hid (HL2.out.trans hA)
          have HO2a := hid (HO2.out.later hA)
          have HOWa := hid (HOWk2.out.later hA)
          have hws := HL2.out.size
          have HW1 := hid HL1.out.size
          clear hlb hA
          go_wp2_with (at_builtin; refine wpList_append_lies _ (by rfl) _ _ _ (by rfl) w1.heap.size 22 i0 (.slice none 0 0) 1 24 Try.underlying36 hi hz0 hz1 hz2 rfl (by omega) _ qs.length (qs.map (·.1)) (by rfl) (by exact HOA.out) ⟨w2.heap.size, 0, none⟩ 1 1 [.slice ad r.length c] (by rfl) (by rfl) (World.news_of_block (cs := #[.slice ad r.length c]) (t := 22) (fr := (0, 0)) (heap_alloc_new w2 _)) (by simp [Value.oneCell']) (by omega) (by unfold maxLen; omega) (by omega) (by simp; omega) (w2.heap.size + 1) (by simp) ?_)
          intro g2 cap2 w3 hown3 hgrow3 _ _
          have HO3 := hid (show OwnPs w.heap.size w3.heap.size w3 (.slice (some ⟨g2, 0, none⟩) (qs.length + 1) cap2) (qs ++ [(.slice ad r.length c, r)]) from by
            refine ⟨?_, fun b hb => (hown3.lt b hb).2, fun p hp => ?_, ?_⟩
            · rw [List.length_append, List.map_append]; exact ownsRow_base hown3 HW1.out
            · rcases List.mem_append.1 hp with h | h
              · exact ((HO2a.out.ints p h).keptH HO2a.out.own hgrow3).wide (Nat.le_refl _) (by have := hgrow3.size; simp at this; omega)
              · rw [List.mem_singleton] at h
                subst h
                exact (HOWa.out.keptH HO2a.out.own hgrow3).wide (Nat.le_refl _) (by have := hgrow3.size; simp at this; omega)
            · refine List.Pairwise.sublist (HSL.out.append (List.Sublist.refl [_])) ?_
              rw [← HTK.out]
              exact HPS.out.ne.sublist (List.take_sublist _ _))
          have HL3 := hid (show Later w1 w3 from HLA.out.grown hgrow3 (by simp; omega) (fun b hb => HBK.out b hb))
          have HB3 := hid (fun b (hb : (Value.slice (some ⟨g2, 0, none⟩) (qs.length + 1) cap2).ownBlock = some b) => (hown3.lt b hb).1)
          clear hown3 hgrow3
          go_wp2_with fail
          go_roundw
          case rel => exact ⟨k + 1, qs ++ [(.slice ad r.length c, r)], hlt, by go_num, HO3.out, by rw [HFT2.out, List.map_append, HU.out]; rfl, by rw [HTK.out]; exact HSL.out.append (List.Sublist.refl [_]), HL3.out, HB3.out⟩
          case measure => simp [intOf]; omega
      · have hke : k = ps.length := by omega
        have HFE := hid (show qs.map (·.2) = R.filter (lastB a) by rw [HU.out, hke, HPL.out, List.take_length])
        have hor := HO.out.rows
        rw [HFE.out] at hor
        have HOR := hid hor
        have HLf := hid (HL1.out.trans HL.out)
        obtain ⟨a9, c9, e9, _⟩ := hor.shape
        subst e9
        clear hO hU hS hL hbk hor hke
        go_wp2_with fail
        go_ret2
        rw [HA.out]
        exact ⟨_, rfl, HOR.out, HLf.out⟩


/-- A function value that visits solutions: what holds behind those that were visited, beside blocks P that it leaves alone. -/
structure Visitor (g : Nat) (lb : Array Value) (D : So → Prop) (Inv : (Nat → Prop) → List So → World → Prop) : Prop where
  call : ∀ P done s w, Inv P done w → D s → done.length ≤ 2560000 → Calls Try.prog g (#[soA s] ++ lb) w fun e w' => e = .returned (.tuple #[]) ∧ Inv P (done ++ [s]) w' ∧ ∀ b, P b → w'.heap[b]? = w.heap[b]?
  new : ∀ P done w o, Inv P done w → Inv (fun b => P b ∨ b = w.heap.size) done (w.alloc o)
  set : ∀ P done w b k v, Inv P done w → P b → Inv P done (w.setCell ⟨b, k, none⟩ v)
  weak : ∀ P P' done w, Inv P' done w → (∀ b, P b → P' b) → Inv P done w
theorem visP_mem (m : Nat) : ∀ (pre : List Int) (most : Nat) (l : List Int), l ∈ visP m pre most → ∃ suf, l = pre ++ suf ∧ suf.length = m ∧ fallB most suf = true := by
  induction m with
  | zero => intro pre most l h; simp [visP] at h; exact ⟨[], by simp [h], rfl, rfl⟩
  | succ m ih =>
    intro pre most l h
    unfold visP at h
    obtain ⟨x, hx, hl⟩ := List.mem_flatMap.1 h
    rw [List.mem_range] at hx
    obtain ⟨suf, e, hs, hf⟩ := ih _ _ _ hl
    refine ⟨((x + 1 : Nat) : Int) :: suf, by rw [e]; simp, by simp [hs], ?_⟩
    unfold fallB
    rw [hf, decide_eq_true (by omega), decide_eq_true (by omega)]
    rfl
theorem fallB_mono {m n : Int} (hmn : m ≤ n) : ∀ {zs : List Int}, fallB m zs = true → fallB n zs = true := by
  intro zs h
  cases zs with
  | nil => rfl
  | cons z zs =>
    unfold fallB at h ⊢
    rw [Bool.and_eq_true, Bool.and_eq_true, decide_eq_true_eq, decide_eq_true_eq] at h
    rw [h.2, decide_eq_true h.1.1, decide_eq_true (by omega)]
    rfl
theorem toSo_arr {pre : List Int} {x y z t : Int} (h : [x, y, z, t].take pre.length = pre) (hp : pre.length = 3 ∨ pre.length = 4) (h3 : pre.length = 3 → t = 0) : toSo pre = (x, y, z, t) := by
  rcases hp with h1 | h1
  · have ht := h3 h1
    rw [h1] at h
    rw [← h, ht]; rfl
  · rw [h1] at h
    rw [← h]; rfl
def visK (m : Nat) (pre : List Int) (k : Nat) : List (List Int) := (List.range k).flatMap fun x => visP m (pre ++ [((x + 1 : Nat) : Int)]) (x + 1)
theorem visK_succ (m : Nat) (pre : List Int) (k : Nat) : visK m pre (k + 1) = visK m pre k ++ visP m (pre ++ [((k + 1 : Nat) : Int)]) (k + 1) := by
  unfold visK; rw [List.range_succ, List.flatMap_append]; simp
theorem visP_succ (m : Nat) (pre : List Int) (most : Nat) : visP (m + 1) pre most = visK m pre most := rfl
theorem visK_le (m : Nat) (pre : List Int) {k n : Nat} (h : k ≤ n) : (visK m pre k).length ≤ (visK m pre n).length := by
  induction n with
  | zero => have : k = 0 := by omega
            rw [this]; exact Nat.le_refl _
  | succ n ih =>
    by_cases hk : k = n + 1
    · rw [hk]; exact Nat.le_refl _
    · rw [visK_succ, List.length_append]; have := ih (by omega); omega

/-- What the search's own variables hold. -/
structure Fill (w : World) (B3 B5 B6 B7 g : Nat) (lb : Array Value) (parts : Nat) (pre : List Int) : Prop where
  c3 : w.cell? ⟨B3, 0, none⟩ = some (.int .i64 parts)
  c5 : w.cell? ⟨B5, 0, none⟩ = some (.func (.func g) #[] lb)
  c7 : w.cell? ⟨B7, 0, none⟩ = some (.func (.func 96) #[] #[.pointer (some ⟨B3, 0, none⟩), .pointer (some ⟨B5, 0, none⟩), .pointer (some ⟨B6, 0, none⟩), .pointer (some ⟨B7, 0, none⟩)])
  box : ∃ x y z t, Box4 w B6 x y z t ∧ [x, y, z, t].take pre.length = pre ∧ (parts = 3 → t = 0)
theorem Fill.keep {w w' : World} {B3 B5 B6 B7 g : Nat} {lb : Array Value} {parts : Nat} {pre : List Int} (h : Fill w B3 B5 B6 B7 g lb parts pre) (k3 : w'.heap[B3]? = w.heap[B3]?) (k5 : w'.heap[B5]? = w.heap[B5]?) (k6 : w'.heap[B6]? = w.heap[B6]?) (k7 : w'.heap[B7]? = w.heap[B7]?) : Fill w' B3 B5 B6 B7 g lb parts pre := by
  obtain ⟨x, y, z, t, hb, h1, h2⟩ := h.box
  exact ⟨cell_keep h.c3 k3, cell_keep h.c5 k5, cell_keep h.c7 k7, x, y, z, t, hb.keep k6, h1, h2⟩

set_option maxRecDepth 20000 in
set_option maxHeartbeats 2000000 in
theorem fillC_any {g : Nat} {lb : Array Value} {D : So → Prop} {Inv : (Nat → Prop) → List So → World → Prop} (eg : ∀ args w, (callFunc g args).run Try.prog w = .ok (.enter g args) w) (V : Visitor g lb D Inv) (parts : Nat) (hparts : parts = 3 ∨ parts = 4)
    (B3 B5 B6 B7 : Nat) (h36 : B3 ≠ B6) (h56 : B5 ≠ B6) (h76 : B7 ≠ B6) (P : Nat → Prop) (p3 : P B3) (p5 : P B5) (p6 : P B6) (p7 : P B7) (m : Nat) :
    ∀ (pre : List Int) (most : Nat) (done : List So) (w : World), pre.length + m = parts → most ≤ 40 → (∀ l ∈ visP m pre most, D (toSo l)) → done.length + (visP m pre most).length ≤ 2560000 → Inv P done w → Fill w B3 B5 B6 B7 g lb parts pre →
    Calls Try.prog 96 #[.int .i64 pre.length, .int .i64 most, .pointer (some ⟨B3, 0, none⟩), .pointer (some ⟨B5, 0, none⟩), .pointer (some ⟨B6, 0, none⟩), .pointer (some ⟨B7, 0, none⟩)] w fun e w' =>
      e = .returned (.tuple #[]) ∧ Inv P (done ++ (visP m pre most).map toSo) w' ∧ Fill w' B3 B5 B6 B7 g lb parts pre ∧ ∀ b, P b → b ≠ B6 → w'.heap[b]? = w.heap[b]? := by
  induction m with
  | zero =>
    intro pre most done w hpm hmo hD hdl hI hF
    have HI := hid hI
    have HF := hid hF
    obtain ⟨c3, c5, c7, x, y, z, t, hb, ht1, ht2⟩ := hF
    obtain ⟨⟨d0, d1, d2, d3⟩, _⟩ := hb
    have hpl : pre.length = parts := by omega
    have HE := hid (show toSo pre = (x, y, z, t) from toSo_arr ht1 (by rw [hpl]; exact hparts) (fun h => ht2 (by rw [← hpl]; exact h)))
    have HD := hid (hD pre (by simp [visP]))
    have HV := hid (V.call P done (x, y, z, t) w HI.out (by rw [← HE.out]; exact HD.out) (by simp [visP] at hdl; omega))
    have heq : ((pre.length : Int) == (parts : Int)) = true := by rw [hpl]; simp
    clear hI hD hdl ht1 ht2 hpl
    go_enter Try.func96, Try.ntmps96
    go_wp2_with (go_at_fn g; refine HV.out.mono ?_; rintro e w2 ⟨rfl, hI2, hk2⟩; have HI2 := hid hI2; have HK2 := hid hk2; clear hI2 hk2)
    refine bodyPost_ret (v := .tuple #[]) (by simp [results, Try.results96, go_sem]) rfl ?_
    refine ⟨rfl, ?_, HF.out.keep (HK2.out _ p3) (HK2.out _ p5) (HK2.out _ p6) (HK2.out _ p7), fun b hb _ => HK2.out b hb⟩
    have := HI2.out
    rw [← HE.out] at this
    exact this
  | succ m ih =>
    intro pre most done w hpm hmo hD hdl hI hF
    have HIH := hid (fun pre most done w h1 h2 h3 h4 h5 h6 => ih pre most done w h1 h2 h3 h4 h5 h6)
    have HI := hid hI
    have HF := hid hF
    have HVK := hid (visK_succ m pre)
    have HVL := hid (fun k (hk : k ≤ most) => Nat.le_trans (Nat.add_le_add_left (visK_le m pre hk) done.length) hdl)
    have HDD := hid (fun k (hk : k < most) l (hl : l ∈ visP m (pre ++ [((k + 1 : Nat) : Int)]) (k + 1)) => hD l (by rw [visP_succ]; exact List.mem_flatMap.2 ⟨k, List.mem_range.2 hk, hl⟩))
    have hne : ((pre.length : Int) == (parts : Int)) = false := beq_eq_false_iff_ne.2 (by omega)
    have hp4 : (pre.length : Int) < 4 := by omega
    have hp0 : (0 : Int) ≤ (pre.length : Int) := by omega
    obtain ⟨c3, _, _, _⟩ := hF
    rw [visP_succ]
    clear hI hD hdl ih
    go_enter Try.func96, Try.ntmps96
    go_wp2_with fail
    go_loopw [8] (fun i wr => ∃ k : Nat, k ≤ most ∧ i = .int .i64 ((k : Int) + 1) ∧ Inv P (done ++ (visK m pre k).map toSo) wr ∧ Fill wr B3 B5 B6 B7 g lb parts pre ∧ ∀ b, P b → b ≠ B6 → wr.heap[b]? = w.heap[b]?) (fun i _ => most + 1 - (intOf i).toNat)
    case atStart => exact ⟨0, Nat.zero_le _, by simp, by simpa [visK] using HI.out, HF.out, fun _ _ _ => rfl⟩
    case round =>
      obtain ⟨k, hk, rfl, hI, hF, hK⟩ := hrel
      have HIk := hid hI
      have HFk := hid hF
      have HKk := hid hK
      by_cases hlt : k < most
      · have hkI : (k : Int) + 1 ≤ (most : Int) := by omega
        obtain ⟨c3', c5, c7, x, y, z, t, hb, ht1, ht2⟩ := hF
        have HT1 := hid ht1
        have HT2 := hid ht2
        have HB := hid hb
        obtain ⟨⟨d0, d1, d2, d3⟩, f0, f1, f2, f3⟩ := hb
        have hpl4 : pre.length < 4 := by omega
        have dat := HB.out.arr.at pre.length hpl4
        have fat : wr.frozen? ⟨B6, pre.length, none⟩ = false := by
          have h4 : pre.length = 0 ∨ pre.length = 1 ∨ pre.length = 2 ∨ pre.length = 3 := by omega
          rcases h4 with h | h | h | h <;> rw [h] <;> assumption
        clear hI hK ht1 ht2
        go_wp2_with fail
        obtain ⟨x', y', z', t', hA, he⟩ := HB.out.arr.setAt pre.length hpl4 ((k : Int) + 1)
        have hF2 := HB.out.frz.set ⟨B6, pre.length, none⟩ (.int .i64 ((k : Int) + 1))
        have HI2 := hid (V.set P _ wr B6 pre.length (.int .i64 ((k : Int) + 1)) HIk.out p6)
        have HK2 := hid (fun b (hb : b ≠ B6) => heap_setCell_other wr ⟨B6, pre.length, none⟩ b (.int .i64 ((k : Int) + 1)) hb)
        have HFL := hid (show Fill (wr.setCell ⟨B6, pre.length, none⟩ (.int .i64 ((k : Int) + 1))) B3 B5 B6 B7 g lb parts (pre ++ [((k + 1 : Nat) : Int)]) from by
          refine ⟨cell_keep c3' (HK2.out B3 h36), cell_keep c5 (HK2.out B5 h56), cell_keep c7 (HK2.out B7 h76), x', y', z', t', ⟨hA, hF2⟩, ?_, fun h3 => ?_⟩
          · rw [he, List.length_append, List.length_singleton, List.take_set, take_snoc [x, y, z, t] pre.length (by simpa using hpl4), HT1.out, List.set_append_right _ _ (Nat.le_refl _), Nat.sub_self]
            simp
          · have h4 : pre.length = 0 ∨ pre.length = 1 ∨ pre.length = 2 := by omega
            have := HT2.out h3
            rcases h4 with h | h | h <;> rw [h] at he <;> simp at he <;> omega)
        have HC := hid (HIH.out (pre ++ [((k + 1 : Nat) : Int)]) (k + 1) (done ++ (visK m pre k).map toSo) _ (by simp; omega) (by omega) (HDD.out k hlt) (by
          have := HVL.out (k + 1) hlt
          rw [HVK.out, List.length_append] at this
          rw [List.length_append, List.length_map]; omega) HI2.out HFL.out)
        rw [show (((pre ++ [((k + 1 : Nat) : Int)]).length : Nat) : Int) = (pre.length : Int) + 1 by simp, show ((k + 1 : Nat) : Int) = (k : Int) + 1 by omega] at HC
        refine HC.out.mono ?_
        rintro e w3 ⟨rfl, hI3, hF3, hK3⟩
        have HI3 := hid (show Inv P (done ++ (visK m pre (k + 1)).map toSo) w3 by
          rw [HVK.out, List.map_append, ← List.append_assoc, show ((k + 1 : Nat) : Int) = (k : Int) + 1 by omega]; exact hI3)
        have HF3 := hid (show Fill w3 B3 B5 B6 B7 g lb parts pre from by
          obtain ⟨q3, q5, q7, x2, y2, z2, t2, hb2, u1, u2⟩ := hF3
          refine ⟨q3, q5, q7, x2, y2, z2, t2, hb2, ?_, u2⟩
          have e2 : ([x2, y2, z2, t2].take (pre ++ [(k : Int) + 1]).length).take pre.length = pre := by rw [u1]; simp
          rw [List.take_take, Nat.min_eq_left (by simp)] at e2
          exact e2)
        have HK3 := hid (show ∀ b, P b → b ≠ B6 → w3.heap[b]? = w.heap[b]? from fun b hb hb6 => (hK3 b hb hb6).trans ((HK2.out b hb6).trans (HKk.out b hb hb6)))
        clear hI3 hF3 hK3 hA he hF2 d0 d1 d2 d3 f0 f1 f2 f3 dat fat
        go_wp2_with fail
        go_roundw
        case rel => exact ⟨k + 1, hlt, by go_num, HI3.out, HF3.out, HK3.out⟩
        case measure => simp [intOf]; omega
      · obtain rfl : k = most := by omega
        clear hI hF hK
        go_wp2_with fail
        refine bodyPost_end (v := .tuple #[]) ?_ rfl ?_
        · simp [results, Try.results96, go_sem]
        · exact ⟨rfl, HIk.out, HFk.out, HKk.out⟩

set_option maxRecDepth 20000 in
set_option maxHeartbeats 2000000 in
/-- All numbers that do not rise are visited, in order. -/
theorem eachFalling_any {g : Nat} {lb : Array Value} {D : So → Prop} {Inv : (Nat → Prop) → List So → World → Prop} (eg : ∀ args w, (callFunc g args).run Try.prog w = .ok (.enter g args) w) (V : Visitor g lb D Inv) (parts : Nat) (hparts : parts = 3 ∨ parts = 4)
    (most : Nat) (w : World) (hmo : most ≤ 40) (hD : ∀ l ∈ visP parts [] most, D (toSo l)) (P : Nat → Prop) (hI : Inv P [] w) :
    Calls Try.prog 78 #[.int .i64 parts, .int .i64 most, .func (.func g) #[] lb] w fun e w' => e = .returned (.tuple #[]) ∧ Inv P ((visP parts [] most).map toSo) w' ∧ ∀ b, P b → b < w.heap.size → w'.heap[b]? = w.heap[b]? := by
  have hvl : (visP parts [] most).length ≤ 2560000 := Nat.le_trans (visP_len _ _ _ hmo) (pow40 _ (by omega))
  have HI := hid hI
  have HD := hid hD
  have HV := hid V
  have HVL := hid hvl
  clear hI hD V hvl
  have hcell : ((((w.alloc (.cells #[.int .i64 parts] 3)).alloc (.cells #[.func (.func g) #[] lb] 73)).alloc (.cells #[.int .i64 0, .int .i64 0, .int .i64 0, .int .i64 0] 48)).alloc (.cells #[Value.nilFunc] 80)).cell? ⟨w.heap.size + 1 + 1 + 1, 0, none⟩ = some Value.nilFunc := by simp [go_sem]
  have hfrz : ((((w.alloc (.cells #[.int .i64 parts] 3)).alloc (.cells #[.func (.func g) #[] lb] 73)).alloc (.cells #[.int .i64 0, .int .i64 0, .int .i64 0, .int .i64 0] 48)).alloc (.cells #[Value.nilFunc] 80)).frozen? ⟨w.heap.size + 1 + 1 + 1, 0, none⟩ = false := by simp [go_sem]
  have hst : Sem.run Try.prog (store ⟨w.heap.size + 1 + 1 + 1, 0, none⟩ (.func (.func 96) #[] #[.pointer (some ⟨w.heap.size, 0, none⟩), .pointer (some ⟨w.heap.size + 1, 0, none⟩), .pointer (some ⟨w.heap.size + 1 + 1, 0, none⟩), .pointer (some ⟨w.heap.size + 1 + 1 + 1, 0, none⟩)])) ((((w.alloc (.cells #[.int .i64 parts] 3)).alloc (.cells #[.func (.func g) #[] lb] 73)).alloc (.cells #[.int .i64 0, .int .i64 0, .int .i64 0, .int .i64 0] 48)).alloc (.cells #[Value.nilFunc] 80)) = .ok () (((((w.alloc (.cells #[.int .i64 parts] 3)).alloc (.cells #[.func (.func g) #[] lb] 73)).alloc (.cells #[.int .i64 0, .int .i64 0, .int .i64 0, .int .i64 0] 48)).alloc (.cells #[Value.nilFunc] 80)).setCell ⟨w.heap.size + 1 + 1 + 1, 0, none⟩ (.func (.func 96) #[] #[.pointer (some ⟨w.heap.size, 0, none⟩), .pointer (some ⟨w.heap.size + 1, 0, none⟩), .pointer (some ⟨w.heap.size + 1 + 1, 0, none⟩), .pointer (some ⟨w.heap.size + 1 + 1 + 1, 0, none⟩)])) := by
    rw [run_store _ _ _ _ _ rfl]
    rw [hcell, hfrz]
    rfl
  have h1 := HV.out.new P [] w (.cells #[.int .i64 parts] 3) HI.out
  have h2 := HV.out.new _ [] _ (.cells #[.func (.func g) #[] lb] 73) h1
  have h3 := HV.out.new _ [] _ (.cells #[.int .i64 0, .int .i64 0, .int .i64 0, .int .i64 0] 48) h2
  have h4 := HV.out.new _ [] _ (.cells #[(.func (.func 96) #[] #[.pointer (some ⟨w.heap.size, 0, none⟩), .pointer (some ⟨w.heap.size + 1, 0, none⟩), .pointer (some ⟨w.heap.size + 1 + 1, 0, none⟩), .pointer (some ⟨w.heap.size + 1 + 1 + 1, 0, none⟩)])] 80) h3
  have e1 : (w.alloc (.cells #[.int .i64 parts] 3)).heap.size = w.heap.size + 1 := by simp
  have e2 : ((w.alloc (.cells #[.int .i64 parts] 3)).alloc (.cells #[.func (.func g) #[] lb] 73)).heap.size = w.heap.size + 1 + 1 := by simp
  have e3 : (((w.alloc (.cells #[.int .i64 parts] 3)).alloc (.cells #[.func (.func g) #[] lb] 73)).alloc (.cells #[.int .i64 0, .int .i64 0, .int .i64 0, .int .i64 0] 48)).heap.size = w.heap.size + 1 + 1 + 1 := by simp
  rw [e1, e2, e3] at h4
  have hfill : Fill ((((w.alloc (.cells #[.int .i64 parts] 3)).alloc (.cells #[.func (.func g) #[] lb] 73)).alloc (.cells #[.int .i64 0, .int .i64 0, .int .i64 0, .int .i64 0] 48)).alloc (.cells #[(.func (.func 96) #[] #[.pointer (some ⟨w.heap.size, 0, none⟩), .pointer (some ⟨w.heap.size + 1, 0, none⟩), .pointer (some ⟨w.heap.size + 1 + 1, 0, none⟩), .pointer (some ⟨w.heap.size + 1 + 1 + 1, 0, none⟩)])] 80)) w.heap.size (w.heap.size + 1) (w.heap.size + 1 + 1) (w.heap.size + 1 + 1 + 1) g lb parts [] := by
    refine ⟨by simp [go_sem], by simp [go_sem], by simp [go_sem], 0, 0, 0, 0, ⟨⟨by simp [go_sem], by simp [go_sem], by simp [go_sem], by simp [go_sem]⟩, ⟨by simp [go_sem], by simp [go_sem], by simp [go_sem], by simp [go_sem]⟩⟩, rfl, fun _ => rfl⟩
  have hold : ∀ b, b < w.heap.size → ((((w.alloc (.cells #[.int .i64 parts] 3)).alloc (.cells #[.func (.func g) #[] lb] 73)).alloc (.cells #[.int .i64 0, .int .i64 0, .int .i64 0, .int .i64 0] 48)).alloc (.cells #[(.func (.func 96) #[] #[.pointer (some ⟨w.heap.size, 0, none⟩), .pointer (some ⟨w.heap.size + 1, 0, none⟩), .pointer (some ⟨w.heap.size + 1 + 1, 0, none⟩), .pointer (some ⟨w.heap.size + 1 + 1 + 1, 0, none⟩)])] 80)).heap[b]? = w.heap[b]? := by
    intro b hb
    have hl := (((Later.alloc w (.cells #[.int .i64 parts] 3)).trans (Later.alloc _ (.cells #[.func (.func g) #[] lb] 73))).trans (Later.alloc _ (.cells #[.int .i64 0, .int .i64 0, .int .i64 0, .int .i64 0] 48))).trans (Later.alloc _ (.cells #[(.func (.func 96) #[] #[.pointer (some ⟨w.heap.size, 0, none⟩), .pointer (some ⟨w.heap.size + 1, 0, none⟩), .pointer (some ⟨w.heap.size + 1 + 1, 0, none⟩), .pointer (some ⟨w.heap.size + 1 + 1 + 1, 0, none⟩)])] 80))
    exact hl.block b hb
  have H5 := hid h4
  have HFI := hid hfill
  have HOLD := hid hold
  have HST := hid hst
  clear h1 h2 h3 h4 hfill hold e1 e2 e3 hcell hfrz hst
  have hst := HST.out
  go_enter Try.func78, Try.ntmps78
  go_wp2_with fail
  generalize ((((w.alloc (.cells #[.int .i64 parts] 3)).alloc (.cells #[.func (.func g) #[] lb] 73)).alloc (.cells #[.int .i64 0, .int .i64 0, .int .i64 0, .int .i64 0] 48)).alloc (.cells #[(.func (.func 96) #[] #[.pointer (some ⟨w.heap.size, 0, none⟩), .pointer (some ⟨w.heap.size + 1, 0, none⟩), .pointer (some ⟨w.heap.size + 1 + 1, 0, none⟩), .pointer (some ⟨w.heap.size + 1 + 1 + 1, 0, none⟩)])] 80)) = w5 at H5 HFI HOLD ⊢
  have HC := fillC_any eg HV.out parts hparts w.heap.size (w.heap.size + 1) (w.heap.size + 1 + 1) (w.heap.size + 1 + 1 + 1) (by omega) (by omega) (by omega) _ (.inl (.inl (.inl (.inr rfl)))) (.inl (.inl (.inr rfl))) (.inl (.inr rfl)) (.inr rfl) parts [] most [] w5 (by simp) hmo HD.out (by simpa using HVL.out) H5.out HFI.out
  rw [show (((([] : List Int).length : Nat)) : Int) = 0 from rfl] at HC
  refine HC.mono ?_
  rintro e w6 ⟨rfl, hI6, _, hK6⟩
  have HI6 := hid (HV.out.weak P _ _ _ hI6 (fun b hb => .inl (.inl (.inl (.inl hb)))))
  have HK6 := hid (fun b (hb : P b) (hbw : b < w.heap.size) => (hK6 b (.inl (.inl (.inl (.inl hb)))) (by omega)).trans (HOLD.out b hbw))
  clear hI6 hK6 HC
  go_wp2_with fail
  refine bodyPost_end (v := .tuple #[]) ?_ rfl ?_
  · simp [results, Try.results78, go_sem]
  · exact ⟨rfl, by simpa using HI6.out, HK6.out⟩


def isSolQ (a b : Int) (s : So) : Bool := decide (facL (sqs (soL s) - b) (soL s) = a)
/-- What holds behind the visits: the factor, the rest, and what was found. -/
structure SolInv (w0 : World) (lo Ba Bb Bf : Nat) (a b : Int) (P : Nat → Prop) (done : List So) (w : World) : Prop where
  later : Later w0 w
  ca : w.cell? ⟨Ba, 0, none⟩ = some (.int .i64 a)
  cb : w.cell? ⟨Bb, 0, none⟩ = some (.int .i64 b)
  lt : lo ≤ w.heap.size
  ex : ∃ v, w.cell? ⟨Bf, 0, none⟩ = some v ∧ w.frozen? ⟨Bf, 0, none⟩ = false ∧ OwnSols lo w v (done.filter (isSolQ a b)) ∧ ∀ p, P p → v.ownBlock ≠ some p
  pf : ∀ p, P p → lo ≤ p ∧ p < w.heap.size
theorem OwnSols.ltb {lo : Nat} {w : World} {v : Value} {L : List So} (h : OwnSols lo w v L) {b : Nat} (hb : v.ownBlock = some b) : lo ≤ b ∧ b < w.heap.size := World.ownsRow.lt h b hb
theorem Q4.of {s : So} (h : Q4 s.1 s.2.1 s.2.2.1 s.2.2.2) : ∃ x y z t, s = (x, y, z, t) ∧ Q4 x y z t := ⟨_, _, _, _, rfl, h⟩

set_option maxRecDepth 20000 in
set_option maxHeartbeats 2000000 in
theorem solVisitor (w0 : World) (lo Ba Bb Bf : Nat) (a b : Int) (hb : -50 ≤ b ∧ b ≤ 50) (ha : Ba < lo) (hbb : Bb < lo) (hf : Bf < lo) (hfa : Ba ≠ Bf) (hfb : Bb ≠ Bf) (h0f : w0.heap.size ≤ Bf) :
    Visitor 93 #[.pointer (some ⟨Bb, 0, none⟩), .pointer (some ⟨Ba, 0, none⟩), .pointer (some ⟨Bf, 0, none⟩)] (fun s => Q4 s.1 s.2.1 s.2.2.1 s.2.2.2) (SolInv w0 lo Ba Bb Bf a b) := by
  refine ⟨?_, ?_, ?_, ?_⟩
  · intro P done s w hI hs hdl
    obtain ⟨x, y, z, t, rfl, hq⟩ := Q4.of hs
    obtain ⟨i0, hi, hz0, hz1, hz2⟩ := info_parts Try.infoSo
    obtain ⟨hL, ca, cb, hlt, ⟨v, cf, ff, ho, hvp⟩, hpf⟩ := hI
    have HQ := hid hq
    have HBB := hid hb
    have hfl : (done.filter (isSolQ a b)).length ≤ 2560000 := Nat.le_trans (List.length_filter_le _ _) hdl
    have HFS := hid (show (done ++ [(x, y, z, t)]).filter (isSolQ a b) = done.filter (isSolQ a b) ++ (if isSolQ a b (x, y, z, t) = true then [(x, y, z, t)] else []) by
      rw [List.filter_append]; simp only [List.filter_cons, List.filter_nil])
    obtain ⟨L, hLe⟩ : ∃ L, done.filter (isSolQ a b) = L := ⟨_, rfl⟩
    rw [hLe] at ho hfl HFS
    obtain ⟨va, vc, rfl, _⟩ := ho.shape
    have hA := Later.alloc w (.cells #[.int .i64 x, .int .i64 y, .int .i64 z, .int .i64 t] 48)
    obtain ⟨c0, c1, c2, c3⟩ := arr4_alloc w x y z t
    replace ff := hA.frozen cf ff
    replace cf := hA.cell cf
    replace ca := hA.cell ca
    replace cb := hA.cell cb
    have HO := hid (ho.later hA)
    have HLA := hid hA
    have HL := hid (hL.trans hA)
    have HVP := hid hvp
    have HPF := hid hpf
    have HLT := hid hlt
    have HCF := hid (show facL (sqs (qL x y z t) - b) (qL x y z t) = facL (sqs (soL (x, y, z, t)) - b) (soL (x, y, z, t)) from rfl)
    have HSQ := hid (show isSolQ a b (x, y, z, t) = decide (facL (sqs (qL x y z t) - b) (qL x y z t) = a) from rfl)
    obtain ⟨r, hr⟩ : ∃ r, facL (sqs (qL x y z t) - b) (qL x y z t) = r := ⟨_, rfl⟩
    have HR := hid hr
    rw [hr] at HSQ
    have HAW := hid (show lo ≤ w.heap.size ∧ Bf < w.heap.size ∧ Ba < w.heap.size ∧ Bb < w.heap.size by omega)
    clear hs hq hb hL hlt ho hvp hpf hdl hLe hA hr
    show Calls Try.prog 93 #[.agg #[.int .i64 x, .int .i64 y, .int .i64 z, .int .i64 t], .pointer (some ⟨Bb, 0, none⟩), .pointer (some ⟨Ba, 0, none⟩), .pointer (some ⟨Bf, 0, none⟩)] w _
    have hwa : (w.alloc (.cells #[.int .i64 x, .int .i64 y, .int .i64 z, .int .i64 t] 48)).heap.size = w.heap.size + 1 := by simp
    have HWA := hid hwa
    obtain ⟨C, hC⟩ : ∃ C, w.heap.size = C := ⟨_, rfl⟩
    have HCE := hid hC
    clear hwa hC
    by_cases hra : r = a
    · have hbe : (r == a) = true := by simp [hra]
      have HF2 := hid (show (done ++ [(x, y, z, t)]).filter (isSolQ a b) = L ++ [(x, y, z, t)] by rw [HFS.out, HSQ.out, decide_eq_true hra]; simp)
      clear hra
      go_enter Try.func93, Try.ntmps93
      go_wp2_with fail
      generalize w.alloc (.cells #[.int .i64 x, .int .i64 y, .int .i64 z, .int .i64 t] 48) = w1 at c0 c1 c2 c3 ca cb cf ff HO HL HLA HWA ⊢
      rw [HCE.out] at c0 c1 c2 c3 ⊢
      go_region_held3 (fun w' => w'.cell? ⟨C, 0, none⟩ = some (.int .i64 x) ∧ w'.cell? ⟨C, 1, none⟩ = some (.int .i64 y) ∧ w'.cell? ⟨C, 2, none⟩ = some (.int .i64 z) ∧ w'.cell? ⟨C, 3, none⟩ = some (.int .i64 t) ∧ w'.cell? ⟨Ba, 0, none⟩ = some (.int .i64 a) ∧ w'.cell? ⟨Bb, 0, none⟩ = some (.int .i64 b)) (first | exact ⟨c0, c1, c2, c3, ca, cb⟩ | exact ⟨d0, d1, d2, d3, d4, d5⟩) (first | (go_at_call 80; refine (factorFor_any x y z t b _ HQ.out HBB.out).mono ?_; rw [HR.out]; rintro e w2 ⟨rfl, hL2⟩; have hL2' := (Later.drew w1).trans hL2; have HL2 := hid hL2'; have d0 := hL2'.cell c0; have d1 := hL2'.cell c1; have d2 := hL2'.cell c2; have d3 := hL2'.cell c3; have d4 := hL2'.cell ca; have d5 := hL2'.cell cb; have d6 := hL2'.cell cf; have d7 := hL2'.frozen cf ff; clear hL2 hL2'))
      all_goals
        clear c0 c1 c2 c3 ca cb cf ff
        have hA := Later.alloc w2 (.cells #[.int .i64 x, .int .i64 y, .int .i64 z, .int .i64 t] 48)
        have HO2 := hid (HO.out.later HL2.out)
        have HO3 := hid (HO2.out.later hA)
        have HL3 := hid ((HL.out.trans HL2.out).trans hA)
        have HW2 := hid ((HLA.out.trans HL2.out))
        have e4 := hA.cell d4
        have e5 := hA.cell d5
        have e6 := hA.cell d6
        have e7 := hA.frozen d6 d7
        have hs2 : w.heap.size + 1 ≤ w2.heap.size := by have := HL2.out.size; have := HWA.out; omega
        have HS2 := hid hs2
        have hlo2 : lo ≤ w2.heap.size := by have := HAW.out; omega
        clear hA
        go_wp2_with (at_builtin; refine wpList_append_lies _ (by rfl) _ _ _ (by rfl) lo 48 i0 (.agg #[.int .i64 0, .int .i64 0, .int .i64 0, .int .i64 0]) 4 32 Try.underlying60 hi hz0 hz1 hz2 rfl (by omega) _ L.length (soCells L) (by rfl) (by exact HO3.out) ⟨w2.heap.size, 0, none⟩ 1 1 [.int .i64 x, .int .i64 y, .int .i64 z, .int .i64 t] (by rfl) (by rfl) (World.news_of_block (cs := #[.int .i64 x, .int .i64 y, .int .i64 z, .int .i64 t]) (t := 48) (fr := (0, 0)) (heap_alloc_new w2 _)) (by simp [Value.oneCell']) (by omega) (by unfold maxLen; omega) (by omega) (by simp; omega) (w2.heap.size + 1) (by simp) ?_)
        intro g4 cap4 w4 hown4 hgrow4 hat4 _
        have HO4 := hid (show OwnSols lo w4 (.slice (some ⟨g4, 0, none⟩) (L.length + 1) cap4) (L ++ [(x, y, z, t)]) by
          unfold OwnSols; rw [soCells_snoc, List.length_append]; exact hown4)
        have HGB := hid (fun bk (hb1 : bk < w2.heap.size) (hb2 : ∀ p, (Value.slice va L.length vc).ownBlock = some p → bk ≠ p) => show w4.heap[bk]? = w2.heap[bk]? from (hgrow4.block bk (by simp; omega) (fun e => hb2 bk e.symm rfl)).trans ((Later.alloc w2 (.cells #[.int .i64 x, .int .i64 y, .int .i64 z, .int .i64 t] 48)).block bk hb1))
        have HVL := hid (fun p (hp : (Value.slice va L.length vc).ownBlock = some p) => (HO2.out.ltb hp).1)
        have hbf := HGB.out Bf (by have := HAW.out; omega) (fun p hp => by have := HVL.out p hp; omega)
        have hba := HGB.out Ba (by have := HAW.out; omega) (fun p hp => by have := HVL.out p hp; omega)
        have hbb2 := HGB.out Bb (by have := HAW.out; omega) (fun p hp => by have := HVL.out p hp; omega)
        have k4 := cell_keep d4 hba
        have k5 := cell_keep d5 hbb2
        have k6 := cell_keep d6 hbf
        have k7 : w4.frozen? ⟨Bf, 0, none⟩ = false := (World.frozen?_of_block hbf).trans d7
        have HL4 := hid (show Later w0 w4 from HL3.out.grown hgrow4 HL3.out.size (fun b' hb' => by have := HVL.out b' hb'; omega))
        have HS4 := hid (show w2.heap.size ≤ w4.heap.size by have := hgrow4.size; simp at this; omega)
        have HK4 := hid (show w4.cell? ⟨Ba, 0, none⟩ = some (.int .i64 a) ∧ w4.cell? ⟨Bb, 0, none⟩ = some (.int .i64 b) ∧ w4.frozen? ⟨Bf, 0, none⟩ = false from ⟨k4, k5, k7⟩)
        have HG4 := hid (fun p (hp : (Value.slice (some ⟨g4, 0, none⟩) (L.length + 1) cap4).ownBlock = some p) => HO4.out.ltb hp)
        have HGF := hid (show ∀ p, P p → g4 ≠ p from fun p hp e => by
          subst e
          have h2 := HPF.out _ hp
          rcases hat4 with h | h
          · exact HVP.out _ hp h
          · omega)
        have HPK := hid (fun p (hp : P p) => show w4.heap[p]? = w.heap[p]? from (HGB.out p (by have := (HPF.out p hp).2; omega) (fun q hq e => HVP.out p hp (by rw [e]; exact hq))).trans (HW2.out.block p (HPF.out p hp).2))
        have c6 := k6
        clear hown4 hgrow4 hat4 d0 d1 d2 d3 d4 d5 d6 d7 e4 e5 e6 e7 hbf hba hbb2 k4 k5
        go_wp2_with fail
        refine bodyPost_end (v := .tuple #[]) ?_ rfl ?_
        · simp [results, Try.results93, go_sem]
        · have hne : ∀ bk, bk ≠ Bf → (w4.setCell ⟨Bf, 0, none⟩ (.slice (some ⟨g4, 0, none⟩) (L.length + 1) cap4)).heap[bk]? = w4.heap[bk]? := fun bk hbk => heap_setCell_other _ _ bk _ hbk
          refine ⟨rfl, ⟨Below.setCell HL4.out (by simpa using h0f) _, cell_keep HK4.out.1 (hne Ba hfa), cell_keep HK4.out.2.1 (hne Bb hfb), ?_, ⟨_, World.cell?_setCell_same _ _ _ c6, ?_, ?_, ?_⟩, fun p hp => ⟨(HPF.out p hp).1, ?_⟩⟩, fun p hp => ?_⟩
          · have := HS4.out; have := HS2.out; have := HAW.out; simp; omega
          · rw [World.frozen?_setCell]; exact HK4.out.2.2
          · rw [HF2.out]
            exact ownsRow_keepS HO4.out fun bk hbk => hne bk (by have := (HG4.out bk hbk).1; omega)
          · intro p hp e
            exact HGF.out p hp (Option.some.inj e)
          · have := (HPF.out p hp).2; have := HS4.out; have := HS2.out; simp; omega
          · exact (hne p (by have := (HPF.out p hp).1; omega)).trans (HPK.out p hp)
    · have hbe : (r == a) = false := beq_eq_false_iff_ne.2 hra
      have HF2 := hid (show (done ++ [(x, y, z, t)]).filter (isSolQ a b) = L by rw [HFS.out, HSQ.out, decide_eq_false hra]; simp)
      clear hra
      go_enter Try.func93, Try.ntmps93
      go_wp2_with fail
      generalize w.alloc (.cells #[.int .i64 x, .int .i64 y, .int .i64 z, .int .i64 t] 48) = w1 at c0 c1 c2 c3 ca cb cf ff HO HL HLA HWA ⊢
      rw [HCE.out] at c0 c1 c2 c3 ⊢
      go_region_held3 (fun w' => w'.cell? ⟨C, 0, none⟩ = some (.int .i64 x) ∧ w'.cell? ⟨C, 1, none⟩ = some (.int .i64 y) ∧ w'.cell? ⟨C, 2, none⟩ = some (.int .i64 z) ∧ w'.cell? ⟨C, 3, none⟩ = some (.int .i64 t) ∧ w'.cell? ⟨Ba, 0, none⟩ = some (.int .i64 a) ∧ w'.cell? ⟨Bb, 0, none⟩ = some (.int .i64 b)) (first | exact ⟨c0, c1, c2, c3, ca, cb⟩ | exact ⟨d0, d1, d2, d3, d4, d5⟩) (first | (go_at_call 80; refine (factorFor_any x y z t b _ HQ.out HBB.out).mono ?_; rw [HR.out]; rintro e w2 ⟨rfl, hL2⟩; have hL2' := (Later.drew w1).trans hL2; have HL2 := hid hL2'; have d0 := hL2'.cell c0; have d1 := hL2'.cell c1; have d2 := hL2'.cell c2; have d3 := hL2'.cell c3; have d4 := hL2'.cell ca; have d5 := hL2'.cell cb; have d6 := hL2'.cell cf; have d7 := hL2'.frozen cf ff; clear hL2 hL2'))
      all_goals
        have HL3 := hid (HL.out.trans HL2.out)
        have HO3 := hid (HO.out.later HL2.out)
        have HW2 := hid (HLA.out.trans HL2.out)
        have HK4 := hid (show w2.cell? ⟨Ba, 0, none⟩ = some (.int .i64 a) ∧ w2.cell? ⟨Bb, 0, none⟩ = some (.int .i64 b) ∧ w2.frozen? ⟨Bf, 0, none⟩ = false ∧ w2.cell? ⟨Bf, 0, none⟩ = some (.slice va L.length vc) from ⟨d4, d5, d7, d6⟩)
        clear c0 c1 c2 c3 ca cb cf ff d0 d1 d2 d3 d4 d5 d6 d7
        go_wp2_with fail
        refine bodyPost_end (v := .tuple #[]) ?_ rfl ?_
        · simp [results, Try.results93, go_sem]
        · exact ⟨rfl, ⟨HL3.out, HK4.out.1, HK4.out.2.1, Nat.le_trans HLT.out HW2.out.size, ⟨_, HK4.out.2.2.2, HK4.out.2.2.1, by rw [HF2.out]; exact HO3.out, HVP.out⟩, fun p hp => ⟨(HPF.out p hp).1, Nat.lt_of_lt_of_le (HPF.out p hp).2 HW2.out.size⟩⟩, fun p hp => HW2.out.block p (HPF.out p hp).2⟩
  · intro P done w o hI
    obtain ⟨hL, ca, cb, hlt, ⟨v, cf, ff, ho, hvp⟩, hpf⟩ := hI
    have hA := Later.alloc w o
    refine ⟨hL.trans hA, hA.cell ca, hA.cell cb, by simp; omega, ⟨v, hA.cell cf, hA.frozen cf ff, ho.later hA, fun p hp e => ?_⟩, fun p hp => ?_⟩
    · rcases hp with hp | hp
      · exact hvp p hp e
      · have := (ho.ltb e).2; omega
    · rcases hp with hp | hp
      · have := hpf p hp; simp; omega
      · simp; omega
  · intro P done w bk k u hI hp
    obtain ⟨hL, ca, cb, hlt, ⟨v, cf, ff, ho, hvp⟩, hpf⟩ := hI
    have h1 := hpf bk hp
    have hne : ∀ b', b' ≠ bk → (w.setCell ⟨bk, k, none⟩ u).heap[b']? = w.heap[b']? := fun b' hb' => heap_setCell_other _ _ b' _ hb'
    refine ⟨Below.setCell hL (by show w0.heap.size ≤ bk; omega) _, cell_keep ca (hne Ba (by omega)), cell_keep cb (hne Bb (by omega)), by simpa using hlt, ⟨v, cell_keep cf (hne Bf (by omega)), (World.frozen?_of_block (hne Bf (by omega))).trans ff, ownsRow_keepS ho fun b' hb' => hne b' (fun e => hvp bk hp (by rw [← e]; exact hb')), hvp⟩, fun p hp => by simpa using hpf p hp⟩
  · intro P P' done w hI hPP
    obtain ⟨hL, ca, cb, hlt, ⟨v, cf, ff, ho, hvp⟩, hpf⟩ := hI
    exact ⟨hL, ca, cb, hlt, ⟨v, cf, ff, ho, fun p hp => hvp p (hPP p hp)⟩, fun p hp => hpf p (hPP p hp)⟩


def foundQ (parts a b most : Int) : List So := ((visP parts.toNat [] most.toNat).map toSo).filter (isSolQ a b)
theorem vis_ok {m : Nat} {most : Nat} (hm : m = 3 ∨ m = 4) (hmo : most ≤ 40) {l : List Int} (h : l ∈ visP m [] most) : (l.length = 3 ∨ l.length = 4) ∧ fallB 100000 l = true ∧ ∃ x y z t, l = qL x y z t ∧ Q4 x y z t := by
  obtain ⟨suf, e, hs, hf⟩ := visP_mem m [] most l h
  simp only [List.nil_append] at e
  subst e
  have hf2 := fallB_mono (show (most : Int) ≤ 100000 by omega) hf
  refine ⟨by omega, hf2, ?_⟩
  exact q4_of (fallB_in5 (by omega) hf2) (by omega)
theorem foundQ_map {parts a b most : Int} (h : taskB parts a b most = true) : (foundQ parts a b most).map soL = allS parts a b most := by
  obtain ⟨hp, hg, h1, h2⟩ := taskB_iff.1 h
  have hg' := givenB_iff.1 hg
  unfold foundQ allS allF
  have key : ∀ L : List (List Int), (∀ l ∈ L, l ∈ visP parts.toNat [] most.toNat) → ((L.map toSo).filter (isSolQ a b)).map soL = L.filter (fun l => solB l a b) := by
    intro L
    induction L with
    | nil => intro _; rfl
    | cons l L ih =>
      intro hL
      have ih' := ih (fun l hl => hL l (by simp [hl]))
      obtain ⟨hlen, hf, x, y, z, t, e, hq⟩ := vis_ok (by omega) (by omega) (hL l (by simp))
      have hsl : soL (toSo l) = l := by rw [e, toSo_qL]; rfl
      have hb : isSolQ a b (toSo l) = solB l a b := by
        unfold isSolQ solB
        rw [hsl, lenB_iff.2 hlen, hf, Bool.true_and, Bool.true_and]
        exact decide_eq_decide.2 ((facL_eq l a (by omega) _ (fallB_in5 (by omega) hf)).trans (by omega))
      simp only [List.map_cons, List.filter_cons, hb]
      split
      · simp only [List.map_cons, hsl, ih']
      · exact ih'
  exact key _ (fun l hl => hl)
theorem taskB_split (parts a b most : Int) : taskB parts a b most = ((within 3 4 parts && within 1 40 most) && within 1 20 a && within (-50) 50 b) := by
  unfold taskB givenB
  cases within 3 4 parts <;> cases within 1 20 a <;> cases within (-50) 50 b <;> cases within 1 40 most <;> rfl
theorem isTried_any (parts most : Int) (w : World) : Calls Try.prog 77 #[.int .i64 parts, .int .i64 most] w fun e w' => e = .returned (.bool (within 3 4 parts && within 1 40 most)) ∧ w = w' := by
  cases h1 : within 3 4 parts
  · have H1 := hid h1
    clear h1
    go_enter Try.func77, Try.ntmps77
    go_wp2_with fail
    refine (isPartCount_any parts _).mono ?_
    rw [H1.out]
    rintro e w' ⟨rfl, rfl⟩
    go_wp2_with fail
    go_ret
    exact ⟨rfl, rfl⟩
  · have H1 := hid h1
    clear h1
    by_cases h2 : 1 ≤ most
    · have hd : decide (1 ≤ most) = true := decide_eq_true h2
      have HE := hid (show within 1 40 most = decide (most ≤ 40) by unfold within; rw [hd]; rfl)
      go_enter Try.func77, Try.ntmps77
      go_wp2_with fail
      refine (isPartCount_any parts _).mono ?_
      rw [H1.out]
      rintro e w' ⟨rfl, rfl⟩
      go_wp2_with fail
      go_ret
      exact ⟨ret_bool (by rw [HE.out]; rfl), rfl⟩
    · have hd : decide (1 ≤ most) = false := decide_eq_false h2
      have HE := hid (show within 1 40 most = false by unfold within; rw [hd]; rfl)
      go_enter Try.func77, Try.ntmps77
      go_wp2_with fail
      refine (isPartCount_any parts _).mono ?_
      rw [H1.out]
      rintro e w' ⟨rfl, rfl⟩
      go_wp2_with fail
      go_ret
      exact ⟨ret_bool (by rw [HE.out]; rfl), rfl⟩
def SolsRes (w : World) (o : Option (List So)) (e : Ending) (w' : World) : Prop := ∃ v, e = .returned (.tuple #[v, .bool o.isSome]) ∧ OwnSols w.heap.size w' v (o.getD []) ∧ Later w w'
def solQ (parts a b most : Int) : Option (List So) := if taskB parts a b most = true ∧ (foundQ parts a b most).length ≤ 500 then some (foundQ parts a b most) else none
theorem solQ_map (parts a b most : Int) : (solQ parts a b most).map (fun L => L.map soL) = solsAns parts a b most := by
  unfold solQ solsAns
  by_cases h : taskB parts a b most = true
  · have e := foundQ_map h
    have hl : (foundQ parts a b most).length = (allS parts a b most).length := by rw [← e, List.length_map]
    by_cases h5 : (foundQ parts a b most).length ≤ 500
    · rw [if_pos ⟨h, h5⟩, if_pos ⟨h, by omega⟩, Option.map_some, e]
    · rw [if_neg (fun hh => h5 hh.2), if_neg (fun hh => h5 (by omega))]; rfl
  · rw [if_neg (fun hh => h hh.1), if_neg (fun hh => h hh.1)]; rfl
theorem ownSols_nil (lo : Nat) (w : World) : OwnSols lo w (.slice none 0 0) [] := World.ownsRow_nil _ _ _ _

set_option maxRecDepth 20000 in
set_option maxHeartbeats 2000000 in
theorem solutionsUpTo_any (parts a b most : Int) (w : World) : Calls Try.prog 74 #[.int .i64 parts, .int .i64 a, .int .i64 b, .int .i64 most] w fun e w' => SolsRes w (solQ parts a b most) e w' := by
  have hA := (Later.alloc w (.cells #[.int .i64 a] 3)).trans (Later.alloc _ (.cells #[.int .i64 b] 3))
  have HL := hid hA
  have hca : ((w.alloc (.cells #[.int .i64 a] 3)).alloc (.cells #[.int .i64 b] 3)).cell? ⟨w.heap.size, 0, none⟩ = some (.int .i64 a) := by simp [go_sem]
  have hcb : ((w.alloc (.cells #[.int .i64 a] 3)).alloc (.cells #[.int .i64 b] 3)).cell? ⟨w.heap.size + 1, 0, none⟩ = some (.int .i64 b) := by simp [go_sem]
  have HSZ := hid (show ((w.alloc (.cells #[.int .i64 a] 3)).alloc (.cells #[.int .i64 b] 3)).heap.size = w.heap.size + 1 + 1 by simp)
  clear hA
  have HSP := hid (taskB_split parts a b most)
  cases h1 : (within 3 4 parts && within 1 40 most)
  · have H1 := hid h1
    have HA := hid (show solQ parts a b most = none by unfold solQ; rw [if_neg (by rw [HSP.out, h1]; simp)])
    clear h1
    go_enter Try.func74, Try.ntmps74
    go_wp2_with fail
    generalize (w.alloc (.cells #[.int .i64 a] 3)).alloc (.cells #[.int .i64 b] 3) = w1 at HL hca hcb HSZ ⊢
    refine (isTried_any parts most _).mono ?_
    rw [H1.out]
    rintro e w' ⟨rfl, rfl⟩
    go_wp2_with fail
    go_ret2
    rw [HA.out]
    exact ⟨_, rfl, ownSols_nil _ _, HL.out⟩
  · have H1 := hid h1
    cases h2 : within 1 20 a
    · have H2 := hid h2
      have HA := hid (show solQ parts a b most = none by unfold solQ; rw [if_neg (by rw [HSP.out, h2]; simp)])
      clear h1 h2
      go_enter Try.func74, Try.ntmps74
      go_wp2_with fail
      generalize (w.alloc (.cells #[.int .i64 a] 3)).alloc (.cells #[.int .i64 b] 3) = w1 at HL hca hcb HSZ ⊢
      refine (isTried_any parts most _).mono ?_
      rw [H1.out]
      rintro e w' ⟨rfl, rfl⟩
      go_wp2_with fail
      refine (isFactor_any a _).mono ?_
      rw [H2.out]
      rintro e w' ⟨rfl, rfl⟩
      go_wp2_with fail
      go_ret2
      rw [HA.out]
      exact ⟨_, rfl, ownSols_nil _ _, HL.out⟩
    · have H2 := hid h2
      cases h3 : within (-50) 50 b
      · have H3 := hid h3
        have HA := hid (show solQ parts a b most = none by unfold solQ; rw [if_neg (by rw [HSP.out, h3]; simp)])
        clear h1 h2 h3
        go_enter Try.func74, Try.ntmps74
        go_wp2_with fail
        generalize (w.alloc (.cells #[.int .i64 a] 3)).alloc (.cells #[.int .i64 b] 3) = w1 at HL hca hcb HSZ ⊢
        obtain ⟨z0, hz0⟩ : ∃ z, w.heap.size = z := ⟨_, rfl⟩
        rw [hz0] at hca hcb ⊢
        clear hz0
        refine (isTried_any parts most _).mono ?_
        rw [H1.out]
        rintro e w' ⟨rfl, rfl⟩
        go_wp2_with fail
        refine (isFactor_any a _).mono ?_
        rw [H2.out]
        rintro e w' ⟨rfl, rfl⟩
        go_wp2_with fail
        refine (isRest_any b _).mono ?_
        rw [H3.out]
        rintro e w' ⟨rfl, rfl⟩
        go_wp2_with fail
        go_ret2
        rw [HA.out]
        exact ⟨_, rfl, ownSols_nil _ _, HL.out⟩
      · have H3 := hid h3
        have ht : taskB parts a b most = true := by rw [HSP.out, h1, h2, h3]; rfl
        obtain ⟨hp, hg, hm1, hm2⟩ := taskB_iff.1 ht
        obtain ⟨P, rfl⟩ : ∃ P : Nat, parts = (P : Int) := ⟨parts.toNat, by omega⟩
        obtain ⟨M, rfl⟩ : ∃ M : Nat, most = (M : Int) := ⟨most.toNat, by omega⟩
        have hP : P = 3 ∨ P = 4 := by omega
        have hM : M ≤ 40 := by omega
        have hbd := (givenB_iff.1 hg).2
        have HVO := hid (fun l (hl : l ∈ visP P [] M) => show Q4 (toSo l).1 (toSo l).2.1 (toSo l).2.2.1 (toSo l).2.2.2 by
          obtain ⟨_, _, x, y, z, t, e, hq⟩ := vis_ok hP hM hl
          rw [e, toSo_qL]; exact hq)
        have HF := hid (show ((visP P [] M).map toSo).filter (isSolQ a b) = foundQ P a b M from rfl)
        have hfl : (foundQ P a b M).length ≤ 2560000 := Nat.le_trans (List.length_filter_le _ _) (by rw [List.length_map]; exact Nat.le_trans (visP_len _ _ _ hM) (pow40 _ (by omega)))
        have HSQ := hid (show ∀ n, (foundQ P a b M).length = n → solQ P a b M = if n ≤ 500 then some (foundQ P a b M) else none from fun n hn => by
          unfold solQ
          rw [hn]
          by_cases h5 : n ≤ 500
          · rw [if_pos ⟨ht, h5⟩, if_pos h5]
          · rw [if_neg (fun hh => h5 hh.2), if_neg h5])
        obtain ⟨F, hFe⟩ : ∃ F, foundQ P a b M = F := ⟨_, rfl⟩
        rw [hFe] at HF hfl HSQ
        have HV := hid (solVisitor w (w.heap.size + 1 + 1 + 1) w.heap.size (w.heap.size + 1) (w.heap.size + 1 + 1) a b hbd (by omega) (by omega) (by omega) (by omega) (by omega) (by omega))
        have hB := Later.alloc ((w.alloc (.cells #[.int .i64 a] 3)).alloc (.cells #[.int .i64 b] 3)) (.cells #[.slice none 0 0] 60)
        have HINV := hid (show SolInv w (w.heap.size + 1 + 1 + 1) w.heap.size (w.heap.size + 1) (w.heap.size + 1 + 1) a b (fun _ => False) [] (((w.alloc (.cells #[.int .i64 a] 3)).alloc (.cells #[.int .i64 b] 3)).alloc (.cells #[.slice none 0 0] 60)) from
          ⟨HL.out.trans hB, hB.cell hca, hB.cell hcb, by simp, ⟨.slice none 0 0, by simp [go_sem], by simp [go_sem], ownSols_nil _ _, fun p hp => hp.elim⟩, fun p hp => hp.elim⟩)
        clear h1 h2 h3 ht hp hg hm1 hm2 hbd hFe hB
        go_enter Try.func74, Try.ntmps74
        go_wp2_with fail
        refine (isTried_any P M _).mono ?_
        rw [H1.out]
        rintro e w' ⟨rfl, rfl⟩
        go_wp2_with fail
        refine (isFactor_any a _).mono ?_
        rw [H2.out]
        rintro e w' ⟨rfl, rfl⟩
        go_wp2_with fail
        refine (isRest_any b _).mono ?_
        rw [H3.out]
        rintro e w' ⟨rfl, rfl⟩
        go_wp2_with fail
        generalize ((w.alloc (.cells #[.int .i64 a] 3)).alloc (.cells #[.int .i64 b] 3)).alloc (.cells #[.slice none 0 0] 60) = w1 at HINV ⊢
        refine (eachFalling_any Try.call93 HV.out P hP M w1 hM HVO.out (fun _ => False) HINV.out).mono ?_
        rintro e w2 ⟨rfl, hI2, _⟩
        obtain ⟨hL2, _, _, _, ⟨v, hcv, _, hov, _⟩, _⟩ := hI2
        rw [HF.out] at hov
        obtain ⟨va, vc, rfl, _⟩ := hov.shape
        have HO2 := hid (hov.base (show w.heap.size ≤ w.heap.size + 1 + 1 + 1 by omega))
        have HL2 := hid hL2
        clear hov hL2 hca hcb
        by_cases h5 : F.length ≤ 500
        · have HA := hid (show solQ P a b M = some F by rw [HSQ.out _ rfl, if_pos h5])
          have hd : decide ((500 : Int) < (F.length : Int)) = false := decide_eq_false (by omega)
          clear h5
          go_wp2_with fail
          go_ret2
          rw [HA.out]
          exact ⟨_, rfl, HO2.out, HL2.out⟩
        · have HA := hid (show solQ P a b M = none by rw [HSQ.out _ rfl, if_neg h5])
          have hd : decide ((500 : Int) < (F.length : Int)) = true := decide_eq_true (by omega)
          clear h5
          go_wp2_with fail
          go_ret2
          rw [HA.out]
          exact ⟨_, rfl, ownSols_nil _ _, HL2.out⟩
set_option maxRecDepth 20000 in
set_option maxHeartbeats 1000000 in
theorem implSolutionsUpTo_any (parts a b most : Int) (w : World) : Calls Try.prog 41 #[.int .i64 parts, .int .i64 a, .int .i64 b, .int .i64 most] w fun e w' => RowsAns w (solsAns parts a b most) e w' := by
  have HM := hid (solQ_map parts a b most)
  have HC := hid (solutionsUpTo_any parts a b most w)
  have hle : ∀ L, solQ parts a b most = some L → L.length ≤ 500 := fun L h => by
    unfold solQ at h
    split at h
    · rename_i hh; simp only [Option.some.injEq] at h; rw [← h]; exact hh.2
    · cases h
  obtain ⟨o, ho⟩ : ∃ o, solQ parts a b most = o := ⟨_, rfl⟩
  rw [ho] at HM HC
  simp only [ho] at hle
  clear ho
  cases o with
  | none =>
    have HA := hid (show solsAns parts a b most = none from HM.out.symm)
    clear hle
    go_enter Try.func41, Try.ntmps41
    go_wp2_with fail
    refine HC.out.mono ?_
    rintro e w1 ⟨v1, rfl, ho1, hL1⟩
    have HL1 := hid hL1
    clear hL1 ho1
    go_wp2_with fail
    go_ret2
    rw [HA.out]
    exact ⟨_, rfl, OwnRows.noneH _ _ _, HL1.out⟩
  | some L =>
    obtain ⟨R, hR⟩ : ∃ R, L.map soL = R := ⟨_, rfl⟩
    have HA := hid (show solsAns parts a b most = some R by rw [← hR]; exact HM.out.symm)
    have HR := hid hR
    have hL5 := hle L rfl
    clear hle hR
    go_enter Try.func41, Try.ntmps41
    go_wp2_with fail
    refine HC.out.mono ?_
    rintro e w1 ⟨v1, rfl, ho1, hL1⟩
    have ho1' : OwnSols w.heap.size w1 v1 L := ho1
    have HSO := hid (ho1'.sols (by omega))
    have HL1 := hid hL1
    clear hL1 ho1 ho1'
    go_wp2_with fail
    refine (listsOfS_any _ L _ (by omega) HSO.out).mono ?_
    rintro e w2 ⟨v2, rfl, ho2, hL2⟩
    rw [HR.out] at ho2
    obtain ⟨a2, c2, rfl, _⟩ := ho2.shape
    have HO2 := hid (ho2.wide HL1.out.size (Nat.le_refl _))
    have HL2 := hid (HL1.out.trans hL2)
    clear ho2 hL2
    go_wp2_with fail
    go_ret2
    rw [HA.out]
    exact ⟨_, rfl, HO2.out, HL2.out⟩


theorem solQ_sol {parts a b most : Int} {L : List So} (h : solQ parts a b most = some L) : L.length ≤ 500 ∧ ∀ s ∈ L, QS a b s := by
  unfold solQ at h
  split at h
  · rename_i hh
    simp only [Option.some.injEq] at h
    subst h
    refine ⟨hh.2, fun s hs => ?_⟩
    obtain ⟨hp, hg, hm1, hm2⟩ := taskB_iff.1 hh.1
    have hm : soL s ∈ (foundQ parts a b most).map soL := List.mem_map.2 ⟨s, hs, rfl⟩
    rw [foundQ_map hh.1] at hm
    have hS : Sol (soL s) a b := Sol.of hg (List.mem_filter.1 (show soL s ∈ allF a b parts.toNat [] most.toNat from hm)).2
    obtain ⟨x, y, z, t, e, hq⟩ := hS.q4
    have hse : s = (x, y, z, t) := by
      have := congrArg toSo e
      rw [show toSo (soL s) = s from toSo_qL _ _ _ _, toSo_qL] at this
      exact this
    exact ⟨hS, by rw [hse]; exact hq⟩
  · cases h
set_option maxRecDepth 20000 in
set_option maxHeartbeats 1000000 in
theorem indexFuncNil_any (fv : Value) (w : World) : Calls Try.prog 94 #[.slice none 0 0, fv] w fun e w' => e = .returned (.int .i64 (-1)) ∧ w = w' := by
  go_enter Try.func94, Try.ntmps94
  go_wp2_with fail
  go_loopw [8] (fun i wr => i = .int .i64 0 ∧ w = wr) (fun _ _ => 0)
  case atStart => exact ⟨rfl, rfl⟩
  case round =>
    obtain ⟨rfl, rfl⟩ := hrel
    go_wp2_with fail
    go_ret
    exact ⟨rfl, rfl⟩
set_option maxRecDepth 20000 in
set_option maxHeartbeats 1000000 in
theorem deleteFuncNil_any (fv : Value) (w : World) : Calls Try.prog 76 #[.slice none 0 0, fv] w fun e w' => e = .returned (.slice none 0 0) ∧ w = w' := by
  go_enter Try.func76, Try.ntmps76
  go_wp2_with fail
  refine (indexFuncNil_any fv w).mono ?_
  rintro e w' ⟨rfl, rfl⟩
  go_wp2_with fail
  go_ret
  exact ⟨rfl, rfl⟩
set_option maxRecDepth 20000 in
set_option maxHeartbeats 1000000 in
theorem fundTest (a b : Int) (B : Nat) (w0 : World) (hb : w0.cell? ⟨B, 0, none⟩ = some (.int .i64 a)) :
    Tests w0 75 #[.pointer (some ⟨B, 0, none⟩)] (QS a b) (fun s => !lastB a (soL s)) := by
  intro w hL s hs
  obtain ⟨p, q, r, u⟩ := s
  have HS := hid (show Sol (qL p q r u) a b from hs.1)
  obtain ⟨c0, c1, c2, c3⟩ := arr4_alloc w p q r u
  have hA := Later.alloc w (.cells #[.int .i64 p, .int .i64 q, .int .i64 r, .int .i64 u] 48)
  have ca := hA.cell (hL.cell hb)
  have HL := hid hA
  clear hA hs hb hL
  show Calls Try.prog 75 #[.agg #[.int .i64 p, .int .i64 q, .int .i64 r, .int .i64 u], .pointer (some ⟨B, 0, none⟩)] w fun e w' => e = .returned (.bool (!lastB a (qL p q r u))) ∧ Later w w'
  go_enter Try.func75, Try.ntmps75
  go_wp2_with fail
  generalize w.alloc (.cells #[.int .i64 p, .int .i64 q, .int .i64 r, .int .i64 u] 48) = w1 at c0 c1 c2 c3 ca HL ⊢
  refine (isFundamentalS_any p q r u a b _ HS.out).mono ?_
  rintro e w2 ⟨rfl, hL2⟩
  have HL2 := hid (HL.out.trans hL2)
  clear hL2 c0 c1 c2 c3 ca
  go_wp2_with fail
  go_ret
  exact ⟨rfl, HL2.out⟩
set_option maxRecDepth 20000 in
set_option maxHeartbeats 1000000 in
theorem implFundamentalsUpTo_any (parts a b most : Int) (w : World) : Calls Try.prog 43 #[.int .i64 parts, .int .i64 a, .int .i64 b, .int .i64 most] w fun e w' => RowsAns w (fundsAns parts a b most) e w' := by
  have HFA := hid (fundsAns_of parts a b most)
  have HM := hid (solQ_map parts a b most)
  have HC := hid (fun w => solutionsUpTo_any parts a b most w)
  have hle := fun L h => solQ_sol (parts := parts) (a := a) (b := b) (most := most) (L := L) h
  have hA := Later.alloc w (.cells #[.int .i64 a] 3)
  have hca : (w.alloc (.cells #[.int .i64 a] 3)).cell? ⟨w.heap.size, 0, none⟩ = some (.int .i64 a) := by simp [go_sem]
  have HL := hid hA
  obtain ⟨o, ho⟩ : ∃ o, solQ parts a b most = o := ⟨_, rfl⟩
  rw [ho] at HM HC
  simp only [ho] at hle
  clear ho hA
  cases o with
  | none =>
    have HA := hid (show fundsAns parts a b most = none by rw [HFA.out, ← HM.out]; rfl)
    clear hle
    go_enter Try.func43, Try.ntmps43
    go_wp2_with fail
    refine (HC.out _).mono ?_
    rintro e w1 ⟨v1, rfl, ho1, hL1⟩
    have HL1 := hid (HL.out.trans hL1)
    clear hL1 ho1
    go_wp2_with fail
    go_ret2
    rw [HA.out]
    exact ⟨_, rfl, OwnRows.noneH _ _ _, HL1.out⟩
  | some L =>
    obtain ⟨hL5, hall⟩ := hle L rfl
    obtain ⟨M, hM⟩ : ∃ M, (L.filter fun s => !(!lastB a (soL s))) = M := ⟨_, rfl⟩
    have HMF := hid hM
    have hml : M.length ≤ 500 := by rw [← hM]; exact Nat.le_trans (List.length_filter_le _ _) hL5
    have hmap : M.map soL = (L.map soL).filter (lastB a) := by
      rw [← hM]
      have : ∀ X : List So, ((X.filter fun s => !(!lastB a (soL s))).map soL) = (X.map soL).filter (lastB a) := by
        intro X
        induction X with
        | nil => rfl
        | cons x X ih =>
          simp only [List.map_cons, List.filter_cons, Bool.not_not]
          cases lastB a (soL x)
          · simp only [Bool.false_eq_true, if_false]; simpa using ih
          · simp only [if_true, List.map_cons]; congr 1; simpa using ih
      exact this L
    obtain ⟨R, hR⟩ : ∃ R, M.map soL = R := ⟨_, rfl⟩
    have HR := hid hR
    have HA := hid (show fundsAns parts a b most = some R by rw [HFA.out, ← HM.out, ← hR, hmap]; rfl)
    have HALL := hid hall
    have HT := hid (fundTest a b w.heap.size (w.alloc (.cells #[.int .i64 a] 3)) hca)
    clear hle hall hM hmap hR
    go_enter Try.func43, Try.ntmps43
    go_wp2_with fail
    generalize w.alloc (.cells #[.int .i64 a] 3) = w1 at HL hca HT ⊢
    obtain ⟨B, hB⟩ : ∃ B, w.heap.size = B := ⟨_, rfl⟩
    have HWB := hid hB
    rw [hB] at hca HT ⊢
    clear hB
    refine (HC.out _).mono ?_
    rintro e w2 ⟨v2, rfl, ho2, hL2⟩
    have ho2' : OwnSols w1.heap.size w2 v2 L := ho2
    have HL2 := hid hL2
    have HW1 := hid HL.out.size
    clear hL2 ho2 hca
    rcases ho2'.2 with ⟨rfl, h0⟩ | ⟨g, cg, cur, rfl, _⟩
    · have hLe : L = [] := List.eq_nil_of_length_eq_zero h0
      subst hLe
      have hMe := HMF.out
      simp only [List.filter_nil] at hMe
      subst hMe
      have hRe := HR.out
      simp only [List.map_nil] at hRe
      subst hRe
      clear ho2' h0
      go_wp2_with fail
      refine (deleteFuncNil_any _ w2).mono ?_
      rintro e w' ⟨rfl, rfl⟩
      have HLa := hid (HL.out.trans HL2.out)
      go_wp2_with fail
      refine (listsOfS_any (.slice none 0 0) [] w2 (by simp) ⟨none, 0, rfl, by simp, fun i hi => absurd hi (Nat.not_lt_zero i)⟩).mono ?_
      rintro e w4 ⟨v4, rfl, ho4, hL4⟩
      have ho4' : OwnRows w2.heap.size w4.heap.size w4 v4 [] := ho4
      obtain ⟨a4, c4, rfl, _⟩ := ho4'.shape
      have HO4 := hid (ho4'.wide HLa.out.size (Nat.le_refl _))
      have HL4 := hid (HLa.out.trans hL4)
      clear ho4 ho4' hL4
      go_wp2_with fail
      go_ret2
      rw [HA.out]
      exact ⟨_, rfl, HO4.out, HL4.out⟩
    · have HO2 := hid ho2'
      clear ho2'
      go_wp2_with fail
      refine (deleteFunc_any w1 75 #[.pointer (some ⟨B, 0, none⟩)] Try.call75 (QS a b) (fun s => !lastB a (soL s)) HT.out g cg L w2 HL2.out (Nat.le_refl _) HALL.out (by omega) HO2.out).mono ?_
      rintro e w3 ⟨rfl, ho3, hL3⟩
      rw [HMF.out] at ho3 ⊢
      have HSO := hid (ho3.sols (by omega))
      have HL3 := hid (HL.out.trans hL3)
      clear ho3 hL3
      go_wp2_with fail
      refine (listsOfS_any _ M _ (by omega) HSO.out).mono ?_
      rintro e w4 ⟨v4, rfl, ho4, hL4⟩
      rw [HR.out] at ho4
      obtain ⟨a4, c4, rfl, _⟩ := ho4.shape
      have HO4 := hid (ho4.wide HL3.out.size (Nat.le_refl _))
      have HL4 := hid (HL3.out.trans hL4)
      clear ho4 hL4
      go_wp2_with fail
      go_ret2
      rw [HA.out]
      exact ⟨_, rfl, HO4.out, HL4.out⟩


set_option maxRecDepth 20000 in
set_option maxHeartbeats 4000000 in
theorem lawSolutionsUpTo_gen (x0 : Int) (x1 : Int) (x2 : Int) (x3 : Int) (o : Option (List (List Int))) (hob : off (o.getD []) (o.getD []).length ≤ 1000000000000)
    (hS : ∀ (w : World), Calls Try.prog 40 #[.int .i64 x0, .int .i64 x1, .int .i64 x2, .int .i64 x3] w fun e w' => RowsAns w o e w')
    (hI : ∀ (w : World), Calls Try.prog 41 #[.int .i64 x0, .int .i64 x1, .int .i64 x2, .int .i64 x3] w fun e w' => RowsAns w o e w')
    (w : World)  :
    Calls Try.prog 12 #[.int .i64 x0, .int .i64 x1, .int .i64 x2, .int .i64 x3] w fun e w' => e = .returned (.bool true) ∧ Later w w' := by
  have HS := hid hS
  have HI := hid hI
  clear hS hI
  go_enter Try.func12, Try.ntmps12
  go_wp2_with fail
  refine (HS.out _ ).mono ?_
  rintro e w1 ⟨y1, rfl, hown, hL⟩
  obtain ⟨a1, cap1, rfl, _⟩ := hown.shape
  have O2 := hid hown
  clear hown
  have L3 := hid (hL)
  have S4 := hid hL.size
  clear hL
  go_wp2_with fail
  refine (HI.out _ ).mono ?_
  rintro e w5 ⟨y5, rfl, hown, hL⟩
  obtain ⟨a5, cap5, rfl, _⟩ := hown.shape
  have O6 := hid hown
  clear hown
  have O7 := hid (O2.out.later hL)
  have L8 := hid (L3.out.trans hL)
  have S9 := hid hL.size
  clear O2 L3 hL
  have hne0 : ((o.isSome) != (o.isSome)) = false := by simp
  go_wp2_with fail
  refine (eqIntSS_any _ _ _ _ _ (O6.out.rows) (O7.out.rows)).mono ?_
  rintro e w10 ⟨rfl, hD⟩
  have hL := hD.later
  clear hD
  rw [eqLL_self]
  have O11 := hid (O7.out.later hL)
  have O12 := hid (O6.out.later hL)
  have L13 := hid (L8.out.trans hL)
  have S14 := hid hL.size
  clear O7 O6 L8 hL
  go_wp2_with fail
  have hmm : (((1 : Int) + (off (o.getD []) (o.getD []).length : Int)) != ((1 : Int) + (off (o.getD []) (o.getD []).length : Int))) = false := by simp
  have hmn : ¬ (1 : Int) + (off (o.getD []) (o.getD []).length : Int) < 0 := by omega
  refine (markIntSS_any w1.heap.size (w5.heap.size) _ _ _ _ ⟨by omega, by omega⟩ O12.out).mono ?_
  rintro e w15 ⟨rfl, hown, hW⟩
  have hL := Later.refl w10
  have O16 := hid ((O11.out.later hL).keep fun b h1 h2 => hW.block b (by have := S4.out; have := S9.out; have := S14.out; omega))
  clear O11
  have O17 := hid hown
  clear hown O12
  have L18 := hid (show Later w w15 from Wrote.below (L13.out.trans hL) hW (fun b hb => by have := S4.out; have := S9.out; have := S14.out; omega))
  clear L13
  have S19 := hid (show w10.heap.size ≤ w15.heap.size by have := hL.size; have := hW.size; omega)
  clear hL hW
  go_wp2_with fail
  refine (heldIntSS_any _ (o.getD []) _ _ ⟨by omega, by omega⟩ O17.out.rows).mono ?_
  rintro e w20 ⟨rfl, rfl⟩
  go_wp2_with fail
  refine (HI.out _ ).mono ?_
  rintro e w21 ⟨y21, rfl, hown, hL⟩
  obtain ⟨a21, cap21, rfl, _⟩ := hown.shape
  have O22 := hid hown
  clear hown
  have O23 := hid (O16.out.later hL)
  have O24 := hid (O17.out.later hL)
  have L25 := hid (L18.out.trans hL)
  have S26 := hid hL.size
  clear O16 O17 L18 hL
  go_wp2_with fail
  refine (eqIntSS_any _ _ _ _ _ (O22.out.rows) (O23.out.rows)).mono ?_
  rintro e w27 ⟨rfl, hD⟩
  have hL := hD.later
  clear hD
  rw [eqLL_self]
  have O28 := hid (O23.out.later hL)
  have O29 := hid (O24.out.later hL)
  have O30 := hid (O22.out.later hL)
  have L31 := hid (L25.out.trans hL)
  have S32 := hid hL.size
  clear O23 O24 O22 L25 hL
  go_wp2_with fail
  refine (heldIntSS_any _ (o.getD []) _ _ ⟨by omega, by omega⟩ O29.out.rows).mono ?_
  rintro e w33 ⟨rfl, rfl⟩
  go_wp2_with fail
  go_ret
  exact ⟨rfl, L31.out⟩


set_option maxRecDepth 20000 in
set_option maxHeartbeats 4000000 in
theorem lawFundamentalsUpTo_gen (x0 : Int) (x1 : Int) (x2 : Int) (x3 : Int) (o : Option (List (List Int))) (hob : off (o.getD []) (o.getD []).length ≤ 1000000000000)
    (hS : ∀ (w : World), Calls Try.prog 42 #[.int .i64 x0, .int .i64 x1, .int .i64 x2, .int .i64 x3] w fun e w' => RowsAns w o e w')
    (hI : ∀ (w : World), Calls Try.prog 43 #[.int .i64 x0, .int .i64 x1, .int .i64 x2, .int .i64 x3] w fun e w' => RowsAns w o e w')
    (w : World)  :
    Calls Try.prog 13 #[.int .i64 x0, .int .i64 x1, .int .i64 x2, .int .i64 x3] w fun e w' => e = .returned (.bool true) ∧ Later w w' := by
  have HS := hid hS
  have HI := hid hI
  clear hS hI
  go_enter Try.func13, Try.ntmps13
  go_wp2_with fail
  refine (HS.out _ ).mono ?_
  rintro e w1 ⟨y1, rfl, hown, hL⟩
  obtain ⟨a1, cap1, rfl, _⟩ := hown.shape
  have O2 := hid hown
  clear hown
  have L3 := hid (hL)
  have S4 := hid hL.size
  clear hL
  go_wp2_with fail
  refine (HI.out _ ).mono ?_
  rintro e w5 ⟨y5, rfl, hown, hL⟩
  obtain ⟨a5, cap5, rfl, _⟩ := hown.shape
  have O6 := hid hown
  clear hown
  have O7 := hid (O2.out.later hL)
  have L8 := hid (L3.out.trans hL)
  have S9 := hid hL.size
  clear O2 L3 hL
  have hne0 : ((o.isSome) != (o.isSome)) = false := by simp
  go_wp2_with fail
  refine (eqIntSS_any _ _ _ _ _ (O6.out.rows) (O7.out.rows)).mono ?_
  rintro e w10 ⟨rfl, hD⟩
  have hL := hD.later
  clear hD
  rw [eqLL_self]
  have O11 := hid (O7.out.later hL)
  have O12 := hid (O6.out.later hL)
  have L13 := hid (L8.out.trans hL)
  have S14 := hid hL.size
  clear O7 O6 L8 hL
  go_wp2_with fail
  have hmm : (((1 : Int) + (off (o.getD []) (o.getD []).length : Int)) != ((1 : Int) + (off (o.getD []) (o.getD []).length : Int))) = false := by simp
  have hmn : ¬ (1 : Int) + (off (o.getD []) (o.getD []).length : Int) < 0 := by omega
  refine (markIntSS_any w1.heap.size (w5.heap.size) _ _ _ _ ⟨by omega, by omega⟩ O12.out).mono ?_
  rintro e w15 ⟨rfl, hown, hW⟩
  have hL := Later.refl w10
  have O16 := hid ((O11.out.later hL).keep fun b h1 h2 => hW.block b (by have := S4.out; have := S9.out; have := S14.out; omega))
  clear O11
  have O17 := hid hown
  clear hown O12
  have L18 := hid (show Later w w15 from Wrote.below (L13.out.trans hL) hW (fun b hb => by have := S4.out; have := S9.out; have := S14.out; omega))
  clear L13
  have S19 := hid (show w10.heap.size ≤ w15.heap.size by have := hL.size; have := hW.size; omega)
  clear hL hW
  go_wp2_with fail
  refine (heldIntSS_any _ (o.getD []) _ _ ⟨by omega, by omega⟩ O17.out.rows).mono ?_
  rintro e w20 ⟨rfl, rfl⟩
  go_wp2_with fail
  refine (HI.out _ ).mono ?_
  rintro e w21 ⟨y21, rfl, hown, hL⟩
  obtain ⟨a21, cap21, rfl, _⟩ := hown.shape
  have O22 := hid hown
  clear hown
  have O23 := hid (O16.out.later hL)
  have O24 := hid (O17.out.later hL)
  have L25 := hid (L18.out.trans hL)
  have S26 := hid hL.size
  clear O16 O17 L18 hL
  go_wp2_with fail
  refine (eqIntSS_any _ _ _ _ _ (O22.out.rows) (O23.out.rows)).mono ?_
  rintro e w27 ⟨rfl, hD⟩
  have hL := hD.later
  clear hD
  rw [eqLL_self]
  have O28 := hid (O23.out.later hL)
  have O29 := hid (O24.out.later hL)
  have O30 := hid (O22.out.later hL)
  have L31 := hid (L25.out.trans hL)
  have S32 := hid hL.size
  clear O23 O24 O22 L25 hL
  go_wp2_with fail
  refine (heldIntSS_any _ (o.getD []) _ _ ⟨by omega, by omega⟩ O29.out.rows).mono ?_
  rintro e w33 ⟨rfl, rfl⟩
  go_wp2_with fail
  go_ret
  exact ⟨rfl, L31.out⟩
end Go.Proofs.Ytjnhhjnfdaaaeaa
