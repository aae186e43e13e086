/- HuOr, HuPu, HuPv, HuUp, HuTe, HuTg, CmpL, HuTs, HuBr, HuBa, HuBs, HuTi, HuTj, HuFa, HuTm, LawTreeUpTo: in one text. -/
import Derived.Test.YtjnhhjnfdaaaeabHuCp
import Derived.Test.YtjnhhjnfdaaaeabSame
import Derived.Test.YtjnhhjnfdaaaeabHuWu
import Derived.Deep.RegionHeld3
import Derived.Test.YtjnhhjnfdaaaeabBase
import Derived.Deep.QuietTactic
import Derived.Test.YtjnhhjnfdaaaeabHuRv
import Derived.Test.YtjnhhjnfdaaaeabLaySortQ
import Derived.Test.YtjnhhjnfdaaaeabLayConK
import Derived.Shelf.SlSortCmp.NoneTotal
import Derived.Test.YtjnhhjnfdaaaeabHuDi
import Derived.Test.YtjnhhjnfdaaaeabIntC
import Derived.Test.YtjnhhjnfdaaaeabAns2
import Derived.Deep.DeepCutAuto
namespace Go.Proofs.Ytjnhhjnfdaaaeab
open Go.RowKit


def befL : List Int → List Int → Bool
  | x :: xs, y :: ys => if x ≠ y then decide (x < y) else befL xs ys
  | [], ys => decide (0 < ys.length)
  | _ :: _, [] => false
def putK (L : List (List Int)) (a : List Int) : Nat := (L.takeWhile fun l => befL l a).length
def putL (L : List (List Int)) (a : List Int) : List (List Int) := if L.getD (putK L a) [] = a ∧ putK L a < L.length then L else L.take (putK L a) ++ a :: L.drop (putK L a)
theorem befL_irr (xs : List Int) : befL xs xs = false := by
  induction xs with
  | nil => rfl
  | cons x xs ih => simp [befL, ih]
theorem befL_trans : ∀ {xs ys zs : List Int}, befL xs ys = true → befL ys zs = true → befL xs zs = true := by
  intro xs
  induction xs with
  | nil =>
    intro ys zs h1 h2
    cases ys with
    | nil => simp [befL] at h1
    | cons y ys =>
      cases zs with
      | nil => simp [befL] at h2
      | cons z zs => simp [befL]
  | cons x xs ih =>
    intro ys zs h1 h2
    cases ys with
    | nil => simp [befL] at h1
    | cons y ys =>
      cases zs with
      | nil => simp [befL] at h2
      | cons z zs =>
        unfold befL at h1 h2 ⊢
        by_cases hxy : x = y
        · subst hxy
          by_cases hyz : x = z
          · subst hyz; simp at h1 h2 ⊢; exact ih h1 h2
          · simp [hyz] at h2 ⊢; exact h2
        · by_cases hyz : y = z
          · subst hyz; simp [hxy] at h1 ⊢; exact h1
          · simp [hxy] at h1; simp [hyz] at h2
            have : x ≠ z := by omega
            simp [this]; omega
def cntV (v : Int) (xs : List Int) : Nat := (xs.filter fun x => decide (v ≤ x)).length
theorem cntV_perm (v : Int) {xs ys : List Int} (h : xs.Perm ys) : cntV v xs = cntV v ys := (h.filter _).length_eq
theorem cntV_cons (v x : Int) (xs : List Int) : cntV v (x :: xs) = (if v ≤ x then 1 else 0) + cntV v xs := by
  unfold cntV
  by_cases h : v ≤ x
  · simp [h]; omega
  · simp [h]
/-- Two rows that fall, one below the other by counting: the second one is not ahead. -/
theorem befL_dom : ∀ {P Q : List Int}, P.length = Q.length → Dn P → Dn Q → (∀ v, cntV v P ≤ cntV v Q) → befL Q P = false ∧ (P ≠ Q → befL P Q = true) := by
  intro P
  induction P with
  | nil => intro Q hl _ _ _; cases Q <;> simp_all [befL]
  | cons p P ih =>
    intro Q hl hP hQ hc
    cases Q with
    | nil => simp at hl
    | cons q Q =>
      have hpq : p ≤ q := by
        apply Decidable.byContradiction
        intro hlt
        have h1 := hc p
        rw [cntV_cons, cntV_cons, if_pos (Int.le_refl _), if_neg (by omega)] at h1
        have h2 : cntV p Q = 0 := by
          unfold cntV
          rw [List.length_eq_zero_iff, List.filter_eq_nil_iff]
          intro x hx
          have := (List.pairwise_cons.1 hQ).1 x hx
          simp; omega
        omega
      by_cases he : p = q
      · subst he
        have h2 := ih (by simpa using hl) (List.pairwise_cons.1 hP).2 (List.pairwise_cons.1 hQ).2 (fun v => by have := hc v; rw [cntV_cons, cntV_cons] at this; omega)
        refine ⟨by simp [befL, h2.1], fun hne => ?_⟩
        simp [befL]
        exact h2.2 (fun e => hne (by rw [e]))
      · have : q ≠ p := fun e => he e.symm
        refine ⟨by simp [befL, this]; omega, fun _ => by simp [befL, he]; omega⟩
theorem Dn.getD {zs : List Int} (h : Dn zs) {i k : Nat} (hik : i ≤ k) (hk : k < zs.length) : zs.getD k 0 ≤ zs.getD i 0 := by
  rcases Nat.lt_or_ge i k with hlt | hge
  · have := List.pairwise_iff_getElem.1 h i k (by omega) hk hlt
    simpa [hk, show i < zs.length by omega] using this
  · have : i = k := by omega
    rw [this]; exact Int.le_refl _
/-- A later branch is not ahead of an earlier one. -/
theorem branch_dom {zs : List Int} {a b : Int} (hS : Sol zs a b) {i k : Nat} (hik : i < k) (hk : k < zs.length) {ys us : List Int} (hi : jumpL a zs i = some ys) (hj : jumpL a zs k = some us) : ∀ v, cntV v ys ≤ cntV v us := by
  have hd : Dn zs := ((fallB_iff (by omega)).1 hS.hf).1
  have hz := hd.getD (Nat.le_of_lt hik) hk
  have h1 : ∀ j, j < zs.length → ∀ x, ∀ r, jumpL a zs j = some x → r = othL a zs j → x.Perm (r :: zs.eraseIdx j) := by
    intro j hj2 x r hx hr
    unfold jumpL at hx
    split at hx
    · simp only [Option.some.injEq] at hx
      rw [← hx, hr]
      exact (sortD_perm _).trans (set_perm_erase zs j hj2 _)
    · simp at hx
  have hr : othL a zs i ≤ othL a zs k := by
    have e1 := prodL_erase zs i (by omega)
    have e2 := prodL_erase zs k hk
    have hpi : prodL (zs.eraseIdx i) ≤ prodL (zs.eraseIdx k) := by
      have p1 : 1 ≤ zs.getD i 0 := (hS.in5 _ (by simp [show i < zs.length by omega])).1
      have p2 : 1 ≤ zs.getD k 0 := (hS.in5 _ (by simp [hk])).1
      have e3 : zs.getD i 0 * prodL (zs.eraseIdx i) = zs.getD k 0 * prodL (zs.eraseIdx k) := by rw [← e1, ← e2]
      apply Decidable.byContradiction
      intro hc
      have hpos : 0 ≤ prodL (zs.eraseIdx k) := by
        apply Decidable.byContradiction
        intro h0
        have : 1 ≤ prodL zs := by
          have : ∀ l : List Int, In5 l → 1 ≤ prodL l := by
            intro l
            induction l with
            | nil => intro _; simp [prodL]
            | cons z l ih =>
              intro hl
              have := ih hl.tail
              have hz1 := (hl z (by simp)).1
              show 1 ≤ z * prodL l
              have := Int.mul_le_mul_of_nonneg_right hz1 (show 0 ≤ prodL l by omega)
              omega
          exact this zs hS.in5
        have : zs.getD k 0 * prodL (zs.eraseIdx k) ≤ 0 := Int.mul_nonpos_of_nonneg_of_nonpos (by omega) (by omega)
        omega
      have h5 : zs.getD k 0 * prodL (zs.eraseIdx k) ≤ zs.getD i 0 * prodL (zs.eraseIdx k) := Int.mul_le_mul_of_nonneg_right hz hpos
      have h6 : zs.getD i 0 * prodL (zs.eraseIdx k) < zs.getD i 0 * prodL (zs.eraseIdx i) := Int.mul_lt_mul_of_pos_left (by omega) (by omega)
      omega
    unfold othL restP
    have ha := hS.ha
    have := Int.mul_le_mul_of_nonneg_left hpi (show 0 ≤ a by omega)
    omega
  intro v
  rw [cntV_perm v (h1 i (by omega) ys _ hi rfl), cntV_perm v (h1 k hk us _ hj rfl), cntV_cons, cntV_cons]
  have q1 := cntV_perm v (erase_perm zs i (by omega))
  have q2 := cntV_perm v (erase_perm zs k hk)
  rw [cntV_cons] at q1 q2
  rw [show zs[i] = zs.getD i 0 by simp [show i < zs.length by omega]] at q1
  rw [show zs[k] = zs.getD k 0 by simp [hk]] at q2
  split at q1 <;> split at q2 <;> split <;> split <;> omega


theorem befL_at : ∀ {xs ys : List Int} {k : Nat}, xs.take k = ys.take k → k < xs.length → k < ys.length → xs.getD k 0 ≠ ys.getD k 0 → befL xs ys = decide (xs.getD k 0 < ys.getD k 0) := by
  intro xs
  induction xs with
  | nil => intro ys k _ h; simp at h
  | cons x xs ih =>
    intro ys k ht h1 h2 hne
    cases ys with
    | nil => simp at h2
    | cons y ys =>
      cases k with
      | zero => have hne' : x ≠ y := by simpa using hne
                unfold befL; rw [if_pos hne']; rfl
      | succ k =>
        simp only [List.take_succ_cons, List.cons.injEq] at ht
        unfold befL
        rw [if_neg (by simp [ht.1])]
        exact ih ht.2 (by simpa using h1) (by simpa using h2) (by simpa using hne)
theorem befL_end : ∀ {xs ys : List Int} {k : Nat}, xs.take k = ys.take k → k ≤ xs.length → k ≤ ys.length → (k = xs.length ∨ k = ys.length) → befL xs ys = decide (xs.length < ys.length) := by
  intro xs
  induction xs with
  | nil => intro ys k _ _ _ _; rfl
  | cons x xs ih =>
    intro ys k ht h1 h2 h3
    cases ys with
    | nil => simp [befL]
    | cons y ys =>
      cases k with
      | zero => simp at h3
      | succ k =>
        simp only [List.take_succ_cons, List.cons.injEq] at ht
        unfold befL
        rw [if_neg (by simp [ht.1]), ih ht.2 (by simpa using h1) (by simpa using h2) (by simpa using h3)]
        simp
set_option maxRecDepth 20000 in
set_option maxHeartbeats 1000000 in
theorem huBefore_any (u v : Value) (xs ys : List Int) (w : World) (hx : Ints w u xs) (hy : Ints w v ys) :
    Calls Try.prog 79 #[u, v] w fun e w' => e = .returned (.bool (befL xs ys)) ∧ Drew w w' := by
  obtain ⟨a, cap, rfl, hl, hc⟩ := hx
  obtain ⟨b, cap2, rfl, hl2, hc2⟩ := hy
  have HC := hid hc
  have HC2 := hid hc2
  have HAT := hid (fun k => befL_at (xs := xs) (ys := ys) (k := k))
  have HEND := hid (fun k => befL_end (xs := xs) (ys := ys) (k := k))
  obtain ⟨B, hB⟩ : ∃ B, befL xs ys = B := ⟨_, rfl⟩
  rw [hB] at HAT HEND ⊢
  clear hc hc2 hB
  go_enter Try.func79, Try.ntmps79
  go_wp2_with fail
  go_loopw [5] (fun i wr => ∃ k n : Nat, k ≤ xs.length ∧ k ≤ ys.length ∧ i = .int .i64 k ∧ xs.take k = ys.take k ∧ wr = w.drewN n) (fun i _ => xs.length - (intOf i).toNat)
  case atStart => exact ⟨0, 0, Nat.zero_le _, Nat.zero_le _, rfl, rfl, rfl⟩
  case round =>
    obtain ⟨k, n, hk, hk2, rfl, heq, rfl⟩ := hrel
    have HE := hid heq; clear heq
    by_cases hlt : k < xs.length
    · by_cases hlt2 : k < ys.length
      · obtain ⟨ad, rfl, hcell⟩ := HC.out k hlt
        obtain ⟨ad2, rfl, hcell2⟩ := HC2.out k hlt2
        have hi1 : (k : Int) < (xs.length : Int) := by omega
        have hi2 : (k : Int) < (ys.length : Int) := by omega
        have HT1 := hid (take_snoc xs k hlt)
        have HT2 := hid (take_snoc ys k hlt2)
        have HATk := hid (HAT.out k HE.out hlt hlt2)
        rw [show xs[k] = xs.getD k 0 by simp [hlt]] at HT1
        rw [show ys[k] = ys.getD k 0 by simp [hlt2]] at HT2
        obtain ⟨x, hxx⟩ : ∃ x, xs.getD k 0 = x := ⟨_, rfl⟩
        obtain ⟨y, hyy⟩ : ∃ y, ys.getD k 0 = y := ⟨_, rfl⟩
        rw [hxx] at hcell HT1 HATk
        rw [hyy] at hcell2 HT2 HATk
        clear hxx hyy
        by_cases hv : x = y
        · have HV := hid hv
          have hb : (x != y) = false := by simp [hv]
          clear hv
          go_wp2
          go_quiet (fail)
          go_wp2
          go_roundw
          case rel => exact ⟨k + 1, n + nq, hlt, hlt2, by go_num, by rw [HT1.out, HT2.out, HE.out, HV.out], by simp⟩
          case measure => simp [intOf]; omega
        · have hb : (x != y) = true := by simp [hv]
          have HN := hid (HATk.out hv); clear hv
          go_wp2
          go_quiet (fail)
          go_wp2
          go_quiet (fail)
          go_wp2
          go_ret
          exact ⟨ret_bool HN.out.symm, ⟨_, by simp; rfl⟩⟩
      · have hk3 : k = ys.length := by omega
        have HN := hid (HEND.out k HE.out hk hk2 (.inr hk3))
        have hi1 : (k : Int) < (xs.length : Int) := by omega
        have hi2 : ¬ (k : Int) < (ys.length : Int) := by omega
        clear hk3
        go_wp2
        go_ret
        exact ⟨ret_bool (by rw [HN.out]), ⟨n, rfl⟩⟩
    · have hk3 : k = xs.length := by omega
      have HN := hid (HEND.out k HE.out hk hk2 (.inl hk3))
      have hi1 : ¬ (k : Int) < (xs.length : Int) := by omega
      clear hk3
      go_wp2
      go_ret
      exact ⟨ret_bool (by rw [HN.out]), ⟨n, rfl⟩⟩
theorem huBefore_as {u v : Value} {xs ys : List Int} {w : World} {b : Bool} (hb : befL xs ys = b) (hx : Ints w u xs) (hy : Ints w v ys) :
    Calls Try.prog 79 #[u, v] w fun e w' => e = .returned (.bool b) ∧ Drew w w' := by
  subst hb; exact huBefore_any u v xs ys w hx hy


abbrev Pr : Type := Value × List Int
def NePr (p q : Pr) : Prop := ∀ k, p.1.ownBlock = some k → q.1.ownBlock ≠ some k
theorem NePr.symm {p q : Pr} (h : NePr p q) : NePr q p := fun k hq hp => h k hp hq
/-- A row of rows of its own, its rows with what they hold. -/
structure OwnPs (lo hi : Nat) (w : World) (v : Value) (ps : List Pr) : Prop where
  own : w.ownsRow lo 22 1 v ps.length (ps.map (·.1))
  blk : ∀ k, v.ownBlock = some k → k < hi
  ints : ∀ p ∈ ps, OwnInts lo hi w p.1 p.2
  ne : ps.Pairwise NePr
theorem OwnPs.rows {lo hi : Nat} {w : World} {v : Value} {ps : List Pr} (h : OwnPs lo hi w v ps) : OwnRows lo hi w v (ps.map (·.2)) := by
  refine ⟨ps.map (·.1), by simp, by simpa using h.own, h.blk, fun i hi => ?_, fun i j hij hj k hk => ?_⟩
  · have hi' : i < ps.length := by simpa using hi
    have := h.ints ps[i] (List.getElem_mem hi')
    simpa [hi'] using this
  · have hj' : j < ps.length := by simpa using hj
    have := List.pairwise_iff_getElem.1 h.ne i j (by omega) hj' hij k
    simp [hj', show i < ps.length by omega] at hk ⊢
    exact this hk
theorem OwnRows.ps {lo hi : Nat} {w : World} {v : Value} {L : List (List Int)} (h : OwnRows lo hi w v L) : ∃ ps, OwnPs lo hi w v ps ∧ ps.map (·.2) = L := by
  obtain ⟨us, hl, ho, hb, hi2, hd⟩ := h.partsH
  refine ⟨us.zip L, ⟨?_, hb, ?_, ?_⟩, ?_⟩
  · rw [List.length_zip, ← hl, Nat.min_self]
    have : (us.zip L).map (·.1) = us := by rw [List.map_fst_zip]; omega
    rw [this]; exact ho
  · intro p hp
    obtain ⟨i, hi3, rfl⟩ := List.getElem_of_mem hp
    have hi4 : i < L.length := by rw [List.length_zip] at hi3; omega
    have := hi2 i hi4
    simpa [hi4, show i < us.length by omega] using this
  · rw [List.pairwise_iff_getElem]
    intro i j hi3 hj3 hij k hk
    have hj4 : j < L.length := by rw [List.length_zip] at hj3; omega
    have := hd i j hij hj4 k
    simp [show i < us.length by omega, show j < us.length by omega] at this
    simpa using this (by simpa using hk)
  · rw [List.map_snd_zip]; omega
theorem OwnPs.later {lo hi : Nat} {w w' : World} {v : Value} {ps : List Pr} (h : OwnPs lo hi w v ps) (k : Later w w') : OwnPs lo hi w' v ps :=
  ⟨ownsRow_keep h.own fun b hb => k.block b (h.own.lt b hb).2, h.blk, fun p hp => (h.ints p hp).later k, h.ne⟩
theorem OwnPs.wide {lo hi lo' hi' : Nat} {w : World} {v : Value} {ps : List Pr} (h : OwnPs lo hi w v ps) (h1 : lo' ≤ lo) (h2 : hi ≤ hi') : OwnPs lo' hi' w v ps :=
  ⟨ownsRow_base h.own h1, fun k hk => Nat.lt_of_lt_of_le (h.blk k hk) h2, fun p hp => (h.ints p hp).wide h1 h2, h.ne⟩
/-- insertion in order -/
def putKp (ps : List Pr) (a : List Int) : Nat := (ps.takeWhile fun p => befL p.2 a).length
def inPs (ps : List Pr) (a : List Int) : Prop := (ps.map (·.2)).getD (putKp ps a) [] = a ∧ putKp ps a < ps.length
instance (ps : List Pr) (a : List Int) : Decidable (inPs ps a) := by unfold inPs; infer_instance
def insPs (ps : List Pr) (p : Pr) : List Pr := ps.take (putKp ps p.2) ++ p :: ps.drop (putKp ps p.2)
def putPs (ps : List Pr) (p : Pr) : List Pr := if inPs ps p.2 then ps else insPs ps p
theorem putKp_map (ps : List Pr) (a : List Int) : putKp ps a = putK (ps.map (·.2)) a := by
  unfold putKp putK
  induction ps with
  | nil => rfl
  | cons p ps ih => simp only [List.map_cons, List.takeWhile_cons]; split <;> simp_all
theorem putPs_map (ps : List Pr) (p : Pr) : (putPs ps p).map (·.2) = putL (ps.map (·.2)) p.2 := by
  unfold putPs putL
  by_cases h : inPs ps p.2
  · rw [if_pos h, if_pos (by unfold inPs at h; rw [putKp_map] at h; simpa using h)]
  · rw [if_neg h, if_neg (by unfold inPs at h; rw [putKp_map] at h; simpa using h)]
    unfold insPs
    rw [putKp_map]
    simp
theorem insPs_perm (ps : List Pr) (p : Pr) : (insPs ps p).Perm (p :: ps) := by
  unfold insPs
  refine List.perm_middle.trans ?_
  rw [List.take_append_drop]
theorem putKp_le (ps : List Pr) (a : List Int) : putKp ps a ≤ ps.length := (List.takeWhile_prefix _).length_le
theorem putKp_lt (ps : List Pr) (a : List Int) : ∀ j (_ : j < putKp ps a), befL ((ps.map (·.2)).getD j []) a = true := by
  induction ps with
  | nil => intro j h; simp [putKp] at h
  | cons p ps ih =>
    intro j h
    unfold putKp at h
    rw [List.takeWhile_cons] at h
    split at h
    · rename_i hp
      cases j with
      | zero => simpa using hp
      | succ j => simpa using ih j (by unfold putKp; simpa using h)
    · simp at h
theorem putKp_at (ps : List Pr) (a : List Int) : putKp ps a < ps.length → befL ((ps.map (·.2)).getD (putKp ps a) []) a = false := by
  induction ps with
  | nil => intro h; simp at h
  | cons p ps ih =>
    intro h
    unfold putKp at h ⊢
    rw [List.takeWhile_cons] at h ⊢
    split at h
    · rename_i hp
      rw [if_pos hp]
      have := ih (by unfold putKp; simpa using h)
      unfold putKp at this
      simpa using this
    · rename_i hp
      rw [if_neg hp]
      simpa using hp
theorem OwnPs.insert {lo : Nat} {w w' : World} {v v' u : Value} {a : List Int} {ps : List Pr} (h : OwnPs lo w.heap.size w v ps) (hu : OwnInts lo w.heap.size w u a) (hne : ∀ p ∈ ps, NePr p (u, a)) (hL : Later w w')
    (ho : w'.ownsRow lo 22 1 v' (insPs ps (u, a)).length ((insPs ps (u, a)).map (·.1))) : OwnPs lo w'.heap.size w' v' (insPs ps (u, a)) := by
  have hp := insPs_perm ps (u, a)
  refine ⟨ho, fun k hk => (ho.lt k hk).2, fun q hq => ?_, ?_⟩
  · rcases List.mem_cons.1 (hp.mem_iff.1 hq) with rfl | hq
    · exact (hu.later hL).wide (Nat.le_refl _) hL.size
    · exact ((h.ints q hq).later hL).wide (Nat.le_refl _) hL.size
  · refine (hp.pairwise_iff (fun h => h.symm)).2 ?_
    exact List.pairwise_cons.2 ⟨fun q hq => (hne q hq).symm, h.ne⟩
theorem ownPs_head {lo hi : Nat} {w : World} {g n cg : Nat} {ps : List Pr} (h : OwnPs lo hi w (.slice (some ⟨g, 0, none⟩) n cg) ps) : n = ps.length ∧ n ≤ cg ∧ ∀ k, k < ps.length → w.cell? ⟨g, k, none⟩ = some (ps.getD k (undef, [])).1 := by
  rcases h.own.2 with ⟨e, _⟩ | ⟨g', cg', cur, e, hb, hg, hn, hm, hs, ht⟩
  · simp at e
  · simp only [Value.slice.injEq] at e
    obtain ⟨_, rfl, rfl⟩ := e
    refine ⟨rfl, hn, fun k hk => ?_⟩
    rw [h.own.cellAt k (by omega)]
    simp [hk]

/-- append of nothing, at a step of a region that draws. -/
theorem step_append_noneH {P : Program} (w : World) {ops : Array Oper} {o : Oper} {a : Act} {K : Act → World → Prop} {Q : Exit → Act → World → Prop} {E : Prop} (hgd : o.guard = none) (s x : Operand) (t : TypeId)
    (ho : o.op = .call { callee := .builtin .append, args := #[s, x], argTypes := #[t, t] })
    (base : Nat) (e : TypeId) (i : TypeInfo) (size : Nat) (ht : P.underlying t = some (.slice e)) (hi : P.info? e = some i)
    (v : Value) (n : Nat) (xs : List Value) (hs : a.eval s = v) (hown : w.ownsRow base e size v n xs) (hx : a.eval x = .slice none 0 0)
    (h : K (a.put o.dst v) w) :
    if Region.wanted o (yielded ops a.tmps) = true then Oper.wp P o a w K Q else E := by
  have hw : Region.wanted o (yielded ops a.tmps) = true := by simp [Region.wanted, hgd]
  rw [if_pos hw]
  have hr := run_append_owned_none (P := P) (w := w) base t o.type e i size ht hi v n xs hown
  unfold Oper.wp execOp
  simp only [ho, resolve, invoke, builtin, Sem.run_bind, Sem.run_pure, Result.andThen_ok, List.map_toArray, List.map_cons, List.map_nil, hs, hx, hr]
  exact h

set_option maxRecDepth 20000 in
set_option maxHeartbeats 8000000 in
theorem huPutN_any {lo : Nat} (v u : Value) (a : List Int) (ps : List Pr) (w : World) (hlo : lo ≤ w.heap.size) (hb : ps.length ≤ 1000000) (h : OwnPs lo w.heap.size w v ps) (hu : OwnInts lo w.heap.size w u a) (hne : ∀ p ∈ ps, NePr p (u, a)) :
    Calls Try.prog 39 #[v, u] w fun e w' => ∃ v', e = .returned v' ∧ OwnPs lo w'.heap.size w' v' (putPs ps (u, a)) ∧ Later w w' ∧ (inPs ps a → v' = v) ∧ (¬ inPs ps a → ∀ b, v'.ownBlock = some b → w.heap.size ≤ b) := by
  obtain ⟨i0, hi, hz0, hz1, hz2⟩ := info_parts Try.infoInts
  rcases h.own.2 with ⟨rfl, h0⟩ | ⟨g, cg, cur, rfl, _, hgl, hncg, _⟩
  · have hps : ps = [] := List.eq_nil_of_length_eq_zero h0
    subst hps
    obtain ⟨ua, uc, rfl, huc⟩ := hu.shape
    have HU := hid hu
    have HLO := hid hlo
    have HNI := hid (show ¬ inPs [] a by unfold inPs; simp)
    have HPE := hid (show putPs [] (Value.slice ua a.length uc, a) = [(Value.slice ua a.length uc, a)] by unfold putPs; rw [if_neg HNI.out]; rfl)
    have H := hid h
    clear h hu hne h0 hb hlo
    go_enter Try.func39, Try.ntmps39
    go_wp2_with fail
    go_loopw [5] (fun k wr => k = .int .i64 0 ∧ wr = w) (fun _ _ => 0)
    case atStart => exact ⟨rfl, rfl⟩
    case round =>
      obtain ⟨rfl, rfl⟩ := hrel
      have HO6 : Hid ((wr.alloc (.cells #[] 22)).ownsRow wr.heap.size 22 1 (.slice (some ⟨wr.heap.size, 0, none⟩) 0 0) 0 []) := hid ⟨rfl, .inr ⟨wr.heap.size, 0, #[], rfl, Nat.le_refl _, heap_alloc_new wr _, Nat.le_refl _, by omega, by simp, by simp⟩⟩
      have HL6 := hid (Later.alloc wr (.cells #[] 22))
      have HW6 := hid HL6.out.size
      go_wp2_with fail
      obtain ⟨v6, hv6⟩ : ∃ v : Value, .slice (some ⟨wr.heap.size, 0, none⟩) 0 0 = v := ⟨_, rfl⟩
      rw [hv6] at HO6 ⊢
      generalize wr.alloc (.cells #[] 22) = w6 at HO6 HL6 HW6 ⊢
      clear hv6
      go_region_held3 (fun _ => True) (trivial) (first | (have hh := HW6; clear hh; refine step_append_atH _ (by rfl) _ _ _ (by rfl) wr.heap.size 22 i0 (.slice none 0 0) 1 24 Try.underlying23 hi hz0 hz1 hz2 rfl (by omega) v6 0 [] (by rfl) (by exact (HO6.out.alloc (.cells #[Value.slice ua a.length uc] 22)).drew) _ _ _ [.slice ua a.length uc] (by rfl) (by rfl) (by intro j u hj; rw [World.cell?_drew]; exact World.news_of_block (cs := #[.slice ua a.length uc]) (t := 22) (fr := (0, 0)) (heap_alloc_new w6 _) j u hj) (fun u hu => by simp at hu; subst hu; rfl) (by unfold maxLen; omega) (by omega) (by have := HW6.out; simp; omega) ?_; intro v7 w7 hown7 hgrow7; clear HW6; have HO7 := hid hown7; have HL7 := hid (show Later wr w7 from ((HL6.out.trans (Later.alloc w6 (.cells #[Value.slice ua a.length uc] 22))).trans (Later.drew _)).grown hgrow7 (by have := HL6.out.size; simp; omega) (fun b hb => (HO6.out.lt b hb).1)); obtain ⟨a7, c7, rfl, _⟩ := ownsRow_shape hown7; clear hown7 hgrow7) | (have hh := HO7; clear hh; refine step_append_noneH _ (by rfl) _ _ _ (by rfl) wr.heap.size 22 i0 1 Try.underlying23 hi _ 1 ([] ++ [.slice ua a.length uc]) (by rfl) (by exact HO7.out) (by rfl) ?_))
      go_wp2_with fail
      go_ret
      refine ⟨_, rfl, ?_, HL7.out, fun h => absurd h HNI.out, fun _ b hb => (HO7.out.lt b hb).1⟩
      have e := H.out.insert HU.out (fun p hp => by simp at hp) HL7.out (v' := .slice a7 (0 + 1) c7) (by exact ownsRow_base HO7.out HLO.out)
      rw [HPE.out]
      exact e
  · obtain ⟨ua, uc, rfl, huc⟩ := hu.shape
    have hhd := (ownPs_head h).2.2
    have HOS := hid h
    have HUS := hid hu
    have HNE := hid hne
    have HLO := hid hlo
    have HKL := hid (putKp_lt ps a)
    have HKA := hid (putKp_at ps a)
    have hkl := putKp_le ps a
    have HHD := hid hhd
    have HDEF := hid (show inPs ps a ↔ ((ps.map (·.2)).getD (putKp ps a) [] = a ∧ putKp ps a < ps.length) from Iff.rfl)
    have HINS := hid (show ∀ u, insPs ps (u, a) = ps.take (putKp ps a) ++ (u, a) :: ps.drop (putKp ps a) from fun u => rfl)
    obtain ⟨K, hK⟩ : ∃ K, putKp ps a = K := ⟨_, rfl⟩
    rw [hK] at HKL HKA hkl HDEF HINS
    clear h hu hne hlo hhd hK hgl
    go_enter Try.func39, Try.ntmps39
    go_wp2_with fail
    go_loopw [5] (fun s5 wr => ∃ k : Nat, k ≤ K ∧ s5 = .int .i64 k ∧ Later w wr) (fun s5 _ => K - (intOf s5).toNat)
    case atStart => exact ⟨0, Nat.zero_le _, rfl, Later.refl _⟩
    case round =>
      obtain ⟨k, hk, rfl, hL⟩ := hrel
      have HL := hid hL
      have row : ∀ k, k < ps.length → ∃ ad c, wr.cell? ⟨g, k, none⟩ = some (.slice ad ((ps.map (·.2)).getD k []).length c) ∧ Ints wr (.slice ad ((ps.map (·.2)).getD k []).length c) ((ps.map (·.2)).getD k []) := by
        intro k hk
        have h1 := HHD.out k hk
        have h2 := HOS.out.ints ps[k] (List.getElem_mem hk)
        obtain ⟨ad, c, e, _⟩ := h2.shape
        rw [show ps.getD k (undef, []) = ps[k] by simp [hk]] at h1
        have e2 : (ps.map (·.2)).getD k [] = ps[k].2 := by simp [hk]
        refine ⟨ad, c, ?_, ?_⟩
        · rw [e2, ← e]; exact hL.cell h1
        · rw [e2, ← e]; exact (h2.later hL).ints
      by_cases hlt : k < K
      · obtain ⟨ad, c, hc, hr⟩ := row k (by omega)
        have HB := hid (HKL.out k hlt)
        have hkI : (k : Int) < (ps.length : Int) := by omega
        obtain ⟨l, hl⟩ : ∃ l, (ps.map (·.2)).getD k [] = l := ⟨_, rfl⟩
        rw [hl] at hc hr HB
        have HRI := hid hr
        clear row hr hl hL
        go_wp2_with fail
        refine (huBefore_as HB.out HRI.out (HUS.out.later HL.out).ints).mono ?_
        rintro e w2 ⟨rfl, hD⟩
        have HL2 := hid (HL.out.trans hD.later)
        clear hD
        go_wp2_with fail
        go_roundw
        case rel => exact ⟨k + 1, hlt, by go_num, HL2.out⟩
        case measure => simp [intOf]; omega
      · obtain rfl : k = K := by omega
        clear hk hlt
        by_cases hkn : k < ps.length
        · obtain ⟨ad, c, hc, hr⟩ := row k hkn
          have HB := hid (HKA.out hkn)
          have hkI : (k : Int) < (ps.length : Int) := by omega
          obtain ⟨l, hl⟩ : ∃ l, (ps.map (·.2)).getD k [] = l := ⟨_, rfl⟩
          rw [hl] at hc hr HB HDEF
          have HRI := hid hr
          clear row hr hl hL
          go_wp2_with fail
          refine (huBefore_as HB.out HRI.out (HUS.out.later HL.out).ints).mono ?_
          rintro e w2 ⟨rfl, hD⟩
          have HL2 := hid (HL.out.trans hD.later)
          have HRI2 := hid (HRI.out.later hD.later)
          replace hc := hD.later.cell hc
          clear hD
          by_cases hla : l = a
          · have HEQ := hid (eqL_iff.2 hla)
            have HIN := hid (HDEF.out.2 ⟨hla, hkn⟩)
            clear hla
            go_wp2_with fail
            refine (l1Same_as HEQ.out HRI2.out (HUS.out.later HL2.out).ints).mono ?_
            rintro e w3 ⟨rfl, hD⟩
            have HL3 := hid (HL2.out.trans hD.later)
            clear hD
            go_wp2_with fail
            go_ret
            refine ⟨_, rfl, ?_, HL3.out, fun _ => rfl, fun h => absurd HIN.out h⟩
            unfold putPs
            rw [if_pos HIN.out]
            exact (HOS.out.later HL3.out).wide (Nat.le_refl _) HL3.out.size
          · have HEQ := hid (show eqL l a = false by
              cases he : eqL l a
              · rfl
              · exact absurd (eqL_iff.1 he) hla)
            have HNI := hid (show ¬ inPs ps a from fun h => hla (HDEF.out.1 h).1)
            clear hla
            go_wp2_with fail
            refine (l1Same_as HEQ.out HRI2.out (HUS.out.later HL2.out).ints).mono ?_
            rintro e w3 ⟨rfl, hD⟩
            have HL3 := hid (HL2.out.trans hD.later)
            clear hD hc
            have HOW := hid (show (w3.alloc (.cells #[] 22)).ownsRow w3.heap.size 22 1 (.slice (some ⟨w3.heap.size, 0, none⟩) 0 0) 0 [] from ⟨rfl, .inr ⟨w3.heap.size, 0, #[], rfl, Nat.le_refl _, heap_alloc_new w3 _, Nat.le_refl _, by omega, by simp, by simp⟩⟩)
            have HCL := hid (show ∀ j, j < ps.length → w3.cell? ⟨g, j, none⟩ = some (ps.getD j (undef, [])).1 from fun j hj => HL3.out.cell (HHD.out j hj))
            obtain ⟨XS, hXS⟩ : ∃ XS, (ps.take k).map (·.1) = XS := ⟨_, rfl⟩
            obtain ⟨YS, hYS⟩ : ∃ YS, (ps.drop k).map (·.1) = YS := ⟨_, rfl⟩
            have HXL := hid (show XS.length = k * 1 by rw [← hXS]; simp; omega)
            have HYL := hid (show YS.length = (ps.length - k) * 1 by rw [← hYS]; simp)
            have hsl : ∀ p ∈ ps, p.1.oneCell' = true := fun p hp => by obtain ⟨_, _, e, _⟩ := (HOS.out.ints p hp).shape; rw [e]; rfl
            have HXO := hid (show ∀ u ∈ XS, u.oneCell' = true by intro u hu; rw [← hXS] at hu; obtain ⟨p, hp, rfl⟩ := List.mem_map.1 hu; exact hsl p (List.mem_of_mem_take hp))
            have HYO := hid (show ∀ u ∈ YS, u.oneCell' = true by intro u hu; rw [← hYS] at hu; obtain ⟨p, hp, rfl⟩ := List.mem_map.1 hu; exact hsl p (List.mem_of_mem_drop hp))
            have hat : ∀ j u, (ps.map (·.1))[j]? = some u → w3.cell? ⟨g, j, none⟩ = some u := by
              intro j u hj
              have hj2 : j < ps.length := by
                rcases Nat.lt_or_ge j ps.length with h | h
                · exact h
                · rw [List.getElem?_eq_none (by simpa using h)] at hj; cases hj
              rw [HCL.out j hj2, ← hj]
              simp [hj2]
            have HNX := hid (show ∀ j u, XS[j]? = some u → (w3.alloc (.cells #[] 22)).cell? ((⟨g, 0, none⟩ : Addr).add j) = some u from fun j u hj => by
              rw [addr_add0]
              refine (Later.alloc w3 _).cell (hat j u ?_)
              rw [← hXS, List.map_take, List.getElem?_take] at hj
              split at hj
              · exact hj
              · cases hj)
            have HINL := hid (show (insPs ps (.slice ua a.length uc, a)).length = k + 1 + (ps.length - k) by rw [(insPs_perm ps _).length_eq]; simp; omega)
            have HINM := hid (show (insPs ps (.slice ua a.length uc, a)).map (·.1) = XS ++ [.slice ua a.length uc] ++ YS by rw [HINS.out, ← hXS, ← hYS]; simp)
            have HLW := hid (show lo ≤ w3.heap.size from Nat.le_trans HLO.out HL3.out.size)
            have hkc : (k : Int) ≤ (cg : Int) := by omega
            have hkp : (k : Int) ≤ (ps.length : Int) := by omega
            have hpc : (ps.length : Int) ≤ (cg : Int) := by omega
            have hk0 : (0 : Int) ≤ (k : Int) := by omega
            have hktn : ((k : Int)).toNat = k := by omega
            clear hsl
            go_wp2_with (at_builtin; refine wpList_append_own_at _ (by rfl) _ _ _ (by rfl) w3.heap.size 22 i0 (.slice none 0 0) 1 24 Try.underlying23 hi hz0 hz1 hz2 rfl (by omega) (.slice (some ⟨w3.heap.size, 0, none⟩) 0 0) 0 [] (by rfl) (by exact HOW.out) ⟨g, 0, none⟩ k cg XS (by rfl) (by exact HXL.out) HNX.out (fun u hu => HXO.out u hu) (by unfold maxLen; omega) (by omega) (by simp) ?_)
            intro v6 w6 hown6 hgrow6 _ _
            have HO6 := hid (show w6.ownsRow w3.heap.size 22 1 v6 k XS by simpa using hown6)
            have HL6 := hid (show Later w3 w6 from (Later.alloc w3 (.cells #[] 22)).grown hgrow6 (by simp) (fun b hb => Nat.le_of_eq (Option.some.inj hb)))
            have HW6 := hid HL6.out.size
            clear hown6 hgrow6 HOW HNX
            by_cases hcq : cg = k
            · have HNY := hid (show ∀ t u, YS[t]? = some u → w3.cell? ((⟨g, 0, none⟩ : Addr).add t) = some u from fun t u ht => by
                rw [List.getElem?_eq_none (by have := HYL.out; omega)] at ht; cases ht)
              clear hat hXS hYS
              go_wp2_with fail
              go_region_held3 (fun _ => True) (trivial) (first | (have hh := HW6; clear hh; refine step_append_atH _ (by rfl) _ _ _ (by rfl) w3.heap.size 22 i0 (.slice none 0 0) 1 24 Try.underlying23 hi hz0 hz1 hz2 rfl (by omega) v6 k XS (by rfl) (by exact (HO6.out.alloc (.cells #[Value.slice ua a.length uc] 22)).drew) _ _ _ [.slice ua a.length uc] (by rfl) (by rfl) (by intro j u hj; rw [World.cell?_drew]; exact World.news_of_block (cs := #[.slice ua a.length uc]) (t := 22) (fr := (0, 0)) (heap_alloc_new w6 _) j u hj) (fun u hu => by simp at hu; subst hu; rfl) (by unfold maxLen; omega) (by omega) (by have := HW6.out; simp; omega) ?_; intro v7 w7 hown7 hgrow7; clear HW6; have HO7 := hid hown7; have HL7 := hid (show Later w3 w7 from ((HL6.out.trans (Later.alloc w6 (.cells #[Value.slice ua a.length uc] 22))).trans (Later.drew _)).grown hgrow7 (by have := HL6.out.size; simp; omega) (fun b hb => (HO6.out.lt b hb).1)); clear hown7 hgrow7) | (have hh := HO7; clear hh; refine step_append_atH _ (by rfl) _ _ _ (by rfl) w3.heap.size 22 i0 (.slice none 0 0) 1 24 Try.underlying23 hi hz0 hz1 hz2 rfl (by omega) _ (k + 1) (XS ++ [.slice ua a.length uc]) (by rfl) (by exact HO7.out) ⟨g, 0, none⟩ (ps.length - k) 0 YS (by rfl) (by exact HYL.out) (fun t u ht => HL7.out.cell (HNY.out t u ht)) (fun u hu => HYO.out u hu) (by unfold maxLen; omega) (by omega) (by have := HL7.out.size; omega) ?_; intro v8 w8 hown8 hgrow8; have HO8 := hid hown8; have HL8 := hid (show Later w3 w8 from HL7.out.grown hgrow8 HL7.out.size (fun b hb => (HO7.out.lt b hb).1)); obtain ⟨a8, c8, rfl, _⟩ := ownsRow_shape hown8; clear hown8 hgrow8 HO7 HL7))
              go_wp2_with fail
              go_ret
              refine ⟨_, rfl, ?_, HL3.out.trans HL8.out, fun h => absurd h HNI.out, fun _ b hb => Nat.le_trans HL3.out.size (HO8.out.lt b hb).1⟩
              have e := (show OwnPs lo w3.heap.size w3 _ ps from (HOS.out.later HL3.out).wide (Nat.le_refl _) HL3.out.size).insert ((HUS.out.later HL3.out).wide (Nat.le_refl _) HL3.out.size) HNE.out HL8.out (v' := .slice a8 (k + 1 + (ps.length - k)) c8) (by
                rw [HINL.out, HINM.out]
                exact ownsRow_base HO8.out HLW.out)
              unfold putPs
              rw [if_neg HNI.out]
              exact e
            · have HNY := hid (show ∀ t u, YS[t]? = some u → w3.cell? ((⟨g, k, none⟩ : Addr).add t) = some u from fun t u ht => by
                have h1 := hat (k + t) u (by rw [← hYS] at ht; rw [← ht]; simp)
                rw [← h1]
                congr 1
                unfold Addr.add
                by_cases h0 : t = 0 <;> simp [h0])
              clear hat hXS hYS
              go_wp2_with fail
              go_region_held3 (fun _ => True) (trivial) (first | (have hh := HW6; clear hh; refine step_append_atH _ (by rfl) _ _ _ (by rfl) w3.heap.size 22 i0 (.slice none 0 0) 1 24 Try.underlying23 hi hz0 hz1 hz2 rfl (by omega) v6 k XS (by rfl) (by exact (HO6.out.alloc (.cells #[Value.slice ua a.length uc] 22)).drew) _ _ _ [.slice ua a.length uc] (by rfl) (by rfl) (by intro j u hj; rw [World.cell?_drew]; exact World.news_of_block (cs := #[.slice ua a.length uc]) (t := 22) (fr := (0, 0)) (heap_alloc_new w6 _) j u hj) (fun u hu => by simp at hu; subst hu; rfl) (by unfold maxLen; omega) (by omega) (by have := HW6.out; simp; omega) ?_; intro v7 w7 hown7 hgrow7; clear HW6; have HO7 := hid hown7; have HL7 := hid (show Later w3 w7 from ((HL6.out.trans (Later.alloc w6 (.cells #[Value.slice ua a.length uc] 22))).trans (Later.drew _)).grown hgrow7 (by have := HL6.out.size; simp; omega) (fun b hb => (HO6.out.lt b hb).1)); clear hown7 hgrow7) | (have hh := HO7; clear hh; refine step_append_atH _ (by rfl) _ _ _ (by rfl) w3.heap.size 22 i0 (.slice none 0 0) 1 24 Try.underlying23 hi hz0 hz1 hz2 rfl (by omega) _ (k + 1) (XS ++ [.slice ua a.length uc]) (by rfl) (by exact HO7.out) ⟨g, k, none⟩ (ps.length - k) (cg - k) YS (by rfl) (by exact HYL.out) (fun t u ht => HL7.out.cell (HNY.out t u ht)) (fun u hu => HYO.out u hu) (by unfold maxLen; omega) (by omega) (by have := HL7.out.size; omega) ?_; intro v8 w8 hown8 hgrow8; have HO8 := hid hown8; have HL8 := hid (show Later w3 w8 from HL7.out.grown hgrow8 HL7.out.size (fun b hb => (HO7.out.lt b hb).1)); obtain ⟨a8, c8, rfl, _⟩ := ownsRow_shape hown8; clear hown8 hgrow8 HO7 HL7))
              go_wp2_with fail
              go_ret
              refine ⟨_, rfl, ?_, HL3.out.trans HL8.out, fun h => absurd h HNI.out, fun _ b hb => Nat.le_trans HL3.out.size (HO8.out.lt b hb).1⟩
              have e := (show OwnPs lo w3.heap.size w3 _ ps from (HOS.out.later HL3.out).wide (Nat.le_refl _) HL3.out.size).insert ((HUS.out.later HL3.out).wide (Nat.le_refl _) HL3.out.size) HNE.out HL8.out (v' := .slice a8 (k + 1 + (ps.length - k)) c8) (by
                rw [HINL.out, HINM.out]
                exact ownsRow_base HO8.out HLW.out)
              unfold putPs
              rw [if_neg HNI.out]
              exact e
        · have HNI := hid (show ¬ inPs ps a from fun h => hkn (HDEF.out.1 h).2)
          have hkn2 : ¬ (k : Int) < (ps.length : Int) := by omega
          clear row hL
          have HOW := hid (show (wr.alloc (.cells #[] 22)).ownsRow wr.heap.size 22 1 (.slice (some ⟨wr.heap.size, 0, none⟩) 0 0) 0 [] from ⟨rfl, .inr ⟨wr.heap.size, 0, #[], rfl, Nat.le_refl _, heap_alloc_new wr _, Nat.le_refl _, by omega, by simp, by simp⟩⟩)
          have HCL := hid (show ∀ j, j < ps.length → wr.cell? ⟨g, j, none⟩ = some (ps.getD j (undef, [])).1 from fun j hj => HL.out.cell (HHD.out j hj))
          obtain ⟨XS, hXS⟩ : ∃ XS, (ps.take k).map (·.1) = XS := ⟨_, rfl⟩
          obtain ⟨YS, hYS⟩ : ∃ YS, (ps.drop k).map (·.1) = YS := ⟨_, rfl⟩
          have HXL := hid (show XS.length = k * 1 by rw [← hXS]; simp; omega)
          have HYL := hid (show YS.length = (ps.length - k) * 1 by rw [← hYS]; simp)
          have hsl : ∀ p ∈ ps, p.1.oneCell' = true := fun p hp => by obtain ⟨_, _, e, _⟩ := (HOS.out.ints p hp).shape; rw [e]; rfl
          have HXO := hid (show ∀ u ∈ XS, u.oneCell' = true by intro u hu; rw [← hXS] at hu; obtain ⟨p, hp, rfl⟩ := List.mem_map.1 hu; exact hsl p (List.mem_of_mem_take hp))
          have HYO := hid (show ∀ u ∈ YS, u.oneCell' = true by intro u hu; rw [← hYS] at hu; obtain ⟨p, hp, rfl⟩ := List.mem_map.1 hu; exact hsl p (List.mem_of_mem_drop hp))
          have hat : ∀ j u, (ps.map (·.1))[j]? = some u → wr.cell? ⟨g, j, none⟩ = some u := by
            intro j u hj
            have hj2 : j < ps.length := by
              rcases Nat.lt_or_ge j ps.length with h | h
              · exact h
              · rw [List.getElem?_eq_none (by simpa using h)] at hj; cases hj
            rw [HCL.out j hj2, ← hj]
            simp [hj2]
          have HNX := hid (show ∀ j u, XS[j]? = some u → (wr.alloc (.cells #[] 22)).cell? ((⟨g, 0, none⟩ : Addr).add j) = some u from fun j u hj => by
            rw [addr_add0]
            refine (Later.alloc wr _).cell (hat j u ?_)
            rw [← hXS, List.map_take, List.getElem?_take] at hj
            split at hj
            · exact hj
            · cases hj)
          have HINL := hid (show (insPs ps (.slice ua a.length uc, a)).length = k + 1 + (ps.length - k) by rw [(insPs_perm ps _).length_eq]; simp; omega)
          have HINM := hid (show (insPs ps (.slice ua a.length uc, a)).map (·.1) = XS ++ [.slice ua a.length uc] ++ YS by rw [HINS.out, ← hXS, ← hYS]; simp)
          have HLW := hid (show lo ≤ wr.heap.size from Nat.le_trans HLO.out HL.out.size)
          have hkc : (k : Int) ≤ (cg : Int) := by omega
          have hkp : (k : Int) ≤ (ps.length : Int) := by omega
          have hpc : (ps.length : Int) ≤ (cg : Int) := by omega
          have hk0 : (0 : Int) ≤ (k : Int) := by omega
          have hktn : ((k : Int)).toNat = k := by omega
          clear hsl
          go_wp2_with (at_builtin; refine wpList_append_own_at _ (by rfl) _ _ _ (by rfl) wr.heap.size 22 i0 (.slice none 0 0) 1 24 Try.underlying23 hi hz0 hz1 hz2 rfl (by omega) (.slice (some ⟨wr.heap.size, 0, none⟩) 0 0) 0 [] (by rfl) (by exact HOW.out) ⟨g, 0, none⟩ k cg XS (by rfl) (by exact HXL.out) HNX.out (fun u hu => HXO.out u hu) (by unfold maxLen; omega) (by omega) (by simp) ?_)
          intro v6 w6 hown6 hgrow6 _ _
          have HO6 := hid (show w6.ownsRow wr.heap.size 22 1 v6 k XS by simpa using hown6)
          have HL6 := hid (show Later wr w6 from (Later.alloc wr (.cells #[] 22)).grown hgrow6 (by simp) (fun b hb => Nat.le_of_eq (Option.some.inj hb)))
          have HW6 := hid HL6.out.size
          clear hown6 hgrow6 HOW HNX
          by_cases hcq : cg = k
          · have HNY := hid (show ∀ t u, YS[t]? = some u → wr.cell? ((⟨g, 0, none⟩ : Addr).add t) = some u from fun t u ht => by
              rw [List.getElem?_eq_none (by have := HYL.out; omega)] at ht; cases ht)
            clear hat hXS hYS
            go_wp2_with fail
            go_region_held3 (fun _ => True) (trivial) (first | (have hh := HW6; clear hh; refine step_append_atH _ (by rfl) _ _ _ (by rfl) wr.heap.size 22 i0 (.slice none 0 0) 1 24 Try.underlying23 hi hz0 hz1 hz2 rfl (by omega) v6 k XS (by rfl) (by exact (HO6.out.alloc (.cells #[Value.slice ua a.length uc] 22)).drew) _ _ _ [.slice ua a.length uc] (by rfl) (by rfl) (by intro j u hj; rw [World.cell?_drew]; exact World.news_of_block (cs := #[.slice ua a.length uc]) (t := 22) (fr := (0, 0)) (heap_alloc_new w6 _) j u hj) (fun u hu => by simp at hu; subst hu; rfl) (by unfold maxLen; omega) (by omega) (by have := HW6.out; simp; omega) ?_; intro v7 w7 hown7 hgrow7; clear HW6; have HO7 := hid hown7; have HL7 := hid (show Later wr w7 from ((HL6.out.trans (Later.alloc w6 (.cells #[Value.slice ua a.length uc] 22))).trans (Later.drew _)).grown hgrow7 (by have := HL6.out.size; simp; omega) (fun b hb => (HO6.out.lt b hb).1)); clear hown7 hgrow7) | (have hh := HO7; clear hh; refine step_append_atH _ (by rfl) _ _ _ (by rfl) wr.heap.size 22 i0 (.slice none 0 0) 1 24 Try.underlying23 hi hz0 hz1 hz2 rfl (by omega) _ (k + 1) (XS ++ [.slice ua a.length uc]) (by rfl) (by exact HO7.out) ⟨g, 0, none⟩ (ps.length - k) 0 YS (by rfl) (by exact HYL.out) (fun t u ht => HL7.out.cell (HNY.out t u ht)) (fun u hu => HYO.out u hu) (by unfold maxLen; omega) (by omega) (by have := HL7.out.size; omega) ?_; intro v8 w8 hown8 hgrow8; have HO8 := hid hown8; have HL8 := hid (show Later wr w8 from HL7.out.grown hgrow8 HL7.out.size (fun b hb => (HO7.out.lt b hb).1)); obtain ⟨a8, c8, rfl, _⟩ := ownsRow_shape hown8; clear hown8 hgrow8 HO7 HL7))
            go_wp2_with fail
            go_ret
            refine ⟨_, rfl, ?_, HL.out.trans HL8.out, fun h => absurd h HNI.out, fun _ b hb => Nat.le_trans HL.out.size (HO8.out.lt b hb).1⟩
            have e := (show OwnPs lo wr.heap.size wr _ ps from (HOS.out.later HL.out).wide (Nat.le_refl _) HL.out.size).insert ((HUS.out.later HL.out).wide (Nat.le_refl _) HL.out.size) HNE.out HL8.out (v' := .slice a8 (k + 1 + (ps.length - k)) c8) (by
              rw [HINL.out, HINM.out]
              exact ownsRow_base HO8.out HLW.out)
            unfold putPs
            rw [if_neg HNI.out]
            exact e
          · have HNY := hid (show ∀ t u, YS[t]? = some u → wr.cell? ((⟨g, k, none⟩ : Addr).add t) = some u from fun t u ht => by
              have h1 := hat (k + t) u (by rw [← hYS] at ht; rw [← ht]; simp)
              rw [← h1]
              congr 1
              unfold Addr.add
              by_cases h0 : t = 0 <;> simp [h0])
            clear hat hXS hYS
            go_wp2_with fail
            go_region_held3 (fun _ => True) (trivial) (first | (have hh := HW6; clear hh; refine step_append_atH _ (by rfl) _ _ _ (by rfl) wr.heap.size 22 i0 (.slice none 0 0) 1 24 Try.underlying23 hi hz0 hz1 hz2 rfl (by omega) v6 k XS (by rfl) (by exact (HO6.out.alloc (.cells #[Value.slice ua a.length uc] 22)).drew) _ _ _ [.slice ua a.length uc] (by rfl) (by rfl) (by intro j u hj; rw [World.cell?_drew]; exact World.news_of_block (cs := #[.slice ua a.length uc]) (t := 22) (fr := (0, 0)) (heap_alloc_new w6 _) j u hj) (fun u hu => by simp at hu; subst hu; rfl) (by unfold maxLen; omega) (by omega) (by have := HW6.out; simp; omega) ?_; intro v7 w7 hown7 hgrow7; clear HW6; have HO7 := hid hown7; have HL7 := hid (show Later wr w7 from ((HL6.out.trans (Later.alloc w6 (.cells #[Value.slice ua a.length uc] 22))).trans (Later.drew _)).grown hgrow7 (by have := HL6.out.size; simp; omega) (fun b hb => (HO6.out.lt b hb).1)); clear hown7 hgrow7) | (have hh := HO7; clear hh; refine step_append_atH _ (by rfl) _ _ _ (by rfl) wr.heap.size 22 i0 (.slice none 0 0) 1 24 Try.underlying23 hi hz0 hz1 hz2 rfl (by omega) _ (k + 1) (XS ++ [.slice ua a.length uc]) (by rfl) (by exact HO7.out) ⟨g, k, none⟩ (ps.length - k) (cg - k) YS (by rfl) (by exact HYL.out) (fun t u ht => HL7.out.cell (HNY.out t u ht)) (fun u hu => HYO.out u hu) (by unfold maxLen; omega) (by omega) (by have := HL7.out.size; omega) ?_; intro v8 w8 hown8 hgrow8; have HO8 := hid hown8; have HL8 := hid (show Later wr w8 from HL7.out.grown hgrow8 HL7.out.size (fun b hb => (HO7.out.lt b hb).1)); obtain ⟨a8, c8, rfl, _⟩ := ownsRow_shape hown8; clear hown8 hgrow8 HO7 HL7))
            go_wp2_with fail
            go_ret
            refine ⟨_, rfl, ?_, HL.out.trans HL8.out, fun h => absurd h HNI.out, fun _ b hb => Nat.le_trans HL.out.size (HO8.out.lt b hb).1⟩
            have e := (show OwnPs lo wr.heap.size wr _ ps from (HOS.out.later HL.out).wide (Nat.le_refl _) HL.out.size).insert ((HUS.out.later HL.out).wide (Nat.le_refl _) HL.out.size) HNE.out HL8.out (v' := .slice a8 (k + 1 + (ps.length - k)) c8) (by
              rw [HINL.out, HINM.out]
              exact ownsRow_base HO8.out HLW.out)
            unfold putPs
            rw [if_neg HNI.out]
            exact e
theorem huPut_any {lo : Nat} (v u : Value) (a : List Int) (ps : List Pr) (w : World) (hlo : lo ≤ w.heap.size) (hb : ps.length ≤ 1000000) (h : OwnPs lo w.heap.size w v ps) (hu : OwnInts lo w.heap.size w u a) (hne : ∀ p ∈ ps, NePr p (u, a)) :
    Calls Try.prog 39 #[v, u] w fun e w' => ∃ v', e = .returned v' ∧ OwnPs lo w'.heap.size w' v' (putPs ps (u, a)) ∧ Later w w' ∧ (inPs ps a → v' = v) :=
  (huPutN_any v u a ps w hlo hb h hu hne).mono fun _ _ ⟨v', h1, h2, h3, h4, _⟩ => ⟨v', h1, h2, h3, h4⟩


/-- The branches behind jumps at the first i indices, in order. -/
def upF (a : Int) (zs : List Int) : Nat → List (List Int)
  | 0 => []
  | i + 1 => match jumpL a zs i with
    | none => upF a zs i
    | some ys => if zs.getD i 0 < othL a zs i then putL (upF a zs i) ys else upF a zs i
theorem putL_len (L : List (List Int)) (a : List Int) : (putL L a).length ≤ L.length + 1 := by
  unfold putL
  split
  · omega
  · rw [List.length_append, List.length_cons, List.length_take, List.length_drop]; omega
theorem upF_len (a : Int) (zs : List Int) (i : Nat) : (upF a zs i).length ≤ i := by
  induction i with
  | zero => simp [upF]
  | succ i ih =>
    unfold upF
    split
    · omega
    · split
      · have := putL_len (upF a zs i) ‹_›; omega
      · omega
theorem upF_none {a : Int} {zs : List Int} {i : Nat} (h : jumpL a zs i = none) : upF a zs (i + 1) = upF a zs i := by
  show (match jumpL a zs i with | none => upF a zs i | some ys => if zs.getD i 0 < othL a zs i then putL (upF a zs i) ys else upF a zs i) = _
  rw [h]
theorem upF_some {a : Int} {zs ys : List Int} {i : Nat} (h : jumpL a zs i = some ys) : upF a zs (i + 1) = if zs.getD i 0 < othL a zs i then putL (upF a zs i) ys else upF a zs i := by
  show (match jumpL a zs i with | none => upF a zs i | some ys => if zs.getD i 0 < othL a zs i then putL (upF a zs i) ys else upF a zs i) = _
  rw [h]
theorem OwnInts.neOld {lo hi lo2 hi2 : Nat} {w w2 : World} {u v : Value} {x y : List Int} (h : OwnInts lo hi w u x) (h2 : OwnInts lo2 hi2 w2 v y) (hh : hi ≤ lo2) : NePr (u, x) (v, y) := by
  intro k hk hk2
  have h3 := h.2 k hk
  have h4 := (h2.1.lt k hk2).1
  omega
theorem OwnPs.none_ (lo hi : Nat) (w : World) : OwnPs lo hi w (.slice none 0 0) [] :=
  ⟨World.ownsRow_nil _ _ _ _, fun b hb => by simp [Value.ownBlock] at hb, fun p hp => by simp at hp, List.Pairwise.nil⟩

set_option maxRecDepth 20000 in
set_option maxHeartbeats 1000000 in
theorem huUp_any (v : Value) (zs : List Int) (a b : Int) (w : World) (hS : Sol zs a b) (h : IntsC w v zs) :
    Calls Try.prog 38 #[v, .int .i64 a] w fun e w' => ∃ v' ps, e = .returned v' ∧ OwnPs w.heap.size w'.heap.size w' v' ps ∧ ps.map (·.2) = upF a zs zs.length ∧ Later w w' := by
  have hlen := hS.hl
  obtain ⟨ad, c, rfl, hnc⟩ := h.addr (by omega)
  have H := hid h
  have HS := hid hS
  have HNC := hid hnc
  obtain ⟨_, _, e1, _, hcc⟩ := h.1
  simp only [Value.slice.injEq] at e1
  obtain ⟨rfl, _, rfl⟩ := e1
  have HCC := hid hcc
  have hn4 : zs.length ≤ 4 := by omega
  clear h hS hlen hnc hcc
  go_enter Try.func38, Try.ntmps38
  go_wp2_with fail
  go_loopw [5, 12] (fun o i wr => ∃ (k : Nat) (ps : List Pr), k ≤ zs.length ∧ i = .int .i64 k ∧ OwnPs w.heap.size wr.heap.size wr o ps ∧ ps.map (·.2) = upF a zs k ∧ Later w wr) (fun _ i _ => zs.length - (intOf i).toNat)
  case atStart => exact ⟨0, [], Nat.zero_le _, rfl, OwnPs.none_ _ _ _, rfl, Later.refl _⟩
  case round =>
    obtain ⟨k, ps, hk, rfl, hO, hU, hL⟩ := hrel
    have HO := hid hO
    have HU := hid hU
    have HL := hid hL
    have hpl : ps.length ≤ 4 := by have := upF_len a zs k; rw [← hU, List.length_map] at this; omega
    by_cases hlt : k < zs.length
    · have HK := hid hlt
      have hkz : (k : Int) < (zs.length : Int) := by omega
      obtain ⟨ad', e2, hcell⟩ := HCC.out k HK.out
      simp only [Option.some.injEq] at e2
      subst e2
      replace hcell := hL.cell hcell
      have HI := hid (H.out.later hL)
      obtain ⟨x, hx⟩ : ∃ x, zs.getD k 0 = x := ⟨_, rfl⟩
      have HX := hid hx
      rw [hx] at hcell
      clear hO hU hL hx
      cases hj : jumpL a zs k
      · have HJ := hid hj
        have HST := hid (upF_none hj)
        clear hj
        go_wp2_with fail
        refine (huJump_any zs a b k _ _ HK.out HS.out HI.out).mono ?_
        rintro e w2 ⟨v2, rfl, ho2, hL2⟩
        rw [HJ.out]
        have HO2 := hid ((HO.out.later hL2).wide (Nat.le_refl _) hL2.size)
        have HL2 := hid (HL.out.trans hL2)
        clear ho2 hL2 hcell
        go_wp2_with fail
        go_roundw
        case rel => exact ⟨k + 1, ps, hlt, by go_num, HO2.out, by rw [HST.out]; exact HU.out, HL2.out⟩
        case measure => simp [intOf]; omega
      · rename_i ys
        have HJ := hid hj
        have HST := hid (upF_some hj)
        clear hj
        go_wp2_with fail
        refine (huJump_any zs a b k _ _ HK.out HS.out HI.out).mono ?_
        rintro e w2 ⟨v2, rfl, ho2, hL2⟩
        rw [HJ.out] at ho2 ⊢
        have ho2' : OwnInts wr.heap.size w2.heap.size w2 v2 ys := ho2
        have HNE := hid (fun p (hp : p ∈ ps) => show NePr p (v2, ys) from (HO.out.ints p hp).neOld ho2' (Nat.le_refl _))
        have HV2 := hid (ho2'.wide HL.out.size (Nat.le_refl _))
        have HO2 := hid ((HO.out.later hL2).wide (Nat.le_refl _) hL2.size)
        have HI2 := hid (HI.out.later hL2)
        have HL2 := hid (HL.out.trans hL2)
        clear ho2 ho2' hL2 hcell
        go_wp2_with fail
        refine (huOther_sol zs a b k ad c _ HK.out HNC.out HS.out HI2.out.1).mono ?_
        rintro e w3 ⟨rfl, hL3⟩
        have HO3 := hid ((HO2.out.later hL3).wide (Nat.le_refl _) hL3.size)
        have HV3 := hid ((HV2.out.later hL3).wide (Nat.le_refl _) hL3.size)
        have HL3 := hid (HL2.out.trans hL3)
        obtain ⟨r, hr⟩ : ∃ r, othL a zs k = r := ⟨_, rfl⟩
        rw [HX.out, hr] at HST
        rw [hr]
        clear hL3 hr
        by_cases hxr : x < r
        · have hd : decide (x < r) = true := decide_eq_true hxr
          have HST2 := hid (HST.out.trans (if_pos hxr))
          clear hxr
          go_wp2_with fail
          refine (huPut_any _ v2 ys ps w3 HL3.out.size (by omega) HO3.out HV3.out HNE.out).mono ?_
          rintro e w4 ⟨v4, rfl, ho4, hL4, _⟩
          have HO4 := hid ho4
          have HL4 := hid (HL3.out.trans hL4)
          have HPM := hid (putPs_map ps (v2, ys))
          clear ho4 hL4
          go_wp2_with fail
          go_roundw
          case rel => exact ⟨k + 1, _, hlt, by go_num, HO4.out, by rw [HPM.out, HST2.out, HU.out], HL4.out⟩
          case measure => simp [intOf]; omega
        · have hd : decide (x < r) = false := decide_eq_false hxr
          have HST2 := hid (HST.out.trans (if_neg hxr))
          clear hxr
          go_wp2_with fail
          go_roundw
          case rel => exact ⟨k + 1, ps, hlt, by go_num, HO3.out, by rw [HST2.out]; exact HU.out, HL3.out⟩
          case measure => simp [intOf]; omega
    · have hkn : k = zs.length := by omega
      have HU2 := hid (show ps.map (·.2) = upF a zs zs.length by rw [← hkn]; exact HU.out)
      clear hO hU hL hkn
      go_wp2_with fail
      go_ret
      exact ⟨_, ps, rfl, HO.out, HU2.out, HL.out⟩
def brAns (zs : List Int) (a b : Int) : Option (List (List Int)) := if (givenB a b && solB zs a b) = true then some (upF a zs zs.length) else none
theorem befL_total : ∀ {xs ys : List Int}, befL xs ys = false → xs ≠ ys → befL ys xs = true := by
  intro xs
  induction xs with
  | nil =>
    intro ys h hne
    cases ys with
    | nil => exact absurd rfl hne
    | cons y ys => simp [befL] at h
  | cons x xs ih =>
    intro ys h hne
    cases ys with
    | nil => simp [befL]
    | cons y ys =>
      unfold befL at h ⊢
      by_cases hxy : x = y
      · subst hxy
        simp at h hne ⊢
        exact ih h hne
      · have hyx : y ≠ x := fun e => hxy e.symm
        simp [hxy] at h
        simp [hyx]; omega
def SortedB (L : List (List Int)) : Prop := L.Pairwise fun x y => befL x y = true
theorem SortedB.nodup {L : List (List Int)} (h : SortedB L) : L.Nodup :=
  List.Pairwise.imp (fun {x y} hxy => by intro e; subst e; rw [befL_irr] at hxy; cases hxy) h
theorem takeW_all (L : List (List Int)) (a x : List Int) (hx : x ∈ L.takeWhile (fun l => befL l a)) : befL x a = true := by
  induction L with
  | nil => simp at hx
  | cons l L ih =>
    rw [List.takeWhile_cons] at hx
    split at hx
    · rename_i hl
      rcases List.mem_cons.1 hx with rfl | hx
      · exact hl
      · exact ih hx
    · simp at hx
/-- The place of an insertion parts a row into what is before and what is not. -/
theorem putL_parts (L : List (List Int)) (a : List Int) : ∃ A B, L = A ++ B ∧ L.take (putK L a) = A ∧ L.drop (putK L a) = B ∧ putK L a = A.length ∧ (∀ x ∈ A, befL x a = true) ∧ (∀ h t, B = h :: t → befL h a = false) := by
  have e : L.takeWhile (fun l => befL l a) ++ L.dropWhile (fun l => befL l a) = L := List.takeWhile_append_dropWhile
  have ht : L.take (putK L a) = L.takeWhile (fun l => befL l a) := by
    have h1 : L.take (putK L a) = (L.takeWhile (fun l => befL l a) ++ L.dropWhile (fun l => befL l a)).take (L.takeWhile (fun l => befL l a)).length := by rw [e]; rfl
    rw [h1, List.take_left]
  have hd : L.drop (putK L a) = L.dropWhile (fun l => befL l a) := by
    have h1 : L.drop (putK L a) = (L.takeWhile (fun l => befL l a) ++ L.dropWhile (fun l => befL l a)).drop (L.takeWhile (fun l => befL l a)).length := by rw [e]; rfl
    rw [h1, List.drop_left]
  refine ⟨_, _, e.symm, ht, hd, rfl, fun x hx => ?_, fun h t hB => ?_⟩
  · exact takeW_all L a x hx
  · have hh := List.head?_dropWhile_not (fun l => befL l a) L
    rw [hB] at hh
    simpa using hh
theorem mem_putL (L : List (List Int)) (a x : List Int) : x ∈ putL L a ↔ x ∈ L ∨ x = a := by
  obtain ⟨A, B, hL, ht, hd, hk, _, _⟩ := putL_parts L a
  unfold putL
  split
  · rename_i hc
    have ha : a ∈ L := by
      have h2 := hc.1
      rw [List.getD_eq_getElem?_getD, List.getElem?_eq_getElem hc.2, Option.getD_some] at h2
      rw [← h2]; exact List.getElem_mem _
    constructor
    · exact .inl
    · rintro (h | rfl)
      · exact h
      · exact ha
  · rw [ht, hd, hL]
    simp only [List.mem_append, List.mem_cons]
    constructor
    · rintro (h | rfl | h)
      · exact .inl (.inl h)
      · exact .inr rfl
      · exact .inl (.inr h)
    · rintro ((h | h) | rfl)
      · exact .inl h
      · exact .inr (.inr h)
      · exact .inr (.inl rfl)
theorem sorted_putL {L : List (List Int)} (a : List Int) (h : SortedB L) : SortedB (putL L a) := by
  obtain ⟨A, B, hL, ht, hd, hk, hA, hB⟩ := putL_parts L a
  unfold putL
  split
  · exact h
  · rename_i hc
    rw [ht, hd]
    unfold SortedB at h ⊢
    rw [hL, List.pairwise_append] at h
    obtain ⟨p1, p2, p3⟩ := h
    refine List.pairwise_append.2 ⟨p1, List.pairwise_cons.2 ⟨fun b hb => ?_, p2⟩, fun x hx y hy => ?_⟩
    · cases hBB : B with
      | nil => rw [hBB] at hb; simp at hb
      | cons u t =>
        have hu := hB u t hBB
        have hne : u ≠ a := by
          intro e
          apply hc
          rw [hk]
          refine ⟨?_, by rw [hL, hBB]; simp⟩
          rw [List.getD_eq_getElem?_getD, hL, List.getElem?_append_right (Nat.le_refl _), hBB]
          simpa using e
        have hau := befL_total hu hne
        rw [hBB] at hb p2
        rcases List.mem_cons.1 hb with rfl | hb
        · exact hau
        · exact befL_trans hau ((List.pairwise_cons.1 p2).1 b hb)
    · rcases List.mem_cons.1 hy with rfl | hy
      · exact hA x hx
      · exact p3 x hx y hy
theorem putL_old {L : List (List Int)} {a : List Int} (h : SortedB L) (ha : a ∈ L) : putL L a = L := by
  obtain ⟨A, B, hL, ht, hd, hk, hA, hB⟩ := putL_parts L a
  unfold putL
  refine if_pos ?_
  rw [hL] at ha
  rcases List.mem_append.1 ha with h1 | h1
  · have := hA a h1
    rw [befL_irr] at this
    cases this
  · cases hBB : B with
    | nil => rw [hBB] at h1; simp at h1
    | cons u t =>
      have hu := hB u t hBB
      rw [hBB] at h1
      rcases List.mem_cons.1 h1 with rfl | h1
      · rw [hk]
        refine ⟨?_, by rw [hL, hBB]; simp⟩
        rw [List.getD_eq_getElem?_getD, hL, List.getElem?_append_right (Nat.le_refl _), hBB]
        simp
      · unfold SortedB at h
        rw [hL, List.pairwise_append, hBB] at h
        have := (List.pairwise_cons.1 h.2.1).1 a h1
        rw [hu] at this
        cases this
theorem putL_new {L : List (List Int)} {a : List Int} (ha : a ∉ L) : (putL L a).length = L.length + 1 := by
  obtain ⟨A, B, hL, ht, hd, hk, hA, hB⟩ := putL_parts L a
  unfold putL
  split
  · rename_i hc
    exfalso
    apply ha
    have h2 := hc.1
    rw [List.getD_eq_getElem?_getD, List.getElem?_eq_getElem hc.2, Option.getD_some] at h2
    rw [← h2]; exact List.getElem_mem _
  · rw [ht, hd, hL, List.length_append, List.length_cons, List.length_append]; omega
/-- One solution leads to another within a bound. -/
def stepT (a most : Int) (zs ys : List Int) : Prop := ys ∈ upF a zs zs.length ∧ ys.getD 0 0 ≤ most
inductive Reach (a most : Int) (s : List Int) : List Int → Prop
  | base : Reach a most s s
  | step {zs ys : List Int} : Reach a most s zs → stepT a most zs ys → Reach a most s ys
def TreeRes (a most : Int) (s : List Int) : Option (List (List Int)) → Prop
  | some L => SortedB L ∧ (∀ x, x ∈ L ↔ Reach a most s x) ∧ L.length ≤ 500
  | none => ∃ L : List (List Int), L.Nodup ∧ 500 < L.length ∧ ∀ x ∈ L, Reach a most s x
theorem sorted_same : ∀ {L M : List (List Int)}, SortedB L → SortedB M → (∀ x, x ∈ L ↔ x ∈ M) → L = M := by
  intro L
  induction L with
  | nil =>
    intro M _ _ h
    cases M with
    | nil => rfl
    | cons m M => have := (h m).2 (by simp); simp at this
  | cons l L ih =>
    intro M hL hM h
    cases M with
    | nil => have := (h l).1 (by simp); simp at this
    | cons m M =>
      obtain ⟨l1, l2⟩ := List.pairwise_cons.1 hL
      obtain ⟨m1, m2⟩ := List.pairwise_cons.1 hM
      have hlm : l = m := by
        apply Classical.byContradiction
        intro hne
        have h1 : befL m l = true := by
          rcases List.mem_cons.1 ((h l).1 (by simp)) with e | e
          · exact absurd e hne
          · exact m1 l e
        have h2 : befL l m = true := by
          rcases List.mem_cons.1 ((h m).2 (by simp)) with e | e
          · exact absurd e.symm hne
          · exact l1 m e
        have := befL_trans h1 h2
        rw [befL_irr] at this
        cases this
      subst hlm
      rw [ih l2 m2 fun x => ?_]
      have hx := h x
      simp only [List.mem_cons] at hx
      by_cases e : x = l
      · subst e
        constructor
        · intro h'; have := l1 x h'; rw [befL_irr] at this; cases this
        · intro h'; have := m1 x h'; rw [befL_irr] at this; cases this
      · simpa [e] using hx
theorem nodup_le : ∀ {M L : List (List Int)}, M.Nodup → (∀ x ∈ M, x ∈ L) → M.length ≤ L.length := by
  intro M
  induction M with
  | nil => intro L _ _; simp
  | cons m M ih =>
    intro L hM h
    obtain ⟨h1, h2⟩ := List.nodup_cons.1 hM
    have hm := h m (by simp)
    have := ih (L := L.erase m) h2 fun x hx => (List.mem_erase_of_ne (by intro e; subst e; exact h1 hx)).2 (h x (by simp [hx]))
    rw [List.length_erase_of_mem hm] at this
    have := List.length_pos_of_mem hm
    simp; omega
theorem treeRes_one {a most : Int} {s : List Int} {o p : Option (List (List Int))} (h : TreeRes a most s o) (k : TreeRes a most s p) : o = p := by
  cases o with
  | none =>
    obtain ⟨L, h1, h2, h3⟩ := h
    cases p with
    | none => rfl
    | some M =>
      obtain ⟨_, k2, k3⟩ := k
      have := nodup_le h1 fun x hx => (k2 x).2 (h3 x hx)
      omega
  | some M =>
    obtain ⟨k1, k2, k3⟩ := h
    cases p with
    | none =>
      obtain ⟨L, h1, h2, h3⟩ := k
      have := nodup_le h1 fun x hx => (k2 x).2 (h3 x hx)
      omega
    | some N =>
      obtain ⟨n1, n2, _⟩ := k
      rw [sorted_same k1 n1 fun x => (k2 x).trans (n2 x).symm]
theorem upF_from {a : Int} {zs ys : List Int} : ∀ {i : Nat}, ys ∈ upF a zs i → ∃ j, j < i ∧ jumpL a zs j = some ys := by
  intro i
  induction i with
  | zero => intro h; simp [upF] at h
  | succ i ih =>
    intro h
    cases hj : jumpL a zs i with
    | none =>
      rw [upF_none hj] at h
      obtain ⟨j, h1, h2⟩ := ih h
      exact ⟨j, by omega, h2⟩
    | some us =>
      rw [upF_some hj] at h
      split at h
      · rcases (mem_putL _ _ _).1 h with h | rfl
        · obtain ⟨j, h1, h2⟩ := ih h
          exact ⟨j, by omega, h2⟩
        · exact ⟨i, by omega, hj⟩
      · obtain ⟨j, h1, h2⟩ := ih h
        exact ⟨j, by omega, h2⟩
theorem Reach.sol {a most b : Int} {s x : List Int} (hs : Sol s a b) (h : Reach a most s x) : Sol x a b := by
  induction h with
  | base => exact hs
  | step _ hst ih =>
    obtain ⟨j, h1, h2⟩ := upF_from hst.1
    exact ih.jump h1 h2


theorem getD_atT (L : List (List Int)) (i : Nat) (h : i < L.length) : L.getD i [] = L[i] := by simp [h]
theorem reach_sub {a most : Int} {s : List Int} {P : List Int → Prop} (hs : P s) (hc : ∀ x, P x → ∀ y, stepT a most x y → P y) : ∀ x, Reach a most s x → P x := by
  intro x h
  induction h with
  | base => exact hs
  | step _ hst ih => exact hc _ ih _ hst
/-- In the model: what is found, what of the front is left, what was found in this round. -/
structure TrI (a most : Int) (s : List Int) (out rest nxt : List (List Int)) : Prop where
  srt : SortedB out
  rch : ∀ x ∈ out, Reach a most s x
  beg : s ∈ out
  sub : ∀ x, x ∈ rest ∨ x ∈ nxt → x ∈ out
  cls : ∀ x ∈ out, x ∉ rest → x ∉ nxt → ∀ y, stepT a most x y → y ∈ out
/-- .. and while one solution c of the front is gone through: its first j branches are in. -/
structure TrJ (a most : Int) (s c : List Int) (out rest nxt : List (List Int)) (j : Nat) : Prop where
  srt : SortedB out
  rch : ∀ x ∈ out, Reach a most s x
  beg : s ∈ out
  cur : c ∈ out
  sub : ∀ x, x ∈ rest ∨ x ∈ nxt → x ∈ out
  cls : ∀ x ∈ out, x ∉ rest → x ∉ nxt → x ≠ c → ∀ y, stepT a most x y → y ∈ out
  fst : ∀ i, i < j → i < (upF a c c.length).length → ((upF a c c.length).getD i []).getD 0 0 ≤ most → (upF a c c.length).getD i [] ∈ out
theorem TrI.start (a most : Int) (s : List Int) : TrI a most s [s] [s] [] :=
  ⟨List.pairwise_singleton _ _, fun x hx => by rw [List.mem_singleton.1 hx]; exact .base, by simp, fun x hx => by simpa using hx, fun x hx h => absurd hx h⟩
theorem TrI.turn {a most : Int} {s : List Int} {out nxt : List (List Int)} (h : TrI a most s out [] nxt) : TrI a most s out nxt [] :=
  ⟨h.srt, h.rch, h.beg, fun x hx => h.sub x (by rcases hx with h | h; exact .inr h; simp at h), fun x hx h1 _ => h.cls x hx (by simp) h1⟩
theorem TrI.take {a most : Int} {s c : List Int} {out rest nxt : List (List Int)} (h : TrI a most s out (c :: rest) nxt) : TrJ a most s c out rest nxt 0 :=
  ⟨h.srt, h.rch, h.beg, h.sub c (.inl (by simp)), fun x hx => h.sub x (by rcases hx with h | h; exact .inl (by simp [h]); exact .inr h), fun x hx h1 h2 h3 => h.cls x hx (by simp [h3, h1]) h2, fun i hi => absurd hi (Nat.not_lt_zero i)⟩
theorem TrJ.drop {a most : Int} {s c : List Int} {out rest nxt : List (List Int)} (h : TrJ a most s c out rest nxt (upF a c c.length).length) : TrI a most s out rest nxt := by
  refine ⟨h.srt, h.rch, h.beg, h.sub, fun x hx h1 h2 y hy => ?_⟩
  by_cases e : x = c
  · subst e
    obtain ⟨hm, hle⟩ := hy
    obtain ⟨i, hi, rfl⟩ := List.getElem_of_mem hm
    have := h.fst i hi hi
    rw [getD_atT _ i hi] at this
    exact this hle
  · exact h.cls x hx h1 h2 e y hy
theorem TrJ.skip {a most : Int} {s c : List Int} {out rest nxt : List (List Int)} {j : Nat} (h : TrJ a most s c out rest nxt j) (hn : ¬ ((upF a c c.length).getD j []).getD 0 0 ≤ most) : TrJ a most s c out rest nxt (j + 1) :=
  ⟨h.srt, h.rch, h.beg, h.cur, h.sub, h.cls, fun i hi hl hle => by
    by_cases e : i = j
    · subst e; exact absurd hle hn
    · exact h.fst i (by omega) hl hle⟩
theorem TrJ.old {a most : Int} {s c : List Int} {out rest nxt : List (List Int)} {j : Nat} (h : TrJ a most s c out rest nxt j) (hm : (upF a c c.length).getD j [] ∈ out) : TrJ a most s c out rest nxt (j + 1) :=
  ⟨h.srt, h.rch, h.beg, h.cur, h.sub, h.cls, fun i hi hl hle => by
    by_cases e : i = j
    · subst e; exact hm
    · exact h.fst i (by omega) hl hle⟩
theorem TrJ.new {a most : Int} {s c : List Int} {out rest nxt : List (List Int)} {j : Nat} (h : TrJ a most s c out rest nxt j) (hj : j < (upF a c c.length).length) (hle : ((upF a c c.length).getD j []).getD 0 0 ≤ most) :
    TrJ a most s c (putL out ((upF a c c.length).getD j [])) rest (nxt ++ [(upF a c c.length).getD j []]) (j + 1) := by
  have hmem : (upF a c c.length).getD j [] ∈ upF a c c.length := by
    rw [getD_atT _ j hj]; exact List.getElem_mem _
  refine ⟨sorted_putL _ h.srt, fun x hx => ?_, (mem_putL _ _ _).2 (.inl h.beg), (mem_putL _ _ _).2 (.inl h.cur), fun x hx => ?_, fun x hx h1 h2 h3 y hy => ?_, fun i hi hl hle' => ?_⟩
  · rcases (mem_putL _ _ _).1 hx with hx | rfl
    · exact h.rch x hx
    · exact .step (h.rch c h.cur) ⟨hmem, hle⟩
  · rcases hx with hx | hx
    · exact (mem_putL _ _ _).2 (.inl (h.sub x (.inl hx)))
    · rcases List.mem_append.1 hx with hx | hx
      · exact (mem_putL _ _ _).2 (.inl (h.sub x (.inr hx)))
      · exact (mem_putL _ _ _).2 (.inr (List.mem_singleton.1 hx))
  · rw [List.mem_append, List.mem_singleton, not_or] at h2
    rcases (mem_putL _ _ _).1 hx with hx | e
    · exact (mem_putL _ _ _).2 (.inl (h.cls x hx h1 h2.1 h3 y hy))
    · exact absurd e h2.2
  · by_cases e : i = j
    · subst e; exact (mem_putL _ _ _).2 (.inr rfl)
    · exact (mem_putL _ _ _).2 (.inl (h.fst i (by omega) hl hle'))
theorem TrI.done {a most : Int} {s : List Int} {out : List (List Int)} (h : TrI a most s out [] []) (hl : out.length ≤ 500) : TreeRes a most s (some out) :=
  ⟨h.srt, fun x => ⟨h.rch x, reach_sub (P := fun x => x ∈ out) h.beg (fun x hx y hy => h.cls x hx (by simp) (by simp) y hy) x⟩, hl⟩
theorem tree_many {a most : Int} {s : List Int} {out : List (List Int)} (hn : out.Nodup) (hr : ∀ x ∈ out, Reach a most s x) (hl : 500 < out.length) : TreeRes a most s none := ⟨out, hn, hl, hr⟩
/-- In the program: a row that is gone through while it grows. -/
structure TrP (a most : Int) (s : List Int) (T : List (List Int)) (k : Nat) : Prop where
  nod : T.Nodup
  rch : ∀ x ∈ T, Reach a most s x
  beg : s ∈ T
  cls : ∀ i, i < k → i < T.length → ∀ y, stepT a most (T.getD i []) y → y ∈ T
structure TrQ (a most : Int) (s : List Int) (U : List (List Int)) (T : List (List Int)) (k j : Nat) : Prop where
  lt : k < T.length
  all : TrP a most s T k
  mem : ∀ y, y ∈ U ↔ y ∈ upF a (T.getD k []) (T.getD k []).length
  fst : ∀ i, i < j → i < U.length → (U.getD i []).getD 0 0 ≤ most → U.getD i [] ∈ T
theorem TrP.start (a most : Int) (s : List Int) : TrP a most s [s] 0 :=
  ⟨by simp, fun x hx => by rw [List.mem_singleton.1 hx]; exact .base, by simp, fun i hi => absurd hi (Nat.not_lt_zero i)⟩
theorem TrP.take {a most : Int} {s : List Int} {T U : List (List Int)} {k : Nat} (h : TrP a most s T k) (hk : k < T.length) (hU : ∀ y, y ∈ U ↔ y ∈ upF a (T.getD k []) (T.getD k []).length) : TrQ a most s U T k 0 := ⟨hk, h, hU, fun i hi => absurd hi (Nat.not_lt_zero i)⟩
theorem TrQ.skip {a most : Int} {s : List Int} {T U : List (List Int)} {k j : Nat} (h : TrQ a most s U T k j) (hn : ¬ (U.getD j []).getD 0 0 ≤ most) : TrQ a most s U T k (j + 1) :=
  ⟨h.lt, h.all, h.mem, fun i hi hl hle => by
    by_cases e : i = j
    · subst e; exact absurd hle hn
    · exact h.fst i (by omega) hl hle⟩
theorem TrQ.old {a most : Int} {s : List Int} {T U : List (List Int)} {k j : Nat} (h : TrQ a most s U T k j) (hm : U.getD j [] ∈ T) : TrQ a most s U T k (j + 1) :=
  ⟨h.lt, h.all, h.mem, fun i hi hl hle => by
    by_cases e : i = j
    · subst e; exact hm
    · exact h.fst i (by omega) hl hle⟩
theorem getD_snoc {T : List (List Int)} {k : Nat} (y : List Int) (hk : k < T.length) : (T ++ [y]).getD k [] = T.getD k [] := by
  rw [List.getD_eq_getElem?_getD, List.getD_eq_getElem?_getD, List.getElem?_append_left hk]
theorem TrQ.new {a most : Int} {s : List Int} {T U : List (List Int)} {k j : Nat} (h : TrQ a most s U T k j) (hj : j < U.length) (hle : (U.getD j []).getD 0 0 ≤ most) (hm : U.getD j [] ∉ T) : TrQ a most s U (T ++ [U.getD j []]) k (j + 1) := by
  have hmem : U.getD j [] ∈ U := by
    rw [getD_atT _ j hj]; exact List.getElem_mem _
  have hc : T.getD k [] ∈ T := by rw [getD_atT _ k h.lt]; exact List.getElem_mem _
  have hf := h.fst
  have hl := h.lt
  have hM := h.mem
  obtain ⟨n1, n2, n3, n4⟩ := h.all
  have hmu := (hM _).1 hmem
  generalize hy : U.getD j [] = y at *
  refine ⟨by rw [List.length_append]; omega, ⟨?_, fun x hx => ?_, by simp [n3], fun i hi hil z hz => ?_⟩, fun z => by rw [getD_snoc y hl]; exact hM z, fun i hi hil hle' => ?_⟩
  · rw [List.nodup_append]
    exact ⟨n1, by simp, fun x hx z hz => by rw [List.mem_singleton.1 hz]; intro e; subst e; exact hm hx⟩
  · rcases List.mem_append.1 hx with hx | hx
    · exact n2 x hx
    · rw [List.mem_singleton.1 hx]; exact .step (n2 _ hc) ⟨hmu, hle⟩
  · rw [getD_snoc y (by omega)] at hz
    exact List.mem_append.2 (.inl (n4 i hi (by omega) z hz))
  · by_cases e : i = j
    · subst e; rw [hy]; simp
    · exact List.mem_append.2 (.inl (hf i (by omega) hil hle'))
theorem TrQ.drop {a most : Int} {s : List Int} {T U : List (List Int)} {k : Nat} (h : TrQ a most s U T k U.length) : TrP a most s T (k + 1) := by
  refine ⟨h.all.nod, h.all.rch, h.all.beg, fun i hi hl y hy => ?_⟩
  by_cases e : i = k
  · subst e
    obtain ⟨hm, hle⟩ := hy
    obtain ⟨j, hj, rfl⟩ := List.getElem_of_mem ((h.mem y).2 hm)
    have := h.fst j hj hj
    rw [getD_atT _ j hj] at this
    exact this hle
  · exact h.all.cls i (by omega) hl y hy
/-- .. and sorted when all is gone through. -/
theorem TrP.done {a most : Int} {s : List Int} {T M : List (List Int)} (h : TrP a most s T T.length) (hl : T.length ≤ 500) (hp : M.Perm T) (hs : SortedB M) : TreeRes a most s (some M) := by
  refine ⟨hs, fun x => ?_, by rw [hp.length_eq]; exact hl⟩
  rw [hp.mem_iff]
  refine ⟨h.rch x, reach_sub (P := fun x => x ∈ T) h.beg (fun x hx y hy => ?_) x⟩
  obtain ⟨i, hi, rfl⟩ := List.getElem_of_mem hx
  refine h.cls i hi hi y ?_
  rw [getD_atT _ i hi]
  exact hy


def cmpI (x y : Int) : Int := if x < y then -1 else if y < x then 1 else 0
def cmpLL : List Int → List Int → Int
  | [], [] => 0
  | [], _ :: _ => -1
  | _ :: _, [] => 1
  | x :: xs, y :: ys => if cmpI x y = 0 then cmpLL xs ys else cmpI x y
theorem cmpLL_drop {xs ys : List Int} {k : Nat} (h1 : k < xs.length) (h2 : k < ys.length) :
    cmpLL (xs.drop k) (ys.drop k) = if cmpI (xs.getD k 0) (ys.getD k 0) = 0 then cmpLL (xs.drop (k + 1)) (ys.drop (k + 1)) else cmpI (xs.getD k 0) (ys.getD k 0) := by
  rw [List.drop_eq_getElem_cons h1, List.drop_eq_getElem_cons h2]
  simp only [cmpLL, List.getD_eq_getElem?_getD, List.getElem?_eq_getElem h1, List.getElem?_eq_getElem h2, Option.getD_some]
theorem isNaNC_any (x : Int) (w : World) : Calls Try.prog 157 #[.int .i64 x] w fun e w' => e = .returned (.bool false) ∧ w = w' := by
  go_enter Try.func157, Try.ntmps157
  go_wp2_with fail
  go_ret
  exact ⟨by simp, rfl⟩
theorem cmpInt_any (x y : Int) (w : World) : Calls Try.prog 129 #[.int .i64 x, .int .i64 y] w fun e w' => e = .returned (.int .i64 (cmpI x y)) ∧ w = w' := by
  by_cases h1 : x < y
  · have HE := hid (show cmpI x y = -1 by unfold cmpI; rw [if_pos h1])
    rw [HE.out]
    go_enter Try.func129, Try.ntmps129
    go_wp2_with (go_at_call 157; refine (isNaNC_any _ _).mono ?_; rintro e w2 ⟨rfl, rfl⟩)
    go_ret
    exact ⟨rfl, rfl⟩
  · by_cases h2 : y < x
    · have HE := hid (show cmpI x y = 1 by unfold cmpI; rw [if_neg h1, if_pos h2])
      rw [HE.out]
      go_enter Try.func129, Try.ntmps129
      go_wp2_with (go_at_call 157; refine (isNaNC_any _ _).mono ?_; rintro e w2 ⟨rfl, rfl⟩)
      go_ret
      exact ⟨rfl, rfl⟩
    · have HE := hid (show cmpI x y = 0 by unfold cmpI; rw [if_neg h1, if_neg h2])
      rw [HE.out]
      go_enter Try.func129, Try.ntmps129
      go_wp2_with (go_at_call 157; refine (isNaNC_any _ _).mono ?_; rintro e w2 ⟨rfl, rfl⟩)
      go_ret
      exact ⟨rfl, rfl⟩

set_option maxRecDepth 20000 in
set_option maxHeartbeats 2000000 in
theorem compareL_any (v u : Value) (xs ys : List Int) (n : Nat) (w : World) (hx : xs.length = n) (hy : ys.length = n) (h1 : Ints w v xs) (h2 : Ints w u ys) :
    Calls Try.prog 92 #[v, u] w fun e w' => e = .returned (.int .i64 (cmpLL xs ys)) ∧ w = w' := by
  obtain ⟨a, ca, rfl, hl, hc⟩ := h1
  obtain ⟨b, cb, rfl, _, hd⟩ := h2
  have HC := hid hc
  have HD := hid hd
  have HDR := hid (fun k (h : k < n) => cmpLL_drop (xs := xs) (ys := ys) (k := k) (by omega) (by omega))
  have HZ := hid (show cmpLL (xs.drop n) (ys.drop n) = 0 by rw [List.drop_of_length_le (by omega), List.drop_of_length_le (by omega)]; rfl)
  obtain ⟨o, ho⟩ : ∃ o, cmpLL xs ys = o := ⟨_, rfl⟩
  rw [ho]
  have HO0 := hid (show cmpLL (xs.drop 0) (ys.drop 0) = o from ho)
  rw [hx] at hl HC ⊢
  rw [hy] at HD ⊢
  clear hc hd ho hx hy
  go_enter Try.func92, Try.ntmps92
  go_wp2_with fail
  go_loop [11] (fun i => ∃ k : Nat, k ≤ n ∧ i = .int .i64 k ∧ cmpLL (xs.drop k) (ys.drop k) = o) (fun i => n - (intOf i).toNat)
  case atStart => exact ⟨0, Nat.zero_le _, rfl, HO0.out⟩
  case round =>
    obtain ⟨k, hk, rfl, hpre⟩ := hrel
    have HP := hid hpre
    clear hpre
    by_cases hlt : k < n
    · have hltI : (k : Int) < (n : Int) := by omega
      obtain ⟨ad, rfl, hcell⟩ := HC.out k hlt
      obtain ⟨bd, rfl, hdell⟩ := HD.out k hlt
      have HK := hid (HDR.out k hlt)
      rw [HP.out] at HK
      obtain ⟨x, hx⟩ : ∃ x, xs.getD k 0 = x := ⟨_, rfl⟩
      obtain ⟨y, hy⟩ : ∃ y, ys.getD k 0 = y := ⟨_, rfl⟩
      rw [hx] at hcell HK
      rw [hy] at hdell HK
      clear hx hy
      obtain ⟨c, hcc⟩ : ∃ c, cmpI x y = c := ⟨_, rfl⟩
      have HCI := hid (fun w' => show Calls Try.prog 129 #[.int .i64 x, .int .i64 y] w' fun e w2 => e = .returned (.int .i64 c) ∧ w' = w2 by rw [← hcc]; exact cmpInt_any x y w')
      rw [hcc] at HK
      clear hcc
      by_cases h0 : c = 0
      · have HN := hid (HK.out.trans (if_pos h0)).symm
        have hne : (c != 0) = false := by simp [h0]
        clear h0
        go_wp2_with (go_at_call 129; refine (HCI.out _).mono ?_; rintro e w2 ⟨rfl, rfl⟩)
        go_round
        case rel => exact ⟨k + 1, hlt, by go_num, HN.out⟩
        case measure => simp [intOf]; omega
      · have HN := hid (HK.out.trans (if_neg h0)).symm
        have hne : (c != 0) = true := by simp [h0]
        clear h0
        go_wp2_with (go_at_call 129; refine (HCI.out _).mono ?_; rintro e w2 ⟨rfl, rfl⟩)
        go_ret
        exact ⟨ret_int HN.out, rfl⟩
    · obtain rfl : k = n := by omega
      have HN := hid (HP.out.symm.trans HZ.out)
      go_wp2_with fail
      go_ret
      exact ⟨ret_int HN.out.symm, rfl⟩


def soI (t : So) : List Int := [t.1, t.2.1, t.2.2.1, t.2.2.2]
def cmpSo (t u : So) : Int := cmpLL (soI t) (soI u)
theorem cmpI_cases (x y : Int) : (x < y ∧ cmpI x y = -1) ∨ (x = y ∧ cmpI x y = 0) ∨ (y < x ∧ cmpI x y = 1) := by
  unfold cmpI
  by_cases h : x < y
  · exact .inl ⟨h, if_pos h⟩
  · by_cases h2 : y < x
    · exact .inr (.inr ⟨h2, by rw [if_neg h, if_pos h2]⟩)
    · exact .inr (.inl ⟨by omega, by rw [if_neg h, if_neg h2]⟩)
theorem cmpLL_bef : ∀ {xs ys : List Int}, cmpLL xs ys < 0 ↔ befL xs ys = true := by
  intro xs
  induction xs with
  | nil =>
    intro ys
    cases ys with
    | nil => simp [cmpLL, befL]
    | cons y ys => simp [cmpLL, befL]
  | cons x xs ih =>
    intro ys
    cases ys with
    | nil => simp [cmpLL, befL]
    | cons y ys =>
      rcases cmpI_cases x y with ⟨h, e⟩ | ⟨h, e⟩ | ⟨h, e⟩
      · have hne : x ≠ y := by omega
        simp [cmpLL, befL, e, hne, h]
      · subst h
        simp only [cmpLL, befL, e, if_pos]
        simpa using ih
      · have hne : x ≠ y := by omega
        have hnl : ¬ x < y := by omega
        simp [cmpLL, befL, e, hne, hnl]
theorem ltSo (t u : So) : ltOf cmpSo t u = befL (soI t) (soI u) := by
  unfold ltOf cmpSo
  cases h : befL (soI t) (soI u)
  · exact decide_eq_false (fun hc => by rw [cmpLL_bef.1 hc] at h; cases h)
  · exact decide_eq_true (cmpLL_bef.2 h)
theorem soI_inj {t u : So} (h : soI t = soI u) : t = u := by
  obtain ⟨a, b, c, d⟩ := t
  obtain ⟨p, q, r, s⟩ := u
  simp only [soI, List.cons.injEq, and_true] at h
  obtain ⟨rfl, rfl, rfl, rfl⟩ := h
  rfl
theorem swoSo : Go.Sort.SWO (ltOf cmpSo) := by
  refine ⟨fun x => ?_, fun x y z h1 h2 => ?_, fun x y z h1 h2 => ?_⟩
  · rw [ltSo]; exact befL_irr _
  · rw [ltSo] at *; exact befL_trans h1 h2
  · rw [ltSo] at *
    cases h : befL (soI x) (soI z)
    · rfl
    · by_cases e : soI x = soI y
      · rw [e] at h; rw [h2] at h; cases h
      · rw [befL_trans (befL_total h1 e) h] at h2; cases h2
theorem totSo (x y : So) (h1 : ltOf cmpSo x y = false) (h2 : ltOf cmpSo y x = false) : x = y := by
  rw [ltSo] at h1 h2
  apply Classical.byContradiction
  intro hne
  have := befL_total h1 (fun e => hne (soI_inj e))
  rw [h2] at this; cases this
def sortQ (L : List So) : List So := L.mergeSort fun x y => !(ltOf cmpSo) y x
/-- A sorted row of different solutions of as many parts. -/
theorem sortQ_sorted {L : List So} (hn : L.Nodup) (hz : (∀ s ∈ L, s.2.2.2 = 0) ∨ ∀ s ∈ L, s.2.2.2 ≠ 0) : SortedB ((sortQ L).map soL) := by
  have hp : (sortQ L).Perm L := List.mergeSort_perm _ _
  have hs : (sortQ L).Pairwise fun x y => (!(ltOf cmpSo) y x) = true := List.pairwise_mergeSort (fun a b c h1 h2 => by
      have g1 : ltOf cmpSo b a = false := by simpa using h1
      have g2 : ltOf cmpSo c b = false := by simpa using h2
      have := swoSo.ntrans c b a g2 g1
      simp [this]) (fun a b => by
      cases h : ltOf cmpSo a b
      · simp
      · have : ltOf cmpSo b a = false := by
          cases h2 : ltOf cmpSo b a
          · rfl
          · have := swoSo.trans a b a h h2; rw [swoSo.irrefl] at this; cases this
        simp [this]) L
  have hnd : (sortQ L).Nodup := hp.nodup_iff.2 hn
  unfold SortedB
  rw [List.pairwise_map]
  refine List.Pairwise.imp_of_mem (R := fun x y => ((!(ltOf cmpSo) y x) = true) ∧ x ≠ y) (fun {x y} hx hy hxy => ?_) (hs.and hnd)
  obtain ⟨h1, h2⟩ := hxy
  have h3 : befL (soI y) (soI x) = false := by rw [← ltSo]; simpa using h1
  have h4 := befL_total h3 (fun e => h2 (soI_inj e).symm)
  have hx' := hp.mem_iff.1 hx
  have hy' := hp.mem_iff.1 hy
  obtain ⟨a, b, c, d⟩ := x
  obtain ⟨p, q, r, s⟩ := y
  rcases hz with hz | hz
  · have e1 : d = 0 := hz _ hx'
    have e2 : s = 0 := hz _ hy'
    subst e1; subst e2
    have : befL [a, b, c] [p, q, r] = true := by simpa [soI, befL] using h4
    exact this
  · have e1 : ¬ d = 0 := hz _ hx'
    have e2 : ¬ s = 0 := hz _ hy'
    show befL (qL a b c d) (qL p q r s) = true
    unfold qL
    rw [if_neg e1, if_neg e2]; exact h4
theorem box4_ints {w : World} {B : Nat} {x y z t : Int} (h0 : w.cell? ⟨B, 0, none⟩ = some (.int .i64 x)) (h1 : w.cell? ⟨B, 1, none⟩ = some (.int .i64 y)) (h2 : w.cell? ⟨B, 2, none⟩ = some (.int .i64 z)) (h3 : w.cell? ⟨B, 3, none⟩ = some (.int .i64 t)) : Ints w (.slice (some ⟨B, 0, none⟩) 4 4) [x, y, z, t] := by
  refine ⟨_, 4, rfl, by simp, fun i hi => ⟨_, rfl, ?_⟩⟩
  match i, hi with
  | 0, _ => exact h0
  | 1, _ => exact h1
  | 2, _ => exact h2
  | 3, _ => exact h3
def so2 (w : World) (x y z t p q r s : Int) : World := (w.alloc (.cells #[.int .i64 x, .int .i64 y, .int .i64 z, .int .i64 t] 48)).alloc (.cells #[.int .i64 p, .int .i64 q, .int .i64 r, .int .i64 s] 48)

open Go.Sort in
set_option maxRecDepth 20000 in
set_option maxHeartbeats 2000000 in
theorem compareSo_any (t u : So) (w : World) :
    Calls Try.prog 44 #[.agg #[.int .i64 t.1, .int .i64 t.2.1, .int .i64 t.2.2.1, .int .i64 t.2.2.2], .agg #[.int .i64 u.1, .int .i64 u.2.1, .int .i64 u.2.2.1, .int .i64 u.2.2.2]] w fun e w' => e = .returned (.int .i64 (cmpSo t u)) ∧ ∃ q os', w' = grow (w.drewN q) os' := by
  obtain ⟨x, y, z, t⟩ := t
  obtain ⟨p, q, r, s⟩ := u
  simp only
  obtain ⟨o, ho⟩ : ∃ o, cmpSo (x, y, z, t) (p, q, r, s) = o := ⟨_, rfl⟩
  have HC := hid (fun (v v' : Value) w' (h1 : Ints w' v [x, y, z, t]) (h2 : Ints w' v' [p, q, r, s]) => show Calls Try.prog 92 #[v, v'] w' fun e w2 => e = .returned (.int .i64 o) ∧ w2 = w' by rw [← ho]; exact (compareL_any v v' _ _ 4 w' rfl rfl h1 h2).mono fun _ _ h => ⟨h.1, h.2.symm⟩)
  rw [ho]
  clear ho
  go_enter Try.func44, Try.ntmps44
  go_upto_region 1 with fail
  have hw : (w.alloc (.cells #[.int .i64 x, .int .i64 y, .int .i64 z, .int .i64 t] 48)).alloc (.cells #[.int .i64 p, .int .i64 q, .int .i64 r, .int .i64 s] 48) = so2 w x y z t p q r s := rfl
  rw [hw]
  have HG := hid (show so2 w x y z t p q r s = grow w #[.cells #[.int .i64 x, .int .i64 y, .int .i64 z, .int .i64 t] 48, .cells #[.int .i64 p, .int .i64 q, .int .i64 r, .int .i64 s] 48] from rfl)
  have c0 : (so2 w x y z t p q r s).cell? ⟨w.heap.size, 0, none⟩ = some (.int .i64 x) := by simp [so2, go_sem]
  have c1 : (so2 w x y z t p q r s).cell? ⟨w.heap.size, 1, none⟩ = some (.int .i64 y) := by simp [so2, go_sem]
  have c2 : (so2 w x y z t p q r s).cell? ⟨w.heap.size, 2, none⟩ = some (.int .i64 z) := by simp [so2, go_sem]
  have c3 : (so2 w x y z t p q r s).cell? ⟨w.heap.size, 3, none⟩ = some (.int .i64 t) := by simp [so2, go_sem]
  have d0 : (so2 w x y z t p q r s).cell? ⟨w.heap.size + 1, 0, none⟩ = some (.int .i64 p) := by simp [so2, go_sem]
  have d1 : (so2 w x y z t p q r s).cell? ⟨w.heap.size + 1, 1, none⟩ = some (.int .i64 q) := by simp [so2, go_sem]
  have d2 : (so2 w x y z t p q r s).cell? ⟨w.heap.size + 1, 2, none⟩ = some (.int .i64 r) := by simp [so2, go_sem]
  have d3 : (so2 w x y z t p q r s).cell? ⟨w.heap.size + 1, 3, none⟩ = some (.int .i64 s) := by simp [so2, go_sem]
  clear hw
  generalize so2 w x y z t p q r s = wa at HG c0 c1 c2 c3 d0 d1 d2 d3 ⊢
  have HI := hid (box4_ints c0 c1 c2 c3)
  have HJ := hid (box4_ints d0 d1 d2 d3)
  go_quiet (first | (go_at_call 92; exact Calls.quiet_of_same (HC.out _ _ _ (HI.out.later (Later.drewN wa _)) (HJ.out.later (Later.drewN wa _)))))
  rw [HG.out]
  go_wp2_with fail
  go_ret
  exact ⟨rfl, nq, _, rfl⟩
theorem grownBy_growQ (W : World) (os : Array Obj) : W.grownBy (Go.Sort.grow W os) none :=
  ⟨rfl, rfl, rfl, by simp, fun k hk _ => Go.Sort.heap_grow_old _ _ hk⟩
theorem laterGrowQ (W : World) (os : Array Obj) : Later W (Go.Sort.grow W os) := (Below.refl _ _).grown (grownBy_growQ W os) (Nat.le_refl _) (by simp)

open Go.Sort in
set_option maxRecDepth 20000 in
theorem sortS_any {lo : Nat} (w0 : World) (v : Value) (L : List So) (w : World) (hL0 : Later w0 w) (hlo : w0.heap.size ≤ lo) (hb : L.length ≤ 1000000) (h : OwnSols lo w v L) :
    Calls Try.prog 43 #[v, .func (.func 44) #[] #[]] w fun e w' => e = .returned (.tuple #[]) ∧ OwnSols lo w' v (sortQ L) ∧ Later w0 w' := by
  have hsl : (sortQ L).length = L.length := by unfold sortQ; exact List.length_mergeSort _
  rcases id h.2 with ⟨rfl, h0⟩ | ⟨g, cap, cur, rfl, hg, hgg, _⟩
  · obtain rfl : L = [] := List.eq_nil_of_length_eq_zero h0
    refine (show Calls Try.prog 43 #[.slice none 0 0, .func (.func 44) #[] #[]] w _ from AnyF.slices_SortFunc_none laysSoF06 none 0 (.func (.func 44) #[] #[]) w).mono ?_
    rintro e w' ⟨rfl, rfl⟩
    exact ⟨rfl, by rw [show sortQ [] = [] by simp [sortQ]]; exact h, hL0⟩
  · have hblk : g < w.heap.size := by
      apply Classical.byContradiction
      intro hn
      rw [Array.getElem?_eq_none (by omega)] at hgg
      cases hgg
    have hcmp : CmpLays Try.prog 44 #[] soV 4 cmpSo g 0 L.toArray.size w := by
      intro m os dk hs a b
      exact compareSo_any a b _
    refine (show Calls Try.prog 43 #[.slice (some ⟨g, 0, none⟩) L.length cap, .func (.func 44) #[] #[]] w _ from AnyQ.slices_SortFunc_total laysSoF06 4 Try.isAgg48 Try.sizeOf48 soV (fun _ => rfl) (fun x v hv => by simp [soV] at hv; rcases hv with rfl | rfl | rfl | rfl <;> rfl) cmpSo swoSo 44 #[] g 0 cap L.toArray w Try.call44 hcmp h.holds hblk (by simp; omega) totSo).mono ?_
    rintro e w' ⟨rfl, n, os, rfl⟩
    obtain ⟨hp1, hp2⟩ := h.putK (q := n) (M := sortQ L) hsl
    have hLg := laterGrowQ (putRowK soV 4 (Sort.ahead w n) g 0 (sortQ L).toArray) os
    refine ⟨rfl, ?_, ?_⟩
    · show OwnSols lo (grow (putRowK soV 4 (Sort.ahead w n) g 0 (sortQ L).toArray) os) _ _
      exact hp1.later hLg
    · show Later w0 (grow (putRowK soV 4 (Sort.ahead w n) g 0 (sortQ L).toArray) os)
      exact Later.trans (show Later w0 _ from hL0.grown hp2 hL0.size (fun b' hb' => by have e := Option.some.inj hb'; subst e; omega)) hLg


def sumQ (s : So) : Int := s.1 + s.2.1 + s.2.2.1 + s.2.2.2
def InQ (s : So) : Prop := (0 ≤ s.1 ∧ s.1 ≤ 100000) ∧ (0 ≤ s.2.1 ∧ s.2.1 ≤ 100000) ∧ (0 ≤ s.2.2.1 ∧ s.2.2.1 ≤ 100000) ∧ (0 ≤ s.2.2.2 ∧ s.2.2.2 ≤ 100000)
theorem Q4.inQ {x y z t : Int} (h : Q4 x y z t) : InQ (x, y, z, t) := by
  obtain ⟨hx, hy, hz, ht⟩ := h
  exact ⟨⟨by show (0 : Int) ≤ x; omega, hx.2⟩, ⟨by show (0 : Int) ≤ y; omega, hy.2⟩, ⟨by show (0 : Int) ≤ z; omega, hz.2⟩, ht⟩
theorem noSo_inQ : InQ noSo := by unfold InQ noSo; simp
theorem sumQ_soL (s : So) : sumL (soL s) = sumQ s := by
  obtain ⟨x, y, z, t⟩ := s
  show sumL (qL x y z t) = x + y + z + t
  unfold qL sumL
  split <;> simp <;> omega
set_option maxRecDepth 20000 in
set_option maxHeartbeats 1000000 in
theorem sumS_any (s : So) (w : World) (hs : InQ s) :
    Calls Try.prog 88 #[soA s] w fun e w' => e = .returned (.int .i64 (sumQ s)) ∧ Later w w' := by
  obtain ⟨x, y, z, t⟩ := s
  obtain ⟨⟨hx1, hx2⟩, ⟨hy1, hy2⟩, ⟨hz1, hz2⟩, ⟨ht1, ht2⟩⟩ := hs
  simp only at hx1 hx2 hy1 hy2 hz1 hz2 ht1 ht2
  obtain ⟨c0, c1, c2, c3⟩ := arr4_alloc w x y z t
  have HL := hid (Later.alloc w (.cells #[.int .i64 x, .int .i64 y, .int .i64 z, .int .i64 t] 48))
  show Calls Try.prog 88 #[.agg #[.int .i64 x, .int .i64 y, .int .i64 z, .int .i64 t]] w _
  go_enter Try.func88, Try.ntmps88
  go_wp2_with fail
  go_ret
  exact ⟨rfl, HL.out⟩
set_option maxRecDepth 20000 in
set_option maxHeartbeats 1000000 in
/-- The test whether a solution has no greater sum. -/
theorem branchTest (x y z t : Int) (B : Nat) (w0 : World) (hq : Q4 x y z t) (hb : Arr4 w0 B x y z t) :
    Tests w0 87 #[.pointer (some ⟨B, 0, none⟩)] InQ (fun n => decide (sumQ n ≤ sumQ (x, y, z, t))) := by
  intro w hL s hs
  obtain ⟨p, q, r, u⟩ := s
  have HS := hid hs
  have HQ := hid hq.inQ
  obtain ⟨e0, e1, e2, e3⟩ := hb.later hL
  obtain ⟨c0, c1, c2, c3⟩ := arr4_alloc w p q r u
  have hA := Later.alloc w (.cells #[.int .i64 p, .int .i64 q, .int .i64 r, .int .i64 u] 48)
  replace e0 := hA.cell e0
  replace e1 := hA.cell e1
  replace e2 := hA.cell e2
  replace e3 := hA.cell e3
  have HL := hid hA
  have HC1 := hid (show ∀ w', Calls Try.prog 88 #[.agg #[.int .i64 p, .int .i64 q, .int .i64 r, .int .i64 u]] w' fun e w'' => e = .returned (.int .i64 (sumQ (p, q, r, u))) ∧ Later w' w'' from fun w' => sumS_any (p, q, r, u) w' hs)
  have HC2 := hid (show ∀ w', Calls Try.prog 88 #[.agg #[.int .i64 x, .int .i64 y, .int .i64 z, .int .i64 t]] w' fun e w'' => e = .returned (.int .i64 (sumQ (x, y, z, t))) ∧ Later w' w'' from fun w' => sumS_any (x, y, z, t) w' hq.inQ)
  have TOK := hid True.intro
  obtain ⟨S1, hS1⟩ : ∃ S, sumQ (p, q, r, u) = S := ⟨_, rfl⟩
  obtain ⟨S2, hS2⟩ : ∃ S, sumQ (x, y, z, t) = S := ⟨_, rfl⟩
  have hb1 : -1000000 ≤ S1 ∧ S1 ≤ 1000000 := by obtain ⟨h1, h2, h3, h4⟩ := hs; rw [← hS1]; unfold sumQ; simp only at h1 h2 h3 h4 ⊢; omega
  rw [hS1] at HC1
  rw [hS2] at HC2
  simp only [hS1, hS2]
  clear hA hs hb hL hq hS1 hS2
  show Calls Try.prog 87 #[.agg #[.int .i64 p, .int .i64 q, .int .i64 r, .int .i64 u], .pointer (some ⟨B, 0, none⟩)] w _
  go_enter Try.func87, Try.ntmps87
  go_wp2_with fail
  generalize w.alloc (.cells #[.int .i64 p, .int .i64 q, .int .i64 r, .int .i64 u] 48) = w1 at c0 c1 c2 c3 e0 e1 e2 e3 HL ⊢
  obtain ⟨C, hC⟩ : ∃ C, w.heap.size = C := ⟨_, rfl⟩
  rw [hC] at c0 c1 c2 c3 ⊢
  go_region_held3 (fun w' => w'.cell? ⟨C, 0, none⟩ = some (.int .i64 p) ∧ w'.cell? ⟨C, 1, none⟩ = some (.int .i64 q) ∧ w'.cell? ⟨C, 2, none⟩ = some (.int .i64 r) ∧ w'.cell? ⟨C, 3, none⟩ = some (.int .i64 u) ∧ w'.cell? ⟨B, 0, none⟩ = some (.int .i64 x) ∧ w'.cell? ⟨B, 1, none⟩ = some (.int .i64 y) ∧ w'.cell? ⟨B, 2, none⟩ = some (.int .i64 z) ∧ w'.cell? ⟨B, 3, none⟩ = some (.int .i64 t)) (first | exact ⟨c0, c1, c2, c3, e0, e1, e2, e3⟩ | exact ⟨d0, d1, d2, d3, d4, d5, d6, d7⟩ | exact ⟨f0, f1, f2, f3, f4, f5, f6, f7⟩) (first | (have hh := TOK; clear hh; go_at_call 88; refine (HC1.out _).mono ?_; clear TOK; rintro e w2 ⟨rfl, hL2⟩; have hL2' := (Later.drew w1).trans hL2; have HL2 := hid hL2'; have d0 := hL2'.cell c0; have d1 := hL2'.cell c1; have d2 := hL2'.cell c2; have d3 := hL2'.cell c3; have d4 := hL2'.cell e0; have d5 := hL2'.cell e1; have d6 := hL2'.cell e2; have d7 := hL2'.cell e3; clear hL2 hL2') | (go_at_call 88; refine (HC2.out _).mono ?_; rintro e w3 ⟨rfl, hL3⟩; have hL3' := HL2.out.trans hL3; have HL3 := hid hL3'; have f0 := hL3'.cell c0; have f1 := hL3'.cell c1; have f2 := hL3'.cell c2; have f3 := hL3'.cell c3; have f4 := hL3'.cell e0; have f5 := hL3'.cell e1; have f6 := hL3'.cell e2; have f7 := hL3'.cell e3; clear hL3 hL3'))
  all_goals
    have HLf := hid (HL.out.trans HL3.out)
    clear c0 c1 c2 c3 e0 e1 e2 e3 d0 d1 d2 d3 d4 d5 d6 d7 f0 f1 f2 f3 f4 f5 f6 f7
    go_wp2_with fail
    go_ret
    exact ⟨rfl, HLf.out⟩


theorem compT_pre (L M : List So) : ∀ k, k ≤ L.length → compT (L ++ M) k = compT L k := by
  intro k
  induction k with
  | zero => intro _; rfl
  | succ k ih =>
    intro h
    have e : ∀ j, j < L.length → (L ++ M).getD j noSo = L.getD j noSo := fun j hj => by
      rw [List.getD_eq_getElem?_getD, List.getD_eq_getElem?_getD, List.getElem?_append_left hj]
    unfold compT
    rw [ih (by omega), e k (by omega), e (k - 1) (by omega)]
theorem compT_snoc (L : List So) (x : So) : compT (L ++ [x]) (L ++ [x]).length = compT L L.length ++ (if L.length = 0 ∨ x ≠ L.getD (L.length - 1) noSo then [x] else []) := by
  rw [List.length_append, List.length_singleton]
  show compT (L ++ [x]) L.length ++ _ = _
  rw [compT_pre L [x] L.length (Nat.le_refl _)]
  congr 1
  have e1 : (L ++ [x]).getD L.length noSo = x := by simp
  rw [e1]
  by_cases h : L.length = 0
  · rw [if_pos (.inl h), if_pos (.inl h)]
  · have e2 : (L ++ [x]).getD (L.length - 1) noSo = L.getD (L.length - 1) noSo := by
      rw [List.getD_eq_getElem?_getD, List.getD_eq_getElem?_getD, List.getElem?_append_left (by omega)]
    rw [e2]
theorem takeWhile_all {p : List Int → Bool} {U : List (List Int)} (h : ∀ u ∈ U, p u = true) : U.takeWhile p = U := by
  induction U with
  | nil => rfl
  | cons u U ih => rw [List.takeWhile_cons, if_pos (h u (by simp)), ih (fun v hv => h v (by simp [hv]))]
theorem putL_end {U : List (List Int)} {a : List Int} (h : ∀ u ∈ U, befL u a = true) : putL U a = U ++ [a] := by
  have hk : putK U a = U.length := by unfold putK; rw [takeWhile_all h]
  unfold putL
  rw [hk, if_neg (by omega), List.take_length, List.drop_length]
theorem putL_last {V : List (List Int)} {a : List Int} (h : ∀ u ∈ V, befL u a = true) : putL (V ++ [a]) a = V ++ [a] := by
  have hk : putK (V ++ [a]) a = V.length := by
    unfold putK
    rw [List.takeWhile_append, takeWhile_all h]
    simp [befL_irr]
  unfold putL
  rw [hk, if_pos (by simp)]
theorem soL_inj {s u : So} (h : soL s = soL u) : s = u := by
  have := congrArg toSo h
  rwa [show toSo (soL s) = s from toSo_qL _ _ _ _, show toSo (soL u) = u from toSo_qL _ _ _ _] at this
theorem Sol.toSo {ys : List Int} {a b : Int} (h : Sol ys a b) : soL (toSo ys) = ys := by
  obtain ⟨x, y, z, t, rfl, _⟩ := h.q4
  rw [toSo_qL]; rfl
def bigQ (zs : List Int) (n : So) : Bool := !decide (sumQ n ≤ sumL zs)
def brF (a : Int) (zs : List Int) (k : Nat) : List So := ((List.range k).map (nbQ a zs)).filter (bigQ zs)
theorem brF_succ (a : Int) (zs : List Int) (k : Nat) : brF a zs (k + 1) = brF a zs k ++ (if bigQ zs (nbQ a zs k) = true then [nbQ a zs k] else []) := by
  unfold brF
  rw [List.range_succ, List.map_append, List.filter_append]
  congr 1
  simp only [List.map_cons, List.map_nil, List.filter_cons, List.filter_nil]
def BrInv (a : Int) (zs : List Int) (k : Nat) : Prop :=
  (compT (brF a zs k) (brF a zs k).length).map soL = upF a zs k ∧
  ((brF a zs k = [] ∧ upF a zs k = []) ∨ ∃ V l i, upF a zs k = V ++ [l] ∧ (brF a zs k).length ≠ 0 ∧ soL ((brF a zs k).getD ((brF a zs k).length - 1) noSo) = l ∧ (∀ v ∈ V, befL v l = true) ∧ i < k ∧ jumpL a zs i = some l)
theorem brInv {zs : List Int} {a b : Int} (hS : Sol zs a b) : ∀ k, k ≤ zs.length → BrInv a zs k := by
  intro k
  induction k with
  | zero => intro _; exact ⟨rfl, .inl ⟨rfl, rfl⟩⟩
  | succ k ih =>
    intro hk
    obtain ⟨h1, h2⟩ := ih (by omega)
    have hsb := hS.sum_bd
    cases hj : jumpL a zs k with
    | none =>
      have hn : nbQ a zs k = noSo := by unfold nbQ; rw [hj]; rfl
      have hq : bigQ zs (nbQ a zs k) = false := by rw [hn]; unfold bigQ; rw [decide_eq_true (by show (0 : Int) + 0 + 0 + 0 ≤ sumL zs; omega)]; rfl
      have e : brF a zs (k + 1) = brF a zs k := by rw [brF_succ, hq]; simp
      unfold BrInv
      rw [e, upF_none hj]
      refine ⟨h1, ?_⟩
      rcases h2 with h2 | ⟨V, l, i, p1, p2, p3, p4, p5, p6⟩
      · exact .inl h2
      · exact .inr ⟨V, l, i, p1, p2, p3, p4, by omega, p6⟩
    | some ys =>
      have hys := hS.jump (by omega) hj
      have hn : nbQ a zs k = toSo ys := by unfold nbQ; rw [hj]; rfl
      have hsum : sumQ (nbQ a zs k) = sumL zs - zs.getD k 0 + othL a zs k := by
        rw [hn, ← sumQ_soL, hys.toSo]; exact jump_sum (by omega) hj
      by_cases hlt : zs.getD k 0 < othL a zs k
      · have hq : bigQ zs (nbQ a zs k) = true := by unfold bigQ; rw [decide_eq_false (by omega)]; rfl
        have e : brF a zs (k + 1) = brF a zs k ++ [toSo ys] := by rw [brF_succ, hq, hn]; simp
        unfold BrInv
        rw [e, upF_some hj, if_pos hlt, compT_snoc]
        have hlast : (brF a zs k ++ [toSo ys]).getD ((brF a zs k ++ [toSo ys]).length - 1) noSo = toSo ys := by simp
        rcases h2 with ⟨p1, p2⟩ | ⟨V, l, i, p1, p2, p3, p4, p5, p6⟩
        · rw [p1, p2]
          refine ⟨?_, .inr ⟨[], ys, k, ?_, by simp, ?_, fun v hv => by simp at hv, by omega, hj⟩⟩
          · simp [compT, hys.toSo, putL, putK]
          · simp [putL, putK]
          · simp [hys.toSo]
        · have hdom := branch_dom hS p5 (by omega) p6 hj
          have hl := hS.jump (by omega) p6
          have hd := befL_dom (P := l) (Q := ys) (by rw [Sol.jump_len p6, Sol.jump_len hj]) ((fallB_iff (by omega)).1 hl.hf).1 ((fallB_iff (by omega)).1 hys.hf).1 hdom
          by_cases hly : l = ys
          · subst hly
            have hf : toSo l = (brF a zs k).getD ((brF a zs k).length - 1) noSo := soL_inj (by rw [hys.toSo, p3])
            rw [if_neg (by rw [hf]; simp [p2]), List.append_nil, h1, p1, putL_last p4]
            refine ⟨rfl, .inr ⟨V, l, i, rfl, by simp, ?_, p4, by omega, p6⟩⟩
            rw [hlast, hys.toSo]
          · have hf : toSo ys ≠ (brF a zs k).getD ((brF a zs k).length - 1) noSo := fun he => hly (by rw [← p3, ← he, hys.toSo])
            have hb := hd.2 hly
            rw [if_pos (.inr hf), List.map_append, h1, p1, putL_end (fun u hu => by
              rcases List.mem_append.1 hu with h | h
              · exact befL_trans (p4 u h) hb
              · rw [List.mem_singleton] at h; rw [h]; exact hb)]
            refine ⟨by simp [hys.toSo], .inr ⟨V ++ [l], ys, k, rfl, by simp, ?_, fun v hv => ?_, by omega, hj⟩⟩
            · rw [hlast, hys.toSo]
            · rcases List.mem_append.1 hv with h | h
              · exact befL_trans (p4 v h) hb
              · rw [List.mem_singleton] at h; rw [h]; exact hb
      · have hq : bigQ zs (nbQ a zs k) = false := by unfold bigQ; rw [decide_eq_true (by omega)]; rfl
        have e : brF a zs (k + 1) = brF a zs k := by rw [brF_succ, hq]; simp
        unfold BrInv
        rw [e, upF_some hj, if_neg hlt]
        refine ⟨h1, ?_⟩
        rcases h2 with h2 | ⟨V, l, i, p1, p2, p3, p4, p5, p6⟩
        · exact .inl h2
        · exact .inr ⟨V, l, i, p1, p2, p3, p4, by omega, p6⟩


theorem nbQ_inQ {a b : Int} {zs : List Int} (hS : Sol zs a b) (i : Nat) (hi : i < zs.length) : InQ (nbQ a zs i) := by
  unfold nbQ
  cases hj : jumpL a zs i with
  | none => exact noSo_inQ
  | some ys =>
    obtain ⟨x, y, z, t, rfl, hq⟩ := (hS.jump hi hj).q4
    show InQ (toSo (qL x y z t))
    rw [toSo_qL]; exact hq.inQ
set_option maxRecDepth 20000 in
set_option maxHeartbeats 1000000 in
theorem branchesS_any (x y z t a b : Int) (w : World) (hS : Sol (qL x y z t) a b) (hq : Q4 x y z t) :
    Calls Try.prog 41 #[.agg #[.int .i64 x, .int .i64 y, .int .i64 z, .int .i64 t], .int .i64 a] w fun e w' => ∃ g cap, e = .returned (.slice (some ⟨g, 0, none⟩) (brF a (qL x y z t) (qN t)).length cap) ∧ OwnSols w.heap.size w' (.slice (some ⟨g, 0, none⟩) (brF a (qL x y z t) (qN t)).length cap) (brF a (qL x y z t) (qN t)) ∧ Later w w' := by
  have hA := Later.alloc w (.cells #[.int .i64 x, .int .i64 y, .int .i64 z, .int .i64 t] 48)
  have HT := hid (branchTest x y z t w.heap.size (w.alloc (.cells #[.int .i64 x, .int .i64 y, .int .i64 z, .int .i64 t] 48)) hq (arr4_alloc w x y z t))
  obtain ⟨c0, c1, c2, c3⟩ := arr4_alloc w x y z t
  have HL := hid hA
  have HNB := hid (fun w' => neighbours_any x y z t a b w' hS hq)
  have HSM := hid (sumQ_soL (x, y, z, t))
  have hNl : ((List.range (qN t)).map (nbQ a (qL x y z t))).length = qN t := by simp
  have HD := hid (show ∀ s ∈ (List.range (qN t)).map (nbQ a (qL x y z t)), InQ s from fun s hs => by
    obtain ⟨i, hi, rfl⟩ := List.mem_map.1 hs
    exact nbQ_inQ hS i (by rw [qL_len]; simpa using hi))
  have hqn := qN_bd t
  have HF := hid (show brF a (qL x y z t) (qN t) = ((List.range (qN t)).map (nbQ a (qL x y z t))).filter (fun s => !(decide (sumQ s ≤ sumQ (x, y, z, t)))) by
    unfold brF bigQ
    rw [show sumL (qL x y z t) = sumQ (x, y, z, t) from HSM.out])
  obtain ⟨F, hF⟩ : ∃ F, brF a (qL x y z t) (qN t) = F := ⟨_, rfl⟩
  obtain ⟨N, hN⟩ : ∃ N, (List.range (qN t)).map (nbQ a (qL x y z t)) = N := ⟨_, rfl⟩
  rw [hF] at HF ⊢
  rw [hN] at HF HNB HD hNl
  have HNL := hid hNl
  have HWS := hid (show (w.alloc (.cells #[.int .i64 x, .int .i64 y, .int .i64 z, .int .i64 t] 48)).heap.size = w.heap.size + 1 by simp)
  clear hS hq hF hN hA hNl
  go_enter Try.func41, Try.ntmps41
  go_wp2_with fail
  generalize w.alloc (.cells #[.int .i64 x, .int .i64 y, .int .i64 z, .int .i64 t] 48) = w1 at c0 c1 c2 c3 HL HT HWS ⊢
  obtain ⟨B, hB⟩ : ∃ B, w.heap.size = B := ⟨_, rfl⟩
  rw [hB] at c0 c1 c2 c3 HT ⊢
  refine (HNB.out w1).mono ?_
  rintro e w2 ⟨v2, rfl, ho, hL2⟩
  obtain ⟨g, cg, rfl⟩ : ∃ g cg, v2 = .slice (some ⟨g, 0, none⟩) N.length cg := by
    rcases ho.2 with ⟨_, h0⟩ | ⟨g, cap, cur, e, _⟩
    · have := HNL.out; omega
    · exact ⟨g, cap, e⟩
  have HO := hid ho
  have HL2 := hid hL2
  have hNb : N.length ≤ 1000000 := by have := HNL.out; omega
  have HLW := hid (show w.heap.size ≤ w1.heap.size by rw [HWS.out]; omega)
  clear ho hL2 c0 c1 c2 c3
  go_wp2_with fail
  refine (deleteFunc_any w1 87 #[.pointer (some ⟨B, 0, none⟩)] Try.call87 InQ (fun n => decide (sumQ n ≤ sumQ (x, y, z, t))) HT.out g cg N w2 HL2.out (Nat.le_refl _) HD.out hNb HO.out).mono ?_
  rintro e w3 ⟨rfl, ho3, hL3⟩
  rw [← HF.out] at ho3 ⊢
  have HO3 := hid (ho3.base HLW.out)
  have HL3 := hid (HL.out.trans hL3)
  clear ho3 hL3
  go_wp2_with fail
  go_ret
  exact ⟨g, cg, rfl, HO3.out, HL3.out⟩
theorem containsS_any {lo : Nat} (g cap : Nat) (N : List So) (s : So) (w : World) (hb : N.length ≤ 1000000000000) (h : OwnSols lo w (.slice (some ⟨g, 0, none⟩) N.length cap) N) :
    Calls Try.prog 42 #[.slice (some ⟨g, 0, none⟩) N.length cap, .agg #[.int .i64 s.1, .int .i64 s.2.1, .int .i64 s.2.2.1, .int .i64 s.2.2.2]] w fun e w' => e = .returned (.bool (decide (s ∈ N))) ∧ Later w w' := by
  have h' : w.ownsRow lo 48 4 (.slice (some ⟨g, 0, none⟩) N.length cap) N.length (soCells N) := h
  have hc := AnyQ.slices_Contains laysSlLaysQ7 4 Try.isAgg48 Try.sizeOf48 soV (fun _ => rfl) (fun s u => decide (s = u)) eqlSo g 0 N.length cap N s w (Nat.le_refl _) (by omega) (fun j hj i v hv => by
    have hat := soCells_at N j hj
    have hi : i < 4 := by
      rcases Nat.lt_or_ge i 4 with h | h
      · exact h
      · rw [List.getElem?_eq_none (by simpa [soV] using h)] at hv; cases hv
    have e : w.cell? ⟨g, 0 + j * 4 + i, none⟩ = (soCells N)[j * 4 + i]? := by rw [Nat.zero_add]; exact h'.cellAt _ (by omega)
    rw [e]
    rw [getElem!_pos N j hj] at hv
    have h4 : i = 0 ∨ i = 1 ∨ i = 2 ∨ i = 3 := by omega
    rcases h4 with rfl | rfl | rfl | rfl
    · rw [Nat.add_zero, hat.1]; exact hv
    · rw [hat.2.1]; exact hv
    · rw [hat.2.2.1]; exact hv
    · rw [hat.2.2.2]; exact hv)
  refine (show Calls Try.prog 42 #[.slice (some ⟨g, 0, none⟩) N.length cap, .agg #[.int .i64 s.1, .int .i64 s.2.1, .int .i64 s.2.2.1, .int .i64 s.2.2.2]] w _ from hc).mono ?_
  rintro e w' ⟨rfl, hL⟩
  refine ⟨?_, hL⟩
  rw [List.take_length]
  have : (N.any fun y => decide (s = y)) = decide (s ∈ N) := by
    by_cases hm : s ∈ N
    · rw [decide_eq_true hm, List.any_eq_true]; exact ⟨s, hm, by simp⟩
    · rw [decide_eq_false hm, List.any_eq_false]; exact fun y hy => by simp; intro e; subst e; exact hm hy
  rw [this]
theorem mem_compT (L : List So) (x : So) : ∀ k, k ≤ L.length → (x ∈ compT L k ↔ x ∈ L.take k) := by
  intro k
  induction k with
  | zero => intro _; simp [compT]
  | succ k ih =>
    intro hk
    have h1 := ih (by omega)
    rw [take_snocS L k (by omega), List.mem_append, ← h1]
    show x ∈ compT L k ++ _ ↔ _
    rw [List.mem_append]
    by_cases hc : k = 0 ∨ L.getD k noSo ≠ L.getD (k - 1) noSo
    · rw [if_pos hc]
    · rw [if_neg hc]
      rw [not_or, Classical.not_not] at hc
      constructor
      · rintro (h | h)
        · exact .inl h
        · simp at h
      · rintro (h | h)
        · exact .inl h
        · left
          rw [List.mem_singleton] at h
          refine h1.2 ?_
          rw [h, hc.2]
          have hk1 : k - 1 < k := by omega
          have hk2 : k - 1 < L.length := by omega
          rw [List.getD_eq_getElem?_getD, List.getElem?_eq_getElem hk2, Option.getD_some]
          exact List.mem_take_iff_getElem.2 ⟨k - 1, by rw [Nat.min_def]; split <;> omega, rfl⟩
theorem brF_mem {zs : List Int} {a b : Int} (hS : Sol zs a b) (y : List Int) : y ∈ (brF a zs zs.length).map soL ↔ y ∈ upF a zs zs.length := by
  have h := (brInv hS zs.length (Nat.le_refl _)).1
  rw [← h, List.mem_map, List.mem_map]
  have hm := fun x => mem_compT (brF a zs zs.length) x (brF a zs zs.length).length (Nat.le_refl _)
  simp only [List.take_length] at hm
  constructor
  · rintro ⟨x, hx, rfl⟩; exact ⟨x, (hm x).2 hx, rfl⟩
  · rintro ⟨x, hx, rfl⟩; exact ⟨x, (hm x).1 hx, rfl⟩
theorem brF_len (a : Int) (x y z t : Int) : (brF a (qL x y z t) (qN t)).length ≤ 4 := by
  unfold brF
  have h1 := List.length_filter_le (bigQ (qL x y z t)) ((List.range (qN t)).map (nbQ a (qL x y z t)))
  have h2 := qN_bd t
  simp only [List.length_map, List.length_range] at h1
  omega
theorem Sol.q4s {s : So} {a b : Int} (h : Sol (soL s) a b) : Q4 s.1 s.2.1 s.2.2.1 s.2.2.2 := by
  obtain ⟨x, y, z, t, e, hq⟩ := h.q4
  have : s = (x, y, z, t) := soL_inj e
  subst this; exact hq
theorem soL_head (s : So) : (soL s).getD 0 0 = s.1 := by unfold soL qL; split <;> rfl
def treeB (zs : List Int) (a b most : Int) : Bool := givenB a b && solB zs a b && decide (most ≤ 100000) && decide (zs.getD 0 0 ≤ most)
def TreeAns (zs : List Int) (a b most : Int) (o : Option (List (List Int))) : Prop := if treeB zs a b most = true then TreeRes a most zs o else o = none
/-- All of a tree have as many parts as its beginning. -/
theorem Reach.len {a most : Int} {s x : List Int} (h : Reach a most s x) : x.length = s.length := by
  induction h with
  | base => rfl
  | step hr hst ih =>
    obtain ⟨j, h1, h2⟩ := upF_from hst.1
    rw [← ih]; exact Sol.jump_len h2
theorem parts_same {a most : Int} {zs : List Int} {T : List So} (h : ∀ x ∈ T.map soL, Reach a most zs x) : (∀ s ∈ T, s.2.2.2 = 0) ∨ ∀ s ∈ T, s.2.2.2 ≠ 0 := by
  have hl : ∀ s ∈ T, (soL s).length = zs.length := fun s hs' => (h _ (List.mem_map_of_mem hs')).len
  have e : ∀ s : So, (soL s).length = if s.2.2.2 = 0 then 3 else 4 := fun s => by unfold soL qL; split <;> rfl
  by_cases hz : zs.length = 3
  · left; intro s hs'; have := hl s hs'; rw [e, hz] at this; split at this
    · assumption
    · omega
  · right; intro s hs' h0; have := hl s hs'; rw [e, if_pos h0] at this; omega
theorem TrP.out {a most : Int} {zs : List Int} {T : List So} {k : Nat} (h : TrP a most zs (T.map soL) k) (hk : T.length ≤ k) (hl : T.length ≤ 500) : TreeRes a most zs (some ((sortQ T).map soL)) := by
  have hp : (sortQ T).Perm T := List.mergeSort_perm _ _
  have hnd : T.Nodup := List.Pairwise.imp (fun {x y} hxy e => hxy (congrArg soL e)) (List.pairwise_map.1 h.nod)
  refine TrP.done (T := T.map soL) ⟨h.nod, h.rch, h.beg, fun i hi hil => h.cls i (by rw [List.length_map] at hil; omega) hil⟩ (by rw [List.length_map]; exact hl) (hp.map soL) (sortQ_sorted hnd (parts_same h.rch))


set_option maxRecDepth 20000 in
set_option maxHeartbeats 4000000 in
theorem implTreeUpTo_any (v : Value) (zs : List Int) (a b most : Int) (w : World) (h : Ints w v zs) :
    Calls Try.prog 13 #[v, .int .i64 a, .int .i64 b, .int .i64 most] w fun e w' => ∃ o, TreeAns zs a b most o ∧ RowsAns w o e w' := by
  obtain ⟨p, cap, rfl, hl, _⟩ := id h
  have H := hid h
  clear h
  obtain ⟨i0, hi, hz0, hz1, hz2⟩ := info_parts Try.infoSo
  cases hs : (givenB a b && solB zs a b)
  · have HS := hid hs
    have HA := hid (show TreeAns zs a b most none by unfold TreeAns treeB; rw [hs]; simp)
    clear hs
    go_enter Try.func13, Try.ntmps13
    go_wp2_with fail
    refine (solutionOf_no _ zs a b _ HS.out H.out).mono ?_
    rintro e w1 ⟨rfl, hL⟩
    have HL := hid (hL.trans (Later.alloc w1 (.cells #[.int .i64 0, .int .i64 0, .int .i64 0, .int .i64 0] 48)))
    clear hL
    go_wp2_with fail
    go_ret2
    exact ⟨none, HA.out, _, rfl, OwnRows.noneH _ _ _, HL.out⟩
  · have hS := Sol.good hs
    have HS := hid hS
    obtain ⟨x, y, z, t, rfl, hq⟩ := hS.q4
    have HQ := hid hq
    have hd0 : (qL x y z t).getD 0 0 = x := soL_head (x, y, z, t)
    by_cases hm : most ≤ 100000
    · by_cases hx : x ≤ most
      · have HA := hid (fun o (ho : TreeRes a most (qL x y z t) o) => show TreeAns (qL x y z t) a b most o by
          unfold TreeAns treeB
          rw [if_pos (by rw [hs, decide_eq_true hm, hd0, decide_eq_true hx]; rfl)]; exact ho)
        have HT0 := hid (TrP.start a most (qL x y z t))
        clear hs hS hq hd0
        go_enter Try.func13, Try.ntmps13
        go_wp2_with fail
        refine (solutionOf_yes _ x y z t a b _ HS.out HQ.out H.out).mono ?_
        rintro e w1 ⟨rfl, hL⟩
        obtain ⟨c0, c1, c2, c3⟩ := arr4_alloc w1 x y z t
        have HL := hid (hL.trans (Later.alloc w1 (.cells #[.int .i64 x, .int .i64 y, .int .i64 z, .int .i64 t] 48)))
        clear hL
        go_upto_region 5 with fail
        have hw2 : (w1.alloc (.cells #[.int .i64 x, .int .i64 y, .int .i64 z, .int .i64 t] 48)).heap.size = w1.heap.size + 1 := by simp
        generalize w1.alloc (.cells #[.int .i64 x, .int .i64 y, .int .i64 z, .int .i64 t] 48) = w2 at HL hw2 ⊢
        rw [← hw2]
        have HO := hid (show OwnSols w2.heap.size (w2.alloc (.cells #[.int .i64 x, .int .i64 y, .int .i64 z, .int .i64 t] 48)) (.slice (some ⟨w2.heap.size, 0, none⟩) 1 1) [(x, y, z, t)] from OwnSols.one w2 (x, y, z, t))
        have HL3 := hid (HL.out.trans (Later.alloc w2 (.cells #[.int .i64 x, .int .i64 y, .int .i64 z, .int .i64 t] 48)))
        have HLC := hid (show w.heap.size ≤ w2.heap.size from HL.out.size)
        have HC3 := hid (show w2.heap.size ≤ (w2.alloc (.cells #[.int .i64 x, .int .i64 y, .int .i64 z, .int .i64 t] 48)).heap.size by simp)
        generalize w2.alloc (.cells #[.int .i64 x, .int .i64 y, .int .i64 z, .int .i64 t] 48) = w3 at HO HL3 HC3 ⊢
        obtain ⟨C, hC⟩ : ∃ C, w2.heap.size = C := ⟨_, rfl⟩
        rw [hC] at HO HLC HC3 ⊢
        obtain ⟨zs, hzs⟩ : ∃ zs, qL x y z t = zs := ⟨_, rfl⟩
        have HZ := hid hzs
        rw [hzs] at HS HT0 hl ⊢
        clear hC c0 c1 c2 c3 HL hzs
        go_wp2_with fail
        go_loopw [12, 13] (fun o i wr => ∃ (g cap : Nat) (T : List So) (k : Nat), o = .slice (some ⟨g, 0, none⟩) T.length cap ∧ i = .int .i64 k ∧ OwnSols C wr o T ∧ TrP a most zs (T.map soL) k ∧ k ≤ T.length ∧ T.length ≤ 500 ∧ Later w wr ∧ C ≤ wr.heap.size) (fun _ i _ => 501 - (intOf i).toNat)
        case atStart => exact ⟨C, 1, [(x, y, z, t)], 0, rfl, rfl, HO.out, by have := HT0.out; rw [← HZ.out] at this ⊢; exact this, by simp, by simp, HL3.out, HC3.out⟩
        case round =>
          clear HO HL3 HC3 HT0
          obtain ⟨g, cap, T, k, rfl, rfl, hO, hP, hk, hl5, hL, hCw⟩ := hrel
          have HO := hid hO
          have HP := hid hP
          have HLr := hid hL
          have HCW := hid hCw
          by_cases hlt : k < T.length
          · have hltI : (k : Int) < (T.length : Int) := by omega
            obtain ⟨c0, c1, c2, c3⟩ := hO.fourAt rfl k hlt
            have hmk : (T.map soL).getD k [] = soL (T.getD k noSo) := by simp [hlt]
            have hin : soL (T.getD k noSo) ∈ T.map soL := by rw [List.getD_eq_getElem?_getD, List.getElem?_eq_getElem hlt, Option.getD_some]; exact List.mem_map_of_mem (List.getElem_mem _)
            have hS1 := (hP.rch _ hin).sol HS.out
            obtain ⟨s, hse⟩ : ∃ s, T.getD k noSo = s := ⟨_, rfl⟩
            rw [hse] at c0 c1 c2 c3 hmk hS1
            obtain ⟨x', y', z', t'⟩ := s
            simp only at c0 c1 c2 c3
            have HS1 := hid hS1
            have HQ1 := hid hS1.q4s
            have HB := hid (fun y => show y ∈ (brF a (qL x' y' z' t') (qN t')).map soL ↔ y ∈ upF a ((T.map soL).getD k []) ((T.map soL).getD k []).length by rw [hmk]; have := brF_mem hS1 y; rw [show (soL (x', y', z', t')).length = qN t' from qL_len _ _ _ _] at this; rw [show (soL (x', y', z', t')).length = qN t' from qL_len _ _ _ _]; exact this)
            have HFL := hid (brF_len a x' y' z' t')
            obtain ⟨F, hF⟩ : ∃ F, brF a (qL x' y' z' t') (qN t') = F := ⟨_, rfl⟩
            have HFE := hid hF
            rw [hF] at HB HFL
            have hgw : g < wr.heap.size := (hO.lt g rfl).2
            have hkI : (0 : Int) ≤ (k : Int) := by omega
            clear hO hP hL hCw hmk hin hS1 hse hF
            go_wp2_with fail
            refine (branchesS_any x' y' z' t' a b wr HS1.out HQ1.out).mono ?_
            rintro e w5 ⟨gF, cF, rfl, hoF, hL5⟩
            rw [HFE.out] at hoF ⊢
            have HOF := hid hoF
            have HGF := hid (show g ≠ gF by have := (hoF.lt gF rfl).1; omega)
            have HO5 := hid (HO.out.later hL5)
            have HL5 := hid (HLr.out.trans hL5)
            have HC5 := hid (Nat.le_trans HCW.out hL5.size)
            have HQ0 := hid (HP.out.take (by rw [List.length_map]; exact hlt) HB.out)
            have HW5 := hid hL5.size
            obtain ⟨D, hD⟩ : ∃ D, wr.heap.size = D := ⟨_, rfl⟩
            rw [hD] at HOF HW5
            clear hoF hL5 c0 c1 c2 c3 hD
            have hfl := HFL.out
            go_wp2_with fail
            go_loopw [12, 50] (fun o i wq => ∃ (g cap : Nat) (T' : List So) (j : Nat), o = .slice (some ⟨g, 0, none⟩) T'.length cap ∧ i = .int .i64 j ∧ j ≤ F.length ∧ OwnSols C wq o T' ∧ OwnSols D wq (.slice (some ⟨gF, 0, none⟩) F.length cF) F ∧ g ≠ gF ∧ TrQ a most zs (F.map soL) (T'.map soL) k j ∧ T'.length ≤ T.length + j ∧ Later w wq ∧ C ≤ wq.heap.size) (fun _ i _ => F.length - (intOf i).toNat)
            case atStart => exact ⟨g, cap, T, 0, rfl, rfl, Nat.zero_le _, HO5.out, HOF.out, HGF.out, HQ0.out, by omega, HL5.out, HC5.out⟩
            case round =>
              clear HO5 HOF HGF HQ0 HL5 HC5 HO HP HLr HCW HB
              obtain ⟨g, cap, T', j, rfl, rfl, hj, hO, hF, hgF, hQ, hlen, hL, hCw⟩ := hrel
              have HO := hid hO
              have HFR := hid hF
              have HQ2 := hid hQ
              have HL := hid hL
              have HCW := hid hCw
              have HGF := hid hgF
              by_cases hjl : j < F.length
              · have hjI : (j : Int) < (F.length : Int) := by omega
                have hj0 : (0 : Int) ≤ (j : Int) := by omega
                obtain ⟨d0, d1, d2, d3⟩ := hF.fourAt rfl j hjl
                have hmj : (F.map soL).getD j [] = soL (F.getD j noSo) := by simp [hjl]
                have hjm : j < (F.map soL).length := by rw [List.length_map]; exact hjl
                obtain ⟨u, hu⟩ : ∃ u, F.getD j noSo = u := ⟨_, rfl⟩
                rw [hu] at d0 d1 d2 d3 hmj
                obtain ⟨p, q, r, s⟩ := u
                simp only at d0 d1 d2 d3
                have hhd : ((F.map soL).getD j []).getD 0 0 = p := by rw [hmj]; exact soL_head (p, q, r, s)
                have hA := Later.alloc wr (.cells #[.int .i64 p, .int .i64 q, .int .i64 r, .int .i64 s] 48)
                obtain ⟨e0, e1, e2, e3⟩ := arr4_alloc wr p q r s
                have HO2 := hid (HO.out.later hA)
                have HF2 := hid (HFR.out.later hA)
                have HL2 := hid (HL.out.trans hA)
                have hgb : g < wr.heap.size := (hO.lt g rfl).2
                have hfb : gF < wr.heap.size := (hF.lt gF rfl).2
                have hDw : D ≤ wr.heap.size := Nat.le_trans (hF.lt gF rfl).1 (Nat.le_of_lt hfb)
                have hsz : (wr.alloc (.cells #[.int .i64 p, .int .i64 q, .int .i64 r, .int .i64 s] 48)).heap.size = wr.heap.size + 1 := by simp
                have hl504 : T'.length ≤ 504 := by have := HFL.out; omega
                have HCT := hid (fun w' (k : Later (wr.alloc (.cells #[.int .i64 p, .int .i64 q, .int .i64 r, .int .i64 s] 48)) w') => containsS_any g cap T' (p, q, r, s) w' (by omega) (HO2.out.later k))
                by_cases hp : p ≤ most
                · by_cases hmem : (p, q, r, s) ∈ T'
                  · have hQn := hid (HQ2.out.old (by rw [hmj]; exact List.mem_map_of_mem hmem))
                    have hdc : decide ((p, q, r, s) ∈ T') = true := decide_eq_true hmem
                    rw [hdc] at HCT
                    clear hO hF hgF hQ hL hCw hmj hhd hu hmem hdc hjm
                    go_wp2_with fail
                    refine (HCT.out _ (Later.refl _)).mono ?_
                    rintro e w6 ⟨rfl, hL6⟩
                    have HO6 := hid (HO2.out.later hL6)
                    have HF6 := hid (HF2.out.later hL6)
                    have HL6 := hid (HL2.out.trans hL6)
                    have HC6 := hid (show C ≤ w6.heap.size by have := hL6.size; have := HCW.out; omega)
                    clear hL6 d0 d1 d2 d3 e0 e1 e2 e3
                    go_wp2_with fail
                    go_roundw
                    case rel => exact ⟨g, cap, T', j + 1, rfl, by go_num, hjl, HO6.out, HF6.out, HGF.out, hQn.out, by omega, HL6.out, HC6.out⟩
                    case measure => simp [intOf]; omega
                  · have hQn := hid (HQ2.out.new hjm (by rw [hhd]; exact hp) (by rw [hmj]; intro hc; obtain ⟨u, hu1, hu2⟩ := List.mem_map.1 hc; rw [soL_inj hu2] at hu1; exact hmem hu1))
                    rw [hmj] at hQn
                    have hdc : decide ((p, q, r, s) ∈ T') = false := decide_eq_false hmem
                    rw [hdc] at HCT
                    clear hO hF hgF hQ hL hCw hmj hhd hu hmem hdc hjm
                    go_wp2_with fail
                    refine (HCT.out _ (Later.refl _)).mono ?_
                    rintro e w6 ⟨rfl, hL6⟩
                    have hs6 := hL6.size
                    replace e0 := hL6.cell e0
                    replace e1 := hL6.cell e1
                    replace e2 := hL6.cell e2
                    replace e3 := hL6.cell e3
                    have hA6 := Later.alloc w6 (.cells #[.int .i64 p, .int .i64 q, .int .i64 r, .int .i64 s] 48)
                    have HO6 := hid ((HO2.out.later hL6).later hA6)
                    have HF6 := hid ((HF2.out.later hL6).later hA6)
                    have HL6 := hid ((HL2.out.trans hL6).trans hA6)
                    have hC6 : C ≤ w6.heap.size := by have := HCW.out; omega
                    have hwl : w.heap.size ≤ w6.heap.size := by have := HLC.out; omega
                    clear hL6 hA6 d0 d1 d2 d3
                    go_wp2_with (at_builtin; refine wpList_append_lies _ (by rfl) _ _ _ (by rfl) C 48 i0 (.agg #[.int .i64 0, .int .i64 0, .int .i64 0, .int .i64 0]) 4 32 Try.underlying51 hi hz0 hz1 hz2 rfl (by omega) _ T'.length (soCells T') (by rfl) (by exact HO6.out) ⟨w6.heap.size, 0, none⟩ 1 1 [.int .i64 p, .int .i64 q, .int .i64 r, .int .i64 s] (by rfl) (by rfl) (World.news_of_block (cs := #[.int .i64 p, .int .i64 q, .int .i64 r, .int .i64 s]) (t := 48) (fr := (0, 0)) (heap_alloc_new w6 _)) (by simp [Value.oneCell']) (by omega) (by unfold maxLen; omega) (by omega) (by simp; omega) (w6.heap.size + 1) (by simp) ?_)
                    intro g2 cap2 w9 hown9 hgrow hat hglt
                    have HO9 := hid (show OwnSols C w9 (.slice (some ⟨g2, 0, none⟩) (T'.length + 1) cap2) (T' ++ [(p, q, r, s)]) by
                      unfold OwnSols; rw [soCells_snoc, List.length_append]; exact hown9)
                    have HF9 := hid (show OwnSols D w9 (.slice (some ⟨gF, 0, none⟩) F.length cF) F from ownsRow_keepS HF6.out fun bk hbk => hgrow.block bk (HF6.out.lt bk hbk).2 (fun e => by
                      have e1 : gF = bk := Option.some.inj hbk
                      have e2 : g = bk := Option.some.inj e.symm
                      exact HGF.out (e2.trans e1.symm)))
                    have HGF9 := hid (show g2 ≠ gF by
                      rcases hat with e | e
                      · have e2 : g = g2 := Option.some.inj e
                        rw [← e2]; exact HGF.out
                      · omega)
                    have HL9 := hid (show Later w w9 from HL6.out.grown hgrow (by simp; omega) (fun b' hb' => by have := (HO6.out.lt b' hb').1; have := HLC.out; omega))
                    have HC9 := hid (show C ≤ w9.heap.size by have := hgrow.size; simp at this; omega)
                    clear hown9 hgrow hat e0 e1 e2 e3
                    go_wp2_with fail
                    go_roundw
                    case rel => exact ⟨g2, cap2, T' ++ [(p, q, r, s)], j + 1, by simp, by go_num, hjl, HO9.out, HF9.out, HGF9.out, by rw [List.map_append]; exact hQn.out, by simp; omega, HL9.out, HC9.out⟩
                    case measure => simp [intOf]; omega
                · have hQn := hid (HQ2.out.skip (by rw [hhd]; exact hp))
                  clear hO hF hgF hQ hL hCw hmj hhd hu hjm
                  go_wp2_with fail
                  go_roundw
                  case rel => exact ⟨g, cap, T', j + 1, rfl, by go_num, hjl, HO2.out, HF2.out, HGF.out, hQn.out, by omega, HL2.out, by rw [hsz]; have := HCW.out; omega⟩
                  case measure => simp [intOf]; omega
              · obtain rfl : j = F.length := by omega
                have HPP := hid (show TrP a most zs (T'.map soL) (k + 1) from TrQ.drop (U := F.map soL) (by rw [List.length_map]; exact hQ))
                have hkt : k + 1 ≤ T'.length := by have := hQ.lt; rw [List.length_map] at this; omega
                clear hO hF hgF hQ hL hCw
                by_cases h5 : 500 < T'.length
                · have h5I : (500 : Int) < (T'.length : Int) := by omega
                  have HR := hid (tree_many HPP.out.nod HPP.out.rch (by rw [List.length_map]; exact h5))
                  go_wp2_with fail
                  go_ret2
                  exact ⟨none, HA.out _ (by rw [HZ.out]; exact HR.out), _, rfl, OwnRows.noneH _ _ _, HL.out⟩
                · have h5I : ¬ (500 : Int) < (T'.length : Int) := by omega
                  go_wp2_with fail
                  go_roundw
                  case rel => exact ⟨g, cap, T', k + 1, rfl, by go_num, HO.out, HPP.out, hkt, by omega, HL.out, HCW.out⟩
                  case measure => simp [intOf]; omega
          · have HR := hid (hP.out (by omega) hl5)
            clear hO hP hL hCw
            go_wp2_with fail
            refine (sortS_any w _ T wr HLr.out HLC.out (by omega) HO.out).mono ?_
            rintro e w5 ⟨rfl, hO5, hL5⟩
            have HO5 := hid (hO5.sols (by have : (sortQ T).length = T.length := List.length_mergeSort _; omega))
            have hsl : (sortQ T).length = T.length := List.length_mergeSort _
            have HL5 := hid hL5
            clear hO5 hL5
            go_wp2_with fail
            refine (listsOfS_any _ (sortQ T) w5 (by omega) HO5.out).mono ?_
            rintro e w6 ⟨v6, rfl, ho6, hL6⟩
            obtain ⟨a6, c6, rfl, _⟩ := ho6.shape
            have hlm : ((sortQ T).map soL).length = T.length := by rw [List.length_map]; exact hsl
            have ho6' := ho6.wide HL5.out.size (Nat.le_refl _)
            rw [hlm] at ho6'
            have HO6 := hid ho6'
            have HL6 := hid (HL5.out.trans hL6)
            clear ho6 hL6 ho6'
            go_wp2_with fail
            go_ret2
            exact ⟨_, HA.out _ (by rw [HZ.out]; exact HR.out), _, rfl, HO6.out, HL6.out⟩
      · have HA := hid (show TreeAns (qL x y z t) a b most none by unfold TreeAns treeB; rw [hd0, decide_eq_false hx]; simp)
        clear hs hS hq hd0
        go_enter Try.func13, Try.ntmps13
        go_wp2_with fail
        refine (solutionOf_yes _ x y z t a b _ HS.out HQ.out H.out).mono ?_
        rintro e w1 ⟨rfl, hL⟩
        obtain ⟨c0, c1, c2, c3⟩ := arr4_alloc w1 x y z t
        have HL := hid (hL.trans (Later.alloc w1 (.cells #[.int .i64 x, .int .i64 y, .int .i64 z, .int .i64 t] 48)))
        clear hL
        go_wp2_with fail
        go_ret2
        exact ⟨none, HA.out, _, rfl, OwnRows.noneH _ _ _, HL.out⟩
    · have HA := hid (show TreeAns (qL x y z t) a b most none by unfold TreeAns treeB; rw [decide_eq_false hm]; simp)
      clear hs hS hq hd0
      go_enter Try.func13, Try.ntmps13
      go_wp2_with fail
      refine (solutionOf_yes _ x y z t a b _ HS.out HQ.out H.out).mono ?_
      rintro e w1 ⟨rfl, hL⟩
      obtain ⟨c0, c1, c2, c3⟩ := arr4_alloc w1 x y z t
      have HL := hid (hL.trans (Later.alloc w1 (.cells #[.int .i64 x, .int .i64 y, .int .i64 z, .int .i64 t] 48)))
      clear hL
      go_wp2_with fail
      go_ret2
      exact ⟨none, HA.out, _, rfl, OwnRows.noneH _ _ _, HL.out⟩


/-- All numbers that do not rise and go on a list, m of them. -/
def visP : Nat → List Int → Nat → List (List Int)
  | 0, pre, _ => [pre]
  | m + 1, pre, most => (List.range most).flatMap fun x => visP m (pre ++ [((x + 1 : Nat) : Int)]) (x + 1)
def allF (a b : Int) (m : Nat) (pre : List Int) (most : Nat) : List (List Int) := (visP m pre most).filter fun l => solB l a b
def allK (a b : Int) (m : Nat) (pre : List Int) (k : Nat) : List (List Int) := (List.range k).flatMap fun x => allF a b m (pre ++ [((x + 1 : Nat) : Int)]) (x + 1)
theorem filter_flatMapH {α β : Type} (l : List α) (f : α → List β) (p : β → Bool) : (l.flatMap f).filter p = l.flatMap fun x => (f x).filter p := by
  induction l with
  | nil => rfl
  | cons x l ih => simp [ih]
theorem allF_succ (a b : Int) (m : Nat) (pre : List Int) (most : Nat) : allF a b (m + 1) pre most = allK a b m pre most := by
  unfold allK
  show ((List.range most).flatMap fun x => visP m (pre ++ [((x + 1 : Nat) : Int)]) (x + 1)).filter _ = _
  rw [filter_flatMapH]; rfl
theorem allK_succ (a b : Int) (m : Nat) (pre : List Int) (k : Nat) : allK a b m pre (k + 1) = allK a b m pre k ++ allF a b m (pre ++ [((k + 1 : Nat) : Int)]) (k + 1) := by
  unfold allK
  rw [List.range_succ, List.flatMap_append]
  simp
theorem visP_len (m : Nat) : ∀ (pre : List Int) (most : Nat), most ≤ 40 → (visP m pre most).length ≤ 40 ^ m := by
  induction m with
  | zero => intro pre most _; simp [visP]
  | succ m ih =>
    intro pre most hm
    have key : ∀ k, k ≤ most → ((List.range k).flatMap fun x => visP m (pre ++ [((x + 1 : Nat) : Int)]) (x + 1)).length ≤ k * 40 ^ m := by
      intro k
      induction k with
      | zero => intro _; simp
      | succ k ih2 =>
        intro hk
        rw [List.range_succ, List.flatMap_append, List.length_append]
        have h1 := ih2 (by omega)
        have h2 := ih (pre ++ [((k + 1 : Nat) : Int)]) (k + 1) (by omega)
        simp only [List.flatMap_cons, List.flatMap_nil, List.append_nil]
        rw [Nat.add_mul, Nat.one_mul]
        omega
    have h3 := key most (Nat.le_refl _)
    have h4 : most * 40 ^ m ≤ 40 * 40 ^ m := Nat.mul_le_mul_right _ hm
    show ((List.range most).flatMap fun x => visP m (pre ++ [((x + 1 : Nat) : Int)]) (x + 1)).length ≤ _
    rw [Nat.pow_succ, Nat.mul_comm (40 ^ m) 40]
    omega
theorem allK_len (a b : Int) (m : Nat) (pre : List Int) (k : Nat) (hk : k ≤ 40) : (allK a b m pre k).length ≤ 40 ^ (m + 1) := by
  rw [← allF_succ]
  exact Nat.le_trans (List.length_filter_le _ _) (visP_len (m + 1) pre k hk)
theorem pow40 (m : Nat) (hm : m ≤ 4) : 40 ^ m ≤ 2560000 := by
  have h : m = 0 ∨ m = 1 ∨ m = 2 ∨ m = 3 ∨ m = 4 := by omega
  rcases h with rfl | rfl | rfl | rfl | rfl <;> decide
theorem l1OwnV_any (v : Value) (zs : List Int) (w : World) (hb : zs.length ≤ 1000) (h : Ints w v zs) :
    Calls Try.prog 37 #[v] w fun e w' => MadeInts w zs e w' := by
  obtain ⟨a, c, rfl, hl, hc⟩ := id h
  cases a with
  | none =>
    have h0 : zs = [] := by
      cases zs with
      | nil => rfl
      | cons z zs => obtain ⟨ad, e, _⟩ := hc 0 (by simp); cases e
    subst h0
    exact l1OwnN_any c w
  | some ad => exact l1OwnH_any ad zs.length c zs w rfl (by omega) h
theorem OwnPs.append {lo hi1 lo2 : Nat} {w w' : World} {o v v' : Value} {ps qs : List Pr} (h1 : OwnPs lo hi1 w o ps) (h2 : OwnPs lo2 w.heap.size w v qs) (hh : hi1 ≤ lo2) (hl : lo ≤ lo2) (hi1w : hi1 ≤ w.heap.size)
    (ho : w'.ownsRow lo 22 1 v' (ps.length + qs.length) (ps.map (·.1) ++ qs.map (·.1))) (hg : w.grownBy w' o.ownBlock) : OwnPs lo w'.heap.size w' v' (ps ++ qs) := by
  refine ⟨by rw [List.length_append, List.map_append]; exact ho, fun k hk => (ho.lt k hk).2, fun p hp => ?_, ?_⟩
  · rcases List.mem_append.1 hp with h | h
    · exact ((h1.ints p h).keptH h1.own hg).wide (Nat.le_refl _) (Nat.le_trans hi1w hg.size)
    · exact ((h2.ints p h).keptH h1.own hg).wide hl hg.size
  · rw [List.pairwise_append]
    exact ⟨h1.ne, h2.ne, fun p hp q hq => (h1.ints p hp).neOld (h2.ints q hq) hh⟩

theorem OwnPs.keepB {lo hi : Nat} {w w' : World} {v : Value} {ps : List Pr} {g : Option Nat} (h : OwnPs lo hi w v ps) (hg : w.grownBy w' g) (hv : ∀ b, v.ownBlock = some b → g ≠ some b) (hp : ∀ p ∈ ps, ∀ b, p.1.ownBlock = some b → g ≠ some b) : OwnPs lo hi w' v ps :=
  ⟨ownsRow_keep h.own fun b hb => hg.block b (h.own.lt b hb).2 (fun e => hv b hb e.symm), h.blk, fun p hp' => ⟨ownsRow_keep (h.ints p hp').1 fun b hb => hg.block b ((h.ints p hp').1.lt b hb).2 (fun e => hp p hp' b hb e.symm), (h.ints p hp').2⟩, h.ne⟩
/-- A row that reads as the rows of these pairs. -/
def FrontR (w : World) (v : Value) (fs : List Pr) : Prop := ∃ a c, v = .slice a fs.length c ∧ ∀ i, i < fs.length → ∃ g, a = some ⟨g, 0, none⟩ ∧ w.cell? ⟨g, i, none⟩ = some (fs.getD i (undef, [])).1
theorem FrontR.later {w w' : World} {v : Value} {fs : List Pr} (h : FrontR w v fs) (k : Later w w') : FrontR w' v fs := by
  obtain ⟨a, c, rfl, hc⟩ := h
  exact ⟨a, c, rfl, fun i hi => by obtain ⟨g, e, h⟩ := hc i hi; exact ⟨g, e, k.cell h⟩⟩
theorem frontR_of {lo : Nat} {w : World} {v : Value} {fs : List Pr} (h : w.ownsRow lo 22 1 v fs.length (fs.map (·.1))) : FrontR w v fs := by
  rcases id h.2 with ⟨rfl, h0⟩ | ⟨g, cap, cur, rfl, _⟩
  · exact ⟨none, 0, by rw [h0], fun i hi => by omega⟩
  · exact ⟨_, cap, rfl, fun i hi => ⟨g, rfl, by rw [h.cellAt i (by omega)]; simp [hi]⟩⟩
theorem FrontR.keepB {w w' : World} {v : Value} {fs : List Pr} {g : Option Nat} (h : FrontR w v fs) (hg : w.grownBy w' g) (hv : ∀ b, v.ownBlock = some b → g ≠ some b) : FrontR w' v fs := by
  obtain ⟨a, c, rfl, hc⟩ := h
  refine ⟨a, c, rfl, fun i hi => ?_⟩
  obtain ⟨gf, rfl, h⟩ := hc i hi
  exact ⟨gf, rfl, cell_keep h (hg.block gf (World.block_lt_of_cell? w _ h) (fun e => hv gf rfl e.symm))⟩
theorem putPs_mem {ps : List Pr} {p q : Pr} (h : q ∈ ps) : q ∈ putPs ps p := by
  unfold putPs
  split
  · exact h
  · exact (insPs_perm ps p).mem_iff.2 (List.mem_cons_of_mem _ h)
theorem putPs_from {ps : List Pr} {p q : Pr} (h : q ∈ putPs ps p) : q ∈ ps ∨ q = p := by
  unfold putPs at h
  split at h
  · exact .inl h
  · rcases List.mem_cons.1 ((insPs_perm ps p).mem_iff.1 h) with h | h
    · exact .inr h
    · exact .inl h
theorem inPs_mem {ps : List Pr} {a : List Int} (h : inPs ps a) : a ∈ ps.map (·.2) := by
  obtain ⟨h1, h2⟩ := h
  have h3 : putKp ps a < (ps.map (·.2)).length := by simpa using h2
  rw [getD_atT _ _ h3] at h1
  rw [← h1]; exact List.getElem_mem _
theorem OwnPs.one {lo hi : Nat} {w : World} {u : Value} {a : List Int} (hu : OwnInts lo hi w u a) (hlo : lo ≤ w.heap.size) (hhi : hi ≤ w.heap.size) : OwnPs lo (w.alloc (.cells #[u] 22)).heap.size (w.alloc (.cells #[u] 22)) (.slice (some ⟨w.heap.size, 0, none⟩) 1 1) [(u, a)] := by
  have h := World.ownsRow_lit (e := 22) (size := 1) w #[u] 1 (Nat.le_refl _) (by unfold maxLen; omega) (by simp)
  refine ⟨ownsRow_base h hlo, fun k hk => (h.lt k hk).2, fun p hp => ?_, List.pairwise_singleton _ _⟩
  rw [List.mem_singleton] at hp
  subst hp
  exact (hu.later (Later.alloc w _)).wide (Nat.le_refl _) (by simp; omega)
/-- What the next front's row is apart from. -/
def Apart (vn vo vf : Value) (ps : List Pr) : Prop := ∀ g, vn.ownBlock = some g → vo.ownBlock ≠ some g ∧ (∀ p ∈ ps, p.1.ownBlock ≠ some g) ∧ vf.ownBlock ≠ some g

set_option maxRecDepth 20000 in
set_option maxHeartbeats 4000000 in
theorem specTreeUpTo_any (v : Value) (zs : List Int) (a b most : Int) (w : World) (h : IntsC w v zs) :
    Calls Try.prog 11 #[v, .int .i64 a, .int .i64 b, .int .i64 most] w fun e w' => ∃ o, TreeAns zs a b most o ∧ RowsAns w o e w' := by
  obtain ⟨p, cap, rfl, hl, _⟩ := id h.1
  have H := hid h
  clear h
  obtain ⟨i0, hi, hz0, hz1, hz2⟩ := info_parts Try.infoInts
  cases hg : givenB a b
  · have HG := hid hg
    have HA := hid (show TreeAns zs a b most none by unfold TreeAns treeB; rw [hg]; simp)
    clear hg
    go_enter Try.func11, Try.ntmps11
    go_wp2_with fail
    refine (huGiven_as a b _ _ HG.out).mono ?_
    rintro e w' ⟨rfl, rfl⟩
    go_wp2_with fail
    go_ret2
    exact ⟨none, HA.out, _, rfl, OwnRows.noneH _ _ _, Later.refl _⟩
  · have HG := hid hg
    cases hs : solB zs a b
    · have HS := hid hs
      have HA := hid (show TreeAns zs a b most none by unfold TreeAns treeB; rw [hg, hs]; simp)
      clear hg hs
      go_enter Try.func11, Try.ntmps11
      go_wp2_with fail
      refine (huGiven_as a b _ _ HG.out).mono ?_
      rintro e w' ⟨rfl, rfl⟩
      go_wp2_with fail
      refine (huGood_as _ zs a b _ _ HG.out HS.out H.out.1).mono ?_
      rintro e w' ⟨rfl, hL⟩
      have HL := hid hL
      clear hL
      go_wp2_with fail
      go_ret2
      exact ⟨none, HA.out, _, rfl, OwnRows.noneH _ _ _, HL.out⟩
    · have HSol := hid (Sol.of hg hs)
      have HS := hid hs
      obtain ⟨ad, c, e, hc0⟩ : ∃ ad c, Value.slice p zs.length cap = .slice (some ad) zs.length c ∧ w.cell? ad = some (.int .i64 (zs.getD 0 0)) := by
        obtain ⟨a', c', e', _, hcc⟩ := H.out.1
        obtain ⟨ad, rfl, hx⟩ := hcc 0 (by have := HSol.out.hl; omega)
        have e0 : ad.add 0 = ad := by cases ad; simp [Addr.add]
        rw [e0] at hx
        exact ⟨ad, c', e', hx⟩
      simp only [Value.slice.injEq, true_and] at e
      obtain ⟨rfl, rfl⟩ := e
      have hln : 0 < zs.length := by have := HSol.out.hl; omega
      have hlI : (0 : Int) < (zs.length : Int) := by omega
      have HTB := hid (show treeB zs a b most = (within (zs.getD 0 0) 100000 most) by unfold treeB within; rw [hg, hs]; simp [Bool.and_comm])
      have HC0 := hid hc0
      obtain ⟨x, hx⟩ : ∃ x, zs.getD 0 0 = x := ⟨_, rfl⟩
      rw [hx] at HTB HC0
      clear hg hs hc0
      cases hw : within x 100000 most
      · have HW := hid hw
        have HA := hid (show TreeAns zs a b most none by unfold TreeAns; rw [HTB.out, hw]; simp)
        clear hw hx
        go_enter Try.func11, Try.ntmps11
        go_wp2_with fail
        refine (huGiven_as a b _ _ HG.out).mono ?_
        rintro e w' ⟨rfl, rfl⟩
        go_wp2_with fail
        refine (huGood_as _ zs a b _ _ HG.out HS.out H.out.1).mono ?_
        rintro e w' ⟨rfl, hL⟩
        have HL := hid hL
        have c0 := hL.cell HC0.out
        clear hL
        go_wp2_with fail
        refine (l1In_as _ _ _ _ _ HW.out).mono ?_
        rintro e w2 ⟨rfl, rfl⟩
        go_wp2_with fail
        go_ret2
        exact ⟨none, HA.out, _, rfl, OwnRows.noneH _ _ _, HL.out⟩
      · have HW := hid hw
        have HA := hid (fun o (ho : TreeRes a most zs o) => show TreeAns zs a b most o by unfold TreeAns; rw [if_pos (by rw [HTB.out, hw])]; exact ho)
        have HT0 := hid (TrI.start a most zs)
        clear hw hx
        go_enter Try.func11, Try.ntmps11
        go_wp2_with fail
        refine (huGiven_as a b _ _ HG.out).mono ?_
        rintro e w' ⟨rfl, rfl⟩
        go_wp2_with fail
        refine (huGood_as _ zs a b _ _ HG.out HS.out H.out.1).mono ?_
        rintro e w1 ⟨rfl, hL⟩
        have HL := hid hL
        have c0 := hL.cell HC0.out
        clear hL
        go_wp2_with fail
        refine (l1In_as _ _ _ _ _ HW.out).mono ?_
        rintro e w2 ⟨rfl, rfl⟩
        clear c0
        go_wp2_with fail
        refine (l1OwnV_any _ zs w1 (by have := HSol.out.hl; omega) (H.out.1.later HL.out)).mono ?_
        rintro e w3 ⟨v3, rfl, ho3, hL3⟩
        obtain ⟨a3, c3, rfl, _⟩ := ho3.shape
        have HO3 := hid (OwnPs.one (ho3.wide HL.out.size (Nat.le_refl _)) (Nat.le_trans HL.out.size hL3.size) (Nat.le_refl _))
        have HL3 := hid ((HL.out.trans hL3).trans (Later.alloc w3 (.cells #[.slice a3 zs.length c3] 22)))
        clear ho3 hL3
        go_wp2_with fail
        have HW3 := hid (show w.heap.size ≤ (w3.alloc (.cells #[.slice a3 zs.length c3] 22)).heap.size from HL3.out.size)
        generalize w3.alloc (.cells #[.slice a3 zs.length c3] 22) = w4 at HO3 HL3 HW3 ⊢
        obtain ⟨lo, hlo⟩ : ∃ lo, w.heap.size = lo := ⟨_, rfl⟩
        have HLO := hid hlo
        rw [hlo] at HO3 HW3
        clear hlo
        go_loopw [10, 11] (fun o f wr => ∃ (ps fs : List Pr), OwnPs lo wr.heap.size wr o ps ∧ FrontR wr f fs ∧ (∀ q ∈ fs, q ∈ ps) ∧ TrI a most zs (ps.map (·.2)) (fs.map (·.2)) [] ∧ ps.length ≤ 500 ∧ fs.length ≤ 500 ∧ Later w wr ∧ lo ≤ wr.heap.size) (fun o f _ => 2 * (600 - lenOfH o) + min 1 (lenOfH f))
        case atStart => exact ⟨[(.slice a3 zs.length c3, zs)], [(.slice a3 zs.length c3, zs)], HO3.out, frontR_of HO3.out.own, fun q h => h, HT0.out, by simp, by simp, HL3.out, HW3.out⟩
        case round =>
          clear HO3 HL3 HT0 HW3
          obtain ⟨ps, fs, hO, hF, hsub, hI, h5, hf5, hL, hW⟩ := hrel
          obtain ⟨ao, co, rfl, hoc⟩ := ownsRow_shape hO.own
          obtain ⟨af, cf, hfe, _⟩ := id hF
          subst hfe
          have HO := hid hO
          have HF := hid hF
          have HSB := hid hsub
          have HI := hid hI
          have HLr := hid hL
          have HW := hid hW
          by_cases hf0 : fs.length = 0
          · have hfe : fs = [] := List.eq_nil_of_length_eq_zero hf0
            have HR := hid (show TreeRes a most zs (some (ps.map (·.2))) from TrI.done (by rw [hfe] at hI; exact hI) (by rw [List.length_map]; exact h5))
            have hor := hO.rows
            have hfI : ¬ (0 : Int) < (fs.length : Int) := by omega
            have hlm : (ps.map (·.2)).length = ps.length := List.length_map _
            rw [← HLO.out] at hor
            have HOR := hid hor
            clear hO hF hsub hI hL hW hor hfe hoc
            go_wp2_with fail
            go_ret2
            exact ⟨_, HA.out _ HR.out, _, rfl, HOR.out, HLr.out⟩
          · have hfI : (0 : Int) < (fs.length : Int) := by omega
            clear hO hF hsub hI hL hW hoc
            go_wp2_with fail
            go_loopw [10, 12, 46] (fun o n i wq => ∃ (ps' qs : List Pr) (k : Nat), i = .int .i64 k ∧ k ≤ fs.length ∧ OwnPs lo wq.heap.size wq o ps' ∧ FrontR wq (.slice af fs.length cf) fs ∧ (∀ q ∈ fs, q ∈ ps') ∧ (∀ q ∈ qs, q ∈ ps') ∧ wq.ownsRow lo 22 1 n qs.length (qs.map (·.1)) ∧ Apart n o (.slice af fs.length cf) ps' ∧ TrI a most zs (ps'.map (·.2)) ((fs.drop k).map (·.2)) (qs.map (·.2)) ∧ ps'.length ≤ 500 ∧ ps.length + qs.length ≤ ps'.length ∧ Later w wq ∧ lo ≤ wq.heap.size) (fun _ _ i _ => fs.length - (intOf i).toNat)
            case atStart => exact ⟨ps, [], 0, rfl, Nat.zero_le _, HO.out, HF.out, HSB.out, fun q h => by simp at h, World.ownsRow_nil _ _ _ _, fun g h => by simp [Value.ownBlock] at h, HI.out, h5, by simp, HLr.out, HW.out⟩
            case round =>
              clear HO HF HSB HI HLr HW
              obtain ⟨ps', qs, k, rfl, hk, hO, hF, hfs, hqs, hN, hap, hI, h5', hgr, hL, hW⟩ := hrel
              obtain ⟨ao', co', rfl, hoc'⟩ := ownsRow_shape hO.own
              obtain ⟨an, cn, rfl, hnc⟩ := ownsRow_shape hN
              have HO := hid hO
              have HF := hid hF
              have HFS := hid hfs
              have HQS := hid hqs
              have HN := hid hN
              have HAP := hid hap
              have HI := hid hI
              have HL := hid hL
              have HW := hid hW
              by_cases hlt : k < fs.length
              · have hltI : (k : Int) < (fs.length : Int) := by omega
                have hk0 : (0 : Int) ≤ (k : Int) := by omega
                obtain ⟨_, _, hfe, hfc⟩ := id hF
                simp only [Value.slice.injEq, true_and] at hfe
                obtain ⟨rfl, rfl⟩ := hfe
                obtain ⟨gf, rfl, hcell⟩ := hfc k hlt
                have hcm : fs.getD k (undef, []) ∈ ps' := hfs _ (by rw [List.getD_eq_getElem?_getD, List.getElem?_eq_getElem hlt, Option.getD_some]; exact List.getElem_mem _)
                have hdr : (fs.drop k).map (·.2) = (fs.getD k (undef, [])).2 :: (fs.drop (k + 1)).map (·.2) := by
                  rw [List.drop_eq_getElem_cons hlt, List.map_cons, List.getD_eq_getElem?_getD, List.getElem?_eq_getElem hlt, Option.getD_some]
                have hoi := hO.ints _ hcm
                have hrc := hI.rch _ (List.mem_map_of_mem (f := fun p : Pr => p.2) hcm)
                rw [hdr] at hI
                obtain ⟨c, hc⟩ : ∃ c, fs.getD k (undef, []) = c := ⟨_, rfl⟩
                rw [hc] at hcell hoi hrc hI
                obtain ⟨cv, cl⟩ := c
                simp only at hcell hoi hrc hI
                obtain ⟨ac, cc, rfl, _⟩ := hoi.shape
                have HIC := hid hoi.intsC
                have HSC := hid (hrc.sol HSol.out)
                have HJ0 := hid hI.take
                clear hO hF hfs hqs hN hap hI hL hW hcm hdr hoi hrc hc hfc hoc' hnc HI
                go_wp2_with fail
                refine (huUp_any _ cl a b wr HSC.out HIC.out).mono ?_
                rintro e w5 ⟨vu, us, rfl, hou, hmu, hL5⟩
                obtain ⟨au, cu, rfl, _⟩ := ownsRow_shape hou.own
                have hul : us.length ≤ 4 := by
                  have h1 := upF_len a cl cl.length
                  have h2 := HSC.out.hl
                  rw [← hmu, List.length_map] at h1
                  omega
                have HOU := hid hou
                have HMU := hid hmu
                have HO5 := hid ((HO.out.later hL5).wide (Nat.le_refl _) hL5.size)
                have HF5 := hid (HF.out.later hL5)
                have HN5 := hid (show w5.ownsRow lo 22 1 (.slice an qs.length cn) qs.length (qs.map (·.1)) from ownsRow_keep HN.out fun b hb => hL5.block b (HN.out.lt b hb).2)
                have HAU := hid (show ∀ g, (Value.slice an qs.length cn).ownBlock = some g → (Value.slice au us.length cu).ownBlock ≠ some g ∧ ∀ p ∈ us, p.1.ownBlock ≠ some g from fun g hg => by
                  have h1 := (HN.out.lt g hg).2
                  refine ⟨fun e => ?_, fun p hp e => ?_⟩
                  · have := (HOU.out.own.lt g e).1; omega
                  · have := ((HOU.out.ints p hp).1.lt g e).1; omega)
                have HNE := hid (show ∀ i, 0 ≤ i → i < us.length → ∀ p ∈ ps', NePr p (us.getD i (undef, [])) from fun i _ hi p hp g hg e => by
                  have h1 := ((HO.out.ints p hp).1.lt g hg).2
                  have hm : us.getD i (undef, []) ∈ us := by rw [List.getD_eq_getElem?_getD, List.getElem?_eq_getElem hi, Option.getD_some]; exact List.getElem_mem _
                  have := ((HOU.out.ints _ hm).1.lt g e).1; omega)
                have HL5 := hid (HL.out.trans hL5)
                have HW5 := hid (Nat.le_trans HW.out hL5.size)
                obtain ⟨D, hD⟩ : ∃ D, wr.heap.size = D := ⟨_, rfl⟩
                obtain ⟨E, hE⟩ : ∃ E, w5.heap.size = E := ⟨_, rfl⟩
                have HEE := hid (show E ≤ w5.heap.size by omega)
                have HLD := hid (show lo ≤ D by have := HW.out; omega)
                rw [hD, hE] at HOU
                clear hou hmu hL5 hcell hD hE
                go_wp2_with fail
                go_loopw [10, 12, 54] (fun o n i wq => ∃ (ps2 qs2 : List Pr) (j : Nat), i = .int .i64 j ∧ j ≤ us.length ∧ OwnPs lo wq.heap.size wq o ps2 ∧ FrontR wq (.slice (some ⟨gf, 0, none⟩) fs.length cf) fs ∧ (∀ q ∈ fs, q ∈ ps2) ∧ (∀ q ∈ qs2, q ∈ ps2) ∧ wq.ownsRow lo 22 1 n qs2.length (qs2.map (·.1)) ∧ Apart n o (.slice (some ⟨gf, 0, none⟩) fs.length cf) ps2 ∧ OwnPs D E wq (.slice au us.length cu) us ∧ (∀ g, n.ownBlock = some g → (Value.slice au us.length cu).ownBlock ≠ some g ∧ ∀ p ∈ us, p.1.ownBlock ≠ some g) ∧ (∀ i, j ≤ i → i < us.length → ∀ p ∈ ps2, NePr p (us.getD i (undef, []))) ∧ TrJ a most zs cl (ps2.map (·.2)) ((fs.drop (k + 1)).map (·.2)) (qs2.map (·.2)) j ∧ ps2.length ≤ 500 + j ∧ ps.length + qs2.length ≤ ps2.length ∧ Later w wq ∧ lo ≤ wq.heap.size ∧ E ≤ wq.heap.size) (fun _ _ i _ => us.length - (intOf i).toNat)
                case atStart => exact ⟨ps', qs, 0, rfl, Nat.zero_le _, HO5.out, HF5.out, HFS.out, HQS.out, HN5.out, HAP.out, HOU.out, HAU.out, HNE.out, HJ0.out, by omega, hgr, HL5.out, HW5.out, HEE.out⟩
                case round =>
                  clear HO HF HFS HQS HN HAP HL HW HO5 HF5 HN5 HOU HAU HNE HL5 HW5 HEE HJ0
                  obtain ⟨ps2, qs2, j, rfl, hj, hO, hF, hfs, hqs, hN, hap, hU, hau, hne, hJ, h5j, hgr2, hL, hW, hE⟩ := hrel
                  obtain ⟨ao2, co2, rfl, hoc2⟩ := ownsRow_shape hO.own
                  obtain ⟨an2, cn2, rfl, hnc2⟩ := ownsRow_shape hN
                  have HO := hid hO
                  have HF := hid hF
                  have HFS := hid hfs
                  have HQS := hid hqs
                  have HN := hid hN
                  have HAP := hid hap
                  have HU := hid hU
                  have HAU := hid hau
                  have HNE := hid hne
                  have HJ := hid hJ
                  have HL := hid hL
                  have HW := hid hW
                  have HE := hid hE
                  by_cases hjl : j < us.length
                  · have hjI : (j : Int) < (us.length : Int) := by omega
                    have hj0 : (0 : Int) ≤ (j : Int) := by omega
                    obtain ⟨gu, rfl, hcell⟩ : ∃ gu, au = some ⟨gu, 0, none⟩ ∧ wr.cell? ⟨gu, j, none⟩ = some (us.getD j (undef, [])).1 := by
                      obtain ⟨a', c', e', hcc⟩ := frontR_of hU.own
                      simp only [Value.slice.injEq, true_and] at e'
                      obtain ⟨rfl, _⟩ := e'
                      exact hcc j hjl
                    have hum : us.getD j (undef, []) ∈ us := by rw [List.getD_eq_getElem?_getD, List.getElem?_eq_getElem hjl, Option.getD_some]; exact List.getElem_mem _
                    have hui := (hU.ints _ hum).wide HLD.out hE
                    have hUj : (upF a cl cl.length).getD j [] = (us.getD j (undef, [])).2 := by rw [← HMU.out]; simp [hjl]
                    have hjU : j < (upF a cl cl.length).length := by rw [← HMU.out, List.length_map]; exact hjl
                    have hnj := hne j (Nat.le_refl _) hjl
                    have haj : ∀ g, (Value.slice an2 qs2.length cn2).ownBlock = some g → (us.getD j (undef, [])).1.ownBlock ≠ some g := fun g hg => (hau g hg).2 _ hum
                    have hnu : ∀ i, j + 1 ≤ i → i < us.length → NePr (us.getD j (undef, [])) (us.getD i (undef, [])) := fun i h1 h2 => by
                      have := List.pairwise_iff_getElem.1 hU.ne j i hjl h2 (by omega)
                      simpa [hjl, h2] using this
                    obtain ⟨u, hu⟩ : ∃ u, us.getD j (undef, []) = u := ⟨_, rfl⟩
                    rw [hu] at hcell hui hUj hnj haj hnu
                    obtain ⟨uv, ul⟩ := u
                    simp only at hcell hui hUj haj
                    obtain ⟨j1, h1, h2⟩ := upF_from (show ul ∈ upF a cl cl.length by rw [← hUj, getD_atT _ j hjU]; exact List.getElem_mem _)
                    have hul3 : 0 < ul.length := by have := (HSC.out.jump h1 h2).hl; omega
                    have hulI : (0 : Int) < (ul.length : Int) := by omega
                    obtain ⟨au2, cu2, rfl, hd0⟩ : ∃ ad c, uv = .slice (some ad) ul.length c ∧ wr.cell? ad = some (.int .i64 (ul.getD 0 0)) := by
                      obtain ⟨a', c', e', _, hcc⟩ := hui.ints
                      obtain ⟨ad, rfl, hx⟩ := hcc 0 hul3
                      have e0 : ad.add 0 = ad := by cases ad; simp [Addr.add]
                      rw [e0] at hx
                      exact ⟨ad, c', e', hx⟩
                    have HUI := hid hui
                    have HUJ := hid hUj
                    have HJU := hid hjU
                    have HNJ := hid hnj
                    have HAJ := hid haj
                    have HNU := hid hnu
                    obtain ⟨y, hy⟩ : ∃ y, ul.getD 0 0 = y := ⟨_, rfl⟩
                    rw [hy] at hd0
                    have HY := hid hy
                    clear hO hF hfs hqs hN hap hU hau hne hJ hL hW hE hoc2 hnc2 hum hui hUj hjU hnj haj hnu hu h1 h2 hy
                    by_cases hm : most < y
                    · have HJ2 := hid (HJ.out.skip (by rw [HUJ.out, HY.out]; omega))
                      go_wp2_with fail
                      go_roundw
                      case rel => exact ⟨ps2, qs2, j + 1, by go_num, hjl, HO.out, HF.out, HFS.out, HQS.out, HN.out, HAP.out, HU.out, HAU.out, fun i h1 h2 => HNE.out i (by omega) h2, HJ2.out, by omega, hgr2, HL.out, HW.out, HE.out⟩
                      case measure => simp [intOf]; omega
                    · have HPUT := hid (huPutN_any (.slice ao2 ps2.length co2) (.slice (some au2) ul.length cu2) ul ps2 wr HW.out (by omega) HO.out HUI.out HNJ.out)
                      go_wp2_with fail
                      refine HPUT.out.mono ?_
                      rintro e w6 ⟨v6, rfl, ho6, hL6, hin6, hni6⟩
                      obtain ⟨ao6, co6, rfl, _⟩ := ownsRow_shape ho6.own
                      have HO6 := hid ho6
                      have HF6 := hid (HF.out.later hL6)
                      have HN6 := hid (show w6.ownsRow lo 22 1 (.slice an2 qs2.length cn2) qs2.length (qs2.map (·.1)) from ownsRow_keep HN.out fun b hb => hL6.block b (HN.out.lt b hb).2)
                      have HU6 := hid (HU.out.later hL6)
                      have HL6 := hid (HL.out.trans hL6)
                      have hs6 := hL6.size
                      have hW6 := HW.out
                      have hE6 := HE.out
                      by_cases hin : inPs ps2 ul
                      · have hpe : putPs ps2 (.slice (some au2) ul.length cu2, ul) = ps2 := if_pos hin
                        have hve := hin6 hin
                        rw [hpe] at ho6 hve
                        have HO7 := hid ho6
                        have HVE := hid hve
                        have HPL := hid (show (putPs ps2 (.slice (some au2) ul.length cu2, ul)).length = ps2.length by rw [hpe])
                        have HJ2 := hid (HJ.out.old (by rw [HUJ.out]; exact inPs_mem hin))
                        have hni : ¬ (ps2.length : Int) < (ps2.length : Int) := by omega
                        rw [HPL.out]
                        clear ho6 hL6 hin6 hni6 hpe hve hin HO6 hd0 hcell
                        go_wp2_with fail
                        go_roundw
                        case rel => exact ⟨ps2, qs2, j + 1, by go_num, hjl, HO7.out, HF6.out, HFS.out, HQS.out, HN6.out, by rw [HVE.out]; exact HAP.out, HU6.out, HAU.out, fun i h1 h2 => HNE.out i (by omega) h2, HJ2.out, by omega, hgr2, HL6.out, by omega, by omega⟩
                        case measure => simp [intOf]; omega
                      · have hfr := hni6 hin
                        have hpl : (putPs ps2 (.slice (some au2) ul.length cu2, ul)).length = ps2.length + 1 := by
                          unfold putPs; rw [if_neg hin, (insPs_perm ps2 _).length_eq]; rfl
                        have hpm : (putPs ps2 (.slice (some au2) ul.length cu2, ul)).map (·.2) = putL (ps2.map (·.2)) ul := putPs_map ps2 _
                        have hup : ((Value.slice (some au2) ul.length cu2, ul) : Pr) ∈ putPs ps2 (.slice (some au2) ul.length cu2, ul) := by
                          unfold putPs; rw [if_neg hin]; exact (insPs_perm ps2 _).mem_iff.2 (by simp)
                        have HJ2 := hid (show TrJ a most zs cl ((putPs ps2 (.slice (some au2) ul.length cu2, ul)).map (·.2)) ((fs.drop (k + 1)).map (·.2)) (qs2.map (·.2) ++ [ul]) (j + 1) by
                          have := HJ.out.new HJU.out (by rw [HUJ.out, HY.out]; omega)
                          rw [HUJ.out] at this; rw [hpm]; exact this)
                        have HSUB := hid (fun q (h : q ∈ ps2) => putPs_mem (p := (.slice (some au2) ul.length cu2, ul)) h)
                        have HFROM := hid (fun q (h : q ∈ putPs ps2 (.slice (some au2) ul.length cu2, ul)) => putPs_from h)
                        obtain ⟨P3, hP3⟩ : ∃ P3, putPs ps2 (.slice (some au2) ul.length cu2, ul) = P3 := ⟨_, rfl⟩
                        rw [hP3] at HO6 hfr hpl hup HJ2 HSUB HFROM ⊢
                        rw [hpl] at hfr ⊢
                        have HPL := hid hpl
                        have HUP := hid hup
                        have HAP6 := hid (show Apart (.slice an2 qs2.length cn2) (.slice ao6 (ps2.length + 1) co6) (.slice (some ⟨gf, 0, none⟩) fs.length cf) P3 from fun g hg => by
                          have h1 := (HN.out.lt g hg).2
                          refine ⟨fun e => ?_, fun p hp e => ?_, (HAP.out g hg).2.2⟩
                          · have := hfr g e; omega
                          · rcases HFROM.out p hp with h | h
                            · exact (HAP.out g hg).2.1 p h e
                            · rw [h] at e; exact HAJ.out g hg e)
                        have HNE6 := hid (show ∀ i, j + 1 ≤ i → i < us.length → ∀ p ∈ P3, NePr p (us.getD i (undef, [])) from fun i h1 h2 p hp => by
                          rcases HFROM.out p hp with h | h
                          · exact HNE.out i (by omega) h2 p h
                          · rw [h]; exact HNU.out i h1 h2)
                        have hni : (ps2.length : Int) < ((ps2.length + 1 : Nat) : Int) := by omega
                        have hA := Later.alloc w6 (.cells #[.slice (some au2) ul.length cu2] 22)
                        have hO7 := HO6.out.later hA
                        rw [show (Value.slice ao6 P3.length co6) = .slice ao6 (ps2.length + 1) co6 by rw [hpl]] at hO7
                        have HO7 := hid hO7
                        have HF7 := hid (HF6.out.later hA)
                        have HU7 := hid (HU6.out.later hA)
                        have HN7 := hid (show (w6.alloc (.cells #[.slice (some au2) ul.length cu2] 22)).ownsRow lo 22 1 (.slice an2 qs2.length cn2) qs2.length (qs2.map (·.1)) from ownsRow_keep HN6.out fun b hb => hA.block b (HN6.out.lt b hb).2)
                        have HL7 := hid (HL6.out.trans hA)
                        have hq5 : qs2.length ≤ 600 := by omega
                        clear ho6 hL6 hin6 hni6 hin hd0 hcell hpl hpm hup hP3 hA hO7 hfr HAP
                        go_wp2_with (at_builtin; refine wpList_append_lies _ (by rfl) _ _ _ (by rfl) lo 22 i0 (.slice none 0 0) 1 24 Try.underlying23 hi hz0 hz1 hz2 rfl (by omega) _ qs2.length (qs2.map (·.1)) (by rfl) (by exact HN7.out) ⟨w6.heap.size, 0, none⟩ 1 1 [.slice (some au2) ul.length cu2] (by rfl) (by rfl) (World.news_of_block (cs := #[.slice (some au2) ul.length cu2]) (t := 22) (fr := (0, 0)) (heap_alloc_new w6 _)) (by simp [Value.oneCell']) (by omega) (by unfold maxLen; omega) (by omega) (by simp; omega) (w6.heap.size + 1) (by simp) ?_)
                        intro g7 cap7 w7 hown7 hgrow hat hglt
                        have hgf : gf < w6.heap.size := by
                          obtain ⟨_, _, e1, e2⟩ := HF6.out
                          simp only [Value.slice.injEq, true_and] at e1
                          obtain ⟨rfl, _⟩ := e1
                          obtain ⟨g', e3, e4⟩ := e2 k hlt
                          have e5 : gf = g' := by injection e3 with e3; injection e3
                          rw [e5]; exact World.block_lt_of_cell? w6 _ e4
                        have HO8 := hid ((HO7.out.keepB hgrow (fun b hb e => (HAP6.out b e).1 hb) (fun p hp b hb e => (HAP6.out b e).2.1 p hp hb)).wide (Nat.le_refl _) (show w6.heap.size ≤ w7.heap.size by have := hgrow.size; simp at this; omega))
                        have HF8 := hid (HF7.out.keepB hgrow (fun b hb e => (HAP6.out b e).2.2 hb))
                        have HU8 := hid (HU7.out.keepB hgrow (fun b hb e => (HAU.out b e).1 hb) (fun p hp b hb e => (HAU.out b e).2 p hp hb))
                        have HN8 := hid (show w7.ownsRow lo 22 1 (.slice (some ⟨g7, 0, none⟩) (qs2.length + 1) cap7) (qs2 ++ [((Value.slice (some au2) ul.length cu2, ul) : Pr)]).length ((qs2 ++ [((Value.slice (some au2) ul.length cu2, ul) : Pr)]).map (·.1)) by rw [List.length_append, List.map_append]; exact hown7)
                        have HAP8 := hid (show Apart (.slice (some ⟨g7, 0, none⟩) (qs2.length + 1) cap7) (.slice ao6 (ps2.length + 1) co6) (.slice (some ⟨gf, 0, none⟩) fs.length cf) P3 from fun g hg => by
                          have hg7 : g7 = g := Option.some.inj hg
                          rcases hat with e | e
                          · exact HAP6.out g (by rw [← hg7]; exact e)
                          · refine ⟨fun h => ?_, fun p hp h => ?_, fun h => ?_⟩
                            · have := HO7.out.blk g h; omega
                            · have := (HO7.out.ints p hp).2 g h; omega
                            · have h' : gf = g := Option.some.inj h
                              omega)
                        have HAU8 := hid (show ∀ g, (Value.slice (some ⟨g7, 0, none⟩) (qs2.length + 1) cap7).ownBlock = some g → (Value.slice (some ⟨gu, 0, none⟩) us.length cu).ownBlock ≠ some g ∧ ∀ p ∈ us, p.1.ownBlock ≠ some g from fun g hg => by
                          have hg7 : g7 = g := Option.some.inj hg
                          rcases hat with e | e
                          · exact HAU.out g (by rw [← hg7]; exact e)
                          · refine ⟨fun h => ?_, fun p hp h => ?_⟩
                            · have := HU7.out.blk g h; omega
                            · have := (HU7.out.ints p hp).2 g h; omega)
                        have HL8 := hid (show Later w w7 from HL7.out.grown hgrow (by have := HLO.out; simp; omega) (fun b' hb' => by have := (HN7.out.lt b' hb').1; have := HLO.out; omega))
                        have HW8 := hid (show w6.heap.size ≤ w7.heap.size by have := hgrow.size; simp at this; omega)
                        have HQ8 := hid (show ∀ q ∈ qs2 ++ [((Value.slice (some au2) ul.length cu2, ul) : Pr)], q ∈ P3 from fun q hq => by
                          rcases List.mem_append.1 hq with h | h
                          · exact HSUB.out q (HQS.out q h)
                          · rw [List.mem_singleton.1 h]; exact HUP.out)
                        have HF9 := hid (show ∀ q ∈ fs, q ∈ P3 from fun q hq => HSUB.out q (HFS.out q hq))
                        clear hown7 hgrow hat HSUB
                        go_wp2_with fail
                        go_roundw
                        case rel => exact ⟨P3, qs2 ++ [((Value.slice (some au2) ul.length cu2, ul) : Pr)], j + 1, by go_num, hjl, HO8.out, HF8.out, HF9.out, HQ8.out, HN8.out, HAP8.out, HU8.out, HAU8.out, HNE6.out, by rw [List.map_append]; exact HJ2.out, by have := HPL.out; omega, by have := HPL.out; simp; omega, HL8.out, by have := HW8.out; omega, by have := HW8.out; omega⟩
                        case measure => simp [intOf]; omega
                  · obtain rfl : j = us.length := by omega
                    have hlu : us.length = (upF a cl cl.length).length := by rw [← HMU.out, List.length_map]
                    have HII := hid (show TrI a most zs (ps2.map (·.2)) ((fs.drop (k + 1)).map (·.2)) (qs2.map (·.2)) from TrJ.drop (by rw [hlu] at hJ; exact hJ))
                    clear hO hF hfs hqs hN hap hU hau hne hJ hL hW hE hoc2 hnc2 hlu
                    by_cases h5 : 500 < ps2.length
                    · have h5I : (500 : Int) < (ps2.length : Int) := by omega
                      have HR := hid (tree_many HII.out.srt.nodup HII.out.rch (by rw [List.length_map]; exact h5))
                      go_wp2_with fail
                      go_ret2
                      exact ⟨none, HA.out _ HR.out, _, rfl, OwnRows.noneH _ _ _, HL.out⟩
                    · have h5I : ¬ (500 : Int) < (ps2.length : Int) := by omega
                      go_wp2_with fail
                      go_roundw
                      case rel => exact ⟨ps2, qs2, k + 1, by go_num, hlt, HO.out, HF.out, HFS.out, HQS.out, HN.out, HAP.out, HII.out, by omega, hgr2, HL.out, HW.out⟩
                      case measure => simp [intOf]; omega
              · obtain rfl : k = fs.length := by omega
                have HT := hid (show TrI a most zs (ps'.map (·.2)) (qs.map (·.2)) [] from TrI.turn (by rw [List.drop_length] at hI; exact hI))
                have HFN := hid (frontR_of hN)
                clear hO hF hfs hqs hN hap hI hL hW hoc' hnc
                go_wp2_with fail
                go_roundw
                case rel => exact ⟨ps', qs, HO.out, HFN.out, HQS.out, HT.out, h5', by omega, HL.out, HW.out⟩
                case measure => simp only [lenOfH]; omega


set_option maxRecDepth 20000 in
set_option maxHeartbeats 4000000 in
theorem lawTreeUpTo_gen (z0 : List Int) (x1 : Int) (x2 : Int) (x3 : Int) (o : Option (List (List Int))) (hob : off (o.getD []) (o.getD []).length ≤ 1000000000000)
    (hS : ∀ (v0 : Value) (w : World), IntsC w v0 z0 → Calls Try.prog 11 #[v0, .int .i64 x1, .int .i64 x2, .int .i64 x3] w fun e w' => RowsAns w o e w')
    (hI : ∀ (v0 : Value) (w : World), IntsC w v0 z0 → Calls Try.prog 13 #[v0, .int .i64 x1, .int .i64 x2, .int .i64 x3] w fun e w' => RowsAns w o e w')
    (v0 : Value) (w : World) (h0 : Ints w v0 z0) :
    Calls Try.prog 3 #[v0, .int .i64 x1, .int .i64 x2, .int .i64 x3] w fun e w' => e = .returned (.bool true) ∧ Later w w' := by
  have HS := hid hS
  have HI := hid hI
  clear hS hI
  obtain ⟨a00, cap00, rfl, hlen0, _⟩ := id h0
  have H0 := hid h0
  clear h0
  by_cases hz0 : z0.length ≤ 1048576
  · skip
    have hq0 : ¬ (1048576 : Int) < (z0.length : Int) := by omega
    have HN0 := hid hz0
    go_enter Try.func3, Try.ntmps3
    go_wp2_with fail
    refine (toIntS_any _ z0 _ HN0.out H0.out).mono ?_
    rintro e w1 ⟨y1, rfl, hown, hL⟩
    obtain ⟨a1, cap1, rfl, _⟩ := hown.shape
    have O2 := hid hown
    clear hown
    have L3 := hid (hL)
    have S4 := hid hL.size
    clear hL
    go_wp2_with fail
    refine (HS.out _ _ (O2.out.intsC)).mono ?_
    rintro e w5 ⟨y5, rfl, hown, hL⟩
    obtain ⟨a5, cap5, rfl, _⟩ := hown.shape
    have O6 := hid hown
    clear hown
    have O7 := hid (O2.out.later hL)
    have L8 := hid (L3.out.trans hL)
    have S9 := hid hL.size
    clear O2 L3 hL
    clear O7
    go_wp2_with fail
    refine (toIntS_any _ z0 _ HN0.out (H0.out.later L8.out)).mono ?_
    rintro e w10 ⟨y10, rfl, hown, hL⟩
    obtain ⟨a10, cap10, rfl, _⟩ := hown.shape
    have O11 := hid hown
    clear hown
    have O12 := hid (O6.out.later hL)
    have L13 := hid (L8.out.trans hL)
    have S14 := hid hL.size
    clear O6 L8 hL
    go_wp2_with fail
    refine (HI.out _ _ (O11.out.intsC)).mono ?_
    rintro e w15 ⟨y15, rfl, hown, hL⟩
    obtain ⟨a15, cap15, rfl, _⟩ := hown.shape
    have O16 := hid hown
    clear hown
    have O17 := hid (O12.out.later hL)
    have O18 := hid (O11.out.later hL)
    have L19 := hid (L13.out.trans hL)
    have S20 := hid hL.size
    clear O12 O11 L13 hL
    have hne0 : ((o.isSome) != (o.isSome)) = false := by simp
    go_wp2_with fail
    refine (eqIntSS_any _ _ _ _ _ (O16.out.rows) (O17.out.rows)).mono ?_
    rintro e w21 ⟨rfl, hD⟩
    have hL := hD.later
    clear hD
    rw [eqLL_self]
    have O22 := hid (O17.out.later hL)
    have O23 := hid (O18.out.later hL)
    have O24 := hid (O16.out.later hL)
    have L25 := hid (L19.out.trans hL)
    have S26 := hid hL.size
    clear O17 O18 O16 L19 hL
    go_wp2_with fail
    refine (toIntS_any _ z0 _ HN0.out (H0.out.later L25.out)).mono ?_
    rintro e w27 ⟨y27, rfl, hown, hL⟩
    obtain ⟨a27, cap27, rfl, _⟩ := hown.shape
    have O28 := hid hown
    clear hown
    have O29 := hid (O22.out.later hL)
    have O30 := hid (O23.out.later hL)
    have O31 := hid (O24.out.later hL)
    have L32 := hid (L25.out.trans hL)
    have S33 := hid hL.size
    clear O22 O23 O24 L25 hL
    go_wp2_with fail
    refine (eqIntS_any _ _ _ _ _ (O30.out.ints) (O28.out.ints)).mono ?_
    rintro e w34 ⟨rfl, hD⟩
    have hL := hD.later
    clear hD
    rw [eqL_self]
    have O35 := hid (O29.out.later hL)
    have O36 := hid (O30.out.later hL)
    have O37 := hid (O31.out.later hL)
    have O38 := hid (O28.out.later hL)
    have L39 := hid (L32.out.trans hL)
    have S40 := hid hL.size
    clear O29 O30 O31 O28 L32 hL
    clear O38
    go_wp2_with fail
    refine (markIntS_any w5.heap.size (w10.heap.size) _ _ _ _ ⟨by omega, by omega⟩ O36.out).mono ?_
    rintro e w41 ⟨rfl, hown, hW⟩
    have hW := hW.mono (fun b hb => O36.out.blk hb)
    have hL := Later.refl w34
    have O42 := hid ((O35.out.later hL).keep fun b h1 h2 => hW.block b (by have := S4.out; have := S9.out; have := S14.out; have := S20.out; have := S26.out; have := S33.out; have := S40.out; omega))
    clear O35
    have O43 := hid ((O37.out.later hL).keep fun b h1 h2 => hW.block b (by have := S4.out; have := S9.out; have := S14.out; have := S20.out; have := S26.out; have := S33.out; have := S40.out; omega))
    clear O37
    have O44 := hid hown
    clear hown O36
    have L45 := hid (show Later w w41 from Wrote.below (L39.out.trans hL) hW (fun b hb => by have := S4.out; have := S9.out; have := S14.out; have := S20.out; have := S26.out; have := S33.out; have := S40.out; omega))
    clear L39
    have S46 := hid (show w34.heap.size ≤ w41.heap.size by have := hL.size; have := hW.size; omega)
    clear hL hW
    have hkn : ¬ ((1 : Int) + (z0.length : Int)) < 0 := by omega
    go_wp2_with fail
    refine (eqIntSS_any _ _ _ _ _ (O43.out.rows) (O42.out.rows)).mono ?_
    rintro e w47 ⟨rfl, hD⟩
    have hL := hD.later
    clear hD
    rw [eqLL_self]
    have O48 := hid (O42.out.later hL)
    have O49 := hid (O44.out.later hL)
    have O50 := hid (O43.out.later hL)
    have L51 := hid (L45.out.trans hL)
    have S52 := hid hL.size
    clear O42 O44 O43 L45 hL
    go_wp2_with fail
    have hmm : (((1 : Int) + (off (o.getD []) (o.getD []).length : Int)) != ((1 : Int) + (off (o.getD []) (o.getD []).length : Int))) = false := by simp
    have hmn : ¬ (1 : Int) + (off (o.getD []) (o.getD []).length : Int) < 0 := by omega
    refine (markIntSS_any w10.heap.size (w15.heap.size) _ _ _ _ ⟨by omega, by omega⟩ O50.out).mono ?_
    rintro e w53 ⟨rfl, hown, hW⟩
    have hL := Later.refl w47
    have O54 := hid ((O48.out.later hL).keep fun b h1 h2 => hW.block b (by have := S4.out; have := S9.out; have := S14.out; have := S20.out; have := S26.out; have := S33.out; have := S40.out; have := S46.out; have := S52.out; omega))
    clear O48
    have O55 := hid ((O49.out.later hL).keep fun b h1 h2 => hW.block b (by have := S4.out; have := S9.out; have := S14.out; have := S20.out; have := S26.out; have := S33.out; have := S40.out; have := S46.out; have := S52.out; omega))
    clear O49
    have O56 := hid hown
    clear hown O50
    have L57 := hid (show Later w w53 from Wrote.below (L51.out.trans hL) hW (fun b hb => by have := S4.out; have := S9.out; have := S14.out; have := S20.out; have := S26.out; have := S33.out; have := S40.out; have := S46.out; have := S52.out; omega))
    clear L51
    have S58 := hid (show w47.heap.size ≤ w53.heap.size by have := hL.size; have := hW.size; omega)
    clear hL hW
    go_wp2_with fail
    refine (heldIntSS_any _ (o.getD []) _ _ ⟨by omega, by omega⟩ O56.out.rows).mono ?_
    rintro e w59 ⟨rfl, rfl⟩
    go_wp2_with fail
    refine (toIntS_any _ z0 _ HN0.out (H0.out.later L57.out)).mono ?_
    rintro e w60 ⟨y60, rfl, hown, hL⟩
    obtain ⟨a60, cap60, rfl, _⟩ := hown.shape
    have O61 := hid hown
    clear hown
    have O62 := hid (O54.out.later hL)
    have O63 := hid (O55.out.later hL)
    have O64 := hid (O56.out.later hL)
    have L65 := hid (L57.out.trans hL)
    have S66 := hid hL.size
    clear O54 O55 O56 L57 hL
    go_wp2_with fail
    refine (HI.out _ _ (O61.out.intsC)).mono ?_
    rintro e w67 ⟨y67, rfl, hown, hL⟩
    obtain ⟨a67, cap67, rfl, _⟩ := hown.shape
    have O68 := hid hown
    clear hown
    have O69 := hid (O62.out.later hL)
    have O70 := hid (O63.out.later hL)
    have O71 := hid (O64.out.later hL)
    have O72 := hid (O61.out.later hL)
    have L73 := hid (L65.out.trans hL)
    have S74 := hid hL.size
    clear O62 O63 O64 O61 L65 hL
    clear O72
    go_wp2_with fail
    refine (eqIntSS_any _ _ _ _ _ (O68.out.rows) (O69.out.rows)).mono ?_
    rintro e w75 ⟨rfl, hD⟩
    have hL := hD.later
    clear hD
    rw [eqLL_self]
    have O76 := hid (O69.out.later hL)
    have O77 := hid (O70.out.later hL)
    have O78 := hid (O71.out.later hL)
    have O79 := hid (O68.out.later hL)
    have L80 := hid (L73.out.trans hL)
    have S81 := hid hL.size
    clear O69 O70 O71 O68 L73 hL
    go_wp2_with fail
    refine (heldIntSS_any _ (o.getD []) _ _ ⟨by omega, by omega⟩ O78.out.rows).mono ?_
    rintro e w82 ⟨rfl, rfl⟩
    go_wp2_with fail
    go_ret
    exact ⟨rfl, L80.out⟩
  · have hq0 : (1048576 : Int) < (z0.length : Int) := by omega
    go_enter Try.func3, Try.ntmps3
    go_wp2_with fail
    go_ret
    exact ⟨rfl, Later.refl w⟩
end Go.Proofs.Ytjnhhjnfdaaaeab
