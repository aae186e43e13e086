/- HuOr, HuPu, HuPv, HuUp, HuBr, HuBa, HuBs, LawBranchesOf: in one text. -/
import Derived.Test.YtjnhhjnfdaaaeaaHuCp
import Derived.Test.YtjnhhjnfdaaaeaaSame
import Derived.Test.YtjnhhjnfdaaaeaaHuWu
import Derived.Deep.RegionHeld3
import Derived.Test.YtjnhhjnfdaaaeaaHuDi
import Derived.Test.YtjnhhjnfdaaaeaaIntC
import Derived.Test.YtjnhhjnfdaaaeaaAns2
import Derived.Deep.DeepCutAuto
namespace Go.Proofs.Ytjnhhjnfdaaaeaa
open Go.RowKit


def befL : List Int → List Int → Bool
  | x :: xs, y :: ys => if x ≠ y then decide (x < y) else befL xs ys
  | [], ys => decide (0 < ys.length)
  | _ :: _, [] => false
def putK (L : List (List Int)) (a : List Int) : Nat := (L.takeWhile fun l => befL l a).length
def putL (L : List (List Int)) (a : List Int) : List (List Int) := if L.getD (putK L a) [] = a ∧ putK L a < L.length then L else L.take (putK L a) ++ a :: L.drop (putK L a)
theorem befL_irr (xs : List Int) : befL xs xs = false := by
  induction xs with
  | nil => rfl
  | cons x xs ih => simp [befL, ih]
theorem befL_trans : ∀ {xs ys zs : List Int}, befL xs ys = true → befL ys zs = true → befL xs zs = true := by
  intro xs
  induction xs with
  | nil =>
    intro ys zs h1 h2
    cases ys with
    | nil => simp [befL] at h1
    | cons y ys =>
      cases zs with
      | nil => simp [befL] at h2
      | cons z zs => simp [befL]
  | cons x xs ih =>
    intro ys zs h1 h2
    cases ys with
    | nil => simp [befL] at h1
    | cons y ys =>
      cases zs with
      | nil => simp [befL] at h2
      | cons z zs =>
        unfold befL at h1 h2 ⊢
        by_cases hxy : x = y
        · subst hxy
          by_cases hyz : x = z
          · subst hyz; simp at h1 h2 ⊢; exact ih h1 h2
          · simp [hyz] at h2 ⊢; exact h2
        · by_cases hyz : y = z
          · subst hyz; simp [hxy] at h1 ⊢; exact h1
          · simp [hxy] at h1; simp [hyz] at h2
            have : x ≠ z := by omega
            simp [this]; omega
def cntV (v : Int) (xs : List Int) : Nat := (xs.filter fun x => decide (v ≤ x)).length
theorem cntV_perm (v : Int) {xs ys : List Int} (h : xs.Perm ys) : cntV v xs = cntV v ys := (h.filter _).length_eq
theorem cntV_cons (v x : Int) (xs : List Int) : cntV v (x :: xs) = (if v ≤ x then 1 else 0) + cntV v xs := by
  unfold cntV
  by_cases h : v ≤ x
  · simp [h]; omega
  · simp [h]
/-- Two rows that fall, one below the other by counting: the second one is not ahead. -/
theorem befL_dom : ∀ {P Q : List Int}, P.length = Q.length → Dn P → Dn Q → (∀ v, cntV v P ≤ cntV v Q) → befL Q P = false ∧ (P ≠ Q → befL P Q = true) := by
  intro P
  induction P with
  | nil => intro Q hl _ _ _; cases Q <;> simp_all [befL]
  | cons p P ih =>
    intro Q hl hP hQ hc
    cases Q with
    | nil => simp at hl
    | cons q Q =>
      have hpq : p ≤ q := by
        apply Decidable.byContradiction
        intro hlt
        have h1 := hc p
        rw [cntV_cons, cntV_cons, if_pos (Int.le_refl _), if_neg (by omega)] at h1
        have h2 : cntV p Q = 0 := by
          unfold cntV
          rw [List.length_eq_zero_iff, List.filter_eq_nil_iff]
          intro x hx
          have := (List.pairwise_cons.1 hQ).1 x hx
          simp; omega
        omega
      by_cases he : p = q
      · subst he
        have h2 := ih (by simpa using hl) (List.pairwise_cons.1 hP).2 (List.pairwise_cons.1 hQ).2 (fun v => by have := hc v; rw [cntV_cons, cntV_cons] at this; omega)
        refine ⟨by simp [befL, h2.1], fun hne => ?_⟩
        simp [befL]
        exact h2.2 (fun e => hne (by rw [e]))
      · have : q ≠ p := fun e => he e.symm
        refine ⟨by simp [befL, this]; omega, fun _ => by simp [befL, he]; omega⟩
theorem Dn.getD {zs : List Int} (h : Dn zs) {i k : Nat} (hik : i ≤ k) (hk : k < zs.length) : zs.getD k 0 ≤ zs.getD i 0 := by
  rcases Nat.lt_or_ge i k with hlt | hge
  · have := List.pairwise_iff_getElem.1 h i k (by omega) hk hlt
    simpa [hk, show i < zs.length by omega] using this
  · have : i = k := by omega
    rw [this]; exact Int.le_refl _
/-- A later branch is not ahead of an earlier one. -/
theorem branch_dom {zs : List Int} {a b : Int} (hS : Sol zs a b) {i k : Nat} (hik : i < k) (hk : k < zs.length) {ys us : List Int} (hi : jumpL a zs i = some ys) (hj : jumpL a zs k = some us) : ∀ v, cntV v ys ≤ cntV v us := by
  have hd : Dn zs := ((fallB_iff (by omega)).1 hS.hf).1
  have hz := hd.getD (Nat.le_of_lt hik) hk
  have h1 : ∀ j, j < zs.length → ∀ x, ∀ r, jumpL a zs j = some x → r = othL a zs j → x.Perm (r :: zs.eraseIdx j) := by
    intro j hj2 x r hx hr
    unfold jumpL at hx
    split at hx
    · simp only [Option.some.injEq] at hx
      rw [← hx, hr]
      exact (sortD_perm _).trans (set_perm_erase zs j hj2 _)
    · simp at hx
  have hr : othL a zs i ≤ othL a zs k := by
    have e1 := prodL_erase zs i (by omega)
    have e2 := prodL_erase zs k hk
    have hpi : prodL (zs.eraseIdx i) ≤ prodL (zs.eraseIdx k) := by
      have p1 : 1 ≤ zs.getD i 0 := (hS.in5 _ (by simp [show i < zs.length by omega])).1
      have p2 : 1 ≤ zs.getD k 0 := (hS.in5 _ (by simp [hk])).1
      have e3 : zs.getD i 0 * prodL (zs.eraseIdx i) = zs.getD k 0 * prodL (zs.eraseIdx k) := by rw [← e1, ← e2]
      apply Decidable.byContradiction
      intro hc
      have hpos : 0 ≤ prodL (zs.eraseIdx k) := by
        apply Decidable.byContradiction
        intro h0
        have : 1 ≤ prodL zs := by
          have : ∀ l : List Int, In5 l → 1 ≤ prodL l := by
            intro l
            induction l with
            | nil => intro _; simp [prodL]
            | cons z l ih =>
              intro hl
              have := ih hl.tail
              have hz1 := (hl z (by simp)).1
              show 1 ≤ z * prodL l
              have := Int.mul_le_mul_of_nonneg_right hz1 (show 0 ≤ prodL l by omega)
              omega
          exact this zs hS.in5
        have : zs.getD k 0 * prodL (zs.eraseIdx k) ≤ 0 := Int.mul_nonpos_of_nonneg_of_nonpos (by omega) (by omega)
        omega
      have h5 : zs.getD k 0 * prodL (zs.eraseIdx k) ≤ zs.getD i 0 * prodL (zs.eraseIdx k) := Int.mul_le_mul_of_nonneg_right hz hpos
      have h6 : zs.getD i 0 * prodL (zs.eraseIdx k) < zs.getD i 0 * prodL (zs.eraseIdx i) := Int.mul_lt_mul_of_pos_left (by omega) (by omega)
      omega
    unfold othL restP
    have ha := hS.ha
    have := Int.mul_le_mul_of_nonneg_left hpi (show 0 ≤ a by omega)
    omega
  intro v
  rw [cntV_perm v (h1 i (by omega) ys _ hi rfl), cntV_perm v (h1 k hk us _ hj rfl), cntV_cons, cntV_cons]
  have q1 := cntV_perm v (erase_perm zs i (by omega))
  have q2 := cntV_perm v (erase_perm zs k hk)
  rw [cntV_cons] at q1 q2
  rw [show zs[i] = zs.getD i 0 by simp [show i < zs.length by omega]] at q1
  rw [show zs[k] = zs.getD k 0 by simp [hk]] at q2
  split at q1 <;> split at q2 <;> split <;> split <;> omega


theorem befL_at : ∀ {xs ys : List Int} {k : Nat}, xs.take k = ys.take k → k < xs.length → k < ys.length → xs.getD k 0 ≠ ys.getD k 0 → befL xs ys = decide (xs.getD k 0 < ys.getD k 0) := by
  intro xs
  induction xs with
  | nil => intro ys k _ h; simp at h
  | cons x xs ih =>
    intro ys k ht h1 h2 hne
    cases ys with
    | nil => simp at h2
    | cons y ys =>
      cases k with
      | zero => have hne' : x ≠ y := by simpa using hne
                unfold befL; rw [if_pos hne']; rfl
      | succ k =>
        simp only [List.take_succ_cons, List.cons.injEq] at ht
        unfold befL
        rw [if_neg (by simp [ht.1])]
        exact ih ht.2 (by simpa using h1) (by simpa using h2) (by simpa using hne)
theorem befL_end : ∀ {xs ys : List Int} {k : Nat}, xs.take k = ys.take k → k ≤ xs.length → k ≤ ys.length → (k = xs.length ∨ k = ys.length) → befL xs ys = decide (xs.length < ys.length) := by
  intro xs
  induction xs with
  | nil => intro ys k _ _ _ _; rfl
  | cons x xs ih =>
    intro ys k ht h1 h2 h3
    cases ys with
    | nil => simp [befL]
    | cons y ys =>
      cases k with
      | zero => simp at h3
      | succ k =>
        simp only [List.take_succ_cons, List.cons.injEq] at ht
        unfold befL
        rw [if_neg (by simp [ht.1]), ih ht.2 (by simpa using h1) (by simpa using h2) (by simpa using h3)]
        simp
set_option maxRecDepth 20000 in
set_option maxHeartbeats 1000000 in
theorem huBefore_any (u v : Value) (xs ys : List Int) (w : World) (hx : Ints w u xs) (hy : Ints w v ys) :
    Calls Try.prog 100 #[u, v] w fun e w' => e = .returned (.bool (befL xs ys)) ∧ Drew w w' := by
  obtain ⟨a, cap, rfl, hl, hc⟩ := hx
  obtain ⟨b, cap2, rfl, hl2, hc2⟩ := hy
  have HC := hid hc
  have HC2 := hid hc2
  have HAT := hid (fun k => befL_at (xs := xs) (ys := ys) (k := k))
  have HEND := hid (fun k => befL_end (xs := xs) (ys := ys) (k := k))
  obtain ⟨B, hB⟩ : ∃ B, befL xs ys = B := ⟨_, rfl⟩
  rw [hB] at HAT HEND ⊢
  clear hc hc2 hB
  go_enter Try.func100, Try.ntmps100
  go_wp2_with fail
  go_loopw [5] (fun i wr => ∃ k n : Nat, k ≤ xs.length ∧ k ≤ ys.length ∧ i = .int .i64 k ∧ xs.take k = ys.take k ∧ wr = w.drewN n) (fun i _ => xs.length - (intOf i).toNat)
  case atStart => exact ⟨0, 0, Nat.zero_le _, Nat.zero_le _, rfl, rfl, rfl⟩
  case round =>
    obtain ⟨k, n, hk, hk2, rfl, heq, rfl⟩ := hrel
    have HE := hid heq; clear heq
    by_cases hlt : k < xs.length
    · by_cases hlt2 : k < ys.length
      · obtain ⟨ad, rfl, hcell⟩ := HC.out k hlt
        obtain ⟨ad2, rfl, hcell2⟩ := HC2.out k hlt2
        have hi1 : (k : Int) < (xs.length : Int) := by omega
        have hi2 : (k : Int) < (ys.length : Int) := by omega
        have HT1 := hid (take_snoc xs k hlt)
        have HT2 := hid (take_snoc ys k hlt2)
        have HATk := hid (HAT.out k HE.out hlt hlt2)
        rw [show xs[k] = xs.getD k 0 by simp [hlt]] at HT1
        rw [show ys[k] = ys.getD k 0 by simp [hlt2]] at HT2
        obtain ⟨x, hxx⟩ : ∃ x, xs.getD k 0 = x := ⟨_, rfl⟩
        obtain ⟨y, hyy⟩ : ∃ y, ys.getD k 0 = y := ⟨_, rfl⟩
        rw [hxx] at hcell HT1 HATk
        rw [hyy] at hcell2 HT2 HATk
        clear hxx hyy
        by_cases hv : x = y
        · have HV := hid hv
          have hb : (x != y) = false := by simp [hv]
          clear hv
          go_wp2
          go_quiet (fail)
          go_wp2
          go_roundw
          case rel => exact ⟨k + 1, n + nq, hlt, hlt2, by go_num, by rw [HT1.out, HT2.out, HE.out, HV.out], by simp⟩
          case measure => simp [intOf]; omega
        · have hb : (x != y) = true := by simp [hv]
          have HN := hid (HATk.out hv); clear hv
          go_wp2
          go_quiet (fail)
          go_wp2
          go_quiet (fail)
          go_wp2
          go_ret
          exact ⟨ret_bool HN.out.symm, ⟨_, by simp; rfl⟩⟩
      · have hk3 : k = ys.length := by omega
        have HN := hid (HEND.out k HE.out hk hk2 (.inr hk3))
        have hi1 : (k : Int) < (xs.length : Int) := by omega
        have hi2 : ¬ (k : Int) < (ys.length : Int) := by omega
        clear hk3
        go_wp2
        go_ret
        exact ⟨ret_bool (by rw [HN.out]), ⟨n, rfl⟩⟩
    · have hk3 : k = xs.length := by omega
      have HN := hid (HEND.out k HE.out hk hk2 (.inl hk3))
      have hi1 : ¬ (k : Int) < (xs.length : Int) := by omega
      clear hk3
      go_wp2
      go_ret
      exact ⟨ret_bool (by rw [HN.out]), ⟨n, rfl⟩⟩
theorem huBefore_as {u v : Value} {xs ys : List Int} {w : World} {b : Bool} (hb : befL xs ys = b) (hx : Ints w u xs) (hy : Ints w v ys) :
    Calls Try.prog 100 #[u, v] w fun e w' => e = .returned (.bool b) ∧ Drew w w' := by
  subst hb; exact huBefore_any u v xs ys w hx hy


abbrev Pr : Type := Value × List Int
def NePr (p q : Pr) : Prop := ∀ k, p.1.ownBlock = some k → q.1.ownBlock ≠ some k
theorem NePr.symm {p q : Pr} (h : NePr p q) : NePr q p := fun k hq hp => h k hp hq
/-- A row of rows of its own, its rows with what they hold. -/
structure OwnPs (lo hi : Nat) (w : World) (v : Value) (ps : List Pr) : Prop where
  own : w.ownsRow lo 22 1 v ps.length (ps.map (·.1))
  blk : ∀ k, v.ownBlock = some k → k < hi
  ints : ∀ p ∈ ps, OwnInts lo hi w p.1 p.2
  ne : ps.Pairwise NePr
theorem OwnPs.rows {lo hi : Nat} {w : World} {v : Value} {ps : List Pr} (h : OwnPs lo hi w v ps) : OwnRows lo hi w v (ps.map (·.2)) := by
  refine ⟨ps.map (·.1), by simp, by simpa using h.own, h.blk, fun i hi => ?_, fun i j hij hj k hk => ?_⟩
  · have hi' : i < ps.length := by simpa using hi
    have := h.ints ps[i] (List.getElem_mem hi')
    simpa [hi'] using this
  · have hj' : j < ps.length := by simpa using hj
    have := List.pairwise_iff_getElem.1 h.ne i j (by omega) hj' hij k
    simp [hj', show i < ps.length by omega] at hk ⊢
    exact this hk
theorem OwnRows.ps {lo hi : Nat} {w : World} {v : Value} {L : List (List Int)} (h : OwnRows lo hi w v L) : ∃ ps, OwnPs lo hi w v ps ∧ ps.map (·.2) = L := by
  obtain ⟨us, hl, ho, hb, hi2, hd⟩ := h.partsH
  refine ⟨us.zip L, ⟨?_, hb, ?_, ?_⟩, ?_⟩
  · rw [List.length_zip, ← hl, Nat.min_self]
    have : (us.zip L).map (·.1) = us := by rw [List.map_fst_zip]; omega
    rw [this]; exact ho
  · intro p hp
    obtain ⟨i, hi3, rfl⟩ := List.getElem_of_mem hp
    have hi4 : i < L.length := by rw [List.length_zip] at hi3; omega
    have := hi2 i hi4
    simpa [hi4, show i < us.length by omega] using this
  · rw [List.pairwise_iff_getElem]
    intro i j hi3 hj3 hij k hk
    have hj4 : j < L.length := by rw [List.length_zip] at hj3; omega
    have := hd i j hij hj4 k
    simp [show i < us.length by omega, show j < us.length by omega] at this
    simpa using this (by simpa using hk)
  · rw [List.map_snd_zip]; omega
theorem OwnPs.later {lo hi : Nat} {w w' : World} {v : Value} {ps : List Pr} (h : OwnPs lo hi w v ps) (k : Later w w') : OwnPs lo hi w' v ps :=
  ⟨ownsRow_keep h.own fun b hb => k.block b (h.own.lt b hb).2, h.blk, fun p hp => (h.ints p hp).later k, h.ne⟩
theorem OwnPs.wide {lo hi lo' hi' : Nat} {w : World} {v : Value} {ps : List Pr} (h : OwnPs lo hi w v ps) (h1 : lo' ≤ lo) (h2 : hi ≤ hi') : OwnPs lo' hi' w v ps :=
  ⟨ownsRow_base h.own h1, fun k hk => Nat.lt_of_lt_of_le (h.blk k hk) h2, fun p hp => (h.ints p hp).wide h1 h2, h.ne⟩
/-- insertion in order -/
def putKp (ps : List Pr) (a : List Int) : Nat := (ps.takeWhile fun p => befL p.2 a).length
def inPs (ps : List Pr) (a : List Int) : Prop := (ps.map (·.2)).getD (putKp ps a) [] = a ∧ putKp ps a < ps.length
instance (ps : List Pr) (a : List Int) : Decidable (inPs ps a) := by unfold inPs; infer_instance
def insPs (ps : List Pr) (p : Pr) : List Pr := ps.take (putKp ps p.2) ++ p :: ps.drop (putKp ps p.2)
def putPs (ps : List Pr) (p : Pr) : List Pr := if inPs ps p.2 then ps else insPs ps p
theorem putKp_map (ps : List Pr) (a : List Int) : putKp ps a = putK (ps.map (·.2)) a := by
  unfold putKp putK
  induction ps with
  | nil => rfl
  | cons p ps ih => simp only [List.map_cons, List.takeWhile_cons]; split <;> simp_all
theorem putPs_map (ps : List Pr) (p : Pr) : (putPs ps p).map (·.2) = putL (ps.map (·.2)) p.2 := by
  unfold putPs putL
  by_cases h : inPs ps p.2
  · rw [if_pos h, if_pos (by unfold inPs at h; rw [putKp_map] at h; simpa using h)]
  · rw [if_neg h, if_neg (by unfold inPs at h; rw [putKp_map] at h; simpa using h)]
    unfold insPs
    rw [putKp_map]
    simp
theorem insPs_perm (ps : List Pr) (p : Pr) : (insPs ps p).Perm (p :: ps) := by
  unfold insPs
  refine List.perm_middle.trans ?_
  rw [List.take_append_drop]
theorem putKp_le (ps : List Pr) (a : List Int) : putKp ps a ≤ ps.length := (List.takeWhile_prefix _).length_le
theorem putKp_lt (ps : List Pr) (a : List Int) : ∀ j (_ : j < putKp ps a), befL ((ps.map (·.2)).getD j []) a = true := by
  induction ps with
  | nil => intro j h; simp [putKp] at h
  | cons p ps ih =>
    intro j h
    unfold putKp at h
    rw [List.takeWhile_cons] at h
    split at h
    · rename_i hp
      cases j with
      | zero => simpa using hp
      | succ j => simpa using ih j (by unfold putKp; simpa using h)
    · simp at h
theorem putKp_at (ps : List Pr) (a : List Int) : putKp ps a < ps.length → befL ((ps.map (·.2)).getD (putKp ps a) []) a = false := by
  induction ps with
  | nil => intro h; simp at h
  | cons p ps ih =>
    intro h
    unfold putKp at h ⊢
    rw [List.takeWhile_cons] at h ⊢
    split at h
    · rename_i hp
      rw [if_pos hp]
      have := ih (by unfold putKp; simpa using h)
      unfold putKp at this
      simpa using this
    · rename_i hp
      rw [if_neg hp]
      simpa using hp
theorem OwnPs.insert {lo : Nat} {w w' : World} {v v' u : Value} {a : List Int} {ps : List Pr} (h : OwnPs lo w.heap.size w v ps) (hu : OwnInts lo w.heap.size w u a) (hne : ∀ p ∈ ps, NePr p (u, a)) (hL : Later w w')
    (ho : w'.ownsRow lo 22 1 v' (insPs ps (u, a)).length ((insPs ps (u, a)).map (·.1))) : OwnPs lo w'.heap.size w' v' (insPs ps (u, a)) := by
  have hp := insPs_perm ps (u, a)
  refine ⟨ho, fun k hk => (ho.lt k hk).2, fun q hq => ?_, ?_⟩
  · rcases List.mem_cons.1 (hp.mem_iff.1 hq) with rfl | hq
    · exact (hu.later hL).wide (Nat.le_refl _) hL.size
    · exact ((h.ints q hq).later hL).wide (Nat.le_refl _) hL.size
  · refine (hp.pairwise_iff (fun h => h.symm)).2 ?_
    exact List.pairwise_cons.2 ⟨fun q hq => (hne q hq).symm, h.ne⟩
theorem ownPs_head {lo hi : Nat} {w : World} {g n cg : Nat} {ps : List Pr} (h : OwnPs lo hi w (.slice (some ⟨g, 0, none⟩) n cg) ps) : n = ps.length ∧ n ≤ cg ∧ ∀ k, k < ps.length → w.cell? ⟨g, k, none⟩ = some (ps.getD k (undef, [])).1 := by
  rcases h.own.2 with ⟨e, _⟩ | ⟨g', cg', cur, e, hb, hg, hn, hm, hs, ht⟩
  · simp at e
  · simp only [Value.slice.injEq] at e
    obtain ⟨_, rfl, rfl⟩ := e
    refine ⟨rfl, hn, fun k hk => ?_⟩
    rw [h.own.cellAt k (by omega)]
    simp [hk]

/-- append of nothing, at a step of a region that draws. -/
theorem step_append_noneH {P : Program} (w : World) {ops : Array Oper} {o : Oper} {a : Act} {K : Act → World → Prop} {Q : Exit → Act → World → Prop} {E : Prop} (hgd : o.guard = none) (s x : Operand) (t : TypeId)
    (ho : o.op = .call { callee := .builtin .append, args := #[s, x], argTypes := #[t, t] })
    (base : Nat) (e : TypeId) (i : TypeInfo) (size : Nat) (ht : P.underlying t = some (.slice e)) (hi : P.info? e = some i)
    (v : Value) (n : Nat) (xs : List Value) (hs : a.eval s = v) (hown : w.ownsRow base e size v n xs) (hx : a.eval x = .slice none 0 0)
    (h : K (a.put o.dst v) w) :
    if Region.wanted o (yielded ops a.tmps) = true then Oper.wp P o a w K Q else E := by
  have hw : Region.wanted o (yielded ops a.tmps) = true := by simp [Region.wanted, hgd]
  rw [if_pos hw]
  have hr := run_append_owned_none (P := P) (w := w) base t o.type e i size ht hi v n xs hown
  unfold Oper.wp execOp
  simp only [ho, resolve, invoke, builtin, Sem.run_bind, Sem.run_pure, Result.andThen_ok, List.map_toArray, List.map_cons, List.map_nil, hs, hx, hr]
  exact h

set_option maxRecDepth 20000 in
set_option maxHeartbeats 8000000 in
theorem huPut_any {lo : Nat} (v u : Value) (a : List Int) (ps : List Pr) (w : World) (hlo : lo ≤ w.heap.size) (hb : ps.length ≤ 1000000) (h : OwnPs lo w.heap.size w v ps) (hu : OwnInts lo w.heap.size w u a) (hne : ∀ p ∈ ps, NePr p (u, a)) :
    Calls Try.prog 90 #[v, u] w fun e w' => ∃ v', e = .returned v' ∧ OwnPs lo w'.heap.size w' v' (putPs ps (u, a)) ∧ Later w w' ∧ (inPs ps a → v' = v) := by
  obtain ⟨i0, hi, hz0, hz1, hz2⟩ := info_parts Try.infoInts
  rcases h.own.2 with ⟨rfl, h0⟩ | ⟨g, cg, cur, rfl, _, hgl, hncg, _⟩
  · have hps : ps = [] := List.eq_nil_of_length_eq_zero h0
    subst hps
    obtain ⟨ua, uc, rfl, huc⟩ := hu.shape
    have HU := hid hu
    have HLO := hid hlo
    have HNI := hid (show ¬ inPs [] a by unfold inPs; simp)
    have HPE := hid (show putPs [] (Value.slice ua a.length uc, a) = [(Value.slice ua a.length uc, a)] by unfold putPs; rw [if_neg HNI.out]; rfl)
    have H := hid h
    clear h hu hne h0 hb hlo
    go_enter Try.func90, Try.ntmps90
    go_wp2_with fail
    go_loopw [5] (fun k wr => k = .int .i64 0 ∧ wr = w) (fun _ _ => 0)
    case atStart => exact ⟨rfl, rfl⟩
    case round =>
      obtain ⟨rfl, rfl⟩ := hrel
      have HO6 : Hid ((wr.alloc (.cells #[] 22)).ownsRow wr.heap.size 22 1 (.slice (some ⟨wr.heap.size, 0, none⟩) 0 0) 0 []) := hid ⟨rfl, .inr ⟨wr.heap.size, 0, #[], rfl, Nat.le_refl _, heap_alloc_new wr _, Nat.le_refl _, by omega, by simp, by simp⟩⟩
      have HL6 := hid (Later.alloc wr (.cells #[] 22))
      have HW6 := hid HL6.out.size
      go_wp2_with fail
      obtain ⟨v6, hv6⟩ : ∃ v : Value, .slice (some ⟨wr.heap.size, 0, none⟩) 0 0 = v := ⟨_, rfl⟩
      rw [hv6] at HO6 ⊢
      generalize wr.alloc (.cells #[] 22) = w6 at HO6 HL6 HW6 ⊢
      clear hv6
      go_region_held3 (fun _ => True) (trivial) (first | (have hh := HW6; clear hh; refine step_append_atH _ (by rfl) _ _ _ (by rfl) wr.heap.size 22 i0 (.slice none 0 0) 1 24 Try.underlying36 hi hz0 hz1 hz2 rfl (by omega) v6 0 [] (by rfl) (by exact (HO6.out.alloc (.cells #[Value.slice ua a.length uc] 22)).drew) _ _ _ [.slice ua a.length uc] (by rfl) (by rfl) (by intro j u hj; rw [World.cell?_drew]; exact World.news_of_block (cs := #[.slice ua a.length uc]) (t := 22) (fr := (0, 0)) (heap_alloc_new w6 _) j u hj) (fun u hu => by simp at hu; subst hu; rfl) (by unfold maxLen; omega) (by omega) (by have := HW6.out; simp; omega) ?_; intro v7 w7 hown7 hgrow7; clear HW6; have HO7 := hid hown7; have HL7 := hid (show Later wr w7 from ((HL6.out.trans (Later.alloc w6 (.cells #[Value.slice ua a.length uc] 22))).trans (Later.drew _)).grown hgrow7 (by have := HL6.out.size; simp; omega) (fun b hb => (HO6.out.lt b hb).1)); obtain ⟨a7, c7, rfl, _⟩ := ownsRow_shape hown7; clear hown7 hgrow7) | (have hh := HO7; clear hh; refine step_append_noneH _ (by rfl) _ _ _ (by rfl) wr.heap.size 22 i0 1 Try.underlying36 hi _ 1 ([] ++ [.slice ua a.length uc]) (by rfl) (by exact HO7.out) (by rfl) ?_))
      go_wp2_with fail
      go_ret
      refine ⟨_, rfl, ?_, HL7.out, fun h => absurd h HNI.out⟩
      have e := H.out.insert HU.out (fun p hp => by simp at hp) HL7.out (v' := .slice a7 (0 + 1) c7) (by exact ownsRow_base HO7.out HLO.out)
      rw [HPE.out]
      exact e
  · obtain ⟨ua, uc, rfl, huc⟩ := hu.shape
    have hhd := (ownPs_head h).2.2
    have HOS := hid h
    have HUS := hid hu
    have HNE := hid hne
    have HLO := hid hlo
    have HKL := hid (putKp_lt ps a)
    have HKA := hid (putKp_at ps a)
    have hkl := putKp_le ps a
    have HHD := hid hhd
    have HDEF := hid (show inPs ps a ↔ ((ps.map (·.2)).getD (putKp ps a) [] = a ∧ putKp ps a < ps.length) from Iff.rfl)
    have HINS := hid (show ∀ u, insPs ps (u, a) = ps.take (putKp ps a) ++ (u, a) :: ps.drop (putKp ps a) from fun u => rfl)
    obtain ⟨K, hK⟩ : ∃ K, putKp ps a = K := ⟨_, rfl⟩
    rw [hK] at HKL HKA hkl HDEF HINS
    clear h hu hne hlo hhd hK hgl
    go_enter Try.func90, Try.ntmps90
    go_wp2_with fail
    go_loopw [5] (fun s5 wr => ∃ k : Nat, k ≤ K ∧ s5 = .int .i64 k ∧ Later w wr) (fun s5 _ => K - (intOf s5).toNat)
    case atStart => exact ⟨0, Nat.zero_le _, rfl, Later.refl _⟩
    case round =>
      obtain ⟨k, hk, rfl, hL⟩ := hrel
      have HL := hid hL
      have row : ∀ k, k < ps.length → ∃ ad c, wr.cell? ⟨g, k, none⟩ = some (.slice ad ((ps.map (·.2)).getD k []).length c) ∧ Ints wr (.slice ad ((ps.map (·.2)).getD k []).length c) ((ps.map (·.2)).getD k []) := by
        intro k hk
        have h1 := HHD.out k hk
        have h2 := HOS.out.ints ps[k] (List.getElem_mem hk)
        obtain ⟨ad, c, e, _⟩ := h2.shape
        rw [show ps.getD k (undef, []) = ps[k] by simp [hk]] at h1
        have e2 : (ps.map (·.2)).getD k [] = ps[k].2 := by simp [hk]
        refine ⟨ad, c, ?_, ?_⟩
        · rw [e2, ← e]; exact hL.cell h1
        · rw [e2, ← e]; exact (h2.later hL).ints
      by_cases hlt : k < K
      · obtain ⟨ad, c, hc, hr⟩ := row k (by omega)
        have HB := hid (HKL.out k hlt)
        have hkI : (k : Int) < (ps.length : Int) := by omega
        obtain ⟨l, hl⟩ : ∃ l, (ps.map (·.2)).getD k [] = l := ⟨_, rfl⟩
        rw [hl] at hc hr HB
        have HRI := hid hr
        clear row hr hl hL
        go_wp2_with fail
        refine (huBefore_as HB.out HRI.out (HUS.out.later HL.out).ints).mono ?_
        rintro e w2 ⟨rfl, hD⟩
        have HL2 := hid (HL.out.trans hD.later)
        clear hD
        go_wp2_with fail
        go_roundw
        case rel => exact ⟨k + 1, hlt, by go_num, HL2.out⟩
        case measure => simp [intOf]; omega
      · obtain rfl : k = K := by omega
        clear hk hlt
        by_cases hkn : k < ps.length
        · obtain ⟨ad, c, hc, hr⟩ := row k hkn
          have HB := hid (HKA.out hkn)
          have hkI : (k : Int) < (ps.length : Int) := by omega
          obtain ⟨l, hl⟩ : ∃ l, (ps.map (·.2)).getD k [] = l := ⟨_, rfl⟩
          rw [hl] at hc hr HB HDEF
          have HRI := hid hr
          clear row hr hl hL
          go_wp2_with fail
          refine (huBefore_as HB.out HRI.out (HUS.out.later HL.out).ints).mono ?_
          rintro e w2 ⟨rfl, hD⟩
          have HL2 := hid (HL.out.trans hD.later)
          have HRI2 := hid (HRI.out.later hD.later)
          replace hc := hD.later.cell hc
          clear hD
          by_cases hla : l = a
          · have HEQ := hid (eqL_iff.2 hla)
            have HIN := hid (HDEF.out.2 ⟨hla, hkn⟩)
            clear hla
            go_wp2_with fail
            refine (l1Same_as HEQ.out HRI2.out (HUS.out.later HL2.out).ints).mono ?_
            rintro e w3 ⟨rfl, hD⟩
            have HL3 := hid (HL2.out.trans hD.later)
            clear hD
            go_wp2_with fail
            go_ret
            refine ⟨_, rfl, ?_, HL3.out, fun _ => rfl⟩
            unfold putPs
            rw [if_pos HIN.out]
            exact (HOS.out.later HL3.out).wide (Nat.le_refl _) HL3.out.size
          · have HEQ := hid (show eqL l a = false by
              cases he : eqL l a
              · rfl
              · exact absurd (eqL_iff.1 he) hla)
            have HNI := hid (show ¬ inPs ps a from fun h => hla (HDEF.out.1 h).1)
            clear hla
            go_wp2_with fail
            refine (l1Same_as HEQ.out HRI2.out (HUS.out.later HL2.out).ints).mono ?_
            rintro e w3 ⟨rfl, hD⟩
            have HL3 := hid (HL2.out.trans hD.later)
            clear hD hc
            have HOW := hid (show (w3.alloc (.cells #[] 22)).ownsRow w3.heap.size 22 1 (.slice (some ⟨w3.heap.size, 0, none⟩) 0 0) 0 [] from ⟨rfl, .inr ⟨w3.heap.size, 0, #[], rfl, Nat.le_refl _, heap_alloc_new w3 _, Nat.le_refl _, by omega, by simp, by simp⟩⟩)
            have HCL := hid (show ∀ j, j < ps.length → w3.cell? ⟨g, j, none⟩ = some (ps.getD j (undef, [])).1 from fun j hj => HL3.out.cell (HHD.out j hj))
            obtain ⟨XS, hXS⟩ : ∃ XS, (ps.take k).map (·.1) = XS := ⟨_, rfl⟩
            obtain ⟨YS, hYS⟩ : ∃ YS, (ps.drop k).map (·.1) = YS := ⟨_, rfl⟩
            have HXL := hid (show XS.length = k * 1 by rw [← hXS]; simp; omega)
            have HYL := hid (show YS.length = (ps.length - k) * 1 by rw [← hYS]; simp)
            have hsl : ∀ p ∈ ps, p.1.oneCell' = true := fun p hp => by obtain ⟨_, _, e, _⟩ := (HOS.out.ints p hp).shape; rw [e]; rfl
            have HXO := hid (show ∀ u ∈ XS, u.oneCell' = true by intro u hu; rw [← hXS] at hu; obtain ⟨p, hp, rfl⟩ := List.mem_map.1 hu; exact hsl p (List.mem_of_mem_take hp))
            have HYO := hid (show ∀ u ∈ YS, u.oneCell' = true by intro u hu; rw [← hYS] at hu; obtain ⟨p, hp, rfl⟩ := List.mem_map.1 hu; exact hsl p (List.mem_of_mem_drop hp))
            have hat : ∀ j u, (ps.map (·.1))[j]? = some u → w3.cell? ⟨g, j, none⟩ = some u := by
              intro j u hj
              have hj2 : j < ps.length := by
                rcases Nat.lt_or_ge j ps.length with h | h
                · exact h
                · rw [List.getElem?_eq_none (by simpa using h)] at hj; cases hj
              rw [HCL.out j hj2, ← hj]
              simp [hj2]
            have HNX := hid (show ∀ j u, XS[j]? = some u → (w3.alloc (.cells #[] 22)).cell? ((⟨g, 0, none⟩ : Addr).add j) = some u from fun j u hj => by
              rw [addr_add0]
              refine (Later.alloc w3 _).cell (hat j u ?_)
              rw [← hXS, List.map_take, List.getElem?_take] at hj
              split at hj
              · exact hj
              · cases hj)
            have HINL := hid (show (insPs ps (.slice ua a.length uc, a)).length = k + 1 + (ps.length - k) by rw [(insPs_perm ps _).length_eq]; simp; omega)
            have HINM := hid (show (insPs ps (.slice ua a.length uc, a)).map (·.1) = XS ++ [.slice ua a.length uc] ++ YS by rw [HINS.out, ← hXS, ← hYS]; simp)
            have HLW := hid (show lo ≤ w3.heap.size from Nat.le_trans HLO.out HL3.out.size)
            have hkc : (k : Int) ≤ (cg : Int) := by omega
            have hkp : (k : Int) ≤ (ps.length : Int) := by omega
            have hpc : (ps.length : Int) ≤ (cg : Int) := by omega
            have hk0 : (0 : Int) ≤ (k : Int) := by omega
            have hktn : ((k : Int)).toNat = k := by omega
            clear hsl
            go_wp2_with (at_builtin; refine wpList_append_own_at _ (by rfl) _ _ _ (by rfl) w3.heap.size 22 i0 (.slice none 0 0) 1 24 Try.underlying36 hi hz0 hz1 hz2 rfl (by omega) (.slice (some ⟨w3.heap.size, 0, none⟩) 0 0) 0 [] (by rfl) (by exact HOW.out) ⟨g, 0, none⟩ k cg XS (by rfl) (by exact HXL.out) HNX.out (fun u hu => HXO.out u hu) (by unfold maxLen; omega) (by omega) (by simp) ?_)
            intro v6 w6 hown6 hgrow6 _ _
            have HO6 := hid (show w6.ownsRow w3.heap.size 22 1 v6 k XS by simpa using hown6)
            have HL6 := hid (show Later w3 w6 from (Later.alloc w3 (.cells #[] 22)).grown hgrow6 (by simp) (fun b hb => Nat.le_of_eq (Option.some.inj hb)))
            have HW6 := hid HL6.out.size
            clear hown6 hgrow6 HOW HNX
            by_cases hcq : cg = k
            · have HNY := hid (show ∀ t u, YS[t]? = some u → w3.cell? ((⟨g, 0, none⟩ : Addr).add t) = some u from fun t u ht => by
                rw [List.getElem?_eq_none (by have := HYL.out; omega)] at ht; cases ht)
              clear hat hXS hYS
              go_wp2_with fail
              go_region_held3 (fun _ => True) (trivial) (first | (have hh := HW6; clear hh; refine step_append_atH _ (by rfl) _ _ _ (by rfl) w3.heap.size 22 i0 (.slice none 0 0) 1 24 Try.underlying36 hi hz0 hz1 hz2 rfl (by omega) v6 k XS (by rfl) (by exact (HO6.out.alloc (.cells #[Value.slice ua a.length uc] 22)).drew) _ _ _ [.slice ua a.length uc] (by rfl) (by rfl) (by intro j u hj; rw [World.cell?_drew]; exact World.news_of_block (cs := #[.slice ua a.length uc]) (t := 22) (fr := (0, 0)) (heap_alloc_new w6 _) j u hj) (fun u hu => by simp at hu; subst hu; rfl) (by unfold maxLen; omega) (by omega) (by have := HW6.out; simp; omega) ?_; intro v7 w7 hown7 hgrow7; clear HW6; have HO7 := hid hown7; have HL7 := hid (show Later w3 w7 from ((HL6.out.trans (Later.alloc w6 (.cells #[Value.slice ua a.length uc] 22))).trans (Later.drew _)).grown hgrow7 (by have := HL6.out.size; simp; omega) (fun b hb => (HO6.out.lt b hb).1)); clear hown7 hgrow7) | (have hh := HO7; clear hh; refine step_append_atH _ (by rfl) _ _ _ (by rfl) w3.heap.size 22 i0 (.slice none 0 0) 1 24 Try.underlying36 hi hz0 hz1 hz2 rfl (by omega) _ (k + 1) (XS ++ [.slice ua a.length uc]) (by rfl) (by exact HO7.out) ⟨g, 0, none⟩ (ps.length - k) 0 YS (by rfl) (by exact HYL.out) (fun t u ht => HL7.out.cell (HNY.out t u ht)) (fun u hu => HYO.out u hu) (by unfold maxLen; omega) (by omega) (by have := HL7.out.size; omega) ?_; intro v8 w8 hown8 hgrow8; have HO8 := hid hown8; have HL8 := hid (show Later w3 w8 from HL7.out.grown hgrow8 HL7.out.size (fun b hb => (HO7.out.lt b hb).1)); obtain ⟨a8, c8, rfl, _⟩ := ownsRow_shape hown8; clear hown8 hgrow8 HO7 HL7))
              go_wp2_with fail
              go_ret
              refine ⟨_, rfl, ?_, HL3.out.trans HL8.out, fun h => absurd h HNI.out⟩
              have e := (show OwnPs lo w3.heap.size w3 _ ps from (HOS.out.later HL3.out).wide (Nat.le_refl _) HL3.out.size).insert ((HUS.out.later HL3.out).wide (Nat.le_refl _) HL3.out.size) HNE.out HL8.out (v' := .slice a8 (k + 1 + (ps.length - k)) c8) (by
                rw [HINL.out, HINM.out]
                exact ownsRow_base HO8.out HLW.out)
              unfold putPs
              rw [if_neg HNI.out]
              exact e
            · have HNY := hid (show ∀ t u, YS[t]? = some u → w3.cell? ((⟨g, k, none⟩ : Addr).add t) = some u from fun t u ht => by
                have h1 := hat (k + t) u (by rw [← hYS] at ht; rw [← ht]; simp)
                rw [← h1]
                congr 1
                unfold Addr.add
                by_cases h0 : t = 0 <;> simp [h0])
              clear hat hXS hYS
              go_wp2_with fail
              go_region_held3 (fun _ => True) (trivial) (first | (have hh := HW6; clear hh; refine step_append_atH _ (by rfl) _ _ _ (by rfl) w3.heap.size 22 i0 (.slice none 0 0) 1 24 Try.underlying36 hi hz0 hz1 hz2 rfl (by omega) v6 k XS (by rfl) (by exact (HO6.out.alloc (.cells #[Value.slice ua a.length uc] 22)).drew) _ _ _ [.slice ua a.length uc] (by rfl) (by rfl) (by intro j u hj; rw [World.cell?_drew]; exact World.news_of_block (cs := #[.slice ua a.length uc]) (t := 22) (fr := (0, 0)) (heap_alloc_new w6 _) j u hj) (fun u hu => by simp at hu; subst hu; rfl) (by unfold maxLen; omega) (by omega) (by have := HW6.out; simp; omega) ?_; intro v7 w7 hown7 hgrow7; clear HW6; have HO7 := hid hown7; have HL7 := hid (show Later w3 w7 from ((HL6.out.trans (Later.alloc w6 (.cells #[Value.slice ua a.length uc] 22))).trans (Later.drew _)).grown hgrow7 (by have := HL6.out.size; simp; omega) (fun b hb => (HO6.out.lt b hb).1)); clear hown7 hgrow7) | (have hh := HO7; clear hh; refine step_append_atH _ (by rfl) _ _ _ (by rfl) w3.heap.size 22 i0 (.slice none 0 0) 1 24 Try.underlying36 hi hz0 hz1 hz2 rfl (by omega) _ (k + 1) (XS ++ [.slice ua a.length uc]) (by rfl) (by exact HO7.out) ⟨g, k, none⟩ (ps.length - k) (cg - k) YS (by rfl) (by exact HYL.out) (fun t u ht => HL7.out.cell (HNY.out t u ht)) (fun u hu => HYO.out u hu) (by unfold maxLen; omega) (by omega) (by have := HL7.out.size; omega) ?_; intro v8 w8 hown8 hgrow8; have HO8 := hid hown8; have HL8 := hid (show Later w3 w8 from HL7.out.grown hgrow8 HL7.out.size (fun b hb => (HO7.out.lt b hb).1)); obtain ⟨a8, c8, rfl, _⟩ := ownsRow_shape hown8; clear hown8 hgrow8 HO7 HL7))
              go_wp2_with fail
              go_ret
              refine ⟨_, rfl, ?_, HL3.out.trans HL8.out, fun h => absurd h HNI.out⟩
              have e := (show OwnPs lo w3.heap.size w3 _ ps from (HOS.out.later HL3.out).wide (Nat.le_refl _) HL3.out.size).insert ((HUS.out.later HL3.out).wide (Nat.le_refl _) HL3.out.size) HNE.out HL8.out (v' := .slice a8 (k + 1 + (ps.length - k)) c8) (by
                rw [HINL.out, HINM.out]
                exact ownsRow_base HO8.out HLW.out)
              unfold putPs
              rw [if_neg HNI.out]
              exact e
        · have HNI := hid (show ¬ inPs ps a from fun h => hkn (HDEF.out.1 h).2)
          have hkn2 : ¬ (k : Int) < (ps.length : Int) := by omega
          clear row hL
          have HOW := hid (show (wr.alloc (.cells #[] 22)).ownsRow wr.heap.size 22 1 (.slice (some ⟨wr.heap.size, 0, none⟩) 0 0) 0 [] from ⟨rfl, .inr ⟨wr.heap.size, 0, #[], rfl, Nat.le_refl _, heap_alloc_new wr _, Nat.le_refl _, by omega, by simp, by simp⟩⟩)
          have HCL := hid (show ∀ j, j < ps.length → wr.cell? ⟨g, j, none⟩ = some (ps.getD j (undef, [])).1 from fun j hj => HL.out.cell (HHD.out j hj))
          obtain ⟨XS, hXS⟩ : ∃ XS, (ps.take k).map (·.1) = XS := ⟨_, rfl⟩
          obtain ⟨YS, hYS⟩ : ∃ YS, (ps.drop k).map (·.1) = YS := ⟨_, rfl⟩
          have HXL := hid (show XS.length = k * 1 by rw [← hXS]; simp; omega)
          have HYL := hid (show YS.length = (ps.length - k) * 1 by rw [← hYS]; simp)
          have hsl : ∀ p ∈ ps, p.1.oneCell' = true := fun p hp => by obtain ⟨_, _, e, _⟩ := (HOS.out.ints p hp).shape; rw [e]; rfl
          have HXO := hid (show ∀ u ∈ XS, u.oneCell' = true by intro u hu; rw [← hXS] at hu; obtain ⟨p, hp, rfl⟩ := List.mem_map.1 hu; exact hsl p (List.mem_of_mem_take hp))
          have HYO := hid (show ∀ u ∈ YS, u.oneCell' = true by intro u hu; rw [← hYS] at hu; obtain ⟨p, hp, rfl⟩ := List.mem_map.1 hu; exact hsl p (List.mem_of_mem_drop hp))
          have hat : ∀ j u, (ps.map (·.1))[j]? = some u → wr.cell? ⟨g, j, none⟩ = some u := by
            intro j u hj
            have hj2 : j < ps.length := by
              rcases Nat.lt_or_ge j ps.length with h | h
              · exact h
              · rw [List.getElem?_eq_none (by simpa using h)] at hj; cases hj
            rw [HCL.out j hj2, ← hj]
            simp [hj2]
          have HNX := hid (show ∀ j u, XS[j]? = some u → (wr.alloc (.cells #[] 22)).cell? ((⟨g, 0, none⟩ : Addr).add j) = some u from fun j u hj => by
            rw [addr_add0]
            refine (Later.alloc wr _).cell (hat j u ?_)
            rw [← hXS, List.map_take, List.getElem?_take] at hj
            split at hj
            · exact hj
            · cases hj)
          have HINL := hid (show (insPs ps (.slice ua a.length uc, a)).length = k + 1 + (ps.length - k) by rw [(insPs_perm ps _).length_eq]; simp; omega)
          have HINM := hid (show (insPs ps (.slice ua a.length uc, a)).map (·.1) = XS ++ [.slice ua a.length uc] ++ YS by rw [HINS.out, ← hXS, ← hYS]; simp)
          have HLW := hid (show lo ≤ wr.heap.size from Nat.le_trans HLO.out HL.out.size)
          have hkc : (k : Int) ≤ (cg : Int) := by omega
          have hkp : (k : Int) ≤ (ps.length : Int) := by omega
          have hpc : (ps.length : Int) ≤ (cg : Int) := by omega
          have hk0 : (0 : Int) ≤ (k : Int) := by omega
          have hktn : ((k : Int)).toNat = k := by omega
          clear hsl
          go_wp2_with (at_builtin; refine wpList_append_own_at _ (by rfl) _ _ _ (by rfl) wr.heap.size 22 i0 (.slice none 0 0) 1 24 Try.underlying36 hi hz0 hz1 hz2 rfl (by omega) (.slice (some ⟨wr.heap.size, 0, none⟩) 0 0) 0 [] (by rfl) (by exact HOW.out) ⟨g, 0, none⟩ k cg XS (by rfl) (by exact HXL.out) HNX.out (fun u hu => HXO.out u hu) (by unfold maxLen; omega) (by omega) (by simp) ?_)
          intro v6 w6 hown6 hgrow6 _ _
          have HO6 := hid (show w6.ownsRow wr.heap.size 22 1 v6 k XS by simpa using hown6)
          have HL6 := hid (show Later wr w6 from (Later.alloc wr (.cells #[] 22)).grown hgrow6 (by simp) (fun b hb => Nat.le_of_eq (Option.some.inj hb)))
          have HW6 := hid HL6.out.size
          clear hown6 hgrow6 HOW HNX
          by_cases hcq : cg = k
          · have HNY := hid (show ∀ t u, YS[t]? = some u → wr.cell? ((⟨g, 0, none⟩ : Addr).add t) = some u from fun t u ht => by
              rw [List.getElem?_eq_none (by have := HYL.out; omega)] at ht; cases ht)
            clear hat hXS hYS
            go_wp2_with fail
            go_region_held3 (fun _ => True) (trivial) (first | (have hh := HW6; clear hh; refine step_append_atH _ (by rfl) _ _ _ (by rfl) wr.heap.size 22 i0 (.slice none 0 0) 1 24 Try.underlying36 hi hz0 hz1 hz2 rfl (by omega) v6 k XS (by rfl) (by exact (HO6.out.alloc (.cells #[Value.slice ua a.length uc] 22)).drew) _ _ _ [.slice ua a.length uc] (by rfl) (by rfl) (by intro j u hj; rw [World.cell?_drew]; exact World.news_of_block (cs := #[.slice ua a.length uc]) (t := 22) (fr := (0, 0)) (heap_alloc_new w6 _) j u hj) (fun u hu => by simp at hu; subst hu; rfl) (by unfold maxLen; omega) (by omega) (by have := HW6.out; simp; omega) ?_; intro v7 w7 hown7 hgrow7; clear HW6; have HO7 := hid hown7; have HL7 := hid (show Later wr w7 from ((HL6.out.trans (Later.alloc w6 (.cells #[Value.slice ua a.length uc] 22))).trans (Later.drew _)).grown hgrow7 (by have := HL6.out.size; simp; omega) (fun b hb => (HO6.out.lt b hb).1)); clear hown7 hgrow7) | (have hh := HO7; clear hh; refine step_append_atH _ (by rfl) _ _ _ (by rfl) wr.heap.size 22 i0 (.slice none 0 0) 1 24 Try.underlying36 hi hz0 hz1 hz2 rfl (by omega) _ (k + 1) (XS ++ [.slice ua a.length uc]) (by rfl) (by exact HO7.out) ⟨g, 0, none⟩ (ps.length - k) 0 YS (by rfl) (by exact HYL.out) (fun t u ht => HL7.out.cell (HNY.out t u ht)) (fun u hu => HYO.out u hu) (by unfold maxLen; omega) (by omega) (by have := HL7.out.size; omega) ?_; intro v8 w8 hown8 hgrow8; have HO8 := hid hown8; have HL8 := hid (show Later wr w8 from HL7.out.grown hgrow8 HL7.out.size (fun b hb => (HO7.out.lt b hb).1)); obtain ⟨a8, c8, rfl, _⟩ := ownsRow_shape hown8; clear hown8 hgrow8 HO7 HL7))
            go_wp2_with fail
            go_ret
            refine ⟨_, rfl, ?_, HL.out.trans HL8.out, fun h => absurd h HNI.out⟩
            have e := (show OwnPs lo wr.heap.size wr _ ps from (HOS.out.later HL.out).wide (Nat.le_refl _) HL.out.size).insert ((HUS.out.later HL.out).wide (Nat.le_refl _) HL.out.size) HNE.out HL8.out (v' := .slice a8 (k + 1 + (ps.length - k)) c8) (by
              rw [HINL.out, HINM.out]
              exact ownsRow_base HO8.out HLW.out)
            unfold putPs
            rw [if_neg HNI.out]
            exact e
          · have HNY := hid (show ∀ t u, YS[t]? = some u → wr.cell? ((⟨g, k, none⟩ : Addr).add t) = some u from fun t u ht => by
              have h1 := hat (k + t) u (by rw [← hYS] at ht; rw [← ht]; simp)
              rw [← h1]
              congr 1
              unfold Addr.add
              by_cases h0 : t = 0 <;> simp [h0])
            clear hat hXS hYS
            go_wp2_with fail
            go_region_held3 (fun _ => True) (trivial) (first | (have hh := HW6; clear hh; refine step_append_atH _ (by rfl) _ _ _ (by rfl) wr.heap.size 22 i0 (.slice none 0 0) 1 24 Try.underlying36 hi hz0 hz1 hz2 rfl (by omega) v6 k XS (by rfl) (by exact (HO6.out.alloc (.cells #[Value.slice ua a.length uc] 22)).drew) _ _ _ [.slice ua a.length uc] (by rfl) (by rfl) (by intro j u hj; rw [World.cell?_drew]; exact World.news_of_block (cs := #[.slice ua a.length uc]) (t := 22) (fr := (0, 0)) (heap_alloc_new w6 _) j u hj) (fun u hu => by simp at hu; subst hu; rfl) (by unfold maxLen; omega) (by omega) (by have := HW6.out; simp; omega) ?_; intro v7 w7 hown7 hgrow7; clear HW6; have HO7 := hid hown7; have HL7 := hid (show Later wr w7 from ((HL6.out.trans (Later.alloc w6 (.cells #[Value.slice ua a.length uc] 22))).trans (Later.drew _)).grown hgrow7 (by have := HL6.out.size; simp; omega) (fun b hb => (HO6.out.lt b hb).1)); clear hown7 hgrow7) | (have hh := HO7; clear hh; refine step_append_atH _ (by rfl) _ _ _ (by rfl) wr.heap.size 22 i0 (.slice none 0 0) 1 24 Try.underlying36 hi hz0 hz1 hz2 rfl (by omega) _ (k + 1) (XS ++ [.slice ua a.length uc]) (by rfl) (by exact HO7.out) ⟨g, k, none⟩ (ps.length - k) (cg - k) YS (by rfl) (by exact HYL.out) (fun t u ht => HL7.out.cell (HNY.out t u ht)) (fun u hu => HYO.out u hu) (by unfold maxLen; omega) (by omega) (by have := HL7.out.size; omega) ?_; intro v8 w8 hown8 hgrow8; have HO8 := hid hown8; have HL8 := hid (show Later wr w8 from HL7.out.grown hgrow8 HL7.out.size (fun b hb => (HO7.out.lt b hb).1)); obtain ⟨a8, c8, rfl, _⟩ := ownsRow_shape hown8; clear hown8 hgrow8 HO7 HL7))
            go_wp2_with fail
            go_ret
            refine ⟨_, rfl, ?_, HL.out.trans HL8.out, fun h => absurd h HNI.out⟩
            have e := (show OwnPs lo wr.heap.size wr _ ps from (HOS.out.later HL.out).wide (Nat.le_refl _) HL.out.size).insert ((HUS.out.later HL.out).wide (Nat.le_refl _) HL.out.size) HNE.out HL8.out (v' := .slice a8 (k + 1 + (ps.length - k)) c8) (by
              rw [HINL.out, HINM.out]
              exact ownsRow_base HO8.out HLW.out)
            unfold putPs
            rw [if_neg HNI.out]
            exact e


/-- The branches behind jumps at the first i indices, in order. -/
def upF (a : Int) (zs : List Int) : Nat → List (List Int)
  | 0 => []
  | i + 1 => match jumpL a zs i with
    | none => upF a zs i
    | some ys => if zs.getD i 0 < othL a zs i then putL (upF a zs i) ys else upF a zs i
theorem putL_len (L : List (List Int)) (a : List Int) : (putL L a).length ≤ L.length + 1 := by
  unfold putL
  split
  · omega
  · rw [List.length_append, List.length_cons, List.length_take, List.length_drop]; omega
theorem upF_len (a : Int) (zs : List Int) (i : Nat) : (upF a zs i).length ≤ i := by
  induction i with
  | zero => simp [upF]
  | succ i ih =>
    unfold upF
    split
    · omega
    · split
      · have := putL_len (upF a zs i) ‹_›; omega
      · omega
theorem upF_none {a : Int} {zs : List Int} {i : Nat} (h : jumpL a zs i = none) : upF a zs (i + 1) = upF a zs i := by
  show (match jumpL a zs i with | none => upF a zs i | some ys => if zs.getD i 0 < othL a zs i then putL (upF a zs i) ys else upF a zs i) = _
  rw [h]
theorem upF_some {a : Int} {zs ys : List Int} {i : Nat} (h : jumpL a zs i = some ys) : upF a zs (i + 1) = if zs.getD i 0 < othL a zs i then putL (upF a zs i) ys else upF a zs i := by
  show (match jumpL a zs i with | none => upF a zs i | some ys => if zs.getD i 0 < othL a zs i then putL (upF a zs i) ys else upF a zs i) = _
  rw [h]
theorem OwnInts.neOld {lo hi lo2 hi2 : Nat} {w w2 : World} {u v : Value} {x y : List Int} (h : OwnInts lo hi w u x) (h2 : OwnInts lo2 hi2 w2 v y) (hh : hi ≤ lo2) : NePr (u, x) (v, y) := by
  intro k hk hk2
  have h3 := h.2 k hk
  have h4 := (h2.1.lt k hk2).1
  omega
theorem OwnPs.none_ (lo hi : Nat) (w : World) : OwnPs lo hi w (.slice none 0 0) [] :=
  ⟨World.ownsRow_nil _ _ _ _, fun b hb => by simp [Value.ownBlock] at hb, fun p hp => by simp at hp, List.Pairwise.nil⟩

set_option maxRecDepth 20000 in
set_option maxHeartbeats 1000000 in
theorem huUp_any (v : Value) (zs : List Int) (a b : Int) (w : World) (hS : Sol zs a b) (h : IntsC w v zs) :
    Calls Try.prog 69 #[v, .int .i64 a] w fun e w' => ∃ v' ps, e = .returned v' ∧ OwnPs w.heap.size w'.heap.size w' v' ps ∧ ps.map (·.2) = upF a zs zs.length ∧ Later w w' := by
  have hlen := hS.hl
  obtain ⟨ad, c, rfl, hnc⟩ := h.addr (by omega)
  have H := hid h
  have HS := hid hS
  have HNC := hid hnc
  obtain ⟨_, _, e1, _, hcc⟩ := h.1
  simp only [Value.slice.injEq] at e1
  obtain ⟨rfl, _, rfl⟩ := e1
  have HCC := hid hcc
  have hn4 : zs.length ≤ 4 := by omega
  clear h hS hlen hnc hcc
  go_enter Try.func69, Try.ntmps69
  go_wp2_with fail
  go_loopw [5, 12] (fun o i wr => ∃ (k : Nat) (ps : List Pr), k ≤ zs.length ∧ i = .int .i64 k ∧ OwnPs w.heap.size wr.heap.size wr o ps ∧ ps.map (·.2) = upF a zs k ∧ Later w wr) (fun _ i _ => zs.length - (intOf i).toNat)
  case atStart => exact ⟨0, [], Nat.zero_le _, rfl, OwnPs.none_ _ _ _, rfl, Later.refl _⟩
  case round =>
    obtain ⟨k, ps, hk, rfl, hO, hU, hL⟩ := hrel
    have HO := hid hO
    have HU := hid hU
    have HL := hid hL
    have hpl : ps.length ≤ 4 := by have := upF_len a zs k; rw [← hU, List.length_map] at this; omega
    by_cases hlt : k < zs.length
    · have HK := hid hlt
      have hkz : (k : Int) < (zs.length : Int) := by omega
      obtain ⟨ad', e2, hcell⟩ := HCC.out k HK.out
      simp only [Option.some.injEq] at e2
      subst e2
      replace hcell := hL.cell hcell
      have HI := hid (H.out.later hL)
      obtain ⟨x, hx⟩ : ∃ x, zs.getD k 0 = x := ⟨_, rfl⟩
      have HX := hid hx
      rw [hx] at hcell
      clear hO hU hL hx
      cases hj : jumpL a zs k
      · have HJ := hid hj
        have HST := hid (upF_none hj)
        clear hj
        go_wp2_with fail
        refine (huJump_any zs a b k _ _ HK.out HS.out HI.out).mono ?_
        rintro e w2 ⟨v2, rfl, ho2, hL2⟩
        rw [HJ.out]
        have HO2 := hid ((HO.out.later hL2).wide (Nat.le_refl _) hL2.size)
        have HL2 := hid (HL.out.trans hL2)
        clear ho2 hL2 hcell
        go_wp2_with fail
        go_roundw
        case rel => exact ⟨k + 1, ps, hlt, by go_num, HO2.out, by rw [HST.out]; exact HU.out, HL2.out⟩
        case measure => simp [intOf]; omega
      · rename_i ys
        have HJ := hid hj
        have HST := hid (upF_some hj)
        clear hj
        go_wp2_with fail
        refine (huJump_any zs a b k _ _ HK.out HS.out HI.out).mono ?_
        rintro e w2 ⟨v2, rfl, ho2, hL2⟩
        rw [HJ.out] at ho2 ⊢
        have ho2' : OwnInts wr.heap.size w2.heap.size w2 v2 ys := ho2
        have HNE := hid (fun p (hp : p ∈ ps) => show NePr p (v2, ys) from (HO.out.ints p hp).neOld ho2' (Nat.le_refl _))
        have HV2 := hid (ho2'.wide HL.out.size (Nat.le_refl _))
        have HO2 := hid ((HO.out.later hL2).wide (Nat.le_refl _) hL2.size)
        have HI2 := hid (HI.out.later hL2)
        have HL2 := hid (HL.out.trans hL2)
        clear ho2 ho2' hL2 hcell
        go_wp2_with fail
        refine (huOther_sol zs a b k ad c _ HK.out HNC.out HS.out HI2.out.1).mono ?_
        rintro e w3 ⟨rfl, hL3⟩
        have HO3 := hid ((HO2.out.later hL3).wide (Nat.le_refl _) hL3.size)
        have HV3 := hid ((HV2.out.later hL3).wide (Nat.le_refl _) hL3.size)
        have HL3 := hid (HL2.out.trans hL3)
        obtain ⟨r, hr⟩ : ∃ r, othL a zs k = r := ⟨_, rfl⟩
        rw [HX.out, hr] at HST
        rw [hr]
        clear hL3 hr
        by_cases hxr : x < r
        · have hd : decide (x < r) = true := decide_eq_true hxr
          have HST2 := hid (HST.out.trans (if_pos hxr))
          clear hxr
          go_wp2_with fail
          refine (huPut_any _ v2 ys ps w3 HL3.out.size (by omega) HO3.out HV3.out HNE.out).mono ?_
          rintro e w4 ⟨v4, rfl, ho4, hL4, _⟩
          have HO4 := hid ho4
          have HL4 := hid (HL3.out.trans hL4)
          have HPM := hid (putPs_map ps (v2, ys))
          clear ho4 hL4
          go_wp2_with fail
          go_roundw
          case rel => exact ⟨k + 1, _, hlt, by go_num, HO4.out, by rw [HPM.out, HST2.out, HU.out], HL4.out⟩
          case measure => simp [intOf]; omega
        · have hd : decide (x < r) = false := decide_eq_false hxr
          have HST2 := hid (HST.out.trans (if_neg hxr))
          clear hxr
          go_wp2_with fail
          go_roundw
          case rel => exact ⟨k + 1, ps, hlt, by go_num, HO3.out, by rw [HST2.out]; exact HU.out, HL3.out⟩
          case measure => simp [intOf]; omega
    · have hkn : k = zs.length := by omega
      have HU2 := hid (show ps.map (·.2) = upF a zs zs.length by rw [← hkn]; exact HU.out)
      clear hO hU hL hkn
      go_wp2_with fail
      go_ret
      exact ⟨_, ps, rfl, HO.out, HU2.out, HL.out⟩
def brAns (zs : List Int) (a b : Int) : Option (List (List Int)) := if (givenB a b && solB zs a b) = true then some (upF a zs zs.length) else none
set_option maxRecDepth 20000 in
set_option maxHeartbeats 2000000 in
theorem specBranchesOf_any (v : Value) (zs : List Int) (a b : Int) (w : World) (h : IntsC w v zs) :
    Calls Try.prog 38 #[v, .int .i64 a, .int .i64 b] w fun e w' => RowsAns w (brAns zs a b) e w' := by
  obtain ⟨p, cap, rfl, hl, _⟩ := id h.1
  have H := hid h
  clear h
  cases hg : givenB a b
  · have HG := hid hg
    have HA := hid (show brAns zs a b = none by unfold brAns; rw [hg]; simp)
    clear hg
    go_enter Try.func38, Try.ntmps38
    go_wp2_with fail
    refine (huGiven_as a b _ _ HG.out).mono ?_
    rintro e w' ⟨rfl, rfl⟩
    go_wp2_with fail
    go_ret2
    rw [HA.out]
    exact ⟨_, rfl, OwnRows.noneH _ _ _, Later.refl _⟩
  · have HG := hid hg
    cases hs : solB zs a b
    · have HS := hid hs
      have HA := hid (show brAns zs a b = none by unfold brAns; rw [hg, hs]; simp)
      clear hg hs
      go_enter Try.func38, Try.ntmps38
      go_wp2_with fail
      refine (huGiven_as a b _ _ HG.out).mono ?_
      rintro e w' ⟨rfl, rfl⟩
      go_wp2_with fail
      refine (huGood_as _ zs a b _ _ HG.out HS.out H.out.1).mono ?_
      rintro e w' ⟨rfl, hL⟩
      have HL := hid hL
      clear hL
      go_wp2_with fail
      go_ret2
      rw [HA.out]
      exact ⟨_, rfl, OwnRows.noneH _ _ _, HL.out⟩
    · have HSol := hid (Sol.of hg hs)
      have HS := hid hs
      have HA := hid (show brAns zs a b = some (upF a zs zs.length) by unfold brAns; rw [if_pos (by rw [hg, hs]; rfl)])
      clear hg hs
      go_enter Try.func38, Try.ntmps38
      go_wp2_with fail
      refine (huGiven_as a b _ _ HG.out).mono ?_
      rintro e w' ⟨rfl, rfl⟩
      go_wp2_with fail
      refine (huGood_as _ zs a b _ _ HG.out HS.out H.out.1).mono ?_
      rintro e w' ⟨rfl, hL⟩
      have HL := hid hL
      clear hL
      go_wp2_with fail
      refine (huUp_any _ zs a b _ HSol.out (H.out.later HL.out)).mono ?_
      rintro e w2 ⟨v2, ps, rfl, ho, hm, hL⟩
      have hor := ho.rows
      rw [hm] at hor
      obtain ⟨a2, c2, rfl, _⟩ := hor.shape
      have HO := hid (hor.wide HL.out.size (Nat.le_refl _))
      have HL2 := hid (HL.out.trans hL)
      clear ho hor hL
      go_wp2_with fail
      go_ret2
      rw [HA.out]
      exact ⟨_, rfl, HO.out, HL2.out⟩


def sumQ (s : So) : Int := s.1 + s.2.1 + s.2.2.1 + s.2.2.2
def InQ (s : So) : Prop := (0 ≤ s.1 ∧ s.1 ≤ 100000) ∧ (0 ≤ s.2.1 ∧ s.2.1 ≤ 100000) ∧ (0 ≤ s.2.2.1 ∧ s.2.2.1 ≤ 100000) ∧ (0 ≤ s.2.2.2 ∧ s.2.2.2 ≤ 100000)
theorem Q4.inQ {x y z t : Int} (h : Q4 x y z t) : InQ (x, y, z, t) := by
  obtain ⟨hx, hy, hz, ht⟩ := h
  exact ⟨⟨by show (0 : Int) ≤ x; omega, hx.2⟩, ⟨by show (0 : Int) ≤ y; omega, hy.2⟩, ⟨by show (0 : Int) ≤ z; omega, hz.2⟩, ht⟩
theorem noSo_inQ : InQ noSo := by unfold InQ noSo; simp
theorem sumQ_soL (s : So) : sumL (soL s) = sumQ s := by
  obtain ⟨x, y, z, t⟩ := s
  show sumL (qL x y z t) = x + y + z + t
  unfold qL sumL
  split <;> simp <;> omega
set_option maxRecDepth 20000 in
set_option maxHeartbeats 1000000 in
theorem sumS_any (s : So) (w : World) (hs : InQ s) :
    Calls Try.prog 92 #[soA s] w fun e w' => e = .returned (.int .i64 (sumQ s)) ∧ Later w w' := by
  obtain ⟨x, y, z, t⟩ := s
  obtain ⟨⟨hx1, hx2⟩, ⟨hy1, hy2⟩, ⟨hz1, hz2⟩, ⟨ht1, ht2⟩⟩ := hs
  simp only at hx1 hx2 hy1 hy2 hz1 hz2 ht1 ht2
  obtain ⟨c0, c1, c2, c3⟩ := arr4_alloc w x y z t
  have HL := hid (Later.alloc w (.cells #[.int .i64 x, .int .i64 y, .int .i64 z, .int .i64 t] 48))
  show Calls Try.prog 92 #[.agg #[.int .i64 x, .int .i64 y, .int .i64 z, .int .i64 t]] w _
  go_enter Try.func92, Try.ntmps92
  go_wp2_with fail
  go_ret
  exact ⟨rfl, HL.out⟩
set_option maxRecDepth 20000 in
set_option maxHeartbeats 1000000 in
/-- The test whether a solution has no greater sum. -/
theorem branchTest (x y z t : Int) (B : Nat) (w0 : World) (hq : Q4 x y z t) (hb : Arr4 w0 B x y z t) :
    Tests w0 91 #[.pointer (some ⟨B, 0, none⟩)] InQ (fun n => decide (sumQ n ≤ sumQ (x, y, z, t))) := by
  intro w hL s hs
  obtain ⟨p, q, r, u⟩ := s
  have HS := hid hs
  have HQ := hid hq.inQ
  obtain ⟨e0, e1, e2, e3⟩ := hb.later hL
  obtain ⟨c0, c1, c2, c3⟩ := arr4_alloc w p q r u
  have hA := Later.alloc w (.cells #[.int .i64 p, .int .i64 q, .int .i64 r, .int .i64 u] 48)
  replace e0 := hA.cell e0
  replace e1 := hA.cell e1
  replace e2 := hA.cell e2
  replace e3 := hA.cell e3
  have HL := hid hA
  have HC1 := hid (show ∀ w', Calls Try.prog 92 #[.agg #[.int .i64 p, .int .i64 q, .int .i64 r, .int .i64 u]] w' fun e w'' => e = .returned (.int .i64 (sumQ (p, q, r, u))) ∧ Later w' w'' from fun w' => sumS_any (p, q, r, u) w' hs)
  have HC2 := hid (show ∀ w', Calls Try.prog 92 #[.agg #[.int .i64 x, .int .i64 y, .int .i64 z, .int .i64 t]] w' fun e w'' => e = .returned (.int .i64 (sumQ (x, y, z, t))) ∧ Later w' w'' from fun w' => sumS_any (x, y, z, t) w' hq.inQ)
  have TOK := hid True.intro
  obtain ⟨S1, hS1⟩ : ∃ S, sumQ (p, q, r, u) = S := ⟨_, rfl⟩
  obtain ⟨S2, hS2⟩ : ∃ S, sumQ (x, y, z, t) = S := ⟨_, rfl⟩
  have hb1 : -1000000 ≤ S1 ∧ S1 ≤ 1000000 := by obtain ⟨h1, h2, h3, h4⟩ := hs; rw [← hS1]; unfold sumQ; simp only at h1 h2 h3 h4 ⊢; omega
  rw [hS1] at HC1
  rw [hS2] at HC2
  simp only [hS1, hS2]
  clear hA hs hb hL hq hS1 hS2
  show Calls Try.prog 91 #[.agg #[.int .i64 p, .int .i64 q, .int .i64 r, .int .i64 u], .pointer (some ⟨B, 0, none⟩)] w _
  go_enter Try.func91, Try.ntmps91
  go_wp2_with fail
  generalize w.alloc (.cells #[.int .i64 p, .int .i64 q, .int .i64 r, .int .i64 u] 48) = w1 at c0 c1 c2 c3 e0 e1 e2 e3 HL ⊢
  obtain ⟨C, hC⟩ : ∃ C, w.heap.size = C := ⟨_, rfl⟩
  rw [hC] at c0 c1 c2 c3 ⊢
  go_region_held3 (fun w' => w'.cell? ⟨C, 0, none⟩ = some (.int .i64 p) ∧ w'.cell? ⟨C, 1, none⟩ = some (.int .i64 q) ∧ w'.cell? ⟨C, 2, none⟩ = some (.int .i64 r) ∧ w'.cell? ⟨C, 3, none⟩ = some (.int .i64 u) ∧ w'.cell? ⟨B, 0, none⟩ = some (.int .i64 x) ∧ w'.cell? ⟨B, 1, none⟩ = some (.int .i64 y) ∧ w'.cell? ⟨B, 2, none⟩ = some (.int .i64 z) ∧ w'.cell? ⟨B, 3, none⟩ = some (.int .i64 t)) (first | exact ⟨c0, c1, c2, c3, e0, e1, e2, e3⟩ | exact ⟨d0, d1, d2, d3, d4, d5, d6, d7⟩ | exact ⟨f0, f1, f2, f3, f4, f5, f6, f7⟩) (first | (have hh := TOK; clear hh; go_at_call 92; refine (HC1.out _).mono ?_; clear TOK; rintro e w2 ⟨rfl, hL2⟩; have hL2' := (Later.drew w1).trans hL2; have HL2 := hid hL2'; have d0 := hL2'.cell c0; have d1 := hL2'.cell c1; have d2 := hL2'.cell c2; have d3 := hL2'.cell c3; have d4 := hL2'.cell e0; have d5 := hL2'.cell e1; have d6 := hL2'.cell e2; have d7 := hL2'.cell e3; clear hL2 hL2') | (go_at_call 92; refine (HC2.out _).mono ?_; rintro e w3 ⟨rfl, hL3⟩; have hL3' := HL2.out.trans hL3; have HL3 := hid hL3'; have f0 := hL3'.cell c0; have f1 := hL3'.cell c1; have f2 := hL3'.cell c2; have f3 := hL3'.cell c3; have f4 := hL3'.cell e0; have f5 := hL3'.cell e1; have f6 := hL3'.cell e2; have f7 := hL3'.cell e3; clear hL3 hL3'))
  all_goals
    have HLf := hid (HL.out.trans HL3.out)
    clear c0 c1 c2 c3 e0 e1 e2 e3 d0 d1 d2 d3 d4 d5 d6 d7 f0 f1 f2 f3 f4 f5 f6 f7
    go_wp2_with fail
    go_ret
    exact ⟨rfl, HLf.out⟩


theorem compT_pre (L M : List So) : ∀ k, k ≤ L.length → compT (L ++ M) k = compT L k := by
  intro k
  induction k with
  | zero => intro _; rfl
  | succ k ih =>
    intro h
    have e : ∀ j, j < L.length → (L ++ M).getD j noSo = L.getD j noSo := fun j hj => by
      rw [List.getD_eq_getElem?_getD, List.getD_eq_getElem?_getD, List.getElem?_append_left hj]
    unfold compT
    rw [ih (by omega), e k (by omega), e (k - 1) (by omega)]
theorem compT_snoc (L : List So) (x : So) : compT (L ++ [x]) (L ++ [x]).length = compT L L.length ++ (if L.length = 0 ∨ x ≠ L.getD (L.length - 1) noSo then [x] else []) := by
  rw [List.length_append, List.length_singleton]
  show compT (L ++ [x]) L.length ++ _ = _
  rw [compT_pre L [x] L.length (Nat.le_refl _)]
  congr 1
  have e1 : (L ++ [x]).getD L.length noSo = x := by simp
  rw [e1]
  by_cases h : L.length = 0
  · rw [if_pos (.inl h), if_pos (.inl h)]
  · have e2 : (L ++ [x]).getD (L.length - 1) noSo = L.getD (L.length - 1) noSo := by
      rw [List.getD_eq_getElem?_getD, List.getD_eq_getElem?_getD, List.getElem?_append_left (by omega)]
    rw [e2]
theorem takeWhile_all {p : List Int → Bool} {U : List (List Int)} (h : ∀ u ∈ U, p u = true) : U.takeWhile p = U := by
  induction U with
  | nil => rfl
  | cons u U ih => rw [List.takeWhile_cons, if_pos (h u (by simp)), ih (fun v hv => h v (by simp [hv]))]
theorem putL_end {U : List (List Int)} {a : List Int} (h : ∀ u ∈ U, befL u a = true) : putL U a = U ++ [a] := by
  have hk : putK U a = U.length := by unfold putK; rw [takeWhile_all h]
  unfold putL
  rw [hk, if_neg (by omega), List.take_length, List.drop_length]
theorem putL_last {V : List (List Int)} {a : List Int} (h : ∀ u ∈ V, befL u a = true) : putL (V ++ [a]) a = V ++ [a] := by
  have hk : putK (V ++ [a]) a = V.length := by
    unfold putK
    rw [List.takeWhile_append, takeWhile_all h]
    simp [befL_irr]
  unfold putL
  rw [hk, if_pos (by simp)]
theorem soL_inj {s u : So} (h : soL s = soL u) : s = u := by
  have := congrArg toSo h
  rwa [show toSo (soL s) = s from toSo_qL _ _ _ _, show toSo (soL u) = u from toSo_qL _ _ _ _] at this
theorem Sol.toSo {ys : List Int} {a b : Int} (h : Sol ys a b) : soL (toSo ys) = ys := by
  obtain ⟨x, y, z, t, rfl, _⟩ := h.q4
  rw [toSo_qL]; rfl
def bigQ (zs : List Int) (n : So) : Bool := !decide (sumQ n ≤ sumL zs)
def brF (a : Int) (zs : List Int) (k : Nat) : List So := ((List.range k).map (nbQ a zs)).filter (bigQ zs)
theorem brF_succ (a : Int) (zs : List Int) (k : Nat) : brF a zs (k + 1) = brF a zs k ++ (if bigQ zs (nbQ a zs k) = true then [nbQ a zs k] else []) := by
  unfold brF
  rw [List.range_succ, List.map_append, List.filter_append]
  congr 1
  simp only [List.map_cons, List.map_nil, List.filter_cons, List.filter_nil]
def BrInv (a : Int) (zs : List Int) (k : Nat) : Prop :=
  (compT (brF a zs k) (brF a zs k).length).map soL = upF a zs k ∧
  ((brF a zs k = [] ∧ upF a zs k = []) ∨ ∃ V l i, upF a zs k = V ++ [l] ∧ (brF a zs k).length ≠ 0 ∧ soL ((brF a zs k).getD ((brF a zs k).length - 1) noSo) = l ∧ (∀ v ∈ V, befL v l = true) ∧ i < k ∧ jumpL a zs i = some l)
theorem brInv {zs : List Int} {a b : Int} (hS : Sol zs a b) : ∀ k, k ≤ zs.length → BrInv a zs k := by
  intro k
  induction k with
  | zero => intro _; exact ⟨rfl, .inl ⟨rfl, rfl⟩⟩
  | succ k ih =>
    intro hk
    obtain ⟨h1, h2⟩ := ih (by omega)
    have hsb := hS.sum_bd
    cases hj : jumpL a zs k with
    | none =>
      have hn : nbQ a zs k = noSo := by unfold nbQ; rw [hj]; rfl
      have hq : bigQ zs (nbQ a zs k) = false := by rw [hn]; unfold bigQ; rw [decide_eq_true (by show (0 : Int) + 0 + 0 + 0 ≤ sumL zs; omega)]; rfl
      have e : brF a zs (k + 1) = brF a zs k := by rw [brF_succ, hq]; simp
      unfold BrInv
      rw [e, upF_none hj]
      refine ⟨h1, ?_⟩
      rcases h2 with h2 | ⟨V, l, i, p1, p2, p3, p4, p5, p6⟩
      · exact .inl h2
      · exact .inr ⟨V, l, i, p1, p2, p3, p4, by omega, p6⟩
    | some ys =>
      have hys := hS.jump (by omega) hj
      have hn : nbQ a zs k = toSo ys := by unfold nbQ; rw [hj]; rfl
      have hsum : sumQ (nbQ a zs k) = sumL zs - zs.getD k 0 + othL a zs k := by
        rw [hn, ← sumQ_soL, hys.toSo]; exact jump_sum (by omega) hj
      by_cases hlt : zs.getD k 0 < othL a zs k
      · have hq : bigQ zs (nbQ a zs k) = true := by unfold bigQ; rw [decide_eq_false (by omega)]; rfl
        have e : brF a zs (k + 1) = brF a zs k ++ [toSo ys] := by rw [brF_succ, hq, hn]; simp
        unfold BrInv
        rw [e, upF_some hj, if_pos hlt, compT_snoc]
        have hlast : (brF a zs k ++ [toSo ys]).getD ((brF a zs k ++ [toSo ys]).length - 1) noSo = toSo ys := by simp
        rcases h2 with ⟨p1, p2⟩ | ⟨V, l, i, p1, p2, p3, p4, p5, p6⟩
        · rw [p1, p2]
          refine ⟨?_, .inr ⟨[], ys, k, ?_, by simp, ?_, fun v hv => by simp at hv, by omega, hj⟩⟩
          · simp [compT, hys.toSo, putL, putK]
          · simp [putL, putK]
          · simp [hys.toSo]
        · have hdom := branch_dom hS p5 (by omega) p6 hj
          have hl := hS.jump (by omega) p6
          have hd := befL_dom (P := l) (Q := ys) (by rw [Sol.jump_len p6, Sol.jump_len hj]) ((fallB_iff (by omega)).1 hl.hf).1 ((fallB_iff (by omega)).1 hys.hf).1 hdom
          by_cases hly : l = ys
          · subst hly
            have hf : toSo l = (brF a zs k).getD ((brF a zs k).length - 1) noSo := soL_inj (by rw [hys.toSo, p3])
            rw [if_neg (by rw [hf]; simp [p2]), List.append_nil, h1, p1, putL_last p4]
            refine ⟨rfl, .inr ⟨V, l, i, rfl, by simp, ?_, p4, by omega, p6⟩⟩
            rw [hlast, hys.toSo]
          · have hf : toSo ys ≠ (brF a zs k).getD ((brF a zs k).length - 1) noSo := fun he => hly (by rw [← p3, ← he, hys.toSo])
            have hb := hd.2 hly
            rw [if_pos (.inr hf), List.map_append, h1, p1, putL_end (fun u hu => by
              rcases List.mem_append.1 hu with h | h
              · exact befL_trans (p4 u h) hb
              · rw [List.mem_singleton] at h; rw [h]; exact hb)]
            refine ⟨by simp [hys.toSo], .inr ⟨V ++ [l], ys, k, rfl, by simp, ?_, fun v hv => ?_, by omega, hj⟩⟩
            · rw [hlast, hys.toSo]
            · rcases List.mem_append.1 hv with h | h
              · exact befL_trans (p4 v h) hb
              · rw [List.mem_singleton] at h; rw [h]; exact hb
      · have hq : bigQ zs (nbQ a zs k) = false := by unfold bigQ; rw [decide_eq_true (by omega)]; rfl
        have e : brF a zs (k + 1) = brF a zs k := by rw [brF_succ, hq]; simp
        unfold BrInv
        rw [e, upF_some hj, if_neg hlt]
        refine ⟨h1, ?_⟩
        rcases h2 with h2 | ⟨V, l, i, p1, p2, p3, p4, p5, p6⟩
        · exact .inl h2
        · exact .inr ⟨V, l, i, p1, p2, p3, p4, by omega, p6⟩


theorem nbQ_inQ {a b : Int} {zs : List Int} (hS : Sol zs a b) (i : Nat) (hi : i < zs.length) : InQ (nbQ a zs i) := by
  unfold nbQ
  cases hj : jumpL a zs i with
  | none => exact noSo_inQ
  | some ys =>
    obtain ⟨x, y, z, t, rfl, hq⟩ := (hS.jump hi hj).q4
    show InQ (toSo (qL x y z t))
    rw [toSo_qL]; exact hq.inQ
set_option maxRecDepth 20000 in
set_option maxHeartbeats 1000000 in
theorem branchesS_any (x y z t a b : Int) (w : World) (hS : Sol (qL x y z t) a b) (hq : Q4 x y z t) :
    Calls Try.prog 71 #[.agg #[.int .i64 x, .int .i64 y, .int .i64 z, .int .i64 t], .int .i64 a] w fun e w' => ∃ g cap, e = .returned (.slice (some ⟨g, 0, none⟩) (brF a (qL x y z t) (qN t)).length cap) ∧ OwnSols w.heap.size w' (.slice (some ⟨g, 0, none⟩) (brF a (qL x y z t) (qN t)).length cap) (brF a (qL x y z t) (qN t)) ∧ Later w w' := by
  have hA := Later.alloc w (.cells #[.int .i64 x, .int .i64 y, .int .i64 z, .int .i64 t] 48)
  have HT := hid (branchTest x y z t w.heap.size (w.alloc (.cells #[.int .i64 x, .int .i64 y, .int .i64 z, .int .i64 t] 48)) hq (arr4_alloc w x y z t))
  obtain ⟨c0, c1, c2, c3⟩ := arr4_alloc w x y z t
  have HL := hid hA
  have HNB := hid (fun w' => neighbours_any x y z t a b w' hS hq)
  have HSM := hid (sumQ_soL (x, y, z, t))
  have hNl : ((List.range (qN t)).map (nbQ a (qL x y z t))).length = qN t := by simp
  have HD := hid (show ∀ s ∈ (List.range (qN t)).map (nbQ a (qL x y z t)), InQ s from fun s hs => by
    obtain ⟨i, hi, rfl⟩ := List.mem_map.1 hs
    exact nbQ_inQ hS i (by rw [qL_len]; simpa using hi))
  have hqn := qN_bd t
  have HF := hid (show brF a (qL x y z t) (qN t) = ((List.range (qN t)).map (nbQ a (qL x y z t))).filter (fun s => !(decide (sumQ s ≤ sumQ (x, y, z, t)))) by
    unfold brF bigQ
    rw [show sumL (qL x y z t) = sumQ (x, y, z, t) from HSM.out])
  obtain ⟨F, hF⟩ : ∃ F, brF a (qL x y z t) (qN t) = F := ⟨_, rfl⟩
  obtain ⟨N, hN⟩ : ∃ N, (List.range (qN t)).map (nbQ a (qL x y z t)) = N := ⟨_, rfl⟩
  rw [hF] at HF ⊢
  rw [hN] at HF HNB HD hNl
  have HNL := hid hNl
  have HWS := hid (show (w.alloc (.cells #[.int .i64 x, .int .i64 y, .int .i64 z, .int .i64 t] 48)).heap.size = w.heap.size + 1 by simp)
  clear hS hq hF hN hA hNl
  go_enter Try.func71, Try.ntmps71
  go_wp2_with fail
  generalize w.alloc (.cells #[.int .i64 x, .int .i64 y, .int .i64 z, .int .i64 t] 48) = w1 at c0 c1 c2 c3 HL HT HWS ⊢
  obtain ⟨B, hB⟩ : ∃ B, w.heap.size = B := ⟨_, rfl⟩
  rw [hB] at c0 c1 c2 c3 HT ⊢
  refine (HNB.out w1).mono ?_
  rintro e w2 ⟨v2, rfl, ho, hL2⟩
  obtain ⟨g, cg, rfl⟩ : ∃ g cg, v2 = .slice (some ⟨g, 0, none⟩) N.length cg := by
    rcases ho.2 with ⟨_, h0⟩ | ⟨g, cap, cur, e, _⟩
    · have := HNL.out; omega
    · exact ⟨g, cap, e⟩
  have HO := hid ho
  have HL2 := hid hL2
  have hNb : N.length ≤ 1000000 := by have := HNL.out; omega
  have HLW := hid (show w.heap.size ≤ w1.heap.size by rw [HWS.out]; omega)
  clear ho hL2 c0 c1 c2 c3
  go_wp2_with fail
  refine (deleteFunc_any w1 91 #[.pointer (some ⟨B, 0, none⟩)] Try.call91 InQ (fun n => decide (sumQ n ≤ sumQ (x, y, z, t))) HT.out g cg N w2 HL2.out (Nat.le_refl _) HD.out hNb HO.out).mono ?_
  rintro e w3 ⟨rfl, ho3, hL3⟩
  rw [← HF.out] at ho3 ⊢
  have HO3 := hid (ho3.base HLW.out)
  have HL3 := hid (HL.out.trans hL3)
  clear ho3 hL3
  go_wp2_with fail
  go_ret
  exact ⟨g, cg, rfl, HO3.out, HL3.out⟩
set_option maxRecDepth 20000 in
set_option maxHeartbeats 1000000 in
theorem implBranchesOf_any (v : Value) (zs : List Int) (a b : Int) (w : World) (h : Ints w v zs) :
    Calls Try.prog 39 #[v, .int .i64 a, .int .i64 b] w fun e w' => RowsAns w (brAns zs a b) e w' := by
  obtain ⟨p, cap, rfl, hl, _⟩ := id h
  have H := hid h
  clear h
  cases hs : (givenB a b && solB zs a b)
  · have HS := hid hs
    have HA := hid (show brAns zs a b = none by unfold brAns; rw [hs]; simp)
    clear hs
    go_enter Try.func39, Try.ntmps39
    go_wp2_with fail
    refine (solutionOf_no _ zs a b _ HS.out H.out).mono ?_
    rintro e w1 ⟨rfl, hL⟩
    have HL := hid (hL.trans (Later.alloc w1 (.cells #[.int .i64 0, .int .i64 0, .int .i64 0, .int .i64 0] 48)))
    clear hL
    go_wp2_with fail
    go_ret2
    rw [HA.out]
    exact ⟨_, rfl, OwnRows.noneH _ _ _, HL.out⟩
  · have hS := Sol.good hs
    have HS := hid hS
    obtain ⟨x, y, z, t, rfl, hq⟩ := hS.q4
    have HQ := hid hq
    have HA := hid (show brAns (qL x y z t) a b = some (upF a (qL x y z t) (qL x y z t).length) by unfold brAns; rw [if_pos hs])
    have hinv := (brInv hS (qL x y z t).length (Nat.le_refl _)).1
    have HBR := hid (fun w0 => branchesS_any x y z t a b w0 hS hq)
    rw [qL_len] at hinv HA
    have hfl : (brF a (qL x y z t) (qN t)).length ≤ 4 := by
      unfold brF
      have h1 := List.length_filter_le (bigQ (qL x y z t)) ((List.range (qN t)).map (nbQ a (qL x y z t)))
      have h2 := qN_bd t
      simp only [List.length_map, List.length_range] at h1
      omega
    obtain ⟨F, hF⟩ : ∃ F, brF a (qL x y z t) (qN t) = F := ⟨_, rfl⟩
    rw [hF] at hinv HBR hfl
    obtain ⟨M, hM⟩ : ∃ M, compT F F.length = M := ⟨_, rfl⟩
    have HCM := hid hM
    have hml : M.length ≤ 4 := by rw [← hM]; have := compT_le F F.length; omega
    rw [hM] at hinv
    have HINV := hid hinv
    clear hs hS hq hF hM hinv
    go_enter Try.func39, Try.ntmps39
    go_wp2_with fail
    refine (solutionOf_yes _ x y z t a b _ HS.out HQ.out H.out).mono ?_
    rintro e w1 ⟨rfl, hL⟩
    obtain ⟨c0, c1, c2, c3⟩ := arr4_alloc w1 x y z t
    have HL := hid (hL.trans (Later.alloc w1 (.cells #[.int .i64 x, .int .i64 y, .int .i64 z, .int .i64 t] 48)))
    clear hL
    go_wp2_with fail
    generalize w1.alloc (.cells #[.int .i64 x, .int .i64 y, .int .i64 z, .int .i64 t] 48) = w2 at c0 c1 c2 c3 HL ⊢
    refine (HBR.out _).mono ?_
    rintro e w3 ⟨g, cg, rfl, ho, hL3⟩
    have HO := hid ho
    have HL3 := hid hL3
    clear ho hL3 c0 c1 c2 c3
    go_wp2_with fail
    refine (compact_any w2 g cg F w3 HL3.out (Nat.le_refl _) (by omega) HO.out).mono ?_
    rintro e w4 ⟨rfl, ho4, hL4⟩
    rw [HCM.out] at ho4 ⊢
    have HSO := hid (ho4.sols (by omega))
    have HL4 := hid (HL.out.trans hL4)
    clear ho4 hL4
    go_wp2_with fail
    refine (listsOfS_any _ M _ (by omega) HSO.out).mono ?_
    rintro e w5 ⟨v5, rfl, ho5, hL5⟩
    rw [HINV.out] at ho5
    obtain ⟨a5, c5, rfl, _⟩ := ho5.shape
    have HO5 := hid (ho5.wide HL4.out.size (Nat.le_refl _))
    have HL5 := hid (HL4.out.trans hL5)
    clear ho5 hL5
    go_wp2_with fail
    go_ret2
    rw [HA.out]
    exact ⟨_, rfl, HO5.out, HL5.out⟩


set_option maxRecDepth 20000 in
set_option maxHeartbeats 4000000 in
theorem lawBranchesOf_gen (z0 : List Int) (x1 : Int) (x2 : Int) (o : Option (List (List Int))) (hob : off (o.getD []) (o.getD []).length ≤ 1000000000000)
    (hS : ∀ (v0 : Value) (w : World), IntsC w v0 z0 → Calls Try.prog 38 #[v0, .int .i64 x1, .int .i64 x2] w fun e w' => RowsAns w o e w')
    (hI : ∀ (v0 : Value) (w : World), IntsC w v0 z0 → Calls Try.prog 39 #[v0, .int .i64 x1, .int .i64 x2] w fun e w' => RowsAns w o e w')
    (v0 : Value) (w : World) (h0 : Ints w v0 z0) :
    Calls Try.prog 11 #[v0, .int .i64 x1, .int .i64 x2] w fun e w' => e = .returned (.bool true) ∧ Later w w' := by
  have HS := hid hS
  have HI := hid hI
  clear hS hI
  obtain ⟨a00, cap00, rfl, hlen0, _⟩ := id h0
  have H0 := hid h0
  clear h0
  by_cases hz0 : z0.length ≤ 1048576
  · skip
    have hq0 : ¬ (1048576 : Int) < (z0.length : Int) := by omega
    have HN0 := hid hz0
    go_enter Try.func11, Try.ntmps11
    go_wp2_with fail
    refine (toIntS_any _ z0 _ HN0.out H0.out).mono ?_
    rintro e w1 ⟨y1, rfl, hown, hL⟩
    obtain ⟨a1, cap1, rfl, _⟩ := hown.shape
    have O2 := hid hown
    clear hown
    have L3 := hid (hL)
    have S4 := hid hL.size
    clear hL
    go_wp2_with fail
    refine (HS.out _ _ (O2.out.intsC)).mono ?_
    rintro e w5 ⟨y5, rfl, hown, hL⟩
    obtain ⟨a5, cap5, rfl, _⟩ := hown.shape
    have O6 := hid hown
    clear hown
    have O7 := hid (O2.out.later hL)
    have L8 := hid (L3.out.trans hL)
    have S9 := hid hL.size
    clear O2 L3 hL
    clear O7
    go_wp2_with fail
    refine (toIntS_any _ z0 _ HN0.out (H0.out.later L8.out)).mono ?_
    rintro e w10 ⟨y10, rfl, hown, hL⟩
    obtain ⟨a10, cap10, rfl, _⟩ := hown.shape
    have O11 := hid hown
    clear hown
    have O12 := hid (O6.out.later hL)
    have L13 := hid (L8.out.trans hL)
    have S14 := hid hL.size
    clear O6 L8 hL
    go_wp2_with fail
    refine (HI.out _ _ (O11.out.intsC)).mono ?_
    rintro e w15 ⟨y15, rfl, hown, hL⟩
    obtain ⟨a15, cap15, rfl, _⟩ := hown.shape
    have O16 := hid hown
    clear hown
    have O17 := hid (O12.out.later hL)
    have O18 := hid (O11.out.later hL)
    have L19 := hid (L13.out.trans hL)
    have S20 := hid hL.size
    clear O12 O11 L13 hL
    have hne0 : ((o.isSome) != (o.isSome)) = false := by simp
    go_wp2_with fail
    refine (eqIntSS_any _ _ _ _ _ (O16.out.rows) (O17.out.rows)).mono ?_
    rintro e w21 ⟨rfl, hD⟩
    have hL := hD.later
    clear hD
    rw [eqLL_self]
    have O22 := hid (O17.out.later hL)
    have O23 := hid (O18.out.later hL)
    have O24 := hid (O16.out.later hL)
    have L25 := hid (L19.out.trans hL)
    have S26 := hid hL.size
    clear O17 O18 O16 L19 hL
    go_wp2_with fail
    refine (toIntS_any _ z0 _ HN0.out (H0.out.later L25.out)).mono ?_
    rintro e w27 ⟨y27, rfl, hown, hL⟩
    obtain ⟨a27, cap27, rfl, _⟩ := hown.shape
    have O28 := hid hown
    clear hown
    have O29 := hid (O22.out.later hL)
    have O30 := hid (O23.out.later hL)
    have O31 := hid (O24.out.later hL)
    have L32 := hid (L25.out.trans hL)
    have S33 := hid hL.size
    clear O22 O23 O24 L25 hL
    go_wp2_with fail
    refine (eqIntS_any _ _ _ _ _ (O30.out.ints) (O28.out.ints)).mono ?_
    rintro e w34 ⟨rfl, hD⟩
    have hL := hD.later
    clear hD
    rw [eqL_self]
    have O35 := hid (O29.out.later hL)
    have O36 := hid (O30.out.later hL)
    have O37 := hid (O31.out.later hL)
    have O38 := hid (O28.out.later hL)
    have L39 := hid (L32.out.trans hL)
    have S40 := hid hL.size
    clear O29 O30 O31 O28 L32 hL
    clear O38
    go_wp2_with fail
    refine (markIntS_any w5.heap.size (w10.heap.size) _ _ _ _ ⟨by omega, by omega⟩ O36.out).mono ?_
    rintro e w41 ⟨rfl, hown, hW⟩
    have hW := hW.mono (fun b hb => O36.out.blk hb)
    have hL := Later.refl w34
    have O42 := hid ((O35.out.later hL).keep fun b h1 h2 => hW.block b (by have := S4.out; have := S9.out; have := S14.out; have := S20.out; have := S26.out; have := S33.out; have := S40.out; omega))
    clear O35
    have O43 := hid ((O37.out.later hL).keep fun b h1 h2 => hW.block b (by have := S4.out; have := S9.out; have := S14.out; have := S20.out; have := S26.out; have := S33.out; have := S40.out; omega))
    clear O37
    have O44 := hid hown
    clear hown O36
    have L45 := hid (show Later w w41 from Wrote.below (L39.out.trans hL) hW (fun b hb => by have := S4.out; have := S9.out; have := S14.out; have := S20.out; have := S26.out; have := S33.out; have := S40.out; omega))
    clear L39
    have S46 := hid (show w34.heap.size ≤ w41.heap.size by have := hL.size; have := hW.size; omega)
    clear hL hW
    have hkn : ¬ ((1 : Int) + (z0.length : Int)) < 0 := by omega
    go_wp2_with fail
    refine (eqIntSS_any _ _ _ _ _ (O43.out.rows) (O42.out.rows)).mono ?_
    rintro e w47 ⟨rfl, hD⟩
    have hL := hD.later
    clear hD
    rw [eqLL_self]
    have O48 := hid (O42.out.later hL)
    have O49 := hid (O44.out.later hL)
    have O50 := hid (O43.out.later hL)
    have L51 := hid (L45.out.trans hL)
    have S52 := hid hL.size
    clear O42 O44 O43 L45 hL
    go_wp2_with fail
    have hmm : (((1 : Int) + (off (o.getD []) (o.getD []).length : Int)) != ((1 : Int) + (off (o.getD []) (o.getD []).length : Int))) = false := by simp
    have hmn : ¬ (1 : Int) + (off (o.getD []) (o.getD []).length : Int) < 0 := by omega
    refine (markIntSS_any w10.heap.size (w15.heap.size) _ _ _ _ ⟨by omega, by omega⟩ O50.out).mono ?_
    rintro e w53 ⟨rfl, hown, hW⟩
    have hL := Later.refl w47
    have O54 := hid ((O48.out.later hL).keep fun b h1 h2 => hW.block b (by have := S4.out; have := S9.out; have := S14.out; have := S20.out; have := S26.out; have := S33.out; have := S40.out; have := S46.out; have := S52.out; omega))
    clear O48
    have O55 := hid ((O49.out.later hL).keep fun b h1 h2 => hW.block b (by have := S4.out; have := S9.out; have := S14.out; have := S20.out; have := S26.out; have := S33.out; have := S40.out; have := S46.out; have := S52.out; omega))
    clear O49
    have O56 := hid hown
    clear hown O50
    have L57 := hid (show Later w w53 from Wrote.below (L51.out.trans hL) hW (fun b hb => by have := S4.out; have := S9.out; have := S14.out; have := S20.out; have := S26.out; have := S33.out; have := S40.out; have := S46.out; have := S52.out; omega))
    clear L51
    have S58 := hid (show w47.heap.size ≤ w53.heap.size by have := hL.size; have := hW.size; omega)
    clear hL hW
    go_wp2_with fail
    refine (heldIntSS_any _ (o.getD []) _ _ ⟨by omega, by omega⟩ O56.out.rows).mono ?_
    rintro e w59 ⟨rfl, rfl⟩
    go_wp2_with fail
    refine (toIntS_any _ z0 _ HN0.out (H0.out.later L57.out)).mono ?_
    rintro e w60 ⟨y60, rfl, hown, hL⟩
    obtain ⟨a60, cap60, rfl, _⟩ := hown.shape
    have O61 := hid hown
    clear hown
    have O62 := hid (O54.out.later hL)
    have O63 := hid (O55.out.later hL)
    have O64 := hid (O56.out.later hL)
    have L65 := hid (L57.out.trans hL)
    have S66 := hid hL.size
    clear O54 O55 O56 L57 hL
    go_wp2_with fail
    refine (HI.out _ _ (O61.out.intsC)).mono ?_
    rintro e w67 ⟨y67, rfl, hown, hL⟩
    obtain ⟨a67, cap67, rfl, _⟩ := hown.shape
    have O68 := hid hown
    clear hown
    have O69 := hid (O62.out.later hL)
    have O70 := hid (O63.out.later hL)
    have O71 := hid (O64.out.later hL)
    have O72 := hid (O61.out.later hL)
    have L73 := hid (L65.out.trans hL)
    have S74 := hid hL.size
    clear O62 O63 O64 O61 L65 hL
    clear O72
    go_wp2_with fail
    refine (eqIntSS_any _ _ _ _ _ (O68.out.rows) (O69.out.rows)).mono ?_
    rintro e w75 ⟨rfl, hD⟩
    have hL := hD.later
    clear hD
    rw [eqLL_self]
    have O76 := hid (O69.out.later hL)
    have O77 := hid (O70.out.later hL)
    have O78 := hid (O71.out.later hL)
    have O79 := hid (O68.out.later hL)
    have L80 := hid (L73.out.trans hL)
    have S81 := hid hL.size
    clear O69 O70 O71 O68 L73 hL
    go_wp2_with fail
    refine (heldIntSS_any _ (o.getD []) _ _ ⟨by omega, by omega⟩ O78.out.rows).mono ?_
    rintro e w82 ⟨rfl, rfl⟩
    go_wp2_with fail
    go_ret
    exact ⟨rfl, L80.out⟩
  · have hq0 : (1048576 : Int) < (z0.length : Int) := by omega
    go_enter Try.func11, Try.ntmps11
    go_wp2_with fail
    go_ret
    exact ⟨rfl, Later.refl w⟩
end Go.Proofs.Ytjnhhjnfdaaaeaa
