/- HuTeg, BefG: in one text. -/
import Derived.Test.YtoaopmafokoaoaaHuUx
namespace Go.Proofs.Ytoaopmafokoaoaa
open Go.RowKit



theorem befL_total : ∀ {xs ys : List Int}, befL xs ys = false → xs ≠ ys → befL ys xs = true := by
  intro xs
  induction xs with
  | nil =>
    intro ys h hne
    cases ys with
    | nil => exact absurd rfl hne
    | cons y ys => simp [befL] at h
  | cons x xs ih =>
    intro ys h hne
    cases ys with
    | nil => simp [befL]
    | cons y ys =>
      unfold befL at h ⊢
      by_cases hxy : x = y
      · subst hxy
        simp at h hne ⊢
        exact ih h hne
      · have hyx : y ≠ x := fun e => hxy e.symm
        simp [hxy] at h
        simp [hyx]; omega
def SortedB (L : List (List Int)) : Prop := L.Pairwise fun x y => befL x y = true
theorem SortedB.nodup {L : List (List Int)} (h : SortedB L) : L.Nodup :=
  List.Pairwise.imp (fun {x y} hxy => by intro e; subst e; rw [befL_irr] at hxy; cases hxy) h
theorem takeW_all (L : List (List Int)) (a x : List Int) (hx : x ∈ L.takeWhile (fun l => befL l a)) : befL x a = true := by
  induction L with
  | nil => simp at hx
  | cons l L ih =>
    rw [List.takeWhile_cons] at hx
    split at hx
    · rename_i hl
      rcases List.mem_cons.1 hx with rfl | hx
      · exact hl
      · exact ih hx
    · simp at hx
/-- The place of an insertion parts a row into what is before and what is not. -/
theorem putL_parts (L : List (List Int)) (a : List Int) : ∃ A B, L = A ++ B ∧ L.take (putK L a) = A ∧ L.drop (putK L a) = B ∧ putK L a = A.length ∧ (∀ x ∈ A, befL x a = true) ∧ (∀ h t, B = h :: t → befL h a = false) := by
  have e : L.takeWhile (fun l => befL l a) ++ L.dropWhile (fun l => befL l a) = L := List.takeWhile_append_dropWhile
  have ht : L.take (putK L a) = L.takeWhile (fun l => befL l a) := by
    have h1 : L.take (putK L a) = (L.takeWhile (fun l => befL l a) ++ L.dropWhile (fun l => befL l a)).take (L.takeWhile (fun l => befL l a)).length := by rw [e]; rfl
    rw [h1, List.take_left]
  have hd : L.drop (putK L a) = L.dropWhile (fun l => befL l a) := by
    have h1 : L.drop (putK L a) = (L.takeWhile (fun l => befL l a) ++ L.dropWhile (fun l => befL l a)).drop (L.takeWhile (fun l => befL l a)).length := by rw [e]; rfl
    rw [h1, List.drop_left]
  refine ⟨_, _, e.symm, ht, hd, rfl, fun x hx => ?_, fun h t hB => ?_⟩
  · exact takeW_all L a x hx
  · have hh := List.head?_dropWhile_not (fun l => befL l a) L
    rw [hB] at hh
    simpa using hh
theorem mem_putL (L : List (List Int)) (a x : List Int) : x ∈ putL L a ↔ x ∈ L ∨ x = a := by
  obtain ⟨A, B, hL, ht, hd, hk, _, _⟩ := putL_parts L a
  unfold putL
  split
  · rename_i hc
    have ha : a ∈ L := by
      have h2 := hc.1
      rw [List.getD_eq_getElem?_getD, List.getElem?_eq_getElem hc.2, Option.getD_some] at h2
      rw [← h2]; exact List.getElem_mem _
    constructor
    · exact .inl
    · rintro (h | rfl)
      · exact h
      · exact ha
  · rw [ht, hd, hL]
    simp only [List.mem_append, List.mem_cons]
    constructor
    · rintro (h | rfl | h)
      · exact .inl (.inl h)
      · exact .inr rfl
      · exact .inl (.inr h)
    · rintro ((h | h) | rfl)
      · exact .inl h
      · exact .inr (.inr h)
      · exact .inr (.inl rfl)
theorem sorted_putL {L : List (List Int)} (a : List Int) (h : SortedB L) : SortedB (putL L a) := by
  obtain ⟨A, B, hL, ht, hd, hk, hA, hB⟩ := putL_parts L a
  unfold putL
  split
  · exact h
  · rename_i hc
    rw [ht, hd]
    unfold SortedB at h ⊢
    rw [hL, List.pairwise_append] at h
    obtain ⟨p1, p2, p3⟩ := h
    refine List.pairwise_append.2 ⟨p1, List.pairwise_cons.2 ⟨fun b hb => ?_, p2⟩, fun x hx y hy => ?_⟩
    · cases hBB : B with
      | nil => rw [hBB] at hb; simp at hb
      | cons u t =>
        have hu := hB u t hBB
        have hne : u ≠ a := by
          intro e
          apply hc
          rw [hk]
          refine ⟨?_, by rw [hL, hBB]; simp⟩
          rw [List.getD_eq_getElem?_getD, hL, List.getElem?_append_right (Nat.le_refl _), hBB]
          simpa using e
        have hau := befL_total hu hne
        rw [hBB] at hb p2
        rcases List.mem_cons.1 hb with rfl | hb
        · exact hau
        · exact befL_trans hau ((List.pairwise_cons.1 p2).1 b hb)
    · rcases List.mem_cons.1 hy with rfl | hy
      · exact hA x hx
      · exact p3 x hx y hy
theorem putL_old {L : List (List Int)} {a : List Int} (h : SortedB L) (ha : a ∈ L) : putL L a = L := by
  obtain ⟨A, B, hL, ht, hd, hk, hA, hB⟩ := putL_parts L a
  unfold putL
  refine if_pos ?_
  rw [hL] at ha
  rcases List.mem_append.1 ha with h1 | h1
  · have := hA a h1
    rw [befL_irr] at this
    cases this
  · cases hBB : B with
    | nil => rw [hBB] at h1; simp at h1
    | cons u t =>
      have hu := hB u t hBB
      rw [hBB] at h1
      rcases List.mem_cons.1 h1 with rfl | h1
      · rw [hk]
        refine ⟨?_, by rw [hL, hBB]; simp⟩
        rw [List.getD_eq_getElem?_getD, hL, List.getElem?_append_right (Nat.le_refl _), hBB]
        simp
      · unfold SortedB at h
        rw [hL, List.pairwise_append, hBB] at h
        have := (List.pairwise_cons.1 h.2.1).1 a h1
        rw [hu] at this
        cases this
theorem putL_new {L : List (List Int)} {a : List Int} (ha : a ∉ L) : (putL L a).length = L.length + 1 := by
  obtain ⟨A, B, hL, ht, hd, hk, hA, hB⟩ := putL_parts L a
  unfold putL
  split
  · rename_i hc
    exfalso
    apply ha
    have h2 := hc.1
    rw [List.getD_eq_getElem?_getD, List.getElem?_eq_getElem hc.2, Option.getD_some] at h2
    rw [← h2]; exact List.getElem_mem _
  · rw [ht, hd, hL, List.length_append, List.length_cons, List.length_append]; omega
/-- One solution leads to another within a bound. -/
def stepT (a most : Int) (zs ys : List Int) : Prop := ys ∈ upF a zs zs.length ∧ ys.getD 0 0 ≤ most
inductive Reach (a most : Int) (s : List Int) : List Int → Prop
  | base : Reach a most s s
  | step {zs ys : List Int} : Reach a most s zs → stepT a most zs ys → Reach a most s ys
def TreeRes (a most : Int) (s : List Int) : Option (List (List Int)) → Prop
  | some L => SortedB L ∧ (∀ x, x ∈ L ↔ Reach a most s x) ∧ L.length ≤ 500
  | none => ∃ L : List (List Int), L.Nodup ∧ 500 < L.length ∧ ∀ x ∈ L, Reach a most s x
theorem sorted_same : ∀ {L M : List (List Int)}, SortedB L → SortedB M → (∀ x, x ∈ L ↔ x ∈ M) → L = M := by
  intro L
  induction L with
  | nil =>
    intro M _ _ h
    cases M with
    | nil => rfl
    | cons m M => have := (h m).2 (by simp); simp at this
  | cons l L ih =>
    intro M hL hM h
    cases M with
    | nil => have := (h l).1 (by simp); simp at this
    | cons m M =>
      obtain ⟨l1, l2⟩ := List.pairwise_cons.1 hL
      obtain ⟨m1, m2⟩ := List.pairwise_cons.1 hM
      have hlm : l = m := by
        apply Classical.byContradiction
        intro hne
        have h1 : befL m l = true := by
          rcases List.mem_cons.1 ((h l).1 (by simp)) with e | e
          · exact absurd e hne
          · exact m1 l e
        have h2 : befL l m = true := by
          rcases List.mem_cons.1 ((h m).2 (by simp)) with e | e
          · exact absurd e.symm hne
          · exact l1 m e
        have := befL_trans h1 h2
        rw [befL_irr] at this
        cases this
      subst hlm
      rw [ih l2 m2 fun x => ?_]
      have hx := h x
      simp only [List.mem_cons] at hx
      by_cases e : x = l
      · subst e
        constructor
        · intro h'; have := l1 x h'; rw [befL_irr] at this; cases this
        · intro h'; have := m1 x h'; rw [befL_irr] at this; cases this
      · simpa [e] using hx
theorem nodup_le : ∀ {M L : List (List Int)}, M.Nodup → (∀ x ∈ M, x ∈ L) → M.length ≤ L.length := by
  intro M
  induction M with
  | nil => intro L _ _; simp
  | cons m M ih =>
    intro L hM h
    obtain ⟨h1, h2⟩ := List.nodup_cons.1 hM
    have hm := h m (by simp)
    have := ih (L := L.erase m) h2 fun x hx => (List.mem_erase_of_ne (by intro e; subst e; exact h1 hx)).2 (h x (by simp [hx]))
    rw [List.length_erase_of_mem hm] at this
    have := List.length_pos_of_mem hm
    simp; omega
theorem treeRes_one {a most : Int} {s : List Int} {o p : Option (List (List Int))} (h : TreeRes a most s o) (k : TreeRes a most s p) : o = p := by
  cases o with
  | none =>
    obtain ⟨L, h1, h2, h3⟩ := h
    cases p with
    | none => rfl
    | some M =>
      obtain ⟨_, k2, k3⟩ := k
      have := nodup_le h1 fun x hx => (k2 x).2 (h3 x hx)
      omega
  | some M =>
    obtain ⟨k1, k2, k3⟩ := h
    cases p with
    | none =>
      obtain ⟨L, h1, h2, h3⟩ := k
      have := nodup_le h1 fun x hx => (k2 x).2 (h3 x hx)
      omega
    | some N =>
      obtain ⟨n1, n2, _⟩ := k
      rw [sorted_same k1 n1 fun x => (k2 x).trans (n2 x).symm]
theorem upF_from {a : Int} {zs ys : List Int} : ∀ {i : Nat}, ys ∈ upF a zs i → ∃ j, j < i ∧ jumpL a zs j = some ys := by
  intro i
  induction i with
  | zero => intro h; simp [upF] at h
  | succ i ih =>
    intro h
    cases hj : jumpL a zs i with
    | none =>
      rw [upF_none hj] at h
      obtain ⟨j, h1, h2⟩ := ih h
      exact ⟨j, by omega, h2⟩
    | some us =>
      rw [upF_some hj] at h
      split at h
      · rcases (mem_putL _ _ _).1 h with h | rfl
        · obtain ⟨j, h1, h2⟩ := ih h
          exact ⟨j, by omega, h2⟩
        · exact ⟨i, by omega, hj⟩
      · obtain ⟨j, h1, h2⟩ := ih h
        exact ⟨j, by omega, h2⟩
theorem Reach.sol {a most b : Int} {s x : List Int} (hs : Sol s a b) (h : Reach a most s x) : Sol x a b := by
  induction h with
  | base => exact hs
  | step _ hst ih =>
    obtain ⟨j, h1, h2⟩ := upF_from hst.1
    exact ih.jump h1 h2


theorem getD_atT (L : List (List Int)) (i : Nat) (h : i < L.length) : L.getD i [] = L[i] := by simp [h]
theorem reach_sub {a most : Int} {s : List Int} {P : List Int → Prop} (hs : P s) (hc : ∀ x, P x → ∀ y, stepT a most x y → P y) : ∀ x, Reach a most s x → P x := by
  intro x h
  induction h with
  | base => exact hs
  | step _ hst ih => exact hc _ ih _ hst
/-- In the model: what is found, what of the front is left, what was found in this round. -/
structure TrI (a most : Int) (s : List Int) (out rest nxt : List (List Int)) : Prop where
  srt : SortedB out
  rch : ∀ x ∈ out, Reach a most s x
  beg : s ∈ out
  sub : ∀ x, x ∈ rest ∨ x ∈ nxt → x ∈ out
  cls : ∀ x ∈ out, x ∉ rest → x ∉ nxt → ∀ y, stepT a most x y → y ∈ out
/-- .. and while one solution c of the front is gone through: its first j branches are in. -/
structure TrJ (a most : Int) (s c : List Int) (out rest nxt : List (List Int)) (j : Nat) : Prop where
  srt : SortedB out
  rch : ∀ x ∈ out, Reach a most s x
  beg : s ∈ out
  cur : c ∈ out
  sub : ∀ x, x ∈ rest ∨ x ∈ nxt → x ∈ out
  cls : ∀ x ∈ out, x ∉ rest → x ∉ nxt → x ≠ c → ∀ y, stepT a most x y → y ∈ out
  fst : ∀ i, i < j → i < (upF a c c.length).length → ((upF a c c.length).getD i []).getD 0 0 ≤ most → (upF a c c.length).getD i [] ∈ out
theorem TrI.start (a most : Int) (s : List Int) : TrI a most s [s] [s] [] :=
  ⟨List.pairwise_singleton _ _, fun x hx => by rw [List.mem_singleton.1 hx]; exact .base, by simp, fun x hx => by simpa using hx, fun x hx h => absurd hx h⟩
theorem TrI.turn {a most : Int} {s : List Int} {out nxt : List (List Int)} (h : TrI a most s out [] nxt) : TrI a most s out nxt [] :=
  ⟨h.srt, h.rch, h.beg, fun x hx => h.sub x (by rcases hx with h | h; exact .inr h; simp at h), fun x hx h1 _ => h.cls x hx (by simp) h1⟩
theorem TrI.take {a most : Int} {s c : List Int} {out rest nxt : List (List Int)} (h : TrI a most s out (c :: rest) nxt) : TrJ a most s c out rest nxt 0 :=
  ⟨h.srt, h.rch, h.beg, h.sub c (.inl (by simp)), fun x hx => h.sub x (by rcases hx with h | h; exact .inl (by simp [h]); exact .inr h), fun x hx h1 h2 h3 => h.cls x hx (by simp [h3, h1]) h2, fun i hi => absurd hi (Nat.not_lt_zero i)⟩
theorem TrJ.drop {a most : Int} {s c : List Int} {out rest nxt : List (List Int)} (h : TrJ a most s c out rest nxt (upF a c c.length).length) : TrI a most s out rest nxt := by
  refine ⟨h.srt, h.rch, h.beg, h.sub, fun x hx h1 h2 y hy => ?_⟩
  by_cases e : x = c
  · subst e
    obtain ⟨hm, hle⟩ := hy
    obtain ⟨i, hi, rfl⟩ := List.getElem_of_mem hm
    have := h.fst i hi hi
    rw [getD_atT _ i hi] at this
    exact this hle
  · exact h.cls x hx h1 h2 e y hy
theorem TrJ.skip {a most : Int} {s c : List Int} {out rest nxt : List (List Int)} {j : Nat} (h : TrJ a most s c out rest nxt j) (hn : ¬ ((upF a c c.length).getD j []).getD 0 0 ≤ most) : TrJ a most s c out rest nxt (j + 1) :=
  ⟨h.srt, h.rch, h.beg, h.cur, h.sub, h.cls, fun i hi hl hle => by
    by_cases e : i = j
    · subst e; exact absurd hle hn
    · exact h.fst i (by omega) hl hle⟩
theorem TrJ.old {a most : Int} {s c : List Int} {out rest nxt : List (List Int)} {j : Nat} (h : TrJ a most s c out rest nxt j) (hm : (upF a c c.length).getD j [] ∈ out) : TrJ a most s c out rest nxt (j + 1) :=
  ⟨h.srt, h.rch, h.beg, h.cur, h.sub, h.cls, fun i hi hl hle => by
    by_cases e : i = j
    · subst e; exact hm
    · exact h.fst i (by omega) hl hle⟩
theorem TrJ.new {a most : Int} {s c : List Int} {out rest nxt : List (List Int)} {j : Nat} (h : TrJ a most s c out rest nxt j) (hj : j < (upF a c c.length).length) (hle : ((upF a c c.length).getD j []).getD 0 0 ≤ most) :
    TrJ a most s c (putL out ((upF a c c.length).getD j [])) rest (nxt ++ [(upF a c c.length).getD j []]) (j + 1) := by
  have hmem : (upF a c c.length).getD j [] ∈ upF a c c.length := by
    rw [getD_atT _ j hj]; exact List.getElem_mem _
  refine ⟨sorted_putL _ h.srt, fun x hx => ?_, (mem_putL _ _ _).2 (.inl h.beg), (mem_putL _ _ _).2 (.inl h.cur), fun x hx => ?_, fun x hx h1 h2 h3 y hy => ?_, fun i hi hl hle' => ?_⟩
  · rcases (mem_putL _ _ _).1 hx with hx | rfl
    · exact h.rch x hx
    · exact .step (h.rch c h.cur) ⟨hmem, hle⟩
  · rcases hx with hx | hx
    · exact (mem_putL _ _ _).2 (.inl (h.sub x (.inl hx)))
    · rcases List.mem_append.1 hx with hx | hx
      · exact (mem_putL _ _ _).2 (.inl (h.sub x (.inr hx)))
      · exact (mem_putL _ _ _).2 (.inr (List.mem_singleton.1 hx))
  · rw [List.mem_append, List.mem_singleton, not_or] at h2
    rcases (mem_putL _ _ _).1 hx with hx | e
    · exact (mem_putL _ _ _).2 (.inl (h.cls x hx h1 h2.1 h3 y hy))
    · exact absurd e h2.2
  · by_cases e : i = j
    · subst e; exact (mem_putL _ _ _).2 (.inr rfl)
    · exact (mem_putL _ _ _).2 (.inl (h.fst i (by omega) hl hle'))
theorem TrI.done {a most : Int} {s : List Int} {out : List (List Int)} (h : TrI a most s out [] []) (hl : out.length ≤ 500) : TreeRes a most s (some out) :=
  ⟨h.srt, fun x => ⟨h.rch x, reach_sub (P := fun x => x ∈ out) h.beg (fun x hx y hy => h.cls x hx (by simp) (by simp) y hy) x⟩, hl⟩
theorem tree_many {a most : Int} {s : List Int} {out : List (List Int)} (hn : out.Nodup) (hr : ∀ x ∈ out, Reach a most s x) (hl : 500 < out.length) : TreeRes a most s none := ⟨out, hn, hl, hr⟩
/-- In the program: a row that is gone through while it grows. -/
structure TrP (a most : Int) (s : List Int) (T : List (List Int)) (k : Nat) : Prop where
  nod : T.Nodup
  rch : ∀ x ∈ T, Reach a most s x
  beg : s ∈ T
  cls : ∀ i, i < k → i < T.length → ∀ y, stepT a most (T.getD i []) y → y ∈ T
structure TrQ (a most : Int) (s : List Int) (U : List (List Int)) (T : List (List Int)) (k j : Nat) : Prop where
  lt : k < T.length
  all : TrP a most s T k
  mem : ∀ y, y ∈ U ↔ y ∈ upF a (T.getD k []) (T.getD k []).length
  fst : ∀ i, i < j → i < U.length → (U.getD i []).getD 0 0 ≤ most → U.getD i [] ∈ T
theorem TrP.start (a most : Int) (s : List Int) : TrP a most s [s] 0 :=
  ⟨by simp, fun x hx => by rw [List.mem_singleton.1 hx]; exact .base, by simp, fun i hi => absurd hi (Nat.not_lt_zero i)⟩
theorem TrP.take {a most : Int} {s : List Int} {T U : List (List Int)} {k : Nat} (h : TrP a most s T k) (hk : k < T.length) (hU : ∀ y, y ∈ U ↔ y ∈ upF a (T.getD k []) (T.getD k []).length) : TrQ a most s U T k 0 := ⟨hk, h, hU, fun i hi => absurd hi (Nat.not_lt_zero i)⟩
theorem TrQ.skip {a most : Int} {s : List Int} {T U : List (List Int)} {k j : Nat} (h : TrQ a most s U T k j) (hn : ¬ (U.getD j []).getD 0 0 ≤ most) : TrQ a most s U T k (j + 1) :=
  ⟨h.lt, h.all, h.mem, fun i hi hl hle => by
    by_cases e : i = j
    · subst e; exact absurd hle hn
    · exact h.fst i (by omega) hl hle⟩
theorem TrQ.old {a most : Int} {s : List Int} {T U : List (List Int)} {k j : Nat} (h : TrQ a most s U T k j) (hm : U.getD j [] ∈ T) : TrQ a most s U T k (j + 1) :=
  ⟨h.lt, h.all, h.mem, fun i hi hl hle => by
    by_cases e : i = j
    · subst e; exact hm
    · exact h.fst i (by omega) hl hle⟩
theorem getD_snoc {T : List (List Int)} {k : Nat} (y : List Int) (hk : k < T.length) : (T ++ [y]).getD k [] = T.getD k [] := by
  rw [List.getD_eq_getElem?_getD, List.getD_eq_getElem?_getD, List.getElem?_append_left hk]
theorem TrQ.new {a most : Int} {s : List Int} {T U : List (List Int)} {k j : Nat} (h : TrQ a most s U T k j) (hj : j < U.length) (hle : (U.getD j []).getD 0 0 ≤ most) (hm : U.getD j [] ∉ T) : TrQ a most s U (T ++ [U.getD j []]) k (j + 1) := by
  have hmem : U.getD j [] ∈ U := by
    rw [getD_atT _ j hj]; exact List.getElem_mem _
  have hc : T.getD k [] ∈ T := by rw [getD_atT _ k h.lt]; exact List.getElem_mem _
  have hf := h.fst
  have hl := h.lt
  have hM := h.mem
  obtain ⟨n1, n2, n3, n4⟩ := h.all
  have hmu := (hM _).1 hmem
  generalize hy : U.getD j [] = y at *
  refine ⟨by rw [List.length_append]; omega, ⟨?_, fun x hx => ?_, by simp [n3], fun i hi hil z hz => ?_⟩, fun z => by rw [getD_snoc y hl]; exact hM z, fun i hi hil hle' => ?_⟩
  · rw [List.nodup_append]
    exact ⟨n1, by simp, fun x hx z hz => by rw [List.mem_singleton.1 hz]; intro e; subst e; exact hm hx⟩
  · rcases List.mem_append.1 hx with hx | hx
    · exact n2 x hx
    · rw [List.mem_singleton.1 hx]; exact .step (n2 _ hc) ⟨hmu, hle⟩
  · rw [getD_snoc y (by omega)] at hz
    exact List.mem_append.2 (.inl (n4 i hi (by omega) z hz))
  · by_cases e : i = j
    · subst e; rw [hy]; simp
    · exact List.mem_append.2 (.inl (hf i (by omega) hil hle'))
theorem TrQ.drop {a most : Int} {s : List Int} {T U : List (List Int)} {k : Nat} (h : TrQ a most s U T k U.length) : TrP a most s T (k + 1) := by
  refine ⟨h.all.nod, h.all.rch, h.all.beg, fun i hi hl y hy => ?_⟩
  by_cases e : i = k
  · subst e
    obtain ⟨hm, hle⟩ := hy
    obtain ⟨j, hj, rfl⟩ := List.getElem_of_mem ((h.mem y).2 hm)
    have := h.fst j hj hj
    rw [getD_atT _ j hj] at this
    exact this hle
  · exact h.all.cls i (by omega) hl y hy
/-- .. and sorted when all is gone through. -/
theorem TrP.done {a most : Int} {s : List Int} {T M : List (List Int)} (h : TrP a most s T T.length) (hl : T.length ≤ 500) (hp : M.Perm T) (hs : SortedB M) : TreeRes a most s (some M) := by
  refine ⟨hs, fun x => ?_, by rw [hp.length_eq]; exact hl⟩
  rw [hp.mem_iff]
  refine ⟨h.rch x, reach_sub (P := fun x => x ∈ T) h.beg (fun x hx y hy => ?_) x⟩
  obtain ⟨i, hi, rfl⟩ := List.getElem_of_mem hx
  refine h.cls i hi hi y ?_
  rw [getD_atT _ i hi]
  exact hy


theorem sorted_next {L : List (List Int)} (h : SortedB L) {i : Nat} (hi : i + 1 < L.length) : befL (L.getD i []) (L.getD (i + 1) []) = true := by
  have := List.pairwise_iff_getElem.1 h i (i + 1) (by omega) hi (by omega)
  rw [List.getD_eq_getElem?_getD, List.getD_eq_getElem?_getD, List.getElem?_eq_getElem (by omega), List.getElem?_eq_getElem hi]
  exact this
/-- equal lists part at a place -/
theorem befL_place : ∀ {xs ys : List Int}, xs.length = ys.length → befL xs ys = true → ∃ d, d < xs.length ∧ (∀ k, k < d → xs.getD k 0 = ys.getD k 0) ∧ xs.getD d 0 < ys.getD d 0 := by
  intro xs
  induction xs with
  | nil =>
    intro ys hl h
    cases ys with
    | nil => simp [befL] at h
    | cons y ys => simp at hl
  | cons x xs ih =>
    intro ys hl h
    cases ys with
    | nil => simp at hl
    | cons y ys =>
      unfold befL at h
      by_cases hxy : x = y
      · subst hxy
        simp at h
        obtain ⟨d, h1, h2, h3⟩ := ih (by simpa using hl) h
        refine ⟨d + 1, by simpa using h1, fun k hk => ?_, by simpa using h3⟩
        cases k with
        | zero => simp
        | succ k => simpa using h2 k (by omega)
      · simp [hxy] at h
        exact ⟨0, by simp, fun k hk => absurd hk (Nat.not_lt_zero k), by simpa using h⟩
end Go.Proofs.Ytoaopmafokoaoaa
