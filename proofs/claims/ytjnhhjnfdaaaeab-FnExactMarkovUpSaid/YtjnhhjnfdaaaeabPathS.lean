/- The way down of a triple, in the model. -/
import Derived.Test.YtjnhhjnfdaaaeabMkO
import Derived.Test.YtjnhhjnfdaaaeabMkJ
import Derived.Test.YtjnhhjnfdaaaeabAns2
import Derived.Deep.AppendLies
namespace Go.Proofs.Ytjnhhjnfdaaaeab
open Go.RowKit

/-- Three numbers that are a triple. -/
def T3 (x y z : Int) : Prop := (1 ≤ x ∧ x ≤ 1000000000) ∧ (1 ≤ y ∧ y ≤ 1000000000) ∧ (1 ≤ z ∧ z ≤ 1000000000) ∧ x ≤ y ∧ y ≤ z ∧ x * x + y * y + z * z = 3 * x * y * z
def nx (x y z : Int) : Int := low3 x y (3 * x * y - z)
def ny (x y z : Int) : Int := mid3 x y (3 * x * y - z)
def nz (x y z : Int) : Int := high3 x y (3 * x * y - z)
theorem next_ord (x y z : Int) : ordL x y (3 * x * y - z) = [nx x y z, ny x y z, nz x y z] := rfl
theorem mid_less (x y z : Int) (h : T3 x y z) (hz : z ≠ 1) : y < z := by
  obtain ⟨hx, hy, hz0, hxy, hyz, he⟩ := h
  apply Decidable.byContradiction
  intro hc
  obtain rfl : y = z := by omega
  have e : x * x + 2 * (y * y) = 3 * x * (y * y) := by grind
  have h1 : x * x ≤ x * (y * y) := by
    have a1 : x ≤ y * y := by have := Int.mul_le_mul_of_nonneg_left hy.1 (show 0 ≤ y by omega); omega
    exact Int.mul_le_mul_of_nonneg_left a1 (by omega)
  have h2 : y * y ≤ x * (y * y) := by have := Int.mul_le_mul_of_nonneg_right hx.1 (show 0 ≤ y * y from Int.mul_nonneg (by omega) (by omega)); omega
  have h3 : 3 * x * (y * y) = 3 * (x * (y * y)) := by grind
  have h4 : y * y = x * (y * y) ∧ x * x = x * (y * y) := by omega
  have h5 : x = 1 := by
    have : y * y * (x - 1) = 0 := by grind
    rcases Int.mul_eq_zero.1 this with h | h
    · rcases Int.mul_eq_zero.1 h with h | h <;> omega
    · omega
  subst h5
  have : (y - 1) * (y + 1) = 0 := by grind
  rcases Int.mul_eq_zero.1 this with h | h <;> omega
theorem next_T3 {x y z : Int} (h : T3 x y z) (hz : z ≠ 1) : T3 (nx x y z) (ny x y z) (nz x y z) ∧ nz x y z < z := by
  have hm := mid_less x y z h hz
  obtain ⟨hx, hy, hz0, hxy, hyz, he⟩ := h
  have p1 := down_pos x y z hx.1 hy.1 hz0.1 he
  have p2 := down_less x y z hx.1 hxy hyz he hz
  have l := low3_spec x y (3 * x * y - z)
  have g := high3_spec x y (3 * x * y - z)
  have o := sort3_order x y (3 * x * y - z)
  have s := sort3_solves x y (3 * x * y - z)
  have pm := sort3_perm x y (3 * x * y - z)
  have e2 : x * x + y * y + (3 * x * y - z) * (3 * x * y - z) = 3 * x * y * (3 * x * y - z) := by grind
  have e3 : nx x y z * nx x y z + ny x y z * ny x y z + nz x y z * nz x y z = 3 * nx x y z * ny x y z * nz x y z := by
    unfold solves3 at s
    rw [decide_eq_decide] at s
    exact s.2 e2
  unfold nx ny nz at *
  exact ⟨⟨by omega, by omega, by omega, o.1, o.2, e3⟩, by omega⟩
/-- what is below a triple, downwards -/
def tailF : Nat → Int → Int → Int → List (List Int)
  | 0, _, _, _ => []
  | k + 1, x, y, z => if z = 1 then [] else [nx x y z, ny x y z, nz x y z] :: tailF k (nx x y z) (ny x y z) (nz x y z)
def tailG (x y z : Int) : List (List Int) := tailF z.toNat x y z
theorem tailF_more (k : Nat) : ∀ (j : Nat) (x y z : Int), T3 x y z → z.toNat ≤ k → z.toNat ≤ j → tailF k x y z = tailF j x y z := by
  induction k with
  | zero => intro j x y z h h1; have := h.2.2.1.1; omega
  | succ k ih =>
    intro j x y z h h1 h2
    cases j with
    | zero => have := h.2.2.1.1; omega
    | succ j =>
      unfold tailF
      split
      · rfl
      · rename_i hz
        have hn := next_T3 h hz
        rw [ih j _ _ _ hn.1 (by omega) (by omega)]
theorem tailG_one (x y : Int) : tailG x y 1 = [] := by simp [tailG, tailF]
theorem tailG_step {x y z : Int} (h : T3 x y z) (hz : z ≠ 1) : tailG x y z = [nx x y z, ny x y z, nz x y z] :: tailG (nx x y z) (ny x y z) (nz x y z) := by
  have hn := next_T3 h hz
  have h1 := h.2.2.1.1
  unfold tailG
  obtain ⟨k, hk⟩ : ∃ k, z.toNat = k + 1 := ⟨z.toNat - 1, by omega⟩
  rw [hk, tailF, if_neg hz, tailF_more k (nz x y z).toNat _ _ _ hn.1 (by omega) (Nat.le_refl _)]
def pathG (x y z : Int) : List (List Int) := [x, y, z] :: tailG x y z
def pathAns (zs : List Int) : Option (List (List Int)) := if mkGoodW zs = true then some (pathG (zs.getD 0 0) (zs.getD 1 0) (zs.getD 2 0)) else none
theorem mkGoodW_T3 {zs : List Int} (h : mkGoodW zs = true) : ∃ x y z, zs = [x, y, z] ∧ T3 x y z := by
  obtain ⟨x, y, z, rfl, hx, hy, hz, hxy, hyz, he⟩ := mkGoodW_three h
  exact ⟨x, y, z, rfl, hx, hy, hz, hxy, hyz, he⟩
theorem OwnRows.parts {lo hi : Nat} {w : World} {v : Value} {L : List (List Int)} (h : OwnRows lo hi w v L) : ∃ us : List Value, us.length = L.length ∧ w.ownsRow lo 22 1 v us.length us ∧ (∀ k, v.ownBlock = some k → k < hi) ∧
    (∀ i, i < L.length → OwnInts lo hi w (us.getD i undef) (L.getD i [])) ∧
    ∀ i j, i < j → j < L.length → ∀ k, (us.getD i undef).ownBlock = some k → (us.getD j undef).ownBlock ≠ some k := h
/-- one row of its own -/
theorem OwnRows.one {lo : Nat} {w : World} {u : Value} {r : List Int} (hlo : lo ≤ w.heap.size) (h : OwnInts lo w.heap.size w u r) :
    OwnRows lo (w.heap.size + 1) (w.alloc (.cells #[u] 22)) (.slice (some ⟨w.heap.size, 0, none⟩) 1 1) [r] := by
  have ho := World.ownsRow_lit (e := 22) (size := 1) w #[u] 1 (Nat.le_refl _) (by unfold maxLen; omega) (by simp)
  refine ⟨[u], rfl, by simpa using ownsRow_base ho hlo, fun b hb => by simp [Value.ownBlock] at hb; omega, fun i hi => ?_, fun i j hij hj => by simp at hj; omega⟩
  have h0 : i = 0 := by simpa using hi
  subst h0
  exact (h.later (Later.alloc _ _)).wide (Nat.le_refl _) (by omega)

/-- a row of ints stays where a row of rows grows -/
theorem OwnInts.kept {lo hi lo' n : Nat} {w w1 : World} {v u : Value} {zs : List Int} {us : List Value} (h : OwnInts lo hi w u zs) (ho : w.ownsRow lo' 22 1 v n us) (hg : w.grownBy w1 v.ownBlock) : OwnInts lo hi w1 u zs := by
  refine ⟨ownsRow_keep h.1 fun b hb => hg.block b (h.1.lt b hb).2 fun e => ?_, h.2⟩
  obtain ⟨c2, hc2⟩ := ownsRow_block ho e.symm
  exact h.ne hc2 hb
def lenOf : Value → Nat
  | .slice _ n _ => n
  | _ => 0

set_option maxRecDepth 20000 in
set_option maxHeartbeats 4000000 in
theorem mkPath_any (x y z : Int) (ad : Addr) (cap : Nat) (w : World) (ht : T3 x y z) (h : Ints w (.slice (some ad) 3 cap) [x, y, z]) :
    Calls Try.prog 47 #[.slice (some ad) 3 cap] w fun e w' => MadeRows w (pathG x y z) e w' := by
  obtain ⟨i0, hi, hz0, hz1, hz2⟩ := info_parts Try.infoInts
  have H := hid h
  have HT := hid ht
  clear h ht
  go_enter Try.func47, Try.ntmps47
  go_wp2_with fail
  refine (l1Own2_any ad 3 cap [x, y, z] _ rfl (by omega) H.out).mono ?_
  rintro e w1 ⟨v1, rfl, ho, hL⟩
  obtain ⟨g1, cg1, rfl, _⟩ := ho.three
  have HO := hid (OwnRows.one hL.size ho)
  have HL := hid (hL.trans (Later.alloc w1 (.cells #[.slice (some ⟨g1, 0, none⟩) 3 cg1] 22)))
  have hs := hid (show w.heap.size < (w1.alloc (.cells #[.slice (some ⟨g1, 0, none⟩) 3 cg1] 22)).heap.size by have := hL.size; simp; omega)
  have hsz : (w1.alloc (.cells #[.slice (some ⟨g1, 0, none⟩) 3 cg1] 22)).heap.size = w1.heap.size + 1 := by simp
  rw [← hsz] at HO
  clear ho hL hsz
  go_wp2_with fail
  generalize w1.alloc (.cells #[.slice (some ⟨g1, 0, none⟩) 3 cg1] 22) = w2 at HO HL hs ⊢
  go_loopw [0, 3] (fun t o wr => ∃ (a b c : Int) (ta : Addr) (tc : Nat) (L : List (List Int)), t = .slice (some ta) 3 tc ∧ T3 a b c ∧ Ints wr t [a, b, c] ∧ OwnRows w.heap.size wr.heap.size wr o L ∧ L ++ tailG a b c = pathG x y z ∧ L.length + c.toNat ≤ 1 + z.toNat ∧ Later w wr)
    (fun _ o _ => z.toNat + 2 - lenOf o)
  case atStart => exact ⟨x, y, z, ad, cap, [[x, y, z]], rfl, HT.out, H.out.later HL.out, HO.out, rfl, by simp, HL.out⟩
  case round =>
    clear HO HL hs
    obtain ⟨a, b, c, ta, tc, L, rfl, hT, hI, hO, hR, hlen, hL⟩ := hrel
    have HI := hid hI
    have HO := hid hO
    have HR := hid hR
    have HL := hid hL
    have hTT := hid hT
    obtain ⟨a', b', c', ad', cap', e1, e2, c0, c1, c2⟩ := hI.three rfl
    simp only [Value.slice.injEq, Option.some.injEq, true_and, List.cons.injEq, and_true] at e1 e2
    obtain ⟨rfl, rfl, rfl⟩ := e1
    obtain ⟨rfl, rfl⟩ := e2
    obtain ⟨o1, o2, rfl, hoc⟩ := hO.shape
    have hll : L.length ≤ 9223372036854775807 := by have := HT.out.2.2.1.2; omega
    by_cases hc1 : c = 1
    · have HE := hid (show L = pathG x y z by have := HR.out; rw [hc1, tailG_one, List.append_nil] at this; exact this)
      have hd : decide (1 < c) = false := decide_eq_false (by omega)
      clear hI hO hR hL hT hc1
      go_wp2_with fail
      go_ret
      exact ⟨_, rfl, by rw [← HE.out]; exact HO.out, HL.out⟩
    · have HN := hid (next_T3 hT hc1)
      have HS := hid (tailG_step hT hc1)
      have hc2' := hT.2.2.1.1
      have hd : decide (1 < c) = true := decide_eq_true (by omega)
      clear hI hO hR hL
      obtain ⟨t1, t2, t3, t4, t5, t6⟩ := hT
      go_wp2_with fail
      refine (mkDown_any a b c ta tc _ t1 t2 t3 t4 t5 t6 c0 c1 c2).mono ?_
      rintro e w3 ⟨v3, rfl, ho3, hL3⟩
      replace ho3 : OwnInts wr.heap.size w3.heap.size w3 v3 [nx a b c, ny a b c, nz a b c] := ho3
      obtain ⟨g3, cg3, rfl, _, _, _, hg3, hg3'⟩ := ho3.three
      obtain ⟨us, hul, hus, hub, hin, hdis⟩ := (HO.out.later hL3).parts
      have HO3 := hid ho3
      have HL3 := hid (HL.out.trans hL3)
      have HIN := hid hin
      have HD := hid hdis
      have hown4 := hid (hus.alloc (.cells #[.slice (some ⟨g3, 0, none⟩) 3 cg3] 22))
      have hl1 : us.length ≤ 1000000001 := by have := HT.out.2.2.1.2; omega
      have hws := hid (show w.heap.size ≤ w3.heap.size from HL3.out.size)
      have hwr := hid (show wr.heap.size ≤ w3.heap.size from hL3.size)
      have hwl := hid (show w.heap.size ≤ wr.heap.size from HL.out.size)
      clear ho3 hL3 hus hin hdis hub c0 c1 c2
      go_wp2_with (at_builtin; refine wpList_append_lies _ (by rfl) _ _ _ (by rfl) w.heap.size 22 i0 (.slice none 0 0) 1 24 Try.underlying23 hi hz0 hz1 hz2 rfl (by omega) _ us.length us (by rfl) (by exact hown4.out) ⟨w3.heap.size, 0, none⟩ 1 1 [.slice (some ⟨g3, 0, none⟩) 3 cg3] (by rfl) (by rfl) (World.news_of_block (cs := #[.slice (some ⟨g3, 0, none⟩) 3 cg3]) (t := 22) (fr := (0, 0)) (heap_alloc_new w3 _)) (by simp [Value.oneCell']) (by omega) (by unfold maxLen; omega) (by omega) (by have := hws.out; simp; omega) (w3.heap.size + 1) (by simp) ?_)
      intro g cap1 w5 hown5 hgrow hat hglt
      have hA := Later.alloc w3 (.cells #[.slice (some ⟨g3, 0, none⟩) 3 cg3] 22)
      have HP := hid (OwnRows.pushed hul hown4.out (fun i hi => ((HIN.out i hi).later hA)) HD.out ((HO3.out.later hA).wide (Nat.le_refl _) (by simp)) hwl.out (by rw [hul]; exact hown5) hgrow)
      have HL5 := hid (show Later w w5 from (HL3.out.trans hA).grown hgrow (by have := hws.out; simp; omega) (fun b hb => (hown4.out.lt b hb).1))
      have HI5 := hid (OwnInts.kept (HO3.out.later hA) hown4.out hgrow).ints
      clear hown5 hgrow hat hA
      go_wp2_with fail
      go_roundw
      case rel => exact ⟨_, _, _, _, _, L ++ [[nx a b c, ny a b c, nz a b c]], rfl, HN.out.1, HI5.out, by simpa using HP.out, by rw [List.append_assoc, List.singleton_append, ← HS.out]; exact HR.out, by have := HN.out.2; have := HN.out.1.2.2.1.1; simp; omega, HL5.out⟩
      case measure => simp [lenOf]; omega

theorem OwnRows.none_ (lo hi : Nat) (w : World) : OwnRows lo hi w (.slice none 0 0) [] :=
  ⟨[], rfl, World.ownsRow_nil _ _ _ _, fun b hb => by simp [Value.ownBlock] at hb, fun i hi => absurd hi (Nat.not_lt_zero i), fun i j _ hj => absurd hj (Nat.not_lt_zero j)⟩
set_option maxHeartbeats 1000000 in
theorem specMarkovPath_any (v : Value) (zs : List Int) (w : World) (h : Ints w v zs) :
    Calls Try.prog 19 #[v] w fun e w' => RowsAns w (pathAns zs) e w' := by
  cases hg : mkGoodW zs
  · have HA := hid (show pathAns zs = none by unfold pathAns; rw [if_neg (by simp [hg])])
    have HG := hid hg
    have H := hid h
    obtain ⟨a, cap, rfl, hl, _⟩ := id h
    clear hg h
    go_enter Try.func19, Try.ntmps19
    go_wp2_with fail
    refine (mkGood_as _ zs false _ HG.out H.out).mono ?_
    rintro e w' ⟨rfl, n, rfl⟩
    go_wp2_with fail
    go_ret2
    rw [HA.out]
    exact ⟨_, rfl, OwnRows.none_ _ _ _, Later.drewN _ _⟩
  · obtain ⟨x, y, z, rfl, hT⟩ := mkGoodW_T3 hg
    obtain ⟨x', y', z', ad, cap, e1, rfl, c0, c1, c2⟩ := h.three rfl
    simp only [List.cons.injEq, and_true] at e1
    obtain ⟨rfl, rfl, rfl⟩ := e1
    have HA := hid (show pathAns [x, y, z] = some (pathG x y z) by unfold pathAns; rw [if_pos hg]; rfl)
    have HG := hid hg
    have H := hid h
    have HT := hid hT
    clear hg h c0 c1 c2 hT
    go_enter Try.func19, Try.ntmps19
    go_wp2_with fail
    refine (mkGood_as (.slice (some ad) 3 cap) [x, y, z] true _ HG.out H.out).mono ?_
    rintro e w' ⟨rfl, n, rfl⟩
    go_wp2_with fail
    refine (mkPath_any x y z ad cap _ HT.out (H.out.later (Later.drewN w n))).mono ?_
    rintro e w2 ⟨v2, rfl, ho, hL⟩
    obtain ⟨a2, c2, rfl, _⟩ := ho.shape
    have HO := hid (ho.wide (Later.drewN w n).size (Nat.le_refl _))
    have HL := hid ((Later.drewN w n).trans hL)
    clear ho hL
    go_wp2_with fail
    go_ret2
    rw [HA.out]
    exact ⟨_, rfl, HO.out, HL.out⟩
end Go.Proofs.Ytjnhhjnfdaaaeab
