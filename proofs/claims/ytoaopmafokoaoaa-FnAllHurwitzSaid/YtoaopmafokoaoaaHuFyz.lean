/- HuFy, HuFz: in one text. -/
import Derived.Test.YtoaopmafokoaoaaHuFst
import Derived.Test.YtoaopmafokoaoaaHuSop
import Derived.Shelf.SlicesQ.Load
namespace Go.Proofs.Ytoaopmafokoaoaa
open Go.RowKit


def facQ (b : Int) (s : So) : Int := facL (sqs (soL s) - b) (soL s)
def flagL (b : Int) (done : List So) (j : Nat) : Bool := done.any fun s => within 1 20 (facQ b s) && decide (facQ b s = (j : Int))
structure FacInv (w0 : World) (lo Bb Bf : Nat) (b : Int) (P : Nat → Prop) (done : List So) (w : World) : Prop where
  later : Later w0 w
  cb : w.cell? ⟨Bb, 0, none⟩ = some (.int .i64 b)
  lt : lo ≤ w.heap.size
  fl : ∀ j, j < 21 → w.cell? ⟨Bf, j, none⟩ = some (.bool (flagL b done j)) ∧ w.frozen? ⟨Bf, j, none⟩ = false
  pf : ∀ p, P p → lo ≤ p ∧ p < w.heap.size
set_option maxRecDepth 20000 in
set_option maxHeartbeats 2000000 in
theorem facVisitor (w0 : World) (lo Bb Bf : Nat) (b : Int) (hb : -50 ≤ b ∧ b ≤ 50) (hbb : Bb < lo) (hf : Bf < lo) (hfb : Bb ≠ Bf) (h0f : w0.heap.size ≤ Bf) :
    Visitor 73 #[.pointer (some ⟨Bb, 0, none⟩), .pointer (some ⟨Bf, 0, none⟩)] (fun s => Q4 s.1 s.2.1 s.2.2.1 s.2.2.2) (FacInv w0 lo Bb Bf b) := by
  refine ⟨?_, ?_, ?_, ?_⟩
  · intro P done s w hI hs hdl
    obtain ⟨x, y, z, t, rfl, hq⟩ := Q4.of hs
    obtain ⟨hL, cb, hlt, hfl, hpf⟩ := hI
    have HQ := hid hq
    have HBB := hid hb
    have hA := Later.alloc w (.cells #[.int .i64 x, .int .i64 y, .int .i64 z, .int .i64 t] 69)
    obtain ⟨c0, c1, c2, c3⟩ := arr4_alloc w x y z t
    replace cb := hA.cell cb
    have HFL := hid (fun j hj => And.intro (hA.cell (hfl j hj).1) (hA.frozen (hfl j hj).1 (hfl j hj).2))
    have HLA := hid hA
    have HL := hid (hL.trans hA)
    have HPF := hid hpf
    have HLT := hid hlt
    have HFG := hid (fun j => show flagL b (done ++ [(x, y, z, t)]) j = (flagL b done j || (within 1 20 (facL (sqs (qL x y z t) - b) (qL x y z t)) && decide (facL (sqs (qL x y z t) - b) (qL x y z t) = (j : Int)))) by
      unfold flagL; rw [List.any_append, List.any_cons, List.any_nil, Bool.or_false]; rfl)
    obtain ⟨r, hr⟩ : ∃ r, facL (sqs (qL x y z t) - b) (qL x y z t) = r := ⟨_, rfl⟩
    have HR := hid hr
    rw [hr] at HFG
    have hBfs : Bf < w.heap.size := by omega
    have HBfs := hid hBfs
    clear hs hq hb hL hlt hfl hpf hdl hA hr hBfs
    show Calls Try.prog 73 #[.agg #[.int .i64 x, .int .i64 y, .int .i64 z, .int .i64 t], .pointer (some ⟨Bb, 0, none⟩), .pointer (some ⟨Bf, 0, none⟩)] w _
    cases hw : within 1 20 r
    · have HW := hid hw
      clear hw
      go_enter Try.func73, Try.ntmps73
      go_wp2_with fail
      generalize w.alloc (.cells #[.int .i64 x, .int .i64 y, .int .i64 z, .int .i64 t] 69) = w1 at c0 c1 c2 c3 cb HFL HL HLA ⊢
      refine (factorFor_any x y z t b _ HQ.out HBB.out).mono ?_
      rw [HR.out]
      rintro e w2 ⟨rfl, hL2⟩
      have HL2 := hid hL2
      clear hL2
      go_wp2_with fail
      refine (isFactor_any r _).mono ?_
      rw [HW.out]
      rintro e w' ⟨rfl, rfl⟩
      have cb2 := HL2.out.cell cb
      have HCB := hid cb2
      clear c0 c1 c2 c3 cb cb2
      go_wp2_with fail
      refine bodyPost_end (v := .tuple #[]) ?_ rfl ?_
      · simp [results, Try.results73, go_sem]
      · have hW2 := HLA.out.trans HL2.out
        refine ⟨rfl, ⟨HL.out.trans HL2.out, HCB.out, Nat.le_trans HLT.out hW2.size, fun j hj => ?_, fun p hp => ⟨(HPF.out p hp).1, Nat.lt_of_lt_of_le (HPF.out p hp).2 hW2.size⟩⟩, fun p hp => hW2.block p (HPF.out p hp).2⟩
        have h1 := HFL.out j hj
        rw [HFG.out j, HW.out, Bool.false_and, Bool.or_false]
        exact ⟨HL2.out.cell h1.1, HL2.out.frozen h1.1 h1.2⟩
    · have HW := hid hw
      have hwr : 1 ≤ r ∧ r ≤ 20 := by simpa [within] using hw
      obtain ⟨n, rfl⟩ : ∃ n : Nat, r = (n : Int) := ⟨r.toNat, by omega⟩
      have hn : n < 21 := by omega
      have hn0 : (0 : Int) ≤ (n : Int) := by omega
      have hnI : (n : Int) < 21 := by omega
      have HN := hid hn
      clear hw hwr
      go_enter Try.func73, Try.ntmps73
      go_wp2_with fail
      generalize w.alloc (.cells #[.int .i64 x, .int .i64 y, .int .i64 z, .int .i64 t] 69) = w1 at c0 c1 c2 c3 cb HFL HL HLA ⊢
      refine (factorFor_any x y z t b _ HQ.out HBB.out).mono ?_
      rw [HR.out]
      rintro e w2 ⟨rfl, hL2⟩
      have HL2 := hid hL2
      clear hL2
      go_wp2_with fail
      refine (isFactor_any (n : Int) _).mono ?_
      rw [HW.out]
      rintro e w' ⟨rfl, rfl⟩
      have cb2 := HL2.out.cell cb
      have HCB := hid cb2
      have h1 := HFL.out n HN.out
      have cn := HL2.out.cell h1.1
      have fn := HL2.out.frozen h1.1 h1.2
      obtain ⟨old, hold⟩ : ∃ o, flagL b done n = o := ⟨_, rfl⟩
      rw [hold] at cn
      have HCN := hid cn
      clear c0 c1 c2 c3 cb cb2 h1 hold
      go_wp2_with fail
      refine bodyPost_end (v := .tuple #[]) ?_ rfl ?_
      · simp [results, Try.results73, go_sem]
      · have hW2 := HLA.out.trans HL2.out
        have hne : ∀ bk, bk ≠ Bf → (w2.setCell ⟨Bf, n, none⟩ (.bool true)).heap[bk]? = w2.heap[bk]? := fun bk hbk => heap_setCell_other _ _ bk _ hbk
        refine ⟨rfl, ⟨Below.setCell (HL.out.trans HL2.out) (by simpa using h0f) _, cell_keep HCB.out (hne Bb hfb), ?_, fun j hj => ?_, fun p hp => ⟨(HPF.out p hp).1, ?_⟩⟩, fun p hp => ?_⟩
        · have := HLT.out; have := hW2.size; simp; omega
        · have h2 := HFL.out j hj
          rw [HFG.out j, HW.out, Bool.true_and, World.frozen?_setCell]
          refine ⟨?_, HL2.out.frozen h2.1 h2.2⟩
          by_cases hjn : j = n
          · subst hjn
            rw [World.cell?_setCell_same _ _ _ HCN.out]
            simp
          · have hd : decide ((n : Int) = (j : Int)) = false := decide_eq_false (by omega)
            rw [hd, Bool.or_false]
            exact (World.cell?_setCell_other _ _ _ _ (fun e => hjn (congrArg Addr.off e).symm)).trans (HL2.out.cell h2.1)
        · have := (HPF.out p hp).2; have := hW2.size; simp; omega
        · exact (hne p (by have := (HPF.out p hp).1; omega)).trans (hW2.block p (HPF.out p hp).2)
  · intro P done w o hI
    obtain ⟨hL, cb, hlt, hfl, hpf⟩ := hI
    have hA := Later.alloc w o
    refine ⟨hL.trans hA, hA.cell cb, by simp; omega, fun j hj => ⟨hA.cell (hfl j hj).1, hA.frozen (hfl j hj).1 (hfl j hj).2⟩, fun p hp => ?_⟩
    rcases hp with hp | hp
    · have := hpf p hp; simp; omega
    · simp; omega
  · intro P done w bk k u hI hp
    obtain ⟨hL, cb, hlt, hfl, hpf⟩ := hI
    have h1 := hpf bk hp
    have hne : ∀ b', b' ≠ bk → (w.setCell ⟨bk, k, none⟩ u).heap[b']? = w.heap[b']? := fun b' hb' => heap_setCell_other _ _ b' _ hb'
    exact ⟨Below.setCell hL (by show w0.heap.size ≤ bk; omega) _, cell_keep cb (hne Bb (by omega)), by simpa using hlt, fun j hj => ⟨cell_keep (hfl j hj).1 (hne Bf (by omega)), (World.frozen?_of_block (hne Bf (by omega))).trans (hfl j hj).2⟩, fun p hp => by simpa using hpf p hp⟩
  · intro P P' done w hI hPP
    obtain ⟨hL, cb, hlt, hfl, hpf⟩ := hI
    exact ⟨hL, cb, hlt, hfl, fun p hp => hpf p (hPP p hp)⟩


def arrF (fl : Nat → Bool) : List Value := (List.range 21).map fun j => Value.bool (fl j)
theorem arrF_len (fl : Nat → Bool) : (arrF fl).length = 21 := by simp [arrF]
theorem arrF_at (fl : Nat → Bool) (j : Nat) (hj : j < 21) : (arrF fl)[j]? = some (.bool (fl j)) := by simp [arrF, hj]
theorem run_ixF (fl : Nat → Bool) (k : Nat) (hk : k < 21) (w : World) : (Instr.index 94 (.agg (arrF fl).toArray) (.int .i64 k)).run Try.prog w = .ok (.bool (fl k)) w := by
  have hu := Try.underlying94
  have ha := Try.isAgg4
  have hz := Try.sizeOf4
  have h2 := arrF_at fl k hk
  simp [Instr.index, asIntOf, run_underlying hu, part, ha, hz, h2]
  intro h; omega
theorem run_ldF (fl : Nat → Bool) (B : Nat) (w : World) (h : ∀ j, j < 21 → w.cell? ⟨B, j, none⟩ = some (.bool (fl j))) : Sem.run Try.prog (loadCells ⟨B, 0, none⟩ 21) w = .ok (arrF fl).toArray w := by
  have h1 := run_loadCells_list (P := Try.prog) (w := w) ⟨B, 0, none⟩ (arrF fl) (fun j v hj => by
    have hj2 : j < 21 := by
      rcases Nat.lt_or_ge j 21 with h | h
      · exact h
      · rw [List.getElem?_eq_none (by rw [arrF_len]; exact h)] at hj; cases hj
    rw [arrF_at fl j hj2] at hj
    rw [← hj, addr_add0]
    exact h j hj2)
  rw [arrF_len] at h1
  exact h1
/-- A load of an array, at the list of a plain region's operations. -/
theorem wpList_loadF {P : Program} (w : World) {ops : Array Oper} {rest : List Oper} {o : Oper} {a : Act} {Q : Exit → Act → World → Prop} (hg : o.guard = none) (t : TypeId) (x : Operand) (hop : o.op = Op.load t x)
    (ad : Addr) (hx : a.eval x = .pointer (some ad)) (hagg : ∀ w, (isAgg t).run P w = .ok true w) (n : Nat) (hsz : ∀ w, (sizeOf t).run P w = .ok n w) (A : Array Value) (hld : Sem.run P (loadCells ad n) w = .ok A w)
    (h : wpList P ops Q rest (a.put o.dst (.agg A)) w) : wpList P ops Q (o :: rest) a w := by
  refine wpList_plain hg fun K hK' => ?_
  unfold Oper.wp
  simp [execOp, hop, hx, Instr.loadAt, Instr.sureAddr, loadVar, hagg, hsz, hld]
  exact hK' _ _ h
def facP (fl : Nat → Bool) (k : Nat) : List Int := ((List.range k).filter fl).map fun i : Nat => (i : Int)
theorem facP_succ (fl : Nat → Bool) (k : Nat) : facP fl (k + 1) = facP fl k ++ (if fl k = true then [(k : Int)] else []) := by
  unfold facP
  rw [List.range_succ, List.filter_append, List.map_append]
  congr 1
  simp only [List.filter_cons, List.filter_nil]
  split <;> rfl
theorem facP_len (fl : Nat → Bool) (k : Nat) : (facP fl k).length ≤ k := by
  unfold facP
  rw [List.length_map]
  exact Nat.le_trans (List.length_filter_le _ _) (by simp)
theorem facP_all {fl : Nat → Bool} {hf : Nat → Bool} (h0 : fl 0 = false) (hs : ∀ i, i < 20 → fl (i + 1) = hf i) : facP fl 21 = ((List.range 20).filter hf).map fun i : Nat => (i : Int) + 1 := by
  unfold facP
  rw [List.range_succ_eq_map, List.filter_cons, h0]
  simp only [Bool.false_eq_true, if_false]
  have : ∀ n, n ≤ 20 → (((List.range n).map Nat.succ).filter fl).map (fun i : Nat => (i : Int)) = ((List.range n).filter hf).map fun i : Nat => (i : Int) + 1 := by
    intro n
    induction n with
    | zero => intro _; rfl
    | succ n ih =>
      intro hn
      rw [List.range_succ, List.map_append, List.filter_append, List.filter_append, List.map_append, List.map_append, ih (by omega)]
      congr 1
      simp only [List.map_cons, List.map_nil, List.filter_cons, List.filter_nil, hs n (by omega), Nat.succ_eq_add_one]
      split <;> simp
  exact this 20 (Nat.le_refl _)
theorem flag_has {P M : Nat} {b : Int} (hP : P = 3 ∨ P = 4) (hM : M ≤ 40) (i : Nat) (hi : i < 20) : flagL b ((visP P [] M).map toSo) (i + 1) = hasF P b M i := by
  have key : ∀ L : List (List Int), (∀ l ∈ L, l ∈ visP P [] M) → flagL b (L.map toSo) (i + 1) = decide (0 < (L.filter fun l => solB l ((i : Int) + 1) b).length) := by
    intro L
    induction L with
    | nil => intro _; rfl
    | cons l L ih =>
      intro hL
      have ih' := ih (fun l hl => hL l (by simp [hl]))
      obtain ⟨hlen, hf, x, y, z, t, e, hq⟩ := vis_ok hP hM (hL l (by simp))
      have hsl : soL (toSo l) = l := by rw [e, toSo_qL]; rfl
      have hbq : (within 1 20 (facQ b (toSo l)) && decide (facQ b (toSo l) = ((i + 1 : Nat) : Int))) = solB l ((i : Int) + 1) b := by
        unfold solB facQ
        rw [hsl, lenB_iff.2 hlen, hf, Bool.true_and, Bool.true_and]
        have h1 := facL_eq l ((i : Int) + 1) (by omega) (sqs l - b) (fallB_in5 (by omega) hf)
        by_cases h2 : facL (sqs l - b) l = (i : Int) + 1
        · rw [h2, decide_eq_true (show (i : Int) + 1 = ((i + 1 : Nat) : Int) by omega), decide_eq_true (by have := h1.1 h2; omega)]
          simp [within]; omega
        · rw [decide_eq_false (show ¬ facL (sqs l - b) l = ((i + 1 : Nat) : Int) by omega), decide_eq_false (fun h => h2 (h1.2 (by omega)))]
          simp
      unfold flagL at ih' ⊢
      rw [List.map_cons, List.any_cons, hbq, ih', List.filter_cons]
      split
      · rename_i h; rw [h]; simp
      · rename_i h; simp [h]
  unfold hasF
  rw [key _ (fun l hl => hl)]
  rfl
theorem flag_zero (b : Int) (done : List So) : flagL b done 0 = false := by
  unfold flagL
  rw [List.any_eq_false]
  intro s _
  simp only [Bool.and_eq_true, decide_eq_true_eq, not_and]
  intro h
  have : 1 ≤ facQ b s ∧ facQ b s ≤ 20 := by simpa [within] using h
  omega
theorem task_split1 (parts b most : Int) : taskB parts 1 b most = ((within 3 4 parts && within 1 40 most) && within (-50) 50 b) := by
  rw [taskB_split]
  rw [show within 1 20 1 = true from rfl, Bool.and_true]

set_option maxRecDepth 20000 in
set_option maxHeartbeats 2000000 in
theorem implFactorsFor_any (parts b most : Int) (w : World) : Calls Try.prog 22 #[.int .i64 parts, .int .i64 b, .int .i64 most] w fun e w' => IntsAns w (facsAns parts b most) e w' := by
  have hA := Later.alloc w (.cells #[.int .i64 b] 3)
  have HL := hid hA
  have hcb : (w.alloc (.cells #[.int .i64 b] 3)).cell? ⟨w.heap.size, 0, none⟩ = some (.int .i64 b) := by simp [go_sem]
  have HSZ := hid (show (w.alloc (.cells #[.int .i64 b] 3)).heap.size = w.heap.size + 1 by simp)
  have HSP := hid (task_split1 parts b most)
  clear hA
  cases h1 : (within 3 4 parts && within 1 40 most)
  · have H1 := hid h1
    have HA := hid (show facsAns parts b most = none by unfold facsAns; rw [if_neg (by rw [HSP.out, h1]; simp)])
    clear h1
    go_enter Try.func22, Try.ntmps22
    go_wp2_with fail
    generalize w.alloc (.cells #[.int .i64 b] 3) = w1 at HL hcb HSZ ⊢
    refine (isTried_any parts most _).mono ?_
    rw [H1.out]
    rintro e w' ⟨rfl, rfl⟩
    go_wp2_with fail
    go_ret2
    rw [HA.out]
    exact ⟨_, rfl, OwnInts.nothing0 _ _ _, HL.out⟩
  · have H1 := hid h1
    cases h3 : within (-50) 50 b
    · have H3 := hid h3
      have HA := hid (show facsAns parts b most = none by unfold facsAns; rw [if_neg (by rw [HSP.out, h3]; simp)])
      clear h1 h3
      go_enter Try.func22, Try.ntmps22
      go_wp2_with fail
      generalize w.alloc (.cells #[.int .i64 b] 3) = w1 at HL hcb HSZ ⊢
      obtain ⟨z0, hz0⟩ : ∃ z, w.heap.size = z := ⟨_, rfl⟩
      rw [hz0] at hcb ⊢
      clear hz0
      refine (isTried_any parts most _).mono ?_
      rw [H1.out]
      rintro e w' ⟨rfl, rfl⟩
      go_wp2_with fail
      refine (isRest_any b _).mono ?_
      rw [H3.out]
      rintro e w' ⟨rfl, rfl⟩
      go_wp2_with fail
      go_ret2
      rw [HA.out]
      exact ⟨_, rfl, OwnInts.nothing0 _ _ _, HL.out⟩
    · have H3 := hid h3
      have ht : taskB parts 1 b most = true := by rw [HSP.out, h1, h3]; rfl
      obtain ⟨hp, hg, hm1, hm2⟩ := taskB_iff.1 ht
      obtain ⟨P, rfl⟩ : ∃ P : Nat, parts = (P : Int) := ⟨parts.toNat, by omega⟩
      obtain ⟨M, rfl⟩ : ∃ M : Nat, most = (M : Int) := ⟨most.toNat, by omega⟩
      have hP : P = 3 ∨ P = 4 := by omega
      have hM : M ≤ 40 := by omega
      have hbd := (givenB_iff.1 hg).2
      have HVO := hid (fun l (hl : l ∈ visP P [] M) => show Q4 (toSo l).1 (toSo l).2.1 (toSo l).2.2.1 (toSo l).2.2.2 by
        obtain ⟨_, _, x, y, z, t, e, hq⟩ := vis_ok hP hM hl
        rw [e, toSo_qL]; exact hq)
      have HA := hid (show facsAns P b M = some (facP (flagL b ((visP P [] M).map toSo)) 21) by
        unfold facsAns
        rw [if_pos ht, facP_all (hf := hasF P b M) (flag_zero b _) (fun i hi => flag_has hP hM i hi)]
        rfl)
      obtain ⟨fl, hfl⟩ : ∃ fl, flagL b ((visP P [] M).map toSo) = fl := ⟨_, rfl⟩
      have HFL := hid hfl
      rw [hfl] at HA
      have HV := hid (facVisitor w (w.heap.size + 1 + 1) w.heap.size (w.heap.size + 1) b hbd (by omega) (by omega) (by omega) (by omega))
      have hB := Later.alloc (w.alloc (.cells #[.int .i64 b] 3)) (.cells #[.bool false, .bool false, .bool false, .bool false, .bool false, .bool false, .bool false, .bool false, .bool false, .bool false, .bool false, .bool false, .bool false, .bool false, .bool false, .bool false, .bool false, .bool false, .bool false, .bool false, .bool false] 94)
      have HINV := hid (show FacInv w (w.heap.size + 1 + 1) w.heap.size (w.heap.size + 1) b (fun _ => False) [] ((w.alloc (.cells #[.int .i64 b] 3)).alloc (.cells #[.bool false, .bool false, .bool false, .bool false, .bool false, .bool false, .bool false, .bool false, .bool false, .bool false, .bool false, .bool false, .bool false, .bool false, .bool false, .bool false, .bool false, .bool false, .bool false, .bool false, .bool false] 94)) from
        ⟨HL.out.trans hB, hB.cell hcb, by simp, fun j hj => by
          have h21 : j = 0 ∨ j = 1 ∨ j = 2 ∨ j = 3 ∨ j = 4 ∨ j = 5 ∨ j = 6 ∨ j = 7 ∨ j = 8 ∨ j = 9 ∨ j = 10 ∨ j = 11 ∨ j = 12 ∨ j = 13 ∨ j = 14 ∨ j = 15 ∨ j = 16 ∨ j = 17 ∨ j = 18 ∨ j = 19 ∨ j = 20 := by omega
          rcases h21 with rfl | rfl | rfl | rfl | rfl | rfl | rfl | rfl | rfl | rfl | rfl | rfl | rfl | rfl | rfl | rfl | rfl | rfl | rfl | rfl | rfl <;> exact ⟨by simp [go_sem, flagL], by simp [go_sem]⟩, fun p hp => hp.elim⟩)
      obtain ⟨ii, hii, ii0, ii1, ii2⟩ := info_parts Try.infoInt
      clear h1 h3 ht hp hg hm1 hm2 hbd hfl hB
      go_enter Try.func22, Try.ntmps22
      go_wp2_with fail
      refine (isTried_any P M _).mono ?_
      rw [H1.out]
      rintro e w' ⟨rfl, rfl⟩
      go_wp2_with fail
      refine (isRest_any b _).mono ?_
      rw [H3.out]
      rintro e w' ⟨rfl, rfl⟩
      go_wp2_with fail
      generalize (w.alloc (.cells #[.int .i64 b] 3)).alloc (.cells #[.bool false, .bool false, .bool false, .bool false, .bool false, .bool false, .bool false, .bool false, .bool false, .bool false, .bool false, .bool false, .bool false, .bool false, .bool false, .bool false, .bool false, .bool false, .bool false, .bool false, .bool false] 94) = w1 at HINV ⊢
      refine (eachFalling_any Try.call73 HV.out P hP M w1 hM HVO.out (fun _ => False) HINV.out).mono ?_
      rintro e w2 ⟨rfl, hI2, _⟩
      have HL2 := hid hI2.later
      have hcl : ∀ j, j < 21 → w2.cell? ⟨w.heap.size + 1, j, none⟩ = some (.bool (fl j)) := fun j hj => by have := (hI2.fl j hj).1; rw [HFL.out] at this; exact this
      have HLD := hid (run_ldF fl (w.heap.size + 1) w2 hcl)
      have HIX := hid (run_ixF fl)
      have HAL := hid (facP_len fl)
      have HAS := hid (facP_succ fl)
      obtain ⟨A, hAe⟩ : ∃ A, (arrF fl).toArray = A := ⟨_, rfl⟩
      rw [hAe] at HLD HIX
      clear hI2 hcl hcb hAe
      go_wp2_with (refine wpList_loadF _ (by rfl) 94 _ (by rfl) _ (by rfl) Try.isAgg94 21 Try.sizeOf94 A (by exact HLD.out) ?_)
      go_loopw [9, 26] (fun o x wr => ∃ k : Nat, k ≤ 21 ∧ x = .int .i64 k ∧ OwnInts w.heap.size wr.heap.size wr o (facP fl k) ∧ Later w wr) (fun _ x _ => 22 - (intOf x).toNat)
      case atStart => exact ⟨0, by omega, rfl, OwnInts.nothing0 _ _ _, HL2.out⟩
      case round =>
        obtain ⟨k, hk, rfl, hO, hL⟩ := hrel
        have HO := hid hO
        have HL := hid hL
        by_cases hlt : k < 21
        · have hkI : (k : Int) < 21 := by omega
          have hix := HIX.out k hlt
          have HKk := hid (HAS.out k)
          have hfl := HAL.out k
          obtain ⟨F, hF⟩ : ∃ F, facP fl k = F := ⟨_, rfl⟩
          rw [hF] at HO HKk hfl
          clear hO hL hF
          cases hfk : fl k
          · have HKn := hid (show facP fl (k + 1) = F by rw [HKk.out, hfk]; simp)
            rw [hfk] at hix
            clear hfk
            go_wp2_with fail
            go_roundw
            case rel => exact ⟨k + 1, by omega, by go_num, by rw [HKn.out]; exact HO.out, HL.out⟩
            case measure => simp [intOf]; omega
          · have HKn := hid (show facP fl (k + 1) = F ++ [(k : Int)] by rw [HKk.out, hfk]; simp)
            rw [hfk] at hix
            have HOA := hid (HO.out.1.alloc (.cells #[Value.int .i64 (k : Int)] 3))
            have HOB := hid (fun b (hb : _ = some b) => (HO.out.1.lt b hb).1)
            have HLA := hid (HL.out.trans (Later.alloc wr (.cells #[Value.int .i64 (k : Int)] 3)))
            have hws := HL.out.size
            clear hfk
            go_wp2_with (at_builtin; refine wpList_append_lies _ (by rfl) _ _ _ (by rfl) w.heap.size 3 ii (.int .i64 0) 1 8 Try.underlying24 hii ii0 ii1 ii2 rfl (by omega) _ F.length (F.map (Value.int .i64)) (by rfl) (by exact HOA.out) ⟨wr.heap.size, 0, none⟩ 1 1 [.int .i64 (k : Int)] (by rfl) (by rfl) (World.news_of_block (cs := #[.int .i64 (k : Int)]) (t := 3) (fr := (0, 0)) (heap_alloc_new wr _)) (by simp [Value.oneCell']) (by omega) (by unfold maxLen; omega) (by omega) (by simp; omega) (wr.heap.size + 1) (by simp) ?_)
            intro g1 cap1 w3 hown1 hgrow hat hglt
            have HP := hid (OwnInts.pushedH hown1)
            have HLn := hid (show Later w w3 from HLA.out.grown hgrow (by simp; omega) (fun b hb => HOB.out b hb))
            clear hown1 hgrow
            go_wp2_with fail
            go_roundw
            case rel => exact ⟨k + 1, by omega, by go_num, by rw [HKn.out]; exact HP.out, HLn.out⟩
            case measure => simp [intOf]; omega
        · obtain rfl : k = 21 := by omega
          clear hO hL
          go_wp2_with fail
          go_ret2
          rw [HA.out]
          exact ⟨_, rfl, HO.out, HL.out⟩
end Go.Proofs.Ytoaopmafokoaoaa
