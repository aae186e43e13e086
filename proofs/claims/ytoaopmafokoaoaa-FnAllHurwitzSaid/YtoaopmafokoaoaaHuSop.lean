/- HuSo, HuSp: in one text. -/
import Derived.Test.YtoaopmafokoaoaaHuEf
import Derived.Test.YtoaopmafokoaoaaHuTr
import Derived.Test.YtoaopmafokoaoaaHuFst
import Derived.Deep.RegionHeld3
namespace Go.Proofs.Ytoaopmafokoaoaa
open Go.RowKit


def isSolQ (a b : Int) (s : So) : Bool := decide (facL (sqs (soL s) - b) (soL s) = a)
/-- What holds behind the visits: the factor, the rest, and what was found. -/
structure SolInv (w0 : World) (lo Ba Bb Bf : Nat) (a b : Int) (P : Nat → Prop) (done : List So) (w : World) : Prop where
  later : Later w0 w
  ca : w.cell? ⟨Ba, 0, none⟩ = some (.int .i64 a)
  cb : w.cell? ⟨Bb, 0, none⟩ = some (.int .i64 b)
  lt : lo ≤ w.heap.size
  ex : ∃ v, w.cell? ⟨Bf, 0, none⟩ = some v ∧ w.frozen? ⟨Bf, 0, none⟩ = false ∧ OwnSols lo w v (done.filter (isSolQ a b)) ∧ ∀ p, P p → v.ownBlock ≠ some p
  pf : ∀ p, P p → lo ≤ p ∧ p < w.heap.size
theorem OwnSols.ltb {lo : Nat} {w : World} {v : Value} {L : List So} (h : OwnSols lo w v L) {b : Nat} (hb : v.ownBlock = some b) : lo ≤ b ∧ b < w.heap.size := World.ownsRow.lt h b hb
theorem Q4.of {s : So} (h : Q4 s.1 s.2.1 s.2.2.1 s.2.2.2) : ∃ x y z t, s = (x, y, z, t) ∧ Q4 x y z t := ⟨_, _, _, _, rfl, h⟩

set_option maxRecDepth 20000 in
set_option maxHeartbeats 2000000 in
theorem solVisitor (w0 : World) (lo Ba Bb Bf : Nat) (a b : Int) (hb : -50 ≤ b ∧ b ≤ 50) (ha : Ba < lo) (hbb : Bb < lo) (hf : Bf < lo) (hfa : Ba ≠ Bf) (hfb : Bb ≠ Bf) (h0f : w0.heap.size ≤ Bf) :
    Visitor 112 #[.pointer (some ⟨Bb, 0, none⟩), .pointer (some ⟨Ba, 0, none⟩), .pointer (some ⟨Bf, 0, none⟩)] (fun s => Q4 s.1 s.2.1 s.2.2.1 s.2.2.2) (SolInv w0 lo Ba Bb Bf a b) := by
  refine ⟨?_, ?_, ?_, ?_⟩
  · intro P done s w hI hs hdl
    obtain ⟨x, y, z, t, rfl, hq⟩ := Q4.of hs
    obtain ⟨i0, hi, hz0, hz1, hz2⟩ := info_parts Try.infoSo
    obtain ⟨hL, ca, cb, hlt, ⟨v, cf, ff, ho, hvp⟩, hpf⟩ := hI
    have HQ := hid hq
    have HBB := hid hb
    have hfl : (done.filter (isSolQ a b)).length ≤ 2560000 := Nat.le_trans (List.length_filter_le _ _) hdl
    have HFS := hid (show (done ++ [(x, y, z, t)]).filter (isSolQ a b) = done.filter (isSolQ a b) ++ (if isSolQ a b (x, y, z, t) = true then [(x, y, z, t)] else []) by
      rw [List.filter_append]; simp only [List.filter_cons, List.filter_nil])
    obtain ⟨L, hLe⟩ : ∃ L, done.filter (isSolQ a b) = L := ⟨_, rfl⟩
    rw [hLe] at ho hfl HFS
    obtain ⟨va, vc, rfl, _⟩ := ho.shape
    have hA := Later.alloc w (.cells #[.int .i64 x, .int .i64 y, .int .i64 z, .int .i64 t] 69)
    obtain ⟨c0, c1, c2, c3⟩ := arr4_alloc w x y z t
    replace ff := hA.frozen cf ff
    replace cf := hA.cell cf
    replace ca := hA.cell ca
    replace cb := hA.cell cb
    have HO := hid (ho.later hA)
    have HLA := hid hA
    have HL := hid (hL.trans hA)
    have HVP := hid hvp
    have HPF := hid hpf
    have HLT := hid hlt
    have HCF := hid (show facL (sqs (qL x y z t) - b) (qL x y z t) = facL (sqs (soL (x, y, z, t)) - b) (soL (x, y, z, t)) from rfl)
    have HSQ := hid (show isSolQ a b (x, y, z, t) = decide (facL (sqs (qL x y z t) - b) (qL x y z t) = a) from rfl)
    obtain ⟨r, hr⟩ : ∃ r, facL (sqs (qL x y z t) - b) (qL x y z t) = r := ⟨_, rfl⟩
    have HR := hid hr
    rw [hr] at HSQ
    have HAW := hid (show lo ≤ w.heap.size ∧ Bf < w.heap.size ∧ Ba < w.heap.size ∧ Bb < w.heap.size by omega)
    clear hs hq hb hL hlt ho hvp hpf hdl hLe hA hr
    show Calls Try.prog 112 #[.agg #[.int .i64 x, .int .i64 y, .int .i64 z, .int .i64 t], .pointer (some ⟨Bb, 0, none⟩), .pointer (some ⟨Ba, 0, none⟩), .pointer (some ⟨Bf, 0, none⟩)] w _
    have hwa : (w.alloc (.cells #[.int .i64 x, .int .i64 y, .int .i64 z, .int .i64 t] 69)).heap.size = w.heap.size + 1 := by simp
    have HWA := hid hwa
    obtain ⟨C, hC⟩ : ∃ C, w.heap.size = C := ⟨_, rfl⟩
    have HCE := hid hC
    clear hwa hC
    by_cases hra : r = a
    · have hbe : (r == a) = true := by simp [hra]
      have HF2 := hid (show (done ++ [(x, y, z, t)]).filter (isSolQ a b) = L ++ [(x, y, z, t)] by rw [HFS.out, HSQ.out, decide_eq_true hra]; simp)
      clear hra
      go_enter Try.func112, Try.ntmps112
      go_wp2_with fail
      generalize w.alloc (.cells #[.int .i64 x, .int .i64 y, .int .i64 z, .int .i64 t] 69) = w1 at c0 c1 c2 c3 ca cb cf ff HO HL HLA HWA ⊢
      rw [HCE.out] at c0 c1 c2 c3 ⊢
      go_region_held3 (fun w' => w'.cell? ⟨C, 0, none⟩ = some (.int .i64 x) ∧ w'.cell? ⟨C, 1, none⟩ = some (.int .i64 y) ∧ w'.cell? ⟨C, 2, none⟩ = some (.int .i64 z) ∧ w'.cell? ⟨C, 3, none⟩ = some (.int .i64 t) ∧ w'.cell? ⟨Ba, 0, none⟩ = some (.int .i64 a) ∧ w'.cell? ⟨Bb, 0, none⟩ = some (.int .i64 b)) (first | exact ⟨c0, c1, c2, c3, ca, cb⟩ | exact ⟨d0, d1, d2, d3, d4, d5⟩) (first | (go_at_call 74; refine (factorFor_any x y z t b _ HQ.out HBB.out).mono ?_; rw [HR.out]; rintro e w2 ⟨rfl, hL2⟩; have hL2' := (Later.drew w1).trans hL2; have HL2 := hid hL2'; have d0 := hL2'.cell c0; have d1 := hL2'.cell c1; have d2 := hL2'.cell c2; have d3 := hL2'.cell c3; have d4 := hL2'.cell ca; have d5 := hL2'.cell cb; have d6 := hL2'.cell cf; have d7 := hL2'.frozen cf ff; clear hL2 hL2'))
      all_goals
        clear c0 c1 c2 c3 ca cb cf ff
        have hA := Later.alloc w2 (.cells #[.int .i64 x, .int .i64 y, .int .i64 z, .int .i64 t] 69)
        have HO2 := hid (HO.out.later HL2.out)
        have HO3 := hid (HO2.out.later hA)
        have HL3 := hid ((HL.out.trans HL2.out).trans hA)
        have HW2 := hid ((HLA.out.trans HL2.out))
        have e4 := hA.cell d4
        have e5 := hA.cell d5
        have e6 := hA.cell d6
        have e7 := hA.frozen d6 d7
        have hs2 : w.heap.size + 1 ≤ w2.heap.size := by have := HL2.out.size; have := HWA.out; omega
        have HS2 := hid hs2
        have hlo2 : lo ≤ w2.heap.size := by have := HAW.out; omega
        clear hA
        go_wp2_with (at_builtin; refine wpList_append_lies _ (by rfl) _ _ _ (by rfl) lo 69 i0 (.agg #[.int .i64 0, .int .i64 0, .int .i64 0, .int .i64 0]) 4 32 Try.underlying72 hi hz0 hz1 hz2 rfl (by omega) _ L.length (soCells L) (by rfl) (by exact HO3.out) ⟨w2.heap.size, 0, none⟩ 1 1 [.int .i64 x, .int .i64 y, .int .i64 z, .int .i64 t] (by rfl) (by rfl) (World.news_of_block (cs := #[.int .i64 x, .int .i64 y, .int .i64 z, .int .i64 t]) (t := 69) (fr := (0, 0)) (heap_alloc_new w2 _)) (by simp [Value.oneCell']) (by omega) (by unfold maxLen; omega) (by omega) (by simp; omega) (w2.heap.size + 1) (by simp) ?_)
        intro g4 cap4 w4 hown4 hgrow4 hat4 _
        have HO4 := hid (show OwnSols lo w4 (.slice (some ⟨g4, 0, none⟩) (L.length + 1) cap4) (L ++ [(x, y, z, t)]) by
          unfold OwnSols; rw [soCells_snoc, List.length_append]; exact hown4)
        have HGB := hid (fun bk (hb1 : bk < w2.heap.size) (hb2 : ∀ p, (Value.slice va L.length vc).ownBlock = some p → bk ≠ p) => show w4.heap[bk]? = w2.heap[bk]? from (hgrow4.block bk (by simp; omega) (fun e => hb2 bk e.symm rfl)).trans ((Later.alloc w2 (.cells #[.int .i64 x, .int .i64 y, .int .i64 z, .int .i64 t] 69)).block bk hb1))
        have HVL := hid (fun p (hp : (Value.slice va L.length vc).ownBlock = some p) => (HO2.out.ltb hp).1)
        have hbf := HGB.out Bf (by have := HAW.out; omega) (fun p hp => by have := HVL.out p hp; omega)
        have hba := HGB.out Ba (by have := HAW.out; omega) (fun p hp => by have := HVL.out p hp; omega)
        have hbb2 := HGB.out Bb (by have := HAW.out; omega) (fun p hp => by have := HVL.out p hp; omega)
        have k4 := cell_keep d4 hba
        have k5 := cell_keep d5 hbb2
        have k6 := cell_keep d6 hbf
        have k7 : w4.frozen? ⟨Bf, 0, none⟩ = false := (World.frozen?_of_block hbf).trans d7
        have HL4 := hid (show Later w0 w4 from HL3.out.grown hgrow4 HL3.out.size (fun b' hb' => by have := HVL.out b' hb'; omega))
        have HS4 := hid (show w2.heap.size ≤ w4.heap.size by have := hgrow4.size; simp at this; omega)
        have HK4 := hid (show w4.cell? ⟨Ba, 0, none⟩ = some (.int .i64 a) ∧ w4.cell? ⟨Bb, 0, none⟩ = some (.int .i64 b) ∧ w4.frozen? ⟨Bf, 0, none⟩ = false from ⟨k4, k5, k7⟩)
        have HG4 := hid (fun p (hp : (Value.slice (some ⟨g4, 0, none⟩) (L.length + 1) cap4).ownBlock = some p) => HO4.out.ltb hp)
        have HGF := hid (show ∀ p, P p → g4 ≠ p from fun p hp e => by
          subst e
          have h2 := HPF.out _ hp
          rcases hat4 with h | h
          · exact HVP.out _ hp h
          · omega)
        have HPK := hid (fun p (hp : P p) => show w4.heap[p]? = w.heap[p]? from (HGB.out p (by have := (HPF.out p hp).2; omega) (fun q hq e => HVP.out p hp (by rw [e]; exact hq))).trans (HW2.out.block p (HPF.out p hp).2))
        have c6 := k6
        clear hown4 hgrow4 hat4 d0 d1 d2 d3 d4 d5 d6 d7 e4 e5 e6 e7 hbf hba hbb2 k4 k5
        go_wp2_with fail
        refine bodyPost_end (v := .tuple #[]) ?_ rfl ?_
        · simp [results, Try.results112, go_sem]
        · have hne : ∀ bk, bk ≠ Bf → (w4.setCell ⟨Bf, 0, none⟩ (.slice (some ⟨g4, 0, none⟩) (L.length + 1) cap4)).heap[bk]? = w4.heap[bk]? := fun bk hbk => heap_setCell_other _ _ bk _ hbk
          refine ⟨rfl, ⟨Below.setCell HL4.out (by simpa using h0f) _, cell_keep HK4.out.1 (hne Ba hfa), cell_keep HK4.out.2.1 (hne Bb hfb), ?_, ⟨_, World.cell?_setCell_same _ _ _ c6, ?_, ?_, ?_⟩, fun p hp => ⟨(HPF.out p hp).1, ?_⟩⟩, fun p hp => ?_⟩
          · have := HS4.out; have := HS2.out; have := HAW.out; simp; omega
          · rw [World.frozen?_setCell]; exact HK4.out.2.2
          · rw [HF2.out]
            exact ownsRow_keepS HO4.out fun bk hbk => hne bk (by have := (HG4.out bk hbk).1; omega)
          · intro p hp e
            exact HGF.out p hp (Option.some.inj e)
          · have := (HPF.out p hp).2; have := HS4.out; have := HS2.out; simp; omega
          · exact (hne p (by have := (HPF.out p hp).1; omega)).trans (HPK.out p hp)
    · have hbe : (r == a) = false := beq_eq_false_iff_ne.2 hra
      have HF2 := hid (show (done ++ [(x, y, z, t)]).filter (isSolQ a b) = L by rw [HFS.out, HSQ.out, decide_eq_false hra]; simp)
      clear hra
      go_enter Try.func112, Try.ntmps112
      go_wp2_with fail
      generalize w.alloc (.cells #[.int .i64 x, .int .i64 y, .int .i64 z, .int .i64 t] 69) = w1 at c0 c1 c2 c3 ca cb cf ff HO HL HLA HWA ⊢
      rw [HCE.out] at c0 c1 c2 c3 ⊢
      go_region_held3 (fun w' => w'.cell? ⟨C, 0, none⟩ = some (.int .i64 x) ∧ w'.cell? ⟨C, 1, none⟩ = some (.int .i64 y) ∧ w'.cell? ⟨C, 2, none⟩ = some (.int .i64 z) ∧ w'.cell? ⟨C, 3, none⟩ = some (.int .i64 t) ∧ w'.cell? ⟨Ba, 0, none⟩ = some (.int .i64 a) ∧ w'.cell? ⟨Bb, 0, none⟩ = some (.int .i64 b)) (first | exact ⟨c0, c1, c2, c3, ca, cb⟩ | exact ⟨d0, d1, d2, d3, d4, d5⟩) (first | (go_at_call 74; refine (factorFor_any x y z t b _ HQ.out HBB.out).mono ?_; rw [HR.out]; rintro e w2 ⟨rfl, hL2⟩; have hL2' := (Later.drew w1).trans hL2; have HL2 := hid hL2'; have d0 := hL2'.cell c0; have d1 := hL2'.cell c1; have d2 := hL2'.cell c2; have d3 := hL2'.cell c3; have d4 := hL2'.cell ca; have d5 := hL2'.cell cb; have d6 := hL2'.cell cf; have d7 := hL2'.frozen cf ff; clear hL2 hL2'))
      all_goals
        have HL3 := hid (HL.out.trans HL2.out)
        have HO3 := hid (HO.out.later HL2.out)
        have HW2 := hid (HLA.out.trans HL2.out)
        have HK4 := hid (show w2.cell? ⟨Ba, 0, none⟩ = some (.int .i64 a) ∧ w2.cell? ⟨Bb, 0, none⟩ = some (.int .i64 b) ∧ w2.frozen? ⟨Bf, 0, none⟩ = false ∧ w2.cell? ⟨Bf, 0, none⟩ = some (.slice va L.length vc) from ⟨d4, d5, d7, d6⟩)
        clear c0 c1 c2 c3 ca cb cf ff d0 d1 d2 d3 d4 d5 d6 d7
        go_wp2_with fail
        refine bodyPost_end (v := .tuple #[]) ?_ rfl ?_
        · simp [results, Try.results112, go_sem]
        · exact ⟨rfl, ⟨HL3.out, HK4.out.1, HK4.out.2.1, Nat.le_trans HLT.out HW2.out.size, ⟨_, HK4.out.2.2.2, HK4.out.2.2.1, by rw [HF2.out]; exact HO3.out, HVP.out⟩, fun p hp => ⟨(HPF.out p hp).1, Nat.lt_of_lt_of_le (HPF.out p hp).2 HW2.out.size⟩⟩, fun p hp => HW2.out.block p (HPF.out p hp).2⟩
  · intro P done w o hI
    obtain ⟨hL, ca, cb, hlt, ⟨v, cf, ff, ho, hvp⟩, hpf⟩ := hI
    have hA := Later.alloc w o
    refine ⟨hL.trans hA, hA.cell ca, hA.cell cb, by simp; omega, ⟨v, hA.cell cf, hA.frozen cf ff, ho.later hA, fun p hp e => ?_⟩, fun p hp => ?_⟩
    · rcases hp with hp | hp
      · exact hvp p hp e
      · have := (ho.ltb e).2; omega
    · rcases hp with hp | hp
      · have := hpf p hp; simp; omega
      · simp; omega
  · intro P done w bk k u hI hp
    obtain ⟨hL, ca, cb, hlt, ⟨v, cf, ff, ho, hvp⟩, hpf⟩ := hI
    have h1 := hpf bk hp
    have hne : ∀ b', b' ≠ bk → (w.setCell ⟨bk, k, none⟩ u).heap[b']? = w.heap[b']? := fun b' hb' => heap_setCell_other _ _ b' _ hb'
    refine ⟨Below.setCell hL (by show w0.heap.size ≤ bk; omega) _, cell_keep ca (hne Ba (by omega)), cell_keep cb (hne Bb (by omega)), by simpa using hlt, ⟨v, cell_keep cf (hne Bf (by omega)), (World.frozen?_of_block (hne Bf (by omega))).trans ff, ownsRow_keepS ho fun b' hb' => hne b' (fun e => hvp bk hp (by rw [← e]; exact hb')), hvp⟩, fun p hp => by simpa using hpf p hp⟩
  · intro P P' done w hI hPP
    obtain ⟨hL, ca, cb, hlt, ⟨v, cf, ff, ho, hvp⟩, hpf⟩ := hI
    exact ⟨hL, ca, cb, hlt, ⟨v, cf, ff, ho, fun p hp => hvp p (hPP p hp)⟩, fun p hp => hpf p (hPP p hp)⟩


def foundQ (parts a b most : Int) : List So := ((visP parts.toNat [] most.toNat).map toSo).filter (isSolQ a b)
theorem vis_ok {m : Nat} {most : Nat} (hm : m = 3 ∨ m = 4) (hmo : most ≤ 40) {l : List Int} (h : l ∈ visP m [] most) : (l.length = 3 ∨ l.length = 4) ∧ fallB 100000 l = true ∧ ∃ x y z t, l = qL x y z t ∧ Q4 x y z t := by
  obtain ⟨suf, e, hs, hf⟩ := visP_mem m [] most l h
  simp only [List.nil_append] at e
  subst e
  have hf2 := fallB_mono (show (most : Int) ≤ 100000 by omega) hf
  refine ⟨by omega, hf2, ?_⟩
  exact q4_of (fallB_in5 (by omega) hf2) (by omega)
theorem foundQ_map {parts a b most : Int} (h : taskB parts a b most = true) : (foundQ parts a b most).map soL = allS parts a b most := by
  obtain ⟨hp, hg, h1, h2⟩ := taskB_iff.1 h
  have hg' := givenB_iff.1 hg
  unfold foundQ allS allF
  have key : ∀ L : List (List Int), (∀ l ∈ L, l ∈ visP parts.toNat [] most.toNat) → ((L.map toSo).filter (isSolQ a b)).map soL = L.filter (fun l => solB l a b) := by
    intro L
    induction L with
    | nil => intro _; rfl
    | cons l L ih =>
      intro hL
      have ih' := ih (fun l hl => hL l (by simp [hl]))
      obtain ⟨hlen, hf, x, y, z, t, e, hq⟩ := vis_ok (by omega) (by omega) (hL l (by simp))
      have hsl : soL (toSo l) = l := by rw [e, toSo_qL]; rfl
      have hb : isSolQ a b (toSo l) = solB l a b := by
        unfold isSolQ solB
        rw [hsl, lenB_iff.2 hlen, hf, Bool.true_and, Bool.true_and]
        exact decide_eq_decide.2 ((facL_eq l a (by omega) _ (fallB_in5 (by omega) hf)).trans (by omega))
      simp only [List.map_cons, List.filter_cons, hb]
      split
      · simp only [List.map_cons, hsl, ih']
      · exact ih'
  exact key _ (fun l hl => hl)
theorem taskB_split (parts a b most : Int) : taskB parts a b most = ((within 3 4 parts && within 1 40 most) && within 1 20 a && within (-50) 50 b) := by
  unfold taskB givenB
  cases within 3 4 parts <;> cases within 1 20 a <;> cases within (-50) 50 b <;> cases within 1 40 most <;> rfl
theorem isTried_any (parts most : Int) (w : World) : Calls Try.prog 70 #[.int .i64 parts, .int .i64 most] w fun e w' => e = .returned (.bool (within 3 4 parts && within 1 40 most)) ∧ w = w' := by
  cases h1 : within 3 4 parts
  · have H1 := hid h1
    clear h1
    go_enter Try.func70, Try.ntmps70
    go_wp2_with fail
    refine (isPartCount_any parts _).mono ?_
    rw [H1.out]
    rintro e w' ⟨rfl, rfl⟩
    go_wp2_with fail
    go_ret
    exact ⟨rfl, rfl⟩
  · have H1 := hid h1
    clear h1
    by_cases h2 : 1 ≤ most
    · have hd : decide (1 ≤ most) = true := decide_eq_true h2
      have HE := hid (show within 1 40 most = decide (most ≤ 40) by unfold within; rw [hd]; rfl)
      go_enter Try.func70, Try.ntmps70
      go_wp2_with fail
      refine (isPartCount_any parts _).mono ?_
      rw [H1.out]
      rintro e w' ⟨rfl, rfl⟩
      go_wp2_with fail
      go_ret
      exact ⟨ret_bool (by rw [HE.out]; rfl), rfl⟩
    · have hd : decide (1 ≤ most) = false := decide_eq_false h2
      have HE := hid (show within 1 40 most = false by unfold within; rw [hd]; rfl)
      go_enter Try.func70, Try.ntmps70
      go_wp2_with fail
      refine (isPartCount_any parts _).mono ?_
      rw [H1.out]
      rintro e w' ⟨rfl, rfl⟩
      go_wp2_with fail
      go_ret
      exact ⟨ret_bool (by rw [HE.out]; rfl), rfl⟩
def SolsRes (w : World) (o : Option (List So)) (e : Ending) (w' : World) : Prop := ∃ v, e = .returned (.tuple #[v, .bool o.isSome]) ∧ OwnSols w.heap.size w' v (o.getD []) ∧ Later w w'
def solQ (parts a b most : Int) : Option (List So) := if taskB parts a b most = true ∧ (foundQ parts a b most).length ≤ 500 then some (foundQ parts a b most) else none
theorem solQ_map (parts a b most : Int) : (solQ parts a b most).map (fun L => L.map soL) = solsAns parts a b most := by
  unfold solQ solsAns
  by_cases h : taskB parts a b most = true
  · have e := foundQ_map h
    have hl : (foundQ parts a b most).length = (allS parts a b most).length := by rw [← e, List.length_map]
    by_cases h5 : (foundQ parts a b most).length ≤ 500
    · rw [if_pos ⟨h, h5⟩, if_pos ⟨h, by omega⟩, Option.map_some, e]
    · rw [if_neg (fun hh => h5 hh.2), if_neg (fun hh => h5 (by omega))]; rfl
  · rw [if_neg (fun hh => h hh.1), if_neg (fun hh => h hh.1)]; rfl
theorem ownSols_nil (lo : Nat) (w : World) : OwnSols lo w (.slice none 0 0) [] := World.ownsRow_nil _ _ _ _

set_option maxRecDepth 20000 in
set_option maxHeartbeats 2000000 in
theorem solutionsUpTo_any (parts a b most : Int) (w : World) : Calls Try.prog 63 #[.int .i64 parts, .int .i64 a, .int .i64 b, .int .i64 most] w fun e w' => SolsRes w (solQ parts a b most) e w' := by
  have hA := (Later.alloc w (.cells #[.int .i64 a] 3)).trans (Later.alloc _ (.cells #[.int .i64 b] 3))
  have HL := hid hA
  have hca : ((w.alloc (.cells #[.int .i64 a] 3)).alloc (.cells #[.int .i64 b] 3)).cell? ⟨w.heap.size, 0, none⟩ = some (.int .i64 a) := by simp [go_sem]
  have hcb : ((w.alloc (.cells #[.int .i64 a] 3)).alloc (.cells #[.int .i64 b] 3)).cell? ⟨w.heap.size + 1, 0, none⟩ = some (.int .i64 b) := by simp [go_sem]
  have HSZ := hid (show ((w.alloc (.cells #[.int .i64 a] 3)).alloc (.cells #[.int .i64 b] 3)).heap.size = w.heap.size + 1 + 1 by simp)
  clear hA
  have HSP := hid (taskB_split parts a b most)
  cases h1 : (within 3 4 parts && within 1 40 most)
  · have H1 := hid h1
    have HA := hid (show solQ parts a b most = none by unfold solQ; rw [if_neg (by rw [HSP.out, h1]; simp)])
    clear h1
    go_enter Try.func63, Try.ntmps63
    go_wp2_with fail
    generalize (w.alloc (.cells #[.int .i64 a] 3)).alloc (.cells #[.int .i64 b] 3) = w1 at HL hca hcb HSZ ⊢
    refine (isTried_any parts most _).mono ?_
    rw [H1.out]
    rintro e w' ⟨rfl, rfl⟩
    go_wp2_with fail
    go_ret2
    rw [HA.out]
    exact ⟨_, rfl, ownSols_nil _ _, HL.out⟩
  · have H1 := hid h1
    cases h2 : within 1 20 a
    · have H2 := hid h2
      have HA := hid (show solQ parts a b most = none by unfold solQ; rw [if_neg (by rw [HSP.out, h2]; simp)])
      clear h1 h2
      go_enter Try.func63, Try.ntmps63
      go_wp2_with fail
      generalize (w.alloc (.cells #[.int .i64 a] 3)).alloc (.cells #[.int .i64 b] 3) = w1 at HL hca hcb HSZ ⊢
      refine (isTried_any parts most _).mono ?_
      rw [H1.out]
      rintro e w' ⟨rfl, rfl⟩
      go_wp2_with fail
      refine (isFactor_any a _).mono ?_
      rw [H2.out]
      rintro e w' ⟨rfl, rfl⟩
      go_wp2_with fail
      go_ret2
      rw [HA.out]
      exact ⟨_, rfl, ownSols_nil _ _, HL.out⟩
    · have H2 := hid h2
      cases h3 : within (-50) 50 b
      · have H3 := hid h3
        have HA := hid (show solQ parts a b most = none by unfold solQ; rw [if_neg (by rw [HSP.out, h3]; simp)])
        clear h1 h2 h3
        go_enter Try.func63, Try.ntmps63
        go_wp2_with fail
        generalize (w.alloc (.cells #[.int .i64 a] 3)).alloc (.cells #[.int .i64 b] 3) = w1 at HL hca hcb HSZ ⊢
        obtain ⟨z0, hz0⟩ : ∃ z, w.heap.size = z := ⟨_, rfl⟩
        rw [hz0] at hca hcb ⊢
        clear hz0
        refine (isTried_any parts most _).mono ?_
        rw [H1.out]
        rintro e w' ⟨rfl, rfl⟩
        go_wp2_with fail
        refine (isFactor_any a _).mono ?_
        rw [H2.out]
        rintro e w' ⟨rfl, rfl⟩
        go_wp2_with fail
        refine (isRest_any b _).mono ?_
        rw [H3.out]
        rintro e w' ⟨rfl, rfl⟩
        go_wp2_with fail
        go_ret2
        rw [HA.out]
        exact ⟨_, rfl, ownSols_nil _ _, HL.out⟩
      · have H3 := hid h3
        have ht : taskB parts a b most = true := by rw [HSP.out, h1, h2, h3]; rfl
        obtain ⟨hp, hg, hm1, hm2⟩ := taskB_iff.1 ht
        obtain ⟨P, rfl⟩ : ∃ P : Nat, parts = (P : Int) := ⟨parts.toNat, by omega⟩
        obtain ⟨M, rfl⟩ : ∃ M : Nat, most = (M : Int) := ⟨most.toNat, by omega⟩
        have hP : P = 3 ∨ P = 4 := by omega
        have hM : M ≤ 40 := by omega
        have hbd := (givenB_iff.1 hg).2
        have HVO := hid (fun l (hl : l ∈ visP P [] M) => show Q4 (toSo l).1 (toSo l).2.1 (toSo l).2.2.1 (toSo l).2.2.2 by
          obtain ⟨_, _, x, y, z, t, e, hq⟩ := vis_ok hP hM hl
          rw [e, toSo_qL]; exact hq)
        have HF := hid (show ((visP P [] M).map toSo).filter (isSolQ a b) = foundQ P a b M from rfl)
        have hfl : (foundQ P a b M).length ≤ 2560000 := Nat.le_trans (List.length_filter_le _ _) (by rw [List.length_map]; exact Nat.le_trans (visP_len _ _ _ hM) (pow40 _ (by omega)))
        have HSQ := hid (show ∀ n, (foundQ P a b M).length = n → solQ P a b M = if n ≤ 500 then some (foundQ P a b M) else none from fun n hn => by
          unfold solQ
          rw [hn]
          by_cases h5 : n ≤ 500
          · rw [if_pos ⟨ht, h5⟩, if_pos h5]
          · rw [if_neg (fun hh => h5 hh.2), if_neg h5])
        obtain ⟨F, hFe⟩ : ∃ F, foundQ P a b M = F := ⟨_, rfl⟩
        rw [hFe] at HF hfl HSQ
        have HV := hid (solVisitor w (w.heap.size + 1 + 1 + 1) w.heap.size (w.heap.size + 1) (w.heap.size + 1 + 1) a b hbd (by omega) (by omega) (by omega) (by omega) (by omega) (by omega))
        have hB := Later.alloc ((w.alloc (.cells #[.int .i64 a] 3)).alloc (.cells #[.int .i64 b] 3)) (.cells #[.slice none 0 0] 72)
        have HINV := hid (show SolInv w (w.heap.size + 1 + 1 + 1) w.heap.size (w.heap.size + 1) (w.heap.size + 1 + 1) a b (fun _ => False) [] (((w.alloc (.cells #[.int .i64 a] 3)).alloc (.cells #[.int .i64 b] 3)).alloc (.cells #[.slice none 0 0] 72)) from
          ⟨HL.out.trans hB, hB.cell hca, hB.cell hcb, by simp, ⟨.slice none 0 0, by simp [go_sem], by simp [go_sem], ownSols_nil _ _, fun p hp => hp.elim⟩, fun p hp => hp.elim⟩)
        clear h1 h2 h3 ht hp hg hm1 hm2 hbd hFe hB
        go_enter Try.func63, Try.ntmps63
        go_wp2_with fail
        refine (isTried_any P M _).mono ?_
        rw [H1.out]
        rintro e w' ⟨rfl, rfl⟩
        go_wp2_with fail
        refine (isFactor_any a _).mono ?_
        rw [H2.out]
        rintro e w' ⟨rfl, rfl⟩
        go_wp2_with fail
        refine (isRest_any b _).mono ?_
        rw [H3.out]
        rintro e w' ⟨rfl, rfl⟩
        go_wp2_with fail
        generalize ((w.alloc (.cells #[.int .i64 a] 3)).alloc (.cells #[.int .i64 b] 3)).alloc (.cells #[.slice none 0 0] 72) = w1 at HINV ⊢
        refine (eachFalling_any Try.call112 HV.out P hP M w1 hM HVO.out (fun _ => False) HINV.out).mono ?_
        rintro e w2 ⟨rfl, hI2, _⟩
        obtain ⟨hL2, _, _, _, ⟨v, hcv, _, hov, _⟩, _⟩ := hI2
        rw [HF.out] at hov
        obtain ⟨va, vc, rfl, _⟩ := hov.shape
        have HO2 := hid (hov.base (show w.heap.size ≤ w.heap.size + 1 + 1 + 1 by omega))
        have HL2 := hid hL2
        clear hov hL2 hca hcb
        by_cases h5 : F.length ≤ 500
        · have HA := hid (show solQ P a b M = some F by rw [HSQ.out _ rfl, if_pos h5])
          have hd : decide ((500 : Int) < (F.length : Int)) = false := decide_eq_false (by omega)
          clear h5
          go_wp2_with fail
          go_ret2
          rw [HA.out]
          exact ⟨_, rfl, HO2.out, HL2.out⟩
        · have HA := hid (show solQ P a b M = none by rw [HSQ.out _ rfl, if_neg h5])
          have hd : decide ((500 : Int) < (F.length : Int)) = true := decide_eq_true (by omega)
          clear h5
          go_wp2_with fail
          go_ret2
          rw [HA.out]
          exact ⟨_, rfl, ownSols_nil _ _, HL2.out⟩
set_option maxRecDepth 20000 in
set_option maxHeartbeats 1000000 in
theorem implSolutionsUpTo_any (parts a b most : Int) (w : World) : Calls Try.prog 17 #[.int .i64 parts, .int .i64 a, .int .i64 b, .int .i64 most] w fun e w' => RowsAns w (solsAns parts a b most) e w' := by
  have HM := hid (solQ_map parts a b most)
  have HC := hid (solutionsUpTo_any parts a b most w)
  have hle : ∀ L, solQ parts a b most = some L → L.length ≤ 500 := fun L h => by
    unfold solQ at h
    split at h
    · rename_i hh; simp only [Option.some.injEq] at h; rw [← h]; exact hh.2
    · cases h
  obtain ⟨o, ho⟩ : ∃ o, solQ parts a b most = o := ⟨_, rfl⟩
  rw [ho] at HM HC
  simp only [ho] at hle
  clear ho
  cases o with
  | none =>
    have HA := hid (show solsAns parts a b most = none from HM.out.symm)
    clear hle
    go_enter Try.func17, Try.ntmps17
    go_wp2_with fail
    refine HC.out.mono ?_
    rintro e w1 ⟨v1, rfl, ho1, hL1⟩
    have HL1 := hid hL1
    clear hL1 ho1
    go_wp2_with fail
    go_ret2
    rw [HA.out]
    exact ⟨_, rfl, OwnRows.noneH _ _ _, HL1.out⟩
  | some L =>
    obtain ⟨R, hR⟩ : ∃ R, L.map soL = R := ⟨_, rfl⟩
    have HA := hid (show solsAns parts a b most = some R by rw [← hR]; exact HM.out.symm)
    have HR := hid hR
    have hL5 := hle L rfl
    clear hle hR
    go_enter Try.func17, Try.ntmps17
    go_wp2_with fail
    refine HC.out.mono ?_
    rintro e w1 ⟨v1, rfl, ho1, hL1⟩
    have ho1' : OwnSols w.heap.size w1 v1 L := ho1
    have HSO := hid (ho1'.sols (by omega))
    have HL1 := hid hL1
    clear hL1 ho1 ho1'
    go_wp2_with fail
    refine (listsOfS_any _ L _ (by omega) HSO.out).mono ?_
    rintro e w2 ⟨v2, rfl, ho2, hL2⟩
    rw [HR.out] at ho2
    obtain ⟨a2, c2, rfl, _⟩ := ho2.shape
    have HO2 := hid (ho2.wide HL1.out.size (Nat.le_refl _))
    have HL2 := hid (HL1.out.trans hL2)
    clear ho2 hL2
    go_wp2_with fail
    go_ret2
    rw [HA.out]
    exact ⟨_, rfl, HO2.out, HL2.out⟩
end Go.Proofs.Ytoaopmafokoaoaa
