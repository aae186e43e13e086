/- JkA, JkB, JkC: in one text. -/
import Derived.Test.YtdahhcigphhfdaaJpS
import Derived.Test.YtdahhcigphhfdaaJpM
import Derived.Test.YtdahhcigphhfdaaSrN
import Derived.Test.YtdahhcigphhfdaaPutZ
import Derived.Test.YtdahhcigphhfdaaJuU
namespace Go.Proofs.Ytdahhcigphhfdaa
open Go.RowKit


def ksL (c : Int) (L : List Jp2) : List Int := L.filterMap fun p => kOf p.1 p.2 c
theorem ksL_snoc (c : Int) (L : List Jp2) (p : Jp2) : ksL c (L ++ [p]) = ksL c L ++ (match kOf p.1 p.2 c with | none => [] | some k => [k]) := by
  unfold ksL
  rw [List.filterMap_append]
  congr 1
  cases h : kOf p.1 p.2 c <;> simp [h]
theorem ksL_len {c : Int} {L : List Jp2} {n : Nat} (h : L.length ≤ n) : (ksL c L).length ≤ n := Nat.le_trans (List.length_filterMap_le _ _) h
def ksSet (c : Int) (n : Nat) : List Int := Go.Lib.compact ((ksL c (gridJ n)).mergeSort fun x y => decide (x ≤ y))
theorem ksSet_rising (c : Int) (n : Nat) : RisingI (ksSet c n) := compactI_rising _ (by
  have h := List.pairwise_mergeSort (le := fun x y : Int => decide (x ≤ y)) (fun a b c h1 h2 => by simp at *; omega) (fun a b => by simp; omega) (ksL c (gridJ n))
  simpa using h)
theorem ksSet_mem (c : Int) (n : Nat) (x : Int) : x ∈ ksSet c n ↔ x ∈ ksL c (gridJ n) := by
  unfold ksSet
  rw [compactI_mem, List.mem_mergeSort]
def ksAns (c m : Int) : Option (List Int) := if (-1000 ≤ c ∧ c ≤ 1000) ∧ 0 ≤ m ∧ m ≤ 200 then some (ksSet c (m.toNat + 1)) else none
theorem ksSet_len (c : Int) {n : Nat} (h : n ≤ 201) : (ksSet c n).length ≤ 100000 := by
  unfold ksSet
  refine Nat.le_trans (compactI_len _) ?_
  rw [List.length_mergeSort]
  refine ksL_len ?_
  have := seenJ_len (n := n) (m := 0) (by omega) (by omega)
  rw [List.length_append] at this
  omega
/-- What the search keeps: the box of c, the box of the ks, what it holds. -/
def FoundK (w : World) (E F : Nat) (c : Int) (L : List Jp2) (wr : World) : Prop :=
  ∃ v, Box wr E (.int .i64 c) ∧ Box wr F v ∧ wr.ownsRow (F + 1) 3 1 v (ksL c L).length ((ksL c L).map (Value.int .i64)) ∧ E < F ∧ w.heap.size ≤ E ∧ Later w wr ∧ F + 1 ≤ wr.heap.size
theorem ownsInt_later {lo n : Nat} {w w' : World} {v : Value} {xs : List Value} (h : w.ownsRow lo 3 1 v n xs) (k : Later w w') : w'.ownsRow lo 3 1 v n xs := ownsRow_keep h fun b hb => k.block b (h.lt b hb).2
theorem ownsInt_shape {lo n : Nat} {w : World} {v : Value} {xs : List Value} (h : w.ownsRow lo 3 1 v n xs) : ∃ a cap, v = .slice a n cap ∧ n ≤ cap := by
  rcases h.2 with ⟨rfl, h0⟩ | ⟨g, cap, cur, rfl, hb, hg, hn, _⟩
  · exact ⟨none, 0, by rw [h0], by omega⟩
  · exact ⟨_, cap, rfl, by omega⟩
set_option maxRecDepth 20000 in
set_option maxHeartbeats 4000000 in
theorem foundK_any (w : World) (E F : Nat) (c : Int) (L : List Jp2) (x y : Int) (w0 : World) (hl : L.length ≤ 100000) (hI : FoundK w E F c L w0) :
    Calls Try.prog 79 #[.agg #[.int .i64 x, .int .i64 y], .pointer (some ⟨E, 0, none⟩), .pointer (some ⟨F, 0, none⟩)] w0 fun e w' => e = .returned (.tuple #[]) ∧ FoundK w E F c (L ++ [(x, y)]) w' := by
  obtain ⟨i0, hi, hz0, hz1, hz2⟩ := info_parts Try.infoInt
  obtain ⟨v, hE, hF, hO, hEF, hwE, hL, hFs⟩ := hI
  have HK := hid (fun w0 => implKOfPair_any x y c w0)
  have hA := Later.alloc w0 (.cells #[.int .i64 x, .int .i64 y] 84)
  have HE := hid (hE.later hA)
  have HF := hid (hF.later hA)
  have HO := hid (ownsInt_later hO hA)
  have HL := hid (hL.trans hA)
  have HB := hid (JBox.new w0 x y 84)
  have HS := hid (show F + 1 ≤ (w0.alloc (.cells #[.int .i64 x, .int .i64 y] 84)).heap.size by simp; omega)
  have HLF := hid (ksL_len (c := c) hl)
  have HFIL := hid (ksL_snoc c L (x, y))
  obtain ⟨o1, o2, rfl, _⟩ := ownsInt_shape hO
  obtain ⟨R, hR⟩ : ∃ R, ksL c L = R := ⟨_, rfl⟩
  rw [hR] at HO HF HLF HFIL
  clear hE hF hO hL hA hR hFs
  cases hk : kOf x y c with
  | none =>
    have HN := hid (show ksL c (L ++ [(x, y)]) = R by rw [HFIL.out]; simp [hk])
    rw [hk] at HK
    clear hk HFIL
    go_enter Try.func79, Try.ntmps79
    go_upto_region 1 with fail
    generalize w0.alloc (.cells #[.int .i64 x, .int .i64 y] 84) = w1 at HE HF HO HL HB HS ⊢
    obtain ⟨c0, c1, _, _⟩ := HB.out
    have e0 := HE.out.1
    go_wp2_with (go_at_call 19; refine (HK.out _).mono ?_; rintro e w2 ⟨rfl, rfl⟩; simp only [Option.getD_none, Option.isSome_none])
    refine bodyPost_end (v := .tuple #[]) ?_ rfl ⟨rfl, _, HE.out, HF.out, by rw [HN.out]; exact HO.out, hEF, hwE, HL.out, HS.out⟩
    simp [results, Try.results79, go_sem]
  | some k =>
    have HN := hid (show ksL c (L ++ [(x, y)]) = R ++ [k] by rw [HFIL.out]; simp [hk])
    rw [hk] at HK
    clear hk HFIL
    go_enter Try.func79, Try.ntmps79
    go_upto_region 1 with fail
    generalize w0.alloc (.cells #[.int .i64 x, .int .i64 y] 84) = w1 at HE HF HO HL HB HS ⊢
    obtain ⟨c0, c1, _, _⟩ := HB.out
    have e0 := HE.out.1
    obtain ⟨f0, ff0⟩ := HF.out
    have hlb := HLF.out
    have hA := Later.alloc w1 (.cells #[.int .i64 k] 3)
    have HO4 := hid (ownsInt_later HO.out hA)
    have HE4 := hid (HE.out.later hA)
    have HF4 := hid (HF.out.later hA)
    have HL4 := hid (HL.out.trans hA)
    have hCs : F + 1 ≤ w1.heap.size := HS.out
    clear hA
    go_wp2_with (first
      | (go_at_call 19; refine (HK.out _).mono ?_; rintro e w2 ⟨rfl, rfl⟩; simp only [Option.getD_some, Option.isSome_some])
      | (at_builtin; refine wpList_append_lies _ (by rfl) _ _ _ (by rfl) (F + 1) 3 i0 (.int .i64 0) 1 8 Try.underlying32 hi hz0 hz1 hz2 rfl (by omega) _ R.length (R.map (Value.int .i64)) (by rfl) (by exact HO4.out) ⟨w1.heap.size, 0, none⟩ 1 1 [.int .i64 k] (by rfl) (by rfl) (World.news_of_block (cs := #[.int .i64 k]) (t := 3) (fr := (0, 0)) (heap_alloc_new w1 _)) (by simp [Value.oneCell']) (by omega) (by unfold maxLen; omega) (by omega) (by simp; omega) (w1.heap.size + 1) (by simp) ?_))
    intro g' cap1 w9 hown9 hgrow hat hglt
    have HO9 := hid (show w9.ownsRow (F + 1) 3 1 (.slice (some ⟨g', 0, none⟩) (R.length + 1) cap1) (R ++ [k]).length ((R ++ [k]).map (Value.int .i64)) by
      rw [List.map_append, List.length_append]; exact hown9)
    have hfar : ∀ b, b ≤ F → w9.heap[b]? = (w1.alloc (.cells #[.int .i64 k] 3)).heap[b]? := fun b hb => hgrow.block b (by simp; omega) (fun e => by have := (HO4.out.lt b e.symm).1; omega)
    have HE9 := hid (HE4.out.keep (hfar E (by omega)))
    have HF9 := hid (HF4.out.keep (hfar F (by omega)))
    have HL9 := hid (show Later w w9 from HL4.out.grown hgrow (HL4.out.size) (fun b' hb' => by have := (HO4.out.lt b' hb').1; omega))
    have HS9 := hid (show F + 1 ≤ w9.heap.size by have := hgrow.size; simp at this; omega)
    clear hown9 hgrow hat c0 c1 f0 ff0 hCs hfar
    obtain ⟨f0, ff0⟩ := HF9.out
    go_wp2_with fail
    have HE10 := hid (show Box (w9.setCell ⟨F, 0, none⟩ (.slice (some ⟨g', 0, none⟩) (R.length + 1) cap1)) E (.int .i64 c) from HE9.out.keep (heap_setCell_other _ _ E _ (by simp; omega)))
    have HF10 := hid (show Box (w9.setCell ⟨F, 0, none⟩ (.slice (some ⟨g', 0, none⟩) (R.length + 1) cap1)) F (.slice (some ⟨g', 0, none⟩) (R.length + 1) cap1) from HF9.out.set _)
    have HO10 := hid (show (w9.setCell ⟨F, 0, none⟩ (.slice (some ⟨g', 0, none⟩) (R.length + 1) cap1)).ownsRow (F + 1) 3 1 (.slice (some ⟨g', 0, none⟩) (R.length + 1) cap1) (R ++ [k]).length ((R ++ [k]).map (Value.int .i64)) from ownsRow_keep HO9.out fun b hb => heap_setCell_other _ _ b _ (by have := (HO9.out.lt b hb).1; simp; omega))
    have HL10 := hid (show Later w (w9.setCell ⟨F, 0, none⟩ (.slice (some ⟨g', 0, none⟩) (R.length + 1) cap1)) from Below.setCell HL9.out (show w.heap.size ≤ F by omega) _)
    refine bodyPost_end (v := .tuple #[]) ?_ rfl ⟨rfl, _, HE10.out, HF10.out, by rw [HN.out]; exact HO10.out, hEF, hwE, HL10.out, by simpa using HS9.out⟩
    simp [results, Try.results79, go_sem]


theorem ownInts_nilK (lo hi : Nat) (w : World) : OwnInts lo hi w (.slice none 0 0) [] := ⟨World.ownsRow_nil _ _ _ _, fun b hb => by simp [Value.ownBlock] at hb⟩
theorem isLook_asK (k : Int) (b : Bool) (w : World) (h : decide (0 ≤ k ∧ k ≤ 200) = b) : Calls Try.prog 69 #[.int .i64 k] w fun e w' => e = .returned (.bool b) ∧ w = w' := by
  subst h; exact isLook_any k w
set_option maxRecDepth 20000 in
set_option maxHeartbeats 4000000 in
theorem implKsUpTo_any (c m : Int) (w : World) :
    Calls Try.prog 15 #[.int .i64 c, .int .i64 m] w fun e w' => IntsAns w (ksAns c m) e w' := by
  have HL := hid (Later.alloc w (.cells #[.int .i64 c] 3))
  have HX := hid (show Box (w.alloc (.cells #[.int .i64 c] 3)) w.heap.size (.int .i64 c) from ⟨by simp [go_sem], by simp [go_sem]⟩)
  by_cases h1 : -1000 ≤ c ∧ c ≤ 1000
  · have HC := hid (show decide (-1000 ≤ c ∧ c ≤ 1000) = true from decide_eq_true h1)
    by_cases h2 : 0 ≤ m ∧ m ≤ 200
    · have HM := hid (show decide (0 ≤ m ∧ m ≤ 200) = true from decide_eq_true h2)
      have HA := hid (show ksAns c m = some (ksSet c (m.toNat + 1)) from if_pos ⟨h1, h2⟩)
      obtain ⟨n, rfl⟩ : ∃ n : Nat, m = (n : Int) := ⟨m.toNat, by omega⟩
      rw [Int.toNat_natCast] at HA
      have hn : n ≤ 200 := by omega
      have HV := hid (fun (w' : World) (hb : FoundK w w.heap.size (w.heap.size + 1) c [] w') => eachUpTo_any 79 #[.pointer (some ⟨w.heap.size, 0, none⟩), .pointer (some ⟨w.heap.size + 1, 0, none⟩)] Try.call79 n hn (FoundK w w.heap.size (w.heap.size + 1) c)
        (fun L x y w0 _ _ _ hl hI => foundK_any w _ _ c L x y w0 hl hI) w' hb)
      have HI := hid (show FoundK w w.heap.size (w.heap.size + 1) c [] ((w.alloc (.cells #[.int .i64 c] 3)).alloc (.cells #[.slice none 0 0] 32)) from
        ⟨.slice none 0 0, ⟨by simp [go_sem], by simp [go_sem]⟩, ⟨by simp [go_sem], by simp [go_sem]⟩, World.ownsRow_nil _ _ _ _, by omega, Nat.le_refl _, (Later.alloc w _).trans (Later.alloc _ _), by simp⟩)
      have HLEN := hid (show (ksL c (gridJ (n + 1))).length ≤ 100000 from ksL_len (by have := seenJ_len (n := n + 1) (m := 0) (by omega) (by omega); rw [List.length_append] at this; omega))
      have HSET := hid (show ksSet c (n + 1) = Go.Lib.compact ((ksL c (gridJ (n + 1))).mergeSort fun x y => decide (x ≤ y)) from rfl)
      obtain ⟨K, hK⟩ : ∃ K, ksSet c (n + 1) = K := ⟨_, rfl⟩
      rw [hK] at HA HSET
      rw [HA.out]
      clear h1 h2 hK HA
      go_enter Try.func15, Try.ntmps15
      go_upto_region 1 with fail
      have c0 := HX.out.1
      go_wp2_with (first | (go_at_call 77; refine (isC_as _ _ _ HC.out).mono ?_; rintro e w2 ⟨rfl, rfl⟩) | (go_at_call 69; refine (isLook_asK _ _ _ HM.out).mono ?_; rintro e w2 ⟨rfl, rfl⟩))
      clear c0 HX
      generalize (w.alloc (.cells #[.int .i64 c] 3)).alloc (.cells #[.slice none 0 0] 32) = w1 at HI ⊢
      refine (HV.out _ HI.out).mono ?_
      rintro e w2 ⟨rfl, v, _, hF, hO, _, _, hL, hSz⟩
      obtain ⟨R, hR⟩ : ∃ R, ksL c (gridJ (n + 1)) = R := ⟨_, rfl⟩
      rw [hR] at hO HLEN HSET
      have HF := hid hF
      have HL2 := hid hL
      clear hL hR
      rcases id hO.2 with ⟨rfl, h0⟩ | ⟨b, cap, cur, rfl, hb, hbl, _, _⟩
      · have hR0 : R = [] := List.eq_nil_of_length_eq_zero h0
        have HK0 := hid (show K = [] by rw [HSET.out, hR0]; simp [Go.Lib.compact, Go.Lib.compactUpTo])
        clear hO h0 hR0
        obtain ⟨f0, _⟩ := hF
        go_wp2_with (first | (go_at_call 80; refine (sortNil_any _).mono ?_; rintro e w3 ⟨rfl, rfl⟩) | (go_at_call 81; refine (compactNil_any _).mono ?_; rintro e w3 ⟨rfl, rfl⟩))
        go_ret2
        rw [HK0.out]
        exact ⟨_, rfl, ownInts_nilK _ _ _, HL2.out⟩
      · have hZ : OwnZs (w.heap.size + 1 + 1) w2 b cap R := hO
        have HZ := hid hZ
        have HS := hid (sortZ_any b cap R w2 (by have := HLEN.out; omega) hZ)
        have HBb := hid (show w.heap.size + 1 + 1 ≤ b from hb)
        have HSL := hid (show (R.mergeSort fun x y => decide (x ≤ y)).length = R.length from List.length_mergeSort _)
        obtain ⟨Q, hQ⟩ : ∃ Q, R.mergeSort (fun x y => decide (x ≤ y)) = Q := ⟨_, rfl⟩
        rw [hQ] at HS HSL HSET
        have HCZ := hid (fun (w9 : World) (h9 : OwnZs (w.heap.size + 1 + 1) w9 b cap Q) => compactZ_any b cap Q w9 (by have := HLEN.out; have := HSL.out; omega) h9)
        rw [← HSET.out] at HCZ
        obtain ⟨q, hq⟩ : ∃ q, R.length = q := ⟨_, rfl⟩
        rw [HSL.out, hq] at HCZ
        rw [hq] at HS HF
        clear hO hZ hb hbl hQ hF
        obtain ⟨f0, _⟩ := HF.out
        clear hq
        go_wp2_with (go_at_call 80; refine HS.out.mono ?_; rintro e w6 ⟨rfl, hz6, hg6⟩; have HC6 := hid (HCZ.out w6 hz6); have HL6 := hid (show Later w w6 from Below.grown HL2.out hg6 HL2.out.size (fun j e => by have h1 := Option.some.inj e; have := HBb.out; omega)); have HF6 := hid (HF.out.keep (hg6.block (w.heap.size + 1) (by omega) (fun e => by have h1 := Option.some.inj e; have := HBb.out; omega))); clear hz6 hg6 f0; obtain ⟨g0, _⟩ := HF6.out)
        go_wp2_with (go_at_call 81; refine HC6.out.mono ?_; rintro e w7 ⟨rfl, hz7, hg7⟩)
        have HL7 := hid (show Later w w7 from Below.grown HL6.out hg7 HL6.out.size (fun j e => by have h1 := Option.some.inj e; have := HBb.out; omega))
        have HO7 := hid (show OwnInts w.heap.size w7.heap.size w7 (.slice (some ⟨b, 0, none⟩) K.length cap) K from ⟨ownsRow_base hz7 (by omega), fun k hk => (hz7.lt k hk).2⟩)
        clear hz7 hg7
        go_ret2
        exact ⟨_, rfl, HO7.out, HL7.out⟩
    · have HM := hid (show decide (0 ≤ m ∧ m ≤ 200) = false from decide_eq_false h2)
      have HA := hid (show ksAns c m = none from if_neg (fun h => h2 h.2))
      rw [HA.out]
      clear h1 h2 HA
      go_enter Try.func15, Try.ntmps15
      go_upto_region 1 with fail
      have c0 := HX.out.1
      generalize w.alloc (.cells #[.int .i64 c] 3) = w1 at HL c0 ⊢
      clear HX
      go_wp2_with (first | (go_at_call 77; refine (isC_as _ _ _ HC.out).mono ?_; rintro e w2 ⟨rfl, rfl⟩) | (go_at_call 69; refine (isLook_asK _ _ _ HM.out).mono ?_; rintro e w2 ⟨rfl, rfl⟩))
      go_ret2
      exact ⟨_, rfl, ownInts_nilK _ _ _, HL.out⟩
  · have HC := hid (show decide (-1000 ≤ c ∧ c ≤ 1000) = false from decide_eq_false h1)
    have HA := hid (show ksAns c m = none from if_neg (fun h => h1 h.1))
    rw [HA.out]
    clear h1 HA
    go_enter Try.func15, Try.ntmps15
    go_upto_region 1 with fail
    have c0 := HX.out.1
    generalize w.alloc (.cells #[.int .i64 c] 3) = w1 at HL c0 ⊢
    clear HX
    go_wp2_with (go_at_call 77; refine (isC_as _ _ _ HC.out).mono ?_; rintro e w2 ⟨rfl, rfl⟩)
    go_ret2
    exact ⟨_, rfl, ownInts_nilK _ _ _, HL.out⟩


theorem kOf_zero (x c : Int) : kOf x 0 c = none := if_neg (by omega)
theorem ksL_row1 (c : Int) (n : Nat) : ksL c (gridJ n ++ rowJ n 1) = ksL c (gridJ n) := by
  rw [show rowJ n 1 = [] ++ [((n : Int), ((0 : Nat) : Int))] from rfl, List.nil_append, ksL_snoc]
  rw [show kOf ((n : Int), ((0 : Nat) : Int)).1 ((n : Int), ((0 : Nat) : Int)).2 c = none from kOf_zero _ _]
  simp
theorem ksL_grid1 (c : Int) : ksL c (gridJ 1) = [] := by
  have : gridJ 1 = gridJ 0 ++ rowJ 0 1 := by rw [gridJ_succ]
  rw [this, ksL_row1]
  rfl
/-- What the model's list holds behind so many pairs. -/
def KsIn (c : Int) (L : List Jp2) (M : List Int) : Prop := RisingI M ∧ (∀ z, z ∈ M ↔ z ∈ ksL c L) ∧ M.length ≤ L.length
theorem KsIn.skip {c : Int} {L : List Jp2} {M : List Int} {p : Jp2} (h : KsIn c L M) (hk : kOf p.1 p.2 c = none) : KsIn c (L ++ [p]) M := by
  obtain ⟨h1, h2, h3⟩ := h
  refine ⟨h1, fun z => ?_, by simp; omega⟩
  rw [ksL_snoc, hk, h2]
  simp
theorem putZ_len (L : List Int) (x : Int) : (putZ L x).length ≤ L.length + 1 := by
  unfold putZ
  split
  · omega
  · have := putZk_le L x
    simp
    omega
theorem KsIn.put {c : Int} {L : List Jp2} {M : List Int} {p : Jp2} {k : Int} (h : KsIn c L M) (hk : kOf p.1 p.2 c = some k) : KsIn c (L ++ [p]) (putZ M k) := by
  obtain ⟨h1, h2, h3⟩ := h
  refine ⟨putZ_rising h1, fun z => ?_, ?_⟩
  · rw [ksL_snoc, hk, putZ_mem, h2]
    simp
  · have := putZ_len M k
    simp
    omega
theorem KsIn.done {c : Int} {n : Nat} {M : List Int} (h : KsIn c (gridJ n) M) : M = ksSet c n :=
  risingI_unique _ _ h.1 (ksSet_rising c n) fun z => by rw [h.2.1, ksSet_mem]
theorem kGiven1 (c m : Int) : puOk 1 c m = decide ((-1000 ≤ c ∧ c ≤ 1000) ∧ 0 ≤ m ∧ m ≤ 200) := by
  rw [Bool.eq_iff_iff, puOk_iff, juW_iff, decide_eq_true_iff]
  omega
set_option maxRecDepth 20000 in
set_option maxHeartbeats 4000000 in
theorem specKsUpTo_any (c m : Int) (w : World) :
    Calls Try.prog 16 #[.int .i64 c, .int .i64 m] w fun e w' => IntsAns w (ksAns c m) e w' := by
  cases hP : puOk 1 c m
  · have HP := hid hP
    have HA := hid (show ksAns c m = none from if_neg (by rw [kGiven1] at hP; exact of_decide_eq_false hP))
    rw [HA.out]
    clear hP HA
    go_enter Try.func16, Try.ntmps16
    go_wp2_with (go_at_call 72; refine (juTask_as _ _ _ _ _ HP.out).mono ?_; rintro e w2 ⟨rfl, rfl⟩)
    go_ret2
    exact ⟨_, rfl, ⟨World.ownsRow_nil _ _ _ _, fun b hb => by simp [Value.ownBlock] at hb⟩, Later.refl _⟩
  · have HP := hid hP
    have hcm := of_decide_eq_true ((kGiven1 c m).symm.trans hP)
    have HA := hid (show ksAns c m = some (ksSet c (m.toNat + 1)) from if_pos hcm)
    obtain ⟨N, rfl⟩ : ∃ n : Nat, m = (n : Int) := ⟨m.toNat, by omega⟩
    rw [Int.toNat_natCast] at HA
    have hN : N ≤ 200 := by omega
    obtain ⟨K, hK⟩ : ∃ K, ksSet c (N + 1) = K := ⟨_, rfl⟩
    have HK := hid hK
    rw [hK] at HA
    rw [HA.out]
    clear hP hK HA hcm
    go_enter Try.func16, Try.ntmps16
    go_wp2_with (go_at_call 72; refine (juTask_as _ _ _ _ _ HP.out).mono ?_; rintro e w2 ⟨rfl, rfl⟩)
    go_loopw [6, 7] (fun o i wr => ∃ (x : Nat) (M : List Int), 1 ≤ x ∧ x ≤ N + 1 ∧ i = .int .i64 x ∧ KsIn c (gridJ x) M ∧ wr.ownsRow w.heap.size 3 1 o M.length (M.map (Value.int .i64)) ∧ Later w wr) (fun _ i _ => N + 1 - (intOf i).toNat)
    case atStart => exact ⟨1, [], Nat.le_refl _, by omega, rfl, ⟨List.Pairwise.nil, fun z => by rw [ksL_grid1], Nat.zero_le _⟩, World.ownsRow_nil _ _ _ _, Later.refl _⟩
    case round =>
      obtain ⟨x, M, hx1, hx, rfl, hI, hO, hL⟩ := hrel
      have HI := hid hI
      have HO := hid hO
      have HL := hid hL
      obtain ⟨o1, o2, rfl, _⟩ := ownsInt_shape hO
      clear hO hL hI
      by_cases hlt : x < N + 1
      · have hlI : (x : Int) ≤ (N : Int) := by omega
        go_wp2_with fail
        go_loopw [6, 8] (fun o j wi => ∃ (y : Nat) (M : List Int), 1 ≤ y ∧ y ≤ x + 1 ∧ j = .int .i64 y ∧ KsIn c (gridJ x ++ rowJ x y) M ∧ wi.ownsRow w.heap.size 3 1 o M.length (M.map (Value.int .i64)) ∧ Later w wi) (fun _ j _ => x + 1 - (intOf j).toNat)
        case atStart => exact ⟨1, M, Nat.le_refl _, by omega, rfl, ⟨HI.out.1, fun z => by rw [ksL_row1]; exact HI.out.2.1 z, by have := HI.out.2.2; simp; omega⟩, HO.out, HL.out⟩
        case round =>
          clear HO HL HI
          obtain ⟨y, M, hy1, hy, rfl, hI, hO, hL⟩ := hrel
          have HI := hid hI
          have HO := hid hO
          have HL := hid hL
          have HROW := hid (show gridJ x ++ rowJ x (y + 1) = gridJ x ++ rowJ x y ++ [((x : Int), (y : Int))] by rw [rowJ_succ, List.append_assoc])
          have HSL := hid (show M.length ≤ 100000 from Nat.le_trans hI.2.2 (seenJ_len (n := x) (m := y) (by omega) (by omega)))
          obtain ⟨o1, o2, rfl, _⟩ := ownsInt_shape hO
          have HKP := hid (fun w0 => specKOfPair_any x y c w0)
          clear hO hL hI
          by_cases hyl : y < x + 1
          · have hyI : (y : Int) ≤ (x : Int) := by omega
            cases hk : kOf (x : Int) (y : Int) c with
            | none =>
              have HE := hid (show KsIn c (gridJ x ++ rowJ x (y + 1)) M by rw [HROW.out]; exact HI.out.skip hk)
              rw [hk] at HKP
              clear hk
              go_wp2_with (go_at_call 20; refine (HKP.out _).mono ?_; rintro e w2 ⟨rfl, rfl⟩; simp only [Option.getD_none, Option.isSome_none])
              go_roundw
              case rel => exact ⟨y + 1, M, by omega, hyl, by go_num, HE.out, HO.out, HL.out⟩
              case measure => simp [intOf]; omega
            | some k =>
              have HE := hid (show KsIn c (gridJ x ++ rowJ x (y + 1)) (putZ M k) by rw [HROW.out]; exact HI.out.put hk)
              rw [hk] at HKP
              have HPT := hid (l1Put_any w.heap.size (.slice o1 M.length o2) M k wr HL.out.size (by have := HSL.out; omega) HO.out)
              clear hk
              go_wp2_with (first | (go_at_call 20; refine (HKP.out _).mono ?_; rintro e w2 ⟨rfl, rfl⟩; simp only [Option.getD_some, Option.isSome_some]) | (go_at_call 82; refine HPT.out.mono ?_; rintro e w2 ⟨v2, rfl, ho2, hL2⟩; have HO2 := hid ho2; have HL2 := hid (HL.out.trans hL2); clear ho2 hL2))
              go_roundw
              case rel => exact ⟨y + 1, putZ M k, by omega, hyl, by go_num, HE.out, HO2.out, HL2.out⟩
              case measure => simp [intOf]; omega
          · obtain rfl : y = x + 1 := by omega
            have hyI : ¬ ((x + 1 : Nat) : Int) ≤ (x : Int) := by omega
            go_wp2_with fail
            go_roundw
            case rel => exact ⟨x + 1, M, by omega, hlt, by go_num, by rw [gridJ_succ]; exact HI.out, HO.out, HL.out⟩
            case measure => simp [intOf]; omega
      · obtain rfl : x = N + 1 := by omega
        have hlI : ¬ ((N + 1 : Nat) : Int) ≤ (N : Int) := by omega
        have HE := hid (show M = K by rw [← HK.out]; exact HI.out.done)
        go_wp2_with fail
        go_ret2
        rw [← HE.out]
        exact ⟨_, rfl, ⟨HO.out, fun b hb => (HO.out.lt b hb).2⟩, HL.out⟩
end Go.Proofs.Ytdahhcigphhfdaa
