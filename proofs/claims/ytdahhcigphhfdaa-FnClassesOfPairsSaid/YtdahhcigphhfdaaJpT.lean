/- Pairs up to a bound (the program): pairsUpTo, PairsUpTo. -/
import Derived.Test.YtdahhcigphhfdaaJpS
namespace Go.Proofs.Ytdahhcigphhfdaa
open Go.RowKit

/-- What the search keeps: the equation's box, the box of what was found, what it holds. -/
def FoundJ (w : World) (E F : Nat) (ev : Value) (P : Jp2 → Bool) (L : List Jp2) (wr : World) : Prop :=
  ∃ v, Box wr E ev ∧ Box wr F v ∧ OwnJps (F + 1) wr v (L.filter P) ∧ E < F ∧ w.heap.size ≤ E ∧ Later w wr ∧ F + 1 ≤ wr.heap.size
section jt
variable {T : TypeId} {m : Value} {Ks : FuncId} {S : Int → Int → Bool}
set_option maxRecDepth 20000 in
set_option maxHeartbeats 4000000 in
theorem found_any (EQ : EqS T m Ks S) (w : World) (E F : Nat) (L : List Jp2) (x y : Int) (w0 : World) (h1 : 0 ≤ y) (h2 : y ≤ x) (h3 : x ≤ 200) (hl : L.length ≤ 100000) (hI : FoundJ w E F (.iface T m) (fun p => S p.1 p.2) L w0) :
    Calls Try.prog 135 #[.agg #[.int .i64 x, .int .i64 y], .pointer (some ⟨E, 0, none⟩), .pointer (some ⟨F, 0, none⟩)] w0 fun e w' => e = .returned (.tuple #[]) ∧ FoundJ w E F (.iface T m) (fun p => S p.1 p.2) (L ++ [(x, y)]) w' := by
  obtain ⟨i0, hi, hz0, hz1, hz2⟩ := info_parts Try.infoJp
  obtain ⟨v, hE, hF, hO, hEF, hwE, hL, hFs⟩ := hI
  have hm := EQ.ms
  have he := EQ.es
  have HCC := hid (fun w0 => EQ.cs x y w0 (juN_iff.2 ⟨h1, h2, by omega⟩))
  have hA := Later.alloc w0 (.cells #[.int .i64 x, .int .i64 y] 84)
  have HE := hid (hE.later hA)
  have HF := hid (hF.later hA)
  have HO := hid (hO.later hA)
  have HL := hid (hL.trans hA)
  have HB := hid (JBox.new w0 x y 84)
  have HS := hid (show F + 1 ≤ w0.heap.size from hFs)
  have HLF := hid (filter_len_le (P := fun p => S p.1 p.2) L hl)
  have HFIL := hid (filter_snocJ (fun p : Jp2 => S p.1 p.2) L (x, y))
  obtain ⟨o1, o2, rfl, _⟩ := hO.shape
  obtain ⟨R, hR⟩ : ∃ R, L.filter (fun p => S p.1 p.2) = R := ⟨_, rfl⟩
  rw [hR] at HO HF HLF HFIL
  clear hE hF hO hL hA hR hFs
  cases hS : S x y
  · rw [hS] at HCC
    have HN := hid (show (L ++ [(x, y)]).filter (fun p => S p.1 p.2) = R by rw [HFIL.out]; simp [hS])
    clear hS EQ
    go_enter Try.func135, Try.ntmps135
    go_upto_region 1 with fail
    generalize w0.alloc (.cells #[.int .i64 x, .int .i64 y] 84) = w1 at HE HF HO HL HB ⊢
    obtain ⟨c0, c1, _, _⟩ := HB.out
    have e0 := HE.out.1
    go_wp2_with fail
    refine (HCC.out _).mono ?_
    rintro e w3 ⟨rfl, hL3⟩
    have HE3 := hid (HE.out.later hL3)
    have HF3 := hid (HF.out.later hL3)
    have HO3 := hid (HO.out.later hL3)
    have HL3 := hid (HL.out.trans hL3)
    have HS3 := hid (show F + 1 ≤ w3.heap.size from Nat.lt_of_lt_of_le HF.out.lt hL3.size)
    clear hL3 hm he e0 c0 c1
    go_wp2_with fail
    refine bodyPost_end (v := .tuple #[]) ?_ rfl ⟨rfl, _, HE3.out, HF3.out, by rw [HN.out]; exact HO3.out, hEF, hwE, HL3.out, HS3.out⟩
    simp [results, Try.results135, go_sem]
  · rw [hS] at HCC
    have HN := hid (show (L ++ [(x, y)]).filter (fun p => S p.1 p.2) = R ++ [(x, y)] by rw [HFIL.out]; simp [hS])
    clear hS EQ
    go_enter Try.func135, Try.ntmps135
    go_upto_region 1 with fail
    have HSB := hid (show w0.heap.size < (w0.alloc (.cells #[.int .i64 x, .int .i64 y] 84)).heap.size by simp)
    generalize w0.alloc (.cells #[.int .i64 x, .int .i64 y] 84) = w1 at HE HF HO HL HB HSB ⊢
    obtain ⟨B, hB⟩ : ∃ B, w0.heap.size = B := ⟨_, rfl⟩
    rw [hB] at HB HS HSB ⊢
    clear hB
    obtain ⟨c0, c1, _, _⟩ := HB.out
    have e0 := HE.out.1
    go_wp2_with fail
    refine (HCC.out _).mono ?_
    rintro e w3 ⟨rfl, hL3⟩
    have HE3 := hid (HE.out.later hL3)
    have HF3 := hid (HF.out.later hL3)
    have HO3 := hid (HO.out.later hL3)
    have HL3 := hid (HL.out.trans hL3)
    have HB3 := hid (HB.out.later hL3)
    have HS3 := hid (show F + 1 ≤ w3.heap.size from Nat.lt_of_lt_of_le HF.out.lt hL3.size)
    clear hL3 hm he e0 c0 c1
    obtain ⟨c0, c1, _, _⟩ := HB3.out
    obtain ⟨f0, ff0⟩ := HF3.out
    have hlb := HLF.out
    have hA := Later.alloc w3 (.cells #[.int .i64 x, .int .i64 y] 84)
    have HO4 := hid (HO3.out.later hA)
    have HE4 := hid (HE3.out.later hA)
    have HF4 := hid (HF3.out.later hA)
    have HL4 := hid (HL3.out.trans hA)
    have hCs : F + 1 ≤ w3.heap.size := HS3.out
    clear hA
    go_wp2_with (at_builtin; refine wpList_append_lies _ (by rfl) _ _ _ (by rfl) (F + 1) 84 i0 (.agg #[.int .i64 0, .int .i64 0]) 2 16 Try.underlying78 hi hz0 hz1 hz2 rfl (by omega) _ R.length (jpCells R) (by rfl) (by exact HO4.out) ⟨w3.heap.size, 0, none⟩ 1 1 [.int .i64 x, .int .i64 y] (by rfl) (by rfl) (World.news_of_block (cs := #[.int .i64 x, .int .i64 y]) (t := 84) (fr := (0, 0)) (heap_alloc_new w3 _)) (by simp [Value.oneCell']) (by omega) (by unfold maxLen; omega) (by omega) (by simp; omega) (w3.heap.size + 1) (by simp) ?_)
    intro g' cap1 w9 hown9 hgrow hat hglt
    have HO9 := hid (show OwnJps (F + 1) w9 (.slice (some ⟨g', 0, none⟩) (R.length + 1) cap1) (R ++ [(x, y)]) by
      unfold OwnJps; rw [jpCells_snoc, List.length_append]; exact hown9)
    have hfar : ∀ b, b ≤ F → w9.heap[b]? = (w3.alloc (.cells #[.int .i64 x, .int .i64 y] 84)).heap[b]? := fun b hb => hgrow.block b (by simp; omega) (fun e => by have := (HO4.out.lt b e.symm).1; omega)
    have HE9 := hid (HE4.out.keep (hfar E (by omega)))
    have HF9 := hid (HF4.out.keep (hfar F (by omega)))
    have HL9 := hid (show Later w w9 from HL4.out.grown hgrow (HL4.out.size) (fun b' hb' => by have := (HO4.out.lt b' hb').1; omega))
    have HS9 := hid (show F + 1 ≤ w9.heap.size by have := hgrow.size; simp at this; omega)
    clear hown9 hgrow hat c0 c1 f0 ff0 hCs hfar
    obtain ⟨f0, ff0⟩ := HF9.out
    go_wp2_with fail
    have HE10 := hid (show Box (w9.setCell ⟨F, 0, none⟩ (.slice (some ⟨g', 0, none⟩) (R.length + 1) cap1)) E (.iface T m) from HE9.out.keep (heap_setCell_other _ _ E _ (by simp; omega)))
    have HF10 := hid (show Box (w9.setCell ⟨F, 0, none⟩ (.slice (some ⟨g', 0, none⟩) (R.length + 1) cap1)) F (.slice (some ⟨g', 0, none⟩) (R.length + 1) cap1) from HF9.out.set _)
    have HO10 := hid (show OwnJps (F + 1) (w9.setCell ⟨F, 0, none⟩ (.slice (some ⟨g', 0, none⟩) (R.length + 1) cap1)) (.slice (some ⟨g', 0, none⟩) (R.length + 1) cap1) (R ++ [(x, y)]) from ownsRow_keepJ HO9.out fun b hb => heap_setCell_other _ _ b _ (by have := (HO9.out.lt b hb).1; simp; omega))
    have HL10 := hid (show Later w (w9.setCell ⟨F, 0, none⟩ (.slice (some ⟨g', 0, none⟩) (R.length + 1) cap1)) from Below.setCell HL9.out (show w.heap.size ≤ F by omega) _)
    refine bodyPost_end (v := .tuple #[]) ?_ rfl ⟨rfl, _, HE10.out, HF10.out, by rw [HN.out]; exact HO10.out, hEF, hwE, HL10.out, by simpa using HS9.out⟩
    simp [results, Try.results135, go_sem]
set_option maxRecDepth 20000 in
set_option maxHeartbeats 2000000 in
theorem pairsUpToI_any (EQ : EqS T m Ks S) (N : Nat) (hN : N ≤ 200) (w : World) :
    Calls Try.prog 71 #[.iface T m, .int .i64 N] w fun e w' => JpRun w ((gridJ (N + 1)).filter fun p => S p.1 p.2) e w' := by
  have HV := hid (fun (w' : World) (hb : FoundJ w w.heap.size (w.heap.size + 1) (.iface T m) (fun p => S p.1 p.2) [] w') => eachUpTo_any 135 #[.pointer (some ⟨w.heap.size, 0, none⟩), .pointer (some ⟨w.heap.size + 1, 0, none⟩)] Try.call135 N hN (FoundJ w w.heap.size (w.heap.size + 1) (.iface T m) fun p => S p.1 p.2)
    (fun L x y w0 h1 h2 h3 hl hI => found_any EQ w _ _ L x y w0 h1 h2 (by omega) hl hI) w' hb)
  have HI := hid (show FoundJ w w.heap.size (w.heap.size + 1) (.iface T m) (fun p => S p.1 p.2) [] ((w.alloc (.cells #[.iface T m] 129)).alloc (.cells #[.slice none 0 0] 78)) from
    ⟨.slice none 0 0, ⟨by simp [go_sem], by simp [go_sem]⟩, ⟨by simp [go_sem], by simp [go_sem]⟩, OwnJps.nil _ _, by omega, Nat.le_refl _, later2 _ _ _, by simp⟩)
  obtain ⟨R, hR⟩ : ∃ R, (gridJ (N + 1)).filter (fun p => S p.1 p.2) = R := ⟨_, rfl⟩
  have HR := hid hR
  rw [hR]
  clear hR EQ
  go_enter Try.func71, Try.ntmps71
  go_wp2_with fail
  generalize (w.alloc (.cells #[.iface T m] 129)).alloc (.cells #[.slice none 0 0] 78) = w1 at HI ⊢
  refine (HV.out _ HI.out).mono ?_
  rintro e w2 ⟨rfl, v, hE, hF, hO, _, _, hL, _⟩
  rw [HR.out] at hO
  have HF := hid hF
  have HO := hid hO
  have HL := hid hL
  obtain ⟨o1, o2, rfl, _⟩ := hO.shape
  obtain ⟨f0, _⟩ := hF
  clear hE hO hL
  go_wp2_with fail
  go_ret
  exact ⟨_, rfl, HO.out.base (by omega), HL.out⟩
end jt
theorem isWithin_noneed {k c m : Int} (h : puOk k c m = false) : juW k c = false ∨ (juW k c = true ∧ ¬ (0 ≤ m ∧ m ≤ 200)) := by
  cases hW : juW k c
  · exact .inl rfl
  · refine .inr ⟨rfl, fun hh => ?_⟩
    rw [puOk_iff.2 ⟨hW, hh⟩] at h
    cases h
theorem isLook_as (k : Int) (b : Bool) (w : World) (h : decide (0 ≤ k ∧ k ≤ 200) = b) : Calls Try.prog 69 #[.int .i64 k] w fun e w' => e = .returned (.bool b) ∧ w = w' := by
  subst h; exact isLook_any k w
theorem prodS_good {k c : Int} (hW : juW k c = true) {n : Nat} (hn : n ≤ 201) : (gridJ n).filter (fun p => prodS k c p.1 p.2) = (gridJ n).filter (goodP k c) := by
  refine List.filter_congr fun p hp => ?_
  obtain ⟨h1, h2, h3⟩ := gridJ_mem hp
  unfold prodS goodP juGd
  rw [hW, juN_iff.2 ⟨h1, h2, by omega⟩]
set_option maxRecDepth 20000 in
set_option maxHeartbeats 2000000 in
theorem implPairsUpTo_any (k c m : Int) (w : World) :
    Calls Try.prog 9 #[.int .i64 k, .int .i64 c, .int .i64 m] w fun e w' => RowsAns w (puAns k c m) e w' := by
  have HL := hid (Later.alloc w (.cells #[.int .i64 k, .int .i64 c] 74))
  have HB := hid (JBox.new w k c 74)
  cases hP : puOk k c m
  · have HA := hid (show puAns k c m = none from if_neg (by rw [hP]; simp))
    rw [HA.out]
    rcases isWithin_noneed hP with hW | ⟨hW, hm⟩
    · have HW := hid hW
      clear hP hW HA
      go_enter Try.func9, Try.ntmps9
      go_upto_region 2 with fail
      generalize w.alloc (.cells #[.int .i64 k, .int .i64 c] 74) = w1 at HL HB ⊢
      obtain ⟨b0, b1, _, _⟩ := HB.out
      go_wp2_with (go_at_call 68; refine (isWithin_as _ _ _ _ HW.out).mono ?_; rintro e w2 ⟨rfl, hL2⟩; have HL2 := hid (HL.out.trans hL2); clear hL2)
      go_ret2
      exact ⟨_, rfl, OwnRows.noneH _ _ _, HL2.out⟩
    · have HW := hid hW
      have HM := hid (show decide (0 ≤ m ∧ m ≤ 200) = false from decide_eq_false hm)
      clear hP hW HA hm
      go_enter Try.func9, Try.ntmps9
      go_upto_region 2 with fail
      generalize w.alloc (.cells #[.int .i64 k, .int .i64 c] 74) = w1 at HL HB ⊢
      obtain ⟨b0, b1, _, _⟩ := HB.out
      go_wp2_with (first | (go_at_call 68; refine (isWithin_as _ _ _ _ HW.out).mono ?_; rintro e w2 ⟨rfl, hL2⟩; have HL2 := hid (HL.out.trans hL2); clear hL2) | (go_at_call 69; refine (isLook_as _ _ _ HM.out).mono ?_; rintro e w3 ⟨rfl, rfl⟩))
      go_ret2
      exact ⟨_, rfl, OwnRows.noneH _ _ _, HL2.out⟩
  · obtain ⟨hW, hm⟩ := puOk_iff.1 hP
    have HA := hid (show puAns k c m = toldJ ((gridJ (m.toNat + 1)).filter (goodP k c)) from if_pos hP)
    have HW := hid hW
    have HM := hid (show decide (0 ≤ m ∧ m ≤ 200) = true from decide_eq_true hm)
    obtain ⟨n, rfl⟩ : ∃ n : Nat, m = (n : Int) := ⟨m.toNat, by omega⟩
    rw [Int.toNat_natCast] at HA
    have hn : n ≤ 200 := by omega
    have HS := hid (fun w0 => pairsUpToI_any (prodEqS k c) n hn w0)
    rw [prodS_good hW (n := n + 1) (by omega)] at HS
    obtain ⟨R, hR⟩ : ∃ R, (gridJ (n + 1)).filter (goodP k c) = R := ⟨_, rfl⟩
    have HLN := hid (show R.length ≤ 100000 by rw [← hR]; exact filter_len_le _ (by have := seenJ_len (n := n + 1) (m := 0) (by omega) (by omega); rw [List.length_append] at this; omega))
    rw [hR] at HA HS
    rw [HA.out]
    clear hP hW hm hR HA
    go_enter Try.func9, Try.ntmps9
    go_upto_region 2 with fail
    generalize w.alloc (.cells #[.int .i64 k, .int .i64 c] 74) = w1 at HL HB ⊢
    obtain ⟨b0, b1, _, _⟩ := HB.out
    go_wp2_with (first | (go_at_call 68; refine (isWithin_as _ _ _ _ HW.out).mono ?_; rintro e w2 ⟨rfl, hL2⟩; have HL2 := hid (HL.out.trans hL2); replace b0 := hL2.cell b0; replace b1 := hL2.cell b1; clear hL2) | (go_at_call 69; refine (isLook_as _ _ _ HM.out).mono ?_; rintro e w3 ⟨rfl, rfl⟩))
    refine (HS.out _).mono ?_
    rintro e w4 ⟨v4, rfl, ho4, hL4⟩
    have HL4 := hid (HL2.out.trans hL4)
    have HO4 := hid (ho4.jps (by have := HLN.out; omega))
    obtain ⟨o1, o2, rfl, _⟩ := ho4.shape
    clear hL4 ho4 b0 b1
    go_wp2_with fail
    refine (toldPairs_any _ R _ (by have := HLN.out; omega) HO4.out).mono ?_
    rintro e w5 ⟨v5, rfl, ho5, hL5⟩
    have HL5 := hid (HL4.out.trans hL5)
    have HO5 := hid (ho5.wide HL4.out.size (Nat.le_refl _))
    obtain ⟨a5, c5, rfl, _⟩ := ho5.shape
    clear hL5 ho5
    go_wp2_with fail
    go_ret2
    exact ⟨_, rfl, HO5.out, HL5.out⟩
end Go.Proofs.Ytdahhcigphhfdaa
