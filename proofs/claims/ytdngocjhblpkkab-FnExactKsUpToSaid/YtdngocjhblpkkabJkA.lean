/- Which k there is a pair for (the program and the model): KsUpTo. -/
import Derived.Test.YtdngocjhblpkkabJpS
import Derived.Test.YtdngocjhblpkkabJpM
import Derived.Test.YtdngocjhblpkkabSrN
import Derived.Test.YtdngocjhblpkkabPutZ
namespace Go.Proofs.Ytdngocjhblpkkab
open Go.RowKit

def ksL (c : Int) (L : List Jp2) : List Int := L.filterMap fun p => kOf p.1 p.2 c
theorem ksL_snoc (c : Int) (L : List Jp2) (p : Jp2) : ksL c (L ++ [p]) = ksL c L ++ (match kOf p.1 p.2 c with | none => [] | some k => [k]) := by
  unfold ksL
  rw [List.filterMap_append]
  congr 1
  cases h : kOf p.1 p.2 c <;> simp [h]
theorem ksL_len {c : Int} {L : List Jp2} {n : Nat} (h : L.length ≤ n) : (ksL c L).length ≤ n := Nat.le_trans (List.length_filterMap_le _ _) h
def ksSet (c : Int) (n : Nat) : List Int := Go.Lib.compact ((ksL c (gridJ n)).mergeSort fun x y => decide (x ≤ y))
theorem ksSet_rising (c : Int) (n : Nat) : RisingI (ksSet c n) := compactI_rising _ (by
  have h := List.pairwise_mergeSort (le := fun x y : Int => decide (x ≤ y)) (fun a b c h1 h2 => by simp at *; omega) (fun a b => by simp; omega) (ksL c (gridJ n))
  simpa using h)
theorem ksSet_mem (c : Int) (n : Nat) (x : Int) : x ∈ ksSet c n ↔ x ∈ ksL c (gridJ n) := by
  unfold ksSet
  rw [compactI_mem, List.mem_mergeSort]
def ksAns (c m : Int) : Option (List Int) := if (-1000 ≤ c ∧ c ≤ 1000) ∧ 0 ≤ m ∧ m ≤ 200 then some (ksSet c (m.toNat + 1)) else none
theorem ksSet_len (c : Int) {n : Nat} (h : n ≤ 201) : (ksSet c n).length ≤ 100000 := by
  unfold ksSet
  refine Nat.le_trans (compactI_len _) ?_
  rw [List.length_mergeSort]
  refine ksL_len ?_
  have := seenJ_len (n := n) (m := 0) (by omega) (by omega)
  rw [List.length_append] at this
  omega
/-- What the search keeps: the box of c, the box of the ks, what it holds. -/
def FoundK (w : World) (E F : Nat) (c : Int) (L : List Jp2) (wr : World) : Prop :=
  ∃ v, Box wr E (.int .i64 c) ∧ Box wr F v ∧ wr.ownsRow (F + 1) 3 1 v (ksL c L).length ((ksL c L).map (Value.int .i64)) ∧ E < F ∧ w.heap.size ≤ E ∧ Later w wr ∧ F + 1 ≤ wr.heap.size
theorem ownsInt_later {lo n : Nat} {w w' : World} {v : Value} {xs : List Value} (h : w.ownsRow lo 3 1 v n xs) (k : Later w w') : w'.ownsRow lo 3 1 v n xs := ownsRow_keep h fun b hb => k.block b (h.lt b hb).2
theorem ownsInt_shape {lo n : Nat} {w : World} {v : Value} {xs : List Value} (h : w.ownsRow lo 3 1 v n xs) : ∃ a cap, v = .slice a n cap ∧ n ≤ cap := by
  rcases h.2 with ⟨rfl, h0⟩ | ⟨g, cap, cur, rfl, hb, hg, hn, _⟩
  · exact ⟨none, 0, by rw [h0], by omega⟩
  · exact ⟨_, cap, rfl, by omega⟩
set_option maxRecDepth 20000 in
set_option maxHeartbeats 4000000 in
theorem foundK_any (w : World) (E F : Nat) (c : Int) (L : List Jp2) (x y : Int) (w0 : World) (hl : L.length ≤ 100000) (hI : FoundK w E F c L w0) :
    Calls Try.prog 56 #[.agg #[.int .i64 x, .int .i64 y], .pointer (some ⟨E, 0, none⟩), .pointer (some ⟨F, 0, none⟩)] w0 fun e w' => e = .returned (.tuple #[]) ∧ FoundK w E F c (L ++ [(x, y)]) w' := by
  obtain ⟨i0, hi, hz0, hz1, hz2⟩ := info_parts Try.infoInt
  obtain ⟨v, hE, hF, hO, hEF, hwE, hL, hFs⟩ := hI
  have HK := hid (fun w0 => implKOfPair_any x y c w0)
  have hA := Later.alloc w0 (.cells #[.int .i64 x, .int .i64 y] 44)
  have HE := hid (hE.later hA)
  have HF := hid (hF.later hA)
  have HO := hid (ownsInt_later hO hA)
  have HL := hid (hL.trans hA)
  have HB := hid (JBox.new w0 x y 44)
  have HS := hid (show F + 1 ≤ (w0.alloc (.cells #[.int .i64 x, .int .i64 y] 44)).heap.size by simp; omega)
  have HLF := hid (ksL_len (c := c) hl)
  have HFIL := hid (ksL_snoc c L (x, y))
  obtain ⟨o1, o2, rfl, _⟩ := ownsInt_shape hO
  obtain ⟨R, hR⟩ : ∃ R, ksL c L = R := ⟨_, rfl⟩
  rw [hR] at HO HF HLF HFIL
  clear hE hF hO hL hA hR hFs
  cases hk : kOf x y c with
  | none =>
    have HN := hid (show ksL c (L ++ [(x, y)]) = R by rw [HFIL.out]; simp [hk])
    rw [hk] at HK
    clear hk HFIL
    go_enter Try.func56, Try.ntmps56
    go_upto_region 1 with fail
    generalize w0.alloc (.cells #[.int .i64 x, .int .i64 y] 44) = w1 at HE HF HO HL HB HS ⊢
    obtain ⟨c0, c1, _, _⟩ := HB.out
    have e0 := HE.out.1
    go_wp2_with (go_at_call 57; refine (HK.out _).mono ?_; rintro e w2 ⟨rfl, rfl⟩; simp only [Option.getD_none, Option.isSome_none])
    refine bodyPost_end (v := .tuple #[]) ?_ rfl ⟨rfl, _, HE.out, HF.out, by rw [HN.out]; exact HO.out, hEF, hwE, HL.out, HS.out⟩
    simp [results, Try.results56, go_sem]
  | some k =>
    have HN := hid (show ksL c (L ++ [(x, y)]) = R ++ [k] by rw [HFIL.out]; simp [hk])
    rw [hk] at HK
    clear hk HFIL
    go_enter Try.func56, Try.ntmps56
    go_upto_region 1 with fail
    generalize w0.alloc (.cells #[.int .i64 x, .int .i64 y] 44) = w1 at HE HF HO HL HB HS ⊢
    obtain ⟨c0, c1, _, _⟩ := HB.out
    have e0 := HE.out.1
    obtain ⟨f0, ff0⟩ := HF.out
    have hlb := HLF.out
    have hA := Later.alloc w1 (.cells #[.int .i64 k] 3)
    have HO4 := hid (ownsInt_later HO.out hA)
    have HE4 := hid (HE.out.later hA)
    have HF4 := hid (HF.out.later hA)
    have HL4 := hid (HL.out.trans hA)
    have hCs : F + 1 ≤ w1.heap.size := HS.out
    clear hA
    go_wp2_with (first
      | (go_at_call 57; refine (HK.out _).mono ?_; rintro e w2 ⟨rfl, rfl⟩; simp only [Option.getD_some, Option.isSome_some])
      | (at_builtin; refine wpList_append_lies _ (by rfl) _ _ _ (by rfl) (F + 1) 3 i0 (.int .i64 0) 1 8 Try.underlying34 hi hz0 hz1 hz2 rfl (by omega) _ R.length (R.map (Value.int .i64)) (by rfl) (by exact HO4.out) ⟨w1.heap.size, 0, none⟩ 1 1 [.int .i64 k] (by rfl) (by rfl) (World.news_of_block (cs := #[.int .i64 k]) (t := 3) (fr := (0, 0)) (heap_alloc_new w1 _)) (by simp [Value.oneCell']) (by omega) (by unfold maxLen; omega) (by omega) (by simp; omega) (w1.heap.size + 1) (by simp) ?_))
    intro g' cap1 w9 hown9 hgrow hat hglt
    have HO9 := hid (show w9.ownsRow (F + 1) 3 1 (.slice (some ⟨g', 0, none⟩) (R.length + 1) cap1) (R ++ [k]).length ((R ++ [k]).map (Value.int .i64)) by
      rw [List.map_append, List.length_append]; exact hown9)
    have hfar : ∀ b, b ≤ F → w9.heap[b]? = (w1.alloc (.cells #[.int .i64 k] 3)).heap[b]? := fun b hb => hgrow.block b (by simp; omega) (fun e => by have := (HO4.out.lt b e.symm).1; omega)
    have HE9 := hid (HE4.out.keep (hfar E (by omega)))
    have HF9 := hid (HF4.out.keep (hfar F (by omega)))
    have HL9 := hid (show Later w w9 from HL4.out.grown hgrow (HL4.out.size) (fun b' hb' => by have := (HO4.out.lt b' hb').1; omega))
    have HS9 := hid (show F + 1 ≤ w9.heap.size by have := hgrow.size; simp at this; omega)
    clear hown9 hgrow hat c0 c1 f0 ff0 hCs hfar
    obtain ⟨f0, ff0⟩ := HF9.out
    go_wp2_with fail
    have HE10 := hid (show Box (w9.setCell ⟨F, 0, none⟩ (.slice (some ⟨g', 0, none⟩) (R.length + 1) cap1)) E (.int .i64 c) from HE9.out.keep (heap_setCell_other _ _ E _ (by simp; omega)))
    have HF10 := hid (show Box (w9.setCell ⟨F, 0, none⟩ (.slice (some ⟨g', 0, none⟩) (R.length + 1) cap1)) F (.slice (some ⟨g', 0, none⟩) (R.length + 1) cap1) from HF9.out.set _)
    have HO10 := hid (show (w9.setCell ⟨F, 0, none⟩ (.slice (some ⟨g', 0, none⟩) (R.length + 1) cap1)).ownsRow (F + 1) 3 1 (.slice (some ⟨g', 0, none⟩) (R.length + 1) cap1) (R ++ [k]).length ((R ++ [k]).map (Value.int .i64)) from ownsRow_keep HO9.out fun b hb => heap_setCell_other _ _ b _ (by have := (HO9.out.lt b hb).1; simp; omega))
    have HL10 := hid (show Later w (w9.setCell ⟨F, 0, none⟩ (.slice (some ⟨g', 0, none⟩) (R.length + 1) cap1)) from Below.setCell HL9.out (show w.heap.size ≤ F by omega) _)
    refine bodyPost_end (v := .tuple #[]) ?_ rfl ⟨rfl, _, HE10.out, HF10.out, by rw [HN.out]; exact HO10.out, hEF, hwE, HL10.out, by simpa using HS9.out⟩
    simp [results, Try.results56, go_sem]
end Go.Proofs.Ytdngocjhblpkkab
