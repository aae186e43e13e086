/- CurvaturesOf (the program). -/
import Derived.Test.YtljikcajfmnnmabCfA
namespace Go.Proofs.Ytljikcajfmnnmab
open Go.RowKit

theorem indexK (L : List Ci4) (hl : L.length = 4) (k : Nat) (hk : k < 4) (w : World) :
    (Instr.index 60 (.agg (kA L)) (.int .i64 k)).run Try.prog w = .ok (.agg #[.int .i64 (L.getD k c00).1, .int .i64 (L.getD k c00).2.1, .int .i64 (L.getD k c00).2.2.1, .int .i64 (L.getD k c00).2.2.2]) w := by
  obtain ⟨t0, t1, t2, t3, rfl⟩ := four_of L hl
  obtain ⟨a0, b0, x0, y0⟩ := t0
  obtain ⟨a1, b1, x1, y1⟩ := t1
  obtain ⟨a2, b2, x2, y2⟩ := t2
  obtain ⟨a3, b3, x3, y3⟩ := t3
  have hA : kA [(a0, b0, x0, y0), (a1, b1, x1, y1), (a2, b2, x2, y2), (a3, b3, x3, y3)] = #[.int .i64 a0, .int .i64 b0, .int .i64 x0, .int .i64 y0, .int .i64 a1, .int .i64 b1, .int .i64 x1, .int .i64 y1, .int .i64 a2, .int .i64 b2, .int .i64 x2, .int .i64 y2, .int .i64 a3, .int .i64 b3, .int .i64 x3, .int .i64 y3] := rfl
  rw [hA]
  rcases lt4 hk with rfl | rfl | rfl | rfl <;> simp [Instr.index, run_underlying Try.underlying60, asIntOf, go_sem]
set_option maxRecDepth 20000 in
set_option maxHeartbeats 2000000 in
theorem curvatures_any (L : List Ci4) (w : World) (hl : L.length = 4) :
    Calls Try.prog 46 #[.agg (kA L)] w fun e w' => MadeInts w (curvL L) e w' := by
  have HLA := hid (Later.alloc w (.cells (kA L) 60))
  have HB := hid (KBlk.new w L)
  have HN := hid hl
  have HIX := hid (fun k hk w0 => indexK L hl k hk w0)
  have hb : L.length ≤ 1000 := by omega
  clear hl
  go_enter Try.func46, Try.ntmps46
  go_wp2_with (refine wpList_loadK _ (by rfl) 60 _ (by rfl) ⟨w.heap.size, 0, none⟩ (by rfl) Try.isAgg60 16 Try.sizeOf60 (kA L) (by exact HB.out.load HN.out) ?_)
  go_loopw [3, 7] (fun o i wr => ∃ k : Nat, k ≤ L.length ∧ i = .int .i64 k ∧ OwnInts w.heap.size wr.heap.size wr o (curvL (L.take k)) ∧ Later w wr) (fun _ i _ => L.length - (intOf i).toNat)
  case atStart => exact ⟨0, Nat.zero_le _, rfl, OwnInts.nothingC _ _ _, HLA.out⟩
  case round =>
    obtain ⟨k, hk, rfl, hO, hL⟩ := hrel
    obtain ⟨o1, o2, rfl, _⟩ := hO.shape
    have HO := hid hO
    have HL := hid hL
    by_cases hlt : k < L.length
    · have hk4 : (k : Int) < 4 := by have := HN.out; omega
      have hix := HIX.out k (by have := HN.out; omega)
      have HS := hid (curv_take L k hlt)
      have hFl : (curvL (L.take k)).length ≤ 1000 := by simp [curvL]; omega
      obtain ⟨F, hF⟩ : ∃ F, curvL (L.take k) = F := ⟨_, rfl⟩
      obtain ⟨t, ht⟩ : ∃ t, L.getD k c00 = t := ⟨_, rfl⟩
      rw [ht] at hix HS
      rw [hF] at HO HS hFl ⊢
      obtain ⟨p, q, r, s⟩ := t
      simp only at hix HS
      have hA := Later.alloc wr (.cells #[.int .i64 p, .int .i64 q, .int .i64 r, .int .i64 s] 50)
      have hA2 := Later.alloc (wr.alloc (.cells #[.int .i64 p, .int .i64 q, .int .i64 r, .int .i64 s] 50)) (.cells #[.int .i64 q] 3)
      have HOA := hid ((HO.out.later hA).later hA2)
      have HLA := hid ((HL.out.trans hA).trans hA2)
      have HWS := hid (show w.heap.size ≤ wr.heap.size from hL.size)
      obtain ⟨i0, hi, hz0, hz1, hz2⟩ := info_parts Try.infoInt
      have hsz3 : (wr.alloc (.cells #[.int .i64 p, .int .i64 q, .int .i64 r, .int .i64 s] 50)).heap.size = wr.heap.size + 1 := by simp
      clear ht hF hL hO hA hA2
      go_wp2_with (at_builtin; refine wpList_append_lies _ (by rfl) _ _ _ (by rfl) w.heap.size 3 i0 (.int .i64 0) 1 8 Try.underlying39 hi hz0 hz1 hz2 rfl (by omega) _ F.length (F.map (Value.int .i64)) (by rfl) (by exact HOA.out.1) ⟨wr.heap.size + 1, 0, none⟩ 1 1 [.int .i64 q] (by rfl) (by rfl) (World.news_of_block (cs := #[.int .i64 q]) (t := 3) (fr := (0, 0)) (by rw [← hsz3]; exact heap_alloc_new _ _)) (by simp [Value.oneCell']) (by omega) (by unfold maxLen; omega) (by omega) (by have := HWS.out; simp; omega) (wr.heap.size + 1 + 1) (by simp) ?_)
      intro g5 cap1 w5 hown5 hgrow hat hglt
      have HP := hid (OwnInts.pushedC hown5)
      have HL5 := hid (show Later w w5 from HLA.out.grown hgrow (by have := HWS.out; simp; omega) (fun b hb => (HOA.out.1.lt b hb).1))
      clear hown5 hgrow hat hglt
      go_wp2_with fail
      go_roundw
      case rel => exact ⟨k + 1, hlt, by go_num, by rw [HS.out]; simpa using HP.out, HL5.out⟩
      case measure => simp [intOf]; omega
    · obtain rfl : k = L.length := by omega
      have hk4 : ¬ (L.length : Int) < 4 := by have := HN.out; omega
      have HE := hid (show curvL (L.take L.length) = curvL L by rw [List.take_length])
      go_wp2_with fail
      go_ret
      exact ⟨_, rfl, by rw [← HE.out]; exact HO.out, HL.out⟩
set_option maxRecDepth 20000 in
set_option maxHeartbeats 2000000 in
theorem curvP_any (v : Value) (L : List Ci4) (w : World) (h : Cis w v L) :
    Calls Try.prog 25 #[v] w fun e w' => IntsAns w (curvAns L) e w' := by
  obtain ⟨a, cap, rfl, _⟩ := id h
  have H := hid h
  cases h4 : confB L
  · have HC := hid (configOf_no _ L w h h4)
    have HA := hid (show curvAns L = none by unfold curvAns; rw [h4]; simp)
    clear h4 h
    go_enter Try.func25, Try.ntmps25
    go_wp2_with fail
    refine HC.out.mono ?_
    rintro e w2 ⟨rfl, hL⟩
    have hB : KBlk (w2.alloc (.cells #[.int .i64 0, .int .i64 0, .int .i64 0, .int .i64 0, .int .i64 0, .int .i64 0, .int .i64 0, .int .i64 0, .int .i64 0, .int .i64 0, .int .i64 0, .int .i64 0, .int .i64 0, .int .i64 0, .int .i64 0, .int .i64 0] 60)) w2.heap.size zL := KBlk.new w2 zL
    have HL := hid (setRow_later (hL.trans (Later.alloc w2 (.cells #[.int .i64 0, .int .i64 0, .int .i64 0, .int .i64 0, .int .i64 0, .int .i64 0, .int .i64 0, .int .i64 0, .int .i64 0, .int .i64 0, .int .i64 0, .int .i64 0, .int .i64 0, .int .i64 0, .int .i64 0, .int .i64 0] 60))) (B := w2.heap.size) hL.size (kA zL))
    have HST := hid (hB.store rfl (L' := zL) rfl)
    clear hL hB
    go_wp2_with (refine wpList_storeK _ ((w2.alloc (.cells #[.int .i64 0, .int .i64 0, .int .i64 0, .int .i64 0, .int .i64 0, .int .i64 0, .int .i64 0, .int .i64 0, .int .i64 0, .int .i64 0, .int .i64 0, .int .i64 0, .int .i64 0, .int .i64 0, .int .i64 0, .int .i64 0] 60)).setRow w2.heap.size (kA zL)) (by rfl) 60 _ _ (by rfl) ⟨w2.heap.size, 0, none⟩ (by rfl) (.agg (kA zL)) (by rfl) (by exact HST.out) (fun u => ?_))
    generalize (w2.alloc (.cells #[.int .i64 0, .int .i64 0, .int .i64 0, .int .i64 0, .int .i64 0, .int .i64 0, .int .i64 0, .int .i64 0, .int .i64 0, .int .i64 0, .int .i64 0, .int .i64 0, .int .i64 0, .int .i64 0, .int .i64 0, .int .i64 0] 60)).setRow w2.heap.size (kA zL) = w3 at HL ⊢
    go_wp2_with fail
    go_ret2
    exact ⟨_, by rw [HA.out]; rfl, by rw [HA.out]; exact OwnInts.nothingC _ _ _, HL.out⟩
  · have HC := hid (configOf_yes _ L w h h4)
    have HA := hid (show curvAns L = some (curvL L) by unfold curvAns; rw [h4]; simp)
    have HN := hid (fourB_len (confB_four h4))
    clear h4 h
    go_enter Try.func25, Try.ntmps25
    go_wp2_with fail
    refine HC.out.mono ?_
    rintro e w2 ⟨rfl, hL⟩
    have hB : KBlk (w2.alloc (.cells #[.int .i64 0, .int .i64 0, .int .i64 0, .int .i64 0, .int .i64 0, .int .i64 0, .int .i64 0, .int .i64 0, .int .i64 0, .int .i64 0, .int .i64 0, .int .i64 0, .int .i64 0, .int .i64 0, .int .i64 0, .int .i64 0] 60)) w2.heap.size zL := KBlk.new w2 zL
    have HL := hid (setRow_later (hL.trans (Later.alloc w2 (.cells #[.int .i64 0, .int .i64 0, .int .i64 0, .int .i64 0, .int .i64 0, .int .i64 0, .int .i64 0, .int .i64 0, .int .i64 0, .int .i64 0, .int .i64 0, .int .i64 0, .int .i64 0, .int .i64 0, .int .i64 0, .int .i64 0] 60))) (B := w2.heap.size) hL.size (kA L))
    have HST := hid (hB.store rfl (L' := L) HN.out)
    have HB := hid (hB.set L)
    have hWS := hL.size
    clear hL hB
    go_wp2_with (first | (refine wpList_loadK _ (by rfl) 60 _ (by rfl) ⟨w2.heap.size, 0, none⟩ (by rfl) Try.isAgg60 16 Try.sizeOf60 (kA L) (by exact HB.out.load HN.out) ?_) | (refine wpList_storeK _ ((w2.alloc (.cells #[.int .i64 0, .int .i64 0, .int .i64 0, .int .i64 0, .int .i64 0, .int .i64 0, .int .i64 0, .int .i64 0, .int .i64 0, .int .i64 0, .int .i64 0, .int .i64 0, .int .i64 0, .int .i64 0, .int .i64 0, .int .i64 0] 60)).setRow w2.heap.size (kA L)) (by rfl) 60 _ _ (by rfl) ⟨w2.heap.size, 0, none⟩ (by rfl) (.agg (kA L)) (by rfl) (by exact HST.out) (fun u => ?_)))
    generalize (w2.alloc (.cells #[.int .i64 0, .int .i64 0, .int .i64 0, .int .i64 0, .int .i64 0, .int .i64 0, .int .i64 0, .int .i64 0, .int .i64 0, .int .i64 0, .int .i64 0, .int .i64 0, .int .i64 0, .int .i64 0, .int .i64 0, .int .i64 0] 60)).setRow w2.heap.size (kA L) = w3 at HL HB ⊢
    refine (curvatures_any L _ HN.out).mono ?_
    rintro e w4 ⟨v4, rfl, hO, hL⟩
    have HL4 := hid (HL.out.trans hL)
    have HO := hid hO
    clear hL hO
    go_wp2_with fail
    go_ret2
    exact ⟨_, by rw [HA.out]; rfl, by rw [HA.out]; exact HO.out.wide HL.out.size (Nat.le_refl _), HL4.out⟩
end Go.Proofs.Ytljikcajfmnnmab
