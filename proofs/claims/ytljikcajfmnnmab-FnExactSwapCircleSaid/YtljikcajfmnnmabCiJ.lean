/- CurvaturesOf (the model). -/
import Derived.Test.YtljikcajfmnnmabCiI
namespace Go.Proofs.Ytljikcajfmnnmab
open Go.RowKit

def curvL (L : List Ci4) : List Int := L.map fun c => c.2.1
def curvAns (L : List Ci4) : Option (List Int) := if confB L = true then some (curvL L) else none
theorem curvAns_len (L : List Ci4) : ((curvAns L).getD []).length ≤ 1000000000000 := by
  unfold curvAns
  split
  · rename_i h
    have := fourB_len (confB_four h)
    simp [curvL, this]
  · simp
theorem OwnInts.nothingC (lo hi : Nat) (w : World) : OwnInts lo hi w (.slice none 0 0) [] := ⟨World.ownsRow_nil _ _ _ _, fun b hb => by simp [Value.ownBlock] at hb⟩
theorem OwnInts.pushedC {lo : Nat} {w1 : World} {v' : Value} {zs : List Int} {x : Int} (ho1 : w1.ownsRow lo 3 1 v' (zs.length + 1) (zs.map (Value.int .i64) ++ [.int .i64 x])) : OwnInts lo w1.heap.size w1 v' (zs ++ [x]) :=
  ⟨by simpa using ho1, fun k hk => (ho1.lt k hk).2⟩
theorem curv_take (L : List Ci4) (k : Nat) (h : k < L.length) : curvL (L.take (k + 1)) = curvL (L.take k) ++ [(L.getD k c00).2.1] := by
  unfold curvL
  rw [List.take_succ_eq_append_getElem h, List.map_append, show L.getD k c00 = L[k] by simp [h]]
  rfl
set_option maxRecDepth 20000 in
set_option maxHeartbeats 2000000 in
theorem ciCurvatures_any (v : Value) (L : List Ci4) (w : World) (hb : L.length ≤ 1000) (h : Cis w v L) :
    Calls Try.prog 44 #[v] w fun e w' => MadeInts w (curvL L) e w' := by
  obtain ⟨a, cap, rfl, hl, _⟩ := id h
  have H := hid h
  clear h
  go_enter Try.func44, Try.ntmps44
  go_wp2_with fail
  go_loopw [3, 8] (fun o i wr => ∃ k : Nat, k ≤ L.length ∧ i = .int .i64 k ∧ OwnInts w.heap.size wr.heap.size wr o (curvL (L.take k)) ∧ Later w wr) (fun _ i _ => L.length - (intOf i).toNat)
  case atStart => exact ⟨0, Nat.zero_le _, rfl, OwnInts.nothingC _ _ _, Later.refl _⟩
  case round =>
    obtain ⟨k, hk, rfl, hO, hL⟩ := hrel
    obtain ⟨o1, o2, rfl, _⟩ := hO.shape
    have HO := hid hO
    have HL := hid hL
    by_cases hlt : k < L.length
    · obtain ⟨g, rfl, c0, c1, c2, c3⟩ := (H.out.later hL).at k hlt
      have HS := hid (curv_take L k hlt)
      have hFl : (curvL (L.take k)).length ≤ 1000 := by simp [curvL]; omega
      obtain ⟨F, hF⟩ : ∃ F, curvL (L.take k) = F := ⟨_, rfl⟩
      obtain ⟨t, ht⟩ : ∃ t, L.getD k c00 = t := ⟨_, rfl⟩
      rw [ht] at c0 c1 c2 c3 HS
      rw [hF] at HO HS hFl ⊢
      obtain ⟨p, q, r, s⟩ := t
      simp only at c0 c1 c2 c3 HS
      have hA := Later.alloc wr (.cells #[.int .i64 p, .int .i64 q, .int .i64 r, .int .i64 s] 50)
      have hA2 := Later.alloc (wr.alloc (.cells #[.int .i64 p, .int .i64 q, .int .i64 r, .int .i64 s] 50)) (.cells #[.int .i64 q] 3)
      have HOA := hid ((HO.out.later hA).later hA2)
      have HLA := hid ((HL.out.trans hA).trans hA2)
      have HWS := hid (show w.heap.size ≤ wr.heap.size from hL.size)
      obtain ⟨i0, hi, hz0, hz1, hz2⟩ := info_parts Try.infoInt
      have hsz3 : (wr.alloc (.cells #[.int .i64 p, .int .i64 q, .int .i64 r, .int .i64 s] 50)).heap.size = wr.heap.size + 1 := by simp
      clear ht hF hL hO hA hA2
      go_wp2_with (at_builtin; refine wpList_append_lies _ (by rfl) _ _ _ (by rfl) w.heap.size 3 i0 (.int .i64 0) 1 8 Try.underlying39 hi hz0 hz1 hz2 rfl (by omega) _ F.length (F.map (Value.int .i64)) (by rfl) (by exact HOA.out.1) ⟨wr.heap.size + 1, 0, none⟩ 1 1 [.int .i64 q] (by rfl) (by rfl) (World.news_of_block (cs := #[.int .i64 q]) (t := 3) (fr := (0, 0)) (by rw [← hsz3]; exact heap_alloc_new _ _)) (by simp [Value.oneCell']) (by omega) (by unfold maxLen; omega) (by omega) (by have := HWS.out; simp; omega) (wr.heap.size + 1 + 1) (by simp) ?_)
      intro g5 cap1 w5 hown5 hgrow hat hglt
      have HP := hid (OwnInts.pushedC hown5)
      have HL5 := hid (show Later w w5 from HLA.out.grown hgrow (by have := HWS.out; simp; omega) (fun b hb => (HOA.out.1.lt b hb).1))
      clear hown5 hgrow hat hglt
      go_wp2_with fail
      go_roundw
      case rel => exact ⟨k + 1, hlt, by go_num, by rw [HS.out]; simpa using HP.out, HL5.out⟩
      case measure => simp [intOf]; omega
    · obtain rfl : k = L.length := by omega
      have HE := hid (show curvL (L.take L.length) = curvL L by rw [List.take_length])
      go_wp2_with fail
      go_ret
      exact ⟨_, rfl, by rw [← HE.out]; exact HO.out, HL.out⟩
set_option maxRecDepth 20000 in
theorem curvS_any (v : Value) (L : List Ci4) (w : World) (h : Cis w v L) :
    Calls Try.prog 24 #[v] w fun e w' => IntsAns w (curvAns L) e w' := by
  obtain ⟨a, cap, rfl, _⟩ := id h
  have H := hid h
  clear h
  cases h4 : confB L
  · have HF := hid h4
    have HA := hid (show curvAns L = none by unfold curvAns; rw [h4]; simp)
    clear h4
    go_enter Try.func24, Try.ntmps24
    go_wp2_with fail
    refine (ciConfig_as _ L false _ H.out HF.out).mono ?_
    rintro e w2 ⟨rfl, hL⟩
    have HL := hid hL
    clear hL
    go_wp2_with fail
    go_ret2
    exact ⟨_, by rw [HA.out]; rfl, by rw [HA.out]; exact OwnInts.nothingC _ _ _, HL.out⟩
  · have HF := hid h4
    have HA := hid (show curvAns L = some (curvL L) by unfold curvAns; rw [h4]; simp)
    have HN := hid (fourB_len (confB_four h4))
    clear h4
    go_enter Try.func24, Try.ntmps24
    go_wp2_with fail
    refine (ciConfig_as _ L true _ H.out HF.out).mono ?_
    rintro e w2 ⟨rfl, hL⟩
    have HL := hid hL
    have H2 := hid (H.out.later hL)
    clear hL
    go_wp2_with fail
    refine (ciCurvatures_any _ L _ (by have := HN.out; omega) H2.out).mono ?_
    rintro e w3 ⟨v3, rfl, hO, hL⟩
    have HL3 := hid (HL.out.trans hL)
    have HO := hid hO
    clear hL hO
    go_wp2_with fail
    go_ret2
    exact ⟨_, by rw [HA.out]; rfl, by rw [HA.out]; exact HO.out.wide HL.out.size (Nat.le_refl _), HL3.out⟩
end Go.Proofs.Ytljikcajfmnnmab
