/- TwoSquares, ThreeSquares, FourSquares in the program. -/
import Derived.Test.YtofmmegpadojlaaSqW2
import Derived.Test.YtofmmegpadojlaaSqVW3
import Derived.Test.YtofmmegpadojlaaSqVW4
namespace Go.Proofs.Ytofmmegpadojlaa
open Go.RowKit

set_option maxRecDepth 20000 in
set_option maxHeartbeats 1000000 in
theorem first2_no (n most : Int) (w : World) (hm : inB 0 most n = false) :
    Calls Try.prog 70 #[.int .i64 n, .int .i64 most] w fun e w' => IntsAns w none e w' := by
  have HM := hid hm
  have HL := hid ((Later.alloc w (.cells #[.slice none 0 0] 33)).trans (Later.alloc _ (.cells #[.bool false] 4)))
  have H4 := hid ((Bx.new w (.slice none 0 0) 33).alloc (.cells #[.bool false] 4))
  have H5 := hid (Bx.new (w.alloc (.cells #[.slice none 0 0] 33)) (.bool false) 4)
  rw [World.size_alloc] at H5
  clear hm
  go_enter Try.func70, Try.ntmps70
  obtain ⟨W0, hW0⟩ : ∃ W0, (w.alloc (.cells #[.slice none 0 0] 33)).alloc (.cells #[.bool false] 4) = W0 := ⟨_, rfl⟩
  rw [hW0] at H4 H5 HL
  have d4c := H4.out.c
  have d4f := H4.out.f
  have d5c := H5.out.c
  have d5f := H5.out.f
  go_wp2_with (go_at_call 67; refine (isSum_as _ _ _ _ HM.out).mono ?_; rintro e w2 ⟨rfl, rfl⟩)
  clear hW0
  have g4 := (H4.out.store (.slice none 0 0)).set (w.heap.size + 1) 0 (.bool false) (by omega)
  have g5 := (H5.out.set w.heap.size 0 (.slice none 0 0) (by omega)).store (.bool false)
  have g4c := g4.c
  have g5c := g5.c
  refine bodyPost_ret (v := .tuple #[.slice none 0 0, .bool false]) ?_ rfl ?_
  · rw [results_cells2 rfl]
    go_simp
  · exact ⟨_, rfl, ⟨World.ownsRow_nil _ _ _ _, fun b hb => by simp [Value.ownBlock] at hb⟩, Below.setCell (p := ⟨w.heap.size + 1, 0, none⟩) (Below.setCell (p := ⟨w.heap.size, 0, none⟩) HL.out (Nat.le_refl _) _) (by simp only; omega) _⟩
set_option maxHeartbeats 1000000 in
theorem implTwoSquares_any (n : Int) (w : World) : Calls Try.prog 17 #[.int .i64 n] w fun e w' => IntsAns w (firstAns 2 1000000 n) e w' := by
  by_cases h : 0 ≤ n ∧ n ≤ 1000000
  · obtain ⟨m, rfl⟩ : ∃ m : Nat, n = (m : Int) := ⟨n.toNat, by omega⟩
    have HA := hid (show firstAns 2 1000000 (m : Int) = (Sq.sqL 2 m m).head? by unfold firstAns; rw [if_pos h, Int.toNat_natCast])
    have HF := hid (fun w => first2_in m 1000000 w (by omega) (inB_true h))
    rw [HA.out]
    clear h HA
    go_enter Try.func17, Try.ntmps17
    go_wp2_with (go_at_call 70; refine (HF.out _).mono ?_; rintro e w2 ⟨v, rfl, hO, hL⟩; have HO := hid hO; have HL := hid hL; clear hO hL)
    go_ret2
    exact ⟨v, rfl, HO.out, HL.out⟩
  · have HA := hid (show firstAns 2 1000000 n = none from if_neg h)
    have HF := hid (fun w => first2_no n 1000000 w (inB_false h))
    rw [HA.out]
    clear h HA
    go_enter Try.func17, Try.ntmps17
    go_wp2_with (go_at_call 70; refine (HF.out _).mono ?_; rintro e w2 ⟨v, rfl, hO, hL⟩; have HO := hid hO; have HL := hid hL; clear hO hL)
    go_ret2
    exact ⟨v, rfl, HO.out, HL.out⟩
set_option maxRecDepth 20000 in
set_option maxHeartbeats 1000000 in
theorem first3_no (n most : Int) (w : World) (hm : inB 0 most n = false) :
    Calls Try.prog 101 #[.int .i64 n, .int .i64 most] w fun e w' => IntsAns w none e w' := by
  have HM := hid hm
  have HL := hid ((Later.alloc w (.cells #[.slice none 0 0] 33)).trans (Later.alloc _ (.cells #[.bool false] 4)))
  have H4 := hid ((Bx.new w (.slice none 0 0) 33).alloc (.cells #[.bool false] 4))
  have H5 := hid (Bx.new (w.alloc (.cells #[.slice none 0 0] 33)) (.bool false) 4)
  rw [World.size_alloc] at H5
  clear hm
  go_enter Try.func101, Try.ntmps101
  obtain ⟨W0, hW0⟩ : ∃ W0, (w.alloc (.cells #[.slice none 0 0] 33)).alloc (.cells #[.bool false] 4) = W0 := ⟨_, rfl⟩
  rw [hW0] at H4 H5 HL
  have d4c := H4.out.c
  have d4f := H4.out.f
  have d5c := H5.out.c
  have d5f := H5.out.f
  go_wp2_with (go_at_call 67; refine (isSum_as _ _ _ _ HM.out).mono ?_; rintro e w2 ⟨rfl, rfl⟩)
  clear hW0
  have g4 := (H4.out.store (.slice none 0 0)).set (w.heap.size + 1) 0 (.bool false) (by omega)
  have g5 := (H5.out.set w.heap.size 0 (.slice none 0 0) (by omega)).store (.bool false)
  have g4c := g4.c
  have g5c := g5.c
  refine bodyPost_ret (v := .tuple #[.slice none 0 0, .bool false]) ?_ rfl ?_
  · rw [results_cells2 rfl]
    go_simp
  · exact ⟨_, rfl, ⟨World.ownsRow_nil _ _ _ _, fun b hb => by simp [Value.ownBlock] at hb⟩, Below.setCell (p := ⟨w.heap.size + 1, 0, none⟩) (Below.setCell (p := ⟨w.heap.size, 0, none⟩) HL.out (Nat.le_refl _) _) (by simp only; omega) _⟩
set_option maxHeartbeats 1000000 in
theorem implThreeSquares_any (n : Int) (w : World) : Calls Try.prog 52 #[.int .i64 n] w fun e w' => IntsAns w (firstAns 3 1000000 n) e w' := by
  by_cases h : 0 ≤ n ∧ n ≤ 1000000
  · obtain ⟨m, rfl⟩ : ∃ m : Nat, n = (m : Int) := ⟨n.toNat, by omega⟩
    have HA := hid (show firstAns 3 1000000 (m : Int) = (Sq.sqL 3 m m).head? by unfold firstAns; rw [if_pos h, Int.toNat_natCast])
    have HF := hid (fun w => first3_in m 1000000 w (by omega) (inB_true h))
    rw [HA.out]
    clear h HA
    go_enter Try.func52, Try.ntmps52
    go_wp2_with (go_at_call 101; refine (HF.out _).mono ?_; rintro e w2 ⟨v, rfl, hO, hL⟩; have HO := hid hO; have HL := hid hL; clear hO hL)
    go_ret2
    exact ⟨v, rfl, HO.out, HL.out⟩
  · have HA := hid (show firstAns 3 1000000 n = none from if_neg h)
    have HF := hid (fun w => first3_no n 1000000 w (inB_false h))
    rw [HA.out]
    clear h HA
    go_enter Try.func52, Try.ntmps52
    go_wp2_with (go_at_call 101; refine (HF.out _).mono ?_; rintro e w2 ⟨v, rfl, hO, hL⟩; have HO := hid hO; have HL := hid hL; clear hO hL)
    go_ret2
    exact ⟨v, rfl, HO.out, HL.out⟩
set_option maxRecDepth 20000 in
set_option maxHeartbeats 1000000 in
theorem first4_no (n most : Int) (w : World) (hm : inB 0 most n = false) :
    Calls Try.prog 96 #[.int .i64 n, .int .i64 most] w fun e w' => IntsAns w none e w' := by
  have HM := hid hm
  have HL := hid ((Later.alloc w (.cells #[.slice none 0 0] 33)).trans (Later.alloc _ (.cells #[.bool false] 4)))
  have H4 := hid ((Bx.new w (.slice none 0 0) 33).alloc (.cells #[.bool false] 4))
  have H5 := hid (Bx.new (w.alloc (.cells #[.slice none 0 0] 33)) (.bool false) 4)
  rw [World.size_alloc] at H5
  clear hm
  go_enter Try.func96, Try.ntmps96
  obtain ⟨W0, hW0⟩ : ∃ W0, (w.alloc (.cells #[.slice none 0 0] 33)).alloc (.cells #[.bool false] 4) = W0 := ⟨_, rfl⟩
  rw [hW0] at H4 H5 HL
  have d4c := H4.out.c
  have d4f := H4.out.f
  have d5c := H5.out.c
  have d5f := H5.out.f
  go_wp2_with (go_at_call 67; refine (isSum_as _ _ _ _ HM.out).mono ?_; rintro e w2 ⟨rfl, rfl⟩)
  clear hW0
  have g4 := (H4.out.store (.slice none 0 0)).set (w.heap.size + 1) 0 (.bool false) (by omega)
  have g5 := (H5.out.set w.heap.size 0 (.slice none 0 0) (by omega)).store (.bool false)
  have g4c := g4.c
  have g5c := g5.c
  refine bodyPost_ret (v := .tuple #[.slice none 0 0, .bool false]) ?_ rfl ?_
  · rw [results_cells2 rfl]
    go_simp
  · exact ⟨_, rfl, ⟨World.ownsRow_nil _ _ _ _, fun b hb => by simp [Value.ownBlock] at hb⟩, Below.setCell (p := ⟨w.heap.size + 1, 0, none⟩) (Below.setCell (p := ⟨w.heap.size, 0, none⟩) HL.out (Nat.le_refl _) _) (by simp only; omega) _⟩
set_option maxHeartbeats 1000000 in
theorem implFourSquares_any (n : Int) (w : World) : Calls Try.prog 45 #[.int .i64 n] w fun e w' => IntsAns w (firstAns 4 2000 n) e w' := by
  by_cases h : 0 ≤ n ∧ n ≤ 2000
  · obtain ⟨m, rfl⟩ : ∃ m : Nat, n = (m : Int) := ⟨n.toNat, by omega⟩
    have HA := hid (show firstAns 4 2000 (m : Int) = (Sq.sqL 4 m m).head? by unfold firstAns; rw [if_pos h, Int.toNat_natCast])
    have HF := hid (fun w => first4_in m 2000 w (by omega) (inB_true h))
    rw [HA.out]
    clear h HA
    go_enter Try.func45, Try.ntmps45
    go_wp2_with (go_at_call 96; refine (HF.out _).mono ?_; rintro e w2 ⟨v, rfl, hO, hL⟩; have HO := hid hO; have HL := hid hL; clear hO hL)
    go_ret2
    exact ⟨v, rfl, HO.out, HL.out⟩
  · have HA := hid (show firstAns 4 2000 n = none from if_neg h)
    have HF := hid (fun w => first4_no n 2000 w (inB_false h))
    rw [HA.out]
    clear h HA
    go_enter Try.func45, Try.ntmps45
    go_wp2_with (go_at_call 96; refine (HF.out _).mono ?_; rintro e w2 ⟨v, rfl, hO, hL⟩; have HO := hid hO; have HL := hid hL; clear hO hL)
    go_ret2
    exact ⟨v, rfl, HO.out, HL.out⟩
end Go.Proofs.Ytofmmegpadojlaa
