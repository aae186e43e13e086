/- Products of lists of squares: MultiplyTwo, MultiplyFour in the program. -/
import Derived.Test.YtofmmegpadojlaaSqBE
namespace Go.Proofs.Ytofmmegpadojlaa
open Go.RowKit

theorem facL2_in (zs : List Int) : ∃ a b, facL2 zs = [a, b] ∧ In4 a ∧ In4 b := by
  unfold facL2
  split
  · rename_i h
    exact partsB_2 h
  · exact ⟨0, 0, rfl, ⟨by omega, by omega⟩, ⟨by omega, by omega⟩⟩
set_option maxRecDepth 100000 in
set_option maxHeartbeats 8000000 in
theorem productOfLists2_any (v0 v1 : Value) (z0 z1 : List Int) (vs : Addr) (w : World) (h0 : Ints w v0 z0) (hc : w.cell? vs = some v1) (h1 : Ints w v1 z1) :
    Calls Try.prog 92 #[.func (.func 93) #[] #[], v0, .slice (some vs) 1 1] w fun e w' => IntsAns w (mulTwoAns z0 z1) e w' := by
  obtain ⟨a, b, hf0, ha, hb⟩ := facL2_in z0
  obtain ⟨x, y, hf1, hx, hy⟩ := facL2_in z1
  have HF0 := hid (factorOf2_any v0 z0 w h0)
  have HF1 := hid (fun w0 (hL : Later w w0) => factorOf2_any v1 z1 w0 (h1.later hL))
  rw [hf0] at HF0
  rw [hf1] at HF1
  simp only [List.map_cons, List.map_nil] at HF0 HF1
  have HP := hid (fun w => product2_any a b x y w ha.six hb.six hx.six hy.six)
  have HLI := hid (fun w => listC2_any (a * x - b * y) (a * y + b * x) w)
  obtain ⟨b0, hb0⟩ : ∃ b0, partsB 2 z0 = b0 := ⟨_, rfl⟩
  obtain ⟨b1, hb1⟩ : ∃ b1, partsB 2 z1 = b1 := ⟨_, rfl⟩
  have HA := hid (show mulTwoAns z0 z1 = if (b0 && b1) = true then some [a * x - b * y, a * y + b * x] else none by
    rw [← hb0, ← hb1]
    unfold mulTwoAns
    by_cases hh : partsB 2 z0 = true ∧ partsB 2 z1 = true
    · rw [if_pos hh, if_pos (by rw [hh.1, hh.2]; rfl)]
      have e0 : facL2 z0 = z0 := if_pos hh.1
      have e1 : facL2 z1 = z1 := if_pos hh.2
      rw [e0] at hf0
      rw [e1] at hf1
      rw [hf0, hf1]; rfl
    · rw [if_neg hh, if_neg (fun h => hh (by simpa using h))])
  rw [hb0] at HF0
  rw [hb1] at HF1
  clear ha hb hx hy hf0 hf1 h0 h1 hb0 hb1
  go_enter Try.func92, Try.ntmps92
  go_wp2_with (go_at_call 125; refine HF0.out.mono ?_; rintro e w2 ⟨rfl, hL2⟩; clear HF0; have HL2 := hid hL2; clear hL2)
  have HBX := hid (NBox.new w2 [a, b] #[.int .i64 a, .int .i64 b] 42 rfl)
  have HL3 := hid (HL2.out.trans (Later.alloc w2 (.cells #[.int .i64 a, .int .i64 b] 42)))
  have HS3 := hid (show w2.heap.size < (w2.alloc (.cells #[.int .i64 a, .int .i64 b] 42)).heap.size by simp)
  have HW2 := hid HL2.out.size
  obtain ⟨B, hB⟩ : ∃ B, w2.heap.size = B := ⟨_, rfl⟩
  rw [hB] at HBX HS3 HW2 ⊢
  obtain ⟨w3, hw3⟩ : ∃ w3, w2.alloc (.cells #[.int .i64 a, .int .i64 b] 42) = w3 := ⟨_, rfl⟩
  rw [hw3] at HBX HL3 HS3 ⊢
  clear hB hw3
  go_loopw [9, 21] (fun o i wr => Later w wr ∧ B < wr.heap.size ∧ ((i = .int .i64 0 ∧ o = .bool b0 ∧ NBox wr B [a, b]) ∨ (i = .int .i64 1 ∧ o = .bool (b0 && b1) ∧ NBox wr B [a * x - b * y, a * y + b * x]))) (fun _ i _ => 1 - (intOf i).toNat)
  case atStart => exact ⟨HL3.out, HS3.out, .inl ⟨rfl, rfl, HBX.out⟩⟩
  case round =>
    obtain ⟨hL, hS, (⟨rfl, rfl, hN⟩ | ⟨rfl, rfl, hN⟩)⟩ := hrel
    · have hcr := hL.cell hc
      have HL := hid hL
      have HN := hid hN
      have HSz := hid hS
      clear hL hN
      cases b0
      · go_wp2_with (first
          | (go_at_call 125; refine (HF1.out _ HL.out).mono ?_; rintro e w4 ⟨rfl, hL4⟩; have HN4 := hid ((HN.out.later hL4).later (Later.alloc w4 (.cells #[.int .i64 x, .int .i64 y] 42))); have HY := hid (NBox.new w4 [x, y] #[.int .i64 x, .int .i64 y] 42 rfl); have HL5 := hid ((HL.out.trans hL4).trans (Later.alloc w4 (.cells #[.int .i64 x, .int .i64 y] 42))); have HB5 := hid (show B < (w4.alloc (.cells #[.int .i64 x, .int .i64 y] 42)).heap.size by rw [World.size_alloc]; exact Nat.lt_succ_of_lt (Nat.lt_of_lt_of_le HSz.out hL4.size)); clear hL4; have c0 := (HN4.out 0 a rfl).1; have d0 := (HY.out 0 x rfl).1; have c1 := (HN4.out 1 b rfl).1; have d1 := (HY.out 1 y rfl).1)
          | (go_at_call 93; refine (HP.out _).mono ?_; rintro e w6 ⟨rfl, hL6⟩; have HN6 := hid (HN4.out.later hL6); have HL6 := hid (HL5.out.trans hL6); have HB6 := hid (Nat.lt_of_lt_of_le HB5.out hL6.size); clear hL6; have r0 := (HN6.out 0 a rfl).1; have f0 := (HN6.out 0 a rfl).2; have r1 := (HN6.out 1 b rfl).1; have f1 := (HN6.out 1 b rfl).2))
        have HN7 := hid (NBox.all2 HN6.out (a * x - b * y) (a * y + b * x))
        go_roundw
        case rel => exact ⟨(Below.setCell (p := ⟨B, 1, none⟩) (Below.setCell (p := ⟨B, 0, none⟩) HL6.out HW2.out _) HW2.out _), (by simp only [World.size_setCell]; exact HB6.out), .inr ⟨rfl, rfl, HN7.out⟩⟩
        case measure => simp [intOf]
      · go_wp2_with (first
          | (go_at_call 125; refine (HF1.out _ HL.out).mono ?_; rintro e w4 ⟨rfl, hL4⟩; have HN4 := hid ((HN.out.later hL4).later (Later.alloc w4 (.cells #[.int .i64 x, .int .i64 y] 42))); have HY := hid (NBox.new w4 [x, y] #[.int .i64 x, .int .i64 y] 42 rfl); have HL5 := hid ((HL.out.trans hL4).trans (Later.alloc w4 (.cells #[.int .i64 x, .int .i64 y] 42))); have HB5 := hid (show B < (w4.alloc (.cells #[.int .i64 x, .int .i64 y] 42)).heap.size by rw [World.size_alloc]; exact Nat.lt_succ_of_lt (Nat.lt_of_lt_of_le HSz.out hL4.size)); clear hL4; have c0 := (HN4.out 0 a rfl).1; have d0 := (HY.out 0 x rfl).1; have c1 := (HN4.out 1 b rfl).1; have d1 := (HY.out 1 y rfl).1)
          | (go_at_call 93; refine (HP.out _).mono ?_; rintro e w6 ⟨rfl, hL6⟩; have HN6 := hid (HN4.out.later hL6); have HL6 := hid (HL5.out.trans hL6); have HB6 := hid (Nat.lt_of_lt_of_le HB5.out hL6.size); clear hL6; have r0 := (HN6.out 0 a rfl).1; have f0 := (HN6.out 0 a rfl).2; have r1 := (HN6.out 1 b rfl).1; have f1 := (HN6.out 1 b rfl).2))
        have HN7 := hid (NBox.all2 HN6.out (a * x - b * y) (a * y + b * x))
        go_roundw
        case rel => exact ⟨(Below.setCell (p := ⟨B, 1, none⟩) (Below.setCell (p := ⟨B, 0, none⟩) HL6.out HW2.out _) HW2.out _), (by simp only [World.size_setCell]; exact HB6.out), .inr ⟨rfl, rfl, HN7.out⟩⟩
        case measure => simp [intOf]
    · have HL := hid hL
      have HN := hid hN
      clear hL hN
      have r0 := (HN.out 0 (a * x - b * y) rfl).1
      have r1 := (HN.out 1 (a * y + b * x) rfl).1
      cases hbb : (b0 && b1)
      · go_wp2_with fail
        go_ret2
        rw [HA.out, hbb]
        exact ⟨_, rfl, ⟨World.ownsRow_nil _ _ _ _, fun b hb => by simp [Value.ownBlock] at hb⟩, HL.out⟩
      · go_wp2_with (go_at_call 103; refine (HLI.out _).mono ?_; rintro e w7 ⟨v7, rfl, hO7, hL7⟩)
        go_ret2
        rw [HA.out, hbb]
        exact ⟨v7, rfl, hO7.wide HL.out.size (Nat.le_refl _), HL.out.trans hL7⟩
set_option maxHeartbeats 1000000 in
theorem implMultiplyTwo_any (v0 : Value) (z0 : List Int) (v1 : Value) (z1 : List Int) (w : World) (h0 : Ints w v0 z0) (h1 : Ints w v1 z1) :
    Calls Try.prog 39 #[v0, v1] w fun e w' => IntsAns w (mulTwoAns z0 z1) e w' := by
  obtain ⟨p1, c1, rfl, _⟩ := id h1
  have HLA := hid (Later.alloc w (.cells #[.slice p1 z1.length c1] 33))
  have HF := hid (productOfLists2_any v0 (.slice p1 z1.length c1) z0 z1 ⟨w.heap.size, 0, none⟩ (w.alloc (.cells #[.slice p1 z1.length c1] 33)) (h0.later HLA.out) (by simp [go_sem]) (h1.later HLA.out))
  clear h0 h1
  go_enter Try.func39, Try.ntmps39
  go_wp2_with (go_at_call 92; refine HF.out.mono ?_; rintro e w2 ⟨v, rfl, hO, hL⟩; have HO := hid (hO.wide HLA.out.size (Nat.le_refl _)); have HL := hid (HLA.out.trans hL); clear hO hL)
  go_ret2
  exact ⟨v, rfl, HO.out, HL.out⟩
theorem facL4_in (zs : List Int) : ∃ a b c d, facL4 zs = [a, b, c, d] ∧ In4 a ∧ In4 b ∧ In4 c ∧ In4 d := by
  unfold facL4
  split
  · rename_i h
    exact partsB_4 h
  · exact ⟨0, 0, 0, 0, rfl, ⟨by omega, by omega⟩, ⟨by omega, by omega⟩, ⟨by omega, by omega⟩, ⟨by omega, by omega⟩⟩
set_option maxRecDepth 100000 in
set_option maxHeartbeats 8000000 in
theorem productOfLists4_any (v0 v1 : Value) (z0 z1 : List Int) (vs : Addr) (w : World) (h0 : Ints w v0 z0) (hc : w.cell? vs = some v1) (h1 : Ints w v1 z1) :
    Calls Try.prog 80 #[.func (.func 74) #[] #[], v0, .slice (some vs) 1 1] w fun e w' => IntsAns w (mulFourAns z0 z1) e w' := by
  obtain ⟨a, b, c, d, hf0, ha, hb, hc, hd⟩ := facL4_in z0
  obtain ⟨x, y, z, t, hf1, hx, hy, hz, ht⟩ := facL4_in z1
  have HF0 := hid (factorOf4_any v0 z0 w h0)
  have HF1 := hid (fun w0 (hL : Later w w0) => factorOf4_any v1 z1 w0 (h1.later hL))
  rw [hf0] at HF0
  rw [hf1] at HF1
  simp only [List.map_cons, List.map_nil] at HF0 HF1
  have HP := hid (fun w => product4_any a b c d x y z t w ha.six hb.six hc.six hd.six hx.six hy.six hz.six ht.six)
  have HLI := hid (fun w => listC4_any (a * x + b * y + c * z + d * t) (a * y - b * x + c * t - d * z) (a * z - c * x + d * y - b * t) (a * t - d * x + b * z - c * y) w)
  obtain ⟨b0, hb0⟩ : ∃ b0, partsB 4 z0 = b0 := ⟨_, rfl⟩
  obtain ⟨b1, hb1⟩ : ∃ b1, partsB 4 z1 = b1 := ⟨_, rfl⟩
  have HA := hid (show mulFourAns z0 z1 = if (b0 && b1) = true then some [a * x + b * y + c * z + d * t, a * y - b * x + c * t - d * z, a * z - c * x + d * y - b * t, a * t - d * x + b * z - c * y] else none by
    rw [← hb0, ← hb1]
    unfold mulFourAns
    by_cases hh : partsB 4 z0 = true ∧ partsB 4 z1 = true
    · rw [if_pos hh, if_pos (by rw [hh.1, hh.2]; rfl)]
      have e0 : facL4 z0 = z0 := if_pos hh.1
      have e1 : facL4 z1 = z1 := if_pos hh.2
      rw [e0] at hf0
      rw [e1] at hf1
      rw [hf0, hf1]; rfl
    · rw [if_neg hh, if_neg (fun h => hh (by simpa using h))])
  rw [hb0] at HF0
  rw [hb1] at HF1
  clear ha hb hc hd hx hy hz ht hf0 hf1 h0 h1 hb0 hb1
  go_enter Try.func80, Try.ntmps80
  go_wp2_with (go_at_call 121; refine HF0.out.mono ?_; rintro e w2 ⟨rfl, hL2⟩; clear HF0; have HL2 := hid hL2; clear hL2)
  have HBX := hid (NBox.new w2 [a, b, c, d] #[.int .i64 a, .int .i64 b, .int .i64 c, .int .i64 d] 57 rfl)
  have HL3 := hid (HL2.out.trans (Later.alloc w2 (.cells #[.int .i64 a, .int .i64 b, .int .i64 c, .int .i64 d] 57)))
  have HS3 := hid (show w2.heap.size < (w2.alloc (.cells #[.int .i64 a, .int .i64 b, .int .i64 c, .int .i64 d] 57)).heap.size by simp)
  have HW2 := hid HL2.out.size
  obtain ⟨B, hB⟩ : ∃ B, w2.heap.size = B := ⟨_, rfl⟩
  rw [hB] at HBX HS3 HW2 ⊢
  obtain ⟨w3, hw3⟩ : ∃ w3, w2.alloc (.cells #[.int .i64 a, .int .i64 b, .int .i64 c, .int .i64 d] 57) = w3 := ⟨_, rfl⟩
  rw [hw3] at HBX HL3 HS3 ⊢
  clear hB hw3
  go_loopw [9, 21] (fun o i wr => Later w wr ∧ B < wr.heap.size ∧ ((i = .int .i64 0 ∧ o = .bool b0 ∧ NBox wr B [a, b, c, d]) ∨ (i = .int .i64 1 ∧ o = .bool (b0 && b1) ∧ NBox wr B [a * x + b * y + c * z + d * t, a * y - b * x + c * t - d * z, a * z - c * x + d * y - b * t, a * t - d * x + b * z - c * y]))) (fun _ i _ => 1 - (intOf i).toNat)
  case atStart => exact ⟨HL3.out, HS3.out, .inl ⟨rfl, rfl, HBX.out⟩⟩
  case round =>
    obtain ⟨hL, hS, (⟨rfl, rfl, hN⟩ | ⟨rfl, rfl, hN⟩)⟩ := hrel
    · have hcr := hL.cell hc
      have HL := hid hL
      have HN := hid hN
      have HSz := hid hS
      clear hL hN
      cases b0
      · go_wp2_with (first
          | (go_at_call 121; refine (HF1.out _ HL.out).mono ?_; rintro e w4 ⟨rfl, hL4⟩; have HN4 := hid ((HN.out.later hL4).later (Later.alloc w4 (.cells #[.int .i64 x, .int .i64 y, .int .i64 z, .int .i64 t] 57))); have HY := hid (NBox.new w4 [x, y, z, t] #[.int .i64 x, .int .i64 y, .int .i64 z, .int .i64 t] 57 rfl); have HL5 := hid ((HL.out.trans hL4).trans (Later.alloc w4 (.cells #[.int .i64 x, .int .i64 y, .int .i64 z, .int .i64 t] 57))); have HB5 := hid (show B < (w4.alloc (.cells #[.int .i64 x, .int .i64 y, .int .i64 z, .int .i64 t] 57)).heap.size by rw [World.size_alloc]; exact Nat.lt_succ_of_lt (Nat.lt_of_lt_of_le HSz.out hL4.size)); clear hL4; have c0 := (HN4.out 0 a rfl).1; have d0 := (HY.out 0 x rfl).1; have c1 := (HN4.out 1 b rfl).1; have d1 := (HY.out 1 y rfl).1; have c2 := (HN4.out 2 c rfl).1; have d2 := (HY.out 2 z rfl).1; have c3 := (HN4.out 3 d rfl).1; have d3 := (HY.out 3 t rfl).1)
          | (go_at_call 74; refine (HP.out _).mono ?_; rintro e w6 ⟨rfl, hL6⟩; have HN6 := hid (HN4.out.later hL6); have HL6 := hid (HL5.out.trans hL6); have HB6 := hid (Nat.lt_of_lt_of_le HB5.out hL6.size); clear hL6; have r0 := (HN6.out 0 a rfl).1; have f0 := (HN6.out 0 a rfl).2; have r1 := (HN6.out 1 b rfl).1; have f1 := (HN6.out 1 b rfl).2; have r2 := (HN6.out 2 c rfl).1; have f2 := (HN6.out 2 c rfl).2; have r3 := (HN6.out 3 d rfl).1; have f3 := (HN6.out 3 d rfl).2))
        have HN7 := hid (NBox.all4 HN6.out (a * x + b * y + c * z + d * t) (a * y - b * x + c * t - d * z) (a * z - c * x + d * y - b * t) (a * t - d * x + b * z - c * y))
        go_roundw
        case rel => exact ⟨(Below.setCell (p := ⟨B, 3, none⟩) (Below.setCell (p := ⟨B, 2, none⟩) (Below.setCell (p := ⟨B, 1, none⟩) (Below.setCell (p := ⟨B, 0, none⟩) HL6.out HW2.out _) HW2.out _) HW2.out _) HW2.out _), (by simp only [World.size_setCell]; exact HB6.out), .inr ⟨rfl, rfl, HN7.out⟩⟩
        case measure => simp [intOf]
      · go_wp2_with (first
          | (go_at_call 121; refine (HF1.out _ HL.out).mono ?_; rintro e w4 ⟨rfl, hL4⟩; have HN4 := hid ((HN.out.later hL4).later (Later.alloc w4 (.cells #[.int .i64 x, .int .i64 y, .int .i64 z, .int .i64 t] 57))); have HY := hid (NBox.new w4 [x, y, z, t] #[.int .i64 x, .int .i64 y, .int .i64 z, .int .i64 t] 57 rfl); have HL5 := hid ((HL.out.trans hL4).trans (Later.alloc w4 (.cells #[.int .i64 x, .int .i64 y, .int .i64 z, .int .i64 t] 57))); have HB5 := hid (show B < (w4.alloc (.cells #[.int .i64 x, .int .i64 y, .int .i64 z, .int .i64 t] 57)).heap.size by rw [World.size_alloc]; exact Nat.lt_succ_of_lt (Nat.lt_of_lt_of_le HSz.out hL4.size)); clear hL4; have c0 := (HN4.out 0 a rfl).1; have d0 := (HY.out 0 x rfl).1; have c1 := (HN4.out 1 b rfl).1; have d1 := (HY.out 1 y rfl).1; have c2 := (HN4.out 2 c rfl).1; have d2 := (HY.out 2 z rfl).1; have c3 := (HN4.out 3 d rfl).1; have d3 := (HY.out 3 t rfl).1)
          | (go_at_call 74; refine (HP.out _).mono ?_; rintro e w6 ⟨rfl, hL6⟩; have HN6 := hid (HN4.out.later hL6); have HL6 := hid (HL5.out.trans hL6); have HB6 := hid (Nat.lt_of_lt_of_le HB5.out hL6.size); clear hL6; have r0 := (HN6.out 0 a rfl).1; have f0 := (HN6.out 0 a rfl).2; have r1 := (HN6.out 1 b rfl).1; have f1 := (HN6.out 1 b rfl).2; have r2 := (HN6.out 2 c rfl).1; have f2 := (HN6.out 2 c rfl).2; have r3 := (HN6.out 3 d rfl).1; have f3 := (HN6.out 3 d rfl).2))
        have HN7 := hid (NBox.all4 HN6.out (a * x + b * y + c * z + d * t) (a * y - b * x + c * t - d * z) (a * z - c * x + d * y - b * t) (a * t - d * x + b * z - c * y))
        go_roundw
        case rel => exact ⟨(Below.setCell (p := ⟨B, 3, none⟩) (Below.setCell (p := ⟨B, 2, none⟩) (Below.setCell (p := ⟨B, 1, none⟩) (Below.setCell (p := ⟨B, 0, none⟩) HL6.out HW2.out _) HW2.out _) HW2.out _) HW2.out _), (by simp only [World.size_setCell]; exact HB6.out), .inr ⟨rfl, rfl, HN7.out⟩⟩
        case measure => simp [intOf]
    · have HL := hid hL
      have HN := hid hN
      clear hL hN
      have r0 := (HN.out 0 (a * x + b * y + c * z + d * t) rfl).1
      have r1 := (HN.out 1 (a * y - b * x + c * t - d * z) rfl).1
      have r2 := (HN.out 2 (a * z - c * x + d * y - b * t) rfl).1
      have r3 := (HN.out 3 (a * t - d * x + b * z - c * y) rfl).1
      cases hbb : (b0 && b1)
      · go_wp2_with fail
        go_ret2
        rw [HA.out, hbb]
        exact ⟨_, rfl, ⟨World.ownsRow_nil _ _ _ _, fun b hb => by simp [Value.ownBlock] at hb⟩, HL.out⟩
      · go_wp2_with (go_at_call 117; refine (HLI.out _).mono ?_; rintro e w7 ⟨v7, rfl, hO7, hL7⟩)
        go_ret2
        rw [HA.out, hbb]
        exact ⟨v7, rfl, hO7.wide HL.out.size (Nat.le_refl _), HL.out.trans hL7⟩
set_option maxHeartbeats 1000000 in
theorem implMultiplyFour_any (v0 : Value) (z0 : List Int) (v1 : Value) (z1 : List Int) (w : World) (h0 : Ints w v0 z0) (h1 : Ints w v1 z1) :
    Calls Try.prog 26 #[v0, v1] w fun e w' => IntsAns w (mulFourAns z0 z1) e w' := by
  obtain ⟨p1, c1, rfl, _⟩ := id h1
  have HLA := hid (Later.alloc w (.cells #[.slice p1 z1.length c1] 33))
  have HF := hid (productOfLists4_any v0 (.slice p1 z1.length c1) z0 z1 ⟨w.heap.size, 0, none⟩ (w.alloc (.cells #[.slice p1 z1.length c1] 33)) (h0.later HLA.out) (by simp [go_sem]) (h1.later HLA.out))
  clear h0 h1
  go_enter Try.func26, Try.ntmps26
  go_wp2_with (go_at_call 80; refine HF.out.mono ?_; rintro e w2 ⟨v, rfl, hO, hL⟩; have HO := hid (hO.wide HLA.out.size (Nat.le_refl _)); have HL := hid (HLA.out.trans hL); clear hO hL)
  go_ret2
  exact ⟨v, rfl, HO.out, HL.out⟩
end Go.Proofs.Ytofmmegpadojlaa
