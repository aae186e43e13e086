/- The walk of the law FnExactJumpMatrix, over whatever contracts the model's and the program's functions have. -/
import Derived.Test.YtdngocjhblpkkaaAns
import Derived.Deep.RegionHeld3
import Derived.Deep.DeepCutAuto
namespace Go.Proofs.Ytdngocjhblpkkaa
open Go.RowKit

set_option maxRecDepth 20000 in
set_option maxHeartbeats 4000000 in
theorem lawJumpMatrix_gen (x0 : Int) (o : Option (List (List Int))) (hob : off (o.getD []) (o.getD []).length ≤ 1000000000000)
    (hS : ∀ (w : World), Calls Try.prog 22 #[.int .i64 x0] w fun e w' => MatAns w o e w')
    (hI : ∀ (w : World), Calls Try.prog 23 #[.int .i64 x0] w fun e w' => MatAns w o e w')
    (w : World)  :
    Calls Try.prog 9 #[.int .i64 x0] w fun e w' => e = .returned (.bool true) ∧ Later w w' := by
  have HS := hid hS
  have HI := hid hI
  clear hS hI
  go_enter Try.func9, Try.ntmps9
  go_wp2_with fail
  refine (HS.out _ ).mono ?_
  rintro e w1 ⟨y1, rfl, hown, hL⟩
  obtain ⟨a1, cap1, rfl, _⟩ := hown.shape
  have O2 := hid hown
  clear hown
  have L3 := hid (hL)
  have S4 := hid hL.size
  clear hL
  have hA := Later.alloc w1 (.cells #[Value.slice a1 (o.getD []).length cap1] 34)
  have O7 := hid (O2.out.later hA)
  have L8 := hid (L3.out.trans hA)
  have S9 := hid (And.intro hA.size (show w1.heap.size < (w1.alloc (.cells #[Value.slice a1 (o.getD []).length cap1] 34)).heap.size by simp))
  clear hA
  go_wp2_with fail
  have hx6 : (w1.alloc (.cells #[Value.slice a1 (o.getD []).length cap1] 34)).cell? ⟨w1.heap.size, 0, none⟩ = some (Value.slice a1 (o.getD []).length cap1) := by simp [go_sem]
  clear O2 L3
  generalize (w1.alloc (.cells #[Value.slice a1 (o.getD []).length cap1] 34)) = w5 at hx6 O7 L8 S9 ⊢
  refine (HI.out _ ).mono ?_
  rintro e w10 ⟨y10, rfl, hown, hL⟩
  obtain ⟨a10, cap10, rfl, _⟩ := hown.shape
  have O11 := hid hown
  clear hown
  have hc12 := hL.cell hx6
  have O13 := hid (O7.out.later hL)
  have L14 := hid (L8.out.trans hL)
  have S15 := hid hL.size
  clear hx6 O7 L8 hL
  have hne0 : ((o.isSome) != (o.isSome)) = false := by simp
  have hA := Later.alloc w10 (.cells #[Value.slice a10 (o.getD []).length cap10] 34)
  have hc18 := hA.cell hc12
  have O19 := hid (O13.out.later hA)
  have O20 := hid (O11.out.later hA)
  have L21 := hid (L14.out.trans hA)
  have S22 := hid (And.intro hA.size (show w10.heap.size < (w10.alloc (.cells #[Value.slice a10 (o.getD []).length cap10] 34)).heap.size by simp))
  clear hA
  go_wp2_with fail
  have hx17 : (w10.alloc (.cells #[Value.slice a10 (o.getD []).length cap10] 34)).cell? ⟨w10.heap.size, 0, none⟩ = some (Value.slice a10 (o.getD []).length cap10) := by simp [go_sem]
  clear hc12 O13 O11 L14
  generalize (w10.alloc (.cells #[Value.slice a10 (o.getD []).length cap10] 34)) = w16 at hx17 hc18 O19 O20 L21 S22 ⊢
  refine (eqMatrix_any _ _ _ _ _ (O20.out.rows) (O19.out.rows)).mono ?_
  rintro e w23 ⟨rfl, hL⟩
  rw [eqLL_self]
  have hc24 := hL.cell hc18
  have hc25 := hL.cell hx17
  have O26 := hid (O19.out.later hL)
  have O27 := hid (O20.out.later hL)
  have L28 := hid (L21.out.trans hL)
  have S29 := hid hL.size
  clear hc18 hx17 O19 O20 L21 hL
  go_wp2_with fail
  have hmm : (((1 : Int) + (off (o.getD []) (o.getD []).length : Int)) != ((1 : Int) + (off (o.getD []) (o.getD []).length : Int))) = false := by simp
  have hmn : ¬ (1 : Int) + (off (o.getD []) (o.getD []).length : Int) < 0 := by omega
  refine (markMatrix_any w5.heap.size (w10.heap.size) _ _ _ _ ⟨by omega, by omega⟩ O27.out).mono ?_
  rintro e w30 ⟨wm30, hL, rfl, hown, hW⟩
  have hc31 := cell_keep (hL.cell hc24) (hW.block _ (show ¬ (w5.heap.size ≤ w1.heap.size ∧ w1.heap.size < w10.heap.size) by have := S4.out; have := S9.out; have := S15.out; have := S22.out; have := S29.out; omega))
  clear hc24
  have hc32 := cell_keep (hL.cell hc25) (hW.block _ (show ¬ (w5.heap.size ≤ w10.heap.size ∧ w10.heap.size < w10.heap.size) by have := S4.out; have := S9.out; have := S15.out; have := S22.out; have := S29.out; omega))
  clear hc25
  have O33 := hid ((O26.out.later hL).keep fun b h1 h2 => hW.block b (by have := S4.out; have := S9.out; have := S15.out; have := S22.out; have := S29.out; omega))
  clear O26
  have O34 := hid hown
  clear hown O27
  have L35 := hid (show Later w w30 from Wrote.below (L28.out.trans hL) hW (fun b hb => by have := S4.out; have := S9.out; have := S15.out; have := S22.out; have := S29.out; omega))
  clear L28
  have S36 := hid (show w23.heap.size ≤ w30.heap.size by have := hL.size; have := hW.size; omega)
  clear hL hW
  go_wp2_with fail
  refine (heldMatrix_any _ (o.getD []) _ _ ⟨by omega, by omega⟩ O34.out.rows).mono ?_
  rintro e w37 ⟨rfl, hL⟩
  have hc38 := hL.cell hc31
  have hc39 := hL.cell hc32
  have O40 := hid (O33.out.later hL)
  have O41 := hid (O34.out.later hL)
  have L42 := hid (L35.out.trans hL)
  have S43 := hid hL.size
  clear hc31 hc32 O33 O34 L35 hL
  go_wp2_with fail
  refine (HI.out _ ).mono ?_
  rintro e w44 ⟨y44, rfl, hown, hL⟩
  obtain ⟨a44, cap44, rfl, _⟩ := hown.shape
  have O45 := hid hown
  clear hown
  have hc46 := hL.cell hc38
  have hc47 := hL.cell hc39
  have O48 := hid (O40.out.later hL)
  have O49 := hid (O41.out.later hL)
  have L50 := hid (L42.out.trans hL)
  have S51 := hid hL.size
  clear hc38 hc39 O40 O41 L42 hL
  have hA := Later.alloc w44 (.cells #[Value.slice a44 (o.getD []).length cap44] 34)
  have hc54 := hA.cell hc46
  have hc55 := hA.cell hc47
  have O56 := hid (O48.out.later hA)
  have O57 := hid (O49.out.later hA)
  have O58 := hid (O45.out.later hA)
  have L59 := hid (L50.out.trans hA)
  have S60 := hid (And.intro hA.size (show w44.heap.size < (w44.alloc (.cells #[Value.slice a44 (o.getD []).length cap44] 34)).heap.size by simp))
  clear hA
  go_wp2_with fail
  have hx53 : (w44.alloc (.cells #[Value.slice a44 (o.getD []).length cap44] 34)).cell? ⟨w44.heap.size, 0, none⟩ = some (Value.slice a44 (o.getD []).length cap44) := by simp [go_sem]
  clear hc46 hc47 O48 O49 O45 L50
  generalize (w44.alloc (.cells #[Value.slice a44 (o.getD []).length cap44] 34)) = w52 at hx53 hc54 hc55 O56 O57 O58 L59 S60 ⊢
  refine (eqMatrix_any _ _ _ _ _ (O58.out.rows) (O56.out.rows)).mono ?_
  rintro e w61 ⟨rfl, hL⟩
  rw [eqLL_self]
  have hc62 := hL.cell hc54
  have hc63 := hL.cell hc55
  have hc64 := hL.cell hx53
  have O65 := hid (O56.out.later hL)
  have O66 := hid (O57.out.later hL)
  have O67 := hid (O58.out.later hL)
  have L68 := hid (L59.out.trans hL)
  have S69 := hid hL.size
  clear hc54 hc55 hx53 O56 O57 O58 L59 hL
  go_wp2_with fail
  refine (heldMatrix_any _ (o.getD []) _ _ ⟨by omega, by omega⟩ O66.out.rows).mono ?_
  rintro e w70 ⟨rfl, hL⟩
  have hc71 := hL.cell hc62
  have hc72 := hL.cell hc63
  have hc73 := hL.cell hc64
  have O74 := hid (O65.out.later hL)
  have O75 := hid (O66.out.later hL)
  have O76 := hid (O67.out.later hL)
  have L77 := hid (L68.out.trans hL)
  have S78 := hid hL.size
  clear hc62 hc63 hc64 O65 O66 O67 L68 hL
  go_wp2_with fail
  go_ret
  exact ⟨rfl, L77.out⟩
end Go.Proofs.Ytdngocjhblpkkaa
