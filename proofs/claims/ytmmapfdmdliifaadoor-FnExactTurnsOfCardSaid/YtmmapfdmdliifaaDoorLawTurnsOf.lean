/- The walk of the law FnExactTurnsOf, over whatever contracts the model's and the program's functions have. -/
import Derived.Test.YtmmapfdmdliifaaDoorStrsM
namespace Go.Proofs.YtmmapfdmdliifaaDoor
open Go.RowKit

set_option maxRecDepth 20000 in
set_option maxHeartbeats 4000000 in
theorem lawTurnsOf_gen (s0 : ByteArray) (o : Option (List (List UInt8))) (hob : (o.getD []).length ≤ 1000000000000)
    (hS : ∀ (w : World), s0.size ≤ 1048576 → Calls Tryd.prog 23 #[.string s0] w fun e w' => StrsAns w o e w')
    (hI : ∀ (w : World), s0.size ≤ 1048576 → Calls Tryd.prog 24 #[.string s0] w fun e w' => StrsAns w o e w')
    (w : World) :
    Calls Tryd.prog 8 #[.string s0] w fun e w' => e = .returned (.bool true) ∧ Later w w' := by
  have HS := hid hS
  have HI := hid hI
  clear hS hI
  by_cases hz0 : s0.size ≤ 1048576
  · have hq0 : ¬ (1048576 : Int) < (s0.size : Int) := by omega
    have HN0 := hid hz0
    go_enter Tryd.func8, Tryd.ntmps8
    go_wp2_with fail
    refine (HS.out _ HN0.out).mono ?_
    rintro e w1 ⟨y1, rfl, hown, hL⟩
    obtain ⟨a1, cap1, rfl, _⟩ := hown.shape
    have O1 := hid hown
    have L1 := hid hL
    have S1 := hid hL.size
    clear hown hL
    go_wp2_with fail
    refine (HI.out _ HN0.out).mono ?_
    rintro e w2 ⟨y2, rfl, hown, hL⟩
    obtain ⟨a2, cap2, rfl, _⟩ := hown.shape
    have O2 := hid hown
    have O3 := hid (O1.out.later hL)
    have L2 := hid (L1.out.trans hL)
    have S2 := hid hL.size
    clear hown hL O1 L1
    have hne0 : ((o.isSome) != (o.isSome)) = false := by simp
    go_wp2_with fail
    refine (eqStringS_any _ _ _ _ _ O2.out.strs O3.out.strs).mono ?_
    rintro e w3 ⟨rfl, hD⟩
    have hL := hD.later
    clear hD
    rw [eqS_self]
    have O4 := hid (O2.out.later hL)
    have O5 := hid (O3.out.later hL)
    have L3 := hid (L2.out.trans hL)
    have S3 := hid hL.size
    clear hL O2 O3 L2
    go_wp2_with fail
    refine (markStringS_one w1.heap.size w2.heap.size _ _ _ hob O4.out).mono ?_
    rintro e w4 ⟨rfl, hown, hT⟩
    have O6 := hid hown
    have O7 := hid (O5.out.keep fun b h1 h2 => hT.block b (by have := S1.out; have := S2.out; have := S3.out; omega) (fun hb => by have := O4.out.blk hb; omega))
    have L4 := hid (show Later w w4 from Turned.below L3.out hT (fun b hb => by have := O4.out.blk hb; have := S1.out; omega) (by have := S1.out; have := S2.out; have := S3.out; omega))
    clear hown hT O4 O5 L3
    have hmm : (((1 : Int) + ((o.getD []).length : Int)) != ((1 : Int) + ((o.getD []).length : Int))) = false := by simp
    have hmn : ¬ (1 : Int) + ((o.getD []).length : Int) < 0 := by omega
    go_wp2_with fail
    refine (heldStringS_one _ (o.getD []).length _ hob O6.out.strs).mono ?_
    rintro e w5 ⟨rfl, hL⟩
    have O8 := hid (O6.out.later hL)
    have O9 := hid (O7.out.later hL)
    have L5 := hid (L4.out.trans hL)
    clear hL O6 O7 L4
    go_wp2_with fail
    refine (HI.out _ HN0.out).mono ?_
    rintro e w6 ⟨y6, rfl, hown, hL⟩
    obtain ⟨a6, cap6, rfl, _⟩ := hown.shape
    have OA := hid hown
    have OB := hid (O8.out.later hL)
    have OC := hid (O9.out.later hL)
    have L6 := hid (L5.out.trans hL)
    clear hown hL O8 O9 L5
    go_wp2_with fail
    refine (eqStringS_any _ _ _ _ _ OA.out.strs OC.out.strs).mono ?_
    rintro e w7 ⟨rfl, hD⟩
    have hL := hD.later
    clear hD
    rw [eqS_self]
    have OD := hid (OB.out.later hL)
    have L7 := hid (L6.out.trans hL)
    clear hL OA OB OC L6
    go_wp2_with fail
    refine (heldStringS_one _ (o.getD []).length _ hob OD.out.strs).mono ?_
    rintro e w8 ⟨rfl, hL⟩
    have L8 := hid (L7.out.trans hL)
    clear hL OD L7
    go_wp2_with fail
    go_ret
    exact ⟨rfl, L8.out⟩
  · have hq0 : (1048576 : Int) < (s0.size : Int) := by omega
    go_enter Tryd.func8, Tryd.ntmps8
    go_wp2_with fail
    go_ret
    exact ⟨rfl, Later.refl w⟩
end Go.Proofs.YtmmapfdmdliifaaDoor
