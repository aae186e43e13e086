/- The walk of the law FnExactJumpAt, over whatever contracts the model's and the program's functions have. -/
import Derived.Test.YtkpnckcfoigceaaIntC
import Derived.Deep.RegionHeld3
import Derived.Deep.DeepCutAuto
namespace Go.Proofs.Ytkpnckcfoigceaa
open Go.RowKit

set_option maxRecDepth 20000 in
set_option maxHeartbeats 4000000 in
theorem lawJumpAt_gen (z0 : List Int) (x1 : Int) (x2 : Int) (x3 : Int) (o : Option (List Int)) (hob : (o.getD []).length ≤ 1000000000000)
    (hS : ∀ (v0 : Value) (w : World), IntsC w v0 z0 → Calls Try.prog 18 #[v0, .int .i64 x1, .int .i64 x2, .int .i64 x3] w fun e w' => IntsAns w o e w')
    (hI : ∀ (v0 : Value) (w : World), IntsC w v0 z0 → Calls Try.prog 19 #[v0, .int .i64 x1, .int .i64 x2, .int .i64 x3] w fun e w' => IntsAns w o e w')
    (v0 : Value) (w : World) (h0 : Ints w v0 z0) :
    Calls Try.prog 4 #[v0, .int .i64 x1, .int .i64 x2, .int .i64 x3] w fun e w' => e = .returned (.bool true) ∧ Later w w' := by
  have HS := hid hS
  have HI := hid hI
  clear hS hI
  obtain ⟨a00, cap00, rfl, hlen0, _⟩ := id h0
  have H0 := hid h0
  clear h0
  by_cases hz0 : z0.length ≤ 1048576
  · skip
    have hq0 : ¬ (1048576 : Int) < (z0.length : Int) := by omega
    have HN0 := hid hz0
    go_enter Try.func4, Try.ntmps4
    go_wp2_with fail
    refine (toIntS_any _ z0 _ HN0.out H0.out).mono ?_
    rintro e w1 ⟨y1, rfl, hown, hL⟩
    obtain ⟨a1, cap1, rfl, _⟩ := hown.shape
    have O2 := hid hown
    clear hown
    have L3 := hid (hL)
    have S4 := hid hL.size
    clear hL
    go_wp2_with fail
    refine (HS.out _ _ (O2.out.intsC)).mono ?_
    rintro e w5 ⟨y5, rfl, hown, hL⟩
    obtain ⟨a5, cap5, rfl, _⟩ := hown.shape
    have O6 := hid hown
    clear hown
    have O7 := hid (O2.out.later hL)
    have L8 := hid (L3.out.trans hL)
    have S9 := hid hL.size
    clear O2 L3 hL
    clear O7
    go_wp2_with fail
    refine (toIntS_any _ z0 _ HN0.out (H0.out.later L8.out)).mono ?_
    rintro e w10 ⟨y10, rfl, hown, hL⟩
    obtain ⟨a10, cap10, rfl, _⟩ := hown.shape
    have O11 := hid hown
    clear hown
    have O12 := hid (O6.out.later hL)
    have L13 := hid (L8.out.trans hL)
    have S14 := hid hL.size
    clear O6 L8 hL
    go_wp2_with fail
    refine (HI.out _ _ (O11.out.intsC)).mono ?_
    rintro e w15 ⟨y15, rfl, hown, hL⟩
    obtain ⟨a15, cap15, rfl, _⟩ := hown.shape
    have O16 := hid hown
    clear hown
    have O17 := hid (O12.out.later hL)
    have O18 := hid (O11.out.later hL)
    have L19 := hid (L13.out.trans hL)
    have S20 := hid hL.size
    clear O12 O11 L13 hL
    have hne0 : ((o.isSome) != (o.isSome)) = false := by simp
    go_wp2_with fail
    refine (eqIntS_any _ _ _ _ _ (O16.out.ints) (O17.out.ints)).mono ?_
    rintro e w21 ⟨rfl, hD⟩
    have hL := hD.later
    clear hD
    rw [eqL_self]
    have O22 := hid (O17.out.later hL)
    have O23 := hid (O18.out.later hL)
    have O24 := hid (O16.out.later hL)
    have L25 := hid (L19.out.trans hL)
    have S26 := hid hL.size
    clear O17 O18 O16 L19 hL
    go_wp2_with fail
    refine (toIntS_any _ z0 _ HN0.out (H0.out.later L25.out)).mono ?_
    rintro e w27 ⟨y27, rfl, hown, hL⟩
    obtain ⟨a27, cap27, rfl, _⟩ := hown.shape
    have O28 := hid hown
    clear hown
    have O29 := hid (O22.out.later hL)
    have O30 := hid (O23.out.later hL)
    have O31 := hid (O24.out.later hL)
    have L32 := hid (L25.out.trans hL)
    have S33 := hid hL.size
    clear O22 O23 O24 L25 hL
    go_wp2_with fail
    refine (eqIntS_any _ _ _ _ _ (O30.out.ints) (O28.out.ints)).mono ?_
    rintro e w34 ⟨rfl, hD⟩
    have hL := hD.later
    clear hD
    rw [eqL_self]
    have O35 := hid (O29.out.later hL)
    have O36 := hid (O30.out.later hL)
    have O37 := hid (O31.out.later hL)
    have O38 := hid (O28.out.later hL)
    have L39 := hid (L32.out.trans hL)
    have S40 := hid hL.size
    clear O29 O30 O31 O28 L32 hL
    clear O38
    go_wp2_with fail
    refine (markIntS_any w5.heap.size (w10.heap.size) _ _ _ _ ⟨by omega, by omega⟩ O36.out).mono ?_
    rintro e w41 ⟨rfl, hown, hW⟩
    have hW := hW.mono (fun b hb => O36.out.blk hb)
    have hL := Later.refl w34
    have O42 := hid ((O35.out.later hL).keep fun b h1 h2 => hW.block b (by have := S4.out; have := S9.out; have := S14.out; have := S20.out; have := S26.out; have := S33.out; have := S40.out; omega))
    clear O35
    have O43 := hid ((O37.out.later hL).keep fun b h1 h2 => hW.block b (by have := S4.out; have := S9.out; have := S14.out; have := S20.out; have := S26.out; have := S33.out; have := S40.out; omega))
    clear O37
    have O44 := hid hown
    clear hown O36
    have L45 := hid (show Later w w41 from Wrote.below (L39.out.trans hL) hW (fun b hb => by have := S4.out; have := S9.out; have := S14.out; have := S20.out; have := S26.out; have := S33.out; have := S40.out; omega))
    clear L39
    have S46 := hid (show w34.heap.size ≤ w41.heap.size by have := hL.size; have := hW.size; omega)
    clear hL hW
    have hkn : ¬ ((1 : Int) + (z0.length : Int)) < 0 := by omega
    go_wp2_with fail
    refine (eqIntS_any _ _ _ _ _ (O43.out.ints) (O42.out.ints)).mono ?_
    rintro e w47 ⟨rfl, hD⟩
    have hL := hD.later
    clear hD
    rw [eqL_self]
    have O48 := hid (O42.out.later hL)
    have O49 := hid (O44.out.later hL)
    have O50 := hid (O43.out.later hL)
    have L51 := hid (L45.out.trans hL)
    have S52 := hid hL.size
    clear O42 O44 O43 L45 hL
    go_wp2_with fail
    have hmm : (((1 : Int) + ((o.getD []).length : Int)) != ((1 : Int) + ((o.getD []).length : Int))) = false := by simp
    have hmn : ¬ (1 : Int) + ((o.getD []).length : Int) < 0 := by omega
    refine (markIntS_any w10.heap.size (w15.heap.size) _ _ _ _ ⟨by omega, by omega⟩ O50.out).mono ?_
    rintro e w53 ⟨rfl, hown, hW⟩
    have hW := hW.mono (fun b hb => O50.out.blk hb)
    have hL := Later.refl w47
    have O54 := hid ((O48.out.later hL).keep fun b h1 h2 => hW.block b (by have := S4.out; have := S9.out; have := S14.out; have := S20.out; have := S26.out; have := S33.out; have := S40.out; have := S46.out; have := S52.out; omega))
    clear O48
    have O55 := hid ((O49.out.later hL).keep fun b h1 h2 => hW.block b (by have := S4.out; have := S9.out; have := S14.out; have := S20.out; have := S26.out; have := S33.out; have := S40.out; have := S46.out; have := S52.out; omega))
    clear O49
    have O56 := hid hown
    clear hown O50
    have L57 := hid (show Later w w53 from Wrote.below (L51.out.trans hL) hW (fun b hb => by have := S4.out; have := S9.out; have := S14.out; have := S20.out; have := S26.out; have := S33.out; have := S40.out; have := S46.out; have := S52.out; omega))
    clear L51
    have S58 := hid (show w47.heap.size ≤ w53.heap.size by have := hL.size; have := hW.size; omega)
    clear hL hW
    go_wp2_with fail
    refine (heldIntS_any _ (o.getD []).length _ _ ⟨by omega, by omega⟩ O56.out.ints).mono ?_
    rintro e w59 ⟨rfl, rfl⟩
    go_wp2_with fail
    refine (toIntS_any _ z0 _ HN0.out (H0.out.later L57.out)).mono ?_
    rintro e w60 ⟨y60, rfl, hown, hL⟩
    obtain ⟨a60, cap60, rfl, _⟩ := hown.shape
    have O61 := hid hown
    clear hown
    have O62 := hid (O54.out.later hL)
    have O63 := hid (O55.out.later hL)
    have O64 := hid (O56.out.later hL)
    have L65 := hid (L57.out.trans hL)
    have S66 := hid hL.size
    clear O54 O55 O56 L57 hL
    go_wp2_with fail
    refine (HI.out _ _ (O61.out.intsC)).mono ?_
    rintro e w67 ⟨y67, rfl, hown, hL⟩
    obtain ⟨a67, cap67, rfl, _⟩ := hown.shape
    have O68 := hid hown
    clear hown
    have O69 := hid (O62.out.later hL)
    have O70 := hid (O63.out.later hL)
    have O71 := hid (O64.out.later hL)
    have O72 := hid (O61.out.later hL)
    have L73 := hid (L65.out.trans hL)
    have S74 := hid hL.size
    clear O62 O63 O64 O61 L65 hL
    clear O72
    go_wp2_with fail
    refine (eqIntS_any _ _ _ _ _ (O68.out.ints) (O69.out.ints)).mono ?_
    rintro e w75 ⟨rfl, hD⟩
    have hL := hD.later
    clear hD
    rw [eqL_self]
    have O76 := hid (O69.out.later hL)
    have O77 := hid (O70.out.later hL)
    have O78 := hid (O71.out.later hL)
    have O79 := hid (O68.out.later hL)
    have L80 := hid (L73.out.trans hL)
    have S81 := hid hL.size
    clear O69 O70 O71 O68 L73 hL
    go_wp2_with fail
    refine (heldIntS_any _ (o.getD []).length _ _ ⟨by omega, by omega⟩ O78.out.ints).mono ?_
    rintro e w82 ⟨rfl, rfl⟩
    go_wp2_with fail
    go_ret
    exact ⟨rfl, L80.out⟩
  · have hq0 : (1048576 : Int) < (z0.length : Int) := by omega
    go_enter Try.func4, Try.ntmps4
    go_wp2_with fail
    go_ret
    exact ⟨rfl, Later.refl w⟩
end Go.Proofs.Ytkpnckcfoigceaa
