/- The walk of the law FnExactIsDesk, and its functions. -/
import Derived.Test.YtofmmegpadojlabDkA
import Derived.Test.YtofmmegpadojlabMkSR
import Derived.Test.YtofmmegpadojlabQdE
import Derived.Test.YtofmmegpadojlabQdS
import Derived.Deep.DeepCutAuto
import Derived.Deep.RegionHeld3
namespace Go.Proofs.Ytofmmegpadojlab
open Go.RowKit

def dkB (zs qs : List Int) : Bool := mkGoodW zs && apB qs
set_option maxRecDepth 20000 in
set_option maxHeartbeats 1000000 in
theorem coGood_any (u v : Value) (zs qs : List Int) (w : World) (h1 : Ints w u zs) (h2 : Ints w v qs) :
    Calls Try.prog 78 #[.agg #[u, v]] w fun e w' => e = .returned (.bool (dkB zs qs)) ∧ Later w w' := by
  have HL := hid (Later.alloc w (.cells #[u, v] 46))
  have HM := hid (mkGood_any u zs _ (h1.later HL.out))
  have HA := hid (fun w' (h : Later w w') => apGood_any v qs w' (h2.later h))
  have HB := hid (Box2.new w u v 46)
  cases hg : mkGoodW zs
  · have HR := hid (show dkB zs qs = false by unfold dkB; rw [hg]; rfl)
    rw [hg] at HM
    clear h1 h2 hg
    go_enter Try.func78, Try.ntmps78
    go_wp2_with fail
    refine HM.out.mono ?_
    rintro e w1 ⟨rfl, hQ⟩
    have HL1 := hid (HL.out.trans hQ.later)
    clear hQ
    go_wp2_with fail
    go_ret
    exact ⟨by rw [HR.out]; rfl, HL1.out⟩
  · have HR := hid (show dkB zs qs = apB qs by unfold dkB; rw [hg]; rfl)
    rw [hg] at HM
    clear h1 h2 hg
    go_enter Try.func78, Try.ntmps78
    go_wp2_with fail
    refine HM.out.mono ?_
    rintro e w1 ⟨rfl, hQ⟩
    have HL1 := hid (HL.out.trans hQ.later)
    obtain ⟨c0, c1, _, _⟩ := HB.out.later hQ.later
    clear hQ
    go_wp2_with fail
    refine (HA.out _ HL1.out).mono ?_
    rintro e w2 ⟨rfl, rfl⟩
    go_wp2_with fail
    go_ret
    exact ⟨by rw [HR.out]; rfl, HL1.out⟩
set_option maxRecDepth 20000 in
set_option maxHeartbeats 1000000 in
theorem specIsDesk_any (u v : Value) (zs qs : List Int) (w : World) (h1 : Ints w u zs) (h2 : Ints w v qs) :
    Calls Try.prog 26 #[.agg #[u, v]] w fun e w' => e = .returned (.bool (dkB zs qs)) ∧ Later w w' := by
  have HL := hid (Later.alloc w (.cells #[u, v] 46))
  have HC := hid (coGood_any u v zs qs _ (h1.later HL.out) (h2.later HL.out))
  clear h1 h2
  go_enter Try.func26, Try.ntmps26
  go_wp2_with fail
  refine HC.out.mono ?_
  rintro e w1 ⟨rfl, hL⟩
  have HL1 := hid (HL.out.trans hL)
  clear hL
  go_wp2_with fail
  go_ret
  exact ⟨rfl, HL1.out⟩
set_option maxRecDepth 20000 in
set_option maxHeartbeats 1000000 in
theorem implIsDesk_any (u v : Value) (zs qs : List Int) (w : World) (h1 : Ints w u zs) (h2 : Ints w v qs) :
    Calls Try.prog 28 #[.agg #[u, v]] w fun e w' => e = .returned (.bool (dkB zs qs)) ∧ Later w w' := by
  have HL := hid (Later.alloc w (.cells #[u, v] 46))
  have HM := hid (implIsMarkov_any u zs _ (h1.later HL.out))
  have HA := hid (fun w' (h : Later w w') => implIsQuad_any v qs w' (h2.later h))
  have HB := hid (Box2.new w u v 46)
  cases hg : mkGoodW zs
  · have HR := hid (show dkB zs qs = false by unfold dkB; rw [hg]; rfl)
    rw [hg] at HM
    clear h1 h2 hg
    go_enter Try.func28, Try.ntmps28
    go_wp2_with fail
    refine HM.out.mono ?_
    rintro e w1 ⟨rfl, hQ⟩
    have HL1 := hid (HL.out.trans hQ)
    clear hQ
    go_wp2_with fail
    go_ret
    exact ⟨by rw [HR.out]; rfl, HL1.out⟩
  · have HR := hid (show dkB zs qs = apB qs by unfold dkB; rw [hg]; rfl)
    rw [hg] at HM
    clear h1 h2 hg
    go_enter Try.func28, Try.ntmps28
    go_wp2_with fail
    refine HM.out.mono ?_
    rintro e w1 ⟨rfl, hQ⟩
    have HL1 := hid (HL.out.trans hQ)
    obtain ⟨c0, c1, _, _⟩ := HB.out.later hQ
    clear hQ
    go_wp2_with fail
    refine (HA.out _ HL1.out).mono ?_
    rintro e w2 ⟨rfl, hL⟩
    have HL2 := hid (HL1.out.trans hL)
    clear hL
    go_wp2_with fail
    go_ret
    exact ⟨by rw [HR.out]; rfl, HL2.out⟩
set_option maxRecDepth 20000 in
set_option maxHeartbeats 4000000 in
theorem lawIsDesk_walk (u v : Value) (zs qs : List Int) (w : World) (h1 : Ints w u zs) (h2 : Ints w v qs) :
    Calls Try.prog 4 #[.agg #[u, v]] w fun e w' => e = .returned (.bool true) ∧ Later w w' := by
  have HL := hid (Later.alloc w (.cells #[u, v] 43))
  have HB := hid (Box2.new w u v 43)
  have H1 := hid (h1.later HL.out)
  have H2 := hid (h2.later HL.out)
  have HS := hid (szDesk_any u v zs qs 1048576 _ ⟨by omega, by omega⟩ H1.out H2.out)
  clear h1 h2
  go_enter Try.func4, Try.ntmps4
  go_upto_region 2 with fail
  generalize w.alloc (.cells #[u, v] 43) = W at HL HB H1 H2 HS ⊢
  obtain ⟨c0, c1, _, _⟩ := HB.out
  go_wp2_with fail
  refine HS.out.mono ?_
  rintro e w1 ⟨⟨r, rfl, hr⟩, hL1⟩
  have HB := hid (HB.out.later hL1)
  have H1 := hid (H1.out.later hL1)
  have H2 := hid (H2.out.later hL1)
  have HL1 := hid (HL.out.trans hL1)
  clear hL1 HS HL c0 c1
  rcases hr with rfl | ⟨r0, hn, hm⟩
  · go_wp2_with fail
    go_ret
    exact ⟨rfl, HL1.out⟩
  · have hr1 : ¬ r < 0 := by omega
    have HN := hid (And.intro hn hm)
    obtain ⟨c0, c1, _, _⟩ := HB.out
    clear hn hm
    go_wp2_with fail
    refine (toDesk_any u v zs qs w1 (by have := HN.out; omega) (by have := HN.out; omega) H1.out H2.out).mono ?_
    rintro e w2 ⟨u2, v2, rfl, hu2, hv2, hL2⟩
    have HB := hid (HB.out.later hL2)
    have H1 := hid (H1.out.later hL2)
    have H2 := hid (H2.out.later hL2)
    have HC := hid (specIsDesk_any u2 v2 zs qs w2 hu2 hv2)
    have HL2 := hid (HL1.out.trans hL2)
    clear hL2 hu2 hv2 c0 c1
    go_wp2_with fail
    refine HC.out.mono ?_
    rintro e w3 ⟨rfl, hL3⟩
    have HB := hid (HB.out.later hL3)
    have H1 := hid (H1.out.later hL3)
    have H2 := hid (H2.out.later hL3)
    have HL3 := hid (HL2.out.trans hL3)
    clear hL3
    obtain ⟨b, hb⟩ : ∃ b, dkB zs qs = b := ⟨_, rfl⟩
    have HBB := hid hb
    rw [hb]
    clear hb
    obtain ⟨c0, c1, _, _⟩ := HB.out
    go_wp2_with fail
    refine (toDesk_any u v zs qs w3 (by have := HN.out; omega) (by have := HN.out; omega) H1.out H2.out).mono ?_
    rintro e w4 ⟨u4, v4, rfl, hu4, hv4, hL4⟩
    obtain ⟨a4, k4, rfl, _⟩ := id hu4
    obtain ⟨b4, l4, rfl, _⟩ := id hv4
    have hA := Later.alloc w4 (.cells #[(.slice a4 zs.length k4), (.slice b4 qs.length l4)] 46)
    have HX := hid (Box2.new w4 (.slice a4 zs.length k4) (.slice b4 qs.length l4) 46)
    have HB := hid (HB.out.later (hL4.trans hA))
    have H1 := hid (H1.out.later (hL4.trans hA))
    have H2 := hid (H2.out.later (hL4.trans hA))
    have H3 := hid (hu4.later hA)
    have H4 := hid (hv4.later hA)
    have HL4 := hid (HL3.out.trans (hL4.trans hA))
    clear hL4 hu4 hv4 hA c0 c1
    go_upto_region 7 with fail
    generalize w4.alloc (.cells #[(.slice a4 zs.length k4), (.slice b4 qs.length l4)] 46) = W4 at HX HB H1 H2 H3 H4 HL4 ⊢
    obtain ⟨B4, hB4⟩ : ∃ B, w4.heap.size = B := ⟨_, rfl⟩
    rw [hB4] at HX ⊢
    clear hB4
    obtain ⟨c0, c1, _, _⟩ := HB.out
    obtain ⟨x0, x1, _, _⟩ := HX.out
    go_wp2_with fail
    refine (implIsDesk_any (.slice a4 zs.length k4) (.slice b4 qs.length l4) zs qs W4 H3.out H4.out).mono ?_
    rintro e w5 ⟨rfl, hL5⟩
    have HB := hid (HB.out.later hL5)
    have HX := hid (HX.out.later hL5)
    have H1 := hid (H1.out.later hL5)
    have H2 := hid (H2.out.later hL5)
    have H3 := hid (H3.out.later hL5)
    have H4 := hid (H4.out.later hL5)
    have HL5 := hid (HL4.out.trans hL5)
    clear hL5 c0 c1 x0 x1
    rw [HBB.out]
    have hbb : (b != b) = false := by simp
    go_upto_region 10 with fail
    obtain ⟨c0, c1, _, _⟩ := HB.out
    obtain ⟨x0, x1, _, _⟩ := HX.out
    go_region_held3 (fun w' => w'.cell? ⟨w.heap.size, 0, none⟩ = some u ∧ w'.cell? ⟨w.heap.size, 1, none⟩ = some v ∧ w'.cell? ⟨B4, 0, none⟩ = some (.slice a4 zs.length k4) ∧ w'.cell? ⟨B4, 1, none⟩ = some (.slice b4 qs.length l4))
      (first | exact ⟨c0, c1, x0, x1⟩ | exact HK7.out | exact HK8.out)
      (first | (go_at_call 27; refine (toDesk_any u v zs qs _ (by have := HN.out; omega) (by have := HN.out; omega) (H1.out.later (Later.drew w5)) (H2.out.later (Later.drew w5))).mono ?_; rintro e w7 ⟨u7, v7, rfl, hu7, hv7, hL⟩; have HK7 := hid (And.intro (hL.cell c0) (And.intro (hL.cell c1) (And.intro (hL.cell x0) (hL.cell x1)))); have H7 := hid hu7; have H8 := hid hv7; have HL7 := hid ((Later.drew w5).trans hL); clear hL hu7 hv7) | (go_at_call 29; refine (eqDesk_same _ _ _ _ zs qs _ (H3.out.later HL7.out) (H4.out.later HL7.out) H7.out H8.out).mono ?_; rintro e w8 ⟨rfl, hL8⟩; have HK8 := hid (And.intro (hL8.cell HK7.out.1) (And.intro (hL8.cell HK7.out.2.1) (And.intro (hL8.cell HK7.out.2.2.1) (hL8.cell HK7.out.2.2.2)))); have HL8 := hid (HL5.out.trans (HL7.out.trans hL8)); clear hL8))
    all_goals
      go_wp2_with fail
      go_ret
      exact ⟨rfl, HL8.out⟩
end Go.Proofs.Ytofmmegpadojlab
