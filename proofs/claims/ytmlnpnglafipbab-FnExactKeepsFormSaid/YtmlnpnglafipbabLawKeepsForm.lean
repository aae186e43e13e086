/- The walk of the law FnExactKeepsForm, over whatever contracts the model's and the program's functions have. -/
import Derived.Test.YtmlnpnglafipbabAns
import Derived.Deep.RegionHeld3
import Derived.Deep.DeepCutAuto
namespace Go.Proofs.Ytmlnpnglafipbab
open Go.RowKit

set_option maxRecDepth 20000 in
set_option maxHeartbeats 4000000 in
theorem lawKeepsForm_gen (z0 : List (List Int)) (z1 : List (List Int)) (o : Option Bool)
    (hS : ∀ (v0 : Value) (v1 : Value) (w : World), Rows2 w v0 z0 → Rows2 w v1 z1 → Calls Try.prog 29 #[.agg #[v0], .agg #[v1]] w fun e w' => BoolAns w o e w')
    (hI : ∀ (v0 : Value) (v1 : Value) (w : World), Rows2 w v0 z0 → Rows2 w v1 z1 → Calls Try.prog 31 #[.agg #[v0], .agg #[v1]] w fun e w' => BoolAns w o e w')
    (v0 : Value) (v1 : Value) (w : World) (h0 : Rows2 w v0 z0) (h1 : Rows2 w v1 z1) :
    Calls Try.prog 8 #[.agg #[v0], .agg #[v1]] w fun e w' => e = .returned (.bool true) ∧ Later w w' := by
  have HS := hid hS
  have HI := hid hI
  clear hS hI
  obtain ⟨a00, cap00, rfl, hlen0, _⟩ := id h0
  have H0 := hid h0
  clear h0
  obtain ⟨a01, cap01, rfl, hlen1, _⟩ := id h1
  have H1 := hid h1
  clear h1
  go_enter Try.func8, Try.ntmps8
  go_wp2_with fail
  have hx1 : ((w.alloc (.cells #[Value.slice a00 z0.length cap00] 39)).alloc (.cells #[Value.slice a01 z1.length cap01] 39)).cell? ⟨w.heap.size, 0, none⟩ = some (Value.slice a00 z0.length cap00) := by simp [go_sem]
  have hx2 : ((w.alloc (.cells #[Value.slice a00 z0.length cap00] 39)).alloc (.cells #[Value.slice a01 z1.length cap01] 39)).cell? ⟨w.heap.size + 1, 0, none⟩ = some (Value.slice a01 z1.length cap01) := by simp [go_sem]
  have L3 : Hid (Later w ((w.alloc (.cells #[Value.slice a00 z0.length cap00] 39)).alloc (.cells #[Value.slice a01 z1.length cap01] 39))) := hid ((Later.alloc _ _).trans (Later.alloc _ _))
  have S4 := hid (show w.heap.size + 2 ≤ ((w.alloc (.cells #[Value.slice a00 z0.length cap00] 39)).alloc (.cells #[Value.slice a01 z1.length cap01] 39)).heap.size by simp)
  generalize ((w.alloc (.cells #[Value.slice a00 z0.length cap00] 39)).alloc (.cells #[Value.slice a01 z1.length cap01] 39)) = w5 at hx1 hx2 L3 S4 ⊢
  refine (szMatrix_any _ z0 _ _ ⟨by omega, by omega⟩ (H0.out.later L3.out)).mono ?_
  rintro e w6 ⟨⟨r0, rfl, hr0⟩, hL⟩
  have hc7 := hL.cell hx1
  have hc8 := hL.cell hx2
  have L9 := hid (L3.out.trans hL)
  have S10 := hid hL.size
  clear hx1 hx2 L3 hL
  rcases hr0 with rfl | ⟨hr0a, hr0b, hr0n, hns0⟩
  · go_wp2_with fail
    go_ret
    exact ⟨rfl, L9.out⟩
  · have hnr0 : ¬ r0 < 0 := by omega
    have HN0 := hid (show z0.length ≤ 1048576 ∧ ∀ i, i < z0.length → (z0.getD i []).length ≤ 1048576 from ⟨by omega, fun i hi => by have := hns0 i hi; omega⟩)
    have hoff0 := off_args z0 HN0.out.2 HN0.out.1
    clear hns0
    go_wp2_with fail
    refine (szMatrix_any _ z1 _ _ ⟨by omega, by omega⟩ (H1.out.later L9.out)).mono ?_
    rintro e w11 ⟨⟨r1, rfl, hr1⟩, hL⟩
    have hc12 := hL.cell hc7
    have hc13 := hL.cell hc8
    have L14 := hid (L9.out.trans hL)
    have S15 := hid hL.size
    clear hc7 hc8 L9 hL
    rcases hr1 with rfl | ⟨hr1a, hr1b, hr1n, hns1⟩
    · go_wp2_with fail
      go_ret
      exact ⟨rfl, L14.out⟩
    · have hnr1 : ¬ r1 < 0 := by omega
      have HN1 := hid (show z1.length ≤ 1048576 ∧ ∀ i, i < z1.length → (z1.getD i []).length ≤ 1048576 from ⟨by omega, fun i hi => by have := hns1 i hi; omega⟩)
      have hoff1 := off_args z1 HN1.out.2 HN1.out.1
      clear hns1
      go_wp2_with fail
      go_region_held3 (fun w' => w'.cell? ⟨w.heap.size, 0, none⟩ = some (Value.slice a00 z0.length cap00) ∧ w'.cell? ⟨w.heap.size + 1, 0, none⟩ = some (Value.slice a01 z1.length cap01)) (first | exact ⟨hc12, hc13⟩ | exact ⟨f12, f13⟩ | exact ⟨g12, g13⟩ | exact ⟨h12, h13⟩) (first | (have hh := O23; clear hh; go_at_call 29; refine (HS.out _ _ _ (O17.out.rows.later LB.out) O23.out.rows).mono ?_; rintro e w30 ⟨rfl, hL⟩; have L30 : Hid (Later w11 w30) := hid (LAB.out.trans hL); have h12 := L30.out.cell hc12; have h13 := L30.out.cell hc13; clear hL) | (have hh := O17; clear hh; go_at_call 30; refine (toMatrix_any _ z1 _ HN1.out.1 HN1.out.2 (H1.out.later (L14.out.trans LA.out))).mono ?_; rintro e w22 ⟨y22, rfl, hown, hL⟩; obtain ⟨a22, cap22, rfl, _⟩ := hown.shape; have O23 := hid hown; have LB : Hid (Later w16 w22) := hid hL; have LAB := hid (LA.out.trans LB.out); have g12 := LAB.out.cell hc12; have g13 := LAB.out.cell hc13; clear hown hL) | (go_at_call 30; refine (toMatrix_any _ z0 _ HN0.out.1 HN0.out.2 (H0.out.later (L14.out.trans (Later.drew w11)))).mono ?_; rintro e w16 ⟨y16, rfl, hown, hL⟩; obtain ⟨a16, cap16, rfl, _⟩ := hown.shape; have O17 := hid hown; have LA : Hid (Later w11 w16) := hid ((Later.drew w11).trans hL); have f12 := LA.out.cell hc12; have f13 := LA.out.cell hc13; clear hown hL))
      have hL := L30.out
      clear L30 LA LB LAB O17 O23 f12 f13 g12 g13 h12 h13
      have hc16 := hL.cell hc12
      have hc17 := hL.cell hc13
      have L18 := hid (L14.out.trans hL)
      have S19 := hid hL.size
      clear hc12 hc13 L14 hL
      go_wp2_with fail
      refine (toMatrix_any _ z0 _ HN0.out.1 HN0.out.2 (H0.out.later L18.out)).mono ?_
      rintro e w20 ⟨y20, rfl, hown, hL⟩
      obtain ⟨a20, cap20, rfl, _⟩ := hown.shape
      have O21 := hid hown
      clear hown
      have hc22 := hL.cell hc16
      have hc23 := hL.cell hc17
      have L24 := hid (L18.out.trans hL)
      have S25 := hid hL.size
      clear hc16 hc17 L18 hL
      have hA := Later.alloc w20 (.cells #[Value.slice a20 z0.length cap20] 42)
      have hc28 := hA.cell hc22
      have hc29 := hA.cell hc23
      have O30 := hid (O21.out.later hA)
      have L31 := hid (L24.out.trans hA)
      have S32 := hid (And.intro hA.size (show w20.heap.size < (w20.alloc (.cells #[Value.slice a20 z0.length cap20] 42)).heap.size by simp))
      clear hA
      go_wp2_with fail
      have hx27 : (w20.alloc (.cells #[Value.slice a20 z0.length cap20] 42)).cell? ⟨w20.heap.size, 0, none⟩ = some (Value.slice a20 z0.length cap20) := by simp [go_sem]
      clear hc22 hc23 O21 L24
      generalize (w20.alloc (.cells #[Value.slice a20 z0.length cap20] 42)) = w26 at hx27 hc28 hc29 O30 L31 S32 ⊢
      refine (toMatrix_any _ z1 _ HN1.out.1 HN1.out.2 (H1.out.later L31.out)).mono ?_
      rintro e w33 ⟨y33, rfl, hown, hL⟩
      obtain ⟨a33, cap33, rfl, _⟩ := hown.shape
      have O34 := hid hown
      clear hown
      have hc35 := hL.cell hc28
      have hc36 := hL.cell hc29
      have hc37 := hL.cell hx27
      have O38 := hid (O30.out.later hL)
      have L39 := hid (L31.out.trans hL)
      have S40 := hid hL.size
      clear hc28 hc29 hx27 O30 L31 hL
      have hA := Later.alloc w33 (.cells #[Value.slice a33 z1.length cap33] 42)
      have hc43 := hA.cell hc35
      have hc44 := hA.cell hc36
      have hc45 := hA.cell hc37
      have O46 := hid (O38.out.later hA)
      have O47 := hid (O34.out.later hA)
      have L48 := hid (L39.out.trans hA)
      have S49 := hid (And.intro hA.size (show w33.heap.size < (w33.alloc (.cells #[Value.slice a33 z1.length cap33] 42)).heap.size by simp))
      clear hA
      go_wp2_with fail
      have hx42 : (w33.alloc (.cells #[Value.slice a33 z1.length cap33] 42)).cell? ⟨w33.heap.size, 0, none⟩ = some (Value.slice a33 z1.length cap33) := by simp [go_sem]
      clear hc35 hc36 hc37 O38 O34 L39
      generalize (w33.alloc (.cells #[Value.slice a33 z1.length cap33] 42)) = w41 at hx42 hc43 hc44 hc45 O46 O47 L48 S49 ⊢
      refine (HI.out _ _ _ (O46.out.rows) (O47.out.rows)).mono ?_
      rintro e w50 ⟨rfl, hL⟩
      have hc51 := hL.cell hc43
      have hc52 := hL.cell hc44
      have hc53 := hL.cell hc45
      have hc54 := hL.cell hx42
      have O55 := hid (O46.out.later hL)
      have O56 := hid (O47.out.later hL)
      have L57 := hid (L48.out.trans hL)
      have S58 := hid hL.size
      clear hc43 hc44 hc45 hx42 O46 O47 L48 hL
      have hne0 : ((o.getD false) != (o.getD false)) = false := by simp
      have hne1 : ((o.isSome) != (o.isSome)) = false := by simp
      go_wp2_with fail
      go_region_held3 (fun w' => w'.cell? ⟨w.heap.size, 0, none⟩ = some (Value.slice a00 z0.length cap00) ∧ w'.cell? ⟨w20.heap.size, 0, none⟩ = some (Value.slice a20 z0.length cap20)) (first | exact ⟨hc51, hc53⟩ | exact ⟨hra59, hrx59⟩ | exact ⟨hsa59, hsx59⟩) (first | (go_at_call 30; refine (toMatrix_any _ z0 _ HN0.out.1 HN0.out.2 (H0.out.later (L57.out.trans (Later.drew w50)))).mono ?_; rintro e wr59 ⟨yr59, rfl, hor59, hLr59⟩; have Rr59 := hid hor59.rows; have hra59 := hLr59.cell hc51; have hrx59 := hLr59.cell hc53; have Lr59 := hid ((Later.drew w50).trans hLr59); clear hLr59 hor59) | (go_at_call 32; refine (eqMatrix_any _ _ _ _ _ ((O55.out.rows).later Lr59.out) Rr59.out).mono ?_; rintro e ws59 ⟨rfl, hLs59⟩; have hsa59 := hLs59.cell hra59; have hsx59 := hLs59.cell hrx59; have Ls59 := hid (Lr59.out.trans hLs59); clear hLs59; rw [eqLL_self]))
      have hL := Ls59.out
      clear hsa59 hsx59 hra59 hrx59
      have hc60 := hL.cell hc51
      have hc61 := hL.cell hc52
      have hc62 := hL.cell hc53
      have hc63 := hL.cell hc54
      have O64 := hid (O55.out.later hL)
      have O65 := hid (O56.out.later hL)
      have L66 := hid (L57.out.trans hL)
      have S67 := hid hL.size
      clear hc51 hc52 hc53 hc54 O55 O56 L57 hL
      go_wp2_with fail
      go_region_held3 (fun w' => w'.cell? ⟨w.heap.size + 1, 0, none⟩ = some (Value.slice a01 z1.length cap01) ∧ w'.cell? ⟨w33.heap.size, 0, none⟩ = some (Value.slice a33 z1.length cap33)) (first | exact ⟨hc61, hc63⟩ | exact ⟨hra68, hrx68⟩ | exact ⟨hsa68, hsx68⟩) (first | (go_at_call 30; refine (toMatrix_any _ z1 _ HN1.out.1 HN1.out.2 (H1.out.later (L66.out.trans (Later.drew ws59)))).mono ?_; rintro e wr68 ⟨yr68, rfl, hor68, hLr68⟩; have Rr68 := hid hor68.rows; have hra68 := hLr68.cell hc61; have hrx68 := hLr68.cell hc63; have Lr68 := hid ((Later.drew ws59).trans hLr68); clear hLr68 hor68) | (go_at_call 32; refine (eqMatrix_any _ _ _ _ _ ((O65.out.rows).later Lr68.out) Rr68.out).mono ?_; rintro e ws68 ⟨rfl, hLs68⟩; have hsa68 := hLs68.cell hra68; have hsx68 := hLs68.cell hrx68; have Ls68 := hid (Lr68.out.trans hLs68); clear hLs68; rw [eqLL_self]))
      have hL := Ls68.out
      clear hsa68 hsx68 hra68 hrx68
      have hc69 := hL.cell hc60
      have hc70 := hL.cell hc61
      have hc71 := hL.cell hc62
      have hc72 := hL.cell hc63
      have O73 := hid (O64.out.later hL)
      have O74 := hid (O65.out.later hL)
      have L75 := hid (L66.out.trans hL)
      have S76 := hid hL.size
      clear hc60 hc61 hc62 hc63 O64 O65 L66 hL
      go_wp2_with fail
      go_ret
      exact ⟨rfl, L75.out⟩
end Go.Proofs.Ytmlnpnglafipbab
