/- The walk of the law FnExactProductAt, over whatever contracts the model's and the program's functions have. -/
import Derived.Test.YtedgccbogjinhaaAns
import Derived.Deep.RegionHeld3
namespace Go.Proofs.Ytedgccbogjinhaa
open Go.RowKit

set_option maxHeartbeats 4000000 in
theorem lawProductAt_gen (z0 : List (List Int)) (z1 : List Int) (z2 : List Int) (o : Option Int)
    (hS : ∀ (v0 : Value) (v1 : Value) (v2 : Value) (w : World), Rows2 w v0 z0 → Ints w v1 z1 → Ints w v2 z2 → Calls Try.prog 44 #[.agg #[v0], v1, v2] w fun e w' => NumAns w o e w')
    (hI : ∀ (v0 : Value) (v1 : Value) (v2 : Value) (w : World), Rows2 w v0 z0 → Ints w v1 z1 → Ints w v2 z2 → Calls Try.prog 45 #[.agg #[v0], v1, v2] w fun e w' => NumAns w o e w')
    (v0 : Value) (v1 : Value) (v2 : Value) (w : World) (h0 : Rows2 w v0 z0) (h1 : Ints w v1 z1) (h2 : Ints w v2 z2) :
    Calls Try.prog 13 #[.agg #[v0], v1, v2] w fun e w' => e = .returned (.bool true) ∧ Later w w' := by
  have HS := hid hS
  have HI := hid hI
  clear hS hI
  obtain ⟨a00, cap00, rfl, hlen0, _⟩ := id h0
  have H0 := hid h0
  clear h0
  obtain ⟨a01, cap01, rfl, hlen1, _⟩ := id h1
  have H1 := hid h1
  clear h1
  obtain ⟨a02, cap02, rfl, hlen2, _⟩ := id h2
  have H2 := hid h2
  clear h2
  by_cases hz1 : z1.length ≤ 1048576
  · skip
    have hq1 : ¬ (1048576 : Int) < (z1.length : Int) := by omega
    have HN1 := hid hz1
    by_cases hz2 : z2.length ≤ 1048576
    · skip
      have hq2 : ¬ (1048576 : Int) < (z2.length : Int) := by omega
      have HN2 := hid hz2
      go_enter Try.func13, Try.ntmps13
      go_wp2_with fail
      have hx1 : (w.alloc (.cells #[Value.slice a00 z0.length cap00] 24)).cell? ⟨w.heap.size, 0, none⟩ = some (Value.slice a00 z0.length cap00) := by simp [go_sem]
      have L2 : Hid (Later w (w.alloc (.cells #[Value.slice a00 z0.length cap00] 24))) := hid (Later.alloc _ _)
      have S3 := hid (show w.heap.size + 1 ≤ (w.alloc (.cells #[Value.slice a00 z0.length cap00] 24)).heap.size by simp)
      generalize (w.alloc (.cells #[Value.slice a00 z0.length cap00] 24)) = w4 at hx1 L2 S3 ⊢
      refine (szMatrix_any _ z0 _ _ ⟨by omega, by omega⟩ (H0.out.later L2.out)).mono ?_
      rintro e w5 ⟨⟨r0, rfl, hr0⟩, hL⟩
      have hc6 := hL.cell hx1
      have L7 := hid (L2.out.trans hL)
      have S8 := hid hL.size
      clear hx1 L2 hL
      rcases hr0 with rfl | ⟨hr0a, hr0b, hr0n, hns0⟩
      · go_wp2_with fail
        go_ret
        exact ⟨rfl, L7.out⟩
      · have hnr0 : ¬ r0 < 0 := by omega
        have HN0 := hid (show z0.length ≤ 1048576 ∧ ∀ i, i < z0.length → (z0.getD i []).length ≤ 1048576 from ⟨by omega, fun i hi => by have := hns0 i hi; omega⟩)
        have hoff0 := off_args z0 HN0.out.2 HN0.out.1
        clear hns0
        go_wp2_with fail
        refine (toMatrix_any _ z0 _ HN0.out.1 HN0.out.2 (H0.out.later L7.out)).mono ?_
        rintro e w9 ⟨y9, rfl, hown, hL⟩
        obtain ⟨a9, cap9, rfl, _⟩ := hown.shape
        have O10 := hid hown
        clear hown
        have hc11 := hL.cell hc6
        have L12 := hid (L7.out.trans hL)
        have S13 := hid hL.size
        clear hc6 L7 hL
        go_wp2_with fail
        refine (toIntS_any _ z1 _ HN1.out (H1.out.later L12.out)).mono ?_
        rintro e w14 ⟨y14, rfl, hown, hL⟩
        obtain ⟨a14, cap14, rfl, _⟩ := hown.shape
        have O15 := hid hown
        clear hown
        have hc16 := hL.cell hc11
        have O17 := hid (O10.out.later hL)
        have L18 := hid (L12.out.trans hL)
        have S19 := hid hL.size
        clear hc11 O10 L12 hL
        go_wp2_with fail
        refine (toIntS_any _ z2 _ HN2.out (H2.out.later L18.out)).mono ?_
        rintro e w20 ⟨y20, rfl, hown, hL⟩
        obtain ⟨a20, cap20, rfl, _⟩ := hown.shape
        have O21 := hid hown
        clear hown
        have hc22 := hL.cell hc16
        have O23 := hid (O17.out.later hL)
        have O24 := hid (O15.out.later hL)
        have L25 := hid (L18.out.trans hL)
        have S26 := hid hL.size
        clear hc16 O17 O15 L18 hL
        go_wp2_with fail
        refine (HS.out _ _ _ _ (O23.out.rows) (O24.out.ints) (O21.out.ints)).mono ?_
        rintro e w27 ⟨rfl, hL⟩
        have hc28 := hL.cell hc22
        have O29 := hid (O23.out.later hL)
        have O30 := hid (O24.out.later hL)
        have O31 := hid (O21.out.later hL)
        have L32 := hid (L25.out.trans hL)
        have S33 := hid hL.size
        clear hc22 O23 O24 O21 L25 hL
        clear O29
        clear O30
        clear O31
        go_wp2_with fail
        refine (toMatrix_any _ z0 _ HN0.out.1 HN0.out.2 (H0.out.later L32.out)).mono ?_
        rintro e w34 ⟨y34, rfl, hown, hL⟩
        obtain ⟨a34, cap34, rfl, _⟩ := hown.shape
        have O35 := hid hown
        clear hown
        have hc36 := hL.cell hc28
        have L37 := hid (L32.out.trans hL)
        have S38 := hid hL.size
        clear hc28 L32 hL
        have hA := Later.alloc w34 (.cells #[Value.slice a34 z0.length cap34] 27)
        have hc41 := hA.cell hc36
        have O42 := hid (O35.out.later hA)
        have L43 := hid (L37.out.trans hA)
        have S44 := hid (And.intro hA.size (show w34.heap.size < (w34.alloc (.cells #[Value.slice a34 z0.length cap34] 27)).heap.size by simp))
        clear hA
        go_wp2_with fail
        have hx40 : (w34.alloc (.cells #[Value.slice a34 z0.length cap34] 27)).cell? ⟨w34.heap.size, 0, none⟩ = some (Value.slice a34 z0.length cap34) := by simp [go_sem]
        clear hc36 O35 L37
        generalize (w34.alloc (.cells #[Value.slice a34 z0.length cap34] 27)) = w39 at hx40 hc41 O42 L43 S44 ⊢
        refine (toIntS_any _ z1 _ HN1.out (H1.out.later L43.out)).mono ?_
        rintro e w45 ⟨y45, rfl, hown, hL⟩
        obtain ⟨a45, cap45, rfl, _⟩ := hown.shape
        have O46 := hid hown
        clear hown
        have hc47 := hL.cell hc41
        have hc48 := hL.cell hx40
        have O49 := hid (O42.out.later hL)
        have L50 := hid (L43.out.trans hL)
        have S51 := hid hL.size
        clear hc41 hx40 O42 L43 hL
        go_wp2_with fail
        refine (toIntS_any _ z2 _ HN2.out (H2.out.later L50.out)).mono ?_
        rintro e w52 ⟨y52, rfl, hown, hL⟩
        obtain ⟨a52, cap52, rfl, _⟩ := hown.shape
        have O53 := hid hown
        clear hown
        have hc54 := hL.cell hc47
        have hc55 := hL.cell hc48
        have O56 := hid (O49.out.later hL)
        have O57 := hid (O46.out.later hL)
        have L58 := hid (L50.out.trans hL)
        have S59 := hid hL.size
        clear hc47 hc48 O49 O46 L50 hL
        go_wp2_with fail
        refine (HI.out _ _ _ _ (O56.out.rows) (O57.out.ints) (O53.out.ints)).mono ?_
        rintro e w60 ⟨rfl, hL⟩
        have hc61 := hL.cell hc54
        have hc62 := hL.cell hc55
        have O63 := hid (O56.out.later hL)
        have O64 := hid (O57.out.later hL)
        have O65 := hid (O53.out.later hL)
        have L66 := hid (L58.out.trans hL)
        have S67 := hid hL.size
        clear hc54 hc55 O56 O57 O53 L58 hL
        have hne0 : ((o.getD 0) != (o.getD 0)) = false := by simp
        have hne1 : ((o.isSome) != (o.isSome)) = false := by simp
        go_wp2_with fail
        go_region_held3 (fun w' => w'.cell? ⟨w.heap.size, 0, none⟩ = some (Value.slice a00 z0.length cap00) ∧ w'.cell? ⟨w34.heap.size, 0, none⟩ = some (Value.slice a34 z0.length cap34)) (first | exact ⟨hc61, hc62⟩ | exact ⟨hra68, hrx68⟩ | exact ⟨hsa68, hsx68⟩) (first | (go_at_call 17; refine (toMatrix_any _ z0 _ HN0.out.1 HN0.out.2 (H0.out.later (L66.out.trans (Later.drew w60)))).mono ?_; rintro e wr68 ⟨yr68, rfl, hor68, hLr68⟩; have Rr68 := hid hor68.rows; have hra68 := hLr68.cell hc61; have hrx68 := hLr68.cell hc62; have Lr68 := hid ((Later.drew w60).trans hLr68); clear hLr68 hor68) | (go_at_call 19; refine (eqMatrix_any _ _ _ _ _ ((O63.out.rows).later Lr68.out) Rr68.out).mono ?_; rintro e ws68 ⟨rfl, hLs68⟩; have hsa68 := hLs68.cell hra68; have hsx68 := hLs68.cell hrx68; have Ls68 := hid (Lr68.out.trans hLs68); clear hLs68; rw [eqLL_self]))
        have hL := Ls68.out
        clear hsa68 hsx68 hra68 hrx68
        have hc69 := hL.cell hc61
        have hc70 := hL.cell hc62
        have O71 := hid (O63.out.later hL)
        have O72 := hid (O64.out.later hL)
        have O73 := hid (O65.out.later hL)
        have L74 := hid (L66.out.trans hL)
        have S75 := hid hL.size
        clear hc61 hc62 O63 O64 O65 L66 hL
        go_wp2_with fail
        refine (toIntS_any _ z1 _ HN1.out (H1.out.later L74.out)).mono ?_
        rintro e w76 ⟨y76, rfl, hown, hL⟩
        obtain ⟨a76, cap76, rfl, _⟩ := hown.shape
        have O77 := hid hown
        clear hown
        have hc78 := hL.cell hc69
        have hc79 := hL.cell hc70
        have O80 := hid (O71.out.later hL)
        have O81 := hid (O72.out.later hL)
        have O82 := hid (O73.out.later hL)
        have L83 := hid (L74.out.trans hL)
        have S84 := hid hL.size
        clear hc69 hc70 O71 O72 O73 L74 hL
        go_wp2_with fail
        refine (eqIntS_any _ _ _ _ _ (O81.out.ints) (O77.out.ints)).mono ?_
        rintro e w85 ⟨rfl, hD⟩
        have hL := hD.later
        clear hD
        rw [eqL_self]
        have hc86 := hL.cell hc78
        have hc87 := hL.cell hc79
        have O88 := hid (O80.out.later hL)
        have O89 := hid (O81.out.later hL)
        have O90 := hid (O82.out.later hL)
        have O91 := hid (O77.out.later hL)
        have L92 := hid (L83.out.trans hL)
        have S93 := hid hL.size
        clear hc78 hc79 O80 O81 O82 O77 L83 hL
        clear O91
        go_wp2_with fail
        refine (toIntS_any _ z2 _ HN2.out (H2.out.later L92.out)).mono ?_
        rintro e w94 ⟨y94, rfl, hown, hL⟩
        obtain ⟨a94, cap94, rfl, _⟩ := hown.shape
        have O95 := hid hown
        clear hown
        have hc96 := hL.cell hc86
        have hc97 := hL.cell hc87
        have O98 := hid (O88.out.later hL)
        have O99 := hid (O89.out.later hL)
        have O100 := hid (O90.out.later hL)
        have L101 := hid (L92.out.trans hL)
        have S102 := hid hL.size
        clear hc86 hc87 O88 O89 O90 L92 hL
        go_wp2_with fail
        refine (eqIntS_any _ _ _ _ _ (O100.out.ints) (O95.out.ints)).mono ?_
        rintro e w103 ⟨rfl, hD⟩
        have hL := hD.later
        clear hD
        rw [eqL_self]
        have hc104 := hL.cell hc96
        have hc105 := hL.cell hc97
        have O106 := hid (O98.out.later hL)
        have O107 := hid (O99.out.later hL)
        have O108 := hid (O100.out.later hL)
        have O109 := hid (O95.out.later hL)
        have L110 := hid (L101.out.trans hL)
        have S111 := hid hL.size
        clear hc96 hc97 O98 O99 O100 O95 L101 hL
        clear O109
        go_wp2_with fail
        go_ret
        exact ⟨rfl, L110.out⟩
    · have hq2 : (1048576 : Int) < (z2.length : Int) := by omega
      go_enter Try.func13, Try.ntmps13
      go_wp2_with fail
      go_ret
      exact ⟨rfl, (Later.alloc _ _)⟩
  · have hq1 : (1048576 : Int) < (z1.length : Int) := by omega
    go_enter Try.func13, Try.ntmps13
    go_wp2_with fail
    go_ret
    exact ⟨rfl, (Later.alloc _ _)⟩
end Go.Proofs.Ytedgccbogjinhaa
