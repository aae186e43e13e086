/- The walk of the law FnExactApplyMatrix, over whatever contracts the model's and the program's functions have. -/
import Derived.Test.YtedgccbogjinhaaAns
import Derived.Deep.RegionHeld3
namespace Go.Proofs.Ytedgccbogjinhaa
open Go.RowKit

set_option maxHeartbeats 4000000 in
theorem lawApplyMatrix_gen (z0 : List (List Int)) (z1 : List Int) (o : Option (List Int)) (hob : (o.getD []).length ≤ 1000000000000)
    (hS : ∀ (v0 : Value) (v1 : Value) (w : World), Rows2 w v0 z0 → Ints w v1 z1 → Calls Try.prog 26 #[.agg #[v0], v1] w fun e w' => IntsAns w o e w')
    (hI : ∀ (v0 : Value) (v1 : Value) (w : World), Rows2 w v0 z0 → Ints w v1 z1 → Calls Try.prog 28 #[.agg #[v0], v1] w fun e w' => IntsAns w o e w')
    (v0 : Value) (v1 : Value) (w : World) (h0 : Rows2 w v0 z0) (h1 : Ints w v1 z1) :
    Calls Try.prog 6 #[.agg #[v0], v1] w fun e w' => e = .returned (.bool true) ∧ Later w w' := by
  have HS := hid hS
  have HI := hid hI
  clear hS hI
  obtain ⟨a00, cap00, rfl, hlen0, _⟩ := id h0
  have H0 := hid h0
  clear h0
  obtain ⟨a01, cap01, rfl, hlen1, _⟩ := id h1
  have H1 := hid h1
  clear h1
  by_cases hz1 : z1.length ≤ 1048576
  · skip
    have hq1 : ¬ (1048576 : Int) < (z1.length : Int) := by omega
    have HN1 := hid hz1
    go_enter Try.func6, Try.ntmps6
    go_wp2_with fail
    have hx1 : (w.alloc (.cells #[Value.slice a00 z0.length cap00] 24)).cell? ⟨w.heap.size, 0, none⟩ = some (Value.slice a00 z0.length cap00) := by simp [go_sem]
    have L2 : Hid (Later w (w.alloc (.cells #[Value.slice a00 z0.length cap00] 24))) := hid (Later.alloc _ _)
    have S3 := hid (show w.heap.size + 1 ≤ (w.alloc (.cells #[Value.slice a00 z0.length cap00] 24)).heap.size by simp)
    generalize (w.alloc (.cells #[Value.slice a00 z0.length cap00] 24)) = w4 at hx1 L2 S3 ⊢
    refine (szMatrix_any _ z0 _ _ ⟨by omega, by omega⟩ (H0.out.later L2.out)).mono ?_
    rintro e w5 ⟨⟨r0, rfl, hr0⟩, hL⟩
    have hc6 := hL.cell hx1
    have L7 := hid (L2.out.trans hL)
    have S8 := hid hL.size
    clear hx1 L2 hL
    rcases hr0 with rfl | ⟨hr0a, hr0b, hr0n, hns0⟩
    · go_wp2_with fail
      go_ret
      exact ⟨rfl, L7.out⟩
    · have hnr0 : ¬ r0 < 0 := by omega
      have HN0 := hid (show z0.length ≤ 1048576 ∧ ∀ i, i < z0.length → (z0.getD i []).length ≤ 1048576 from ⟨by omega, fun i hi => by have := hns0 i hi; omega⟩)
      have hoff0 := off_args z0 HN0.out.2 HN0.out.1
      clear hns0
      go_wp2_with fail
      refine (toMatrix_any _ z0 _ HN0.out.1 HN0.out.2 (H0.out.later L7.out)).mono ?_
      rintro e w9 ⟨y9, rfl, hown, hL⟩
      obtain ⟨a9, cap9, rfl, _⟩ := hown.shape
      have O10 := hid hown
      clear hown
      have hc11 := hL.cell hc6
      have L12 := hid (L7.out.trans hL)
      have S13 := hid hL.size
      clear hc6 L7 hL
      go_wp2_with fail
      refine (toIntS_any _ z1 _ HN1.out (H1.out.later L12.out)).mono ?_
      rintro e w14 ⟨y14, rfl, hown, hL⟩
      obtain ⟨a14, cap14, rfl, _⟩ := hown.shape
      have O15 := hid hown
      clear hown
      have hc16 := hL.cell hc11
      have O17 := hid (O10.out.later hL)
      have L18 := hid (L12.out.trans hL)
      have S19 := hid hL.size
      clear hc11 O10 L12 hL
      go_wp2_with fail
      refine (HS.out _ _ _ (O17.out.rows) (O15.out.ints)).mono ?_
      rintro e w20 ⟨y20, rfl, hown, hL⟩
      obtain ⟨a20, cap20, rfl, _⟩ := hown.shape
      have O21 := hid hown
      clear hown
      have hc22 := hL.cell hc16
      have O23 := hid (O17.out.later hL)
      have O24 := hid (O15.out.later hL)
      have L25 := hid (L18.out.trans hL)
      have S26 := hid hL.size
      clear hc16 O17 O15 L18 hL
      clear O23
      clear O24
      go_wp2_with fail
      refine (toMatrix_any _ z0 _ HN0.out.1 HN0.out.2 (H0.out.later L25.out)).mono ?_
      rintro e w27 ⟨y27, rfl, hown, hL⟩
      obtain ⟨a27, cap27, rfl, _⟩ := hown.shape
      have O28 := hid hown
      clear hown
      have hc29 := hL.cell hc22
      have O30 := hid (O21.out.later hL)
      have L31 := hid (L25.out.trans hL)
      have S32 := hid hL.size
      clear hc22 O21 L25 hL
      have hA := Later.alloc w27 (.cells #[Value.slice a27 z0.length cap27] 27)
      have hc35 := hA.cell hc29
      have O36 := hid (O30.out.later hA)
      have O37 := hid (O28.out.later hA)
      have L38 := hid (L31.out.trans hA)
      have S39 := hid (And.intro hA.size (show w27.heap.size < (w27.alloc (.cells #[Value.slice a27 z0.length cap27] 27)).heap.size by simp))
      clear hA
      go_wp2_with fail
      have hx34 : (w27.alloc (.cells #[Value.slice a27 z0.length cap27] 27)).cell? ⟨w27.heap.size, 0, none⟩ = some (Value.slice a27 z0.length cap27) := by simp [go_sem]
      clear hc29 O30 O28 L31
      generalize (w27.alloc (.cells #[Value.slice a27 z0.length cap27] 27)) = w33 at hx34 hc35 O36 O37 L38 S39 ⊢
      refine (toIntS_any _ z1 _ HN1.out (H1.out.later L38.out)).mono ?_
      rintro e w40 ⟨y40, rfl, hown, hL⟩
      obtain ⟨a40, cap40, rfl, _⟩ := hown.shape
      have O41 := hid hown
      clear hown
      have hc42 := hL.cell hc35
      have hc43 := hL.cell hx34
      have O44 := hid (O36.out.later hL)
      have O45 := hid (O37.out.later hL)
      have L46 := hid (L38.out.trans hL)
      have S47 := hid hL.size
      clear hc35 hx34 O36 O37 L38 hL
      go_wp2_with fail
      refine (HI.out _ _ _ (O45.out.rows) (O41.out.ints)).mono ?_
      rintro e w48 ⟨y48, rfl, hown, hL⟩
      obtain ⟨a48, cap48, rfl, _⟩ := hown.shape
      have O49 := hid hown
      clear hown
      have hc50 := hL.cell hc42
      have hc51 := hL.cell hc43
      have O52 := hid (O44.out.later hL)
      have O53 := hid (O45.out.later hL)
      have O54 := hid (O41.out.later hL)
      have L55 := hid (L46.out.trans hL)
      have S56 := hid hL.size
      clear hc42 hc43 O44 O45 O41 L46 hL
      have hne0 : ((o.isSome) != (o.isSome)) = false := by simp
      go_wp2_with fail
      refine (eqIntS_any _ _ _ _ _ (O49.out.ints) (O52.out.ints)).mono ?_
      rintro e w57 ⟨rfl, hD⟩
      have hL := hD.later
      clear hD
      rw [eqL_self]
      have hc58 := hL.cell hc50
      have hc59 := hL.cell hc51
      have O60 := hid (O52.out.later hL)
      have O61 := hid (O53.out.later hL)
      have O62 := hid (O54.out.later hL)
      have O63 := hid (O49.out.later hL)
      have L64 := hid (L55.out.trans hL)
      have S65 := hid hL.size
      clear hc50 hc51 O52 O53 O54 O49 L55 hL
      go_wp2_with fail
      go_region_held3 (fun w' => w'.cell? ⟨w.heap.size, 0, none⟩ = some (Value.slice a00 z0.length cap00) ∧ w'.cell? ⟨w27.heap.size, 0, none⟩ = some (Value.slice a27 z0.length cap27)) (first | exact ⟨hc58, hc59⟩ | exact ⟨hra66, hrx66⟩ | exact ⟨hsa66, hsx66⟩) (first | (go_at_call 17; refine (toMatrix_any _ z0 _ HN0.out.1 HN0.out.2 (H0.out.later (L64.out.trans (Later.drew w57)))).mono ?_; rintro e wr66 ⟨yr66, rfl, hor66, hLr66⟩; have Rr66 := hid hor66.rows; have hra66 := hLr66.cell hc58; have hrx66 := hLr66.cell hc59; have Lr66 := hid ((Later.drew w57).trans hLr66); clear hLr66 hor66) | (go_at_call 19; refine (eqMatrix_any _ _ _ _ _ ((O61.out.rows).later Lr66.out) Rr66.out).mono ?_; rintro e ws66 ⟨rfl, hLs66⟩; have hsa66 := hLs66.cell hra66; have hsx66 := hLs66.cell hrx66; have Ls66 := hid (Lr66.out.trans hLs66); clear hLs66; rw [eqLL_self]))
      have hL := Ls66.out
      clear hsa66 hsx66 hra66 hrx66
      have hc67 := hL.cell hc58
      have hc68 := hL.cell hc59
      have O69 := hid (O60.out.later hL)
      have O70 := hid (O61.out.later hL)
      have O71 := hid (O62.out.later hL)
      have O72 := hid (O63.out.later hL)
      have L73 := hid (L64.out.trans hL)
      have S74 := hid hL.size
      clear hc58 hc59 O60 O61 O62 O63 L64 hL
      go_wp2_with fail
      refine (toIntS_any _ z1 _ HN1.out (H1.out.later L73.out)).mono ?_
      rintro e w75 ⟨y75, rfl, hown, hL⟩
      obtain ⟨a75, cap75, rfl, _⟩ := hown.shape
      have O76 := hid hown
      clear hown
      have hc77 := hL.cell hc67
      have hc78 := hL.cell hc68
      have O79 := hid (O69.out.later hL)
      have O80 := hid (O70.out.later hL)
      have O81 := hid (O71.out.later hL)
      have O82 := hid (O72.out.later hL)
      have L83 := hid (L73.out.trans hL)
      have S84 := hid hL.size
      clear hc67 hc68 O69 O70 O71 O72 L73 hL
      go_wp2_with fail
      refine (eqIntS_any _ _ _ _ _ (O81.out.ints) (O76.out.ints)).mono ?_
      rintro e w85 ⟨rfl, hD⟩
      have hL := hD.later
      clear hD
      rw [eqL_self]
      have hc86 := hL.cell hc77
      have hc87 := hL.cell hc78
      have O88 := hid (O79.out.later hL)
      have O89 := hid (O80.out.later hL)
      have O90 := hid (O81.out.later hL)
      have O91 := hid (O82.out.later hL)
      have O92 := hid (O76.out.later hL)
      have L93 := hid (L83.out.trans hL)
      have S94 := hid hL.size
      clear hc77 hc78 O79 O80 O81 O82 O76 L83 hL
      clear O92
      go_wp2_with fail
      refine (markMatrix_any w20.heap.size (w27.heap.size) _ _ _ _ ⟨by omega, by omega⟩ O89.out).mono ?_
      rintro e w95 ⟨wm95, hL, rfl, hown, hW⟩
      have hc96 := cell_keep (hL.cell hc86) (hW.block _ (show ¬ (w20.heap.size ≤ w.heap.size ∧ w.heap.size < w27.heap.size) by have := S3.out; have := S8.out; have := S13.out; have := S19.out; have := S26.out; have := S32.out; have := S39.out; have := S47.out; have := S56.out; have := S65.out; have := S74.out; have := S84.out; have := S94.out; omega))
      clear hc86
      have hc97 := cell_keep (hL.cell hc87) (hW.block _ (show ¬ (w20.heap.size ≤ w27.heap.size ∧ w27.heap.size < w27.heap.size) by have := S3.out; have := S8.out; have := S13.out; have := S19.out; have := S26.out; have := S32.out; have := S39.out; have := S47.out; have := S56.out; have := S65.out; have := S74.out; have := S84.out; have := S94.out; omega))
      clear hc87
      have O98 := hid ((O88.out.later hL).keep fun b h1 h2 => hW.block b (by have := S3.out; have := S8.out; have := S13.out; have := S19.out; have := S26.out; have := S32.out; have := S39.out; have := S47.out; have := S56.out; have := S65.out; have := S74.out; have := S84.out; have := S94.out; omega))
      clear O88
      have O99 := hid ((O90.out.later hL).keep fun b h1 h2 => hW.block b (by have := S3.out; have := S8.out; have := S13.out; have := S19.out; have := S26.out; have := S32.out; have := S39.out; have := S47.out; have := S56.out; have := S65.out; have := S74.out; have := S84.out; have := S94.out; omega))
      clear O90
      have O100 := hid ((O91.out.later hL).keep fun b h1 h2 => hW.block b (by have := S3.out; have := S8.out; have := S13.out; have := S19.out; have := S26.out; have := S32.out; have := S39.out; have := S47.out; have := S56.out; have := S65.out; have := S74.out; have := S84.out; have := S94.out; omega))
      clear O91
      have O101 := hid hown
      clear hown O89
      have L102 := hid (show Later w w95 from Wrote.below (L93.out.trans hL) hW (fun b hb => by have := S3.out; have := S8.out; have := S13.out; have := S19.out; have := S26.out; have := S32.out; have := S39.out; have := S47.out; have := S56.out; have := S65.out; have := S74.out; have := S84.out; have := S94.out; omega))
      clear L93
      have S103 := hid (show w85.heap.size ≤ w95.heap.size by have := hL.size; have := hW.size; omega)
      clear hL hW
      go_wp2_with fail
      refine (markIntS_any w33.heap.size (w40.heap.size) _ _ _ _ ⟨by omega, by omega⟩ O99.out).mono ?_
      rintro e w104 ⟨rfl, hown, hW⟩
      have hW := hW.mono (fun b hb => O99.out.blk hb)
      have hL := Later.refl w95
      have hc105 := cell_keep (hL.cell hc96) (hW.block _ (show ¬ (w33.heap.size ≤ w.heap.size ∧ w.heap.size < w40.heap.size) by have := S3.out; have := S8.out; have := S13.out; have := S19.out; have := S26.out; have := S32.out; have := S39.out; have := S47.out; have := S56.out; have := S65.out; have := S74.out; have := S84.out; have := S94.out; have := S103.out; omega))
      clear hc96
      have hc106 := cell_keep (hL.cell hc97) (hW.block _ (show ¬ (w33.heap.size ≤ w27.heap.size ∧ w27.heap.size < w40.heap.size) by have := S3.out; have := S8.out; have := S13.out; have := S19.out; have := S26.out; have := S32.out; have := S39.out; have := S47.out; have := S56.out; have := S65.out; have := S74.out; have := S84.out; have := S94.out; have := S103.out; omega))
      clear hc97
      have O107 := hid ((O98.out.later hL).keep fun b h1 h2 => hW.block b (by have := S3.out; have := S8.out; have := S13.out; have := S19.out; have := S26.out; have := S32.out; have := S39.out; have := S47.out; have := S56.out; have := S65.out; have := S74.out; have := S84.out; have := S94.out; have := S103.out; omega))
      clear O98
      have O108 := hid ((O101.out.later hL).keep fun b h1 h2 => hW.block b (by have := S3.out; have := S8.out; have := S13.out; have := S19.out; have := S26.out; have := S32.out; have := S39.out; have := S47.out; have := S56.out; have := S65.out; have := S74.out; have := S84.out; have := S94.out; have := S103.out; omega))
      clear O101
      have O109 := hid ((O100.out.later hL).keep fun b h1 h2 => hW.block b (by have := S3.out; have := S8.out; have := S13.out; have := S19.out; have := S26.out; have := S32.out; have := S39.out; have := S47.out; have := S56.out; have := S65.out; have := S74.out; have := S84.out; have := S94.out; have := S103.out; omega))
      clear O100
      have O110 := hid hown
      clear hown O99
      have L111 := hid (show Later w w104 from Wrote.below (L102.out.trans hL) hW (fun b hb => by have := S3.out; have := S8.out; have := S13.out; have := S19.out; have := S26.out; have := S32.out; have := S39.out; have := S47.out; have := S56.out; have := S65.out; have := S74.out; have := S84.out; have := S94.out; have := S103.out; omega))
      clear L102
      have S112 := hid (show w95.heap.size ≤ w104.heap.size by have := hL.size; have := hW.size; omega)
      clear hL hW
      have hkn : ¬ (((1 : Int) + (off z0 z0.length : Int)) + (z1.length : Int)) < 0 := by omega
      go_wp2_with fail
      refine (eqIntS_any _ _ _ _ _ (O109.out.ints) (O107.out.ints)).mono ?_
      rintro e w113 ⟨rfl, hD⟩
      have hL := hD.later
      clear hD
      rw [eqL_self]
      have hc114 := hL.cell hc105
      have hc115 := hL.cell hc106
      have O116 := hid (O107.out.later hL)
      have O117 := hid (O108.out.later hL)
      have O118 := hid (O110.out.later hL)
      have O119 := hid (O109.out.later hL)
      have L120 := hid (L111.out.trans hL)
      have S121 := hid hL.size
      clear hc105 hc106 O107 O108 O110 O109 L111 hL
      go_wp2_with fail
      have hmm : (((1 : Int) + ((o.getD []).length : Int)) != ((1 : Int) + ((o.getD []).length : Int))) = false := by simp
      have hmn : ¬ (1 : Int) + ((o.getD []).length : Int) < 0 := by omega
      refine (markIntS_any w40.heap.size (w48.heap.size) _ _ _ _ ⟨by omega, by omega⟩ O119.out).mono ?_
      rintro e w122 ⟨rfl, hown, hW⟩
      have hW := hW.mono (fun b hb => O119.out.blk hb)
      have hL := Later.refl w113
      have hc123 := cell_keep (hL.cell hc114) (hW.block _ (show ¬ (w40.heap.size ≤ w.heap.size ∧ w.heap.size < w48.heap.size) by have := S3.out; have := S8.out; have := S13.out; have := S19.out; have := S26.out; have := S32.out; have := S39.out; have := S47.out; have := S56.out; have := S65.out; have := S74.out; have := S84.out; have := S94.out; have := S103.out; have := S112.out; have := S121.out; omega))
      clear hc114
      have hc124 := cell_keep (hL.cell hc115) (hW.block _ (show ¬ (w40.heap.size ≤ w27.heap.size ∧ w27.heap.size < w48.heap.size) by have := S3.out; have := S8.out; have := S13.out; have := S19.out; have := S26.out; have := S32.out; have := S39.out; have := S47.out; have := S56.out; have := S65.out; have := S74.out; have := S84.out; have := S94.out; have := S103.out; have := S112.out; have := S121.out; omega))
      clear hc115
      have O125 := hid ((O116.out.later hL).keep fun b h1 h2 => hW.block b (by have := S3.out; have := S8.out; have := S13.out; have := S19.out; have := S26.out; have := S32.out; have := S39.out; have := S47.out; have := S56.out; have := S65.out; have := S74.out; have := S84.out; have := S94.out; have := S103.out; have := S112.out; have := S121.out; omega))
      clear O116
      have O126 := hid ((O117.out.later hL).keep fun b h1 h2 => hW.block b (by have := S3.out; have := S8.out; have := S13.out; have := S19.out; have := S26.out; have := S32.out; have := S39.out; have := S47.out; have := S56.out; have := S65.out; have := S74.out; have := S84.out; have := S94.out; have := S103.out; have := S112.out; have := S121.out; omega))
      clear O117
      have O127 := hid ((O118.out.later hL).keep fun b h1 h2 => hW.block b (by have := S3.out; have := S8.out; have := S13.out; have := S19.out; have := S26.out; have := S32.out; have := S39.out; have := S47.out; have := S56.out; have := S65.out; have := S74.out; have := S84.out; have := S94.out; have := S103.out; have := S112.out; have := S121.out; omega))
      clear O118
      have O128 := hid hown
      clear hown O119
      have L129 := hid (show Later w w122 from Wrote.below (L120.out.trans hL) hW (fun b hb => by have := S3.out; have := S8.out; have := S13.out; have := S19.out; have := S26.out; have := S32.out; have := S39.out; have := S47.out; have := S56.out; have := S65.out; have := S74.out; have := S84.out; have := S94.out; have := S103.out; have := S112.out; have := S121.out; omega))
      clear L120
      have S130 := hid (show w113.heap.size ≤ w122.heap.size by have := hL.size; have := hW.size; omega)
      clear hL hW
      go_wp2_with fail
      refine (heldIntS_any _ (o.getD []).length _ _ ⟨by omega, by omega⟩ O128.out.ints).mono ?_
      rintro e w131 ⟨rfl, rfl⟩
      go_wp2_with fail
      refine (toMatrix_any _ z0 _ HN0.out.1 HN0.out.2 (H0.out.later L129.out)).mono ?_
      rintro e w132 ⟨y132, rfl, hown, hL⟩
      obtain ⟨a132, cap132, rfl, _⟩ := hown.shape
      have O133 := hid hown
      clear hown
      have hc134 := hL.cell hc123
      have hc135 := hL.cell hc124
      have O136 := hid (O125.out.later hL)
      have O137 := hid (O126.out.later hL)
      have O138 := hid (O127.out.later hL)
      have O139 := hid (O128.out.later hL)
      have L140 := hid (L129.out.trans hL)
      have S141 := hid hL.size
      clear hc123 hc124 O125 O126 O127 O128 L129 hL
      go_wp2_with fail
      refine (toIntS_any _ z1 _ HN1.out (H1.out.later L140.out)).mono ?_
      rintro e w142 ⟨y142, rfl, hown, hL⟩
      obtain ⟨a142, cap142, rfl, _⟩ := hown.shape
      have O143 := hid hown
      clear hown
      have hc144 := hL.cell hc134
      have hc145 := hL.cell hc135
      have O146 := hid (O136.out.later hL)
      have O147 := hid (O137.out.later hL)
      have O148 := hid (O138.out.later hL)
      have O149 := hid (O139.out.later hL)
      have O150 := hid (O133.out.later hL)
      have L151 := hid (L140.out.trans hL)
      have S152 := hid hL.size
      clear hc134 hc135 O136 O137 O138 O139 O133 L140 hL
      go_wp2_with fail
      refine (HI.out _ _ _ (O150.out.rows) (O143.out.ints)).mono ?_
      rintro e w153 ⟨y153, rfl, hown, hL⟩
      obtain ⟨a153, cap153, rfl, _⟩ := hown.shape
      have O154 := hid hown
      clear hown
      have hc155 := hL.cell hc144
      have hc156 := hL.cell hc145
      have O157 := hid (O146.out.later hL)
      have O158 := hid (O147.out.later hL)
      have O159 := hid (O148.out.later hL)
      have O160 := hid (O149.out.later hL)
      have O161 := hid (O150.out.later hL)
      have O162 := hid (O143.out.later hL)
      have L163 := hid (L151.out.trans hL)
      have S164 := hid hL.size
      clear hc144 hc145 O146 O147 O148 O149 O150 O143 L151 hL
      clear O161
      clear O162
      go_wp2_with fail
      refine (eqIntS_any _ _ _ _ _ (O154.out.ints) (O157.out.ints)).mono ?_
      rintro e w165 ⟨rfl, hD⟩
      have hL := hD.later
      clear hD
      rw [eqL_self]
      have hc166 := hL.cell hc155
      have hc167 := hL.cell hc156
      have O168 := hid (O157.out.later hL)
      have O169 := hid (O158.out.later hL)
      have O170 := hid (O159.out.later hL)
      have O171 := hid (O160.out.later hL)
      have O172 := hid (O154.out.later hL)
      have L173 := hid (L163.out.trans hL)
      have S174 := hid hL.size
      clear hc155 hc156 O157 O158 O159 O160 O154 L163 hL
      go_wp2_with fail
      refine (heldIntS_any _ (o.getD []).length _ _ ⟨by omega, by omega⟩ O171.out.ints).mono ?_
      rintro e w175 ⟨rfl, rfl⟩
      go_wp2_with fail
      go_ret
      exact ⟨rfl, L173.out⟩
  · have hq1 : (1048576 : Int) < (z1.length : Int) := by omega
    go_enter Try.func6, Try.ntmps6
    go_wp2_with fail
    go_ret
    exact ⟨rfl, (Later.alloc _ _)⟩
end Go.Proofs.Ytedgccbogjinhaa
