/- The walk of the law FnExactReflectionOf, over whatever contracts the model's and the program's functions have. -/
import Derived.Test.YtmlnpnglafipbabAns
import Derived.Deep.RegionHeld3
import Derived.Deep.DeepCutAuto
namespace Go.Proofs.Ytmlnpnglafipbab
open Go.RowKit

set_option maxRecDepth 20000 in
set_option maxHeartbeats 4000000 in
theorem lawReflectionOf_gen (z0 : List (List Int)) (z1 : List Int) (o : Option (List (List Int))) (hob : off (o.getD []) (o.getD []).length ≤ 1000000000000)
    (hS : ∀ (v0 : Value) (v1 : Value) (w : World), Rows2 w v0 z0 → Ints w v1 z1 → Calls Try.prog 33 #[.agg #[v0], v1] w fun e w' => MatAns w o e w')
    (hI : ∀ (v0 : Value) (v1 : Value) (w : World), Rows2 w v0 z0 → Ints w v1 z1 → Calls Try.prog 34 #[.agg #[v0], v1] w fun e w' => MatAns w o e w')
    (v0 : Value) (v1 : Value) (w : World) (h0 : Rows2 w v0 z0) (h1 : Ints w v1 z1) :
    Calls Try.prog 9 #[.agg #[v0], v1] w fun e w' => e = .returned (.bool true) ∧ Later w w' := by
  have HS := hid hS
  have HI := hid hI
  clear hS hI
  obtain ⟨a00, cap00, rfl, hlen0, _⟩ := id h0
  have H0 := hid h0
  clear h0
  obtain ⟨a01, cap01, rfl, hlen1, _⟩ := id h1
  have H1 := hid h1
  clear h1
  by_cases hz1 : z1.length ≤ 1048576
  · skip
    have hq1 : ¬ (1048576 : Int) < (z1.length : Int) := by omega
    have HN1 := hid hz1
    go_enter Try.func9, Try.ntmps9
    go_wp2_with fail
    have hx1 : (w.alloc (.cells #[Value.slice a00 z0.length cap00] 39)).cell? ⟨w.heap.size, 0, none⟩ = some (Value.slice a00 z0.length cap00) := by simp [go_sem]
    have L2 : Hid (Later w (w.alloc (.cells #[Value.slice a00 z0.length cap00] 39))) := hid (Later.alloc _ _)
    have S3 := hid (show w.heap.size + 1 ≤ (w.alloc (.cells #[Value.slice a00 z0.length cap00] 39)).heap.size by simp)
    generalize (w.alloc (.cells #[Value.slice a00 z0.length cap00] 39)) = w4 at hx1 L2 S3 ⊢
    refine (szMatrix_any _ z0 _ _ ⟨by omega, by omega⟩ (H0.out.later L2.out)).mono ?_
    rintro e w5 ⟨⟨r0, rfl, hr0⟩, hL⟩
    have hc6 := hL.cell hx1
    have L7 := hid (L2.out.trans hL)
    have S8 := hid hL.size
    clear hx1 L2 hL
    rcases hr0 with rfl | ⟨hr0a, hr0b, hr0n, hns0⟩
    · go_wp2_with fail
      go_ret
      exact ⟨rfl, L7.out⟩
    · have hnr0 : ¬ r0 < 0 := by omega
      have HN0 := hid (show z0.length ≤ 1048576 ∧ ∀ i, i < z0.length → (z0.getD i []).length ≤ 1048576 from ⟨by omega, fun i hi => by have := hns0 i hi; omega⟩)
      have hoff0 := off_args z0 HN0.out.2 HN0.out.1
      clear hns0
      go_wp2_with fail
      refine (toMatrix_any _ z0 _ HN0.out.1 HN0.out.2 (H0.out.later L7.out)).mono ?_
      rintro e w9 ⟨y9, rfl, hown, hL⟩
      obtain ⟨a9, cap9, rfl, _⟩ := hown.shape
      have O10 := hid hown
      clear hown
      have hc11 := hL.cell hc6
      have L12 := hid (L7.out.trans hL)
      have S13 := hid hL.size
      clear hc6 L7 hL
      go_wp2_with fail
      refine (toIntS_any _ z1 _ HN1.out (H1.out.later L12.out)).mono ?_
      rintro e w14 ⟨y14, rfl, hown, hL⟩
      obtain ⟨a14, cap14, rfl, _⟩ := hown.shape
      have O15 := hid hown
      clear hown
      have hc16 := hL.cell hc11
      have O17 := hid (O10.out.later hL)
      have L18 := hid (L12.out.trans hL)
      have S19 := hid hL.size
      clear hc11 O10 L12 hL
      go_wp2_with fail
      refine (HS.out _ _ _ (O17.out.rows) (O15.out.ints)).mono ?_
      rintro e w20 ⟨y20, rfl, hown, hL⟩
      obtain ⟨a20, cap20, rfl, _⟩ := hown.shape
      have O21 := hid hown
      clear hown
      have hc22 := hL.cell hc16
      have O23 := hid (O17.out.later hL)
      have O24 := hid (O15.out.later hL)
      have L25 := hid (L18.out.trans hL)
      have S26 := hid hL.size
      clear hc16 O17 O15 L18 hL
      clear O23
      clear O24
      have hA := Later.alloc w20 (.cells #[Value.slice a20 (o.getD []).length cap20] 42)
      have hc29 := hA.cell hc22
      have O30 := hid (O21.out.later hA)
      have L31 := hid (L25.out.trans hA)
      have S32 := hid (And.intro hA.size (show w20.heap.size < (w20.alloc (.cells #[Value.slice a20 (o.getD []).length cap20] 42)).heap.size by simp))
      clear hA
      go_wp2_with fail
      have hx28 : (w20.alloc (.cells #[Value.slice a20 (o.getD []).length cap20] 42)).cell? ⟨w20.heap.size, 0, none⟩ = some (Value.slice a20 (o.getD []).length cap20) := by simp [go_sem]
      clear hc22 O21 L25
      generalize (w20.alloc (.cells #[Value.slice a20 (o.getD []).length cap20] 42)) = w27 at hx28 hc29 O30 L31 S32 ⊢
      refine (toMatrix_any _ z0 _ HN0.out.1 HN0.out.2 (H0.out.later L31.out)).mono ?_
      rintro e w33 ⟨y33, rfl, hown, hL⟩
      obtain ⟨a33, cap33, rfl, _⟩ := hown.shape
      have O34 := hid hown
      clear hown
      have hc35 := hL.cell hc29
      have hc36 := hL.cell hx28
      have O37 := hid (O30.out.later hL)
      have L38 := hid (L31.out.trans hL)
      have S39 := hid hL.size
      clear hc29 hx28 O30 L31 hL
      have hA := Later.alloc w33 (.cells #[Value.slice a33 z0.length cap33] 42)
      have hc42 := hA.cell hc35
      have hc43 := hA.cell hc36
      have O44 := hid (O37.out.later hA)
      have O45 := hid (O34.out.later hA)
      have L46 := hid (L38.out.trans hA)
      have S47 := hid (And.intro hA.size (show w33.heap.size < (w33.alloc (.cells #[Value.slice a33 z0.length cap33] 42)).heap.size by simp))
      clear hA
      go_wp2_with fail
      have hx41 : (w33.alloc (.cells #[Value.slice a33 z0.length cap33] 42)).cell? ⟨w33.heap.size, 0, none⟩ = some (Value.slice a33 z0.length cap33) := by simp [go_sem]
      clear hc35 hc36 O37 O34 L38
      generalize (w33.alloc (.cells #[Value.slice a33 z0.length cap33] 42)) = w40 at hx41 hc42 hc43 O44 O45 L46 S47 ⊢
      refine (toIntS_any _ z1 _ HN1.out (H1.out.later L46.out)).mono ?_
      rintro e w48 ⟨y48, rfl, hown, hL⟩
      obtain ⟨a48, cap48, rfl, _⟩ := hown.shape
      have O49 := hid hown
      clear hown
      have hc50 := hL.cell hc42
      have hc51 := hL.cell hc43
      have hc52 := hL.cell hx41
      have O53 := hid (O44.out.later hL)
      have O54 := hid (O45.out.later hL)
      have L55 := hid (L46.out.trans hL)
      have S56 := hid hL.size
      clear hc42 hc43 hx41 O44 O45 L46 hL
      go_wp2_with fail
      refine (HI.out _ _ _ (O54.out.rows) (O49.out.ints)).mono ?_
      rintro e w57 ⟨y57, rfl, hown, hL⟩
      obtain ⟨a57, cap57, rfl, _⟩ := hown.shape
      have O58 := hid hown
      clear hown
      have hc59 := hL.cell hc50
      have hc60 := hL.cell hc51
      have hc61 := hL.cell hc52
      have O62 := hid (O53.out.later hL)
      have O63 := hid (O54.out.later hL)
      have O64 := hid (O49.out.later hL)
      have L65 := hid (L55.out.trans hL)
      have S66 := hid hL.size
      clear hc50 hc51 hc52 O53 O54 O49 L55 hL
      have hne0 : ((o.isSome) != (o.isSome)) = false := by simp
      have hA := Later.alloc w57 (.cells #[Value.slice a57 (o.getD []).length cap57] 42)
      have hc69 := hA.cell hc59
      have hc70 := hA.cell hc60
      have hc71 := hA.cell hc61
      have O72 := hid (O62.out.later hA)
      have O73 := hid (O63.out.later hA)
      have O74 := hid (O64.out.later hA)
      have O75 := hid (O58.out.later hA)
      have L76 := hid (L65.out.trans hA)
      have S77 := hid (And.intro hA.size (show w57.heap.size < (w57.alloc (.cells #[Value.slice a57 (o.getD []).length cap57] 42)).heap.size by simp))
      clear hA
      go_wp2_with fail
      have hx68 : (w57.alloc (.cells #[Value.slice a57 (o.getD []).length cap57] 42)).cell? ⟨w57.heap.size, 0, none⟩ = some (Value.slice a57 (o.getD []).length cap57) := by simp [go_sem]
      clear hc59 hc60 hc61 O62 O63 O64 O58 L65
      generalize (w57.alloc (.cells #[Value.slice a57 (o.getD []).length cap57] 42)) = w67 at hx68 hc69 hc70 hc71 O72 O73 O74 O75 L76 S77 ⊢
      refine (eqMatrix_any _ _ _ _ _ (O75.out.rows) (O72.out.rows)).mono ?_
      rintro e w78 ⟨rfl, hL⟩
      rw [eqLL_self]
      have hc79 := hL.cell hc69
      have hc80 := hL.cell hc70
      have hc81 := hL.cell hc71
      have hc82 := hL.cell hx68
      have O83 := hid (O72.out.later hL)
      have O84 := hid (O73.out.later hL)
      have O85 := hid (O74.out.later hL)
      have O86 := hid (O75.out.later hL)
      have L87 := hid (L76.out.trans hL)
      have S88 := hid hL.size
      clear hc69 hc70 hc71 hx68 O72 O73 O74 O75 L76 hL
      go_wp2_with fail
      go_region_held3 (fun w' => w'.cell? ⟨w.heap.size, 0, none⟩ = some (Value.slice a00 z0.length cap00) ∧ w'.cell? ⟨w33.heap.size, 0, none⟩ = some (Value.slice a33 z0.length cap33)) (first | exact ⟨hc79, hc81⟩ | exact ⟨hra89, hrx89⟩ | exact ⟨hsa89, hsx89⟩) (first | (go_at_call 30; refine (toMatrix_any _ z0 _ HN0.out.1 HN0.out.2 (H0.out.later (L87.out.trans (Later.drew w78)))).mono ?_; rintro e wr89 ⟨yr89, rfl, hor89, hLr89⟩; have Rr89 := hid hor89.rows; have hra89 := hLr89.cell hc79; have hrx89 := hLr89.cell hc81; have Lr89 := hid ((Later.drew w78).trans hLr89); clear hLr89 hor89) | (go_at_call 32; refine (eqMatrix_any _ _ _ _ _ ((O84.out.rows).later Lr89.out) Rr89.out).mono ?_; rintro e ws89 ⟨rfl, hLs89⟩; have hsa89 := hLs89.cell hra89; have hsx89 := hLs89.cell hrx89; have Ls89 := hid (Lr89.out.trans hLs89); clear hLs89; rw [eqLL_self]))
      have hL := Ls89.out
      clear hsa89 hsx89 hra89 hrx89
      have hc90 := hL.cell hc79
      have hc91 := hL.cell hc80
      have hc92 := hL.cell hc81
      have hc93 := hL.cell hc82
      have O94 := hid (O83.out.later hL)
      have O95 := hid (O84.out.later hL)
      have O96 := hid (O85.out.later hL)
      have O97 := hid (O86.out.later hL)
      have L98 := hid (L87.out.trans hL)
      have S99 := hid hL.size
      clear hc79 hc80 hc81 hc82 O83 O84 O85 O86 L87 hL
      go_wp2_with fail
      refine (toIntS_any _ z1 _ HN1.out (H1.out.later L98.out)).mono ?_
      rintro e w100 ⟨y100, rfl, hown, hL⟩
      obtain ⟨a100, cap100, rfl, _⟩ := hown.shape
      have O101 := hid hown
      clear hown
      have hc102 := hL.cell hc90
      have hc103 := hL.cell hc91
      have hc104 := hL.cell hc92
      have hc105 := hL.cell hc93
      have O106 := hid (O94.out.later hL)
      have O107 := hid (O95.out.later hL)
      have O108 := hid (O96.out.later hL)
      have O109 := hid (O97.out.later hL)
      have L110 := hid (L98.out.trans hL)
      have S111 := hid hL.size
      clear hc90 hc91 hc92 hc93 O94 O95 O96 O97 L98 hL
      go_wp2_with fail
      refine (eqIntS_any _ _ _ _ _ (O108.out.ints) (O101.out.ints)).mono ?_
      rintro e w112 ⟨rfl, hD⟩
      have hL := hD.later
      clear hD
      rw [eqL_self]
      have hc113 := hL.cell hc102
      have hc114 := hL.cell hc103
      have hc115 := hL.cell hc104
      have hc116 := hL.cell hc105
      have O117 := hid (O106.out.later hL)
      have O118 := hid (O107.out.later hL)
      have O119 := hid (O108.out.later hL)
      have O120 := hid (O109.out.later hL)
      have O121 := hid (O101.out.later hL)
      have L122 := hid (L110.out.trans hL)
      have S123 := hid hL.size
      clear hc102 hc103 hc104 hc105 O106 O107 O108 O109 O101 L110 hL
      clear O121
      go_wp2_with fail
      refine (markMatrix_any w27.heap.size (w33.heap.size) _ _ _ _ ⟨by omega, by omega⟩ O118.out).mono ?_
      rintro e w124 ⟨wm124, hL, rfl, hown, hW⟩
      have hc125 := cell_keep (hL.cell hc113) (hW.block _ (show ¬ (w27.heap.size ≤ w.heap.size ∧ w.heap.size < w33.heap.size) by have := S3.out; have := S8.out; have := S13.out; have := S19.out; have := S26.out; have := S32.out; have := S39.out; have := S47.out; have := S56.out; have := S66.out; have := S77.out; have := S88.out; have := S99.out; have := S111.out; have := S123.out; omega))
      clear hc113
      have hc126 := cell_keep (hL.cell hc114) (hW.block _ (show ¬ (w27.heap.size ≤ w20.heap.size ∧ w20.heap.size < w33.heap.size) by have := S3.out; have := S8.out; have := S13.out; have := S19.out; have := S26.out; have := S32.out; have := S39.out; have := S47.out; have := S56.out; have := S66.out; have := S77.out; have := S88.out; have := S99.out; have := S111.out; have := S123.out; omega))
      clear hc114
      have hc127 := cell_keep (hL.cell hc115) (hW.block _ (show ¬ (w27.heap.size ≤ w33.heap.size ∧ w33.heap.size < w33.heap.size) by have := S3.out; have := S8.out; have := S13.out; have := S19.out; have := S26.out; have := S32.out; have := S39.out; have := S47.out; have := S56.out; have := S66.out; have := S77.out; have := S88.out; have := S99.out; have := S111.out; have := S123.out; omega))
      clear hc115
      have hc128 := cell_keep (hL.cell hc116) (hW.block _ (show ¬ (w27.heap.size ≤ w57.heap.size ∧ w57.heap.size < w33.heap.size) by have := S3.out; have := S8.out; have := S13.out; have := S19.out; have := S26.out; have := S32.out; have := S39.out; have := S47.out; have := S56.out; have := S66.out; have := S77.out; have := S88.out; have := S99.out; have := S111.out; have := S123.out; omega))
      clear hc116
      have O129 := hid ((O117.out.later hL).keep fun b h1 h2 => hW.block b (by have := S3.out; have := S8.out; have := S13.out; have := S19.out; have := S26.out; have := S32.out; have := S39.out; have := S47.out; have := S56.out; have := S66.out; have := S77.out; have := S88.out; have := S99.out; have := S111.out; have := S123.out; omega))
      clear O117
      have O130 := hid ((O119.out.later hL).keep fun b h1 h2 => hW.block b (by have := S3.out; have := S8.out; have := S13.out; have := S19.out; have := S26.out; have := S32.out; have := S39.out; have := S47.out; have := S56.out; have := S66.out; have := S77.out; have := S88.out; have := S99.out; have := S111.out; have := S123.out; omega))
      clear O119
      have O131 := hid ((O120.out.later hL).keep fun b h1 h2 => hW.block b (by have := S3.out; have := S8.out; have := S13.out; have := S19.out; have := S26.out; have := S32.out; have := S39.out; have := S47.out; have := S56.out; have := S66.out; have := S77.out; have := S88.out; have := S99.out; have := S111.out; have := S123.out; omega))
      clear O120
      have O132 := hid hown
      clear hown O118
      have L133 := hid (show Later w w124 from Wrote.below (L122.out.trans hL) hW (fun b hb => by have := S3.out; have := S8.out; have := S13.out; have := S19.out; have := S26.out; have := S32.out; have := S39.out; have := S47.out; have := S56.out; have := S66.out; have := S77.out; have := S88.out; have := S99.out; have := S111.out; have := S123.out; omega))
      clear L122
      have S134 := hid (show w112.heap.size ≤ w124.heap.size by have := hL.size; have := hW.size; omega)
      clear hL hW
      go_wp2_with fail
      refine (markIntS_any w40.heap.size (w48.heap.size) _ _ _ _ ⟨by omega, by omega⟩ O130.out).mono ?_
      rintro e w135 ⟨rfl, hown, hW⟩
      have hW := hW.mono (fun b hb => O130.out.blk hb)
      have hL := Later.refl w124
      have hc136 := cell_keep (hL.cell hc125) (hW.block _ (show ¬ (w40.heap.size ≤ w.heap.size ∧ w.heap.size < w48.heap.size) by have := S3.out; have := S8.out; have := S13.out; have := S19.out; have := S26.out; have := S32.out; have := S39.out; have := S47.out; have := S56.out; have := S66.out; have := S77.out; have := S88.out; have := S99.out; have := S111.out; have := S123.out; have := S134.out; omega))
      clear hc125
      have hc137 := cell_keep (hL.cell hc126) (hW.block _ (show ¬ (w40.heap.size ≤ w20.heap.size ∧ w20.heap.size < w48.heap.size) by have := S3.out; have := S8.out; have := S13.out; have := S19.out; have := S26.out; have := S32.out; have := S39.out; have := S47.out; have := S56.out; have := S66.out; have := S77.out; have := S88.out; have := S99.out; have := S111.out; have := S123.out; have := S134.out; omega))
      clear hc126
      have hc138 := cell_keep (hL.cell hc127) (hW.block _ (show ¬ (w40.heap.size ≤ w33.heap.size ∧ w33.heap.size < w48.heap.size) by have := S3.out; have := S8.out; have := S13.out; have := S19.out; have := S26.out; have := S32.out; have := S39.out; have := S47.out; have := S56.out; have := S66.out; have := S77.out; have := S88.out; have := S99.out; have := S111.out; have := S123.out; have := S134.out; omega))
      clear hc127
      have hc139 := cell_keep (hL.cell hc128) (hW.block _ (show ¬ (w40.heap.size ≤ w57.heap.size ∧ w57.heap.size < w48.heap.size) by have := S3.out; have := S8.out; have := S13.out; have := S19.out; have := S26.out; have := S32.out; have := S39.out; have := S47.out; have := S56.out; have := S66.out; have := S77.out; have := S88.out; have := S99.out; have := S111.out; have := S123.out; have := S134.out; omega))
      clear hc128
      have O140 := hid ((O129.out.later hL).keep fun b h1 h2 => hW.block b (by have := S3.out; have := S8.out; have := S13.out; have := S19.out; have := S26.out; have := S32.out; have := S39.out; have := S47.out; have := S56.out; have := S66.out; have := S77.out; have := S88.out; have := S99.out; have := S111.out; have := S123.out; have := S134.out; omega))
      clear O129
      have O141 := hid ((O132.out.later hL).keep fun b h1 h2 => hW.block b (by have := S3.out; have := S8.out; have := S13.out; have := S19.out; have := S26.out; have := S32.out; have := S39.out; have := S47.out; have := S56.out; have := S66.out; have := S77.out; have := S88.out; have := S99.out; have := S111.out; have := S123.out; have := S134.out; omega))
      clear O132
      have O142 := hid ((O131.out.later hL).keep fun b h1 h2 => hW.block b (by have := S3.out; have := S8.out; have := S13.out; have := S19.out; have := S26.out; have := S32.out; have := S39.out; have := S47.out; have := S56.out; have := S66.out; have := S77.out; have := S88.out; have := S99.out; have := S111.out; have := S123.out; have := S134.out; omega))
      clear O131
      have O143 := hid hown
      clear hown O130
      have L144 := hid (show Later w w135 from Wrote.below (L133.out.trans hL) hW (fun b hb => by have := S3.out; have := S8.out; have := S13.out; have := S19.out; have := S26.out; have := S32.out; have := S39.out; have := S47.out; have := S56.out; have := S66.out; have := S77.out; have := S88.out; have := S99.out; have := S111.out; have := S123.out; have := S134.out; omega))
      clear L133
      have S145 := hid (show w124.heap.size ≤ w135.heap.size by have := hL.size; have := hW.size; omega)
      clear hL hW
      have hkn : ¬ (((1 : Int) + (off z0 z0.length : Int)) + (z1.length : Int)) < 0 := by omega
      go_wp2_with fail
      refine (eqMatrix_any _ _ _ _ _ (O142.out.rows) (O140.out.rows)).mono ?_
      rintro e w146 ⟨rfl, hL⟩
      rw [eqLL_self]
      have hc147 := hL.cell hc136
      have hc148 := hL.cell hc137
      have hc149 := hL.cell hc138
      have hc150 := hL.cell hc139
      have O151 := hid (O140.out.later hL)
      have O152 := hid (O141.out.later hL)
      have O153 := hid (O143.out.later hL)
      have O154 := hid (O142.out.later hL)
      have L155 := hid (L144.out.trans hL)
      have S156 := hid hL.size
      clear hc136 hc137 hc138 hc139 O140 O141 O143 O142 L144 hL
      go_wp2_with fail
      have hmm : (((1 : Int) + (off (o.getD []) (o.getD []).length : Int)) != ((1 : Int) + (off (o.getD []) (o.getD []).length : Int))) = false := by simp
      have hmn : ¬ (1 : Int) + (off (o.getD []) (o.getD []).length : Int) < 0 := by omega
      refine (markMatrix_any w48.heap.size (w57.heap.size) _ _ _ _ ⟨by omega, by omega⟩ O154.out).mono ?_
      rintro e w157 ⟨wm157, hL, rfl, hown, hW⟩
      have hc158 := cell_keep (hL.cell hc147) (hW.block _ (show ¬ (w48.heap.size ≤ w.heap.size ∧ w.heap.size < w57.heap.size) by have := S3.out; have := S8.out; have := S13.out; have := S19.out; have := S26.out; have := S32.out; have := S39.out; have := S47.out; have := S56.out; have := S66.out; have := S77.out; have := S88.out; have := S99.out; have := S111.out; have := S123.out; have := S134.out; have := S145.out; have := S156.out; omega))
      clear hc147
      have hc159 := cell_keep (hL.cell hc148) (hW.block _ (show ¬ (w48.heap.size ≤ w20.heap.size ∧ w20.heap.size < w57.heap.size) by have := S3.out; have := S8.out; have := S13.out; have := S19.out; have := S26.out; have := S32.out; have := S39.out; have := S47.out; have := S56.out; have := S66.out; have := S77.out; have := S88.out; have := S99.out; have := S111.out; have := S123.out; have := S134.out; have := S145.out; have := S156.out; omega))
      clear hc148
      have hc160 := cell_keep (hL.cell hc149) (hW.block _ (show ¬ (w48.heap.size ≤ w33.heap.size ∧ w33.heap.size < w57.heap.size) by have := S3.out; have := S8.out; have := S13.out; have := S19.out; have := S26.out; have := S32.out; have := S39.out; have := S47.out; have := S56.out; have := S66.out; have := S77.out; have := S88.out; have := S99.out; have := S111.out; have := S123.out; have := S134.out; have := S145.out; have := S156.out; omega))
      clear hc149
      have hc161 := cell_keep (hL.cell hc150) (hW.block _ (show ¬ (w48.heap.size ≤ w57.heap.size ∧ w57.heap.size < w57.heap.size) by have := S3.out; have := S8.out; have := S13.out; have := S19.out; have := S26.out; have := S32.out; have := S39.out; have := S47.out; have := S56.out; have := S66.out; have := S77.out; have := S88.out; have := S99.out; have := S111.out; have := S123.out; have := S134.out; have := S145.out; have := S156.out; omega))
      clear hc150
      have O162 := hid ((O151.out.later hL).keep fun b h1 h2 => hW.block b (by have := S3.out; have := S8.out; have := S13.out; have := S19.out; have := S26.out; have := S32.out; have := S39.out; have := S47.out; have := S56.out; have := S66.out; have := S77.out; have := S88.out; have := S99.out; have := S111.out; have := S123.out; have := S134.out; have := S145.out; have := S156.out; omega))
      clear O151
      have O163 := hid ((O152.out.later hL).keep fun b h1 h2 => hW.block b (by have := S3.out; have := S8.out; have := S13.out; have := S19.out; have := S26.out; have := S32.out; have := S39.out; have := S47.out; have := S56.out; have := S66.out; have := S77.out; have := S88.out; have := S99.out; have := S111.out; have := S123.out; have := S134.out; have := S145.out; have := S156.out; omega))
      clear O152
      have O164 := hid ((O153.out.later hL).keep fun b h1 h2 => hW.block b (by have := S3.out; have := S8.out; have := S13.out; have := S19.out; have := S26.out; have := S32.out; have := S39.out; have := S47.out; have := S56.out; have := S66.out; have := S77.out; have := S88.out; have := S99.out; have := S111.out; have := S123.out; have := S134.out; have := S145.out; have := S156.out; omega))
      clear O153
      have O165 := hid hown
      clear hown O154
      have L166 := hid (show Later w w157 from Wrote.below (L155.out.trans hL) hW (fun b hb => by have := S3.out; have := S8.out; have := S13.out; have := S19.out; have := S26.out; have := S32.out; have := S39.out; have := S47.out; have := S56.out; have := S66.out; have := S77.out; have := S88.out; have := S99.out; have := S111.out; have := S123.out; have := S134.out; have := S145.out; have := S156.out; omega))
      clear L155
      have S167 := hid (show w146.heap.size ≤ w157.heap.size by have := hL.size; have := hW.size; omega)
      clear hL hW
      go_wp2_with fail
      refine (heldMatrix_any _ (o.getD []) _ _ ⟨by omega, by omega⟩ O165.out.rows).mono ?_
      rintro e w168 ⟨rfl, hL⟩
      have hc169 := hL.cell hc158
      have hc170 := hL.cell hc159
      have hc171 := hL.cell hc160
      have hc172 := hL.cell hc161
      have O173 := hid (O162.out.later hL)
      have O174 := hid (O163.out.later hL)
      have O175 := hid (O164.out.later hL)
      have O176 := hid (O165.out.later hL)
      have L177 := hid (L166.out.trans hL)
      have S178 := hid hL.size
      clear hc158 hc159 hc160 hc161 O162 O163 O164 O165 L166 hL
      go_wp2_with fail
      refine (toMatrix_any _ z0 _ HN0.out.1 HN0.out.2 (H0.out.later L177.out)).mono ?_
      rintro e w179 ⟨y179, rfl, hown, hL⟩
      obtain ⟨a179, cap179, rfl, _⟩ := hown.shape
      have O180 := hid hown
      clear hown
      have hc181 := hL.cell hc169
      have hc182 := hL.cell hc170
      have hc183 := hL.cell hc171
      have hc184 := hL.cell hc172
      have O185 := hid (O173.out.later hL)
      have O186 := hid (O174.out.later hL)
      have O187 := hid (O175.out.later hL)
      have O188 := hid (O176.out.later hL)
      have L189 := hid (L177.out.trans hL)
      have S190 := hid hL.size
      clear hc169 hc170 hc171 hc172 O173 O174 O175 O176 L177 hL
      go_wp2_with fail
      refine (toIntS_any _ z1 _ HN1.out (H1.out.later L189.out)).mono ?_
      rintro e w191 ⟨y191, rfl, hown, hL⟩
      obtain ⟨a191, cap191, rfl, _⟩ := hown.shape
      have O192 := hid hown
      clear hown
      have hc193 := hL.cell hc181
      have hc194 := hL.cell hc182
      have hc195 := hL.cell hc183
      have hc196 := hL.cell hc184
      have O197 := hid (O185.out.later hL)
      have O198 := hid (O186.out.later hL)
      have O199 := hid (O187.out.later hL)
      have O200 := hid (O188.out.later hL)
      have O201 := hid (O180.out.later hL)
      have L202 := hid (L189.out.trans hL)
      have S203 := hid hL.size
      clear hc181 hc182 hc183 hc184 O185 O186 O187 O188 O180 L189 hL
      go_wp2_with fail
      refine (HI.out _ _ _ (O201.out.rows) (O192.out.ints)).mono ?_
      rintro e w204 ⟨y204, rfl, hown, hL⟩
      obtain ⟨a204, cap204, rfl, _⟩ := hown.shape
      have O205 := hid hown
      clear hown
      have hc206 := hL.cell hc193
      have hc207 := hL.cell hc194
      have hc208 := hL.cell hc195
      have hc209 := hL.cell hc196
      have O210 := hid (O197.out.later hL)
      have O211 := hid (O198.out.later hL)
      have O212 := hid (O199.out.later hL)
      have O213 := hid (O200.out.later hL)
      have O214 := hid (O201.out.later hL)
      have O215 := hid (O192.out.later hL)
      have L216 := hid (L202.out.trans hL)
      have S217 := hid hL.size
      clear hc193 hc194 hc195 hc196 O197 O198 O199 O200 O201 O192 L202 hL
      clear O214
      clear O215
      have hA := Later.alloc w204 (.cells #[Value.slice a204 (o.getD []).length cap204] 42)
      have hc220 := hA.cell hc206
      have hc221 := hA.cell hc207
      have hc222 := hA.cell hc208
      have hc223 := hA.cell hc209
      have O224 := hid (O210.out.later hA)
      have O225 := hid (O211.out.later hA)
      have O226 := hid (O212.out.later hA)
      have O227 := hid (O213.out.later hA)
      have O228 := hid (O205.out.later hA)
      have L229 := hid (L216.out.trans hA)
      have S230 := hid (And.intro hA.size (show w204.heap.size < (w204.alloc (.cells #[Value.slice a204 (o.getD []).length cap204] 42)).heap.size by simp))
      clear hA
      go_wp2_with fail
      have hx219 : (w204.alloc (.cells #[Value.slice a204 (o.getD []).length cap204] 42)).cell? ⟨w204.heap.size, 0, none⟩ = some (Value.slice a204 (o.getD []).length cap204) := by simp [go_sem]
      clear hc206 hc207 hc208 hc209 O210 O211 O212 O213 O205 L216
      generalize (w204.alloc (.cells #[Value.slice a204 (o.getD []).length cap204] 42)) = w218 at hx219 hc220 hc221 hc222 hc223 O224 O225 O226 O227 O228 L229 S230 ⊢
      refine (eqMatrix_any _ _ _ _ _ (O228.out.rows) (O224.out.rows)).mono ?_
      rintro e w231 ⟨rfl, hL⟩
      rw [eqLL_self]
      have hc232 := hL.cell hc220
      have hc233 := hL.cell hc221
      have hc234 := hL.cell hc222
      have hc235 := hL.cell hc223
      have hc236 := hL.cell hx219
      have O237 := hid (O224.out.later hL)
      have O238 := hid (O225.out.later hL)
      have O239 := hid (O226.out.later hL)
      have O240 := hid (O227.out.later hL)
      have O241 := hid (O228.out.later hL)
      have L242 := hid (L229.out.trans hL)
      have S243 := hid hL.size
      clear hc220 hc221 hc222 hc223 hx219 O224 O225 O226 O227 O228 L229 hL
      go_wp2_with fail
      refine (heldMatrix_any _ (o.getD []) _ _ ⟨by omega, by omega⟩ O240.out.rows).mono ?_
      rintro e w244 ⟨rfl, hL⟩
      have hc245 := hL.cell hc232
      have hc246 := hL.cell hc233
      have hc247 := hL.cell hc234
      have hc248 := hL.cell hc235
      have hc249 := hL.cell hc236
      have O250 := hid (O237.out.later hL)
      have O251 := hid (O238.out.later hL)
      have O252 := hid (O239.out.later hL)
      have O253 := hid (O240.out.later hL)
      have O254 := hid (O241.out.later hL)
      have L255 := hid (L242.out.trans hL)
      have S256 := hid hL.size
      clear hc232 hc233 hc234 hc235 hc236 O237 O238 O239 O240 O241 L242 hL
      go_wp2_with fail
      go_ret
      exact ⟨rfl, L255.out⟩
  · have hq1 : (1048576 : Int) < (z1.length : Int) := by omega
    go_enter Try.func9, Try.ntmps9
    go_wp2_with fail
    go_ret
    exact ⟨rfl, (Later.alloc _ _)⟩
end Go.Proofs.Ytmlnpnglafipbab
