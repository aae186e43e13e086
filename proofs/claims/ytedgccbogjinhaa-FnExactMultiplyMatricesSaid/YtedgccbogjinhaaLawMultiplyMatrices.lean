/- The walk of the law FnExactMultiplyMatrices, over whatever contracts the model's and the program's functions have. -/
import Derived.Test.YtedgccbogjinhaaAns
import Derived.Deep.RegionHeld3
import Derived.Deep.DeepCutAuto
namespace Go.Proofs.Ytedgccbogjinhaa
open Go.RowKit

set_option maxRecDepth 20000 in
set_option maxHeartbeats 4000000 in
theorem lawMultiplyMatrices_gen (z0 : List (List Int)) (z1 : List (List Int)) (o : Option (List (List Int))) (hob : off (o.getD []) (o.getD []).length ≤ 1000000000000)
    (hS : ∀ (v0 : Value) (v1 : Value) (w : World), Rows2 w v0 z0 → Rows2 w v1 z1 → Calls Try.prog 24 #[.agg #[v0], .agg #[v1]] w fun e w' => MatAns w o e w')
    (hI : ∀ (v0 : Value) (v1 : Value) (w : World), Rows2 w v0 z0 → Rows2 w v1 z1 → Calls Try.prog 25 #[.agg #[v0], .agg #[v1]] w fun e w' => MatAns w o e w')
    (v0 : Value) (v1 : Value) (w : World) (h0 : Rows2 w v0 z0) (h1 : Rows2 w v1 z1) :
    Calls Try.prog 5 #[.agg #[v0], .agg #[v1]] w fun e w' => e = .returned (.bool true) ∧ Later w w' := by
  have HS := hid hS
  have HI := hid hI
  clear hS hI
  obtain ⟨a00, cap00, rfl, hlen0, _⟩ := id h0
  have H0 := hid h0
  clear h0
  obtain ⟨a01, cap01, rfl, hlen1, _⟩ := id h1
  have H1 := hid h1
  clear h1
  go_enter Try.func5, Try.ntmps5
  go_wp2_with fail
  have hx1 : ((w.alloc (.cells #[Value.slice a00 z0.length cap00] 24)).alloc (.cells #[Value.slice a01 z1.length cap01] 24)).cell? ⟨w.heap.size, 0, none⟩ = some (Value.slice a00 z0.length cap00) := by simp [go_sem]
  have hx2 : ((w.alloc (.cells #[Value.slice a00 z0.length cap00] 24)).alloc (.cells #[Value.slice a01 z1.length cap01] 24)).cell? ⟨w.heap.size + 1, 0, none⟩ = some (Value.slice a01 z1.length cap01) := by simp [go_sem]
  have L3 : Hid (Later w ((w.alloc (.cells #[Value.slice a00 z0.length cap00] 24)).alloc (.cells #[Value.slice a01 z1.length cap01] 24))) := hid ((Later.alloc _ _).trans (Later.alloc _ _))
  have S4 := hid (show w.heap.size + 2 ≤ ((w.alloc (.cells #[Value.slice a00 z0.length cap00] 24)).alloc (.cells #[Value.slice a01 z1.length cap01] 24)).heap.size by simp)
  generalize ((w.alloc (.cells #[Value.slice a00 z0.length cap00] 24)).alloc (.cells #[Value.slice a01 z1.length cap01] 24)) = w5 at hx1 hx2 L3 S4 ⊢
  refine (szMatrix_any _ z0 _ _ ⟨by omega, by omega⟩ (H0.out.later L3.out)).mono ?_
  rintro e w6 ⟨⟨r0, rfl, hr0⟩, hL⟩
  have hc7 := hL.cell hx1
  have hc8 := hL.cell hx2
  have L9 := hid (L3.out.trans hL)
  have S10 := hid hL.size
  clear hx1 hx2 L3 hL
  rcases hr0 with rfl | ⟨hr0a, hr0b, hr0n, hns0⟩
  · go_wp2_with fail
    go_ret
    exact ⟨rfl, L9.out⟩
  · have hnr0 : ¬ r0 < 0 := by omega
    have HN0 := hid (show z0.length ≤ 1048576 ∧ ∀ i, i < z0.length → (z0.getD i []).length ≤ 1048576 from ⟨by omega, fun i hi => by have := hns0 i hi; omega⟩)
    have hoff0 := off_args z0 HN0.out.2 HN0.out.1
    clear hns0
    go_wp2_with fail
    refine (szMatrix_any _ z1 _ _ ⟨by omega, by omega⟩ (H1.out.later L9.out)).mono ?_
    rintro e w11 ⟨⟨r1, rfl, hr1⟩, hL⟩
    have hc12 := hL.cell hc7
    have hc13 := hL.cell hc8
    have L14 := hid (L9.out.trans hL)
    have S15 := hid hL.size
    clear hc7 hc8 L9 hL
    rcases hr1 with rfl | ⟨hr1a, hr1b, hr1n, hns1⟩
    · go_wp2_with fail
      go_ret
      exact ⟨rfl, L14.out⟩
    · have hnr1 : ¬ r1 < 0 := by omega
      have HN1 := hid (show z1.length ≤ 1048576 ∧ ∀ i, i < z1.length → (z1.getD i []).length ≤ 1048576 from ⟨by omega, fun i hi => by have := hns1 i hi; omega⟩)
      have hoff1 := off_args z1 HN1.out.2 HN1.out.1
      clear hns1
      go_upto_region 8 with fail
      go_cut [6, 7] (fun s6 s7 wx => ∃ (b : Nat) (a : Option Addr) (c : Nat), s6 = .pointer (some ⟨b, 0, none⟩) ∧ s7 = .bool o.isSome ∧ wx.cell? ⟨b, 0, none⟩ = some (.slice a (o.getD []).length c) ∧ OwnRows w11.heap.size wx.heap.size wx (.slice a (o.getD []).length c) (o.getD []) ∧ Later w11 wx ∧ w11.heap.size ≤ b ∧ b < wx.heap.size)
      case first =>
        have e12 := (Later.drew w11).cell hc12
        have e13 := (Later.drew w11).cell hc13
        have hs11 : w.heap.size + 2 ≤ w11.heap.size := by have := S4.out; have := S10.out; have := S15.out; omega
        go_region_held3 (fun w' => w'.cell? ⟨w.heap.size, 0, none⟩ = some (Value.slice a00 z0.length cap00) ∧ w'.cell? ⟨w.heap.size + 1, 0, none⟩ = some (Value.slice a01 z1.length cap01)) (first | exact ⟨e12, e13⟩ | exact ⟨f12, f13⟩ | exact ⟨g12, g13⟩ | exact ⟨h12, h13⟩ | go_keep | exact ⟨(World.cell?_setCell_far _ _ _ _ (by simp; omega)).trans h12, (World.cell?_setCell_far _ _ _ _ (by simp; omega)).trans h13⟩) (first | (have hh := O23; clear hh; go_at_call 24; refine (HS.out _ _ _ (by first | exact O17.out.rows.later LB.out | exact O17.out.rows.later (LB.out.trans (Later.alloc _ _))) (by first | exact O23.out.rows | exact O23.out.rows.later (Later.alloc _ _))).mono ?_; rintro e w30 ⟨y30, rfl, hown, hL⟩; obtain ⟨a30, cap30, rfl, _⟩ := hown.shape; have L30 : Hid (Later w11 w30) := hid (by first | exact LAB.out.trans hL | exact LAB.out.trans ((Later.alloc _ _).trans hL)); have O30 := hid hown; have h12 := L30.out.cell hc12; have h13 := L30.out.cell hc13; (first | (have HBX := hid (HBX.out.later hL)) | skip); (first | (have HBX := hid (Box.later (w := w22.alloc (.cells #[Value.slice none 0 0] 27)) (b := w22.heap.size) (v := .slice none 0 0) ⟨by simp [go_sem], by simp [go_sem]⟩ hL)) | skip); (first | (obtain ⟨bxc, bxf⟩ := HBX.out) | skip); have hs30 := L30.out.size; clear hown) | (have hh := O17; clear hh; go_at_call 17; refine (toMatrix_any _ z1 _ HN1.out.1 HN1.out.2 (H1.out.later (L14.out.trans (by first | exact LA.out | exact LA.out.trans (Later.alloc _ _))))).mono ?_; rintro e w22 ⟨y22, rfl, hown, hL⟩; obtain ⟨a22, cap22, rfl, _⟩ := hown.shape; have O23 := hid hown; have LB : Hid (Later w16 w22) := hid (by first | exact hL | exact (Later.alloc _ _).trans hL); have LAB := hid (LA.out.trans LB.out); have g12 := LAB.out.cell hc12; have g13 := LAB.out.cell hc13; (first | (have HBX := hid (HBX.out.later hL)) | skip); (first | (have HBX := hid (Box.later (w := w16.alloc (.cells #[Value.slice none 0 0] 27)) (b := w16.heap.size) (v := .slice none 0 0) ⟨by simp [go_sem], by simp [go_sem]⟩ hL)) | skip); (first | (have hbB := HBX.out.lt) | skip); have hs22 := LAB.out.size; clear hown hL) | (go_at_call 17; refine (toMatrix_any _ z0 _ HN0.out.1 HN0.out.2 (H0.out.later (L14.out.trans (by first | exact Later.drew w11 | exact (Later.drew w11).trans (Later.alloc _ _))))).mono ?_; rintro e w16 ⟨y16, rfl, hown, hL⟩; obtain ⟨a16, cap16, rfl, _⟩ := hown.shape; have O17 := hid hown; have LA : Hid (Later w11 w16) := hid (by first | exact (Later.drew w11).trans hL | exact (Later.drew w11).trans ((Later.alloc _ _).trans hL)); have f12 := LA.out.cell hc12; have f13 := LA.out.cell hc13; (first | (have HBX := hid (Box.later (w := w11.drew.alloc (.cells #[Value.slice none 0 0] 27)) (b := w11.heap.size) (v := .slice none 0 0) ⟨by simp [go_sem], by simp [go_sem]⟩ hL)) | skip); (first | (have hbA := HBX.out.lt) | skip); have hs16 := LA.out.size; clear hown hL))
        all_goals
          go_wp2_with fail
          go_meet
          first | exact ⟨_, a30, cap30, rfl, rfl, by simp [go_sem], (O30.out.later (Later.alloc _ _)).wide (by first | omega | (simp; done) | (simp; omega)) (by simp), L30.out.trans (Later.alloc _ _), by omega, by simp⟩ | exact ⟨_, a30, cap30, rfl, rfl, World.cell?_setCell_same _ _ _ bxc, (O30.out.setCell (a := ⟨_, 0, none⟩) (by first | omega | (simp; done) | (simp; omega)) _).wide (by first | omega | (simp; done) | (simp; omega)) (by simp [World.setCell]), L30.out.setCell (by first | omega | (simp; done) | (simp; omega)) _, by omega, by have := World.block_lt_of_cell? _ _ bxc; simpa [World.setCell] using this⟩
      case rest =>
        obtain ⟨bkx, a31x, cap31x, rfl, rfl, hcbx, hown, hL, hbk1, hbk2⟩ := hcut
        have O31x := hid hown
        have SBx := hid (And.intro hbk1 hbk2)
        clear hown hbk1 hbk2
        have hc16 := hL.cell hc12
        have hc17 := hL.cell hc13
        have L18 := hid (L14.out.trans hL)
        have S19 := hid hL.size
        clear hc12 hc13 L14 hL
        go_wp2_with fail
        refine (toMatrix_any _ z0 _ HN0.out.1 HN0.out.2 (H0.out.later L18.out)).mono ?_
        rintro e w20 ⟨y20, rfl, hown, hL⟩
        obtain ⟨a20, cap20, rfl, _⟩ := hown.shape
        have O21 := hid hown
        clear hown
        have hc22 := hL.cell hc16
        have hc23 := hL.cell hc17
        have hc24 := hL.cell hcbx
        have O25 := hid (O31x.out.later hL)
        have L26 := hid (L18.out.trans hL)
        have S27 := hid hL.size
        clear hc16 hc17 hcbx O31x L18 hL
        have hA := Later.alloc w20 (.cells #[Value.slice a20 z0.length cap20] 27)
        have hc30 := hA.cell hc22
        have hc31 := hA.cell hc23
        have hc32 := hA.cell hc24
        have O33 := hid (O25.out.later hA)
        have O34 := hid (O21.out.later hA)
        have L35 := hid (L26.out.trans hA)
        have S36 := hid (And.intro hA.size (show w20.heap.size < (w20.alloc (.cells #[Value.slice a20 z0.length cap20] 27)).heap.size by simp))
        clear hA
        go_wp2_with fail
        have hx29 : (w20.alloc (.cells #[Value.slice a20 z0.length cap20] 27)).cell? ⟨w20.heap.size, 0, none⟩ = some (Value.slice a20 z0.length cap20) := by simp [go_sem]
        clear hc22 hc23 hc24 O25 O21 L26
        generalize (w20.alloc (.cells #[Value.slice a20 z0.length cap20] 27)) = w28 at hx29 hc30 hc31 hc32 O33 O34 L35 S36 ⊢
        refine (toMatrix_any _ z1 _ HN1.out.1 HN1.out.2 (H1.out.later L35.out)).mono ?_
        rintro e w37 ⟨y37, rfl, hown, hL⟩
        obtain ⟨a37, cap37, rfl, _⟩ := hown.shape
        have O38 := hid hown
        clear hown
        have hc39 := hL.cell hc30
        have hc40 := hL.cell hc31
        have hc41 := hL.cell hc32
        have hc42 := hL.cell hx29
        have O43 := hid (O33.out.later hL)
        have O44 := hid (O34.out.later hL)
        have L45 := hid (L35.out.trans hL)
        have S46 := hid hL.size
        clear hc30 hc31 hc32 hx29 O33 O34 L35 hL
        have hA := Later.alloc w37 (.cells #[Value.slice a37 z1.length cap37] 27)
        have hc49 := hA.cell hc39
        have hc50 := hA.cell hc40
        have hc51 := hA.cell hc41
        have hc52 := hA.cell hc42
        have O53 := hid (O43.out.later hA)
        have O54 := hid (O44.out.later hA)
        have O55 := hid (O38.out.later hA)
        have L56 := hid (L45.out.trans hA)
        have S57 := hid (And.intro hA.size (show w37.heap.size < (w37.alloc (.cells #[Value.slice a37 z1.length cap37] 27)).heap.size by simp))
        clear hA
        go_wp2_with fail
        have hx48 : (w37.alloc (.cells #[Value.slice a37 z1.length cap37] 27)).cell? ⟨w37.heap.size, 0, none⟩ = some (Value.slice a37 z1.length cap37) := by simp [go_sem]
        clear hc39 hc40 hc41 hc42 O43 O44 O38 L45
        generalize (w37.alloc (.cells #[Value.slice a37 z1.length cap37] 27)) = w47 at hx48 hc49 hc50 hc51 hc52 O53 O54 O55 L56 S57 ⊢
        refine (HI.out _ _ _ (O54.out.rows) (O55.out.rows)).mono ?_
        rintro e w58 ⟨y58, rfl, hown, hL⟩
        obtain ⟨a58, cap58, rfl, _⟩ := hown.shape
        have O59 := hid hown
        clear hown
        have hc60 := hL.cell hc49
        have hc61 := hL.cell hc50
        have hc62 := hL.cell hc51
        have hc63 := hL.cell hc52
        have hc64 := hL.cell hx48
        have O65 := hid (O53.out.later hL)
        have O66 := hid (O54.out.later hL)
        have O67 := hid (O55.out.later hL)
        have L68 := hid (L56.out.trans hL)
        have S69 := hid hL.size
        clear hc49 hc50 hc51 hc52 hx48 O53 O54 O55 L56 hL
        have hne0 : ((o.isSome) != (o.isSome)) = false := by simp
        have hA := Later.alloc w58 (.cells #[Value.slice a58 (o.getD []).length cap58] 27)
        have hc72 := hA.cell hc60
        have hc73 := hA.cell hc61
        have hc74 := hA.cell hc62
        have hc75 := hA.cell hc63
        have hc76 := hA.cell hc64
        have O77 := hid (O65.out.later hA)
        have O78 := hid (O66.out.later hA)
        have O79 := hid (O67.out.later hA)
        have O80 := hid (O59.out.later hA)
        have L81 := hid (L68.out.trans hA)
        have S82 := hid (And.intro hA.size (show w58.heap.size < (w58.alloc (.cells #[Value.slice a58 (o.getD []).length cap58] 27)).heap.size by simp))
        clear hA
        go_wp2_with fail
        have hx71 : (w58.alloc (.cells #[Value.slice a58 (o.getD []).length cap58] 27)).cell? ⟨w58.heap.size, 0, none⟩ = some (Value.slice a58 (o.getD []).length cap58) := by simp [go_sem]
        clear hc60 hc61 hc62 hc63 hc64 O65 O66 O67 O59 L68
        generalize (w58.alloc (.cells #[Value.slice a58 (o.getD []).length cap58] 27)) = w70 at hx71 hc72 hc73 hc74 hc75 hc76 O77 O78 O79 O80 L81 S82 ⊢
        refine (eqMatrix_any _ _ _ _ _ (O80.out.rows) (O77.out.rows)).mono ?_
        rintro e w83 ⟨rfl, hL⟩
        rw [eqLL_self]
        have hc84 := hL.cell hc72
        have hc85 := hL.cell hc73
        have hc86 := hL.cell hc74
        have hc87 := hL.cell hc75
        have hc88 := hL.cell hc76
        have hc89 := hL.cell hx71
        have O90 := hid (O77.out.later hL)
        have O91 := hid (O78.out.later hL)
        have O92 := hid (O79.out.later hL)
        have O93 := hid (O80.out.later hL)
        have L94 := hid (L81.out.trans hL)
        have S95 := hid hL.size
        clear hc72 hc73 hc74 hc75 hc76 hx71 O77 O78 O79 O80 L81 hL
        go_wp2_with fail
        go_region_held3 (fun w' => w'.cell? ⟨w.heap.size, 0, none⟩ = some (Value.slice a00 z0.length cap00) ∧ w'.cell? ⟨w20.heap.size, 0, none⟩ = some (Value.slice a20 z0.length cap20)) (first | exact ⟨hc84, hc87⟩ | exact ⟨hra96, hrx96⟩ | exact ⟨hsa96, hsx96⟩) (first | (go_at_call 17; refine (toMatrix_any _ z0 _ HN0.out.1 HN0.out.2 (H0.out.later (L94.out.trans (Later.drew w83)))).mono ?_; rintro e wr96 ⟨yr96, rfl, hor96, hLr96⟩; have Rr96 := hid hor96.rows; have hra96 := hLr96.cell hc84; have hrx96 := hLr96.cell hc87; have Lr96 := hid ((Later.drew w83).trans hLr96); clear hLr96 hor96) | (go_at_call 19; refine (eqMatrix_any _ _ _ _ _ ((O91.out.rows).later Lr96.out) Rr96.out).mono ?_; rintro e ws96 ⟨rfl, hLs96⟩; have hsa96 := hLs96.cell hra96; have hsx96 := hLs96.cell hrx96; have Ls96 := hid (Lr96.out.trans hLs96); clear hLs96; rw [eqLL_self]))
        have hL := Ls96.out
        clear hsa96 hsx96 hra96 hrx96
        have hc97 := hL.cell hc84
        have hc98 := hL.cell hc85
        have hc99 := hL.cell hc86
        have hc100 := hL.cell hc87
        have hc101 := hL.cell hc88
        have hc102 := hL.cell hc89
        have O103 := hid (O90.out.later hL)
        have O104 := hid (O91.out.later hL)
        have O105 := hid (O92.out.later hL)
        have O106 := hid (O93.out.later hL)
        have L107 := hid (L94.out.trans hL)
        have S108 := hid hL.size
        clear hc84 hc85 hc86 hc87 hc88 hc89 O90 O91 O92 O93 L94 hL
        go_wp2_with fail
        go_region_held3 (fun w' => w'.cell? ⟨w.heap.size + 1, 0, none⟩ = some (Value.slice a01 z1.length cap01) ∧ w'.cell? ⟨w37.heap.size, 0, none⟩ = some (Value.slice a37 z1.length cap37)) (first | exact ⟨hc98, hc101⟩ | exact ⟨hra109, hrx109⟩ | exact ⟨hsa109, hsx109⟩) (first | (go_at_call 17; refine (toMatrix_any _ z1 _ HN1.out.1 HN1.out.2 (H1.out.later (L107.out.trans (Later.drew ws96)))).mono ?_; rintro e wr109 ⟨yr109, rfl, hor109, hLr109⟩; have Rr109 := hid hor109.rows; have hra109 := hLr109.cell hc98; have hrx109 := hLr109.cell hc101; have Lr109 := hid ((Later.drew ws96).trans hLr109); clear hLr109 hor109) | (go_at_call 19; refine (eqMatrix_any _ _ _ _ _ ((O105.out.rows).later Lr109.out) Rr109.out).mono ?_; rintro e ws109 ⟨rfl, hLs109⟩; have hsa109 := hLs109.cell hra109; have hsx109 := hLs109.cell hrx109; have Ls109 := hid (Lr109.out.trans hLs109); clear hLs109; rw [eqLL_self]))
        have hL := Ls109.out
        clear hsa109 hsx109 hra109 hrx109
        have hc110 := hL.cell hc97
        have hc111 := hL.cell hc98
        have hc112 := hL.cell hc99
        have hc113 := hL.cell hc100
        have hc114 := hL.cell hc101
        have hc115 := hL.cell hc102
        have O116 := hid (O103.out.later hL)
        have O117 := hid (O104.out.later hL)
        have O118 := hid (O105.out.later hL)
        have O119 := hid (O106.out.later hL)
        have L120 := hid (L107.out.trans hL)
        have S121 := hid hL.size
        clear hc97 hc98 hc99 hc100 hc101 hc102 O103 O104 O105 O106 L107 hL
        go_wp2_with fail
        refine (markMatrix_any wc.heap.size (w20.heap.size) _ _ _ _ ⟨by omega, by omega⟩ O117.out).mono ?_
        rintro e w122 ⟨wm122, hL, rfl, hown, hW⟩
        have hc123 := cell_keep (hL.cell hc110) (hW.block _ (show ¬ (wc.heap.size ≤ w.heap.size ∧ w.heap.size < w20.heap.size) by have := S4.out; have := S10.out; have := S15.out; have := SBx.out; have := S19.out; have := S27.out; have := S36.out; have := S46.out; have := S57.out; have := S69.out; have := S82.out; have := S95.out; have := S108.out; have := S121.out; omega))
        clear hc110
        have hc124 := cell_keep (hL.cell hc111) (hW.block _ (show ¬ (wc.heap.size ≤ w.heap.size + 1 ∧ w.heap.size + 1 < w20.heap.size) by have := S4.out; have := S10.out; have := S15.out; have := SBx.out; have := S19.out; have := S27.out; have := S36.out; have := S46.out; have := S57.out; have := S69.out; have := S82.out; have := S95.out; have := S108.out; have := S121.out; omega))
        clear hc111
        have hc125 := cell_keep (hL.cell hc112) (hW.block _ (show ¬ (wc.heap.size ≤ bkx ∧ bkx < w20.heap.size) by have := S4.out; have := S10.out; have := S15.out; have := SBx.out; have := S19.out; have := S27.out; have := S36.out; have := S46.out; have := S57.out; have := S69.out; have := S82.out; have := S95.out; have := S108.out; have := S121.out; omega))
        clear hc112
        have hc126 := cell_keep (hL.cell hc113) (hW.block _ (show ¬ (wc.heap.size ≤ w20.heap.size ∧ w20.heap.size < w20.heap.size) by have := S4.out; have := S10.out; have := S15.out; have := SBx.out; have := S19.out; have := S27.out; have := S36.out; have := S46.out; have := S57.out; have := S69.out; have := S82.out; have := S95.out; have := S108.out; have := S121.out; omega))
        clear hc113
        have hc127 := cell_keep (hL.cell hc114) (hW.block _ (show ¬ (wc.heap.size ≤ w37.heap.size ∧ w37.heap.size < w20.heap.size) by have := S4.out; have := S10.out; have := S15.out; have := SBx.out; have := S19.out; have := S27.out; have := S36.out; have := S46.out; have := S57.out; have := S69.out; have := S82.out; have := S95.out; have := S108.out; have := S121.out; omega))
        clear hc114
        have hc128 := cell_keep (hL.cell hc115) (hW.block _ (show ¬ (wc.heap.size ≤ w58.heap.size ∧ w58.heap.size < w20.heap.size) by have := S4.out; have := S10.out; have := S15.out; have := SBx.out; have := S19.out; have := S27.out; have := S36.out; have := S46.out; have := S57.out; have := S69.out; have := S82.out; have := S95.out; have := S108.out; have := S121.out; omega))
        clear hc115
        have O129 := hid ((O116.out.later hL).keep fun b h1 h2 => hW.block b (by have := S4.out; have := S10.out; have := S15.out; have := SBx.out; have := S19.out; have := S27.out; have := S36.out; have := S46.out; have := S57.out; have := S69.out; have := S82.out; have := S95.out; have := S108.out; have := S121.out; omega))
        clear O116
        have O130 := hid ((O118.out.later hL).keep fun b h1 h2 => hW.block b (by have := S4.out; have := S10.out; have := S15.out; have := SBx.out; have := S19.out; have := S27.out; have := S36.out; have := S46.out; have := S57.out; have := S69.out; have := S82.out; have := S95.out; have := S108.out; have := S121.out; omega))
        clear O118
        have O131 := hid ((O119.out.later hL).keep fun b h1 h2 => hW.block b (by have := S4.out; have := S10.out; have := S15.out; have := SBx.out; have := S19.out; have := S27.out; have := S36.out; have := S46.out; have := S57.out; have := S69.out; have := S82.out; have := S95.out; have := S108.out; have := S121.out; omega))
        clear O119
        have O132 := hid hown
        clear hown O117
        have L133 := hid (show Later w w122 from Wrote.below (L120.out.trans hL) hW (fun b hb => by have := S4.out; have := S10.out; have := S15.out; have := SBx.out; have := S19.out; have := S27.out; have := S36.out; have := S46.out; have := S57.out; have := S69.out; have := S82.out; have := S95.out; have := S108.out; have := S121.out; omega))
        clear L120
        have S134 := hid (show ws109.heap.size ≤ w122.heap.size by have := hL.size; have := hW.size; omega)
        clear hL hW
        go_wp2_with fail
        refine (markMatrix_any w28.heap.size (w37.heap.size) _ _ _ _ ⟨by omega, by omega⟩ O130.out).mono ?_
        rintro e w135 ⟨wm135, hL, rfl, hown, hW⟩
        have hc136 := cell_keep (hL.cell hc123) (hW.block _ (show ¬ (w28.heap.size ≤ w.heap.size ∧ w.heap.size < w37.heap.size) by have := S4.out; have := S10.out; have := S15.out; have := SBx.out; have := S19.out; have := S27.out; have := S36.out; have := S46.out; have := S57.out; have := S69.out; have := S82.out; have := S95.out; have := S108.out; have := S121.out; have := S134.out; omega))
        clear hc123
        have hc137 := cell_keep (hL.cell hc124) (hW.block _ (show ¬ (w28.heap.size ≤ w.heap.size + 1 ∧ w.heap.size + 1 < w37.heap.size) by have := S4.out; have := S10.out; have := S15.out; have := SBx.out; have := S19.out; have := S27.out; have := S36.out; have := S46.out; have := S57.out; have := S69.out; have := S82.out; have := S95.out; have := S108.out; have := S121.out; have := S134.out; omega))
        clear hc124
        have hc138 := cell_keep (hL.cell hc125) (hW.block _ (show ¬ (w28.heap.size ≤ bkx ∧ bkx < w37.heap.size) by have := S4.out; have := S10.out; have := S15.out; have := SBx.out; have := S19.out; have := S27.out; have := S36.out; have := S46.out; have := S57.out; have := S69.out; have := S82.out; have := S95.out; have := S108.out; have := S121.out; have := S134.out; omega))
        clear hc125
        have hc139 := cell_keep (hL.cell hc126) (hW.block _ (show ¬ (w28.heap.size ≤ w20.heap.size ∧ w20.heap.size < w37.heap.size) by have := S4.out; have := S10.out; have := S15.out; have := SBx.out; have := S19.out; have := S27.out; have := S36.out; have := S46.out; have := S57.out; have := S69.out; have := S82.out; have := S95.out; have := S108.out; have := S121.out; have := S134.out; omega))
        clear hc126
        have hc140 := cell_keep (hL.cell hc127) (hW.block _ (show ¬ (w28.heap.size ≤ w37.heap.size ∧ w37.heap.size < w37.heap.size) by have := S4.out; have := S10.out; have := S15.out; have := SBx.out; have := S19.out; have := S27.out; have := S36.out; have := S46.out; have := S57.out; have := S69.out; have := S82.out; have := S95.out; have := S108.out; have := S121.out; have := S134.out; omega))
        clear hc127
        have hc141 := cell_keep (hL.cell hc128) (hW.block _ (show ¬ (w28.heap.size ≤ w58.heap.size ∧ w58.heap.size < w37.heap.size) by have := S4.out; have := S10.out; have := S15.out; have := SBx.out; have := S19.out; have := S27.out; have := S36.out; have := S46.out; have := S57.out; have := S69.out; have := S82.out; have := S95.out; have := S108.out; have := S121.out; have := S134.out; omega))
        clear hc128
        have O142 := hid ((O129.out.later hL).keep fun b h1 h2 => hW.block b (by have := S4.out; have := S10.out; have := S15.out; have := SBx.out; have := S19.out; have := S27.out; have := S36.out; have := S46.out; have := S57.out; have := S69.out; have := S82.out; have := S95.out; have := S108.out; have := S121.out; have := S134.out; omega))
        clear O129
        have O143 := hid ((O132.out.later hL).keep fun b h1 h2 => hW.block b (by have := S4.out; have := S10.out; have := S15.out; have := SBx.out; have := S19.out; have := S27.out; have := S36.out; have := S46.out; have := S57.out; have := S69.out; have := S82.out; have := S95.out; have := S108.out; have := S121.out; have := S134.out; omega))
        clear O132
        have O144 := hid ((O131.out.later hL).keep fun b h1 h2 => hW.block b (by have := S4.out; have := S10.out; have := S15.out; have := SBx.out; have := S19.out; have := S27.out; have := S36.out; have := S46.out; have := S57.out; have := S69.out; have := S82.out; have := S95.out; have := S108.out; have := S121.out; have := S134.out; omega))
        clear O131
        have O145 := hid hown
        clear hown O130
        have L146 := hid (show Later w w135 from Wrote.below (L133.out.trans hL) hW (fun b hb => by have := S4.out; have := S10.out; have := S15.out; have := SBx.out; have := S19.out; have := S27.out; have := S36.out; have := S46.out; have := S57.out; have := S69.out; have := S82.out; have := S95.out; have := S108.out; have := S121.out; have := S134.out; omega))
        clear L133
        have S147 := hid (show w122.heap.size ≤ w135.heap.size by have := hL.size; have := hW.size; omega)
        clear hL hW
        have hkn : ¬ (((1 : Int) + (off z0 z0.length : Int)) + (off z1 z1.length : Int)) < 0 := by omega
        go_wp2_with fail
        refine (eqMatrix_any _ _ _ _ _ (O144.out.rows) (O142.out.rows)).mono ?_
        rintro e w148 ⟨rfl, hL⟩
        rw [eqLL_self]
        have hc149 := hL.cell hc136
        have hc150 := hL.cell hc137
        have hc151 := hL.cell hc138
        have hc152 := hL.cell hc139
        have hc153 := hL.cell hc140
        have hc154 := hL.cell hc141
        have O155 := hid (O142.out.later hL)
        have O156 := hid (O143.out.later hL)
        have O157 := hid (O145.out.later hL)
        have O158 := hid (O144.out.later hL)
        have L159 := hid (L146.out.trans hL)
        have S160 := hid hL.size
        clear hc136 hc137 hc138 hc139 hc140 hc141 O142 O143 O145 O144 L146 hL
        go_wp2_with fail
        have hmm : (((1 : Int) + (off (o.getD []) (o.getD []).length : Int)) != ((1 : Int) + (off (o.getD []) (o.getD []).length : Int))) = false := by simp
        have hmn : ¬ (1 : Int) + (off (o.getD []) (o.getD []).length : Int) < 0 := by omega
        refine (markMatrix_any w47.heap.size (w58.heap.size) _ _ _ _ ⟨by omega, by omega⟩ O158.out).mono ?_
        rintro e w161 ⟨wm161, hL, rfl, hown, hW⟩
        have hc162 := cell_keep (hL.cell hc149) (hW.block _ (show ¬ (w47.heap.size ≤ w.heap.size ∧ w.heap.size < w58.heap.size) by have := S4.out; have := S10.out; have := S15.out; have := SBx.out; have := S19.out; have := S27.out; have := S36.out; have := S46.out; have := S57.out; have := S69.out; have := S82.out; have := S95.out; have := S108.out; have := S121.out; have := S134.out; have := S147.out; have := S160.out; omega))
        clear hc149
        have hc163 := cell_keep (hL.cell hc150) (hW.block _ (show ¬ (w47.heap.size ≤ w.heap.size + 1 ∧ w.heap.size + 1 < w58.heap.size) by have := S4.out; have := S10.out; have := S15.out; have := SBx.out; have := S19.out; have := S27.out; have := S36.out; have := S46.out; have := S57.out; have := S69.out; have := S82.out; have := S95.out; have := S108.out; have := S121.out; have := S134.out; have := S147.out; have := S160.out; omega))
        clear hc150
        have hc164 := cell_keep (hL.cell hc151) (hW.block _ (show ¬ (w47.heap.size ≤ bkx ∧ bkx < w58.heap.size) by have := S4.out; have := S10.out; have := S15.out; have := SBx.out; have := S19.out; have := S27.out; have := S36.out; have := S46.out; have := S57.out; have := S69.out; have := S82.out; have := S95.out; have := S108.out; have := S121.out; have := S134.out; have := S147.out; have := S160.out; omega))
        clear hc151
        have hc165 := cell_keep (hL.cell hc152) (hW.block _ (show ¬ (w47.heap.size ≤ w20.heap.size ∧ w20.heap.size < w58.heap.size) by have := S4.out; have := S10.out; have := S15.out; have := SBx.out; have := S19.out; have := S27.out; have := S36.out; have := S46.out; have := S57.out; have := S69.out; have := S82.out; have := S95.out; have := S108.out; have := S121.out; have := S134.out; have := S147.out; have := S160.out; omega))
        clear hc152
        have hc166 := cell_keep (hL.cell hc153) (hW.block _ (show ¬ (w47.heap.size ≤ w37.heap.size ∧ w37.heap.size < w58.heap.size) by have := S4.out; have := S10.out; have := S15.out; have := SBx.out; have := S19.out; have := S27.out; have := S36.out; have := S46.out; have := S57.out; have := S69.out; have := S82.out; have := S95.out; have := S108.out; have := S121.out; have := S134.out; have := S147.out; have := S160.out; omega))
        clear hc153
        have hc167 := cell_keep (hL.cell hc154) (hW.block _ (show ¬ (w47.heap.size ≤ w58.heap.size ∧ w58.heap.size < w58.heap.size) by have := S4.out; have := S10.out; have := S15.out; have := SBx.out; have := S19.out; have := S27.out; have := S36.out; have := S46.out; have := S57.out; have := S69.out; have := S82.out; have := S95.out; have := S108.out; have := S121.out; have := S134.out; have := S147.out; have := S160.out; omega))
        clear hc154
        have O168 := hid ((O155.out.later hL).keep fun b h1 h2 => hW.block b (by have := S4.out; have := S10.out; have := S15.out; have := SBx.out; have := S19.out; have := S27.out; have := S36.out; have := S46.out; have := S57.out; have := S69.out; have := S82.out; have := S95.out; have := S108.out; have := S121.out; have := S134.out; have := S147.out; have := S160.out; omega))
        clear O155
        have O169 := hid ((O156.out.later hL).keep fun b h1 h2 => hW.block b (by have := S4.out; have := S10.out; have := S15.out; have := SBx.out; have := S19.out; have := S27.out; have := S36.out; have := S46.out; have := S57.out; have := S69.out; have := S82.out; have := S95.out; have := S108.out; have := S121.out; have := S134.out; have := S147.out; have := S160.out; omega))
        clear O156
        have O170 := hid ((O157.out.later hL).keep fun b h1 h2 => hW.block b (by have := S4.out; have := S10.out; have := S15.out; have := SBx.out; have := S19.out; have := S27.out; have := S36.out; have := S46.out; have := S57.out; have := S69.out; have := S82.out; have := S95.out; have := S108.out; have := S121.out; have := S134.out; have := S147.out; have := S160.out; omega))
        clear O157
        have O171 := hid hown
        clear hown O158
        have L172 := hid (show Later w w161 from Wrote.below (L159.out.trans hL) hW (fun b hb => by have := S4.out; have := S10.out; have := S15.out; have := SBx.out; have := S19.out; have := S27.out; have := S36.out; have := S46.out; have := S57.out; have := S69.out; have := S82.out; have := S95.out; have := S108.out; have := S121.out; have := S134.out; have := S147.out; have := S160.out; omega))
        clear L159
        have S173 := hid (show w148.heap.size ≤ w161.heap.size by have := hL.size; have := hW.size; omega)
        clear hL hW
        go_wp2_with fail
        refine (heldMatrix_any _ (o.getD []) _ _ ⟨by omega, by omega⟩ O171.out.rows).mono ?_
        rintro e w174 ⟨rfl, hL⟩
        have hc175 := hL.cell hc162
        have hc176 := hL.cell hc163
        have hc177 := hL.cell hc164
        have hc178 := hL.cell hc165
        have hc179 := hL.cell hc166
        have hc180 := hL.cell hc167
        have O181 := hid (O168.out.later hL)
        have O182 := hid (O169.out.later hL)
        have O183 := hid (O170.out.later hL)
        have O184 := hid (O171.out.later hL)
        have L185 := hid (L172.out.trans hL)
        have S186 := hid hL.size
        clear hc162 hc163 hc164 hc165 hc166 hc167 O168 O169 O170 O171 L172 hL
        go_upto_region 31 with fail
        go_cut [15, 16] (fun s6 s7 wx => ∃ (b : Nat) (a : Option Addr) (c : Nat), s6 = .pointer (some ⟨b, 0, none⟩) ∧ s7 = .bool o.isSome ∧ wx.cell? ⟨b, 0, none⟩ = some (.slice a (o.getD []).length c) ∧ OwnRows w174.heap.size wx.heap.size wx (.slice a (o.getD []).length c) (o.getD []) ∧ Later w174 wx ∧ w174.heap.size ≤ b ∧ b < wx.heap.size)
        case first =>
          have e12 := (Later.drew w174).cell hc175
          have e13 := (Later.drew w174).cell hc176
          have hs11 : w.heap.size + 2 ≤ w174.heap.size := by have := S4.out; have := S10.out; have := S15.out; have := SBx.out; have := S19.out; have := S27.out; have := S36.out; have := S46.out; have := S57.out; have := S69.out; have := S82.out; have := S95.out; have := S108.out; have := S121.out; have := S134.out; have := S147.out; have := S160.out; have := S173.out; have := S186.out; omega
          go_region_held3 (fun w' => w'.cell? ⟨w.heap.size, 0, none⟩ = some (Value.slice a00 z0.length cap00) ∧ w'.cell? ⟨w.heap.size + 1, 0, none⟩ = some (Value.slice a01 z1.length cap01)) (first | exact ⟨e12, e13⟩ | exact ⟨f12, f13⟩ | exact ⟨g12, g13⟩ | exact ⟨h12, h13⟩ | go_keep | exact ⟨(World.cell?_setCell_far _ _ _ _ (by simp; omega)).trans h12, (World.cell?_setCell_far _ _ _ _ (by simp; omega)).trans h13⟩) (first | (have hh := O23; clear hh; go_at_call 25; refine (HI.out _ _ _ (by first | exact O17.out.rows.later LB.out | exact O17.out.rows.later (LB.out.trans (Later.alloc _ _))) (by first | exact O23.out.rows | exact O23.out.rows.later (Later.alloc _ _))).mono ?_; rintro e w30 ⟨y30, rfl, hown, hL⟩; obtain ⟨a30, cap30, rfl, _⟩ := hown.shape; have L30 : Hid (Later w174 w30) := hid (by first | exact LAB.out.trans hL | exact LAB.out.trans ((Later.alloc _ _).trans hL)); have O30 := hid hown; have h12 := L30.out.cell hc175; have h13 := L30.out.cell hc176; (first | (have HBX := hid (HBX.out.later hL)) | skip); (first | (have HBX := hid (Box.later (w := w22.alloc (.cells #[Value.slice none 0 0] 27)) (b := w22.heap.size) (v := .slice none 0 0) ⟨by simp [go_sem], by simp [go_sem]⟩ hL)) | skip); (first | (obtain ⟨bxc, bxf⟩ := HBX.out) | skip); have hs30 := L30.out.size; clear hown) | (have hh := O17; clear hh; go_at_call 17; refine (toMatrix_any _ z1 _ HN1.out.1 HN1.out.2 (H1.out.later (L185.out.trans (by first | exact LA.out | exact LA.out.trans (Later.alloc _ _))))).mono ?_; rintro e w22 ⟨y22, rfl, hown, hL⟩; obtain ⟨a22, cap22, rfl, _⟩ := hown.shape; have O23 := hid hown; have LB : Hid (Later w16 w22) := hid (by first | exact hL | exact (Later.alloc _ _).trans hL); have LAB := hid (LA.out.trans LB.out); have g12 := LAB.out.cell hc175; have g13 := LAB.out.cell hc176; (first | (have HBX := hid (HBX.out.later hL)) | skip); (first | (have HBX := hid (Box.later (w := w16.alloc (.cells #[Value.slice none 0 0] 27)) (b := w16.heap.size) (v := .slice none 0 0) ⟨by simp [go_sem], by simp [go_sem]⟩ hL)) | skip); (first | (have hbB := HBX.out.lt) | skip); have hs22 := LAB.out.size; clear hown hL) | (go_at_call 17; refine (toMatrix_any _ z0 _ HN0.out.1 HN0.out.2 (H0.out.later (L185.out.trans (by first | exact Later.drew w174 | exact (Later.drew w174).trans (Later.alloc _ _))))).mono ?_; rintro e w16 ⟨y16, rfl, hown, hL⟩; obtain ⟨a16, cap16, rfl, _⟩ := hown.shape; have O17 := hid hown; have LA : Hid (Later w174 w16) := hid (by first | exact (Later.drew w174).trans hL | exact (Later.drew w174).trans ((Later.alloc _ _).trans hL)); have f12 := LA.out.cell hc175; have f13 := LA.out.cell hc176; (first | (have HBX := hid (Box.later (w := w174.drew.alloc (.cells #[Value.slice none 0 0] 27)) (b := w174.heap.size) (v := .slice none 0 0) ⟨by simp [go_sem], by simp [go_sem]⟩ hL)) | skip); (first | (have hbA := HBX.out.lt) | skip); have hs16 := LA.out.size; clear hown hL))
          all_goals
            go_wp2_with fail
            go_meet
            first | exact ⟨_, a30, cap30, rfl, rfl, by simp [go_sem], (O30.out.later (Later.alloc _ _)).wide (by first | omega | (simp; done) | (simp; omega)) (by simp), L30.out.trans (Later.alloc _ _), by omega, by simp⟩ | exact ⟨_, a30, cap30, rfl, rfl, World.cell?_setCell_same _ _ _ bxc, (O30.out.setCell (a := ⟨_, 0, none⟩) (by first | omega | (simp; done) | (simp; omega)) _).wide (by first | omega | (simp; done) | (simp; omega)) (by simp [World.setCell]), L30.out.setCell (by first | omega | (simp; done) | (simp; omega)) _, by omega, by have := World.block_lt_of_cell? _ _ bxc; simpa [World.setCell] using this⟩
        case rest =>
          obtain ⟨bky, a31y, cap31y, rfl, rfl, hcby, hown, hL, hbk1, hbk2⟩ := hcut
          have O31y := hid hown
          have SBy := hid (And.intro hbk1 hbk2)
          clear hown hbk1 hbk2
          have hc187 := hL.cell hc175
          have hc188 := hL.cell hc176
          have hc189 := hL.cell hc177
          have hc190 := hL.cell hc178
          have hc191 := hL.cell hc179
          have hc192 := hL.cell hc180
          have O193 := hid (O181.out.later hL)
          have O194 := hid (O182.out.later hL)
          have O195 := hid (O183.out.later hL)
          have O196 := hid (O184.out.later hL)
          have L197 := hid (L185.out.trans hL)
          have S198 := hid hL.size
          clear hc175 hc176 hc177 hc178 hc179 hc180 O181 O182 O183 O184 L185 hL
          go_wp2_with fail
          refine (eqMatrix_any _ _ _ _ _ (O31y.out.rows) (O193.out.rows)).mono ?_
          rintro e w199 ⟨rfl, hL⟩
          rw [eqLL_self]
          have hc200 := hL.cell hc187
          have hc201 := hL.cell hc188
          have hc202 := hL.cell hc189
          have hc203 := hL.cell hc190
          have hc204 := hL.cell hc191
          have hc205 := hL.cell hc192
          have hc206 := hL.cell hcby
          have O207 := hid (O193.out.later hL)
          have O208 := hid (O194.out.later hL)
          have O209 := hid (O195.out.later hL)
          have O210 := hid (O196.out.later hL)
          have O211 := hid (O31y.out.later hL)
          have L212 := hid (L197.out.trans hL)
          have S213 := hid hL.size
          clear hc187 hc188 hc189 hc190 hc191 hc192 hcby O193 O194 O195 O196 O31y L197 hL
          go_wp2_with fail
          refine (heldMatrix_any _ (o.getD []) _ _ ⟨by omega, by omega⟩ O210.out.rows).mono ?_
          rintro e w214 ⟨rfl, hL⟩
          have hc215 := hL.cell hc200
          have hc216 := hL.cell hc201
          have hc217 := hL.cell hc202
          have hc218 := hL.cell hc203
          have hc219 := hL.cell hc204
          have hc220 := hL.cell hc205
          have hc221 := hL.cell hc206
          have O222 := hid (O207.out.later hL)
          have O223 := hid (O208.out.later hL)
          have O224 := hid (O209.out.later hL)
          have O225 := hid (O210.out.later hL)
          have O226 := hid (O211.out.later hL)
          have L227 := hid (L212.out.trans hL)
          have S228 := hid hL.size
          clear hc200 hc201 hc202 hc203 hc204 hc205 hc206 O207 O208 O209 O210 O211 L212 hL
          go_wp2_with fail
          go_ret
          exact ⟨rfl, L227.out⟩
end Go.Proofs.Ytedgccbogjinhaa
