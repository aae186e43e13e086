/- Equations of Hurwitz: the word up (the program). -/
import Derived.Test.YtdahhcigphhfdadHuRv
import Derived.Test.YtdahhcigphhfdadHuDi
import Derived.Test.YtdahhcigphhfdadHuWu
import Derived.Deep.RegionHeld3
namespace Go.Proofs.Ytdahhcigphhfdad
open Go.RowKit

theorem soL_toSo (s : So) : toSo (soL s) = s := toSo_qL _ _ _ _
theorem nb_index {a b : Int} {s u : So} (hs : QS a b s) (hu : QS a b u) (hex : ∃ i, i < (soL s).length ∧ jumpL a (soL s) i = some (soL u)) :
    idxF a (soL s) (soL u) < ((List.range (qN s.2.2.2)).map (nbQ a (soL s))).length ∧ ((List.range (qN s.2.2.2)).map (nbQ a (soL s))).getD (idxF a (soL s) (soL u)) noSo = u ∧
    ∀ j, j < idxF a (soL s) (soL u) → ((List.range (qN s.2.2.2)).map (nbQ a (soL s))).getD j noSo ≠ u := by
  obtain ⟨h1, h2, h3⟩ := idxF_spec hex
  have hl : (soL s).length = qN s.2.2.2 := qL_len _ _ _ _
  rw [hl] at h1
  have hg : ∀ j, j < qN s.2.2.2 → ((List.range (qN s.2.2.2)).map (nbQ a (soL s))).getD j noSo = nbQ a (soL s) j := fun j hj => by simp [hj]
  refine ⟨by simpa using h1, ?_, fun j hj => ?_⟩
  · rw [hg _ h1]
    unfold nbQ
    rw [h2]
    exact soL_toSo u
  · rw [hg j (by omega)]
    have h4 := h3 j hj
    unfold nbQ
    cases hj2 : jumpL a (soL s) j with
    | none =>
      intro e
      have := hu.2.hx
      rw [← e] at this
      simp [noSo] at this
    | some ys =>
      intro e
      have hS : Sol ys a b := hs.1.jump (by rw [hl]; omega) hj2
      obtain ⟨x, y, z, t, rfl, _⟩ := hS.q4
      simp only [Option.map_some, Option.getD_some, toSo_qL] at e
      rw [← e] at h4
      exact h4 hj2
theorem OwnSols.cells4 {lo : Nat} {w : World} {g cap n : Nat} {L : List So} (h : OwnSols lo w (.slice (some ⟨g, 0, none⟩) n cap) L) (hn : L.length = n) (k : Nat) (hk : k < n) :
    w.cell? ⟨g, k * 4, none⟩ = some (.int .i64 (L.getD k noSo).1) ∧ w.cell? ⟨g, k * 4 + 1, none⟩ = some (.int .i64 (L.getD k noSo).2.1) ∧ w.cell? ⟨g, k * 4 + 2, none⟩ = some (.int .i64 (L.getD k noSo).2.2.1) ∧ w.cell? ⟨g, k * 4 + 3, none⟩ = some (.int .i64 (L.getD k noSo).2.2.2) := by
  subst hn
  have hat := soCells_at L k hk
  have h' : w.ownsRow lo 49 4 (.slice (some ⟨g, 0, none⟩) L.length cap) L.length (soCells L) := h
  rw [show L.getD k noSo = L[k] by simp [hk]]
  exact ⟨(h'.cellAt (k * 4) (by omega)).trans hat.1, (h'.cellAt (k * 4 + 1) (by omega)).trans hat.2.1, (h'.cellAt (k * 4 + 2) (by omega)).trans hat.2.2.1, (h'.cellAt (k * 4 + 3) (by omega)).trans hat.2.2.2⟩
def upP (a : Int) (W : List (List Int)) (n k : Nat) : List Int := upW a W k ++ List.replicate (n - k) 0
theorem upP_len (a : Int) (W : List (List Int)) (n k : Nat) (h : k ≤ n) : (upP a W n k).length = n := by unfold upP; rw [List.length_append, upW_len, List.length_replicate]; omega
theorem upP_step (a : Int) (W : List (List Int)) (n k : Nat) (h : k < n) : upP a W n (k + 1) = (upP a W n k).set k ((idxF a (W.getD (W.length - 1 - k) []) (W.getD (W.length - 2 - k) []) : Nat) : Int) := by
  unfold upP
  obtain ⟨m, hm⟩ : ∃ m, n - k = m + 1 := ⟨n - k - 1, by omega⟩
  rw [upW_succ, List.append_assoc, hm, show n - (k + 1) = m by omega, List.replicate_succ, List.set_append_right _ _ (by rw [upW_len]; exact Nat.le_refl _), upW_len]
  simp
theorem upP_all (a : Int) (W : List (List Int)) (n : Nat) : upP a W n n = upW a W n := by simp [upP]

set_option maxRecDepth 20000 in
set_option maxHeartbeats 8000000 in
theorem implWordUp_any (v : Value) (zs : List Int) (a b : Int) (w : World) (h : Ints w v zs) :
    Calls Try.prog 20 #[v, .int .i64 a, .int .i64 b] w fun e w' => IntsAns w (upAns zs a b) e w' := by
  obtain ⟨p, cap, rfl, hl, _⟩ := id h
  have H := hid h
  clear h
  cases hs : (givenB a b && solB zs a b)
  · have HS := hid hs
    have HA := hid (show upAns zs a b = none by unfold upAns; rw [hs]; simp)
    clear hs
    go_enter Try.func20, Try.ntmps20
    go_wp2_with fail
    refine (solutionOf_no _ zs a b _ HS.out H.out).mono ?_
    rintro e w1 ⟨rfl, hL⟩
    have HL := hid (hL.trans (Later.alloc w1 (.cells #[.int .i64 0, .int .i64 0, .int .i64 0, .int .i64 0] 49)))
    clear hL
    go_wp2_with fail
    go_ret2
    rw [HA.out]
    exact ⟨_, rfl, OwnInts.nothing0 _ _ _, HL.out⟩
  · have hS := Sol.good hs
    have HS := hid hS
    obtain ⟨x, y, z, t, rfl, hq⟩ := hS.q4
    have HQ := hid hq
    have HA := hid (show upAns (qL x y z t) a b = some (upW a (wayL a (qL x y z t)) ((wayL a (qL x y z t)).length - 1)) by unfold upAns; rw [if_pos hs])
    have HWL := hid hS.way_len
    have HWK := hid (way_back hS)
    have HW1 := hid (show 1 ≤ (wayL a (qL x y z t)).length by unfold wayL; simp)
    have HWAY := hid (fun w0 => wayDownS_any x y z t a b w0 hS hq)
    obtain ⟨W, hW⟩ : ∃ W, wayL a (qL x y z t) = W := ⟨_, rfl⟩
    rw [hW] at HA HWL HW1 HWAY HWK
    obtain ⟨ii, hii, ii0, ii1, ii2⟩ := info_parts Try.infoInt
    clear hs hS hq hW
    go_enter Try.func20, Try.ntmps20
    go_wp2_with fail
    refine (solutionOf_yes _ x y z t a b _ HS.out HQ.out H.out).mono ?_
    rintro e w1 ⟨rfl, hL⟩
    obtain ⟨c0, c1, c2, c3⟩ := arr4_alloc w1 x y z t
    have HL := hid (hL.trans (Later.alloc w1 (.cells #[.int .i64 x, .int .i64 y, .int .i64 z, .int .i64 t] 49)))
    clear hL
    go_wp2_with fail
    generalize w1.alloc (.cells #[.int .i64 x, .int .i64 y, .int .i64 z, .int .i64 t] 49) = w2 at c0 c1 c2 c3 HL ⊢
    refine (HWAY.out _).mono ?_
    rintro e w3 ⟨v3, L, rfl, ho, hm, hall, hL3⟩
    have hlen : L.length ≤ 400000 := by have := HWL.out; rw [← hm, List.length_map] at this; exact this
    have hlen1 : 1 ≤ L.length := by have := HW1.out; rw [← hm, List.length_map] at this; exact this
    obtain ⟨g, cg, rfl⟩ : ∃ g cg, v3 = .slice (some ⟨g, 0, none⟩) L.length cg := by
      rcases ho.2 with ⟨_, h0⟩ | ⟨g, cap, cur, e, _⟩
      · omega
      · exact ⟨g, cap, e⟩
    have HO := hid ho
    have HM := hid hm
    have HALL := hid hall
    have HL3' := hid hL3
    have HL3 := hid (HL.out.trans hL3)
    obtain ⟨n, hn⟩ : ∃ n, L.length = n + 1 := ⟨L.length - 1, by omega⟩
    have HN := hid hn
    clear hL3 ho hm hall c0 c1 c2 c3 hn
    go_wp2_with fail
    refine (reverse_any g cg L w3 (by omega) HO.out).mono ?_
    rintro e w4 ⟨rfl, hO4, hgr⟩
    have HO4 := hid (hO4.base HL.out.size)
    have HL4 := hid (show Later w w4 from HL3.out.grown hgr (by exact HL3.out.size) (fun b hb => by simp at hb; subst hb; have := (HO.out.lt g rfl).1; have := HL.out.size; omega))
    clear hO4 hgr HO HL3 HL3'
    rw [HN.out] at HO4 hlen ⊢
    obtain ⟨R, hR⟩ : ∃ R, L.reverse = R := ⟨_, rfl⟩
    have HR := hid hR
    rw [hR] at HO4
    clear hR hlen1
    go_wp2_with (at_make; refine wpList_make_full _ rfl _ _ 24 rfl w4.heap.size 3 ii (.int .i64 0) 1 Try.underlying24 hii ii0 ii1 _ _ _ _ n rfl rfl rfl rfl ?b2 ?b3 ?b4 ?_)
    case b2 => rw [ii2]; omega
    case b3 => unfold maxLen; omega
    case b4 => exact Nat.le_refl _
    intro w5 hown hgrow
    have hL5 : Later w w5 := HL4.out.grown hgrow HL4.out.size (by simp)
    have hL45 : Later w4 w5 := (Below.refl _ _).grown hgrow (Nat.le_refl _) (by simp)
    have hgl : g < w4.heap.size := (HO4.out.lt g rfl).2
    have HO5 := hid (HO4.out.later hL45)
    have HL5 := hid hL5
    have HRL := hid (show R.length = n + 1 by rw [← HR.out, List.length_reverse]; exact HN.out)
    have HRJ := hid (show ∀ j, j < n + 1 → W.getD (n - j) [] = soL (R.getD j noSo) ∧ QS a b (R.getD j noSo) from by
      intro j hj
      have e : R.getD j noSo = L.getD (n - j) noSo := by rw [← HR.out, List.getD_eq_getElem?_getD, List.getD_eq_getElem?_getD, List.getElem?_reverse (by rw [HN.out]; exact hj)]; congr 2; have := HN.out; omega
      rw [e, ← HM.out]
      have hlt : n - j < L.length := by have := HN.out; omega
      refine ⟨by simp [hlt], HALL.out _ ?_⟩
      rw [show L.getD (n - j) noSo = L[n - j] by simp [hlt]]
      exact List.getElem_mem hlt)
    have HWN := hid (show W.length = n + 1 by rw [← HM.out, List.length_map]; exact HN.out)
    obtain ⟨C, hC⟩ : ∃ C, w4.heap.size = C := ⟨_, rfl⟩
    have HWC := hid (show w.heap.size ≤ C by rw [← hC]; exact HL4.out.size)
    rw [hC] at hown hgl ⊢
    have HGC := hid (show g ≠ C by omega)
    have HOW5 : Hid (w5.ownsRow C 3 1 (.slice (some ⟨C, 0, none⟩) n n) n ((upP a W n 0).map (Value.int .i64))) := hid (by
      have e : (upP a W n 0).map (Value.int .i64) = (madeCells #[Value.int .i64 0] n).toList := by rw [toList_madeCells_one]; simp [upP, upW]
      rw [e]; exact hown)
    clear hown hgrow hL5 hL45 hC HO4 HL4 hgl
    have hnb : (n : Int) ≤ 400000 := by omega
    go_wp2_with fail
    go_loopw [33] (fun i wr => ∃ k : Nat, k ≤ n ∧ i = .int .i64 k ∧ OwnSols w.heap.size wr (.slice (some ⟨g, 0, none⟩) (n + 1) cg) R ∧ wr.ownsRow C 3 1 (.slice (some ⟨C, 0, none⟩) n n) n ((upP a W n k).map (Value.int .i64)) ∧ Later w wr)
      (fun i _ => n - (intOf i).toNat)
    case atStart => exact ⟨0, Nat.zero_le _, rfl, HO5.out, HOW5.out, HL5.out⟩
    case round =>
      clear HO5 HOW5 HL5
      obtain ⟨k, hk, rfl, ho, how, hL⟩ := hrel
      have HO := hid ho
      have HOW := hid how
      have HL := hid hL
      by_cases hlt : k < n
      · have hj0 := HRJ.out k (by omega)
        have hj1 := HRJ.out (k + 1) (by omega)
        have hex := HWK.out (n - (k + 1)) (by have := HWN.out; omega)
        rw [show n - (k + 1) + 1 = n - k by omega, hj0.1, hj1.1] at hex
        have HST := hid (upP_step a W n k hlt)
        rw [show W.length - 1 - k = n - k by have := HWN.out; omega, show W.length - 2 - k = n - (k + 1) by have := HWN.out; omega, hj0.1, hj1.1] at HST
        have hx := nb_index hj0.2 hj1.2 hex
        obtain ⟨c0, c1, c2, c3⟩ := ho.cells4 HRL.out k (by omega)
        obtain ⟨d0, d1, d2, d3⟩ := ho.cells4 HRL.out (k + 1) (by omega)
        have hS0 := hj0.2
        obtain ⟨s, hs⟩ : ∃ s, R.getD k noSo = s := ⟨_, rfl⟩
        obtain ⟨u, hu⟩ : ∃ u, R.getD (k + 1) noSo = u := ⟨_, rfl⟩
        rw [hs] at c0 c1 c2 c3 hx hS0 HST
        rw [hu] at d0 d1 d2 d3 hx HST
        obtain ⟨x1, x2, x3⟩ := hx
        obtain ⟨q, hq⟩ : ∃ q, idxF a (soL s) (soL u) = q := ⟨_, rfl⟩
        rw [hq] at x1 x2 x3 HST
        have X1 := hid x1
        have X2 := hid x2
        have X3 := hid x3
        obtain ⟨x', y', z', t'⟩ := s
        obtain ⟨p', q', r', s'⟩ := u
        have HS0 := hid (show Sol (qL x' y' z' t') a b from hS0.1)
        have HQ0 := hid (show Q4 x' y' z' t' from hS0.2)
        have hc : wr.cell? ⟨C, k, none⟩ = some (.int .i64 ((upP a W n k).getD k 0)) := by
          rw [how.cellAt k (by omega), List.getElem?_map, List.getElem?_eq_getElem (by rw [upP_len a W n k hk]; exact hlt)]
          simp [upP_len a W n k hk, hlt]
        have hf := how.frozenAt k
        obtain ⟨m0, hm0⟩ : ∃ m, (upP a W n k).getD k 0 = m := ⟨_, rfl⟩
        rw [hm0] at hc
        have k1 : IntKind.i64.wrap ((k : Int) + 1) = (k : Int) + 1 := by rw [IntWalk.i64_left]; exact IntWalk.wrap64_in _ (by omega)
        have k2 : ((k : Int) + 1).toNat = k + 1 := by omega
        have k3 : (k : Int) + 1 < (n : Int) + 1 := by omega
        have k4 : (k : Int) < (n : Int) + 1 := by omega
        have k5 : (k : Int) < (n : Int) := by omega
        have k6 : (0 : Int) ≤ (k : Int) + 1 := by omega
        simp only at c0 c1 c2 c3 d0 d1 d2 d3
        have HNL := hid (show ((List.range (qN t')).map (nbQ a (qL x' y' z' t'))).length ≤ 1000000000000 by have := qN_bd t'; simp; omega)
        clear ho how hL hj0 hj1 hex hS0 x1 x2 x3 hs hu hq hm0
        go_upto_region 10 with fail
        go_region_held3 (fun w' => w'.cell? ⟨g, k * 4, none⟩ = some (.int .i64 x') ∧ w'.cell? ⟨g, k * 4 + 1, none⟩ = some (.int .i64 y') ∧ w'.cell? ⟨g, k * 4 + 2, none⟩ = some (.int .i64 z') ∧ w'.cell? ⟨g, k * 4 + 3, none⟩ = some (.int .i64 t') ∧ w'.cell? ⟨g, (k + 1) * 4, none⟩ = some (.int .i64 p') ∧ w'.cell? ⟨g, (k + 1) * 4 + 1, none⟩ = some (.int .i64 q') ∧ w'.cell? ⟨g, (k + 1) * 4 + 2, none⟩ = some (.int .i64 r') ∧ w'.cell? ⟨g, (k + 1) * 4 + 3, none⟩ = some (.int .i64 s')) (first | exact ⟨c0, c1, c2, c3, d0, d1, d2, d3⟩ | exact ⟨e0, e1, e2, e3, e4, e5, e6, e7⟩ | exact ⟨f0, f1, f2, f3, f4, f5, f6, f7⟩ | exact ⟨g0, g1, g2, g3, g4, g5, g6, g7⟩) (first | (go_at_call 47; refine (neighbours_any x' y' z' t' a b _ HS0.out HQ0.out).mono ?_; rintro e w6 ⟨v6, rfl, ho6, hL6⟩; have hL6' := (Later.drew wr).trans hL6; have HO6 := hid ho6; have e0 := hL6'.cell c0; have e1 := hL6'.cell c1; have e2 := hL6'.cell c2; have e3 := hL6'.cell c3; have e4 := hL6'.cell d0; have e5 := hL6'.cell d1; have e6 := hL6'.cell d2; have e7 := hL6'.cell d3; have HL6 := hid hL6'; clear ho6 hL6 hL6') | (go_at_call 46; refine (index_any v6 _ (p', q', r', s') q _ X1.out HNL.out HO6.out X2.out X3.out).mono ?_; rintro e w7 ⟨rfl, hL7⟩; have hL7' := HL6.out.trans hL7; have f0 := hL7'.cell c0; have f1 := hL7'.cell c1; have f2 := hL7'.cell c2; have f3 := hL7'.cell c3; have f4 := hL7'.cell d0; have f5 := hL7'.cell d1; have f6 := hL7'.cell d2; have f7 := hL7'.cell d3; have hc7 := hL7'.cell hc; have hf7 := hL7'.frozen hc hf; have HL7 := hid hL7'; have HO7 := hid ((HO.out.later hL7')); have HOW7 := hid (show w7.ownsRow C 3 1 (.slice (some ⟨C, 0, none⟩) n n) n ((upP a W n k).map (Value.int .i64)) from ownsRow_keep HOW.out fun b hb => hL7'.block b (HOW.out.lt b hb).2); have HS7 := hid (HOW7.out.stored k (.int .i64 (q : Int))); have g0 := (World.cell?_setCell_other w7 ⟨C, k, none⟩ ⟨g, k * 4, none⟩ (.int .i64 (q : Int)) (fun e => HGC.out (congrArg Addr.block e).symm)).trans f0; have g1 := (World.cell?_setCell_other w7 ⟨C, k, none⟩ ⟨g, k * 4 + 1, none⟩ (.int .i64 (q : Int)) (fun e => HGC.out (congrArg Addr.block e).symm)).trans f1; have g2 := (World.cell?_setCell_other w7 ⟨C, k, none⟩ ⟨g, k * 4 + 2, none⟩ (.int .i64 (q : Int)) (fun e => HGC.out (congrArg Addr.block e).symm)).trans f2; have g3 := (World.cell?_setCell_other w7 ⟨C, k, none⟩ ⟨g, k * 4 + 3, none⟩ (.int .i64 (q : Int)) (fun e => HGC.out (congrArg Addr.block e).symm)).trans f3; have g4 := (World.cell?_setCell_other w7 ⟨C, k, none⟩ ⟨g, (k + 1) * 4, none⟩ (.int .i64 (q : Int)) (fun e => HGC.out (congrArg Addr.block e).symm)).trans f4; have g5 := (World.cell?_setCell_other w7 ⟨C, k, none⟩ ⟨g, (k + 1) * 4 + 1, none⟩ (.int .i64 (q : Int)) (fun e => HGC.out (congrArg Addr.block e).symm)).trans f5; have g6 := (World.cell?_setCell_other w7 ⟨C, k, none⟩ ⟨g, (k + 1) * 4 + 2, none⟩ (.int .i64 (q : Int)) (fun e => HGC.out (congrArg Addr.block e).symm)).trans f6; have g7 := (World.cell?_setCell_other w7 ⟨C, k, none⟩ ⟨g, (k + 1) * 4 + 3, none⟩ (.int .i64 (q : Int)) (fun e => HGC.out (congrArg Addr.block e).symm)).trans f7; clear hL7 hL7'))
        all_goals
          have HLn := hid (show Later w (w7.setCell ⟨C, k, none⟩ (.int .i64 (q : Int))) from Below.setCell (HL.out.trans HL7.out) HWC.out _)
          have HOn := hid (show OwnSols w.heap.size (w7.setCell ⟨C, k, none⟩ (.int .i64 (q : Int))) (.slice (some ⟨g, 0, none⟩) (n + 1) cg) R from ownsRow_keepS HO7.out fun b hb => heap_setCell_other _ _ b _ (fun e => HGC.out ((Option.some.inj hb).trans e)))
          have HWn := hid (show (w7.setCell ⟨C, k, none⟩ (.int .i64 (q : Int))).ownsRow C 3 1 (.slice (some ⟨C, 0, none⟩) n n) n ((upP a W n (k + 1)).map (Value.int .i64)) by
            rw [HST.out, List.map_set]; exact HS7.out.1)
          clear c0 c1 c2 c3 d0 d1 d2 d3 e0 e1 e2 e3 e4 e5 e6 e7 f0 f1 f2 f3 f4 f5 f6 f7 g0 g1 g2 g3 g4 g5 g6 g7 hc7 hf7 hc hf k1 k2 k3 k4 k6
          go_wp2_with fail
          go_roundw
          case rel => exact ⟨k + 1, hlt, by go_num, HOn.out, HWn.out, HLn.out⟩
          case measure => simp [intOf]; omega
      · obtain rfl : k = n := by omega
        have HE := hid (show W.length - 1 = k by rw [HWN.out]; omega)
        have HI := hid (show OwnInts C wr.heap.size wr (.slice (some ⟨C, 0, none⟩) k k) (upW a W k) from OwnInts.ofH HOW.out (by rw [upP_all]))
        clear ho how hL
        go_wp2_with fail
        go_ret2
        rw [HA.out, HE.out]
        exact ⟨_, rfl, HI.out.wide HWC.out (Nat.le_refl _), HL.out⟩
end Go.Proofs.Ytdahhcigphhfdad
