/- Lists of 4 squares with a sum in the program: how many, with signs and orders. -/
import Derived.Test.YtcgdegmhajfbaabSqW4
import Derived.Shelf.RegionOpen
namespace Go.Proofs.Ytcgdegmhajfbaab
open Go.RowKit Go.Shelf

attribute [local go_sem] Oper.semAt_some in
set_option maxRecDepth 100000 in
set_option maxHeartbeats 4000000 in
theorem count4_in (n : Nat) (most : Int) (w : World) (hn : n ≤ 2000) (hm : inB 0 most n = true) :
    Calls Try.prog 41 #[.int .i64 n, .int .i64 most] w fun e w' => NumAns w (some (Sq.sumI ((Sq.sqL 4 n n).map signI))) e w' := by
  refine (callsIn_wide (n := 6)).1 ?_
  refine callsIn_of_wp_marks Try.func41 rfl trivial ?_ rfl
  simp only [Try.ntmps41, List.size_toArray, List.length_cons, List.length_nil, Nat.reduceAdd, Nat.reduceSub, Array.replicate_succ, Array.replicate_zero, List.push_toArray, List.append_toArray, List.nil_append, List.cons_append]
  gi_wp2_with (first
    | (refine ⟨trivial, ?_⟩; gi_at_call 42; refine (callsIn_wide.2 (isSum_as _ _ _ _ hm)).mono ?_; rintro e w2 ⟨rfl, rfl⟩)
    | (refine ⟨trivial, ?_⟩; gi_at_call 52; refine (callsIn_wide.2 (withSum4_any n _)).mono ?_; rintro e w2 ⟨rfl, rfl⟩))
  have HB4 := hid ((Bx.new w (.int .i64 0) 3).alloc (.cells #[.int .i64 n] 3))
  have HB6 := hid (Bx.new (w.alloc (.cells #[.int .i64 0] 3)) (.int .i64 n) 3)
  have HLW := hid ((Later.alloc w (.cells #[.int .i64 0] 3)).trans (Later.alloc _ (.cells #[.int .i64 n] 3)))
  have HS := hid (show ((w.alloc (.cells #[.int .i64 0] 3)).alloc (.cells #[.int .i64 n] 3)).heap.size = w.heap.size + 2 by simp)
  rw [World.size_alloc] at HB6
  obtain ⟨W0, hW0⟩ : ∃ W0, (w.alloc (.cells #[.int .i64 0] 3)).alloc (.cells #[.int .i64 n] 3) = W0 := ⟨_, rfl⟩
  rw [hW0] at HB4 HB6 HLW HS ⊢
  obtain ⟨L, hL⟩ : ∃ L, Sq.sqL 4 n n = L := ⟨_, rfl⟩
  have HSQ := hid (seq4 n (w.heap.size + 1) W0 (by omega) HB6.out.lt HB6.out.c)
  have HM := hid (fun (zs : List Int) (hz : zs ∈ Sq.sqL 4 n n) => sqL_bd (by omega) (by omega) hz)
  have HM2 := hid (fun (zs : List Int) (hz : zs ∈ Sq.sqL 4 n n) => (Sq.sqL_mem 4 n n zs hz).1)
  have HLen := hid (sq4_len hn n)
  rw [hL] at HSQ HM HM2 HLen
  have HLL := hid hL
  clear hW0 hL
  refine rangeL (p0 := 14) (L := L) rfl rfl enter4 HSQ.out
    (fun P pre W => pre <+: L ∧ Bx W w.heap.size (.int .i64 (Sq.sumI (pre.map signI))) ∧ ¬ P w.heap.size ∧ Later w W ∧ w.heap.size + 2 ≤ W.heap.size ∧ ∀ b, P b → w.heap.size ≤ b ∧ b < W.heap.size)
    (fun _ _ _ => False)
    ?carr ?iput ?xput ?ialloc ?start 6 ?round ?done ?stop
  case carr => exact
    { new := fun P s W cs t ⟨h1, h2, h4, h6, h7, h8⟩ => ⟨h1, h2.alloc _, fun h => h.elim h4 (fun e => by omega), h6.trans (Later.alloc _ _), by rw [World.size_alloc]; omega, fun b h => h.elim (fun h => by have := h8 b h; rw [World.size_alloc]; omega) (fun e => by rw [World.size_alloc]; omega)⟩
      set := fun P s W b k v ⟨h1, h2, h4, h6, h7, h8⟩ hb => ⟨h1, h2.set b k v (fun e => h4 (by rw [e]; exact hb)), h4, Below.setCell h6 (h8 b hb).1 v, by simpa using h7, by simpa using h8⟩
      weak := fun P P' s W ⟨h1, h2, h4, h6, h7, h8⟩ hp => ⟨h1, h2, fun h => h4 (hp _ h), h6, h7, fun b hb => h8 b (hp b hb)⟩ }
  case iput =>
    rintro P s W k o ⟨h1, h2, h4, h6, h7, h8⟩ hk _
    rw [HS.out] at hk
    exact ⟨h1, h2.put k o (by omega), h4, below_put h6 (by omega) (by omega) o, by simpa using h7, by simpa using h8⟩
  case xput =>
    rintro c s W k o h _ _
    exact h.elim
  case ialloc =>
    rintro s W o ⟨h1, h2, h4, h6, h7, h8⟩ _
    exact ⟨h1, h2.alloc _, h4, h6.trans (Later.alloc _ _), by rw [World.size_alloc]; omega, fun b h => h.elim⟩
  case start => exact ⟨List.nil_prefix, HB4.out, id, HLW.out, by rw [HS.out]; omega, fun b h => h.elim⟩
  case round =>
    rintro m l D P pre x W hD hl hlt hlc hDc hPl hPD ⟨h1, h2, h4, h6, h7, h8⟩ hx
    have HPX := hid hx
    have hxl := HM2.out x (prefix_mem hx)
    have hxb := (HM.out x (prefix_mem hx)).2
    have hsb := sumI_bd pre (fun r hr => (HM.out r (h1.subset hr)).1)
    have hpl : pre.length ≤ 1000000 := Nat.le_trans h1.length_le HLen.out
    obtain ⟨a0, a1, a2, a3, rfl⟩ : ∃ a0 a1 a2 a3, x = [a0, a1, a2, a3] := by
      match x, hxl with
      | [a0, a1, a2, a3], _ => exact ⟨a0, a1, a2, a3, rfl⟩
    have HST := hid (show Sq.sumI ((pre ++ [[a0, a1, a2, a3]]).map signI) = Sq.sumI (pre.map signI) + ((signs [a0, a1, a2, a3] : Nat) : Int) by rw [List.map_append, Sq.sumI_append]; simp [Sq.sumI, signI])
    have hsg := signs_le (zs := [a0, a1, a2, a3]) (by simp)
    have HAR := hid (fun w => arrange4_any a0 a1 a2 a3 w hxb)
    obtain ⟨q, hq⟩ : ∃ q, signs [a0, a1, a2, a3] = q := ⟨_, rfl⟩
    rw [hq] at HST hsg HAR
    obtain ⟨S, hS⟩ : ∃ S, Sq.sumI (pre.map signI) = S := ⟨_, rfl⟩
    rw [hS] at HST hsb h2
    have hSb : 0 ≤ S ∧ S ≤ 10000000000 := by omega
    clear hq hS hx hxl hxb hsb
    simp only [encV, List.map_cons, List.map_nil]
    gi_wp2
    refine ⟨Below.heap_alloc _ _ _ hlt, ?_⟩
    rintro o W2 hW2 ho
    have hBl : W.heap.size ≠ l := by omega
    have hl2 : W2.heap.size = W.heap.size + 1 := by rw [hW2]; simp
    have HX := hid (show SBox W2 W.heap.size [a0, a1, a2, a3] from by rw [hW2]; exact (SBox.new W [a0, a1, a2, a3] #[.int .i64 a0, .int .i64 a1, .int .i64 a2, .int .i64 a3] 66 rfl).keep (World.putObj_heap_other hBl))
    have H2 := hid (show Bx W2 w.heap.size (.int .i64 S) by rw [hW2]; exact (h2.alloc _).put _ _ (by rw [hl, HS.out]; omega))
    have H6 := hid (show Later w W2 by rw [hW2]; exact below_put (h6.trans (Later.alloc _ _)) (by rw [hl, HS.out]; omega) (by rw [World.size_alloc]; omega) o)
    have HD := hid (show W2.heap[D]? = W.heap[D]? by rw [hW2]; exact (World.putObj_heap_other (by omega)).trans (Below.heap_alloc _ _ _ (by omega)))
    have HKP := hid (show ∀ b, P b → b < W.heap.size → W2.heap[b]? = W.heap[b]? from fun b hb hbs => by rw [hW2]; exact (World.putObj_heap_other (fun e => hPl (by rw [← e]; exact hb))).trans (Below.heap_alloc _ _ _ hbs))
    have hlD : l = w.heap.size + 3 ∧ D = w.heap.size + 2 := by rw [hl, hD, HS.out]; exact ⟨rfl, rfl⟩
    have HLD := hid hlD
    have hSz : W.heap.size < W2.heap.size := by omega
    have h0s : w.heap.size + 2 ≤ W.heap.size := h7
    clear hW2 h2 h6 hl hD hlD hl2 hlc hDc
    have c0 := (HX.out 0 a0 rfl).1
    have c1 := (HX.out 1 a1 rfl).1
    have c2 := (HX.out 2 a2 rfl).1
    have c3 := (HX.out 3 a3 rfl).1
    have e4c := H2.out.c
    have e4f := H2.out.f
    have hwr : IntKind.i64.wrap (S + (q : Int)) = S + (q : Int) := by rw [IntWalk.i64_left]; exact IntWalk.wrap64_in _ (by omega)
    have hmx : Try.prog.follows .mixedOrders = true := by kernel_rfl
    gi_wp2
    gi_region_with_o ((try refine ⟨trivial, ?_⟩); (try refine ⟨(fun h => (by cases h)), ?_⟩); (try gi_at_call 56); refine (CallsIn.inRound l (callsIn_wide.2 (HAR.out _))).mono ?_; rintro e w3 ⟨rfl, hL3⟩; have e5c := Later.cell hL3 (a := ⟨w.heap.size, 0, none⟩) e4c; have e5f := Later.frozen hL3 (a := ⟨w.heap.size, 0, none⟩) e4c e4f)
    all_goals (
      gi_wp2
      try rw [hwr]
      have hL4 : Later W2 w3 := (Later.drew W2).trans hL3
      obtain ⟨hl4, hd3⟩ := HLD.out
      have e5 : Bx w3 w.heap.size (.int .i64 S) := ⟨e5c, e5f⟩
      have hs3 := hL4.size
      refine ⟨(heap_setCell_other _ ⟨w.heap.size, 0, none⟩ l _ (by simp only; omega)).trans (hL4.block l (by omega)), ((heap_setCell_other _ ⟨w.heap.size, 0, none⟩ D _ (by simp only; omega)).trans (hL4.block D (by omega))).trans HD.out,
        ⟨HPX.out, by rw [HST.out]; exact e5.store _, h4, Below.setCell (p := ⟨w.heap.size, 0, none⟩) (H6.out.trans hL4) (Nat.le_refl _) _, by simp only [World.size_setCell]; omega, fun b hb => by have := h8 b hb; simp only [World.size_setCell]; omega⟩, fun b hb => ?_⟩
      have h9 := h8 b hb
      exact ((heap_setCell_other _ ⟨w.heap.size, 0, none⟩ b _ (fun e => h4 (by simp only at e; rw [← e]; exact hb))).trans (hL4.block b (by omega))).trans (HKP.out b hb h9.2))
  case done =>
    rintro W ⟨_, h2, _, h6, h7, _⟩ hK hlt
    have c2 := h2.c
    gi_wp2
    have HLf := hid (below_put h6 (k := W0.heap.size) (by have := HS.out; omega) h6.size (.deferred none))
    refine ⟨by simp, .inl ⟨_, _, rfl, run_takeDeferred hK, ?_⟩⟩
    refine ⟨_, results_tmp2 rfl _ _ _, ?_, HLf.out⟩
    rw [HLL.out]
    rfl
  case stop =>
    rintro c q W hq h _ _
    exact h.elim
set_option maxHeartbeats 1000000 in
theorem count4_no (n most : Int) (w : World) (hm : inB 0 most n = false) :
    Calls Try.prog 41 #[.int .i64 n, .int .i64 most] w fun e w' => NumAns w none e w' := by
  have HM := hid hm
  clear hm
  go_enter Try.func41, Try.ntmps41
  go_wp2_with (go_at_call 42; refine (isSum_as _ _ _ _ HM.out).mono ?_; rintro e w2 ⟨rfl, rfl⟩)
  go_ret2
  exact ⟨rfl, Later.refl _⟩
set_option maxHeartbeats 1000000 in
theorem implCountFour_any (n : Int) (w : World) : Calls Try.prog 29 #[.int .i64 n] w fun e w' => NumAns w (countAns 4 2000 n) e w' := by
  by_cases h : 0 ≤ n ∧ n ≤ 2000
  · obtain ⟨m, rfl⟩ : ∃ m : Nat, n = (m : Int) := ⟨n.toNat, by omega⟩
    have HA := hid (show countAns 4 2000 (m : Int) = some (Sq.sumI ((Sq.sqL 4 m m).map signI)) by unfold countAns; rw [if_pos h, Int.toNat_natCast])
    have HF := hid (fun w => count4_in m 2000 w (by omega) (inB_true h))
    rw [HA.out]
    clear h HA
    go_enter Try.func29, Try.ntmps29
    go_wp2_with (go_at_call 41; refine (HF.out _).mono ?_; rintro e w2 ⟨rfl, hL⟩; have HL := hid hL; clear hL)
    go_ret2
    exact ⟨rfl, HL.out⟩
  · have HA := hid (show countAns 4 2000 n = none from if_neg h)
    have HB := hid (inB_false h)
    have HF := hid (fun w => count4_no n 2000 w HB.out)
    rw [HA.out]
    clear h HA
    go_enter Try.func29, Try.ntmps29
    go_wp2_with (go_at_call 41; refine (HF.out _).mono ?_; rintro e w2 ⟨rfl, hL⟩; have HL := hid hL; clear hL)
    go_ret2
    exact ⟨rfl, HL.out⟩
end Go.Proofs.Ytcgdegmhajfbaab
