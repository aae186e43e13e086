/- QdS, QdT, QdU, QdV: in one text. -/
import Derived.Test.YtljikcajfmnnmabQd
import Derived.Test.YtljikcajfmnnmabAns2
import Derived.Test.YtljikcajfmnnmabIntC
import Derived.Deep.RegionHeld3
import Derived.Test.YtljikcajfmnnmabHuV
namespace Go.Proofs.Ytljikcajfmnnmab
open Go.RowKit


theorem Ints.four {w : World} {v : Value} {a b c d : Int} (h : Ints w v [a, b, c, d]) :
    ∃ ad cap, v = .slice (some ad) 4 cap ∧ w.cell? ad = some (.int .i64 a) ∧ w.cell? ⟨ad.block, ad.off + 1, none⟩ = some (.int .i64 b) ∧ w.cell? ⟨ad.block, ad.off + 2, none⟩ = some (.int .i64 c) ∧ w.cell? ⟨ad.block, ad.off + 3, none⟩ = some (.int .i64 d) := by
  obtain ⟨p, cap, rfl, hl, hc⟩ := h
  obtain ⟨ad, rfl, h0⟩ := hc 0 (by simp)
  obtain ⟨ad1, e1, h1⟩ := hc 1 (by simp)
  obtain ⟨ad2, e2, h2⟩ := hc 2 (by simp)
  obtain ⟨ad3, e3, h3⟩ := hc 3 (by simp)
  obtain rfl : ad = ad1 := by simpa using e1
  obtain rfl : ad = ad2 := by simpa using e2
  obtain rfl : ad = ad3 := by simpa using e3
  exact ⟨ad, cap, rfl, by simpa [Addr.add] using h0, by simpa [Addr.add] using h1, by simpa [Addr.add] using h2, by simpa [Addr.add] using h3⟩
theorem sumQ_bd (zs : List Int) (h : ∀ z ∈ zs, -100000 ≤ z ∧ z ≤ 100000) : -(100000 * (zs.length : Int)) ≤ zs.sum ∧ zs.sum ≤ 100000 * (zs.length : Int) := by
  induction zs with
  | nil => simp
  | cons z zs ih =>
    have h1 := h z (by simp)
    have h2 := ih fun x hx => h x (by simp [hx])
    simp only [List.sum_cons, List.length_cons]
    omega
theorem sqQ_bd {z : Int} (h : -100000 ≤ z ∧ z ≤ 100000) : 0 ≤ z * z ∧ z * z ≤ 10000000000 := by
  have h0 := sq_nn z
  rcases Int.le_total 0 z with hz | hz
  · have := Int.mul_le_mul h.2 h.2 hz (by omega); omega
  · have := Int.mul_le_mul (show -z ≤ 100000 by omega) (show -z ≤ 100000 by omega) (by omega) (by omega)
    rw [Int.neg_mul_neg] at this; omega
theorem qsq_bd (zs : List Int) (h : ∀ z ∈ zs, -100000 ≤ z ∧ z ≤ 100000) : 0 ≤ qsq zs ∧ qsq zs ≤ 10000000000 * (zs.length : Int) := by
  induction zs with
  | nil => simp [qsq]
  | cons z zs ih =>
    have h1 := sqQ_bd (h z (by simp))
    have h2 := ih fun x hx => h x (by simp [hx])
    have e : qsq (z :: zs) = z * z + qsq zs := by simp [qsq]
    rw [e]
    simp only [List.length_cons]
    omega
theorem sum_snocQ (zs : List Int) (k : Nat) (hk : k < zs.length) : (zs.take (k + 1)).sum = (zs.take k).sum + zs[k] := by rw [take_snoc zs k hk, List.sum_append]; simp
theorem qsq_snocQ (zs : List Int) (k : Nat) (hk : k < zs.length) : qsq (zs.take (k + 1)) = qsq (zs.take k) + zs[k] * zs[k] := by rw [take_snoc zs k hk]; unfold qsq; rw [List.map_append, List.sum_append]; simp
theorem withinQ {zs : List Int} (h : zs.all (within (-100000) 100000) = true) : ∀ z ∈ zs, -100000 ≤ z ∧ z ≤ 100000 := by
  intro z hz
  have := List.all_eq_true.1 h z hz
  simpa [within] using this

set_option maxRecDepth 20000 in
set_option maxHeartbeats 1000000 in
theorem apGood_any (v : Value) (zs : List Int) (w : World) (h : Ints w v zs) :
    Calls Try.prog 54 #[v] w fun e w' => e = .returned (.bool (apB zs)) ∧ w = w' := by
  obtain ⟨p, cap, rfl, hl, hc⟩ := id h
  have H := hid h
  have HC := hid hc
  clear h hc
  by_cases h4 : zs.length = 4
  · have HN := hid h4
    have hn : ((zs.length : Int) != 4) = false := by simp [h4]
    cases hA : zs.all (within (-100000) 100000)
    · have HA := hid hA
      have HR := hid (show apB zs = false by unfold apB; rw [hA]; simp)
      clear hA h4
      go_enter Try.func54, Try.ntmps54
      go_wp2_with fail
      refine (l1All_as _ zs _ _ _ _ HA.out H.out).mono ?_
      rintro e w' ⟨rfl, rfl⟩
      go_wp2_with fail
      go_ret
      exact ⟨ret_bool HR.out.symm, rfl⟩
    · have HA := hid hA
      have HW := hid (withinQ hA)
      have HR := hid (show apB zs = (decide (0 < zs.sum) && decide (2 * qsq zs = zs.sum * zs.sum)) by unfold apB; rw [hA, h4]; simp)
      clear hA h4
      go_enter Try.func54, Try.ntmps54
      go_wp2_with fail
      refine (l1All_as _ zs _ _ _ _ HA.out H.out).mono ?_
      rintro e w' ⟨rfl, rfl⟩
      go_wp2_with fail
      go_loop [3, 4, 17] (fun s q i => ∃ k : Nat, k ≤ zs.length ∧ i = .int .i64 k ∧ s = .int .i64 (zs.take k).sum ∧ q = .int .i64 (qsq (zs.take k))) (fun _ _ i => zs.length - (intOf i).toNat)
      case atStart => exact ⟨0, Nat.zero_le _, rfl, rfl, rfl⟩
      case round =>
        obtain ⟨k, hk, rfl, rfl, rfl⟩ := hrel
        have hk4 : k ≤ 4 := by have := HN.out; omega
        obtain ⟨s1, s2⟩ := sumQ_bd (zs.take k) fun z hz => HW.out z (List.mem_of_mem_take hz)
        obtain ⟨q1, q2⟩ := qsq_bd (zs.take k) fun z hz => HW.out z (List.mem_of_mem_take hz)
        have hlk : (zs.take k).length ≤ 4 := by rw [List.length_take]; omega
        obtain ⟨S, hS⟩ : ∃ S, (zs.take k).sum = S := ⟨_, rfl⟩
        obtain ⟨Q, hQ⟩ : ∃ Q, qsq (zs.take k) = Q := ⟨_, rfl⟩
        rw [hS] at s1 s2
        rw [hQ] at q1 q2
        by_cases hlt : k < zs.length
        · obtain ⟨ad, rfl, hcell⟩ := HC.out k hlt
          simp only [getD_at zs k hlt] at hcell
          have hz := HW.out zs[k] (List.getElem_mem hlt)
          obtain ⟨z1, z2⟩ := hz
          obtain ⟨y1, y2⟩ := sqQ_bd ⟨z1, z2⟩
          have HSS := hid (show (zs.take (k + 1)).sum = S + zs[k] by rw [sum_snocQ zs k hlt, hS])
          have HQQ := hid (show qsq (zs.take (k + 1)) = Q + zs[k] * zs[k] by rw [qsq_snocQ zs k hlt, hQ])
          rw [hS, hQ]
          clear hS hQ
          go_wp2_with fail
          go_round
          case rel => exact ⟨k + 1, hlt, by go_num, by rw [HSS.out], by rw [HQQ.out]⟩
          case measure => simp [intOf]; omega
        · have HS2 := hid (show zs.sum = S by rw [← hS, take_all zs k (by omega)])
          have HQ2 := hid (show qsq zs = Q by rw [← hQ, take_all zs k (by omega)])
          rw [hS, hQ]
          clear hS hQ
          have hSb : -400000 ≤ S ∧ S ≤ 400000 := by omega
          have hQb : 0 ≤ Q ∧ Q ≤ 40000000000 := by omega
          obtain ⟨t1, t2⟩ := hSb
          obtain ⟨t3, t4⟩ := hQb
          have hss : 0 ≤ S * S ∧ S * S ≤ 160000000000 := by
            refine ⟨sq_nn S, ?_⟩
            rcases Int.le_total 0 S with hz | hz
            · have := Int.mul_le_mul t2 t2 hz (by omega); omega
            · have := Int.mul_le_mul (show -S ≤ 400000 by omega) (show -S ≤ 400000 by omega) (by omega) (by omega)
              rw [Int.neg_mul_neg] at this; omega
          obtain ⟨t5, t6⟩ := hss
          clear s1 s2 q1 q2
          by_cases h0 : 0 < S
          · go_wp2_with fail
            go_ret
            exact ⟨ret_bool (by rw [HR.out, HS2.out, HQ2.out, decide_eq_true h0, Bool.true_and, Bool.eq_iff_iff]; simp), rfl⟩
          · go_wp2_with fail
            go_ret
            exact ⟨ret_bool (by rw [HR.out, HS2.out, decide_eq_false (show ¬ 0 < S by omega)]; rfl), rfl⟩
  · have HR := hid (apB_len h4)
    have hn : ((zs.length : Int) != 4) = true := by simp; omega
    clear h4
    go_enter Try.func54, Try.ntmps54
    go_wp2_with fail
    go_ret
    exact ⟨ret_bool HR.out.symm, rfl⟩
theorem apGood_as (v : Value) (zs : List Int) (o : Bool) (w : World) (ho : apB zs = o) (h : Ints w v zs) :
    Calls Try.prog 54 #[v] w fun e w' => e = .returned (.bool o) ∧ w = w' := by
  subst ho; exact apGood_any v zs w h

/-- Four numbers of a size that sums bear. -/
structure Md (a b c d : Int) : Prop where
  a1 : -10000000 ≤ a
  a2 : a ≤ 10000000
  b1 : -10000000 ≤ b
  b2 : b ≤ 10000000
  c1 : -10000000 ≤ c
  c2 : c ≤ 10000000
  d1 : -10000000 ≤ d
  d2 : d ≤ 10000000
set_option maxRecDepth 20000 in
set_option maxHeartbeats 1000000 in
theorem apSum_any (v : Value) (a b c d : Int) (w : World) (hm : Md a b c d) (h : Ints w v [a, b, c, d]) :
    Calls Try.prog 72 #[v] w fun e w' => e = .returned (.int .i64 (a + b + c + d)) ∧ Drew w w' := by
  obtain ⟨ad, cap, rfl, k0, k1, k2, k3⟩ := h.four
  obtain ⟨a1, a2, b1, b2, c1, c2, d1, d2⟩ := hm
  clear h
  go_enter Try.func72, Try.ntmps72
  go_wp2_with fail
  go_quiet (fail)
  go_wp2_with fail
  go_ret
  exact ⟨rfl, ⟨_, rfl⟩⟩


theorem Md.getD {a b c d : Int} (h : Md a b c d) (i : Nat) (hi : i < 4) : -10000000 ≤ [a, b, c, d].getD i 0 ∧ [a, b, c, d].getD i 0 ≤ 10000000 := by
  obtain ⟨a1, a2, b1, b2, c1, c2, d1, d2⟩ := h
  have h4 : i = 0 ∨ i = 1 ∨ i = 2 ∨ i = 3 := by omega
  rcases h4 with rfl | rfl | rfl | rfl <;> simp <;> omega
set_option maxRecDepth 20000 in
set_option maxHeartbeats 2000000 in
theorem apSwap_any (v : Value) (a b c d : Int) (i : Nat) (w : World) (hi : i < 4) (hm : Md a b c d) (h : Ints w v [a, b, c, d]) :
    Calls Try.prog 66 #[v, .int .i64 i] w fun e w' => MadeInts w (swL [a, b, c, d] i) e w' := by
  obtain ⟨ad, cap, rfl, _⟩ := h.four
  have H := hid h
  have HM := hid hm
  have hmi := hm.getD i hi
  obtain ⟨x, hx⟩ : ∃ x, [a, b, c, d].getD i 0 = x := ⟨_, rfl⟩
  have HX := hid hx
  rw [hx] at hmi
  have HSW := hid (show swN [a, b, c, d] i = 2 * (a + b + c + d - x) - x by unfold swN; rw [sum4, hx])
  obtain ⟨x1, x2⟩ := hmi
  obtain ⟨s, hs⟩ : ∃ s, a + b + c + d = s := ⟨_, rfl⟩
  have hsb : -40000000 ≤ s ∧ s ≤ 40000000 := by have := hm.a1; have := hm.a2; have := hm.b1; have := hm.b2; have := hm.c1; have := hm.c2; have := hm.d1; have := hm.d2; omega
  obtain ⟨s1, s2⟩ := hsb
  have HSM := hid (fun (v : Value) (w0 : World) (h0 : Ints w0 v [a, b, c, d]) => show Calls Try.prog 72 #[v] w0 fun e w' => e = .returned (.int .i64 s) ∧ Drew w0 w' from hs ▸ apSum_any v a b c d w0 hm h0)
  rw [hs] at HSW
  obtain ⟨_, _, e1, _, hcc⟩ := id h
  simp only [Value.slice.injEq] at e1
  obtain ⟨rfl, _, rfl⟩ := e1
  obtain ⟨ad', e2, hcell⟩ := hcc i (by simpa using hi)
  simp only [Option.some.injEq] at e2
  subst e2
  rw [hx] at hcell
  have hiI : (i : Int) < 4 := by omega
  have i0 : (0 : Int) ≤ (i : Int) := by omega
  have ww1 : IntKind.i64.wrap (s - x) = s - x := by rw [IntWalk.i64_left]; exact IntWalk.wrap64_in _ (by omega)
  have ww2 : IntKind.i64.wrap (2 * (s - x)) = 2 * (s - x) := by rw [IntWalk.i64_left]; exact IntWalk.wrap64_in _ (by omega)
  have ww3 : IntKind.i64.wrap (2 * (s - x) - x) = 2 * (s - x) - x := by rw [IntWalk.i64_left]; exact IntWalk.wrap64_in _ (by omega)
  clear h hm hx hs hcc
  go_enter Try.func66, Try.ntmps66
  go_wp2_with fail
  refine (l1OwnH_any ad 4 cap [a, b, c, d] _ rfl (by omega) H.out).mono ?_
  rintro e w2 ⟨v2, rfl, ho2, hL2⟩
  obtain ⟨a2, c2, rfl, hkc, _, hxl, hcs⟩ := ownsRow_shape ho2.1
  obtain ⟨g, rfl, hc2⟩ := hcs i (by simpa using hi)
  have hfr := ho2.1.frozenAt i
  have hgl := (ho2.1.lt g rfl).1
  have HO2 := hid ho2
  have HL2 := hid hL2
  have H2 := hid (H.out.later hL2)
  replace hcell := hL2.cell hcell
  have hat : ([a, b, c, d].map (Value.int .i64))[i]? = some (.int .i64 x) := by
    rw [← HX.out]
    have h4 : i = 0 ∨ i = 1 ∨ i = 2 ∨ i = 3 := by omega
    rcases h4 with rfl | rfl | rfl | rfl <;> simp
  rw [hat] at hc2
  clear hat
  clear hcs hL2 ho2 hxl
  go_wp2_with fail
  go_region_with (first | (go_at_call 72; refine (HSM.out _ _ (H2.out.later (Later.drew _))).mono ?_; rintro e w3 ⟨rfl, nd, rfl⟩))
  all_goals
    have HO3 := hid ((HO2.out.later (Later.drewN w2 (1 + nd))).storeAt i (2 * (s - x) - x))
    have HL3 := hid (show Later w ((w2.drewN (1 + nd)).setCell ⟨g, i, none⟩ (.int .i64 (2 * (s - x) - x))) from (HL2.out.trans (Later.drewN w2 (1 + nd))).setCell hgl _)
    generalize (w2.drewN (1 + nd)).setCell ⟨g, i, none⟩ (.int .i64 (2 * (s - x) - x)) = w4 at HO3 HL3 ⊢
    clear hcell hc2 hfr
    go_wp2_with fail
    go_ret
    refine ⟨_, rfl, ?_, HL3.out⟩
    have e : swL [a, b, c, d] i = [a, b, c, d].set i (2 * (s - x) - x) := by unfold swL; rw [HSW.out]
    rw [e]
    exact ⟨HO3.out.1, fun b hb => (HO3.out.1.lt b hb).2⟩


theorem MadeInts.cells {w : World} {zs : List Int} {e : Ending} {w' : World} (h : MadeInts w zs e w') (i : Nat) (hi : i < zs.length) :
    ∃ g c, e = .returned (.slice (some ⟨g, 0, none⟩) zs.length c) ∧ w'.cell? ⟨g, i, none⟩ = some (.int .i64 (zs.getD i 0)) ∧ Later w w' := by
  obtain ⟨v, rfl, ho, hL⟩ := h
  obtain ⟨a, c, rfl, _, _, _, hcs⟩ := ownsRow_shape ho.1
  obtain ⟨g, rfl, hc⟩ := hcs i hi
  refine ⟨g, c, rfl, ?_, hL⟩
  rw [hc]; simp [hi]
theorem swL_at (zs : List Int) (i : Nat) (hi : i < zs.length) : (swL zs i).getD i 0 = swN zs i := by simp [swL, hi]
theorem swN_md {a b c d : Int} (h : Md a b c d) (i : Nat) (hi : i < 4) : -200000000 ≤ swN [a, b, c, d] i ∧ swN [a, b, c, d] i ≤ 200000000 := by
  obtain ⟨a1, a2, b1, b2, c1, c2, d1, d2⟩ := h
  obtain ⟨e0, e1, e2, e3⟩ := swN4 a b c d
  have h4 : i = 0 ∨ i = 1 ∨ i = 2 ∨ i = 3 := by omega
  rcases h4 with rfl | rfl | rfl | rfl
  · rw [e0]; omega
  · rw [e1]; omega
  · rw [e2]; omega
  · rw [e3]; omega
set_option maxRecDepth 20000 in
set_option maxHeartbeats 2000000 in
theorem apDown_any (v : Value) (a b c d : Int) (w : World) (hm : Md a b c d) (h : Ints w v [a, b, c, d]) :
    Calls Try.prog 55 #[v] w fun e w' => e = .returned (.int .i64 (downIx [a, b, c, d])) ∧ Later w w' := by
  obtain ⟨ad, cap, rfl, _⟩ := h.four
  have H := hid h
  have HM := hid hm
  have HSWP := hid (fun (i : Nat) (w0 : World) (hi : i < 4) (h0 : Ints w0 (.slice (some ad) 4 cap) [a, b, c, d]) => (apSwap_any _ a b c d i w0 hi hm h0).mono (fun e w' hh => hh.cells i (by rw [swL_len]; exact hi)))
  have HB := hid (fun (i : Nat) (hi : i < 4) => swN_md hm i hi)
  have HG := hid (fun (i : Nat) (hi : i < 4) => hm.getD i hi)
  have hc : ∀ i, i < 4 → w.cell? (ad.add i) = some (.int .i64 ([a, b, c, d].getD i 0)) := by
    intro i hi
    obtain ⟨_, _, e1, _, hcc⟩ := id h
    simp only [Value.slice.injEq] at e1
    obtain ⟨rfl, _, rfl⟩ := e1
    obtain ⟨ad', e2, hcell⟩ := hcc i (by simpa using hi)
    simp only [Option.some.injEq] at e2
    subst e2
    exact hcell
  have HC := hid hc
  have HSL := hid (fun i => swL_len [a, b, c, d] i)
  have HSA := hid (fun (i : Nat) (hi : i < 4) => swL_at [a, b, c, d] i hi)
  have HGL := hid (fun k => gTo_lt [a, b, c, d] k)
  have HGI := hid (show gIx [a, b, c, d] = gTo [a, b, c, d] 4 from rfl)
  obtain ⟨zs, hz⟩ : ∃ zs, [a, b, c, d] = zs := ⟨_, rfl⟩
  have HZL := hid (show zs.length = 4 by rw [← hz]; rfl)
  rw [hz] at H HSWP HB HG HC HSL HSA HGL HGI ⊢
  clear h hm hc hz
  go_enter Try.func55, Try.ntmps55
  go_wp2_with fail
  go_loop [3, 8] (fun b i => ∃ k : Nat, k ≤ 4 ∧ i = .int .i64 k ∧ b = .int .i64 (gTo zs k : Nat)) (fun _ i => 4 - (intOf i).toNat)
  case atStart => exact ⟨0, Nat.zero_le _, rfl, rfl⟩
  case round =>
    obtain ⟨k, hk, rfl, rfl⟩ := hrel
    have hg4 : gTo zs k < 4 := by
      by_cases h0 : k = 0
      · subst h0; simp [gTo]
      · have := HGL.out k (by omega); omega
    obtain ⟨g, hg⟩ : ∃ g, gTo zs k = g := ⟨_, rfl⟩
    have HGE := hid hg
    rw [hg] at hg4 ⊢
    have hcg := HC.out g hg4
    have hgI : (g : Int) < 4 := by omega
    have hg0 : (0 : Int) ≤ (g : Int) := by omega
    obtain ⟨y, hy⟩ : ∃ y, zs.getD g 0 = y := ⟨_, rfl⟩
    have HY := hid hy
    rw [hy] at hcg
    by_cases hlt : k < 4
    · have hck := HC.out k hlt
      obtain ⟨x, hx⟩ : ∃ x, zs.getD k 0 = x := ⟨_, rfl⟩
      have HX := hid hx
      rw [hx] at hck
      have hkI : (k : Int) < 4 := by omega
      clear hg hx hy
      by_cases hgt : y < x
      · have HN := hid (show gTo zs (k + 1) = k by unfold gTo; rw [HGE.out, HY.out, HX.out, if_pos hgt])
        go_wp2_with fail
        go_round
        case rel => exact ⟨k + 1, hlt, by go_num, by rw [HN.out]⟩
        case measure => simp [intOf]; omega
      · have HN := hid (show gTo zs (k + 1) = g by unfold gTo; rw [HGE.out, HY.out, HX.out, if_neg hgt])
        go_wp2_with fail
        go_round
        case rel => exact ⟨k + 1, hlt, by go_num, by rw [HN.out]⟩
        case measure => simp [intOf]; omega
    · obtain rfl : k = 4 := by omega
      have HGX := hid (show gIx zs = g from HGI.out.trans HGE.out)
      have hgl : g < (4 : Nat) := hg4
      obtain ⟨n, hn⟩ : ∃ n, swN zs g = n := ⟨_, rfl⟩
      have HN := hid hn
      have HSP := hid (fun (w0 : World) (h0 : Later w w0) => show Calls Try.prog 66 #[.slice (some ad) 4 cap, .int .i64 g] w0 fun e w' => ∃ gg c, e = .returned (.slice (some ⟨gg, 0, none⟩) 4 c) ∧ w'.cell? ⟨gg, g, none⟩ = some (.int .i64 n) ∧ Later w0 w' from (HSWP.out g w0 hg4 (H.out.later h0)).mono (fun e w' hh => by
        obtain ⟨gg, c, he, hcl, hL⟩ := hh
        rw [HSL.out, HZL.out] at he
        rw [HSA.out g hg4, hn] at hcl
        exact ⟨gg, c, he, hcl, hL⟩))
      clear hg hy hn hlt
      go_wp2_with fail
      go_region_with (first | (go_at_call 66; refine (HSP.out _ (Later.drew _)).mono ?_; rintro e w3 ⟨gg, c3, rfl, hc3, hL3⟩; have hcg3 := hL3.cell ((Later.drew _).cell hcg); have HL3 := hid ((Later.drew _).trans hL3); clear hL3))
      all_goals
        by_cases hle : y ≤ n
        · have HR := hid (show downIx zs = -1 by unfold downIx lastQ; rw [HGX.out, HY.out, HN.out, decide_eq_true hle]; rfl)
          go_wp2_with fail
          go_ret
          exact ⟨ret_int HR.out.symm, HL3.out⟩
        · have HR := hid (show downIx zs = (g : Int) by unfold downIx lastQ; rw [HGX.out, HY.out, HN.out, decide_eq_false hle]; simp)
          go_wp2_with fail
          go_ret
          exact ⟨ret_int HR.out.symm, HL3.out⟩
theorem apDown_as (v : Value) (a b c d : Int) (o : Int) (w : World) (hm : Md a b c d) (ho : downIx [a, b, c, d] = o) (h : Ints w v [a, b, c, d]) :
    Calls Try.prog 55 #[v] w fun e w' => e = .returned (.int .i64 o) ∧ Later w w' := by
  subst ho; exact apDown_any v a b c d w hm h


theorem QD.md {a b c d : Int} (h : QD a b c d) : Md a b c d := by
  obtain ⟨⟨a1, a2⟩, ⟨b1, b2⟩, ⟨c1, c2⟩, ⟨d1, d2⟩, _, _⟩ := h
  exact ⟨by omega, by omega, by omega, by omega, by omega, by omega, by omega, by omega⟩
theorem within03 {i : Int} : within 0 3 i = true ↔ 0 ≤ i ∧ i ≤ 3 := by simp [within]
theorem downIx_last {zs : List Int} (h : lastQ zs = true) : downIx zs = -1 := by unfold downIx; rw [if_pos h]
theorem downIx_next {zs : List Int} (h : lastQ zs = false) : downIx zs = (gIx zs : Int) := by unfold downIx; rw [h]; simp
theorem apDown_zs (v : Value) (zs : List Int) (w : World) (hg : apB zs = true) (h : Ints w v zs) :
    Calls Try.prog 55 #[v] w fun e w' => e = .returned (.int .i64 (downIx zs)) ∧ Later w w' := by
  obtain ⟨a, b, c, d, rfl, hq⟩ := apB_four hg
  exact apDown_any v a b c d w hq.md h
theorem apSwap_zs (v : Value) (zs : List Int) (i : Nat) (w : World) (hi : i < 4) (hg : apB zs = true) (h : Ints w v zs) :
    Calls Try.prog 66 #[v, .int .i64 i] w fun e w' => MadeInts w (swL zs i) e w' := by
  obtain ⟨a, b, c, d, rfl, hq⟩ := apB_four hg
  exact apSwap_any v a b c d i w hi hq.md h
end Go.Proofs.Ytljikcajfmnnmab
