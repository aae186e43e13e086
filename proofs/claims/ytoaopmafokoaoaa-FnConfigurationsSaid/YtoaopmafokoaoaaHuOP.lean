/- HuO, HuP: in one text. -/
import Derived.Test.YtoaopmafokoaoaaHuS
import Derived.Test.YtoaopmafokoaoaaRowsKI
import Derived.Deep.RegionLaw
import Derived.Deep.RegionHeld3
namespace Go.Proofs.Ytoaopmafokoaoaa
open Go.RowKit


set_option maxRecDepth 20000 in
set_option maxHeartbeats 4000000 in
theorem huOther_any (zs : List Int) (a : Int) (i : Nat) (ad : Addr) (n c : Nat) (w : World) (hi' : i < n) (hz : zs.length = n) (hn : n ≤ 4) (hnc : n ≤ c) (h5 : In5 zs) (ha : 1 ≤ a ∧ a ≤ 20) (h : Ints w (.slice (some ad) n c) zs) :
    Calls Try.prog 109 #[.slice (some ad) n c, .int .i64 a, .int .i64 i] w fun e w' => e = .returned (.int .i64 (capP a (zs.eraseIdx i) - zs.getD i 0)) ∧ Later w w' := by
  obtain ⟨ii, hii, ii0, ii1, ii2⟩ := info_parts Try.infoInt
  have HI := hid h
  have HZ := hid hz
  have HA := hid ha
  have H5 := hid h5
  have H5E := hid (h5.erase i)
  have hjn : (i : Int) ≤ (n : Int) := by omega
  have hjl : (i : Int) < (n : Int) := by omega
  have hjc : (i : Int) ≤ (c : Int) := by omega
  have hj1 : (i : Int) + 1 ≤ (n : Int) := by omega
  have hncI : (n : Int) ≤ (c : Int) := by omega
  have hnb : (n : Int) ≤ 4 := by omega
  have hj0 : (0 : Int) ≤ (i : Int) + 1 := by omega
  have htn : ((i : Int) + 1).toNat = i + 1 := by omega
  have hwr : IntKind.i64.wrap ((i : Int) + 1) = (i : Int) + 1 := by rw [IntWalk.i64_left]; exact IntWalk.wrap64_in _ (by omega)
  obtain ⟨_, _, e1, _, hcc⟩ := id h
  simp only [Value.slice.injEq] at e1
  obtain ⟨rfl, e1n, rfl⟩ := e1
  clear e1n
  obtain ⟨ad', e2, hcell⟩ := hcc i (by omega)
  simp only [Option.some.injEq] at e2
  subst e2
  obtain ⟨x, hx⟩ : ∃ x, zs.getD i 0 = x := ⟨_, rfl⟩
  have hxb : 1 ≤ x ∧ x ≤ 100000 := by rw [← hx]; exact h5 _ (by simp [show i < zs.length by omega])
  have HX := hid hx
  rw [hx] at hcell
  obtain ⟨P, hP⟩ : ∃ P, capP a (zs.eraseIdx i) = P := ⟨_, rfl⟩
  have hPb : 1 ≤ P ∧ P ≤ 1000000000000 := by rw [← hP]; exact capP_bd _ a ha.1 (by omega) (h5.erase i)
  have HP := hid hP
  have hwP : IntKind.i64.wrap (P - x) = P - x := by rw [IntWalk.i64_left]; exact IntWalk.wrap64_in _ (by omega)
  clear h h5 ha hcc hx hP hz
  have HTL := hid (show (zs.take i).length = i by rw [List.length_take, HZ.out]; omega)
  have HDL := hid (show (zs.drop (i + 1)).length = n - (i + 1) by rw [List.length_drop, HZ.out])
  have HDN := hid (show (zs.eraseIdx i).length = n - 1 by rw [List.length_eraseIdx, HZ.out]; simp; omega)
  obtain ⟨A, hA, HN⟩ : ∃ A : Addr, (A = if c = i + 1 then ad else ⟨ad.block, ad.off + (i + 1), none⟩) ∧ Hid (∀ t u, ((zs.drop (i + 1)).map (Value.int .i64))[t]? = some u → w.cell? (A.add t) = some u) := by
    refine ⟨_, rfl, hid ?_⟩
    intro t u ht
    by_cases hc : c = i + 1
    · rw [List.getElem?_eq_none (by rw [List.length_map, HDL.out]; omega)] at ht; cases ht
    · rw [if_neg hc, addr_add_addH _ _ _ (Nat.succ_pos i)]
      refine HI.out.newsH (i + 1 + t) u ?_
      rw [← ht]; simp
  by_cases hcj : c = i + 1
  · have hni : n = i + 1 := by omega
    subst hni
    subst hcj
    rw [if_pos rfl] at hA
    rw [hA] at HN
    clear hA A
    go_enter Try.func109, Try.ntmps109
    have hq1 : (i : Int) ≤ (i : Int) + 1 := by omega
    go_wp2_with fail
    go_region_held3 (fun _ => True) (trivial) (first | (go_at_call 56; refine (l1OwnH_any ad i _ (zs.take i) _ HTL.out (by omega) ((HI.out.takesH i (by omega)).later (Later.drew w))).mono ?_; rintro e w2 ⟨v2, rfl, ho, hL2⟩; have HO2 := hid ho; have HL2 := hid ((Later.drew w).trans hL2); clear ho hL2) | (have hh := v2; clear hh; refine step_append_atH _ (by rfl) _ _ _ (by rfl) w.heap.size 3 ii (.int .i64 0) 1 8 Try.underlying24 hii ii0 ii1 ii2 rfl (by omega) v2 i ((zs.take i).map (.int .i64)) (by rfl) (by have := HO2.out.1; rw [HTL.out] at this; exact this) _ _ _ ((zs.drop (i + 1)).map (.int .i64)) (by rfl) (by rw [List.length_map, HDL.out]; omega) (fun t u ht => HL2.out.cell (HN.out t u ht)) (fun u hu => by obtain ⟨x, _, rfl⟩ := List.mem_map.1 hu; rfl) (by unfold maxLen; omega) (by omega) HL2.out.size ?_; intro v3 w3 hown3 hgrow3; have HO3 := hid (OwnInts.ofH (zs := zs.eraseIdx i) hown3 (by rw [List.eraseIdx_eq_take_drop_succ, List.map_append])); have HL3 : Hid (Later w w3) := hid (HL2.out.grown hgrow3 HL2.out.size (fun b hb => (HO2.out.1.lt b hb).1)); have sh := HO3.out.shape; rw [HDN.out] at sh; obtain ⟨a3, c3, rfl, _⟩ := sh; clear hown3 hgrow3))
    all_goals
      have d := HL3.out.cell hcell
      have hi3 := HO3.out.ints
      try simp only [Nat.add_sub_cancel] at hi3
      have HI3 := hid hi3
      clear hi3
      go_wp2_with fail
      go_quiet (first | (go_at_call 98; exact Calls.quiet_of_same ((huProduct_any _ (zs.eraseIdx i) a _ HA.out H5E.out (HI3.out.later (Later.drewN w3 _))).mono fun _ _ ⟨a, b⟩ => ⟨a.trans (by rw [HP.out]), b.symm⟩)))
      go_wp2_with fail
      go_ret
      exact ⟨ret_int (by rw [HP.out, HX.out]), HL3.out.trans (Later.drewN _ _)⟩
  · rw [if_neg hcj] at hA
    subst hA
    go_enter Try.func109, Try.ntmps109
    go_wp2_with fail
    go_region_held3 (fun _ => True) (trivial) (first | (go_at_call 56; refine (l1OwnH_any ad i _ (zs.take i) _ HTL.out (by omega) ((HI.out.takesH i (by omega)).later (Later.drew w))).mono ?_; rintro e w2 ⟨v2, rfl, ho, hL2⟩; have HO2 := hid ho; have HL2 := hid ((Later.drew w).trans hL2); clear ho hL2) | (have hh := v2; clear hh; refine step_append_atH _ (by rfl) _ _ _ (by rfl) w.heap.size 3 ii (.int .i64 0) 1 8 Try.underlying24 hii ii0 ii1 ii2 rfl (by omega) v2 i ((zs.take i).map (.int .i64)) (by rfl) (by have := HO2.out.1; rw [HTL.out] at this; exact this) _ _ _ ((zs.drop (i + 1)).map (.int .i64)) (by rfl) (by rw [List.length_map, HDL.out]; omega) (fun t u ht => HL2.out.cell (HN.out t u ht)) (fun u hu => by obtain ⟨x, _, rfl⟩ := List.mem_map.1 hu; rfl) (by unfold maxLen; omega) (by omega) HL2.out.size ?_; intro v3 w3 hown3 hgrow3; have HO3 := hid (OwnInts.ofH (zs := zs.eraseIdx i) hown3 (by rw [List.eraseIdx_eq_take_drop_succ, List.map_append])); have HL3 : Hid (Later w w3) := hid (HL2.out.grown hgrow3 HL2.out.size (fun b hb => (HO2.out.1.lt b hb).1)); have sh := HO3.out.shape; rw [HDN.out] at sh; obtain ⟨a3, c3, rfl, _⟩ := sh; clear hown3 hgrow3))
    all_goals
      have d := HL3.out.cell hcell
      have hi3 := HO3.out.ints
      try simp only [Nat.add_sub_cancel] at hi3
      have HI3 := hid hi3
      clear hi3
      go_wp2_with fail
      go_quiet (first | (go_at_call 98; exact Calls.quiet_of_same ((huProduct_any _ (zs.eraseIdx i) a _ HA.out H5E.out (HI3.out.later (Later.drewN w3 _))).mono fun _ _ ⟨a, b⟩ => ⟨a.trans (by rw [HP.out]), b.symm⟩)))
      go_wp2_with fail
      go_ret
      exact ⟨ret_int (by rw [HP.out, HX.out]), HL3.out.trans (Later.drewN _ _)⟩


theorem huOther_sol (zs : List Int) (a b : Int) (i : Nat) (ad : Addr) (c : Nat) (w : World) (hi' : i < zs.length) (hnc : zs.length ≤ c) (hS : Sol zs a b) (h : Ints w (.slice (some ad) zs.length c) zs) :
    Calls Try.prog 109 #[.slice (some ad) zs.length c, .int .i64 a, .int .i64 i] w fun e w' => e = .returned (.int .i64 (othL a zs i)) ∧ Later w w' := by
  refine (huOther_any zs a i ad zs.length c w hi' rfl (by have := hS.hl; omega) hnc hS.in5 hS.ha h).mono ?_
  rintro e w' ⟨rfl, hL⟩
  exact ⟨ret_int (by rw [hS.cap_rest i hi']; rfl), hL⟩
theorem Sol.oth_bd {zs : List Int} {a b : Int} (h : Sol zs a b) (i : Nat) (hi : i < zs.length) : -100000 ≤ othL a zs i ∧ othL a zs i ≤ 40000000050 := by
  have h1 := h.rest_bd i hi
  have h2 := h.in5 (zs.getD i 0) (by simp [hi])
  unfold othL
  omega

set_option maxRecDepth 20000 in
set_option maxHeartbeats 2000000 in
theorem huLast_any (v : Value) (zs : List Int) (a b : Int) (w : World) (hS : Sol zs a b) (h : IntsC w v zs) :
    Calls Try.prog 69 #[v, .int .i64 a] w fun e w' => e = .returned (.bool (lastB a zs)) ∧ Later w w' := by
  have h0 : 0 < zs.length := by have := hS.hl; omega
  obtain ⟨ad, c, rfl, hnc⟩ := h.addr h0
  obtain ⟨_, _, e1, _, hc⟩ := id h.1
  simp only [Value.slice.injEq, true_and] at e1
  obtain ⟨rfl, rfl⟩ := e1
  obtain ⟨ad', e2, c0⟩ := hc 0 h0
  simp only [Option.some.injEq] at e2
  subst e2
  rw [show ad.add 0 = ad by simp [Addr.add]] at c0
  have hxb := hS.in5 (zs.getD 0 0) (by simp [h0])
  have HS := hid hS
  have HI := hid h.1
  have HN0 := hid h0
  have HNC := hid hnc
  obtain ⟨x, hx⟩ : ∃ x, zs.getD 0 0 = x := ⟨_, rfl⟩
  rw [hx] at c0 hxb
  have HX := hid hx
  have hi0 : (0 : Int) < (zs.length : Int) := by omega
  have hwx : IntKind.i64.wrap (x - 1) = x - 1 := by rw [IntWalk.i64_left]; exact IntWalk.wrap64_in _ (by omega)
  clear hc hx hS h hnc
  go_enter Try.func69, Try.ntmps69
  go_wp2_with fail
  go_region_held3 (fun w' => w'.cell? ad = some (.int .i64 x)) (first | exact c0 | exact d0) (first | (go_at_call 109; refine (huOther_sol zs a b 0 ad c _ HN0.out HNC.out HS.out (HI.out.later (Later.drew w))).mono ?_; rintro e w2 ⟨rfl, hL⟩; have d0 := hL.cell (w := w.drew) c0; have HL := hid ((Later.drew w).trans hL); clear hL) | (go_at_call 55; refine (l1In_any _ _ _ _).mono ?_; rintro e w3 ⟨rfl, rfl⟩))
  go_wp2_with fail
  go_ret
  exact ⟨ret_bool (by unfold lastB; rw [HX.out]), HL.out⟩

def othAns (zs : List Int) (a b i : Int) : Option Int := if (givenB a b && solB zs a b) = true ∧ within 0 ((zs.length : Int) - 1) i = true then some (othL a zs i.toNat) else none
theorem within_idx {n : Nat} {i : Int} : within 0 ((n : Int) - 1) i = true ↔ 0 ≤ i ∧ i < (n : Int) := by simp only [within, Bool.and_eq_true, decide_eq_true_eq]; omega
def fundAns (zs : List Int) (a b : Int) : Option Bool := if (givenB a b && solB zs a b) = true then some (lastB a zs) else none
end Go.Proofs.Ytoaopmafokoaoaa
