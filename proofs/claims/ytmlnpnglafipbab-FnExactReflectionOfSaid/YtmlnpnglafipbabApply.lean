/- Contracts of products of rows and vectors, and of ApplyMatrix. -/
import Derived.Test.YtmlnpnglafipbabForm
import Derived.Deep.AppendLies
namespace Go.Proofs.Ytmlnpnglafipbab
open Go.RowKit

def dotW (a b : List Int) : Int := wsum (fun i => wrap64 (a.getD i 0 * b.getD i 0)) a.length
def applyW (m : List (List Int)) (zs : List Int) : List Int := m.map fun r => dotW r zs
def vecOK (n : Nat) (zs : List Int) : Bool := decide (zs.length = n) && zs.all (within (-1000000) 1000000)

theorem dotEntry_any (zs : List Int) (b : Nat) (u : Value) (i : Nat) (x : Int) (w : World) (hi : i < zs.length) (hb : w.cell? ⟨b, 0, none⟩ = some u) (h : Ints w u zs) :
    Calls Try.prog 134 #[.int .i64 i, .int .i64 x, .pointer (some ⟨b, 0, none⟩)] w fun e w' => e = .returned (.int .i64 (wrap64 (x * zs.getD i 0))) ∧ w = w' := by
  obtain ⟨a, cap, rfl, hl, hc⟩ := h
  obtain ⟨ad, rfl, hx⟩ := hc i hi
  have hi2 : (i : Int) < (zs.length : Int) := by omega
  generalize zs.getD i 0 = y at hx ⊢
  clear hc
  go_enter Try.func134, Try.ntmps134
  go_wp2_with fail
  go_ret
  exact ⟨rfl, rfl⟩

set_option maxHeartbeats 400000 in
theorem dot_any (u v : Value) (xs ys : List Int) (w : World) (hl : xs.length ≤ ys.length) (hu : Ints w u xs) (hv : Ints w v ys) :
    Calls Try.prog 122 #[u, v] w fun e w' => e = .returned (.int .i64 (dotW xs ys)) ∧ Later w w' := by
  obtain ⟨b, cap2, rfl, _⟩ := id hv
  have hb : (w.alloc (.cells #[Value.slice b ys.length cap2] 28)).cell? ⟨w.heap.size, 0, none⟩ = some (.slice b ys.length cap2) := by simp [go_sem]
  have HB := hid hb
  have HU := hid (hu.later (Later.alloc w (.cells #[Value.slice b ys.length cap2] 28)))
  have HV := hid (hv.later (Later.alloc w (.cells #[Value.slice b ys.length cap2] 28)))
  have HL := hid (Later.alloc w (.cells #[Value.slice b ys.length cap2] 28))
  clear hu hv hb
  go_enter Try.func122, Try.ntmps122
  go_wp2_with fail
  refine (sumOver_any u xs 134 #[.pointer (some ⟨w.heap.size, 0, none⟩)] (fun i => wrap64 (xs.getD i 0 * ys.getD i 0)) _ Try.call134 HU.out (fun i w1 hi hL => (dotEntry_any ys w.heap.size _ i (xs.getD i 0) w1 (by omega) (hL.cell HB.out) (HV.out.later hL)).mono fun e w2 ⟨he, hw⟩ => ⟨he, by subst hw; exact Later.refl _⟩)).mono ?_
  rintro e w1 ⟨rfl, hL⟩
  have HL2 := hid (HL.out.trans hL)
  clear hL
  go_wp2_with fail
  go_ret
  exact ⟨rfl, HL2.out⟩

set_option maxHeartbeats 1000000 in
theorem appliedTo_any (n : Nat) (m : List (List Int)) (hq : Sq n m) (hn : n ≤ 1048576) (zs : List Int) (hz : zs.length = n) (u v : Value) (w : World) (hu : Rows2 w u m) (hv : Ints w v zs) :
    Calls Try.prog 81 #[u, v] w fun e w' => MadeInts w (applyW m zs) e w' := by
  obtain ⟨a, cap, rfl, hl⟩ := hu.sqForm hq
  obtain ⟨i0, hi, hz0, hz1, hz2⟩ := info_parts Try.infoInt
  have HB := hid hz2
  have HU := hid hu
  have HV := hid hv
  clear hu hv
  have hal : (applyW m zs).length = n := by simp [applyW, hq.1]
  have HAL := hid hal
  clear hal
  go_enter Try.func81, Try.ntmps81
  go_wp2_with (at_make; refine wpList_make_full _ rfl _ _ 28 rfl w.heap.size 3 i0 (.int .i64 0) 1 Try.underlying28 hi hz0 hz1 _ _ _ _ n rfl rfl rfl rfl ?b2 ?b3 ?b4 ?_)
  case b2 => rw [HB.out]; omega
  case b3 => unfold maxLen; omega
  case b4 => exact Nat.le_refl _
  intro w1 hown hgrow
  have hL : Later w w1 := (Below.refl _ _).grown hgrow (Nat.le_refl _) (by simp)
  have hF : Filled w.heap.size 3 w1 (.slice (some ⟨w.heap.size, 0, none⟩) n n) n 0 ((applyW m zs).map (Value.int .i64)) := ⟨_, hown, by simp⟩
  clear hown hgrow
  go_wp2_with fail
  go_loopw [13] (fun i wr => ∃ k : Nat, k ≤ n ∧ i = .int .i64 k ∧ Filled w.heap.size 3 wr (.slice (some ⟨w.heap.size, 0, none⟩) n n) n k ((applyW m zs).map (Value.int .i64)) ∧ Later w wr)
    (fun i _ => n - (intOf i).toNat)
  case atStart => exact ⟨0, Nat.zero_le _, rfl, hF, hL⟩
  case round =>
    clear hF hL
    obtain ⟨k, hk, rfl, hFk, hLk⟩ := hrel
    by_cases hlt : k < n
    · obtain ⟨ad, cap', ar, cr, hv, hcr, hir, _⟩ := (HU.out.later hLk).ent hq k hlt
      simp only [Value.slice.injEq, true_and] at hv
      obtain ⟨rfl, rfl⟩ := hv
      have HIR := hid hir
      have HF := hid hFk
      have HL := hid hLk
      clear hir hFk hLk
      go_wp2_with fail
      refine (dot_any _ _ (m.getD k []) zs _ (by rw [hq.2 k hlt, hz]; exact Nat.le_refl _) HIR.out (HV.out.later HL.out)).mono ?_
      rintro e w2 ⟨rfl, hL2⟩
      have hFk2 : Filled w.heap.size 3 w2 (.slice (some ⟨w.heap.size, 0, none⟩) n n) n k ((applyW m zs).map (Value.int .i64)) := HF.out.keep fun b hb => by
        simp [Value.ownBlock] at hb; subst hb
        have := HF.out.at hlt
        exact hL2.block _ (World.block_lt_of_cell? _ _ this.1.choose_spec)
      obtain ⟨⟨u0, hu0⟩, hfr⟩ := hFk2.at hlt
      have HF' := hid (hFk2.step hlt (u := .int .i64 (dotW (m.getD k []) zs)) (by simp [applyW, hq.1, hlt]))
      have HL' := hid (show Later w (w2.setCell ⟨w.heap.size, k, none⟩ (.int .i64 (dotW (m.getD k []) zs))) from (HL.out.trans hL2).setCell (Nat.le_refl _) _)
      generalize dotW (m.getD k []) zs = y at HF' HL' ⊢
      clear hFk2 hL2 HF HL hcr
      go_wp2_with fail
      go_roundw
      case rel => exact ⟨k + 1, hlt, by go_num, HF'.out, HL'.out⟩
      case measure => simp [intOf]; omega
    · go_wp2_with fail
      go_ret
      have : k = n := by omega
      subst this
      have ho := hFk.full (by rw [List.length_map]; exact HAL.out)
      exact ⟨_, rfl, ⟨by rw [HAL.out]; exact ho, fun b hb => (ho.lt b hb).2⟩, hLk⟩

theorem OwnInts.pushed {lo : Nat} {w1 : World} {v' : Value} {L : List Int} {x : Int} (ho1 : w1.ownsRow lo 3 1 v' (L.length + 1) (L.map (Value.int .i64) ++ [.int .i64 x])) : OwnInts lo w1.heap.size w1 v' (L ++ [x]) :=
  ⟨by simpa using ho1, fun b hb => (ho1.lt b hb).2⟩
theorem OwnInts.empty (lo hi : Nat) (w : World) : OwnInts lo hi w (.slice none 0 0) [] := ⟨World.ownsRow_nil _ _ _ _, fun b hb => by simp [Value.ownBlock] at hb⟩

set_option maxHeartbeats 2000000 in
theorem foApply_any (n : Nat) (m : List (List Int)) (hq : Sq n m) (hn : n ≤ 1048576) (zs : List Int) (hz : zs.length = n) (u v : Value) (w : World) (hu : Rows2 w u m) (hv : Ints w v zs) :
    Calls Try.prog 78 #[.agg #[u], v] w fun e w' => MadeInts w (applyW m zs) e w' := by
  obtain ⟨a, cap, rfl, hl⟩ := hu.sqForm hq
  obtain ⟨vz, capz, rfl, hlz, _⟩ := id hv
  rw [hz] at hlz hv ⊢
  obtain ⟨i0, hi, hz0, hz1, hz2⟩ := info_parts Try.infoInt
  have hA := Later.alloc w (.cells #[Value.slice a n cap] 42)
  have hb0 : (w.alloc (.cells #[Value.slice a n cap] 42)).cell? ⟨w.heap.size, 0, none⟩ = some (.slice a n cap) := by simp [go_sem]
  have HU := hid (hu.later hA)
  have HV := hid (hv.later hA)
  have HA := hid hA
  clear hu hv hA
  have hal : (applyW m zs).length = n := by simp [applyW, hq.1]
  have HAL := hid hal
  have HZ := hid hz
  have HQ := hid hq
  clear hal hz
  go_enter Try.func78, Try.ntmps78
  go_wp2_with fail
  generalize w.alloc (.cells #[Value.slice a n cap] 42) = w1 at hb0 HU HV HA ⊢
  go_loopw [5, 14] (fun o i wr => ∃ (k : Nat), k ≤ n ∧ i = .int .i64 k ∧ OwnInts w1.heap.size wr.heap.size wr o ((applyW m zs).take k) ∧ Later w1 wr) (fun _ i _ => n - (intOf i).toNat)
  case atStart => exact ⟨0, Nat.zero_le _, rfl, OwnInts.empty _ _ _, Later.refl w1⟩
  case round =>
    obtain ⟨k, hk, rfl, hO, hL⟩ := hrel
    by_cases hlt : k < n
    · obtain ⟨ad, cap', ar, cr, hv, hcr, _, hx⟩ := HU.out.ent HQ.out k hlt
      simp only [Value.slice.injEq, true_and] at hv
      obtain ⟨rfl, rfl⟩ := hv
      have hcr2 := hL.cell hcr
      have HX := hid (fun j hj => (hx j hj).imp fun ad2 h => ⟨h.1, hL.cell h.2⟩ : ∀ j, j < n → ∃ ad2, ar = some ad2 ∧ wr.cell? (ad2.add j) = some (.int .i64 (ent m k j)))
      have HVr := hid (HV.out.later hL)
      obtain ⟨P, hP⟩ : ∃ P : List Int, P = (applyW m zs).take k := ⟨_, rfl⟩
      rw [← hP] at hO
      have HP0 := hid hP
      clear hP
      have HO := hid hO
      have HL := hid hL
      have hss := hL.size
      clear hx hO hL hcr
      go_wp2_with fail
      go_loop [8, 20] (fun s y => ∃ j : Nat, j ≤ n ∧ y = .int .i64 j ∧ s = .int .i64 (wsum (fun i => wrap64 ((m.getD k []).getD i 0 * zs.getD i 0)) j)) (fun _ y => n - (intOf y).toNat)
      case atStart => exact ⟨0, Nat.zero_le _, rfl, rfl⟩
      case round =>
        obtain ⟨j, hj, rfl, rfl⟩ := hrel
        by_cases hjt : j < n
        · obtain ⟨ad2, rfl, hc2⟩ := HX.out j hjt
          obtain ⟨vz', capz', e1, _, hvc⟩ := HVr.out
          rw [HZ.out] at e1 hvc
          simp only [Value.slice.injEq, true_and] at e1
          obtain ⟨rfl, rfl⟩ := e1
          obtain ⟨ad3, rfl, hc3⟩ := hvc j hjt
          have hj2 : (j : Int) < (n : Int) := by omega
          have hw := hid (wsum_succ (fun i => wrap64 ((m.getD k []).getD i 0 * zs.getD i 0)) j)
          have hc2' : wr.cell? (ad2.add j) = some (.int .i64 ((m.getD k []).getD j 0)) := hc2
          generalize (m.getD k []).getD j 0 = x at hw hc2'
          generalize zs.getD j 0 = y at hw hc3
          generalize wsum (fun i => wrap64 ((m.getD k []).getD i 0 * zs.getD i 0)) j = s at hw ⊢
          clear hc2 hvc hcr2
          go_wp2_with fail
          go_round
          case rel => exact ⟨j + 1, hjt, by go_num, by rw [hw.out]⟩
          case measure => simp [intOf]; omega
        · have hjn : j = n := by omega
          subst hjn
          have HD := hid (show wsum (fun i => wrap64 ((m.getD k []).getD i 0 * zs.getD i 0)) j = dotW (m.getD k []) zs by unfold dotW; rw [HQ.out.2 k hlt])
          generalize wsum (fun i => wrap64 ((m.getD k []).getD i 0 * zs.getD i 0)) j = s at HD ⊢
          have hlk : P.length = k := by rw [HP0.out, List.length_take, HAL.out]; omega
          have ho := hid ((HO.out.1.alloc (.cells #[Value.int .i64 s] 3)))
          have hLk : P.length ≤ 1048576 := by omega
          have HOB := hid (fun b (hb : _ = some b) => (HO.out.1.lt b hb).1)
          clear hlk hcr2
          go_wp2_with (at_builtin; refine wpList_append_lies _ (by rfl) _ _ _ (by rfl) w1.heap.size 3 i0 (.int .i64 0) 1 8 Try.underlying28 hi hz0 hz1 hz2 rfl (by omega) _ P.length (P.map (Value.int .i64)) (by rfl) (by exact ho.out) ⟨wr.heap.size, 0, none⟩ 1 1 [.int .i64 s] (by rfl) (by rfl) (World.news_of_block (cs := #[.int .i64 s]) (t := 3) (fr := (0, 0)) (heap_alloc_new wr _)) (by simp [Value.oneCell']) (by omega) (by unfold maxLen; omega) (by omega) (by simp; omega) (wr.heap.size + 1) (by simp) ?_)
          intro g cap1 w2 hown1 hgrow hat hglt
          have HP := hid (OwnInts.pushed hown1)
          have HLn := hid (show Later w1 w2 from (HL.out.trans (Later.alloc wr (.cells #[Value.int .i64 s] 3))).grown hgrow (by simp; omega) (fun b hb => HOB.out b hb))
          clear hown1 hgrow
          go_wp2_with fail
          go_roundw
          case rel => exact ⟨k + 1, hlt, by go_num, by
              rw [take_snoc _ k (by rw [HAL.out]; exact hlt)]
              have e : (applyW m zs)[k]'(by rw [HAL.out]; exact hlt) = s := by rw [HD.out]; simp [applyW, HQ.out.1, hlt]
              rw [e, ← HP0.out]; exact HP.out, HLn.out⟩
          case measure => simp [intOf]; omega
    · have hkn : k = n := by omega
      subst hkn
      have hs := HA.out.size
      go_wp2_with fail
      go_ret
      rw [List.take_of_length_le (by rw [HAL.out]; exact Nat.le_refl _)] at hO
      exact ⟨_, rfl, hO.wide hs (Nat.le_refl _), HA.out.trans hL⟩
end Go.Proofs.Ytmlnpnglafipbab
