/- Right triples in the model: triples of words; children and triples of words in both trees (the program). -/
import Derived.Test.YtdahhcigphhfdacRiH
namespace Go.Proofs.Ytdahhcigphhfdac
open Go.RowKit

theorem riWord_as (v : Value) (zs : List Int) (o : Bool) (w : World) (ho : wordR zs 3 = o) (h : Ints w v zs) :
    Calls Try.prog 100 #[v] w fun e w' => e = .returned (.bool o) ∧ w = w' := by
  subst ho
  obtain ⟨a, cap, rfl, hl, _⟩ := id h
  by_cases h40 : zs.length ≤ 40
  · have HA := hid (show wordR zs 3 = zs.all (within 0 2) by unfold wordR; rw [decide_eq_true h40]; rfl)
    have H := hid h
    have h40i : (zs.length : Int) ≤ 40 := by omega
    rw [HA.out]
    clear h
    go_enter Try.func100, Try.ntmps100
    go_wp2_with (go_at_call 103; refine (l1All_any _ zs 0 2 _ H.out).mono ?_; rintro e w1 ⟨rfl, rfl⟩)
    go_ret
    exact ⟨rfl, rfl⟩
  · have HA := hid (show wordR zs 3 = false by unfold wordR; rw [decide_eq_false h40]; rfl)
    have h40i : ¬ (zs.length : Int) ≤ 40 := by omega
    have hd : decide ((zs.length : Int) ≤ 40) = false := decide_eq_false h40i
    rw [HA.out]
    go_enter Try.func100, Try.ntmps100
    go_wp2_with fail
    go_ret
    first | exact ⟨rfl, rfl⟩ | exact ⟨ret_bool hd, rfl⟩

set_option maxHeartbeats 2000000 in
theorem specRightByBerg_any (v : Value) (zs : List Int) (w : World) (h : Ints w v zs) :
    Calls Try.prog 47 #[v] w fun e w' => IntsAns w (byWordAns bergC zs) e w' := by
  have H := hid h
  obtain ⟨a, cap, rfl, hl, hc⟩ := id h
  cases hw : wordR zs 3
  · have HW := hid hw
    have HA := hid (show byWordAns bergC zs = none by unfold byWordAns; rw [hw]; simp)
    clear hw h hc
    go_enter Try.func47, Try.ntmps47
    go_wp2_with (go_at_call 100; refine (riWord_as _ zs _ _ HW.out H.out).mono ?_; rintro e w1 ⟨rfl, rfl⟩)
    go_ret2
    rw [HA.out]
    exact ⟨_, rfl, ⟨World.ownsRow_nil _ _ _ _, fun b hb => by simp [Value.ownBlock] at hb⟩, Later.refl _⟩
  · have HW := hid hw
    have HA := hid (show byWordAns bergC zs = (foldP bergC zs 2 1).map fun p => sidesL p.1 p.2 by unfold byWordAns; rw [if_pos hw])
    obtain ⟨F, hF⟩ : ∃ F, foldP bergC zs 2 1 = F := ⟨_, rfl⟩
    rw [hF] at HA
    have HF := hid hF
    have HC := hid hc
    clear hw hF h hc
    go_enter Try.func47, Try.ntmps47
    go_wp2_with (go_at_call 100; refine (riWord_as _ zs _ _ HW.out H.out).mono ?_; rintro e w1 ⟨rfl, rfl⟩)
    go_loop [4, 5, 13] (fun o4 o5 o13 => ∃ (k : Nat) (x y : Int), k ≤ zs.length ∧ o13 = .int .i64 k ∧ o4 = .int .i64 x ∧ o5 = .int .i64 y ∧ Pair x y ∧ foldP bergC (zs.drop k) x y = F) (fun _ _ o13 => zs.length - (intOf o13).toNat)
    case atStart => exact ⟨0, 2, 1, Nat.zero_le _, rfl, rfl, rfl, pair21, HF.out⟩
    case round =>
      obtain ⟨k, x, y, hk, rfl, rfl, rfl, hp, hf⟩ := hrel
      have HP := hid hp
      by_cases hlt : k < zs.length
      · obtain ⟨ad, rfl, hcell⟩ := HC.out k hlt
        have hstep := foldP_drop bergC zs k x y hlt
        rw [hf] at hstep
        obtain ⟨z, hzz⟩ : ∃ z, zs.getD k 0 = z := ⟨_, rfl⟩
        rw [hzz] at hcell hstep
        have HX := hid (fun w0 => riBerg_any x y z w0 (by have := hp.h1; have := hp.h2; have := hp.h7; omega) (by have := hp.h1; have := hp.h2; have := hp.h7; omega))
        obtain ⟨x', hx'⟩ : ∃ q, (bergC x y z).1 = q := ⟨_, rfl⟩
        obtain ⟨y', hy'⟩ : ∃ q, (bergC x y z).2 = q := ⟨_, rfl⟩
        rw [hx', hy'] at hstep HX
        have HPR := hid (fun w0 => riPair_any x' y' w0)
        cases hp' : pairB x' y'
        · rw [hp'] at HPR hstep
          have HFN := hid (show F = none by rw [hstep]; simp)
          clear hf hp hzz hx' hy' hstep hp'
          go_wp2_with (first | (go_at_call 78; refine (HX.out _).mono ?_; rintro e w3 ⟨rfl, rfl⟩) | (go_at_call 101; refine (HPR.out _).mono ?_; rintro e w4 ⟨rfl, rfl⟩))
          go_ret2
          rw [HA.out, HFN.out]
          exact ⟨_, rfl, ⟨World.ownsRow_nil _ _ _ _, fun b hb => by simp [Value.ownBlock] at hb⟩, Later.refl _⟩
        · have HPN := hid (pairB_iff.1 hp')
          rw [hp'] at HPR hstep
          have HFN := hid (show foldP bergC (zs.drop (k + 1)) x' y' = F by rw [hstep]; simp)
          clear hf hp hzz hx' hy' hstep hp'
          go_wp2_with (first | (go_at_call 78; refine (HX.out _).mono ?_; rintro e w3 ⟨rfl, rfl⟩) | (go_at_call 101; refine (HPR.out _).mono ?_; rintro e w4 ⟨rfl, rfl⟩))
          go_round
          case rel => exact ⟨k + 1, x', y', hlt, by go_num, rfl, rfl, HPN.out, HFN.out⟩
          case measure => simp [intOf]; omega
      · obtain rfl : k = zs.length := by omega
        have HF2 := hid (show F = some (x, y) by rw [← hf, List.drop_of_length_le (Nat.le_refl _)]; rfl)
        have HO := hid (fun w0 => riOf_any x y hp w0)
        clear hf hp
        go_wp2_with (go_at_call 93; refine (HO.out _).mono ?_; rintro e w2 ⟨v2, rfl, ho, hL⟩; have HO2 := hid ho; have HL2 := hid hL; clear ho hL)
        go_ret2
        rw [HA.out, HF2.out]
        exact ⟨_, rfl, HO2.out, HL2.out⟩

set_option maxRecDepth 20000 in
theorem implRightByBerg_any (v : Value) (zs : List Int) (w : World) (h : Ints w v zs) : Calls Try.prog 46 #[v] w fun e w' => IntsAns w (byWordAns bergC zs) e w' := by
  have H := hid h
  obtain ⟨V, hV⟩ : ∃ V, Value.agg (tree3 (bergT 0) (bergT 1) (bergT 2)).toArray = V := ⟨_, rfl⟩
  have HT := hid (fun w0 => bergTree_any w0)
  have HP := hid (fun w0 h0 => follow_any treeBerg v zs w0 h0)
  rw [hV] at HT HP
  clear h hV
  go_enter Try.func46, Try.ntmps46
  go_wp2_with fail
  refine (HT.out _).mono ?_
  rintro e w1 ⟨rfl, hL1⟩
  have HL1 := hid hL1
  have H1 := hid (H.out.later hL1)
  clear hL1
  go_wp2_with fail
  refine (HP.out _ H1.out).mono ?_
  rintro e w2 ⟨v2, rfl, ho, hL⟩
  have HO2 := hid ho
  have HL2 := hid (HL1.out.trans hL)
  clear ho hL
  go_wp2_with fail
  go_ret2
  exact ⟨_, rfl, HO2.out.wide HL1.out.size (Nat.le_refl _), HL2.out⟩
set_option maxRecDepth 20000 in
theorem implBergChild_any (v : Value) (zs : List Int) (k : Int) (w : World) (h : Ints w v zs) : Calls Try.prog 23 #[v, .int .i64 k] w fun e w' => IntsAns w (childAns bergC zs k) e w' := by
  have H := hid h
  obtain ⟨V, hV⟩ : ∃ V, Value.agg (tree3 (bergT 0) (bergT 1) (bergT 2)).toArray = V := ⟨_, rfl⟩
  have HT := hid (fun w0 => bergTree_any w0)
  have HP := hid (fun w0 h0 => childOf_any treeBerg v zs k w0 h0)
  rw [hV] at HT HP
  clear h hV
  go_enter Try.func23, Try.ntmps23
  go_wp2_with fail
  refine (HT.out _).mono ?_
  rintro e w1 ⟨rfl, hL1⟩
  have HL1 := hid hL1
  have H1 := hid (H.out.later hL1)
  clear hL1
  go_wp2_with fail
  refine (HP.out _ H1.out).mono ?_
  rintro e w2 ⟨v2, rfl, ho, hL⟩
  have HO2 := hid ho
  have HL2 := hid (HL1.out.trans hL)
  clear ho hL
  go_wp2_with fail
  go_ret2
  exact ⟨_, rfl, HO2.out.wide HL1.out.size (Nat.le_refl _), HL2.out⟩

set_option maxHeartbeats 2000000 in
theorem specRightByPrice_any (v : Value) (zs : List Int) (w : World) (h : Ints w v zs) :
    Calls Try.prog 49 #[v] w fun e w' => IntsAns w (byWordAns priceC zs) e w' := by
  have H := hid h
  obtain ⟨a, cap, rfl, hl, hc⟩ := id h
  cases hw : wordR zs 3
  · have HW := hid hw
    have HA := hid (show byWordAns priceC zs = none by unfold byWordAns; rw [hw]; simp)
    clear hw h hc
    go_enter Try.func49, Try.ntmps49
    go_wp2_with (go_at_call 100; refine (riWord_as _ zs _ _ HW.out H.out).mono ?_; rintro e w1 ⟨rfl, rfl⟩)
    go_ret2
    rw [HA.out]
    exact ⟨_, rfl, ⟨World.ownsRow_nil _ _ _ _, fun b hb => by simp [Value.ownBlock] at hb⟩, Later.refl _⟩
  · have HW := hid hw
    have HA := hid (show byWordAns priceC zs = (foldP priceC zs 2 1).map fun p => sidesL p.1 p.2 by unfold byWordAns; rw [if_pos hw])
    obtain ⟨F, hF⟩ : ∃ F, foldP priceC zs 2 1 = F := ⟨_, rfl⟩
    rw [hF] at HA
    have HF := hid hF
    have HC := hid hc
    clear hw hF h hc
    go_enter Try.func49, Try.ntmps49
    go_wp2_with (go_at_call 100; refine (riWord_as _ zs _ _ HW.out H.out).mono ?_; rintro e w1 ⟨rfl, rfl⟩)
    go_loop [4, 5, 13] (fun o4 o5 o13 => ∃ (k : Nat) (x y : Int), k ≤ zs.length ∧ o13 = .int .i64 k ∧ o4 = .int .i64 x ∧ o5 = .int .i64 y ∧ Pair x y ∧ foldP priceC (zs.drop k) x y = F) (fun _ _ o13 => zs.length - (intOf o13).toNat)
    case atStart => exact ⟨0, 2, 1, Nat.zero_le _, rfl, rfl, rfl, pair21, HF.out⟩
    case round =>
      obtain ⟨k, x, y, hk, rfl, rfl, rfl, hp, hf⟩ := hrel
      have HP := hid hp
      by_cases hlt : k < zs.length
      · obtain ⟨ad, rfl, hcell⟩ := HC.out k hlt
        have hstep := foldP_drop priceC zs k x y hlt
        rw [hf] at hstep
        obtain ⟨z, hzz⟩ : ∃ z, zs.getD k 0 = z := ⟨_, rfl⟩
        rw [hzz] at hcell hstep
        have HX := hid (fun w0 => riPrice_any x y z w0 (by have := hp.h1; have := hp.h2; have := hp.h7; omega) (by have := hp.h1; have := hp.h2; have := hp.h7; omega))
        obtain ⟨x', hx'⟩ : ∃ q, (priceC x y z).1 = q := ⟨_, rfl⟩
        obtain ⟨y', hy'⟩ : ∃ q, (priceC x y z).2 = q := ⟨_, rfl⟩
        rw [hx', hy'] at hstep HX
        have HPR := hid (fun w0 => riPair_any x' y' w0)
        cases hp' : pairB x' y'
        · rw [hp'] at HPR hstep
          have HFN := hid (show F = none by rw [hstep]; simp)
          clear hf hp hzz hx' hy' hstep hp'
          go_wp2_with (first | (go_at_call 95; refine (HX.out _).mono ?_; rintro e w3 ⟨rfl, rfl⟩) | (go_at_call 101; refine (HPR.out _).mono ?_; rintro e w4 ⟨rfl, rfl⟩))
          go_ret2
          rw [HA.out, HFN.out]
          exact ⟨_, rfl, ⟨World.ownsRow_nil _ _ _ _, fun b hb => by simp [Value.ownBlock] at hb⟩, Later.refl _⟩
        · have HPN := hid (pairB_iff.1 hp')
          rw [hp'] at HPR hstep
          have HFN := hid (show foldP priceC (zs.drop (k + 1)) x' y' = F by rw [hstep]; simp)
          clear hf hp hzz hx' hy' hstep hp'
          go_wp2_with (first | (go_at_call 95; refine (HX.out _).mono ?_; rintro e w3 ⟨rfl, rfl⟩) | (go_at_call 101; refine (HPR.out _).mono ?_; rintro e w4 ⟨rfl, rfl⟩))
          go_round
          case rel => exact ⟨k + 1, x', y', hlt, by go_num, rfl, rfl, HPN.out, HFN.out⟩
          case measure => simp [intOf]; omega
      · obtain rfl : k = zs.length := by omega
        have HF2 := hid (show F = some (x, y) by rw [← hf, List.drop_of_length_le (Nat.le_refl _)]; rfl)
        have HO := hid (fun w0 => riOf_any x y hp w0)
        clear hf hp
        go_wp2_with (go_at_call 93; refine (HO.out _).mono ?_; rintro e w2 ⟨v2, rfl, ho, hL⟩; have HO2 := hid ho; have HL2 := hid hL; clear ho hL)
        go_ret2
        rw [HA.out, HF2.out]
        exact ⟨_, rfl, HO2.out, HL2.out⟩

set_option maxRecDepth 20000 in
theorem implRightByPrice_any (v : Value) (zs : List Int) (w : World) (h : Ints w v zs) : Calls Try.prog 48 #[v] w fun e w' => IntsAns w (byWordAns priceC zs) e w' := by
  have H := hid h
  obtain ⟨V, hV⟩ : ∃ V, Value.agg (tree3 (priceT 0) (priceT 1) (priceT 2)).toArray = V := ⟨_, rfl⟩
  have HT := hid (fun w0 => priceTree_any w0)
  have HP := hid (fun w0 h0 => follow_any treePrice v zs w0 h0)
  rw [hV] at HT HP
  clear h hV
  go_enter Try.func48, Try.ntmps48
  go_wp2_with fail
  refine (HT.out _).mono ?_
  rintro e w1 ⟨rfl, hL1⟩
  have HL1 := hid hL1
  have H1 := hid (H.out.later hL1)
  clear hL1
  go_wp2_with fail
  refine (HP.out _ H1.out).mono ?_
  rintro e w2 ⟨v2, rfl, ho, hL⟩
  have HO2 := hid ho
  have HL2 := hid (HL1.out.trans hL)
  clear ho hL
  go_wp2_with fail
  go_ret2
  exact ⟨_, rfl, HO2.out.wide HL1.out.size (Nat.le_refl _), HL2.out⟩
set_option maxRecDepth 20000 in
theorem implPriceChild_any (v : Value) (zs : List Int) (k : Int) (w : World) (h : Ints w v zs) : Calls Try.prog 36 #[v, .int .i64 k] w fun e w' => IntsAns w (childAns priceC zs k) e w' := by
  have H := hid h
  obtain ⟨V, hV⟩ : ∃ V, Value.agg (tree3 (priceT 0) (priceT 1) (priceT 2)).toArray = V := ⟨_, rfl⟩
  have HT := hid (fun w0 => priceTree_any w0)
  have HP := hid (fun w0 h0 => childOf_any treePrice v zs k w0 h0)
  rw [hV] at HT HP
  clear h hV
  go_enter Try.func36, Try.ntmps36
  go_wp2_with fail
  refine (HT.out _).mono ?_
  rintro e w1 ⟨rfl, hL1⟩
  have HL1 := hid hL1
  have H1 := hid (H.out.later hL1)
  clear hL1
  go_wp2_with fail
  refine (HP.out _ H1.out).mono ?_
  rintro e w2 ⟨v2, rfl, ho, hL⟩
  have HO2 := hid ho
  have HL2 := hid (HL1.out.trans hL)
  clear ho hL
  go_wp2_with fail
  go_ret2
  exact ⟨_, rfl, HO2.out.wide HL1.out.size (Nat.le_refl _), HL2.out⟩
end Go.Proofs.Ytdahhcigphhfdac
