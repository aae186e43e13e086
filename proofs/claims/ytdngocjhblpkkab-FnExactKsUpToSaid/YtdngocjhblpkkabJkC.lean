/- Which k there is a pair for (the model): KsUpTo. -/
import Derived.Test.YtdngocjhblpkkabJkA
import Derived.Test.YtdngocjhblpkkabJuU
namespace Go.Proofs.Ytdngocjhblpkkab
open Go.RowKit

theorem kOf_zero (x c : Int) : kOf x 0 c = none := if_neg (by omega)
theorem ksL_row1 (c : Int) (n : Nat) : ksL c (gridJ n ++ rowJ n 1) = ksL c (gridJ n) := by
  rw [show rowJ n 1 = [] ++ [((n : Int), ((0 : Nat) : Int))] from rfl, List.nil_append, ksL_snoc]
  rw [show kOf ((n : Int), ((0 : Nat) : Int)).1 ((n : Int), ((0 : Nat) : Int)).2 c = none from kOf_zero _ _]
  simp
theorem ksL_grid1 (c : Int) : ksL c (gridJ 1) = [] := by
  have : gridJ 1 = gridJ 0 ++ rowJ 0 1 := by rw [gridJ_succ]
  rw [this, ksL_row1]
  rfl
/-- What the model's list holds behind so many pairs. -/
def KsIn (c : Int) (L : List Jp2) (M : List Int) : Prop := RisingI M ∧ (∀ z, z ∈ M ↔ z ∈ ksL c L) ∧ M.length ≤ L.length
theorem KsIn.skip {c : Int} {L : List Jp2} {M : List Int} {p : Jp2} (h : KsIn c L M) (hk : kOf p.1 p.2 c = none) : KsIn c (L ++ [p]) M := by
  obtain ⟨h1, h2, h3⟩ := h
  refine ⟨h1, fun z => ?_, by simp; omega⟩
  rw [ksL_snoc, hk, h2]
  simp
theorem putZ_len (L : List Int) (x : Int) : (putZ L x).length ≤ L.length + 1 := by
  unfold putZ
  split
  · omega
  · have := putZk_le L x
    simp
    omega
theorem KsIn.put {c : Int} {L : List Jp2} {M : List Int} {p : Jp2} {k : Int} (h : KsIn c L M) (hk : kOf p.1 p.2 c = some k) : KsIn c (L ++ [p]) (putZ M k) := by
  obtain ⟨h1, h2, h3⟩ := h
  refine ⟨putZ_rising h1, fun z => ?_, ?_⟩
  · rw [ksL_snoc, hk, putZ_mem, h2]
    simp
  · have := putZ_len M k
    simp
    omega
theorem KsIn.done {c : Int} {n : Nat} {M : List Int} (h : KsIn c (gridJ n) M) : M = ksSet c n :=
  risingI_unique _ _ h.1 (ksSet_rising c n) fun z => by rw [h.2.1, ksSet_mem]
theorem kGiven1 (c m : Int) : puOk 1 c m = decide ((-1000 ≤ c ∧ c ≤ 1000) ∧ 0 ≤ m ∧ m ≤ 200) := by
  rw [Bool.eq_iff_iff, puOk_iff, juW_iff, decide_eq_true_iff]
  omega
set_option maxRecDepth 20000 in
set_option maxHeartbeats 4000000 in
theorem specKsUpTo_any (c m : Int) (w : World) :
    Calls Try.prog 25 #[.int .i64 c, .int .i64 m] w fun e w' => IntsAns w (ksAns c m) e w' := by
  cases hP : puOk 1 c m
  · have HP := hid hP
    have HA := hid (show ksAns c m = none from if_neg (by rw [kGiven1] at hP; exact of_decide_eq_false hP))
    rw [HA.out]
    clear hP HA
    go_enter Try.func25, Try.ntmps25
    go_wp2_with (go_at_call 43; refine (juTask_as _ _ _ _ _ HP.out).mono ?_; rintro e w2 ⟨rfl, rfl⟩)
    go_ret2
    exact ⟨_, rfl, ⟨World.ownsRow_nil _ _ _ _, fun b hb => by simp [Value.ownBlock] at hb⟩, Later.refl _⟩
  · have HP := hid hP
    have hcm := of_decide_eq_true ((kGiven1 c m).symm.trans hP)
    have HA := hid (show ksAns c m = some (ksSet c (m.toNat + 1)) from if_pos hcm)
    obtain ⟨N, rfl⟩ : ∃ n : Nat, m = (n : Int) := ⟨m.toNat, by omega⟩
    rw [Int.toNat_natCast] at HA
    have hN : N ≤ 200 := by omega
    obtain ⟨K, hK⟩ : ∃ K, ksSet c (N + 1) = K := ⟨_, rfl⟩
    have HK := hid hK
    rw [hK] at HA
    rw [HA.out]
    clear hP hK HA hcm
    go_enter Try.func25, Try.ntmps25
    go_wp2_with (go_at_call 43; refine (juTask_as _ _ _ _ _ HP.out).mono ?_; rintro e w2 ⟨rfl, rfl⟩)
    go_loopw [6, 7] (fun o i wr => ∃ (x : Nat) (M : List Int), 1 ≤ x ∧ x ≤ N + 1 ∧ i = .int .i64 x ∧ KsIn c (gridJ x) M ∧ wr.ownsRow w.heap.size 3 1 o M.length (M.map (Value.int .i64)) ∧ Later w wr) (fun _ i _ => N + 1 - (intOf i).toNat)
    case atStart => exact ⟨1, [], Nat.le_refl _, by omega, rfl, ⟨List.Pairwise.nil, fun z => by rw [ksL_grid1], Nat.zero_le _⟩, World.ownsRow_nil _ _ _ _, Later.refl _⟩
    case round =>
      obtain ⟨x, M, hx1, hx, rfl, hI, hO, hL⟩ := hrel
      have HI := hid hI
      have HO := hid hO
      have HL := hid hL
      obtain ⟨o1, o2, rfl, _⟩ := ownsInt_shape hO
      clear hO hL hI
      by_cases hlt : x < N + 1
      · have hlI : (x : Int) ≤ (N : Int) := by omega
        go_wp2_with fail
        go_loopw [6, 8] (fun o j wi => ∃ (y : Nat) (M : List Int), 1 ≤ y ∧ y ≤ x + 1 ∧ j = .int .i64 y ∧ KsIn c (gridJ x ++ rowJ x y) M ∧ wi.ownsRow w.heap.size 3 1 o M.length (M.map (Value.int .i64)) ∧ Later w wi) (fun _ j _ => x + 1 - (intOf j).toNat)
        case atStart => exact ⟨1, M, Nat.le_refl _, by omega, rfl, ⟨HI.out.1, fun z => by rw [ksL_row1]; exact HI.out.2.1 z, by have := HI.out.2.2; simp; omega⟩, HO.out, HL.out⟩
        case round =>
          clear HO HL HI
          obtain ⟨y, M, hy1, hy, rfl, hI, hO, hL⟩ := hrel
          have HI := hid hI
          have HO := hid hO
          have HL := hid hL
          have HROW := hid (show gridJ x ++ rowJ x (y + 1) = gridJ x ++ rowJ x y ++ [((x : Int), (y : Int))] by rw [rowJ_succ, List.append_assoc])
          have HSL := hid (show M.length ≤ 100000 from Nat.le_trans hI.2.2 (seenJ_len (n := x) (m := y) (by omega) (by omega)))
          obtain ⟨o1, o2, rfl, _⟩ := ownsInt_shape hO
          have HKP := hid (fun w0 => specKOfPair_any x y c w0)
          clear hO hL hI
          by_cases hyl : y < x + 1
          · have hyI : (y : Int) ≤ (x : Int) := by omega
            cases hk : kOf (x : Int) (y : Int) c with
            | none =>
              have HE := hid (show KsIn c (gridJ x ++ rowJ x (y + 1)) M by rw [HROW.out]; exact HI.out.skip hk)
              rw [hk] at HKP
              clear hk
              go_wp2_with (go_at_call 52; refine (HKP.out _).mono ?_; rintro e w2 ⟨rfl, rfl⟩; simp only [Option.getD_none, Option.isSome_none])
              go_roundw
              case rel => exact ⟨y + 1, M, by omega, hyl, by go_num, HE.out, HO.out, HL.out⟩
              case measure => simp [intOf]; omega
            | some k =>
              have HE := hid (show KsIn c (gridJ x ++ rowJ x (y + 1)) (putZ M k) by rw [HROW.out]; exact HI.out.put hk)
              rw [hk] at HKP
              have HPT := hid (l1Put_any w.heap.size (.slice o1 M.length o2) M k wr HL.out.size (by have := HSL.out; omega) HO.out)
              clear hk
              go_wp2_with (first | (go_at_call 52; refine (HKP.out _).mono ?_; rintro e w2 ⟨rfl, rfl⟩; simp only [Option.getD_some, Option.isSome_some]) | (go_at_call 53; refine HPT.out.mono ?_; rintro e w2 ⟨v2, rfl, ho2, hL2⟩; have HO2 := hid ho2; have HL2 := hid (HL.out.trans hL2); clear ho2 hL2))
              go_roundw
              case rel => exact ⟨y + 1, putZ M k, by omega, hyl, by go_num, HE.out, HO2.out, HL2.out⟩
              case measure => simp [intOf]; omega
          · obtain rfl : y = x + 1 := by omega
            have hyI : ¬ ((x + 1 : Nat) : Int) ≤ (x : Int) := by omega
            go_wp2_with fail
            go_roundw
            case rel => exact ⟨x + 1, M, by omega, hlt, by go_num, by rw [gridJ_succ]; exact HI.out, HO.out, HL.out⟩
            case measure => simp [intOf]; omega
      · obtain rfl : x = N + 1 := by omega
        have hlI : ¬ ((N + 1 : Nat) : Int) ≤ (N : Int) := by omega
        have HE := hid (show M = K by rw [← HK.out]; exact HI.out.done)
        go_wp2_with fail
        go_ret2
        rw [← HE.out]
        exact ⟨_, rfl, ⟨HO.out, fun b hb => (HO.out.lt b hb).2⟩, HL.out⟩
end Go.Proofs.Ytdngocjhblpkkab
