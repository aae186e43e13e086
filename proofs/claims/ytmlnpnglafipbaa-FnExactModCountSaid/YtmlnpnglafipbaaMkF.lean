/- The model's ModCount. -/
import Derived.Test.YtmlnpnglafipbaaMkE
namespace Go.Proofs.Ytmlnpnglafipbaa
open Go.RowKit

set_option maxRecDepth 20000 in
set_option maxHeartbeats 4000000 in
theorem specModCount_any (p : Int) (w : World) :
    Calls Try.prog 36 #[.int .i64 p] w fun e w' => NumAns w (modCountAns p) e w' := by
  cases hp : prime13 p
  · have HA := hid (show modCountAns p = none by unfold modCountAns; rw [if_neg (by rw [hp]; simp)])
    have HP := hid hp
    clear hp
    go_enter Try.func36, Try.ntmps36
    go_wp2_with fail
    refine (mkPrime_as p false _ HP.out).mono ?_
    rintro e w' ⟨rfl, hL⟩
    have HL := hid hL
    clear hL
    go_wp2_with fail
    go_ret2
    exact ⟨by rw [HA.out]; rfl, HL.out⟩
  · obtain ⟨P, rfl, hP2, hP13⟩ := prime13_nat hp
    have HP := hid hp
    have HA := hid (show modCountAns (P : Int) = some (cntM P (P * P * P) : Int) by unfold modCountAns; rw [if_pos hp, Int.toNat_natCast])
    clear hp
    obtain ⟨b1, b2⟩ := cube_le hP13
    go_enter Try.func36, Try.ntmps36
    go_wp2_with fail
    refine (mkPrime_as (P : Int) true _ HP.out).mono ?_
    rintro e w1 ⟨rfl, hL⟩
    have HL1 := hid hL
    clear hL
    go_wp2_with fail
    go_loopw [4, 5] (fun n x wr => ∃ X : Nat, X ≤ P ∧ x = .int .i64 X ∧ n = .int .i64 (cntM P (X * P * P) : Nat) ∧ Later w wr) (fun _ x _ => P - (intOf x).toNat)
    case atStart => exact ⟨0, Nat.zero_le _, rfl, by rw [Nat.zero_mul, Nat.zero_mul]; rfl, HL1.out⟩
    case round =>
      clear HL1
      obtain ⟨X, hX, rfl, rfl, hL⟩ := hrel
      have HLX := hid hL
      clear hL
      by_cases hXt : X < P
      · go_wp2_with fail
        go_loopw [4, 6] (fun n x wr => ∃ Y : Nat, Y ≤ P ∧ x = .int .i64 Y ∧ n = .int .i64 (cntM P ((X * P + Y) * P) : Nat) ∧ Later w wr) (fun _ x _ => P - (intOf x).toNat)
        case atStart => exact ⟨0, Nat.zero_le _, rfl, rfl, HLX.out⟩
        case round =>
          clear HLX
          obtain ⟨Y, hY, rfl, rfl, hL⟩ := hrel
          have HLY := hid hL
          clear hL
          by_cases hYt : Y < P
          · go_wp2_with fail
            go_loopw [4, 7] (fun n x wr => ∃ Z : Nat, Z ≤ P ∧ x = .int .i64 Z ∧ n = .int .i64 (cntM P ((X * P + Y) * P + Z) : Nat) ∧ Later w wr) (fun _ x _ => P - (intOf x).toNat)
            case atStart => exact ⟨0, Nat.zero_le _, rfl, rfl, HLY.out⟩
            case round =>
              clear HLY
              obtain ⟨Z, hZ, rfl, rfl, hL⟩ := hrel
              have HL := hid hL
              clear hL
              by_cases hZt : Z < P
              · have hcn := cntM_le P ((X * P + Y) * P + Z)
                have hbn : (X * P + Y) * P + Z ≤ 2197 := by
                  have h1 : X * P + Y + 1 ≤ P * P := by
                    have : (X + 1) * P ≤ P * P := Nat.mul_le_mul_right P hXt
                    rw [Nat.succ_mul] at this
                    omega
                  have h2 := Nat.mul_le_mul_right P h1
                  rw [Nat.succ_mul] at h2
                  omega
                obtain ⟨d1, d2, d3⟩ := digits (X := X) hYt hZt
                have HMA := hid (show modT (P : Int) (X : Int) (Y : Int) (Z : Int) = modAt P ((X * P + Y) * P + Z) by unfold modAt; rw [d1, d2, d3])
                have HD := hid (show [(X : Int), (Y : Int), (Z : Int)].all (within 0 ((P : Int) - 1)) = true by simp [within]; omega)
                have HO := hid (ownsThree wr (X : Int) (Y : Int) (Z : Int)).ints
                obtain ⟨C, hC⟩ : ∃ C, (X * P + Y) * P + Z = C := ⟨_, rfl⟩
                have HCC := hid (show (X * P + Y) * P + (Z + 1) = C + 1 by omega)
                rw [hC] at hcn hbn HMA ⊢
                clear hC d1 d2 d3 b1 b2
                cases hm : modAt P C
                · have HC := hid (show cntM P ((X * P + Y) * P + (Z + 1)) = cntM P C by rw [HCC.out, cntM_no hm])
                  have HMT := hid (show modGood (P : Int) [(X : Int), (Y : Int), (Z : Int)] = false by rw [modGood3, HD.out, HMA.out, hm]; rfl)
                  clear hm
                  go_wp2_with fail
                  refine (mkMod_as (P : Int) _ [(X : Int), (Y : Int), (Z : Int)] false _ ⟨by omega, by omega⟩ HMT.out HO.out).mono ?_
                  rintro e w2 ⟨rfl, n2, rfl⟩
                  have HL2 := hid ((HL.out.trans (Later.alloc wr (.cells #[.int .i64 (X : Int), .int .i64 (Y : Int), .int .i64 (Z : Int)] 3))).trans (Later.drewN _ n2))
                  go_wp2_with fail
                  go_roundw
                  case rel => exact ⟨Z + 1, hZt, by go_num, by rw [HC.out], HL2.out⟩
                  case measure => simp [intOf]; omega
                · have HC := hid (show cntM P ((X * P + Y) * P + (Z + 1)) = cntM P C + 1 by rw [HCC.out, cntM_yes hm])
                  have HMT := hid (show modGood (P : Int) [(X : Int), (Y : Int), (Z : Int)] = true by rw [modGood3, HD.out, HMA.out, hm]; rfl)
                  clear hm
                  go_wp2_with fail
                  refine (mkMod_as (P : Int) _ [(X : Int), (Y : Int), (Z : Int)] true _ ⟨by omega, by omega⟩ HMT.out HO.out).mono ?_
                  rintro e w2 ⟨rfl, n2, rfl⟩
                  have HL2 := hid ((HL.out.trans (Later.alloc wr (.cells #[.int .i64 (X : Int), .int .i64 (Y : Int), .int .i64 (Z : Int)] 3))).trans (Later.drewN _ n2))
                  go_wp2_with fail
                  go_roundw
                  case rel => exact ⟨Z + 1, hZt, by go_num, by rw [HC.out]; rfl, HL2.out⟩
                  case measure => simp [intOf]; omega
              · have hZP : Z = P := by omega
                have HZ := hid hZP
                clear hZP b1 b2
                go_wp2_with fail
                go_roundw
                case rel => exact ⟨Y + 1, hYt, by go_num, by rw [HZ.out, show (X * P + (Y + 1)) * P = (X * P + Y) * P + P by rw [← Nat.add_assoc, Nat.succ_mul]], HL.out⟩
                case measure => simp [intOf]; omega
          · have hYP : Y = P := by omega
            have HY := hid hYP
            clear hYP b1 b2
            go_wp2_with fail
            go_roundw
            case rel => exact ⟨X + 1, hXt, by go_num, by rw [HY.out, Nat.succ_mul], HLY.out⟩
            case measure => simp [intOf]; omega
      · have hXP : X = P := by omega
        have HX := hid hXP
        clear hXP b1 b2
        go_wp2_with fail
        go_ret2
        exact ⟨by rw [HA.out, HX.out]; rfl, HLX.out⟩
end Go.Proofs.Ytmlnpnglafipbaa
