/- Where the descent of four squares begins, in both. -/
import Derived.Test.YtofmmegpadojlaaSqEG
namespace Go.Proofs.Ytofmmegpadojlaa
open Go.RowKit

def fourP (p a b : Nat) : Bool := (a * a + b * b + 1) % p == 0
def fB (p a : Nat) : Option Nat := Sq.firstI (fourP p a) (a + 1) 0
def fA (p : Nat) : Option Nat := Sq.firstI (fun a => (fB p a).isSome) (p / 2 + 1) 0
def startL (p : Nat) : List Int := match fA p with
  | none => []
  | some a => [(a : Int), (((fB p a).getD 0 : Nat) : Int), 1, 0]
def fourCheck (p : Nat) : Bool := ((List.range 43).any fun d => decide ((d + 2) * (d + 2) ≤ p) && (p % (d + 2) == 0)) || (fA p).isSome
theorem fourCheck_all : ((List.range 1999).all fun p => fourCheck (p + 2)) = true := by decide +kernel
theorem fA_some {p : Nat} (hp : Sq.Prim p) (h : p ≤ 2000) : (fA p).isSome = true := by
  have h2 := hp.1
  have h1 := (List.all_eq_true.1 fourCheck_all) (p - 2) (List.mem_range.2 (by omega))
  rw [show p - 2 + 2 = p by omega] at h1
  unfold fourCheck at h1
  rw [Bool.or_eq_true] at h1
  rcases h1 with h1 | h1
  · rw [List.any_eq_true] at h1
    obtain ⟨d, _, hd⟩ := h1
    simp only [Bool.and_eq_true, decide_eq_true_eq, beq_iff_eq] at hd
    have := Sq.primB_no (n := p) (d := d + 2) (by omega) hd.1 hd.2
    rw [(Sq.primB_iff p).2 hp] at this; cases this
  · exact h1
theorem fA_is {p : Nat} (hp : Sq.Prim p) (h : p ≤ 2000) : ∃ a b, fA p = some a ∧ fB p a = some b ∧ a ≤ p / 2 ∧ b ≤ a ∧ fourP p a b = true ∧ startL p = [(a : Int), (b : Int), 1, 0] ∧ (∀ a', a' < a → fB p a' = none) ∧ (∀ b', b' < b → fourP p a b' = false) := by
  cases hA : fA p with
  | none => have := fA_some hp h; rw [hA] at this; cases this
  | some a =>
    obtain ⟨_, h2, h3, h4⟩ := Sq.firstI_some _ _ _ _ hA
    cases hB : fB p a with
    | none => simp only [hB] at h3; cases h3
    | some b =>
      obtain ⟨_, g2, g3, g4⟩ := Sq.firstI_some _ _ _ _ hB
      refine ⟨a, b, rfl, hB, by omega, by omega, g3, by unfold startL; rw [hA]; simp only [hB]; rfl, fun a' ha => ?_, fun b' hb => g4 b' (Nat.zero_le _) hb⟩
      have := h4 a' (Nat.zero_le _) ha
      cases h5 : fB p a' with
      | none => rfl
      | some _ => simp only [h5] at this; cases this
def startAns (p : Int) : Option (List Int) := if primUp p 2000 = true then some (startL p.toNat) else none
theorem fB_no {p a : Nat} (h : fB p a = none) (b : Nat) (hb : b ≤ a) : fourP p a b = false := Sq.firstI_none _ _ _ h b (Nat.zero_le _) (by omega)
theorem fourP_rem (p a b : Nat) : ((a : Int) * (a : Int) + (b : Int) * (b : Int) + 1).tmod (p : Int) = (((a * a + b * b + 1) % p : Nat) : Int) := by
  rw [show (a : Int) * (a : Int) + (b : Int) * (b : Int) + 1 = ((a * a + b * b + 1 : Nat) : Int) by simp]; exact tmodN _ _
set_option maxRecDepth 20000 in
set_option maxHeartbeats 2000000 in
theorem sqStart_any (p : Nat) (w : World) (hp : Sq.Prim p) (h : p ≤ 2000) : Calls Try.prog 75 #[.int .i64 p] w fun e w' => MadeInts w (startL p) e w' := by
  obtain ⟨A, B, _, hB, hA2, hBA, hPB, hS, hno, hnb⟩ := fA_is hp h
  have HNO := hid hno
  have HNB := hid hnb
  have HPB := hid hPB
  rw [hS]
  have hp2 := hp.1
  have hz : ¬ (p : Int) = 0 := by omega
  clear hno hnb hPB hS hB hp
  go_enter Try.func75, Try.ntmps75
  go_wp2_with fail
  go_loop [3] (fun x => ∃ a : Nat, x = .int .i64 a ∧ a ≤ A) (fun x => A + 1 - (intOf x).toNat)
  case atStart => exact ⟨0, rfl, Nat.zero_le _⟩
  case round =>
    obtain ⟨a, rfl, haA⟩ := hrel
    have haa : 0 ≤ (a : Int) * (a : Int) ∧ (a : Int) * (a : Int) ≤ 1000000 := by
      have := Nat.mul_le_mul (show a ≤ 1000 by omega) (show a ≤ 1000 by omega)
      rw [← Int.natCast_mul]; omega
    go_wp2_with fail
    go_loop [4] (fun y => ∃ b : Nat, y = .int .i64 b ∧ b ≤ a + 1 ∧ (a = A → b ≤ B)) (fun y => a + 1 - (intOf y).toNat)
    case atStart => exact ⟨0, rfl, by omega, by omega⟩
    case round =>
      obtain ⟨b, rfl, hba, hbB⟩ := hrel
      have HBB := hid hbB
      clear hbB
      by_cases hle : (b : Int) ≤ (a : Int)
      · have hbb : 0 ≤ (b : Int) * (b : Int) ∧ (b : Int) * (b : Int) ≤ 1000000 := by
          have := Nat.mul_le_mul (show b ≤ 1000 by omega) (show b ≤ 1000 by omega)
          rw [← Int.natCast_mul]; omega
        obtain ⟨t, ht⟩ : ∃ t : Nat, (a * a + b * b + 1) % p = t := ⟨_, rfl⟩
        have q1 := fourP_rem p a b
        rw [ht] at q1
        have HT := hid (show fourP p a b = (t == 0) by unfold fourP; rw [ht])
        clear ht
        by_cases h0 : t = 0
        · have hb0 : ((t : Int) == 0) = true := by simp [h0]
          have HAA := hid (show a = A from by
            refine Nat.le_antisymm haA (Nat.not_lt.1 fun hlt => ?_)
            have := fB_no (HNO.out a hlt) b (by omega)
            rw [HT.out, h0] at this; cases this)
          have HBE := hid (show b = B from by
            have h1 := HAA.out
            refine Nat.le_antisymm (HBB.out h1) (Nat.not_lt.1 fun hlt => ?_)
            have := HNB.out b hlt
            rw [← h1, HT.out, h0] at this; cases this)
          go_wp2_with fail
          go_ret
          refine ⟨_, rfl, ?_, Later.alloc _ _⟩
          rw [← HAA.out, ← HBE.out]
          exact litS w [(a : Int), (b : Int), 1, 0] (by simp) 4 rfl _ rfl
        · have hb0 : ((t : Int) == 0) = false := by simp [h0]
          have HBE := hid (show a = A → b + 1 ≤ B from fun h1 => by
            have h2 := HBB.out h1
            refine Nat.lt_of_le_of_ne h2 fun h3 => h0 ?_
            have := HPB.out
            rw [← h1, ← h3, HT.out] at this
            simpa using this)
          go_wp2_with fail
          go_round
          case rel => exact ⟨b + 1, by go_num, by omega, HBE.out⟩
          case measure => simp [intOf]; omega
      · have HAA := hid (show a + 1 ≤ A from Nat.lt_of_le_of_ne haA fun h1 => by have := HBB.out h1; omega)
        go_wp2_with fail
        go_round
        case rel => exact ⟨a + 1, by go_num, HAA.out⟩
        case measure => simp [intOf]; omega
set_option maxRecDepth 20000 in
set_option maxHeartbeats 1000000 in
theorem specFourStart_any (p : Int) (w : World) : Calls Try.prog 24 #[.int .i64 p] w fun e w' => IntsAns w (startAns p) e w' := by
  cases hP : primUp p 2000
  · have HP := hid hP
    have HA := hid (show startAns p = none by unfold startAns; rw [hP]; rfl)
    clear hP
    go_enter Try.func24, Try.ntmps24
    go_wp2_with (go_at_call 59; refine (sqGiven_as p 2000 _ _ (by omega) HP.out).mono ?_; rintro e w2 ⟨rfl, rfl⟩)
    go_ret2
    exact ⟨_, by rw [HA.out]; rfl, by rw [HA.out]; exact ⟨World.ownsRow_nil _ _ _ _, fun b hb => by simp [Value.ownBlock] at hb⟩, Later.refl _⟩
  · obtain ⟨h1, h2, hprim⟩ := primUp_iff.1 hP
    obtain ⟨n, rfl⟩ : ∃ n : Nat, p = (n : Int) := ⟨p.toNat, by omega⟩
    have HP := hid hP
    have HA := hid (show startAns (n : Int) = some (startL n) by unfold startAns; rw [if_pos hP]; rfl)
    have HS := hid (fun w => sqStart_any n w hprim (by omega))
    clear hP hprim
    go_enter Try.func24, Try.ntmps24
    go_wp2_with (first | (go_at_call 59; refine (sqGiven_as n 2000 _ _ (by omega) HP.out).mono ?_; rintro e w2 ⟨rfl, rfl⟩) | (go_at_call 75; refine (HS.out _).mono ?_; rintro e w2 ⟨v, rfl, hO, hL⟩; have HO := hid hO; have HL := hid hL; clear hO hL))
    go_ret2
    exact ⟨_, by rw [HA.out]; rfl, by rw [HA.out]; exact HO.out, HL.out⟩
set_option maxRecDepth 20000 in
set_option maxHeartbeats 2000000 in
theorem implFourStart_any (p : Int) (w : World) : Calls Try.prog 23 #[.int .i64 p] w fun e w' => IntsAns w (startAns p) e w' := by
  cases hP : primUp p 2000
  · have HP := hid hP
    have HA := hid (show startAns p = none by unfold startAns; rw [hP]; rfl)
    clear hP
    go_enter Try.func23, Try.ntmps23
    go_wp2_with (go_at_call 63; refine (isPrimeUpTo_as p 2000 _ _ (by omega) HP.out).mono ?_; rintro e w2 ⟨rfl, rfl⟩)
    go_ret2
    exact ⟨_, by rw [HA.out]; rfl, by rw [HA.out]; exact ⟨World.ownsRow_nil _ _ _ _, fun b hb => by simp [Value.ownBlock] at hb⟩, Later.refl _⟩
  · obtain ⟨h1, h2, hprim⟩ := primUp_iff.1 hP
    obtain ⟨n, rfl⟩ : ∃ n : Nat, p = (n : Int) := ⟨p.toNat, by omega⟩
    have HP := hid hP
    obtain ⟨A, B, _, hB, hA2, hBA, hPB, hS, hno, hnb⟩ := fA_is (p := n) hprim (by omega)
    have HA := hid (show startAns (n : Int) = some [(A : Int), (B : Int), 1, 0] by unfold startAns; rw [if_pos hP, ← hS]; rfl)
    have HNO := hid hno
    have HNB := hid hnb
    have HPB := hid hPB
    have hz : ¬ (n : Int) = 0 := by omega
    obtain ⟨H, hH⟩ : ∃ H : Nat, n / 2 = H := ⟨_, rfl⟩
    have q2 : (n : Int).tdiv 2 = (H : Int) := by rw [← hH]; exact tdivN n 2
    have q2' : (n : Int) / 2 = (H : Int) := by omega
    have hAH : A ≤ H := by omega
    have hH3 : H ≤ 1000 := by omega
    clear hno hnb hPB hS hB hP hprim hH hA2
    go_enter Try.func23, Try.ntmps23
    go_wp2_with (go_at_call 63; refine (isPrimeUpTo_as n 2000 _ _ (by omega) HP.out).mono ?_; rintro e w2 ⟨rfl, rfl⟩)
    go_loop [12] (fun x => ∃ a : Nat, x = .int .i64 a ∧ a ≤ A) (fun x => A + 1 - (intOf x).toNat)
    case atStart => exact ⟨0, rfl, Nat.zero_le _⟩
    case round =>
      obtain ⟨a, rfl, haA⟩ := hrel
      have haa : 0 ≤ (a : Int) * (a : Int) ∧ (a : Int) * (a : Int) ≤ 1000000 := by
        have := Nat.mul_le_mul (show a ≤ 1000 by omega) (show a ≤ 1000 by omega)
        rw [← Int.natCast_mul]; omega
      go_wp2_with fail
      go_loop [17] (fun y => ∃ b : Nat, y = .int .i64 b ∧ b ≤ a + 1 ∧ (a = A → b ≤ B)) (fun y => a + 1 - (intOf y).toNat)
      case atStart => exact ⟨0, rfl, by omega, by omega⟩
      case round =>
        obtain ⟨b, rfl, hba, hbB⟩ := hrel
        have HBB := hid hbB
        clear hbB
        by_cases hle : (b : Int) < (a : Int) + 1
        · have hbb : 0 ≤ (b : Int) * (b : Int) ∧ (b : Int) * (b : Int) ≤ 1000000 := by
            have := Nat.mul_le_mul (show b ≤ 1000 by omega) (show b ≤ 1000 by omega)
            rw [← Int.natCast_mul]; omega
          obtain ⟨t, ht⟩ : ∃ t : Nat, (a * a + b * b + 1) % n = t := ⟨_, rfl⟩
          have q1 := fourP_rem n a b
          rw [ht] at q1
          have HT := hid (show fourP n a b = (t == 0) by unfold fourP; rw [ht])
          clear ht
          by_cases h0 : t = 0
          · have hb0 : ((t : Int) == 0) = true := by simp [h0]
            have HAA := hid (show a = A from by
              refine Nat.le_antisymm haA (Nat.not_lt.1 fun hlt => ?_)
              have := fB_no (HNO.out a hlt) b (by omega)
              rw [HT.out, h0] at this; cases this)
            have HBE := hid (show b = B from by
              have h1 := HAA.out
              refine Nat.le_antisymm (HBB.out h1) (Nat.not_lt.1 fun hlt => ?_)
              have := HNB.out b hlt
              rw [← h1, HT.out, h0] at this; cases this)
            go_wp2_with fail
            go_ret2
            refine ⟨_, by rw [HA.out]; rfl, ?_, Later.alloc _ _⟩
            rw [HA.out, ← HAA.out, ← HBE.out]
            exact litS w [(a : Int), (b : Int), 1, 0] (by simp) 4 rfl _ rfl
          · have hb0 : ((t : Int) == 0) = false := by simp [h0]
            have HBE := hid (show a = A → b + 1 ≤ B from fun h1 => by
              have h2 := HBB.out h1
              refine Nat.lt_of_le_of_ne h2 fun h3 => h0 ?_
              have := HPB.out
              rw [← h1, ← h3, HT.out] at this
              simpa using this)
            go_wp2_with fail
            go_round
            case rel => exact ⟨b + 1, by go_num, by omega, HBE.out⟩
            case measure => simp [intOf]; omega
        · have HAA := hid (show a + 1 ≤ A from Nat.lt_of_le_of_ne haA fun h1 => by have := HBB.out h1; omega)
          go_wp2_with fail
          go_round
          case rel => exact ⟨a + 1, by go_num, HAA.out⟩
          case measure => simp [intOf]; omega
end Go.Proofs.Ytofmmegpadojlaa
