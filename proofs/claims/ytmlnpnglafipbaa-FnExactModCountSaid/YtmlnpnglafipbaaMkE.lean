/- Contracts of ModCount. -/
import Derived.Test.YtmlnpnglafipbaaMkD
namespace Go.Proofs.Ytmlnpnglafipbaa
open Go.RowKit

def modAt (P c : Nat) : Bool := modT P ((c / P / P : Nat) : Int) ((c / P % P : Nat) : Int) ((c % P : Nat) : Int)
def cntM (P : Nat) : Nat → Nat
  | 0 => 0
  | c + 1 => cntM P c + if modAt P c then 1 else 0
theorem cntM_le (P c : Nat) : cntM P c ≤ c := by
  induction c with
  | zero => exact Nat.le_refl _
  | succ c ih => unfold cntM; split <;> omega
theorem cntM_yes {P c : Nat} (h : modAt P c = true) : cntM P (c + 1) = cntM P c + 1 := by
  show cntM P c + (if modAt P c then 1 else 0) = _
  rw [if_pos h]
theorem cntM_no {P c : Nat} (h : modAt P c = false) : cntM P (c + 1) = cntM P c := by
  show cntM P c + (if modAt P c then 1 else 0) = _
  rw [if_neg (by rw [h]; simp)]; rfl
def modCountAns (p : Int) : Option Int := if prime13 p = true then some (cntM p.toNat (p.toNat * p.toNat * p.toNat) : Int) else none
theorem prime13_nat {p : Int} (h : prime13 p = true) : ∃ P : Nat, p = (P : Int) ∧ 2 ≤ P ∧ P ≤ 13 := by
  have := (prime13_iff p).1 h
  exact ⟨p.toNat, by omega, by omega, by omega⟩
theorem cube_le {P : Nat} (h : P ≤ 13) : P * P ≤ 169 ∧ P * P * P ≤ 2197 := by
  have h1 : P * P ≤ 13 * 13 := Nat.mul_le_mul h h
  have h2 : P * P * P ≤ 13 * 13 * 13 := Nat.mul_le_mul h1 h
  omega
theorem digits {P X Y Z : Nat} (hY : Y < P) (hZ : Z < P) : ((X * P + Y) * P + Z) / P / P = X ∧ ((X * P + Y) * P + Z) / P % P = Y ∧ ((X * P + Y) * P + Z) % P = Z := by
  have h1 : ((X * P + Y) * P + Z) / P = X * P + Y := by
    rw [Nat.mul_comm (X * P + Y) P, Nat.mul_add_div (by omega), Nat.div_eq_of_lt hZ]; rfl
  have h2 : (X * P + Y) / P = X := by
    rw [Nat.mul_comm X P, Nat.mul_add_div (by omega), Nat.div_eq_of_lt hY]; rfl
  refine ⟨by rw [h1, h2], by rw [h1, Nat.mul_comm X P, Nat.mul_add_mod, Nat.mod_eq_of_lt hY], by rw [Nat.mul_comm (X * P + Y) P, Nat.mul_add_mod, Nat.mod_eq_of_lt hZ]⟩

set_option maxRecDepth 20000 in
set_option maxHeartbeats 4000000 in
theorem implModCount_any (p : Int) (w : World) (h64 : I64 p) :
    Calls Try.prog 37 #[.int .i64 p] w fun e w' => NumAns w (modCountAns p) e w' := by
  cases hp : prime13 p
  · have HA := hid (show modCountAns p = none by unfold modCountAns; rw [if_neg (by rw [hp]; simp)])
    have HP := hid hp
    have h64' := h64.1
    clear hp h64
    go_enter Try.func37, Try.ntmps37
    go_wp2_with fail
    refine (isModulus_any p _ h64').mono ?_
    rintro e w' ⟨rfl, rfl⟩
    rw [HP.out]
    go_wp2_with fail
    go_ret2
    exact ⟨by rw [HA.out]; rfl, Later.refl _⟩
  · obtain ⟨P, rfl, hP2, hP13⟩ := prime13_nat hp
    have HP := hid hp
    have HA := hid (show modCountAns (P : Int) = some (cntM P (P * P * P) : Int) by unfold modCountAns; rw [if_pos hp, Int.toNat_natCast])
    clear hp h64
    obtain ⟨c1, c2⟩ := cube_le hP13
    obtain ⟨N, hN⟩ : ∃ N, P * P * P = N := ⟨_, rfl⟩
    have n1 : (P : Int) * (P : Int) = ((P * P : Nat) : Int) := by rw [Int.natCast_mul]
    have n2 : (P : Int) * (P : Int) * (P : Int) = (N : Int) := by rw [← hN, Int.natCast_mul, Int.natCast_mul]
    have w1 : IntKind.i64.wrap ((P : Int) * (P : Int)) = (P : Int) * (P : Int) := by rw [IntWalk.i64_left]; exact IntWalk.wrap64_in _ (by omega)
    have w2 : IntKind.i64.wrap ((P : Int) * (P : Int) * (P : Int)) = (N : Int) := by rw [n2, IntWalk.i64_left]; exact IntWalk.wrap64_in _ (by omega)
    rw [hN] at HA c2
    have HNN := hid hN
    clear n1 n2 c1 hN
    go_enter Try.func37, Try.ntmps37
    go_wp2_with fail
    refine (isModulus_any (P : Int) _ (by omega)).mono ?_
    rintro e w' ⟨rfl, rfl⟩
    rw [HP.out]
    go_wp2_with fail
    go_loopw [4, 14] (fun n i wr => ∃ c : Nat, c ≤ N ∧ i = .int .i64 c ∧ n = .int .i64 (cntM P c : Nat) ∧ Later w wr) (fun _ i _ => N - (intOf i).toNat)
    case atStart => exact ⟨0, Nat.zero_le _, rfl, rfl, Later.refl w⟩
    case round =>
      clear w1 w2
      obtain ⟨c, hc, rfl, rfl, hL⟩ := hrel
      have HL := hid hL
      clear hL
      by_cases hlt : c < N
      · have hcn := cntM_le P c
        have q1 : (c : Int).tdiv (P : Int) = ((c / P : Nat) : Int) := by rw [Int.tdiv_eq_ediv_of_nonneg (Int.natCast_nonneg _)]; rfl
        have q2 : ((c / P : Nat) : Int).tdiv (P : Int) = ((c / P / P : Nat) : Int) := by rw [Int.tdiv_eq_ediv_of_nonneg (Int.natCast_nonneg _)]; rfl
        have q3 : ((c / P : Nat) : Int).tmod (P : Int) = ((c / P % P : Nat) : Int) := by rw [Int.tmod_eq_emod_of_nonneg (Int.natCast_nonneg _)]; rfl
        have q4 : (c : Int).tmod (P : Int) = ((c % P : Nat) : Int) := by rw [Int.tmod_eq_emod_of_nonneg (Int.natCast_nonneg _)]; rfl
        have b1 : c / P ≤ c := Nat.div_le_self _ _
        have b2 : c / P / P < P := by rw [Nat.div_div_eq_div_mul]; exact Nat.div_lt_of_lt_mul (by rw [HNN.out]; exact hlt)
        have b3 : c / P % P < P := Nat.mod_lt _ (by omega)
        have b4 : c % P < P := Nat.mod_lt _ (by omega)
        have HM := hid (show modAt P c = modT P ((c / P / P : Nat) : Int) ((c / P % P : Nat) : Int) ((c % P : Nat) : Int) from rfl)
        obtain ⟨d, hd⟩ : ∃ d, c / P = d := ⟨_, rfl⟩
        rw [hd] at q1 q2 q3 b1 b2 b3 HM
        obtain ⟨X, hX⟩ : ∃ X, d / P = X := ⟨_, rfl⟩
        rw [hX] at q2 b2 HM
        obtain ⟨Y, hY⟩ : ∃ Y, d % P = Y := ⟨_, rfl⟩
        rw [hY] at q3 b3 HM
        obtain ⟨Z, hZ⟩ : ∃ Z, c % P = Z := ⟨_, rfl⟩
        rw [hZ] at q4 b4 HM
        have v1 : IntKind.i64.wrap (d : Int) = (d : Int) := by rw [IntWalk.i64_left]; exact IntWalk.wrap64_in _ (by omega)
        have v2 : IntKind.i64.wrap (X : Int) = (X : Int) := by rw [IntWalk.i64_left]; exact IntWalk.wrap64_in _ (by omega)
        have z0 : ¬ (P : Int) = 0 := by omega
        have z1 : ¬ P = 0 := by omega
        clear hd hX hY hZ
        cases hm : modAt P c
        · have HC := hid (cntM_no hm)
          have hmt : modT P X Y Z = false := by rw [← HM.out, hm]
          have HMT := hid hmt
          clear hm HM hmt
          go_wp2_with fail
          go_region_held3 (fun _ => True) (trivial) (first | (go_at_call 68; refine (solvesModulo_any X Y Z P _ ⟨by omega, by omega⟩ ⟨by omega, by omega⟩ ⟨by omega, by omega⟩ ⟨by omega, by omega⟩).mono ?_; rintro e w2 ⟨rfl, hL⟩; have HL2 := hid (HL.out.trans ((Later.drew wr).trans hL)); clear hL; rw [HMT.out]))
          go_wp2_with fail
          go_roundw
          case rel => exact ⟨c + 1, hlt, by go_num, by rw [HC.out], HL2.out⟩
          case measure => simp [intOf]; omega
        · have HC := hid (cntM_yes hm)
          have hmt : modT P X Y Z = true := by rw [← HM.out, hm]
          have HMT := hid hmt
          clear hm HM hmt
          go_wp2_with fail
          go_region_held3 (fun _ => True) (trivial) (first | (go_at_call 68; refine (solvesModulo_any X Y Z P _ ⟨by omega, by omega⟩ ⟨by omega, by omega⟩ ⟨by omega, by omega⟩ ⟨by omega, by omega⟩).mono ?_; rintro e w2 ⟨rfl, hL⟩; have HL2 := hid (HL.out.trans ((Later.drew wr).trans hL)); clear hL; rw [HMT.out]))
          go_wp2_with fail
          go_roundw
          case rel => exact ⟨c + 1, hlt, by go_num, by rw [HC.out]; rfl, HL2.out⟩
          case measure => simp [intOf]; omega
      · have hcn : c = N := by omega
        have HCN := hid hcn
        clear hcn
        go_wp2_with fail
        go_ret2
        exact ⟨by rw [HA.out, HCN.out]; rfl, HL.out⟩
end Go.Proofs.Ytmlnpnglafipbaa
