/- Lists of squares: the first one, all, and in how many ways (the model). -/
import Derived.Test.YtofmmegpadojlaaSqN
namespace Go.Proofs.Ytofmmegpadojlaa
open Go.RowKit

/-- In how many ways, and how often the number stood last. -/
def sg (zs : List Int) : Nat → Nat × Nat
  | 0 => (1, 0)
  | i + 1 =>
    ((if zs.getD i 0 = 0 then (sg zs i).1 * (i + 1) / (if 0 < i ∧ zs.getD (i - 1) 0 = zs.getD i 0 then (sg zs i).2 + 1 else 1) else (sg zs i).1 * (i + 1) / (if 0 < i ∧ zs.getD (i - 1) 0 = zs.getD i 0 then (sg zs i).2 + 1 else 1) * 2),
     (if 0 < i ∧ zs.getD (i - 1) 0 = zs.getD i 0 then (sg zs i).2 + 1 else 1))
def signs (zs : List Int) : Nat := (sg zs zs.length).1
theorem sg_bd (zs : List Int) : ∀ i, i ≤ 4 → (sg zs i).1 ≤ 10 ^ i ∧ (sg zs i).2 ≤ i := by
  intro i
  induction i with
  | zero => intro _; simp [sg]
  | succ i ih =>
    intro hi
    obtain ⟨h1, h2⟩ := ih (by omega)
    have h3 : ∀ d, (sg zs i).1 * (i + 1) / d ≤ 10 ^ i * 4 := fun d => Nat.le_trans (Nat.div_le_self _ _) (Nat.mul_le_mul h1 (by omega))
    unfold sg
    simp only
    constructor
    · rw [Nat.pow_succ]
      split
      · have := h3 (if 0 < i ∧ zs.getD (i - 1) 0 = zs.getD i 0 then (sg zs i).2 + 1 else 1); omega
      · have := h3 (if 0 < i ∧ zs.getD (i - 1) 0 = zs.getD i 0 then (sg zs i).2 + 1 else 1); omega
    · split <;> omega
theorem sg_one (zs : List Int) (i : Nat) (b : Bool) (hb : decide (0 < i ∧ zs.getD (i - 1) 0 = zs.getD i 0) = b) (z : Bool) (hz : decide (zs.getD i 0 = 0) = z) :
    sg zs (i + 1) = ((if z = true then (sg zs i).1 * (i + 1) / (if b = true then (sg zs i).2 + 1 else 1) else (sg zs i).1 * (i + 1) / (if b = true then (sg zs i).2 + 1 else 1) * 2), (if b = true then (sg zs i).2 + 1 else 1)) := by
  subst hb hz
  conv => lhs; unfold sg
  simp only [decide_eq_true_eq]
set_option maxRecDepth 20000 in
set_option maxHeartbeats 4000000 in
theorem sqSigns_any (v : Value) (zs : List Int) (w : World) (hl : zs.length ≤ 4) (hz : ∀ z ∈ zs, 0 ≤ z ∧ z ≤ 1000000) (h : Ints w v zs) :
    Calls Try.prog 88 #[v] w fun e w' => e = .returned (.int .i64 (signs zs : Nat)) ∧ Later w w' := by
  obtain ⟨a, cap, rfl, _, hc⟩ := h
  have HC := hid hc
  have HB := hid (sg_bd zs)
  have HZ := hid hz
  have HS := hid (show (sg zs zs.length).1 = signs zs from rfl)
  obtain ⟨n, hn⟩ : ∃ n, zs.length = n := ⟨_, rfl⟩
  rw [hn] at hl HS ⊢
  have HN := hid hn
  clear hc hz hn
  go_enter Try.func88, Try.ntmps88
  go_wp2_with fail
  go_loopw [3, 4, 9] (fun s t x wr => ∃ i : Nat, i ≤ n ∧ x = .int .i64 i ∧ s = .int .i64 ((sg zs i).1 : Nat) ∧ t = .int .i64 ((sg zs i).2 : Nat) ∧ Later w wr) (fun _ _ x _ => n - (intOf x).toNat)
  case atStart => exact ⟨0, Nat.zero_le _, rfl, rfl, rfl, Later.refl w⟩
  case round =>
    obtain ⟨i, hi, rfl, rfl, rfl, hL⟩ := hrel
    by_cases hlt : (i : Int) < (n : Int)
    · have hin : i < zs.length := by rw [HN.out]; omega
      obtain ⟨ad, rfl, hcell0⟩ := HC.out i hin
      have hcell := hL.cell hcell0
      have hzi := HZ.out zs[i] (List.getElem_mem hin)
      obtain ⟨h1, h2⟩ := HB.out i (by omega)
      have hp := Nat.pow_le_pow_right (show 0 < 10 by omega) (show i ≤ 4 by omega)
      obtain ⟨S, hS⟩ : ∃ S, (sg zs i).1 = S := ⟨_, rfl⟩
      obtain ⟨T, hT⟩ : ∃ T, (sg zs i).2 = T := ⟨_, rfl⟩
      have hS4 : S ≤ 10000 := by omega
      have hT4 : T ≤ 4 := by omega
      obtain ⟨z, hzz⟩ : ∃ z, zs[i] = z := ⟨_, rfl⟩
      have hgz : zs.getD i 0 = z := by rw [getD_at zs i hin, hzz]
      rw [hzz] at hzi
      rw [hgz] at hcell
      have hSi : 0 ≤ (S : Int) * ((i : Int) + 1) ∧ (S : Int) * ((i : Int) + 1) ≤ 50000 := by
        have := Nat.mul_le_mul hS4 (show i + 1 ≤ 5 by omega)
        rw [show (i : Int) + 1 = ((i + 1 : Nat) : Int) by omega, ← Int.natCast_mul]; omega
      have HL := hid hL
      have HEQ := hid (fun b hb zb hzb => sg_one zs i b hb zb hzb)
      rw [hS, hT, hgz] at HEQ
      rw [hS, hT]
      by_cases h0 : (0 : Int) < (i : Int)
      · obtain ⟨ad2, e2, hcell1⟩ := HC.out (i - 1) (by omega)
        simp only [Option.some.injEq] at e2
        subst e2
        have hcellp := hL.cell hcell1
        obtain ⟨y, hy⟩ : ∃ y, zs.getD (i - 1) 0 = y := ⟨_, rfl⟩
        rw [hy] at hcellp HEQ
        have hi1 : ((i : Int) - 1).toNat = i - 1 := by omega
        by_cases hyz : y = z
        · have hyb : (y == z) = true := by simp [hyz]
          by_cases hz0 : (0 : Int) < z
          · skip
            obtain ⟨Q, hQ⟩ : ∃ Q : Nat, S * (i + 1) / (T + 1) = Q := ⟨_, rfl⟩
            have hQ5 : Q ≤ 50000 := by rw [← hQ]; refine Nat.le_trans (Nat.div_le_self _ _) ?_; have := Nat.mul_le_mul hS4 (show i + 1 ≤ 5 by omega); omega
            have q1 : ((S : Int) * ((i : Int) + 1)).tdiv ((T : Int) + 1) = (Q : Int) := by rw [show (S : Int) * ((i : Int) + 1) = ((S * (i + 1) : Nat) : Int) by simp, show ((T : Int) + 1 : Int) = (((T + 1) : Nat) : Int) by simp, tdivN, hQ]
            have q2 : ((S : Int) * ((i : Int) + 1)) / ((T : Int) + 1) = (Q : Int) := by rw [show (S : Int) * ((i : Int) + 1) = ((S * (i + 1) : Nat) : Int) by simp, show ((T : Int) + 1 : Int) = (((T + 1) : Nat) : Int) by simp, ← hQ]; exact (Int.natCast_ediv _ _).symm
            have hz1 : ¬ (T : Int) + 1 = 0 := by omega
            have HE := hid (show sg zs (i + 1) = (Q * 2, T + 1) by rw [HEQ.out true (by rw [decide_eq_true ⟨by omega, hyz⟩]) false (by first | (simp; done) | (simp; omega))]; simp [hQ])
            clear hQ
            go_wp2_with fail
            go_roundw
            case rel => exact ⟨i + 1, by omega, by go_num, (by first | (rw [HE.out]; done) | (rw [HE.out]; rfl) | (rw [HE.out]; simp; done) | (rw [HE.out]; simp [q3]; done)), (by first | (rw [HE.out]; done) | (rw [HE.out]; rfl) | (rw [HE.out]; simp; done)), HL.out⟩
            case measure => simp [intOf]; omega
          · have hzd : decide ((0 : Int) < z) = false := decide_eq_false hz0
            obtain ⟨Q, hQ⟩ : ∃ Q : Nat, S * (i + 1) / (T + 1) = Q := ⟨_, rfl⟩
            have hQ5 : Q ≤ 50000 := by rw [← hQ]; refine Nat.le_trans (Nat.div_le_self _ _) ?_; have := Nat.mul_le_mul hS4 (show i + 1 ≤ 5 by omega); omega
            have q1 : ((S : Int) * ((i : Int) + 1)).tdiv ((T : Int) + 1) = (Q : Int) := by rw [show (S : Int) * ((i : Int) + 1) = ((S * (i + 1) : Nat) : Int) by simp, show ((T : Int) + 1 : Int) = (((T + 1) : Nat) : Int) by simp, tdivN, hQ]
            have q2 : ((S : Int) * ((i : Int) + 1)) / ((T : Int) + 1) = (Q : Int) := by rw [show (S : Int) * ((i : Int) + 1) = ((S * (i + 1) : Nat) : Int) by simp, show ((T : Int) + 1 : Int) = (((T + 1) : Nat) : Int) by simp, ← hQ]; exact (Int.natCast_ediv _ _).symm
            have hz1 : ¬ (T : Int) + 1 = 0 := by omega
            have HE := hid (show sg zs (i + 1) = (Q, T + 1) by rw [HEQ.out true (by rw [decide_eq_true ⟨by omega, hyz⟩]) true (by first | (simp; done) | (simp; omega))]; simp [hQ])
            clear hQ
            go_wp2_with fail
            go_roundw
            case rel => exact ⟨i + 1, by omega, by go_num, (by first | (rw [HE.out]; done) | (rw [HE.out]; rfl) | (rw [HE.out]; simp; done) | (rw [HE.out]; simp [q3]; done)), (by first | (rw [HE.out]; done) | (rw [HE.out]; rfl) | (rw [HE.out]; simp; done)), HL.out⟩
            case measure => simp [intOf]; omega
        · have hyb : (y == z) = false := by simp [hyz]
          by_cases hz0 : (0 : Int) < z
          · skip
            obtain ⟨Q, hQ⟩ : ∃ Q : Nat, S * (i + 1) / 1 = Q := ⟨_, rfl⟩
            have hQ5 : Q ≤ 50000 := by rw [← hQ]; refine Nat.le_trans (Nat.div_le_self _ _) ?_; have := Nat.mul_le_mul hS4 (show i + 1 ≤ 5 by omega); omega
            have q1 : ((S : Int) * ((i : Int) + 1)).tdiv (1) = (Q : Int) := by rw [show (S : Int) * ((i : Int) + 1) = ((S * (i + 1) : Nat) : Int) by simp, show (1 : Int) = ((1 : Nat) : Int) by simp, tdivN, hQ]
            have q2 : ((S : Int) * ((i : Int) + 1)) / (1) = (Q : Int) := by rw [show (S : Int) * ((i : Int) + 1) = ((S * (i + 1) : Nat) : Int) by simp, show (1 : Int) = ((1 : Nat) : Int) by simp, ← hQ]; exact (Int.natCast_ediv _ _).symm
            have q3 : (S : Int) * ((i : Int) + 1) = (Q : Int) := by rw [← hQ, Nat.div_one]; simp
            have HE := hid (show sg zs (i + 1) = (Q * 2, 1) by rw [HEQ.out false (by rw [decide_eq_false fun h => hyz h.2]) false (by first | (simp; done) | (simp; omega))]; simp [hQ])
            clear hQ
            go_wp2_with fail
            go_roundw
            case rel => exact ⟨i + 1, by omega, by go_num, (by first | (rw [HE.out]; done) | (rw [HE.out]; rfl) | (rw [HE.out]; simp; done) | (rw [HE.out]; simp [q3]; done)), (by first | (rw [HE.out]; done) | (rw [HE.out]; rfl) | (rw [HE.out]; simp; done)), HL.out⟩
            case measure => simp [intOf]; omega
          · have hzd : decide ((0 : Int) < z) = false := decide_eq_false hz0
            obtain ⟨Q, hQ⟩ : ∃ Q : Nat, S * (i + 1) / 1 = Q := ⟨_, rfl⟩
            have hQ5 : Q ≤ 50000 := by rw [← hQ]; refine Nat.le_trans (Nat.div_le_self _ _) ?_; have := Nat.mul_le_mul hS4 (show i + 1 ≤ 5 by omega); omega
            have q1 : ((S : Int) * ((i : Int) + 1)).tdiv (1) = (Q : Int) := by rw [show (S : Int) * ((i : Int) + 1) = ((S * (i + 1) : Nat) : Int) by simp, show (1 : Int) = ((1 : Nat) : Int) by simp, tdivN, hQ]
            have q2 : ((S : Int) * ((i : Int) + 1)) / (1) = (Q : Int) := by rw [show (S : Int) * ((i : Int) + 1) = ((S * (i + 1) : Nat) : Int) by simp, show (1 : Int) = ((1 : Nat) : Int) by simp, ← hQ]; exact (Int.natCast_ediv _ _).symm
            have q3 : (S : Int) * ((i : Int) + 1) = (Q : Int) := by rw [← hQ, Nat.div_one]; simp
            have HE := hid (show sg zs (i + 1) = (Q, 1) by rw [HEQ.out false (by rw [decide_eq_false fun h => hyz h.2]) true (by first | (simp; done) | (simp; omega))]; simp [hQ])
            clear hQ
            go_wp2_with fail
            go_roundw
            case rel => exact ⟨i + 1, by omega, by go_num, (by first | (rw [HE.out]; done) | (rw [HE.out]; rfl) | (rw [HE.out]; simp; done) | (rw [HE.out]; simp [q3]; done)), (by first | (rw [HE.out]; done) | (rw [HE.out]; rfl) | (rw [HE.out]; simp; done)), HL.out⟩
            case measure => simp [intOf]; omega
      · have hi0 : decide ((0 : Int) < (i : Int)) = false := decide_eq_false h0
        by_cases hz0 : (0 : Int) < z
        · skip
          obtain ⟨Q, hQ⟩ : ∃ Q : Nat, S * (i + 1) / 1 = Q := ⟨_, rfl⟩
          have hQ5 : Q ≤ 50000 := by rw [← hQ]; refine Nat.le_trans (Nat.div_le_self _ _) ?_; have := Nat.mul_le_mul hS4 (show i + 1 ≤ 5 by omega); omega
          have q1 : ((S : Int) * ((i : Int) + 1)).tdiv (1) = (Q : Int) := by rw [show (S : Int) * ((i : Int) + 1) = ((S * (i + 1) : Nat) : Int) by simp, show (1 : Int) = ((1 : Nat) : Int) by simp, tdivN, hQ]
          have q2 : ((S : Int) * ((i : Int) + 1)) / (1) = (Q : Int) := by rw [show (S : Int) * ((i : Int) + 1) = ((S * (i + 1) : Nat) : Int) by simp, show (1 : Int) = ((1 : Nat) : Int) by simp, ← hQ]; exact (Int.natCast_ediv _ _).symm
          have q3 : (S : Int) * ((i : Int) + 1) = (Q : Int) := by rw [← hQ, Nat.div_one]; simp
          have HE := hid (show sg zs (i + 1) = (Q * 2, 1) by rw [HEQ.out false (by rw [decide_eq_false fun h => h0 (by omega)]) false (by first | (simp; done) | (simp; omega))]; simp [hQ])
          clear hQ
          go_wp2_with fail
          go_roundw
          case rel => exact ⟨i + 1, by omega, by go_num, (by first | (rw [HE.out]; done) | (rw [HE.out]; rfl) | (rw [HE.out]; simp; done) | (rw [HE.out]; simp [q3]; done)), (by first | (rw [HE.out]; done) | (rw [HE.out]; rfl) | (rw [HE.out]; simp; done)), HL.out⟩
          case measure => simp [intOf]; omega
        · have hzd : decide ((0 : Int) < z) = false := decide_eq_false hz0
          obtain ⟨Q, hQ⟩ : ∃ Q : Nat, S * (i + 1) / 1 = Q := ⟨_, rfl⟩
          have hQ5 : Q ≤ 50000 := by rw [← hQ]; refine Nat.le_trans (Nat.div_le_self _ _) ?_; have := Nat.mul_le_mul hS4 (show i + 1 ≤ 5 by omega); omega
          have q1 : ((S : Int) * ((i : Int) + 1)).tdiv (1) = (Q : Int) := by rw [show (S : Int) * ((i : Int) + 1) = ((S * (i + 1) : Nat) : Int) by simp, show (1 : Int) = ((1 : Nat) : Int) by simp, tdivN, hQ]
          have q2 : ((S : Int) * ((i : Int) + 1)) / (1) = (Q : Int) := by rw [show (S : Int) * ((i : Int) + 1) = ((S * (i + 1) : Nat) : Int) by simp, show (1 : Int) = ((1 : Nat) : Int) by simp, ← hQ]; exact (Int.natCast_ediv _ _).symm
          have q3 : (S : Int) * ((i : Int) + 1) = (Q : Int) := by rw [← hQ, Nat.div_one]; simp
          have HE := hid (show sg zs (i + 1) = (Q, 1) by rw [HEQ.out false (by rw [decide_eq_false fun h => h0 (by omega)]) true (by first | (simp; done) | (simp; omega))]; simp [hQ])
          clear hQ
          go_wp2_with fail
          go_roundw
          case rel => exact ⟨i + 1, by omega, by go_num, (by first | (rw [HE.out]; done) | (rw [HE.out]; rfl) | (rw [HE.out]; simp; done) | (rw [HE.out]; simp [q3]; done)), (by first | (rw [HE.out]; done) | (rw [HE.out]; rfl) | (rw [HE.out]; simp; done)), HL.out⟩
          case measure => simp [intOf]; omega
    · have hie : i = n := by omega
      have HE := hid (show (sg zs i).1 = signs zs by rw [hie]; exact HS.out)
      clear hie
      go_wp2_with fail
      go_ret
      exact ⟨by rw [← HE.out]; rfl, hL⟩
end Go.Proofs.Ytofmmegpadojlaa
