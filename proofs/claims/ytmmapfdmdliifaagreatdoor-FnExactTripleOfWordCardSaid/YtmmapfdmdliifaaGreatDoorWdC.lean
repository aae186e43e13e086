/- Christoffel words: the model's loop and the program's letters by a closure. -/
import Derived.Test.YtmmapfdmdliifaaGreatDoorTxS
import Derived.Laws.Concat
namespace Go.Proofs.YtmmapfdmdliifaaGreatDoor
open Go.RowKit

theorem quo_bound (i b n : Nat) (h1 : i ≤ 40) (h2 : b ≤ 40) : i * b ≤ 1600 ∧ i * b / n ≤ 1600 := by
  have h3 : i * b ≤ 40 * 40 := Nat.mul_le_mul h1 h2
  exact ⟨by omega, Nat.le_trans (Nat.div_le_self _ _) (by omega)⟩

set_option maxRecDepth 20000 in
set_option maxHeartbeats 2000000 in
theorem chWord_any (a b : Nat) (w : World) (h1 : 1 ≤ a + b) (h40 : a + b ≤ 40) :
    Calls Tryz.prog 50 #[.int .i64 (a : Nat), .int .i64 (b : Nat)] w fun e w' => e = .returned (.string ⟨(chW a b).toArray⟩) ∧ Later w w' := by
  obtain ⟨n, hn⟩ : ∃ n, a + b = n := ⟨_, rfl⟩
  have hnI : (a : Int) + (b : Int) = (n : Int) := by omega
  have hb40 : b ≤ 40 := by omega
  have hn1 : 1 ≤ n := by omega
  have hn40 : n ≤ 40 := by omega
  have hnz : ¬ (n : Int) = 0 := by omega
  have hnz2 : ¬ n = 0 := by omega
  have HT := hid (fun i (h : i < n) => show (chW a b).take (i + 1) = (chW a b).take i ++ [chLet b n i] by rw [← hn]; exact chW_take a b i (by omega))
  have HN := hid (show (chW a b).length = n by rw [chW_len, hn])
  obtain ⟨W, hW⟩ : ∃ W, chW a b = W := ⟨_, rfl⟩
  rw [hW] at HT HN ⊢
  clear hW hn h1 h40
  go_enter Tryz.func50, Tryz.ntmps50
  go_wp2_with fail
  go_loopw [6, 7] (fun s i wr => ∃ k : Nat, k ≤ n ∧ i = .int .i64 k ∧ s = .string ⟨(W.take k).toArray⟩ ∧ Later w wr) (fun _ i _ => n - (intOf i).toNat)
  case atStart => exact ⟨0, Nat.zero_le _, rfl, rfl, Later.refl _⟩
  case round =>
    obtain ⟨k, hk, rfl, rfl, hL⟩ := hrel
    have HLr := hid hL
    clear hL
    by_cases hlt : k < n
    · have hltI : (k : Int) < (n : Int) := by omega
      have HTk := hid (HT.out k hlt)
      have hsz : (W.take k).length ≤ 40 := by rw [List.length_take]; omega
      obtain ⟨l, hl⟩ : ∃ l, W.take k = l := ⟨_, rfl⟩
      rw [hl] at HTk hsz ⊢
      obtain ⟨b1, b2⟩ := quo_bound k b n (by omega) hb40
      obtain ⟨b3, b4⟩ := quo_bound (k + 1) b n (by omega) hb40
      have hlet : chLet b n k = if k * b / n = (k + 1) * b / n then 97 else 98 := rfl
      have m1 : (k : Int) * (b : Int) = ((k * b : Nat) : Int) := (Int.natCast_mul _ _).symm
      have m2 : ((k : Int) + 1) * (b : Int) = (((k + 1) * b : Nat) : Int) := by rw [Int.natCast_mul]; rfl
      obtain ⟨p1, hp1⟩ : ∃ p, k * b = p := ⟨_, rfl⟩
      obtain ⟨p2, hp2⟩ : ∃ p, (k + 1) * b = p := ⟨_, rfl⟩
      rw [hp1] at m1 b1 b2 hlet
      rw [hp2] at m2 b3 b4 hlet
      have d1 : (p1 : Int).tdiv (n : Int) = ((p1 / n : Nat) : Int) := by rw [Int.tdiv_eq_ediv_of_nonneg (Int.natCast_nonneg _)]; rfl
      have d2 : (p2 : Int).tdiv (n : Int) = ((p2 / n : Nat) : Int) := by rw [Int.tdiv_eq_ediv_of_nonneg (Int.natCast_nonneg _)]; rfl
      obtain ⟨q1, hq1⟩ : ∃ q, p1 / n = q := ⟨_, rfl⟩
      obtain ⟨q2, hq2⟩ : ∃ q, p2 / n = q := ⟨_, rfl⟩
      rw [hq1] at d1 b2 hlet
      rw [hq2] at d2 b4 hlet
      have w1 : IntKind.i64.wrap (p1 : Int) = (p1 : Int) := by rw [IntWalk.i64_left]; exact IntWalk.wrap64_in _ (by omega)
      have w2 : IntKind.i64.wrap (p2 : Int) = (p2 : Int) := by rw [IntWalk.i64_left]; exact IntWalk.wrap64_in _ (by omega)
      have w3 : IntKind.i64.wrap (q1 : Int) = (q1 : Int) := by rw [IntWalk.i64_left]; exact IntWalk.wrap64_in _ (by omega)
      have w4 : IntKind.i64.wrap (q2 : Int) = (q2 : Int) := by rw [IntWalk.i64_left]; exact IntWalk.wrap64_in _ (by omega)
      have w5 : IntKind.i64.wrap ((k : Int) + 1) = (k : Int) + 1 := by rw [IntWalk.i64_left]; exact IntWalk.wrap64_in _ (by omega)
      clear hp1 hp2 hq1 hq2 hl
      by_cases hqq : q1 = q2
      · have hbq : ((q1 : Int) == (q2 : Int)) = true := by rw [hqq]; simp
        have HW2 := hid (show W.take (k + 1) = l ++ [97] by rw [HTk.out, hlet, if_pos hqq])
        clear hqq hlet
        go_wp2_with fail
        go_quiet (fail)
        have HLd := hid (HLr.out.trans (Later.drewN wr nq))
        generalize wr.drewN nq = wd at HLd ⊢
        go_wp2_with fail
        go_roundw
        case rel => exact ⟨k + 1, hlt, by go_num, by rw [HW2.out]; simp [ByteArray.ext_iff], HLd.out⟩
        case measure => simp [intOf]; omega
      · have hbq : ((q1 : Int) == (q2 : Int)) = false := by rw [beq_eq_false_iff_ne]; omega
        have HW2 := hid (show W.take (k + 1) = l ++ [98] by rw [HTk.out, hlet, if_neg hqq])
        clear hqq hlet
        go_wp2_with fail
        go_quiet (fail)
        have HLd := hid (HLr.out.trans (Later.drewN wr nq))
        generalize wr.drewN nq = wd at HLd ⊢
        go_wp2_with fail
        go_roundw
        case rel => exact ⟨k + 1, hlt, by go_num, by rw [HW2.out]; simp [ByteArray.ext_iff], HLd.out⟩
        case measure => simp [intOf]; omega
    · have HE := hid (show W.take k = W from List.take_of_length_le (by rw [HN.out]; omega))
      rw [HE.out]
      go_wp2_with fail
      go_ret
      exact ⟨rfl, HLr.out⟩
end Go.Proofs.YtmmapfdmdliifaaGreatDoor
