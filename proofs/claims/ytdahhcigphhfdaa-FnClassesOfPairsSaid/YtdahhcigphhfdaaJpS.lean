/- Pairs up to a bound (the program): eachUpTo, pairsUpTo, PairsUpTo. -/
import Derived.Test.YtdahhcigphhfdaaJpH
import Derived.Test.YtdahhcigphhfdaaJg
namespace Go.Proofs.Ytdahhcigphhfdaa
open Go.RowKit

set_option maxRecDepth 20000 in
set_option maxHeartbeats 2000000 in
theorem eachUpTo_any (g : Nat) (lb : Array Value) (eg : ∀ args w, (callFunc g args).run Try.prog w = .ok (.enter g args) w) (N : Nat) (hN : N ≤ 200) (I : List Jp2 → World → Prop)
    (hv : ∀ (L : List Jp2) (x y : Int) (w0 : World), 0 ≤ y → y ≤ x → x ≤ N → L.length ≤ 100000 → I L w0 → Calls Try.prog g (#[.agg #[.int .i64 x, .int .i64 y]] ++ lb) w0 fun e w' => e = .returned (.tuple #[]) ∧ I (L ++ [(x, y)]) w')
    (w : World) (hI : I [] w) :
    Calls Try.prog 78 #[.int .i64 N, .func (.func g) #[] lb] w fun e w' => e = .returned (.tuple #[]) ∧ I (gridJ (N + 1)) w' := by
  have HV := hid hv
  have HI := hid hI
  clear hv hI
  go_enter Try.func78, Try.ntmps78
  go_wp2_with fail
  go_loopw [8] (fun i wr => ∃ k : Nat, k ≤ N + 1 ∧ i = .int .i64 k ∧ I (gridJ k) wr) (fun i _ => N + 1 - (intOf i).toNat)
  case atStart => exact ⟨0, Nat.zero_le _, rfl, HI.out⟩
  case round =>
    clear HI
    obtain ⟨k, hk, rfl, hI⟩ := hrel
    have HI := hid hI
    clear hI
    by_cases hlt : k < N + 1
    · have hlI : (k : Int) < (N : Int) + 1 := by omega
      go_wp2_with fail
      go_loopw [13] (fun j wi => ∃ m : Nat, m ≤ k + 1 ∧ j = .int .i64 m ∧ I (gridJ k ++ rowJ k m) wi) (fun j _ => k + 1 - (intOf j).toNat)
      case atStart => exact ⟨0, Nat.zero_le _, rfl, by rw [rowJ_zero, List.append_nil]; exact HI.out⟩
      case round =>
        clear HI
        obtain ⟨m, hm, rfl, hI⟩ := hrel
        have HI := hid hI
        clear hI
        by_cases hml : m < k + 1
        · have hmI : (m : Int) < (k : Int) + 1 := by omega
          have HC := hid (HV.out _ (k : Int) (m : Int) wr (by omega) (by omega) (by omega) (seenJ_len (n := k) (m := m) (by omega) (by omega)) HI.out)
          go_wp2_with fail
          refine HC.out.mono ?_
          rintro e w2 ⟨rfl, hI2⟩
          have HI2 := hid hI2
          clear hI2
          go_wp2_with fail
          go_roundw
          case rel => exact ⟨m + 1, hml, by go_num, by rw [rowJ_succ, ← List.append_assoc]; exact HI2.out⟩
          case measure => simp [intOf]; omega
        · obtain rfl : m = k + 1 := by omega
          go_wp2_with fail
          go_roundw
          case rel => exact ⟨k + 1, hlt, by go_num, by rw [gridJ_succ]; exact HI.out⟩
          case measure => simp [intOf]; omega
    · obtain rfl : k = N + 1 := by omega
      go_wp2_with fail
      refine bodyPost_end (v := .tuple #[]) ?_ rfl ⟨rfl, HI.out⟩
      simp [results, Try.results78, go_sem]
end Go.Proofs.Ytdahhcigphhfdaa
