/- Whether a list of lists holds a list, as the laws ask; which of two lists comes before. -/
import Derived.Test.YtoaopmafokoaoaaAsG
namespace Go.Proofs.Ytoaopmafokoaoaa
open Go.RowKit

theorem mem_atG {L : List (List Int)} {x : List Int} (hm : x ∈ L) : ∃ j, j < L.length ∧ L.getD j [] = x := by
  obtain ⟨j, hj, rfl⟩ := List.getElem_of_mem hm
  exact ⟨j, hj, by simp [hj]⟩
theorem at_memG {L : List (List Int)} {j : Nat} (hj : j < L.length) : L.getD j [] ∈ L := by
  rw [List.getD_eq_getElem?_getD, List.getElem?_eq_getElem hj, Option.getD_some]; exact List.getElem_mem _
set_option maxHeartbeats 2000000 in
theorem vHas_memG (a : Option Addr) (c : Nat) (v : Value) (L : List (List Int)) (x : List Int) (w : World) (hx : RG w a c L) (hy : Ints w v x) (hm : x ∈ L) (hb : L.length ≤ 1000000000) :
    Calls Try.prog 15 #[.slice a L.length c, v] w fun e w' => e = .returned (.bool true) ∧ ∃ n, w' = w.drewN n := by
  obtain ⟨j0, hj0, hj⟩ := mem_atG hm
  have HX := hid hx
  have HY := hid hy
  have HJ := hid hj
  obtain ⟨n, hn⟩ : ∃ n, L.length = n := ⟨_, rfl⟩
  have HN := hid hn
  rw [hn] at hj0 hb ⊢
  have HJ0 := hid hj0
  obtain ⟨p1, c1, e1, _⟩ := hy
  obtain ⟨N, hN⟩ : ∃ n, x.length = n := ⟨_, rfl⟩
  rw [hN] at e1
  subst e1
  clear hx hm hj hn hN
  go_enter Try.func15, Try.ntmps15
  go_wp2_with fail
  go_loopw [9] (fun i wr => ∃ k m : Nat, k ≤ j0 ∧ i = .int .i64 k ∧ wr = w.drewN m) (fun i _ => n - (intOf i).toNat)
  case atStart => exact ⟨0, 0, Nat.zero_le _, rfl, rfl⟩
  case round =>
    obtain ⟨k, m, hk, rfl, rfl⟩ := hrel
    have hltI : (k : Int) < (n : Int) := by omega
    obtain ⟨ad, a2, c2, rfl, hc, _, hI⟩ := HX.out.2 k (by rw [HN.out]; omega)
    obtain ⟨R, hR⟩ : ∃ R, L.getD k [] = R := ⟨_, rfl⟩
    rw [hR] at hc hI
    obtain ⟨l, hl⟩ : ∃ l, R.length = l := ⟨_, rfl⟩
    rw [hl] at hc hI
    have HK := hid hk
    by_cases h : x = R
    · have HV := hid (vSame_anyG _ _ x R true _ (HY.out.later (Later.drewN w m)) (hI.later (Later.drewN w m)) (decide_eq_true h))
      clear h hR hl hI hk
      go_wp2_with fail
      refine HV.out.mono ?_
      rintro e w1 ⟨rfl, n1, rfl⟩
      go_wp2_with fail
      go_ret
      exact ⟨rfl, m + n1, by simp⟩
    · have HV := hid (vSame_anyG _ _ x R false _ (HY.out.later (Later.drewN w m)) (hI.later (Later.drewN w m)) (decide_eq_false h))
      have HK1 := hid (show k + 1 ≤ j0 by
        have : k ≠ j0 := by intro e; apply h; rw [← HJ.out, ← e, hR]
        omega)
      clear h hR hl hI hk
      go_wp2_with fail
      refine HV.out.mono ?_
      rintro e w1 ⟨rfl, n1, rfl⟩
      go_wp2_with fail
      go_roundw
      case rel => exact ⟨k + 1, m + n1, HK1.out, by go_num, by simp⟩
      case measure => have := HK1.out; have := HJ0.out; simp [intOf]; omega
end Go.Proofs.Ytoaopmafokoaoaa
