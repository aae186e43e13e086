/- The order of lists in the program (Go's library's Compare). -/
import Derived.Test.YtoaopmafokoaoaaBasA
import Derived.Deep.QuietTactic
namespace Go.Proofs.Ytoaopmafokoaoaa
open Go.RowKit

def cmpI (x y : Int) : Int := if x < y then -1 else if y < x then 1 else 0
def cmpLL : List Int → List Int → Int
  | [], [] => 0
  | [], _ :: _ => -1
  | _ :: _, [] => 1
  | x :: xs, y :: ys => if cmpI x y = 0 then cmpLL xs ys else cmpI x y
theorem cmpLL_drop {xs ys : List Int} {k : Nat} (h1 : k < xs.length) (h2 : k < ys.length) :
    cmpLL (xs.drop k) (ys.drop k) = if cmpI (xs.getD k 0) (ys.getD k 0) = 0 then cmpLL (xs.drop (k + 1)) (ys.drop (k + 1)) else cmpI (xs.getD k 0) (ys.getD k 0) := by
  rw [List.drop_eq_getElem_cons h1, List.drop_eq_getElem_cons h2]
  simp only [cmpLL, List.getD_eq_getElem?_getD, List.getElem?_eq_getElem h1, List.getElem?_eq_getElem h2, Option.getD_some]
theorem isNaNC_any (x : Int) (w : World) : Calls Try.prog 154 #[.int .i64 x] w fun e w' => e = .returned (.bool false) ∧ w = w' := by
  go_enter Try.func154, Try.ntmps154
  go_wp2_with fail
  go_ret
  exact ⟨by simp, rfl⟩
theorem cmpInt_any (x y : Int) (w : World) : Calls Try.prog 140 #[.int .i64 x, .int .i64 y] w fun e w' => e = .returned (.int .i64 (cmpI x y)) ∧ w = w' := by
  by_cases h1 : x < y
  · have HE := hid (show cmpI x y = -1 by unfold cmpI; rw [if_pos h1])
    rw [HE.out]
    go_enter Try.func140, Try.ntmps140
    go_wp2_with (go_at_call 154; refine (isNaNC_any _ _).mono ?_; rintro e w2 ⟨rfl, rfl⟩)
    go_ret
    exact ⟨rfl, rfl⟩
  · by_cases h2 : y < x
    · have HE := hid (show cmpI x y = 1 by unfold cmpI; rw [if_neg h1, if_pos h2])
      rw [HE.out]
      go_enter Try.func140, Try.ntmps140
      go_wp2_with (go_at_call 154; refine (isNaNC_any _ _).mono ?_; rintro e w2 ⟨rfl, rfl⟩)
      go_ret
      exact ⟨rfl, rfl⟩
    · have HE := hid (show cmpI x y = 0 by unfold cmpI; rw [if_neg h1, if_neg h2])
      rw [HE.out]
      go_enter Try.func140, Try.ntmps140
      go_wp2_with (go_at_call 154; refine (isNaNC_any _ _).mono ?_; rintro e w2 ⟨rfl, rfl⟩)
      go_ret
      exact ⟨rfl, rfl⟩

set_option maxRecDepth 20000 in
set_option maxHeartbeats 2000000 in
theorem compareL_any (v u : Value) (xs ys : List Int) (n : Nat) (w : World) (hx : xs.length = n) (hy : ys.length = n) (h1 : Ints w v xs) (h2 : Ints w u ys) :
    Calls Try.prog 108 #[v, u] w fun e w' => e = .returned (.int .i64 (cmpLL xs ys)) ∧ w = w' := by
  obtain ⟨a, ca, rfl, hl, hc⟩ := h1
  obtain ⟨b, cb, rfl, _, hd⟩ := h2
  have HC := hid hc
  have HD := hid hd
  have HDR := hid (fun k (h : k < n) => cmpLL_drop (xs := xs) (ys := ys) (k := k) (by omega) (by omega))
  have HZ := hid (show cmpLL (xs.drop n) (ys.drop n) = 0 by rw [List.drop_of_length_le (by omega), List.drop_of_length_le (by omega)]; rfl)
  obtain ⟨o, ho⟩ : ∃ o, cmpLL xs ys = o := ⟨_, rfl⟩
  rw [ho]
  have HO0 := hid (show cmpLL (xs.drop 0) (ys.drop 0) = o from ho)
  rw [hx] at hl HC ⊢
  rw [hy] at HD ⊢
  clear hc hd ho hx hy
  go_enter Try.func108, Try.ntmps108
  go_wp2_with fail
  go_loop [11] (fun i => ∃ k : Nat, k ≤ n ∧ i = .int .i64 k ∧ cmpLL (xs.drop k) (ys.drop k) = o) (fun i => n - (intOf i).toNat)
  case atStart => exact ⟨0, Nat.zero_le _, rfl, HO0.out⟩
  case round =>
    obtain ⟨k, hk, rfl, hpre⟩ := hrel
    have HP := hid hpre
    clear hpre
    by_cases hlt : k < n
    · have hltI : (k : Int) < (n : Int) := by omega
      obtain ⟨ad, rfl, hcell⟩ := HC.out k hlt
      obtain ⟨bd, rfl, hdell⟩ := HD.out k hlt
      have HK := hid (HDR.out k hlt)
      rw [HP.out] at HK
      obtain ⟨x, hx⟩ : ∃ x, xs.getD k 0 = x := ⟨_, rfl⟩
      obtain ⟨y, hy⟩ : ∃ y, ys.getD k 0 = y := ⟨_, rfl⟩
      rw [hx] at hcell HK
      rw [hy] at hdell HK
      clear hx hy
      obtain ⟨c, hcc⟩ : ∃ c, cmpI x y = c := ⟨_, rfl⟩
      have HCI := hid (fun w' => show Calls Try.prog 140 #[.int .i64 x, .int .i64 y] w' fun e w2 => e = .returned (.int .i64 c) ∧ w' = w2 by rw [← hcc]; exact cmpInt_any x y w')
      rw [hcc] at HK
      clear hcc
      by_cases h0 : c = 0
      · have HN := hid (HK.out.trans (if_pos h0)).symm
        have hne : (c != 0) = false := by simp [h0]
        clear h0
        go_wp2_with (go_at_call 140; refine (HCI.out _).mono ?_; rintro e w2 ⟨rfl, rfl⟩)
        go_round
        case rel => exact ⟨k + 1, hlt, by go_num, HN.out⟩
        case measure => simp [intOf]; omega
      · have HN := hid (HK.out.trans (if_neg h0)).symm
        have hne : (c != 0) = true := by simp [h0]
        clear h0
        go_wp2_with (go_at_call 140; refine (HCI.out _).mono ?_; rintro e w2 ⟨rfl, rfl⟩)
        go_ret
        exact ⟨ret_int HN.out, rfl⟩
    · obtain rfl : k = n := by omega
      have HN := hid (HP.out.symm.trans HZ.out)
      go_wp2_with fail
      go_ret
      exact ⟨ret_int HN.out.symm, rfl⟩

end Go.Proofs.Ytoaopmafokoaoaa
