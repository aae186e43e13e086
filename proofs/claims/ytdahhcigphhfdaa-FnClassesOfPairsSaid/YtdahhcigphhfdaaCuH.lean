/- What the law of classes calls: vSame at two lists of two numbers, vHas, vBefore. -/
import Derived.Test.YtdahhcigphhfdaaRwJ
import Derived.Test.YtdahhcigphhfdaaJlC
namespace Go.Proofs.Ytdahhcigphhfdaa
open Go.RowKit

theorem vSame_two (u v : Value) (a b p q : Int) (t : Bool) (w : World) (hx : Ints w u [a, b]) (hy : Ints w v [p, q]) (ht : decide (a = p ∧ b = q) = t) :
    Calls Try.prog 17 #[u, v] w fun e w' => e = .returned (.bool t) ∧ ∃ n, w' = w.drewN n := by
  have HX := hid hx
  have HY := hid hy
  have HT := hid ht
  obtain ⟨ad, cap, rfl, c0, c1⟩ := hx.twoJ
  obtain ⟨ad2, cap2, rfl, d0, d1⟩ := hy.twoJ
  clear hx hy ht
  go_enter Try.func17, Try.ntmps17
  go_wp2_with fail
  go_loopw [13] (fun i wr => ∃ n : Nat, ((i = .int .i64 0) ∨ (i = .int .i64 1 ∧ a = p) ∨ (i = .int .i64 2 ∧ a = p ∧ b = q)) ∧ wr = w.drewN n) (fun i _ => 2 - (intOf i).toNat)
  case atStart => exact ⟨0, .inl rfl, rfl⟩
  case round =>
    obtain ⟨n, hrel, rfl⟩ := hrel
    rcases hrel with rfl | ⟨rfl, e1⟩ | ⟨rfl, e1, e2⟩
    · by_cases h : a = p
      · have hb : (a != p) = false := by simp [h]
        have H := hid h
        clear h
        go_wp2_with fail
        go_quiet (fail)
        go_wp2_with fail
        go_roundw
        case rel => exact ⟨n + nq, .inr (.inl ⟨rfl, H.out⟩), by simp⟩
        case measure => simp [intOf]
      · have hb : (a != p) = true := by simp [h]
        have H := hid h
        clear h
        go_wp2_with fail
        go_quiet (fail)
        go_wp2_with fail
        go_ret
        exact ⟨by rw [← HT.out]; simp [H.out], n + nq, by simp⟩
    · have H1 := hid e1
      clear e1
      by_cases h : b = q
      · have hb : (b != q) = false := by simp [h]
        have H := hid h
        clear h
        go_wp2_with fail
        go_quiet (fail)
        go_wp2_with fail
        go_roundw
        case rel => exact ⟨n + nq, .inr (.inr ⟨rfl, H1.out, H.out⟩), by simp⟩
        case measure => simp [intOf]
      · have hb : (b != q) = true := by simp [h]
        have H := hid h
        clear h
        go_wp2_with fail
        go_quiet (fail)
        go_wp2_with fail
        go_ret
        exact ⟨by rw [← HT.out]; simp [H.out], n + nq, by simp⟩
    · have H1 := hid e1
      have H2 := hid e2
      clear e1 e2
      go_wp2_with fail
      go_ret
      exact ⟨by rw [← HT.out]; simp [H1.out, H2.out], n, rfl⟩
theorem vBefore_lt (u v : Value) (a b p q : Int) (w : World) (hx : Ints w u [a, b]) (hy : Ints w v [p, q]) (hl : LtJ (a, b) (p, q)) :
    Calls Try.prog 24 #[u, v] w fun e w' => e = .returned (.bool true) ∧ ∃ n, w' = w.drewN n := by
  have HL := hid hl
  obtain ⟨ad, cap, rfl, c0, c1⟩ := hx.twoJ
  obtain ⟨ad2, cap2, rfl, d0, d1⟩ := hy.twoJ
  clear hx hy hl
  go_enter Try.func24, Try.ntmps24
  go_wp2_with fail
  go_loopw [5] (fun i wr => ∃ n : Nat, ((i = .int .i64 0) ∨ (i = .int .i64 1 ∧ a = p ∧ b < q)) ∧ wr = w.drewN n) (fun i _ => 2 - (intOf i).toNat)
  case atStart => exact ⟨0, .inl rfl, rfl⟩
  case round =>
    obtain ⟨n, hrel, rfl⟩ := hrel
    rcases hrel with rfl | ⟨rfl, e1, e2⟩
    · by_cases h : a = p
      · have hb : (a != p) = false := by simp [h]
        have H := hid h
        have H2 := hid (show b < q by rcases HL.out with h1 | h1 <;> simp only at h1 <;> omega)
        clear h
        go_wp2_with fail
        go_quiet (fail)
        go_wp2_with fail
        go_roundw
        case rel => exact ⟨n + nq, .inr ⟨rfl, H.out, H2.out⟩, by simp⟩
        case measure => simp [intOf]
      · have hb : (a != p) = true := by simp [h]
        have hlt : a < p := by rcases HL.out with h1 | h1 <;> simp only at h1 <;> omega
        clear h
        go_wp2_with fail
        go_quiet (fail)
        go_wp2_with fail
        go_quiet (fail)
        go_wp2_with fail
        go_ret
        exact ⟨by simp, _, by simp; rfl⟩
    · have hb : (b != q) = true := by simp; omega
      clear e1
      go_wp2_with fail
      go_quiet (fail)
      go_wp2_with fail
      go_quiet (fail)
      go_wp2_with fail
      go_ret
      exact ⟨by simp, _, by simp; rfl⟩
theorem vHas_in (u v : Value) (C : List Jp2) (a b : Int) (w : World) (hx : Rows2 w u (C.map jpL)) (hy : Ints w v [a, b]) (hm : (a, b) ∈ C) (hb : C.length ≤ 1000000) :
    Calls Try.prog 23 #[u, v] w fun e w' => e = .returned (.bool true) ∧ ∃ n, w' = w.drewN n := by
  obtain ⟨aC, cC, rfl, _⟩ := id hx
  rw [List.length_map] at hx ⊢
  have HX := hid hx
  have HY := hid hy
  have HM := hid hm
  obtain ⟨ad, cap, rfl, c0, c1⟩ := hy.twoJ
  obtain ⟨n, hn⟩ : ∃ n, C.length = n := ⟨_, rfl⟩
  have HN := hid hn
  rw [hn] at HX hb ⊢
  clear hx hy hm hn c0 c1
  go_enter Try.func23, Try.ntmps23
  go_wp2_with fail
  go_loopw [9] (fun i wr => ∃ k m : Nat, k ≤ n ∧ i = .int .i64 k ∧ wr = w.drewN m ∧ ∀ j, j < k → atJ C j ≠ (a, b)) (fun i _ => n - (intOf i).toNat)
  case atStart => exact ⟨0, 0, Nat.zero_le _, rfl, rfl, fun j hj => absurd hj (Nat.not_lt_zero j)⟩
  case round =>
    obtain ⟨k, m, hk, rfl, rfl, hno⟩ := hrel
    have HNO := hid hno
    clear hno
    by_cases hlt : k < n
    · have hltI : (k : Int) < (n : Int) := by omega
      obtain ⟨ad1, ad2, c2, rfl, hc, _, _, hI⟩ := rowTwo HX.out k (by rw [HN.out]; exact hlt)
      obtain ⟨p, hp⟩ : ∃ z, (atJ C k).1 = z := ⟨_, rfl⟩
      obtain ⟨q, hq⟩ : ∃ z, (atJ C k).2 = z := ⟨_, rfl⟩
      rw [hp, hq] at hI
      have HPQ := hid (show atJ C k = (p, q) by rw [← hp, ← hq])
      by_cases h : a = p ∧ b = q
      · have HV := hid (vSame_two _ _ a b p q true _ (HY.out.drewN m) (hI.drewN m) (decide_eq_true h))
        clear h hp hq hI
        go_wp2_with fail
        refine HV.out.mono ?_
        rintro e w1 ⟨rfl, n1, rfl⟩
        go_wp2_with fail
        go_ret
        exact ⟨rfl, m + n1, by simp⟩
      · have HV := hid (vSame_two _ _ a b p q false _ (HY.out.drewN m) (hI.drewN m) (decide_eq_false h))
        have H := hid h
        clear h hp hq hI
        go_wp2_with fail
        refine HV.out.mono ?_
        rintro e w1 ⟨rfl, n1, rfl⟩
        go_wp2_with fail
        go_roundw
        case rel =>
          refine ⟨k + 1, m + n1, hlt, by go_num, by simp, fun j hj => ?_⟩
          by_cases hjk : j = k
          · subst hjk
            rw [HPQ.out]
            intro e
            injection e with e1 e2
            exact H.out ⟨e1.symm, e2.symm⟩
          · exact HNO.out j (by omega)
        case measure => simp [intOf]; omega
    · exfalso
      obtain ⟨i, hi, e⟩ := List.getElem_of_mem HM.out
      refine HNO.out i (by have := HN.out; omega) ?_
      unfold atJ
      rw [List.getD_eq_getElem?_getD, List.getElem?_eq_getElem hi]
      exact e
end Go.Proofs.Ytdahhcigphhfdaa
