/- ChristoffelOf in the model and in the program. -/
import Derived.Test.YtmmapfdmdliifaaGreatDoorWdC
namespace Go.Proofs.YtmmapfdmdliifaaGreatDoor
open Go.RowKit

set_option maxRecDepth 20000 in
set_option maxHeartbeats 2000000 in
theorem nearLetter_any (n b i : Nat) (ab an : Addr) (w : World) (hn : 1 ≤ n) (hn40 : n ≤ 40) (hb40 : b ≤ 40) (hi : i < n) (cb : w.cell? ab = some (.int .i64 (b : Nat))) (cn : w.cell? an = some (.int .i64 (n : Nat))) :
    Calls Tryz.prog 85 #[.int .i64 (i : Nat), .pointer (some ab), .pointer (some an)] w fun e w' => e = .returned (.int .u8 ((chLet b n i).toNat : Nat)) ∧ Later w w' := by
  have hnz : ¬ (n : Int) = 0 := by omega
  have hnz2 : ¬ n = 0 := by omega
  obtain ⟨b1, b2⟩ := quo_bound i b n (by omega) hb40
  obtain ⟨b3, b4⟩ := quo_bound (i + 1) b n (by omega) hb40
  have hlet : chLet b n i = if i * b / n = (i + 1) * b / n then 97 else 98 := rfl
  have m1 : (i : Int) * (b : Int) = ((i * b : Nat) : Int) := (Int.natCast_mul _ _).symm
  have m2 : ((i : Int) + 1) * (b : Int) = (((i + 1) * b : Nat) : Int) := by rw [Int.natCast_mul]; rfl
  obtain ⟨p1, hp1⟩ : ∃ p, i * b = p := ⟨_, rfl⟩
  obtain ⟨p2, hp2⟩ : ∃ p, (i + 1) * b = p := ⟨_, rfl⟩
  rw [hp1] at m1 b1 b2 hlet
  rw [hp2] at m2 b3 b4 hlet
  have d1 : (p1 : Int).tdiv (n : Int) = ((p1 / n : Nat) : Int) := by rw [Int.tdiv_eq_ediv_of_nonneg (Int.natCast_nonneg _)]; rfl
  have d2 : (p2 : Int).tdiv (n : Int) = ((p2 / n : Nat) : Int) := by rw [Int.tdiv_eq_ediv_of_nonneg (Int.natCast_nonneg _)]; rfl
  obtain ⟨q1, hq1⟩ : ∃ q, p1 / n = q := ⟨_, rfl⟩
  obtain ⟨q2, hq2⟩ : ∃ q, p2 / n = q := ⟨_, rfl⟩
  rw [hq1] at d1 b2 hlet
  rw [hq2] at d2 b4 hlet
  have w1 : IntKind.i64.wrap (p1 : Int) = (p1 : Int) := by rw [IntWalk.i64_left]; exact IntWalk.wrap64_in _ (by omega)
  have w2 : IntKind.i64.wrap (p2 : Int) = (p2 : Int) := by rw [IntWalk.i64_left]; exact IntWalk.wrap64_in _ (by omega)
  have w3 : IntKind.i64.wrap (q1 : Int) = (q1 : Int) := by rw [IntWalk.i64_left]; exact IntWalk.wrap64_in _ (by omega)
  have w4 : IntKind.i64.wrap (q2 : Int) = (q2 : Int) := by rw [IntWalk.i64_left]; exact IntWalk.wrap64_in _ (by omega)
  have w5 : IntKind.i64.wrap ((i : Int) + 1) = (i : Int) + 1 := by rw [IntWalk.i64_left]; exact IntWalk.wrap64_in _ (by omega)
  clear hp1 hp2 hq1 hq2
  by_cases hqq : q1 = q2
  · have hbq : ((q1 : Int) == (q2 : Int)) = true := by rw [hqq]; simp
    have HW2 := hid (show chLet b n i = 97 by rw [hlet, if_pos hqq])
    rw [HW2.out]
    clear hqq hlet
    go_enter Tryz.func85, Tryz.ntmps85
    go_wp2_with fail
    go_quiet (fail)
    go_wp2_with fail
    go_ret
    exact ⟨rfl, Later.drewN _ _⟩
  · have hbq : ((q1 : Int) == (q2 : Int)) = false := by rw [beq_eq_false_iff_ne]; omega
    have HW2 := hid (show chLet b n i = 98 by rw [hlet, if_neg hqq])
    rw [HW2.out]
    clear hqq hlet
    go_enter Tryz.func85, Tryz.ntmps85
    go_wp2_with fail
    go_quiet (fail)
    go_wp2_with fail
    go_ret
    exact ⟨rfl, Later.drewN _ _⟩

/-- one result, a variable of its own -/
theorem results_cell_1 {fn : Func} {p : Tmp} {ty : TypeId} (h : fn.results = #[.cell p ty]) (tmps : Array Value) (P : Program) (w : World) :
    (results fn tmps).run P w = ((asAddr (tmps.getD p undef)).run P w).andThen fun a w₁ => (loadVar ty a).run P w₁ := by
  simp only [results, h]
  simp [Sem.run_bind, Result.andThen]
/-- A value that spells l from w on: a length and a function value that tells the letters. -/
def Spells (w : World) (v : Value) (l : List UInt8) : Prop :=
  ∃ (F : Nat) (caps : Array Value), v = .agg #[.int .i64 (l.length : Nat), .func (.func F) #[] caps] ∧ (∀ args w, (callFunc F args).run Tryz.prog w = .ok (.enter F args) w) ∧
    ∀ i w1, i < l.length → Later w w1 → Calls Tryz.prog F (#[.int .i64 (i : Nat)] ++ caps) w1 fun e w2 => e = .returned (.int .u8 ((l.getD i 0).toNat : Nat)) ∧ Later w1 w2
theorem Spells.text {w : World} {v : Value} {l : List UInt8} (h : Spells w v l) (hl : l.length ≤ 1048576) :
    Calls Tryz.prog 62 #[v] w fun e w' => e = .returned (.string ⟨l.toArray⟩) ∧ Later w w' := by
  obtain ⟨F, caps, rfl, eg, hF⟩ := h
  exact text_any l F caps w hl eg hF

set_option maxRecDepth 20000 in
set_option maxHeartbeats 1000000 in
theorem nearest_any (a b : Nat) (w : World) (h1 : 1 ≤ a + b) (h40 : a + b ≤ 40) :
    Calls Tryz.prog 61 #[.int .i64 (a : Nat), .int .i64 (b : Nat)] w fun e w' => ∃ v, e = .returned v ∧ Spells w' v (chW a b) ∧ Later w w' := by
  obtain ⟨n, hn⟩ : ∃ n, a + b = n := ⟨_, rfl⟩
  have hnI : (a : Int) + (b : Int) = (n : Int) := by omega
  have HB := hid (show b ≤ 40 by omega)
  have HN1 := hid (show 1 ≤ n by omega)
  have HN40 := hid (show n ≤ 40 by omega)
  have HN := hid hn
  have hn64 : n ≤ 40 := by omega
  clear hn h1 h40
  obtain ⟨W, hW⟩ : ∃ W, W = ((w.alloc (.cells #[Value.int .i64 (b : Nat)] 3)).alloc (.cells #[Value.int .i64 (n : Nat), Value.func (.func 85) #[] #[.pointer (some ⟨w.heap.size, 0, none⟩), .pointer (some ⟨w.heap.size + 1 + 1, 0, none⟩)]] 77)).alloc (.cells #[Value.int .i64 (n : Nat)] 3) := ⟨_, rfl⟩
  have cb : W.cell? ⟨w.heap.size, 0, none⟩ = some (.int .i64 (b : Nat)) := by rw [hW]; simp [go_sem]
  have cn : W.cell? ⟨w.heap.size + 1 + 1, 0, none⟩ = some (.int .i64 (n : Nat)) := by rw [hW]; simp [go_sem]
  have r0 : W.cell? ⟨w.heap.size + 1, 0, none⟩ = some (.int .i64 (n : Nat)) := by rw [hW]; simp [go_sem]
  have r1 : W.cell? ⟨w.heap.size + 1, 1, none⟩ = some (.func (.func 85) #[] #[.pointer (some ⟨w.heap.size, 0, none⟩), .pointer (some ⟨w.heap.size + 1 + 1, 0, none⟩)]) := by rw [hW]; simp [go_sem]
  have HL := hid (show Later w W from hW ▸ ((Later.alloc w _).trans (Later.alloc _ _)).trans (Later.alloc _ _))
  have HSP := hid (show Spells W (.agg #[.int .i64 (n : Nat), .func (.func 85) #[] #[.pointer (some ⟨w.heap.size, 0, none⟩), .pointer (some ⟨w.heap.size + 1 + 1, 0, none⟩)]]) (chW a b) from
    ⟨85, _, by rw [chW_len, HN.out], Tryz.call85, fun i w1 hi hL => by
      rw [chW_len, HN.out] at hi
      have h2 := chW_at a b i (by rw [HN.out]; exact hi)
      rw [HN.out] at h2
      rw [List.getD_eq_getElem?_getD, h2]
      exact nearLetter_any n b i _ _ w1 HN1.out HN40.out HB.out hi (hL.cell cb) (hL.cell cn)⟩)
  have HW := hid hW
  have R0 := hid r0
  have R1 := hid r1
  clear hW cb cn r0 r1
  go_enter Tryz.func61, Tryz.ntmps61
  go_wp2_with fail
  rw [← HW.out]
  have r0 := R0.out
  have r1 := R1.out
  refine bodyPost_ret (v := .agg #[.int .i64 (n : Nat), .func (.func 85) #[] #[.pointer (some ⟨w.heap.size, 0, none⟩), .pointer (some ⟨w.heap.size + 1 + 1, 0, none⟩)]]) ?_ rfl ⟨_, rfl, HSP.out, HL.out⟩
  rw [results_cell_1 rfl]
  go_simp

theorem isLetterCount_any (x : Int) (w : World) : Calls Tryz.prog 59 #[.int .i64 x] w fun e w' => e = .returned (.bool (within 0 40 x)) ∧ w = w' := by
  by_cases h1 : 0 ≤ x
  · have hb1 : decide (0 ≤ x) = true := decide_eq_true h1
    go_enter Tryz.func59, Tryz.ntmps59
    go_wp2_with fail
    go_ret
    exact ⟨ret_bool (by simp [within, h1]), rfl⟩
  · have hb : decide (0 ≤ x) = false := decide_eq_false h1
    go_enter Tryz.func59, Tryz.ntmps59
    go_wp2_with fail
    go_ret
    exact ⟨ret_bool (by simp [within]; omega), rfl⟩
theorem isLetterCount_as (x : Int) (b : Bool) (w : World) (h : within 0 40 x = b) : Calls Tryz.prog 59 #[.int .i64 x] w fun e w' => e = .returned (.bool b) ∧ w = w' := by
  subst h; exact isLetterCount_any x w
theorem within_iff (lo hi x : Int) : within lo hi x = true ↔ lo ≤ x ∧ x ≤ hi := by simp [within]
theorem within_not {lo hi x : Int} (h : ¬ (lo ≤ x ∧ x ≤ hi)) : within lo hi x = false := by
  cases e : within lo hi x
  · rfl
  · exact (h ((within_iff _ _ _).1 e)).elim
theorem mid40 {x : Int} (h : 0 ≤ x ∧ x ≤ 40) : Mid x := by unfold Mid; omega
theorem gcd_zero : gcdW 0 0 = 0 := by decide

set_option maxRecDepth 20000 in
set_option maxHeartbeats 2000000 in
theorem implChristoffelOf_any (a b : Int) (w : World) : Calls Tryz.prog 35 #[.int .i64 a, .int .i64 b] w fun e w' => StrAns w (chAns a b) e w' := by
  have HIA := hid (fun b w h => isLetterCount_as a b w h)
  have HIB := hid (fun c w h => isLetterCount_as b c w h)
  by_cases ha : 0 ≤ a ∧ a ≤ 40
  · have HWA := hid ((within_iff 0 40 a).2 ha)
    by_cases hb : 0 ≤ b ∧ b ≤ 40
    · have HWB := hid ((within_iff 0 40 b).2 hb)
      obtain ⟨ha1, ha2⟩ := ha
      obtain ⟨hb1, hb2⟩ := hb
      by_cases hs : 40 < a + b
      · have HA := hid (show chAns a b = none by unfold chAns; rw [if_neg (fun h => by have := h.2.2.2.1; omega)])
        go_enter Tryz.func35, Tryz.ntmps35
        go_wp2_with fail
        refine (HIA.out true _ HWA.out).mono ?_
        rintro e w' ⟨rfl, rfl⟩
        go_wp2_with fail
        refine (HIB.out true _ HWB.out).mono ?_
        rintro e w' ⟨rfl, rfl⟩
        go_wp2_with fail
        go_ret2
        rw [HA.out]
        exact ⟨rfl, Later.refl _⟩
      · have HG := hid (fun w => commonDivisor_any a b w (mid40 ⟨ha1, ha2⟩) (mid40 ⟨hb1, hb2⟩))
        by_cases hg : gcdW a b = 1
        · obtain ⟨p, rfl⟩ : ∃ p : Nat, a = (p : Int) := ⟨a.toNat, by omega⟩
          obtain ⟨q, rfl⟩ : ∃ q : Nat, b = (q : Int) := ⟨b.toNat, by omega⟩
          have h1 : 1 ≤ p + q := by
            rcases Nat.eq_zero_or_pos (p + q) with h0 | h0
            · obtain rfl : p = 0 := by omega
              obtain rfl : q = 0 := by omega
              have := gcd_zero
              rw [show ((0 : Nat) : Int) = 0 from rfl, this] at hg
              omega
            · exact h0
          have h40 : p + q ≤ 40 := by omega
          have HA := hid (show chAns (p : Int) (q : Int) = some (chW p q) by unfold chAns; rw [if_pos ⟨ha1, ha2, hb1, by omega, hg⟩]; rfl)
          have hgb : (gcdW (p : Int) (q : Int) != 1) = false := by rw [hg]; rfl
          have HNR := hid (fun w => nearest_any p q w h1 h40)
          have HLEN := hid (show (chW p q).length ≤ 1048576 by rw [chW_len]; omega)
          rw [hg] at HG
          clear hg hgb h1
          go_enter Tryz.func35, Tryz.ntmps35
          go_wp2_with fail
          refine (HIA.out true _ HWA.out).mono ?_
          rintro e w' ⟨rfl, rfl⟩
          go_wp2_with fail
          refine (HIB.out true _ HWB.out).mono ?_
          rintro e w' ⟨rfl, rfl⟩
          go_wp2_with fail
          refine (HG.out _).mono ?_
          rintro e w1 ⟨rfl, hL1⟩
          have HL1 := hid hL1
          clear hL1
          go_wp2_with fail
          refine (HNR.out _).mono ?_
          rintro e w2 ⟨v, rfl, hsp, hL2⟩
          have HSP := hid hsp
          have HL2 := hid (HL1.out.trans hL2)
          clear hsp hL2
          go_wp2_with fail
          refine (HSP.out.text HLEN.out).mono ?_
          rintro e w3 ⟨rfl, hL3⟩
          have HL3 := hid (HL2.out.trans hL3)
          clear hL3
          go_wp2_with fail
          go_ret2
          rw [HA.out]
          exact ⟨rfl, HL3.out⟩
        · have HA := hid (show chAns a b = none by unfold chAns; rw [if_neg (fun h => hg h.2.2.2.2)])
          have hgb : (gcdW a b != 1) = true := by simp [hg]
          obtain ⟨g, hgv⟩ : ∃ g, gcdW a b = g := ⟨_, rfl⟩
          rw [hgv] at HG hgb
          clear hg hgv
          go_enter Tryz.func35, Tryz.ntmps35
          go_wp2_with fail
          refine (HIA.out true _ HWA.out).mono ?_
          rintro e w' ⟨rfl, rfl⟩
          go_wp2_with fail
          refine (HIB.out true _ HWB.out).mono ?_
          rintro e w' ⟨rfl, rfl⟩
          go_wp2_with fail
          refine (HG.out _).mono ?_
          rintro e w1 ⟨rfl, hL1⟩
          have HL1 := hid hL1
          clear hL1
          go_wp2_with fail
          go_ret2
          rw [HA.out]
          exact ⟨rfl, HL1.out⟩
    · have HWB := hid (within_not hb)
      have HA := hid (show chAns a b = none by unfold chAns; rw [if_neg (fun h => hb ⟨h.2.2.1, by have := h.2.2.2.1; omega⟩)])
      clear ha hb
      go_enter Tryz.func35, Tryz.ntmps35
      go_wp2_with fail
      refine (HIA.out true _ HWA.out).mono ?_
      rintro e w' ⟨rfl, rfl⟩
      go_wp2_with fail
      refine (HIB.out false _ HWB.out).mono ?_
      rintro e w' ⟨rfl, rfl⟩
      go_wp2_with fail
      go_ret2
      rw [HA.out]
      exact ⟨rfl, Later.refl _⟩
  · have HWA := hid (within_not ha)
    have HA := hid (show chAns a b = none by unfold chAns; rw [if_neg (fun h => ha ⟨h.1, h.2.1⟩)])
    clear ha
    go_enter Tryz.func35, Tryz.ntmps35
    go_wp2_with fail
    refine (HIA.out false _ HWA.out).mono ?_
    rintro e w' ⟨rfl, rfl⟩
    go_wp2_with fail
    go_ret2
    rw [HA.out]
    exact ⟨rfl, Later.refl _⟩
end Go.Proofs.YtmmapfdmdliifaaGreatDoor
