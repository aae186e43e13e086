/- Contracts of TraceOf. -/
import Derived.Test.YtedgccbogjinhaaAnswer
namespace Go.Proofs.Ytedgccbogjinhaa
open Go.RowKit

def traceW (m : List (List Int)) : Int := wsum (fun i => ent m i i) m.length
def traceAns (m : List (List Int)) : Option Int := whenGood 1000000 m (traceW m)

theorem traceEntry_any (n : Nat) (m : List (List Int)) (hq : Sq n m) (u : Value) (i : Nat) (w : World) (hi : i < n) (h : Ints w u (m.getD i [])) :
    Calls Try.prog 101 #[.int .i64 i, u] w fun e w' => e = .returned (.int .i64 (ent m i i)) ∧ w = w' := by
  obtain ⟨a, cap, rfl, hl, hc⟩ := h
  rw [hq.2 i hi] at hc
  obtain ⟨ad, rfl, hx⟩ := hc i hi
  rw [hq.2 i hi]
  have hx2 : w.cell? (ad.add i) = some (.int .i64 (ent m i i)) := hx
  have hi2 : (i : Int) < (n : Int) := by omega
  clear hx hc
  go_enter Try.func101, Try.ntmps101
  go_wp2_with fail
  go_ret
  exact ⟨rfl, rfl⟩

theorem trace_any (m : List (List Int)) (hq : Sq m.length m) (v : Value) (w : World) (h : Rows2 w v m) :
    Calls Try.prog 80 #[v] w fun e w' => e = .returned (.int .i64 (traceW m)) ∧ Later w w' := by
  have H := hid h
  clear h
  go_enter Try.func80, Try.ntmps80
  go_wp2_with fail
  refine (sumOverRows_any v m 101 #[] (fun i => ent m i i) _ Try.call101 H.out (fun i u w1 hi _ hu => (traceEntry_any m.length m hq u i w1 hi hu).mono fun e w2 ⟨he, hw⟩ => ⟨he, by subst hw; exact Later.refl _⟩)).mono ?_
  rintro e w1 ⟨rfl, hL⟩
  have HL := hid hL
  clear hL
  go_wp2_with fail
  go_ret
  exact ⟨rfl, HL.out⟩

set_option maxHeartbeats 400000 in
theorem implTraceOf_any (v : Value) (m : List (List Int)) (w : World) (h : Rows2 w v m) :
    Calls Try.prog 39 #[.agg #[v]] w fun e w' => NumAns w (traceAns m) e w' := by
  obtain ⟨a, cap, rfl, hl, _⟩ := id h
  have HR := hid (h.later (Later.alloc w (.cells #[Value.slice a m.length cap] 27)))
  have HL := hid (Later.alloc w (.cells #[Value.slice a m.length cap] 27))
  clear h
  go_enter Try.func39, Try.ntmps39
  go_wp2_with fail
  refine (answerInt_any _ m 1000000 80 (traceW m) _ ⟨by omega, by omega⟩ HR.out Try.call80 (fun hg u w2 hu => trace_any m (goodM_sq hg).2.2 u w2 hu)).mono ?_
  rintro e w2 ⟨rfl, hL⟩
  have HL2 := hid (HL.out.trans hL)
  clear hL
  go_wp2_with fail
  go_ret2
  exact ⟨rfl, HL2.out⟩

set_option maxHeartbeats 1000000 in
theorem specTraceOf_any (v : Value) (m : List (List Int)) (w : World) (h : Rows2 w v m) :
    Calls Try.prog 38 #[.agg #[v]] w fun e w' => NumAns w (traceAns m) e w' := by
  obtain ⟨a, cap, rfl, hl, _⟩ := id h
  have hb0 : (w.alloc (.cells #[Value.slice a m.length cap] 27)).cell? ⟨w.heap.size, 0, none⟩ = some (.slice a m.length cap) := by simp [go_sem]
  have HR := hid (h.later (Later.alloc w (.cells #[Value.slice a m.length cap] 27)))
  have HL := hid (Later.alloc w (.cells #[Value.slice a m.length cap] 27))
  clear h
  go_enter Try.func38, Try.ntmps38
  go_wp2_with fail
  generalize w.alloc (.cells #[Value.slice a m.length cap] 27) = w1 at hb0 HR HL ⊢
  refine (foGood_any _ m _ HR.out).mono ?_
  rintro e w2 ⟨rfl, hL⟩
  have hb2 := hL.cell hb0
  have HR2 := hid (HR.out.later hL)
  have HL2 := hid (HL.out.trans hL)
  clear hL hb0
  cases hg : goodM 1000000 m
  · have HG := hid (whenGood_no (r := traceW m) hg); clear hg
    go_wp2_with fail
    go_ret2
    exact ⟨by unfold traceAns; rw [HG.out]; rfl, HL2.out⟩
  · have hsq := hid (goodM_sq hg)
    have hn4 : m.length ≤ 4 := (goodM_sq hg).2.1
    have HG := hid (whenGood_yes (r := traceW m) hg); clear hg
    go_wp2_with fail
    go_loop [4, 13] (fun s x => ∃ k : Nat, k ≤ m.length ∧ x = .int .i64 k ∧ s = .int .i64 (wsum (fun i => ent m i i) k)) (fun _ x => m.length - (intOf x).toNat)
    case atStart => exact ⟨0, Nat.zero_le _, rfl, rfl⟩
    case round =>
      obtain ⟨k, hk, rfl, rfl⟩ := hrel
      by_cases hlt : k < m.length
      · obtain ⟨ad, cap', ar, cr, hv, hcr, _, hx⟩ := HR2.out.ent hsq.out.2.2 k hlt
        obtain ⟨ad2, rfl, hcx⟩ := hx k hlt
        simp only [Value.slice.injEq, true_and] at hv
        obtain ⟨rfl, rfl⟩ := hv
        have hi2 : (k : Int) < (m.length : Int) := by omega
        clear hx
        go_wp2_with fail
        go_round
        case rel => exact ⟨k + 1, hlt, by go_num, rfl⟩
        case measure => simp [intOf]; omega
      · have hkm : k = m.length := by omega
        subst hkm
        go_wp2_with fail
        go_ret2
        exact ⟨by unfold traceAns; rw [HG.out]; rfl, HL2.out⟩
end Go.Proofs.Ytedgccbogjinhaa
