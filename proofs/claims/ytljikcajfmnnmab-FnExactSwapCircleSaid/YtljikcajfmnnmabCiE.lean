/- Slices of circles: areCircles (the program), ciFour (the model). -/
import Derived.Test.YtljikcajfmnnmabCiD
import Derived.Test.YtljikcajfmnnmabLayCfC
namespace Go.Proofs.Ytljikcajfmnnmab
open Go.RowKit

set_option maxRecDepth 20000 in
theorem notCircle_any (a b x y : Int) (w : World) :
    Calls Try.prog 61 #[.agg #[.int .i64 a, .int .i64 b, .int .i64 x, .int .i64 y]] w fun e w' => BoolRes w (!ciB (a, b, x, y)) e w' := by
  have HL := hid (Later.alloc w (.cells #[.int .i64 a, .int .i64 b, .int .i64 x, .int .i64 y] 50))
  go_enter Try.func61, Try.ntmps61
  go_wp2_with fail
  generalize w.alloc (.cells #[.int .i64 a, .int .i64 b, .int .i64 x, .int .i64 y] 50) = w1 at HL ⊢
  refine (isCircle_any a b x y _).mono ?_
  rintro e w2 ⟨rfl, hL⟩
  have HL2 := hid (HL.out.trans hL)
  clear hL
  go_wp2_with fail
  go_ret
  exact ⟨rfl, HL2.out⟩
theorem indexNil_any (a : Option Addr) (c : Nat) (f : Value) (w : World) :
    Calls Try.prog 71 #[.slice a 0 c, f] w fun e w' => e = .returned (.int .i64 (-1)) ∧ w = w' := by
  go_enter Try.func71, Try.ntmps71
  go_wp2_with fail
  refine wp_loop_rounds 1 ?_; rw [rounds_succ]
  go_wp2_with fail
  go_ret
  exact ⟨rfl, rfl⟩
theorem containsNil_any (a : Option Addr) (c : Nat) (f : Value) (w : World) :
    Calls Try.prog 60 #[.slice a 0 c, f] w fun e w' => e = .returned (.bool false) ∧ w = w' := by
  go_enter Try.func60, Try.ntmps60
  go_wp2_with fail
  refine (indexNil_any a c f _).mono ?_
  rintro e w2 ⟨rfl, rfl⟩
  go_wp2_with fail
  go_ret
  exact ⟨rfl, rfl⟩
theorem pred_any (w : World) : PredBelow Try.prog 61 #[] (fun x : Ci4 => .agg (ciVs x).toArray) (fun x => !ciB x) w := by
  intro W x hb
  obtain ⟨a, b, c, d⟩ := x
  refine (notCircle_any a b c d W).mono ?_
  rintro e w' ⟨rfl, hL⟩
  exact ⟨rfl, hb.trans (Below.mono hL hb.size)⟩
theorem any_not (L : List Ci4) : (L.any fun x => !ciB x) = !L.all ciB := by simp [List.not_all_eq_any_not]
theorem containsC_any (v : Value) (L : List Ci4) (w : World) (h : Cis w v L) :
    Calls Try.prog 60 #[v, .func (.func 61) #[] #[]] w fun e w' => BoolRes w (!L.all ciB) e w' := by
  obtain ⟨a, cap, rfl, hl, hcap, hc⟩ := h
  cases L with
  | nil =>
    refine (containsNil_any a cap _ w).mono ?_
    rintro e w' ⟨rfl, rfl⟩
    exact ⟨rfl, Later.refl _⟩
  | cons t L =>
    obtain ⟨g, rfl, h0, _⟩ := hc 0 (by simp)
    have hg : g < w.heap.size := World.block_lt_of_cell? w ⟨g, 0 * 4, none⟩ h0
    refine (AnyQ.slices_ContainsFunc laysCf8 4 Try.isAgg50 Try.sizeOf50 ciVs (fun x => rfl) (fun x => !ciB x) 61 #[] Try.call61 g 0 (t :: L).length cap (t :: L) w (pred_any w) (Nat.le_refl _) (by omega) hg (fun j hj i v hv => ?_)).mono ?_
    · obtain ⟨g', e, c0, c1, c2, c3⟩ := hc j hj
      simp only [Option.some.injEq, Addr.mk.injEq, and_true] at e
      subst e
      rw [show (t :: L)[j]! = (t :: L).getD j c00 by rw [List.getElem!_eq_getElem?_getD, List.getD_eq_getElem?_getD]; rfl] at hv
      have h4 : i = 0 ∨ i = 1 ∨ i = 2 ∨ i = 3 ∨ 4 ≤ i := by omega
      rcases h4 with rfl | rfl | rfl | rfl | h4
      · simp [ciVs] at hv; subst hv; simpa using c0
      · simp [ciVs] at hv; subst hv; simpa using c1
      · simp [ciVs] at hv; subst hv; simpa using c2
      · simp [ciVs] at hv; subst hv; simpa using c3
      · rw [List.getElem?_eq_none (by simp [ciVs]; omega)] at hv
        cases hv
    · rintro e w' ⟨rfl, hb⟩
      rw [List.take_of_length_le (Nat.le_refl _), any_not]
      exact ⟨rfl, hb⟩
theorem areCircles_any (v : Value) (L : List Ci4) (w : World) (h : Cis w v L) :
    Calls Try.prog 40 #[v] w fun e w' => BoolRes w (L.all ciB) e w' := by
  obtain ⟨a, cap, rfl, _⟩ := id h
  have H := hid h
  clear h
  go_enter Try.func40, Try.ntmps40
  go_wp2_with fail
  refine (containsC_any _ L _ H.out).mono ?_
  rintro e w2 ⟨rfl, hL⟩
  have HL := hid hL
  clear hL
  go_wp2_with fail
  go_ret
  exact ⟨ret_bool (by simp), HL.out⟩
theorem areCircles_as (v : Value) (L : List Ci4) (o : Bool) (w : World) (h : Cis w v L) (ho : L.all ciB = o) :
    Calls Try.prog 40 #[v] w fun e w' => BoolRes w o e w' := by
  subst ho; exact areCircles_any v L w h

/-! ### the model's test of four circles -/
def fourB (L : List Ci4) : Bool := decide (L.length = 4) && L.all ciB
theorem all_take (p : Ci4 → Bool) (L : List Ci4) (k : Nat) (h : k < L.length) (ha : (L.take k).all p = true) (hp : p (L.getD k c00) = true) : (L.take (k + 1)).all p = true := by
  rw [show L.getD k c00 = L[k] by simp [h]] at hp
  exact all_take_succ p L k h ha hp
set_option maxRecDepth 20000 in
set_option maxHeartbeats 1000000 in
theorem ciFour_any (v : Value) (L : List Ci4) (w : World) (h : Cis w v L) :
    Calls Try.prog 42 #[v] w fun e w' => BoolRes w (fourB L) e w' := by
  obtain ⟨a, cap, rfl, hl, _⟩ := id h
  have H := hid h
  clear h
  by_cases h4 : L.length = 4
  · have HN := hid h4
    have hne : ((L.length : Int) != 4) = false := by simp [h4]
    have HE := hid (show fourB L = L.all ciB by unfold fourB; rw [decide_eq_true h4, Bool.true_and])
    clear h4
    go_enter Try.func42, Try.ntmps42
    go_wp2_with fail
    go_loopw [10] (fun i wr => ∃ k : Nat, k ≤ L.length ∧ i = .int .i64 k ∧ (L.take k).all ciB = true ∧ Later w wr) (fun i _ => L.length - (intOf i).toNat)
    case atStart => exact ⟨0, Nat.zero_le _, rfl, rfl, Later.refl _⟩
    case round =>
      obtain ⟨k, hk, rfl, hal, hL⟩ := hrel
      have HA := hid hal
      have HL := hid hL
      by_cases hlt : k < L.length
      · obtain ⟨g, rfl, c0, c1, c2, c3⟩ := (H.out.later hL).at k hlt
        have HST := hid (fun hp => all_take ciB L k hlt HA.out hp)
        have HFA := hid (fun (hp : ciB (L.getD k c00) = false) => show L.all ciB = false from all_false_at ciB L k hlt (by rw [show L.getD k c00 = L[k] by simp [hlt]] at hp; exact hp))
        obtain ⟨t, ht⟩ : ∃ t, L.getD k c00 = t := ⟨_, rfl⟩
        rw [ht] at c0 c1 c2 c3 HST HFA
        obtain ⟨p, q, r, s⟩ := t
        simp only at c0 c1 c2 c3
        have HLA := hid (HL.out.trans (Later.alloc wr (.cells #[.int .i64 p, .int .i64 q, .int .i64 r, .int .i64 s] 50)))
        clear ht hal hL
        cases hb : ciB (p, q, r, s)
        · have HF := hid (HFA.out hb)
          have HB := hid hb
          clear hb
          go_wp2_with fail
          generalize wr.alloc (.cells #[.int .i64 p, .int .i64 q, .int .i64 r, .int .i64 s] 50) = w1 at HLA ⊢
          refine (ciGood_as p q r s false _ HB.out).mono ?_
          rintro e w2 ⟨rfl, hL2⟩
          have HL2 := hid (HLA.out.trans hL2)
          clear hL2
          go_wp2_with fail
          go_ret
          exact ⟨ret_bool (by rw [HE.out, HF.out]), HL2.out⟩
        · have HS := hid (HST.out hb)
          have HB := hid hb
          clear hb
          go_wp2_with fail
          generalize wr.alloc (.cells #[.int .i64 p, .int .i64 q, .int .i64 r, .int .i64 s] 50) = w1 at HLA ⊢
          refine (ciGood_as p q r s true _ HB.out).mono ?_
          rintro e w2 ⟨rfl, hL2⟩
          have HL2 := hid (HLA.out.trans hL2)
          clear hL2
          go_wp2_with fail
          go_roundw
          case rel => exact ⟨k + 1, hlt, by go_num, HS.out, HL2.out⟩
          case measure => simp [intOf]; omega
      · have HT := hid (show L.all ciB = true by have := HA.out; rwa [List.take_of_length_le (by omega)] at this)
        go_wp2_with fail
        go_ret
        exact ⟨ret_bool (by rw [HE.out, HT.out]), HL.out⟩
  · have HE := hid (show fourB L = false by unfold fourB; rw [decide_eq_false h4]; rfl)
    have hne : ((L.length : Int) != 4) = true := by simp; omega
    clear h4
    go_enter Try.func42, Try.ntmps42
    go_wp2_with fail
    go_ret
    exact ⟨ret_bool HE.out.symm, Later.refl _⟩
theorem ciFour_as (v : Value) (L : List Ci4) (o : Bool) (w : World) (h : Cis w v L) (ho : fourB L = o) :
    Calls Try.prog 42 #[v] w fun e w' => BoolRes w o e w' := by
  subst ho; exact ciFour_any v L w h
end Go.Proofs.Ytljikcajfmnnmab
