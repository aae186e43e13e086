/- Contracts of KeepsForm. -/
import Derived.Test.YtoaopmafokoaoabMulS
import Derived.Test.YtoaopmafokoaoabFoAp
namespace Go.Proofs.Ytoaopmafokoaoab
open Go.RowKit

/-! ### sums modulo 2 to the power of 64 -/
theorem wrap_ex (x : Int) : ∃ t, wrap64 x = x + 18446744073709551616 * t := ⟨-((x + 9223372036854775808) / 18446744073709551616), by unfold wrap64; omega⟩
theorem wrap_add (x t : Int) : wrap64 (x + 18446744073709551616 * t) = wrap64 x := by unfold wrap64; omega
def isum (f : Nat → Int) : Nat → Int
  | 0 => 0
  | k + 1 => isum f k + f k
theorem isum_congr (f g : Nat → Int) (n : Nat) (h : ∀ k, k < n → f k = g k) : isum f n = isum g n := by
  induction n with
  | zero => rfl
  | succ n ih => unfold isum; rw [ih (fun k hk => h k (by omega)), h n (by omega)]
theorem isum_mod (f g : Nat → Int) (n : Nat) (h : ∀ k, k < n → ∃ t, f k = g k + 18446744073709551616 * t) : ∃ t, isum f n = isum g n + 18446744073709551616 * t := by
  induction n with
  | zero => exact ⟨0, by simp [isum]⟩
  | succ n ih =>
    obtain ⟨a, ha⟩ := ih (fun k hk => h k (by omega))
    obtain ⟨b, hb⟩ := h n (by omega)
    exact ⟨a + b, by unfold isum; omega⟩
theorem wsum_isum (f : Nat → Int) (n : Nat) : wsum f n = wrap64 (isum f n) := by
  induction n with
  | zero => show (0 : Int) = wrap64 0; unfold wrap64; decide
  | succ n ih =>
    obtain ⟨t, ht⟩ := wrap_ex (isum f n)
    unfold wsum isum
    rw [ih, ht, show isum f n + 18446744073709551616 * t + f n = isum f n + f n + 18446744073709551616 * t by omega, wrap_add]
theorem isum_left (c : Int) (f : Nat → Int) (n : Nat) : c * isum f n = isum (fun k => c * f k) n := by
  induction n with
  | zero => simp [isum]
  | succ n ih => unfold isum; rw [Int.mul_add, ih]
theorem isum_right (c : Int) (f : Nat → Int) (n : Nat) : isum f n * c = isum (fun k => f k * c) n := by
  induction n with
  | zero => simp [isum]
  | succ n ih => unfold isum; rw [Int.add_mul, ih]
theorem isum_add (f g : Nat → Int) (n : Nat) : isum f n + isum g n = isum (fun k => f k + g k) n := by
  induction n with
  | zero => rfl
  | succ n ih => unfold isum; rw [← ih]; omega
theorem isum_zero (n : Nat) : isum (fun _ => 0) n = 0 := by
  induction n with
  | zero => rfl
  | succ n ih => unfold isum; rw [ih]; rfl
theorem isum_swap (F : Nat → Nat → Int) (n m : Nat) : isum (fun k => isum (fun l => F k l) m) n = isum (fun l => isum (fun k => F k l) n) m := by
  induction n with
  | zero => exact (isum_zero m).symm
  | succ n ih =>
    show isum (fun k => isum (fun l => F k l) m) n + isum (fun l => F n l) m = isum (fun l => isum (fun k => F k l) n + F n l) m
    rw [ih, isum_add]
/-- a product of three, from either side, modulo 2 to the power of 64 -/
theorem triple_sum (a : Nat → Int) (f : Nat → Nat → Int) (b : Nat → Int) (n : Nat) :
    wsum (fun k => wrap64 (a k * wsum (fun l => wrap64 (f k l * b l)) n)) n = wsum (fun l => wrap64 (wsum (fun k => wrap64 (a k * f k l)) n * b l)) n := by
  have e1 : ∀ k, ∃ t, wrap64 (a k * wsum (fun l => wrap64 (f k l * b l)) n) = isum (fun l => a k * (f k l * b l)) n + 18446744073709551616 * t := by
    intro k
    obtain ⟨t1, h1⟩ := wrap_ex (a k * wsum (fun l => wrap64 (f k l * b l)) n)
    obtain ⟨t2, h2⟩ := isum_mod (fun l => wrap64 (f k l * b l)) (fun l => f k l * b l) n (fun l _ => wrap_ex _)
    obtain ⟨t3, h3⟩ := wrap_ex (isum (fun l => wrap64 (f k l * b l)) n)
    refine ⟨a k * t2 + a k * t3 + t1, ?_⟩
    rw [h1, wsum_isum, h3, h2, ← isum_left]
    grind
  have e2 : ∀ l, ∃ t, wrap64 (wsum (fun k => wrap64 (a k * f k l)) n * b l) = isum (fun k => a k * (f k l * b l)) n + 18446744073709551616 * t := by
    intro l
    obtain ⟨t1, h1⟩ := wrap_ex (wsum (fun k => wrap64 (a k * f k l)) n * b l)
    obtain ⟨t2, h2⟩ := isum_mod (fun k => wrap64 (a k * f k l)) (fun k => a k * f k l) n (fun l _ => wrap_ex _)
    obtain ⟨t3, h3⟩ := wrap_ex (isum (fun k => wrap64 (a k * f k l)) n)
    have h4 : isum (fun k => a k * (f k l * b l)) n = isum (fun k => a k * f k l) n * b l := by
      rw [isum_right]; exact isum_congr _ _ n fun k _ => by grind
    refine ⟨t2 * b l + t3 * b l + t1, ?_⟩
    rw [h1, wsum_isum, h3, h2, h4]
    grind
  obtain ⟨t1, h1⟩ := isum_mod _ (fun k => isum (fun l => a k * (f k l * b l)) n) n (fun k _ => e1 k)
  obtain ⟨t2, h2⟩ := isum_mod _ (fun l => isum (fun k => a k * (f k l * b l)) n) n (fun l _ => e2 l)
  rw [wsum_isum, wsum_isum, h1, h2, wrap_add, wrap_add, isum_swap]

theorem mul_assoc (n : Nat) (A F M : List (List Int)) : mulM n A (mulM n F M) = mulM n (mulM n A F) M := by
  refine mk_congr n _ _ fun i j hi hj => ?_
  have h := triple_sum (fun k => ent A i k) (fun k l => ent F k l) (fun l => ent M l j) n
  unfold mulAt
  refine (wsum_congr _ _ n fun k hk => ?_).trans (h.trans (wsum_congr _ _ n fun k hk => ?_))
  · unfold mulM; rw [ent_mk n _ k j hk hj]; rfl
  · unfold mulM; rw [ent_mk n _ i k hi hk]; rfl
theorem mulM_sq (n : Nat) (A B : List (List Int)) : Sq n (mulM n A B) := Sq.mk' n _
theorem transM_sq (n : Nat) (m : List (List Int)) : Sq n (transM n m) := Sq.mk' n _
def keepAns (m F : List (List Int)) : Option Bool :=
  if (goodM 30000 m && (formW F && decide (m.length = F.length))) = true then some (eqLL (mulM m.length (transM m.length m) (mulM m.length F m)) F) else none
theorem keepAns_no {m F : List (List Int)} (h : (goodM 30000 m && (formW F && decide (m.length = F.length))) = false) : keepAns m F = none := by unfold keepAns; rw [h]; rfl

set_option maxRecDepth 20000 in
set_option maxHeartbeats 4000000 in
theorem implKeepsForm_any (u v : Value) (m F : List (List Int)) (w : World) (hm : Rows2 w u m) (hF : Rows2 w v F) :
    Calls Try.prog 33 #[.agg #[u], .agg #[v]] w fun e w' => BoolAns w (keepAns m F) e w' := by
  obtain ⟨a, cap, rfl, hl, _⟩ := id hm
  obtain ⟨b, cap2, rfl, hl2, _⟩ := id hF
  have hA := (Later.alloc w (.cells #[Value.slice a m.length cap] 44)).trans (Later.alloc _ (.cells #[Value.slice b F.length cap2] 44))
  have hb0 : ((w.alloc (.cells #[Value.slice a m.length cap] 44)).alloc (.cells #[Value.slice b F.length cap2] 44)).cell? ⟨w.heap.size, 0, none⟩ = some (.slice a m.length cap) := by simp [go_sem]
  have hb1 : ((w.alloc (.cells #[Value.slice a m.length cap] 44)).alloc (.cells #[Value.slice b F.length cap2] 44)).cell? ⟨w.heap.size + 1, 0, none⟩ = some (.slice b F.length cap2) := by simp [go_sem]
  have HM := hid (hm.later hA)
  have HF := hid (hF.later hA)
  have HL := hid hA
  clear hm hF hA
  cases hgm : goodM 30000 m
  · have HA := hid (keepAns_no (m := m) (F := F) (by rw [hgm]; rfl))
    have HG := hid hgm
    clear hgm
    go_enter Try.func33, Try.ntmps33
    go_wp2_with fail
    generalize (w.alloc (.cells #[Value.slice a m.length cap] 44)).alloc (.cells #[Value.slice b F.length cap2] 44) = w1 at hb0 hb1 HM HF HL ⊢
    refine (isMatrixUpTo_any _ m 30000 _ ⟨by omega, by omega⟩ HM.out).mono ?_
    rintro e w2 ⟨rfl, hL⟩
    rw [HG.out]
    have HL2 := hid (HL.out.trans hL)
    clear hL
    go_wp2_with fail
    go_ret2
    exact ⟨by rw [HA.out]; rfl, HL2.out⟩
  · have HG := hid hgm
    cases hgf : formW F
    · have HA := hid (keepAns_no (m := m) (F := F) (by rw [hgf]; simp))
      have HGF := hid hgf
      clear hgm hgf
      go_enter Try.func33, Try.ntmps33
      go_wp2_with fail
      generalize (w.alloc (.cells #[Value.slice a m.length cap] 44)).alloc (.cells #[Value.slice b F.length cap2] 44) = w1 at hb0 hb1 HM HF HL ⊢
      refine (isMatrixUpTo_any _ m 30000 _ ⟨by omega, by omega⟩ HM.out).mono ?_
      rintro e w2 ⟨rfl, hL⟩
      rw [HG.out]
      replace hb0 := hL.cell hb0
      replace hb1 := hL.cell hb1
      have HL2 := hid (HL.out.trans hL)
      have HF2 := hid (HF.out.later hL)
      clear hL
      go_wp2_with fail
      refine (isSmallForm_any _ F _ HF2.out).mono ?_
      rintro e w3 ⟨rfl, hL⟩
      rw [HGF.out]
      have HL3 := hid (HL2.out.trans hL)
      clear hL
      go_wp2_with fail
      go_ret2
      exact ⟨by rw [HA.out]; rfl, HL3.out⟩
    · have HGF := hid hgf
      by_cases hlen : m.length = F.length
      · have hsq := hid (goodM_sq hgm)
        have hn4 : m.length ≤ 4 := (goodM_sq hgm).2.1
        have hsf := hid (show Sq m.length F by
          unfold formW at hgf
          rw [Bool.and_eq_true] at hgf
          rw [hlen]
          exact (goodM_sq hgf.1).2.2)
        have HA := hid (show keepAns m F = some (eqLL (mulM m.length (mulM m.length (transM m.length m) F) m) F) by unfold keepAns; rw [hgm, hgf, decide_eq_true hlen, mul_assoc]; rfl)
        have hne : ((m.length : Int) != (F.length : Int)) = false := by simp; omega
        clear hgm hgf hlen
        go_enter Try.func33, Try.ntmps33
        go_wp2_with fail
        generalize (w.alloc (.cells #[Value.slice a m.length cap] 44)).alloc (.cells #[Value.slice b F.length cap2] 44) = w1 at hb0 hb1 HM HF HL ⊢
        refine (isMatrixUpTo_any _ m 30000 _ ⟨by omega, by omega⟩ HM.out).mono ?_
        rintro e w2 ⟨rfl, hL⟩
        rw [HG.out]
        replace hb0 := hL.cell hb0
        replace hb1 := hL.cell hb1
        have HL2 := hid (HL.out.trans hL)
        have HM2 := hid (HM.out.later hL)
        have HF2 := hid (HF.out.later hL)
        clear hL
        go_wp2_with fail
        refine (isSmallForm_any _ F _ HF2.out).mono ?_
        rintro e w3 ⟨rfl, hL⟩
        rw [HGF.out]
        replace hb0 := hL.cell hb0
        replace hb1 := hL.cell hb1
        have HL3 := hid (HL2.out.trans hL)
        have HM3 := hid (HM2.out.later hL)
        have HF3 := hid (HF2.out.later hL)
        clear hL
        go_wp2_with fail
        go_region_held3 (fun w' => w'.cell? ⟨w.heap.size, 0, none⟩ = some (.slice a m.length cap) ∧ w'.cell? ⟨w.heap.size + 1, 0, none⟩ = some (.slice b F.length cap2)) (first | exact ⟨hb0, hb1⟩ | exact ⟨p0, p1⟩ | exact ⟨q0, q1⟩ | exact ⟨r0, r1⟩) (first | (have hh := O2; clear hh; go_at_call 77; refine (times_any m.length (mulM m.length (transM m.length m) F) m (mulM_sq _ _ _) hsq.out.2.2 _ _ _ (by omega) O2.out.rows (HM3.out.later LC.out)).mono ?_; rintro e w6 ⟨v6, rfl, ho, hL⟩; obtain ⟨a6, c6, rfl, _⟩ := ho.shape; have O3 := hid ho; have r0 := hL.cell q0; have r1 := hL.cell q1; have LD := hid (LC.out.trans hL); clear hL ho) | (have hh := O1; clear hh; go_at_call 77; refine (times_any m.length (transM m.length m) F (transM_sq _ _) hsf.out _ _ _ (by omega) O1.out.rows (HF3.out.later LB.out)).mono ?_; rintro e w5 ⟨v5, rfl, ho, hL⟩; obtain ⟨a5, c5, rfl, _⟩ := ho.shape; have O2 := hid ho; have q0 := hL.cell p0; have q1 := hL.cell p1; have LC := hid (LB.out.trans hL); clear hL ho) | (go_at_call 76; refine (transposed_any m.length m hsq.out.2.2 _ _ (by omega) (HM3.out.later (Later.drew w3))).mono ?_; rintro e w4 ⟨v4, rfl, ho, hL⟩; obtain ⟨a4, c4, rfl, _⟩ := ho.shape; have O1 := hid ho; have LB := hid ((Later.drew w3).trans hL); have p0 := LB.out.cell hb0; have p1 := LB.out.cell hb1; clear hL ho))
        have HO3 := hid O3.out.rows
        have HL6 := hid (HL3.out.trans LD.out)
        have HF6 := hid (HF3.out.later LD.out)
        clear hb0 hb1 p0 p1 q0 q1 O1 O2
        go_wp2_with fail
        refine (equals_any _ _ _ F _ HO3.out HF6.out).mono ?_
        rintro e w7 ⟨rfl, hL⟩
        have HL7 := hid (HL6.out.trans hL)
        clear hL
        go_wp2_with fail
        go_ret2
        exact ⟨by rw [HA.out]; rfl, HL7.out⟩
      · have HA := hid (keepAns_no (m := m) (F := F) (by rw [decide_eq_false hlen]; simp))
        have hne : ((m.length : Int) != (F.length : Int)) = true := by simp; omega
        clear hgm hgf hlen
        go_enter Try.func33, Try.ntmps33
        go_wp2_with fail
        generalize (w.alloc (.cells #[Value.slice a m.length cap] 44)).alloc (.cells #[Value.slice b F.length cap2] 44) = w1 at hb0 hb1 HM HF HL ⊢
        refine (isMatrixUpTo_any _ m 30000 _ ⟨by omega, by omega⟩ HM.out).mono ?_
        rintro e w2 ⟨rfl, hL⟩
        rw [HG.out]
        replace hb0 := hL.cell hb0
        replace hb1 := hL.cell hb1
        have HL2 := hid (HL.out.trans hL)
        have HF2 := hid (HF.out.later hL)
        clear hL
        go_wp2_with fail
        refine (isSmallForm_any _ F _ HF2.out).mono ?_
        rintro e w3 ⟨rfl, hL⟩
        rw [HGF.out]
        replace hb0 := hL.cell hb0
        replace hb1 := hL.cell hb1
        have HL3 := hid (HL2.out.trans hL)
        clear hL
        go_wp2_with fail
        go_ret2
        exact ⟨by rw [HA.out]; rfl, HL3.out⟩
end Go.Proofs.Ytoaopmafokoaoab
