/- Least pairs up to a bound (the program): ClassesUpTo. -/
import Derived.Test.YtdahhcigphhfdaaJpV
namespace Go.Proofs.Ytdahhcigphhfdaa
open Go.RowKit

set_option maxRecDepth 20000 in
set_option maxHeartbeats 1000000 in
theorem indexFuncNil_any (fv : Value) (w : World) :
    Calls Try.prog 137 #[.slice none 0 0, fv] w fun e w' => e = .returned (.int .i64 (-1)) ∧ w = w' := by
  go_enter Try.func137, Try.ntmps137
  go_wp2_with fail
  go_loopw [8] (fun i wr => i = .int .i64 0 ∧ wr = w) (fun _ _ => 0)
  case atStart => exact ⟨rfl, rfl⟩
  case round =>
    obtain ⟨rfl, rfl⟩ := hrel
    go_wp2_with fail
    go_ret
    exact ⟨rfl, rfl⟩
set_option maxRecDepth 20000 in
set_option maxHeartbeats 1000000 in
theorem deleteFuncNil_any (fv : Value) (w : World) :
    Calls Try.prog 74 #[.slice none 0 0, fv] w fun e w' => e = .returned (.slice none 0 0) ∧ w = w' := by
  go_enter Try.func74, Try.ntmps74
  go_wp2_with (go_at_call 137; refine (indexFuncNil_any _ _).mono ?_; rintro e w2 ⟨rfl, rfl⟩)
  go_ret
  exact ⟨rfl, rfl⟩
/-- Deletion from what a search has found, be it nil. -/
theorem deleteFuncOwn_any {lo : Nat} (w0 : World) (g : Nat) (lb : Array Value) (eg : ∀ args w, (callFunc g args).run Try.prog w = .ok (.enter g args) w) (D : Jp2 → Prop) (p : Jp2 → Bool) (HT : TestsJ w0 g lb D p)
    (v : Value) (L : List Jp2) (w : World) (hL0 : Later w0 w) (hlo : w0.heap.size ≤ lo) (hD : ∀ s ∈ L, D s) (hb : L.length ≤ 1000000) (h : OwnJps lo w v L) :
    Calls Try.prog 74 #[v, .func (.func g) #[] lb] w fun e w' => ∃ v', e = .returned v' ∧ OwnJps lo w' v' (L.filter fun s => !p s) ∧ Later w0 w' := by
  rcases id h.2 with ⟨rfl, h0⟩ | ⟨b, cap, cur, rfl, _, _, _, _⟩
  · have hL : L = [] := List.eq_nil_of_length_eq_zero h0
    subst hL
    refine (deleteFuncNil_any _ w).mono ?_
    rintro e w' ⟨rfl, rfl⟩
    exact ⟨_, rfl, OwnJps.nil _ _, hL0⟩
  · refine (deleteFuncJ_any w0 g lb eg D p HT b cap L w hL0 hlo hD hb h).mono ?_
    rintro e w' ⟨rfl, ho, hL⟩
    exact ⟨_, rfl, ho, hL⟩
theorem jpA_bool (o : Option Jp2) : ∃ a b, jpA o = .tuple #[.agg #[.int .i64 a, .int .i64 b], .bool o.isSome] := ⟨_, _, rfl⟩
set_option maxRecDepth 20000 in
set_option maxHeartbeats 2000000 in
theorem canDown_any (k c : Int) (hW : juW k c = true) (w0 : World) (E : Nat) (hE : JBox w0 E k c) : TestsJ w0 75 #[.pointer (some ⟨E, 0, none⟩)] jpN (fun p => (dnJ k p).isSome) := by
  intro w hL s hs
  obtain ⟨x, y⟩ := s
  have HD := hid (fun w1 => down_any (prodEq k c hW) x y w1 hs)
  obtain ⟨a, b, hab⟩ := jpA_bool (dnJ k (x, y))
  obtain ⟨q, hq⟩ : ∃ q, (dnJ k (x, y)).isSome = q := ⟨_, rfl⟩
  rw [hq] at hab
  have HD2 := hid (fun w1 => show Calls Try.prog 76 #[.agg #[.int .i64 x, .int .i64 y], .iface 74 (.agg #[.int .i64 k, .int .i64 c])] w1 fun e w' => e = .returned (.tuple #[.agg #[.int .i64 a, .int .i64 b], .bool q]) ∧ Later w1 w' by
    have h := HD.out w1; unfold JpAns at h; rw [hab] at h; exact h)
  simp only [hq]
  have hA := Later.alloc w (.cells #[.int .i64 x, .int .i64 y] 84)
  have HE := hid ((hE.later hL).later hA)
  have HB := hid (JBox.new w x y 84)
  have HL := hid hA
  clear HD hab hq hA hL hE hs hW
  show Calls Try.prog 75 #[.agg #[.int .i64 x, .int .i64 y], .pointer (some ⟨E, 0, none⟩)] w fun e w'' => e = .returned (.bool q) ∧ Later w w''
  go_enter Try.func75, Try.ntmps75
  go_upto_region 1 with fail
  generalize w.alloc (.cells #[.int .i64 x, .int .i64 y] 84) = w1 at HE HB HL ⊢
  obtain ⟨b0, b1, _, _⟩ := HB.out
  obtain ⟨c0, c1, _, _⟩ := HE.out
  go_wp2_with fail
  refine (HD2.out _).mono ?_
  rintro e w2 ⟨rfl, hL2⟩
  have HL2 := hid (HL.out.trans (hL2.trans (Later.alloc w2 (.cells #[.int .i64 a, .int .i64 b] 84))))
  clear hL2 b0 b1 c0 c1
  go_wp2_with fail
  go_ret
  exact ⟨rfl, HL2.out⟩
set_option maxRecDepth 20000 in
set_option maxHeartbeats 2000000 in
theorem implClassesUpTo_any (k c m : Int) (w : World) :
    Calls Try.prog 11 #[.int .i64 k, .int .i64 c, .int .i64 m] w fun e w' => RowsAns w (clAns k c m) e w' := by
  have HL := hid (Later.alloc w (.cells #[.int .i64 k, .int .i64 c] 74))
  have HB := hid (JBox.new w k c 74)
  cases hP : puOk k c m
  · have HA := hid (show clAns k c m = none from if_neg (by rw [hP]; simp))
    rw [HA.out]
    rcases isWithin_noneed hP with hW | ⟨hW, hm⟩
    · have HW := hid hW
      clear hP hW HA
      go_enter Try.func11, Try.ntmps11
      go_upto_region 2 with fail
      generalize w.alloc (.cells #[.int .i64 k, .int .i64 c] 74) = w1 at HL HB ⊢
      obtain ⟨b0, b1, _, _⟩ := HB.out
      go_wp2_with (go_at_call 68; refine (isWithin_as _ _ _ _ HW.out).mono ?_; rintro e w2 ⟨rfl, hL2⟩; have HL2 := hid (HL.out.trans hL2); clear hL2)
      go_ret2
      exact ⟨_, rfl, OwnRows.noneH _ _ _, HL2.out⟩
    · have HW := hid hW
      have HM := hid (show decide (0 ≤ m ∧ m ≤ 200) = false from decide_eq_false hm)
      clear hP hW HA hm
      go_enter Try.func11, Try.ntmps11
      go_upto_region 2 with fail
      generalize w.alloc (.cells #[.int .i64 k, .int .i64 c] 74) = w1 at HL HB ⊢
      obtain ⟨b0, b1, _, _⟩ := HB.out
      go_wp2_with (first | (go_at_call 68; refine (isWithin_as _ _ _ _ HW.out).mono ?_; rintro e w2 ⟨rfl, hL2⟩; have HL2 := hid (HL.out.trans hL2); clear hL2) | (go_at_call 69; refine (isLook_as _ _ _ HM.out).mono ?_; rintro e w3 ⟨rfl, rfl⟩))
      go_ret2
      exact ⟨_, rfl, OwnRows.noneH _ _ _, HL2.out⟩
  · obtain ⟨hW, hm⟩ := puOk_iff.1 hP
    have HA := hid (show clAns k c m = toldJ ((gridJ (m.toNat + 1)).filter fun p => goodP k c p && leastP k p) from if_pos hP)
    have HW := hid hW
    have HM := hid (show decide (0 ≤ m ∧ m ≤ 200) = true from decide_eq_true hm)
    obtain ⟨n, rfl⟩ : ∃ n : Nat, m = (n : Int) := ⟨m.toNat, by omega⟩
    rw [Int.toNat_natCast] at HA
    have hn : n ≤ 200 := by omega
    have HS := hid (fun w0 => pairsUpToI_any (prodEqS k c) n hn w0)
    rw [prodS_good hW (n := n + 1) (by omega)] at HS
    obtain ⟨R, hR⟩ : ∃ R, (gridJ (n + 1)).filter (goodP k c) = R := ⟨_, rfl⟩
    have HLN := hid (show R.length ≤ 100000 by rw [← hR]; exact filter_len_le _ (by have := seenJ_len (n := n + 1) (m := 0) (by omega) (by omega); rw [List.length_append] at this; omega))
    have HDM := hid (show ∀ s ∈ R, jpN s by
      intro s hs
      rw [← hR] at hs
      obtain ⟨h1, h2, h3⟩ := gridJ_mem (List.mem_filter.1 hs).1
      exact ⟨h1, h2, by omega⟩)
    have HFIL := hid (show (gridJ (n + 1)).filter (fun p => goodP k c p && leastP k p) = R.filter fun s => !(dnJ k s).isSome by
      rw [← hR, List.filter_filter]
      refine List.filter_congr fun p _ => ?_
      unfold leastP
      cases dnJ k p <;> simp)
    rw [hR] at HS
    rw [HFIL.out] at HA
    rw [HA.out]
    obtain ⟨M, hM⟩ : ∃ M, R.filter (fun s => !(dnJ k s).isSome) = M := ⟨_, rfl⟩
    have HMM := hid hM
    have HLM := hid (show M.length ≤ 100000 by rw [← hM]; exact Nat.le_trans (List.length_filter_le _ _) HLN.out)
    rw [hM]
    clear hP hW hm hR HA hM HFIL
    go_enter Try.func11, Try.ntmps11
    go_upto_region 2 with fail
    generalize w.alloc (.cells #[.int .i64 k, .int .i64 c] 74) = w1 at HL HB ⊢
    obtain ⟨E, hE⟩ : ∃ E, w.heap.size = E := ⟨_, rfl⟩
    rw [hE] at HB ⊢
    clear hE
    obtain ⟨b0, b1, _, _⟩ := HB.out
    go_wp2_with (first | (go_at_call 68; refine (isWithin_as _ _ _ _ HW.out).mono ?_; rintro e w2 ⟨rfl, hL2⟩; have HL2 := hid (HL.out.trans hL2); have HB2 := hid (HB.out.later hL2); replace b0 := hL2.cell b0; replace b1 := hL2.cell b1; clear hL2) | (go_at_call 69; refine (isLook_as _ _ _ HM.out).mono ?_; rintro e w3 ⟨rfl, rfl⟩))
    refine (HS.out _).mono ?_
    rintro e w4 ⟨v4, rfl, ho4, hL4⟩
    have HL4 := hid hL4
    have HO4 := hid ho4
    obtain ⟨o1, o2, rfl, _⟩ := ho4.shape
    clear hL4 ho4 b0 b1
    go_wp2_with fail
    refine (deleteFuncOwn_any _ 75 #[.pointer (some ⟨E, 0, none⟩)] Try.call75 jpN (fun p => (dnJ k p).isSome) (canDown_any k c HW.out _ E HB2.out) _ R _ HL4.out (Nat.le_refl _) HDM.out (by have := HLN.out; omega) HO4.out).mono ?_
    rintro e w5 ⟨v5, rfl, ho5, hL5⟩
    rw [HMM.out] at ho5
    have HL5 := hid (HL2.out.trans hL5)
    have HO5 := hid (ho5.jps (by have := HLM.out; omega))
    obtain ⟨p1, p2, rfl, _⟩ := ho5.shape
    clear hL5 ho5
    go_wp2_with fail
    refine (toldPairs_any _ M _ (by have := HLM.out; omega) HO5.out).mono ?_
    rintro e w6 ⟨v6, rfl, ho6, hL6⟩
    have HL6 := hid (HL5.out.trans hL6)
    have HO6 := hid (ho6.wide HL5.out.size (Nat.le_refl _))
    obtain ⟨a6, c6, rfl, _⟩ := ho6.shape
    clear hL6 ho6
    go_wp2_with fail
    go_ret2
    exact ⟨_, rfl, HO6.out, HL6.out⟩
end Go.Proofs.Ytdahhcigphhfdaa
