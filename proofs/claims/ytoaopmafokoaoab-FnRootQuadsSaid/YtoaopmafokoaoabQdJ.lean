/- Four curvatures: scale, ScaleOf (the program). -/
import Derived.Test.YtoaopmafokoaoabQdH
namespace Go.Proofs.Ytoaopmafokoaoab
open Go.RowKit

set_option maxRecDepth 20000 in
set_option maxHeartbeats 2000000 in
theorem scaleS_any (a b c d : Int) (w : World) (hq : QD a b c d) :
    Calls Try.prog 85 #[.agg #[.int .i64 a, .int .i64 b, .int .i64 c, .int .i64 d]] w fun e w' => e = .returned (.int .i64 (gcdL [a, b, c, d])) ∧ Later w w' := by
  have m1 : Mid a := by have := hq.ha; unfold Mid; omega
  have m2 : Mid b := by have := hq.hb; unfold Mid; omega
  have m3 : Mid c := by have := hq.hc; unfold Mid; omega
  have m4 : Mid d := by have := hq.hd; unfold Mid; omega
  have HL := hid (Later.alloc w (.cells #[.int .i64 a, .int .i64 b, .int .i64 c, .int .i64 d] 62))
  obtain ⟨c0, c1, c2, c3, _, _, _, _⟩ := QBox.new w a b c d
  have j0 : ∀ w, (Instr.index 62 (.agg #[.int .i64 a, .int .i64 b, .int .i64 c, .int .i64 d]) (.int .i64 0)).run Try.prog w = .ok (.int .i64 a) w := fun _ => by kernel_rfl
  have j1 : ∀ w, (Instr.index 62 (.agg #[.int .i64 a, .int .i64 b, .int .i64 c, .int .i64 d]) (.int .i64 1)).run Try.prog w = .ok (.int .i64 b) w := fun _ => by kernel_rfl
  have j2 : ∀ w, (Instr.index 62 (.agg #[.int .i64 a, .int .i64 b, .int .i64 c, .int .i64 d]) (.int .i64 2)).run Try.prog w = .ok (.int .i64 c) w := fun _ => by kernel_rfl
  have j3 : ∀ w, (Instr.index 62 (.agg #[.int .i64 a, .int .i64 b, .int .i64 c, .int .i64 d]) (.int .i64 3)).run Try.prog w = .ok (.int .i64 d) w := fun _ => by kernel_rfl
  have M0 : Mid 0 := by unfold Mid; omega
  obtain ⟨g1, h1⟩ : ∃ g, gcdW 0 a = g := ⟨_, rfl⟩
  obtain ⟨g2, h2⟩ : ∃ g, gcdW g1 b = g := ⟨_, rfl⟩
  obtain ⟨g3, h3⟩ : ∃ g, gcdW g2 c = g := ⟨_, rfl⟩
  obtain ⟨g4, h4⟩ : ∃ g, gcdW g3 d = g := ⟨_, rfl⟩
  have n1 : Mid g1 := h1 ▸ gcdW_mid 0 a M0 m1
  have n2 : Mid g2 := h2 ▸ gcdW_mid g1 b n1 m2
  have n3 : Mid g3 := h3 ▸ gcdW_mid g2 c n2 m3
  have HG : gcdL [a, b, c, d] = g4 := by simp only [gcdL, List.foldl_cons, List.foldl_nil]; rw [h1, h2, h3, h4]
  have K1 := hid (fun (w0 : World) => show Calls Try.prog 87 #[.int .i64 0, .int .i64 a] w0 fun e w' => e = .returned (.int .i64 g1) ∧ Later w0 w' from h1 ▸ commonDivisor_any 0 a w0 M0 m1)
  have K2 := hid (fun (w0 : World) => show Calls Try.prog 87 #[.int .i64 g1, .int .i64 b] w0 fun e w' => e = .returned (.int .i64 g2) ∧ Later w0 w' from h2 ▸ commonDivisor_any g1 b w0 n1 m2)
  have K3 := hid (fun (w0 : World) => show Calls Try.prog 87 #[.int .i64 g2, .int .i64 c] w0 fun e w' => e = .returned (.int .i64 g3) ∧ Later w0 w' from h3 ▸ commonDivisor_any g2 c w0 n2 m3)
  have K4 := hid (fun (w0 : World) => show Calls Try.prog 87 #[.int .i64 g3, .int .i64 d] w0 fun e w' => e = .returned (.int .i64 g4) ∧ Later w0 w' from h4 ▸ commonDivisor_any g3 d w0 n3 m4)
  rw [HG]
  clear hq m1 m2 m3 m4 M0 h1 h2 h3 h4 n1 n2 n3 HG
  go_enter Try.func85, Try.ntmps85
  go_wp2_with fail
  generalize w.alloc (.cells #[.int .i64 a, .int .i64 b, .int .i64 c, .int .i64 d] 62) = w1 at c0 c1 c2 c3 HL ⊢
  go_wp2_with fail
  go_loopw [3, 7] (fun f i wr => Later w wr ∧ ((i = .int .i64 0 ∧ f = .int .i64 0) ∨ (i = .int .i64 1 ∧ f = .int .i64 g1) ∨ (i = .int .i64 2 ∧ f = .int .i64 g2) ∨ (i = .int .i64 3 ∧ f = .int .i64 g3) ∨ (i = .int .i64 4 ∧ f = .int .i64 g4))) (fun _ i _ => 4 - (intOf i).toNat)
  case atStart => exact ⟨HL.out, .inl ⟨rfl, rfl⟩⟩
  case round =>
    obtain ⟨hL, hrel⟩ := hrel
    have HLr := hid hL
    clear hL
    rcases hrel with ⟨rfl, rfl⟩ | ⟨rfl, rfl⟩ | ⟨rfl, rfl⟩ | ⟨rfl, rfl⟩ | ⟨rfl, rfl⟩
    · go_wp2_with fail
      refine (K1.out _).mono ?_
      rintro e w3 ⟨rfl, hL3⟩
      have HL3 := hid (HLr.out.trans hL3)
      clear hL3
      go_wp2_with fail
      go_roundw
      case rel => exact ⟨HL3.out, .inr (.inl ⟨rfl, rfl⟩)⟩
      case measure => simp [intOf]
    · go_wp2_with fail
      refine (K2.out _).mono ?_
      rintro e w3 ⟨rfl, hL3⟩
      have HL3 := hid (HLr.out.trans hL3)
      clear hL3
      go_wp2_with fail
      go_roundw
      case rel => exact ⟨HL3.out, .inr (.inr (.inl ⟨rfl, rfl⟩))⟩
      case measure => simp [intOf]
    · go_wp2_with fail
      refine (K3.out _).mono ?_
      rintro e w3 ⟨rfl, hL3⟩
      have HL3 := hid (HLr.out.trans hL3)
      clear hL3
      go_wp2_with fail
      go_roundw
      case rel => exact ⟨HL3.out, .inr (.inr (.inr (.inl ⟨rfl, rfl⟩)))⟩
      case measure => simp [intOf]
    · go_wp2_with fail
      refine (K4.out _).mono ?_
      rintro e w3 ⟨rfl, hL3⟩
      have HL3 := hid (HLr.out.trans hL3)
      clear hL3
      go_wp2_with fail
      go_roundw
      case rel => exact ⟨HL3.out, .inr (.inr (.inr (.inr ⟨rfl, rfl⟩)))⟩
      case measure => simp [intOf]
    · go_wp2_with fail
      go_ret
      exact ⟨rfl, HLr.out⟩
set_option maxRecDepth 20000 in
set_option maxHeartbeats 2000000 in
theorem implScaleOf_any (v : Value) (zs : List Int) (w : World) (h : Ints w v zs) :
    Calls Try.prog 39 #[v] w fun e w' => NumAns w (scaleAns zs) e w' := by
  obtain ⟨p, cap, rfl, hl, _⟩ := id h
  have H := hid h
  clear h
  cases hg : apB zs
  · have HG := hid hg
    have HA := hid (show scaleAns zs = none by unfold scaleAns; rw [hg]; simp)
    clear hg
    go_enter Try.func39, Try.ntmps39
    go_wp2_with fail
    refine (quadOf_no _ zs _ HG.out H.out).mono ?_
    rintro e w1 ⟨rfl, hL⟩
    have HL := hid (hL.trans (Later.alloc w1 (.cells #[.int .i64 0, .int .i64 0, .int .i64 0, .int .i64 0] 62)))
    clear hL
    go_wp2_with fail
    go_ret2
    exact ⟨by rw [HA.out]; rfl, HL.out⟩
  · have HG := hid hg
    have HA := hid (show scaleAns zs = some (gcdL zs) by unfold scaleAns; rw [if_pos hg])
    obtain ⟨a, b, c, d, rfl, hq⟩ := apB_four hg
    have HQ := hid hq
    clear hg hq
    go_enter Try.func39, Try.ntmps39
    go_wp2_with fail
    refine (quadOf_yes _ a b c d _ HG.out H.out).mono ?_
    rintro e w1 ⟨rfl, hL⟩
    obtain ⟨c0, c1, c2, c3, _, _, _, _⟩ := QBox.new w1 a b c d
    have HL := hid (hL.trans (Later.alloc w1 (.cells #[.int .i64 a, .int .i64 b, .int .i64 c, .int .i64 d] 62)))
    clear hL
    go_wp2_with fail
    refine (scaleS_any a b c d _ HQ.out).mono ?_
    rintro e w2 ⟨rfl, hL2⟩
    have HL2 := hid (HL.out.trans hL2)
    clear hL2
    go_wp2_with fail
    go_ret2
    exact ⟨by rw [HA.out]; rfl, HL2.out⟩
end Go.Proofs.Ytoaopmafokoaoab
