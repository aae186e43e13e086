/- Four curvatures: scale, ScaleOf (the program). -/
import Derived.Test.YtpkdikfjcbmcbacQdH
namespace Go.Proofs.Ytpkdikfjcbmcbac
open Go.RowKit

set_option maxRecDepth 20000 in
set_option maxHeartbeats 2000000 in
theorem scaleS_any (a b c d : Int) (w : World) (hq : QD a b c d) :
    Calls Try.prog 29 #[.agg #[.int .i64 a, .int .i64 b, .int .i64 c, .int .i64 d]] w fun e w' => e = .returned (.int .i64 (gcdL [a, b, c, d])) ∧ Later w w' := by
  have m1 : Mid a := by have := hq.ha; unfold Mid; omega
  have m2 : Mid b := by have := hq.hb; unfold Mid; omega
  have m3 : Mid c := by have := hq.hc; unfold Mid; omega
  have m4 : Mid d := by have := hq.hd; unfold Mid; omega
  have HL := hid (Later.alloc w (.cells #[.int .i64 a, .int .i64 b, .int .i64 c, .int .i64 d] 46))
  obtain ⟨c0, c1, c2, c3, _, _, _, _⟩ := QBox.new w a b c d
  have j0 : ∀ w, (Instr.index 46 (.agg #[.int .i64 a, .int .i64 b, .int .i64 c, .int .i64 d]) (.int .i64 0)).run Try.prog w = .ok (.int .i64 a) w := fun _ => by kernel_rfl
  have j1 : ∀ w, (Instr.index 46 (.agg #[.int .i64 a, .int .i64 b, .int .i64 c, .int .i64 d]) (.int .i64 1)).run Try.prog w = .ok (.int .i64 b) w := fun _ => by kernel_rfl
  have j2 : ∀ w, (Instr.index 46 (.agg #[.int .i64 a, .int .i64 b, .int .i64 c, .int .i64 d]) (.int .i64 2)).run Try.prog w = .ok (.int .i64 c) w := fun _ => by kernel_rfl
  have j3 : ∀ w, (Instr.index 46 (.agg #[.int .i64 a, .int .i64 b, .int .i64 c, .int .i64 d]) (.int .i64 3)).run Try.prog w = .ok (.int .i64 d) w := fun _ => by kernel_rfl
  have M0 : Mid 0 := by unfold Mid; omega
  obtain ⟨g1, h1⟩ : ∃ g, gcdW 0 a = g := ⟨_, rfl⟩
  obtain ⟨g2, h2⟩ : ∃ g, gcdW g1 b = g := ⟨_, rfl⟩
  obtain ⟨g3, h3⟩ : ∃ g, gcdW g2 c = g := ⟨_, rfl⟩
  obtain ⟨g4, h4⟩ : ∃ g, gcdW g3 d = g := ⟨_, rfl⟩
  have n1 : Mid g1 := h1 ▸ gcdW_mid 0 a M0 m1
  have n2 : Mid g2 := h2 ▸ gcdW_mid g1 b n1 m2
  have n3 : Mid g3 := h3 ▸ gcdW_mid g2 c n2 m3
  have HG : gcdL [a, b, c, d] = g4 := by simp only [gcdL, List.foldl_cons, List.foldl_nil]; rw [h1, h2, h3, h4]
  have K1 := hid (fun (w0 : World) => show Calls Try.prog 43 #[.int .i64 0, .int .i64 a] w0 fun e w' => e = .returned (.int .i64 g1) ∧ Later w0 w' from h1 ▸ commonDivisor_any 0 a w0 M0 m1)
  have K2 := hid (fun (w0 : World) => show Calls Try.prog 43 #[.int .i64 g1, .int .i64 b] w0 fun e w' => e = .returned (.int .i64 g2) ∧ Later w0 w' from h2 ▸ commonDivisor_any g1 b w0 n1 m2)
  have K3 := hid (fun (w0 : World) => show Calls Try.prog 43 #[.int .i64 g2, .int .i64 c] w0 fun e w' => e = .returned (.int .i64 g3) ∧ Later w0 w' from h3 ▸ commonDivisor_any g2 c w0 n2 m3)
  have K4 := hid (fun (w0 : World) => show Calls Try.prog 43 #[.int .i64 g3, .int .i64 d] w0 fun e w' => e = .returned (.int .i64 g4) ∧ Later w0 w' from h4 ▸ commonDivisor_any g3 d w0 n3 m4)
  rw [HG]
  clear hq m1 m2 m3 m4 M0 h1 h2 h3 h4 n1 n2 n3 HG
  go_enter Try.func29, Try.ntmps29
  go_wp2_with fail
  generalize w.alloc (.cells #[.int .i64 a, .int .i64 b, .int .i64 c, .int .i64 d] 46) = w1 at c0 c1 c2 c3 HL ⊢
  go_wp2_with fail
  go_loopw [3, 7] (fun f i wr => Later w wr ∧ ((i = .int .i64 0 ∧ f = .int .i64 0) ∨ (i = .int .i64 1 ∧ f = .int .i64 g1) ∨ (i = .int .i64 2 ∧ f = .int .i64 g2) ∨ (i = .int .i64 3 ∧ f = .int .i64 g3) ∨ (i = .int .i64 4 ∧ f = .int .i64 g4))) (fun _ i _ => 4 - (intOf i).toNat)
  case atStart => exact ⟨HL.out, .inl ⟨rfl, rfl⟩⟩
  case round =>
    obtain ⟨hL, hrel⟩ := hrel
    have HLr := hid hL
    clear hL
    rcases hrel with ⟨rfl, rfl⟩ | ⟨rfl, rfl⟩ | ⟨rfl, rfl⟩ | ⟨rfl, rfl⟩ | ⟨rfl, rfl⟩
    · go_wp2_with fail
      refine (K1.out _).mono ?_
      rintro e w3 ⟨rfl, hL3⟩
      have HL3 := hid (HLr.out.trans hL3)
      clear hL3
      go_wp2_with fail
      go_roundw
      case rel => exact ⟨HL3.out, .inr (.inl ⟨rfl, rfl⟩)⟩
      case measure => simp [intOf]
    · go_wp2_with fail
      refine (K2.out _).mono ?_
      rintro e w3 ⟨rfl, hL3⟩
      have HL3 := hid (HLr.out.trans hL3)
      clear hL3
      go_wp2_with fail
      go_roundw
      case rel => exact ⟨HL3.out, .inr (.inr (.inl ⟨rfl, rfl⟩))⟩
      case measure => simp [intOf]
    · go_wp2_with fail
      refine (K3.out _).mono ?_
      rintro e w3 ⟨rfl, hL3⟩
      have HL3 := hid (HLr.out.trans hL3)
      clear hL3
      go_wp2_with fail
      go_roundw
      case rel => exact ⟨HL3.out, .inr (.inr (.inr (.inl ⟨rfl, rfl⟩)))⟩
      case measure => simp [intOf]
    · go_wp2_with fail
      refine (K4.out _).mono ?_
      rintro e w3 ⟨rfl, hL3⟩
      have HL3 := hid (HLr.out.trans hL3)
      clear hL3
      go_wp2_with fail
      go_roundw
      case rel => exact ⟨HL3.out, .inr (.inr (.inr (.inr ⟨rfl, rfl⟩)))⟩
      case measure => simp [intOf]
    · go_wp2_with fail
      go_ret
      exact ⟨rfl, HLr.out⟩
end Go.Proofs.Ytpkdikfjcbmcbac
