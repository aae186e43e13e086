/- Four curvatures: the index of the swap down (the model). -/
import Derived.Test.YtpkdikfjcbmcbabQdT
namespace Go.Proofs.Ytpkdikfjcbmcbab
open Go.RowKit

theorem MadeInts.cells {w : World} {zs : List Int} {e : Ending} {w' : World} (h : MadeInts w zs e w') (i : Nat) (hi : i < zs.length) :
    ∃ g c, e = .returned (.slice (some ⟨g, 0, none⟩) zs.length c) ∧ w'.cell? ⟨g, i, none⟩ = some (.int .i64 (zs.getD i 0)) ∧ Later w w' := by
  obtain ⟨v, rfl, ho, hL⟩ := h
  obtain ⟨a, c, rfl, _, _, _, hcs⟩ := ownsRow_shape ho.1
  obtain ⟨g, rfl, hc⟩ := hcs i hi
  refine ⟨g, c, rfl, ?_, hL⟩
  rw [hc]; simp [hi]
theorem swL_at (zs : List Int) (i : Nat) (hi : i < zs.length) : (swL zs i).getD i 0 = swN zs i := by simp [swL, hi]
theorem swN_md {a b c d : Int} (h : Md a b c d) (i : Nat) (hi : i < 4) : -200000000 ≤ swN [a, b, c, d] i ∧ swN [a, b, c, d] i ≤ 200000000 := by
  obtain ⟨a1, a2, b1, b2, c1, c2, d1, d2⟩ := h
  obtain ⟨e0, e1, e2, e3⟩ := swN4 a b c d
  have h4 : i = 0 ∨ i = 1 ∨ i = 2 ∨ i = 3 := by omega
  rcases h4 with rfl | rfl | rfl | rfl
  · rw [e0]; omega
  · rw [e1]; omega
  · rw [e2]; omega
  · rw [e3]; omega
set_option maxRecDepth 20000 in
set_option maxHeartbeats 2000000 in
theorem apDown_any (v : Value) (a b c d : Int) (w : World) (hm : Md a b c d) (h : Ints w v [a, b, c, d]) :
    Calls Try.prog 35 #[v] w fun e w' => e = .returned (.int .i64 (downIx [a, b, c, d])) ∧ Later w w' := by
  obtain ⟨ad, cap, rfl, _⟩ := h.four
  have H := hid h
  have HM := hid hm
  have HSWP := hid (fun (i : Nat) (w0 : World) (hi : i < 4) (h0 : Ints w0 (.slice (some ad) 4 cap) [a, b, c, d]) => (apSwap_any _ a b c d i w0 hi hm h0).mono (fun e w' hh => hh.cells i (by rw [swL_len]; exact hi)))
  have HB := hid (fun (i : Nat) (hi : i < 4) => swN_md hm i hi)
  have HG := hid (fun (i : Nat) (hi : i < 4) => hm.getD i hi)
  have hc : ∀ i, i < 4 → w.cell? (ad.add i) = some (.int .i64 ([a, b, c, d].getD i 0)) := by
    intro i hi
    obtain ⟨_, _, e1, _, hcc⟩ := id h
    simp only [Value.slice.injEq] at e1
    obtain ⟨rfl, _, rfl⟩ := e1
    obtain ⟨ad', e2, hcell⟩ := hcc i (by simpa using hi)
    simp only [Option.some.injEq] at e2
    subst e2
    exact hcell
  have HC := hid hc
  have HSL := hid (fun i => swL_len [a, b, c, d] i)
  have HSA := hid (fun (i : Nat) (hi : i < 4) => swL_at [a, b, c, d] i hi)
  have HGL := hid (fun k => gTo_lt [a, b, c, d] k)
  have HGI := hid (show gIx [a, b, c, d] = gTo [a, b, c, d] 4 from rfl)
  obtain ⟨zs, hz⟩ : ∃ zs, [a, b, c, d] = zs := ⟨_, rfl⟩
  have HZL := hid (show zs.length = 4 by rw [← hz]; rfl)
  rw [hz] at H HSWP HB HG HC HSL HSA HGL HGI ⊢
  clear h hm hc hz
  go_enter Try.func35, Try.ntmps35
  go_wp2_with fail
  go_loop [3, 8] (fun b i => ∃ k : Nat, k ≤ 4 ∧ i = .int .i64 k ∧ b = .int .i64 (gTo zs k : Nat)) (fun _ i => 4 - (intOf i).toNat)
  case atStart => exact ⟨0, Nat.zero_le _, rfl, rfl⟩
  case round =>
    obtain ⟨k, hk, rfl, rfl⟩ := hrel
    have hg4 : gTo zs k < 4 := by
      by_cases h0 : k = 0
      · subst h0; simp [gTo]
      · have := HGL.out k (by omega); omega
    obtain ⟨g, hg⟩ : ∃ g, gTo zs k = g := ⟨_, rfl⟩
    have HGE := hid hg
    rw [hg] at hg4 ⊢
    have hcg := HC.out g hg4
    have hgI : (g : Int) < 4 := by omega
    have hg0 : (0 : Int) ≤ (g : Int) := by omega
    obtain ⟨y, hy⟩ : ∃ y, zs.getD g 0 = y := ⟨_, rfl⟩
    have HY := hid hy
    rw [hy] at hcg
    by_cases hlt : k < 4
    · have hck := HC.out k hlt
      obtain ⟨x, hx⟩ : ∃ x, zs.getD k 0 = x := ⟨_, rfl⟩
      have HX := hid hx
      rw [hx] at hck
      have hkI : (k : Int) < 4 := by omega
      clear hg hx hy
      by_cases hgt : y < x
      · have HN := hid (show gTo zs (k + 1) = k by unfold gTo; rw [HGE.out, HY.out, HX.out, if_pos hgt])
        go_wp2_with fail
        go_round
        case rel => exact ⟨k + 1, hlt, by go_num, by rw [HN.out]⟩
        case measure => simp [intOf]; omega
      · have HN := hid (show gTo zs (k + 1) = g by unfold gTo; rw [HGE.out, HY.out, HX.out, if_neg hgt])
        go_wp2_with fail
        go_round
        case rel => exact ⟨k + 1, hlt, by go_num, by rw [HN.out]⟩
        case measure => simp [intOf]; omega
    · obtain rfl : k = 4 := by omega
      have HGX := hid (show gIx zs = g from HGI.out.trans HGE.out)
      have hgl : g < (4 : Nat) := hg4
      obtain ⟨n, hn⟩ : ∃ n, swN zs g = n := ⟨_, rfl⟩
      have HN := hid hn
      have HSP := hid (fun (w0 : World) (h0 : Later w w0) => show Calls Try.prog 51 #[.slice (some ad) 4 cap, .int .i64 g] w0 fun e w' => ∃ gg c, e = .returned (.slice (some ⟨gg, 0, none⟩) 4 c) ∧ w'.cell? ⟨gg, g, none⟩ = some (.int .i64 n) ∧ Later w0 w' from (HSWP.out g w0 hg4 (H.out.later h0)).mono (fun e w' hh => by
        obtain ⟨gg, c, he, hcl, hL⟩ := hh
        rw [HSL.out, HZL.out] at he
        rw [HSA.out g hg4, hn] at hcl
        exact ⟨gg, c, he, hcl, hL⟩))
      clear hg hy hn hlt
      go_wp2_with fail
      go_region_with (first | (go_at_call 51; refine (HSP.out _ (Later.drew _)).mono ?_; rintro e w3 ⟨gg, c3, rfl, hc3, hL3⟩; have hcg3 := hL3.cell ((Later.drew _).cell hcg); have HL3 := hid ((Later.drew _).trans hL3); clear hL3))
      all_goals
        by_cases hle : y ≤ n
        · have HR := hid (show downIx zs = -1 by unfold downIx lastQ; rw [HGX.out, HY.out, HN.out, decide_eq_true hle]; rfl)
          go_wp2_with fail
          go_ret
          exact ⟨ret_int HR.out.symm, HL3.out⟩
        · have HR := hid (show downIx zs = (g : Int) by unfold downIx lastQ; rw [HGX.out, HY.out, HN.out, decide_eq_false hle]; simp)
          go_wp2_with fail
          go_ret
          exact ⟨ret_int HR.out.symm, HL3.out⟩
theorem apDown_as (v : Value) (a b c d : Int) (o : Int) (w : World) (hm : Md a b c d) (ho : downIx [a, b, c, d] = o) (h : Ints w v [a, b, c, d]) :
    Calls Try.prog 35 #[v] w fun e w' => e = .returned (.int .i64 o) ∧ Later w w' := by
  subst ho; exact apDown_any v a b c d w hm h
end Go.Proofs.Ytpkdikfjcbmcbab
