/- Four curvatures: FollowSwaps, SwapAt, ScaleOf (the model). -/
import Derived.Test.YtpkdikfjcbmcbacQdV
import Derived.Test.YtpkdikfjcbmcbacQdG
import Derived.Deep.DeepCutAuto
namespace Go.Proofs.Ytpkdikfjcbmcbac
open Go.RowKit

theorem follow_drop (zs word : List Int) (k : Nat) (hk : k < word.length) : followL zs (word.drop k) = if swN zs (word.getD k 0).toNat ≤ 100000 then followL (swL zs (word.getD k 0).toNat) (word.drop (k + 1)) else none := by
  rw [List.drop_eq_getElem_cons hk, followL, getD_at word k hk]
theorem word_at {word : List Int} (h : word.all (within 0 3) = true) (k : Nat) (hk : k < word.length) : 0 ≤ word.getD k 0 ∧ word.getD k 0 ≤ 3 := by
  rw [getD_at word k hk]
  exact within03.1 (List.all_eq_true.1 h _ (List.getElem_mem hk))
theorem follow_len : ∀ (word zs : List Int), zs.length = 4 → ∀ r, followL zs word = some r → r.length = 4 := by
  intro word
  induction word with
  | nil => intro zs h r hr; simp [followL] at hr; subst hr; exact h
  | cons i is ih =>
    intro zs h r hr
    unfold followL at hr
    split at hr
    · exact ih _ (by rw [swL_len]; exact h) r hr
    · cases hr
theorem followAns_one (zs : List Int) (i : Int) : followAns zs [i] = swapAns zs i := by
  unfold followAns swapAns
  by_cases h1 : apB zs = true ∧ within 0 3 i = true
  · obtain ⟨h1, h2⟩ := h1
    rw [if_pos ⟨h1, by simp, by simp [h2]⟩]
    by_cases h3 : swN zs i.toNat ≤ 100000
    · rw [if_pos ⟨h1, h2, h3⟩, followL, if_pos h3, followL]
    · rw [if_neg (fun h => h3 h.2.2), followL, if_neg h3]
  · rw [if_neg (fun h => h1 ⟨h.1, by simpa using h.2.2⟩), if_neg (fun h => h1 ⟨h.1, h.2.1⟩)]
set_option maxRecDepth 20000 in
set_option maxHeartbeats 2000000 in
theorem apScale_any (v : Value) (a b c d : Int) (w : World) (hq : QD a b c d) (h : Ints w v [a, b, c, d]) :
    Calls Try.prog 24 #[v] w fun e w' => e = .returned (.int .i64 (gcdL [a, b, c, d])) ∧ Later w w' := by
  obtain ⟨ad, cap, rfl, k0, k1, k2, k3⟩ := h.four
  have m1 : Mid a := by have := hq.ha; unfold Mid; omega
  have m2 : Mid b := by have := hq.hb; unfold Mid; omega
  have m3 : Mid c := by have := hq.hc; unfold Mid; omega
  have m4 : Mid d := by have := hq.hd; unfold Mid; omega
  have HS := hid (scale_eq a b c d)
  obtain ⟨g1, hg1⟩ : ∃ g, gcdW a b = g := ⟨_, rfl⟩
  obtain ⟨g2, hg2⟩ : ∃ g, gcdW c d = g := ⟨_, rfl⟩
  have HG1 := hid (fun (w0 : World) => show Calls Try.prog 37 #[.int .i64 a, .int .i64 b] w0 fun e w' => e = .returned (.int .i64 g1) ∧ w0 = w' from hg1 ▸ foGcd_any _ a b w0 (Nat.lt_succ_self _) m1 m2)
  have HG2 := hid (fun (w0 : World) => show Calls Try.prog 37 #[.int .i64 c, .int .i64 d] w0 fun e w' => e = .returned (.int .i64 g2) ∧ w0 = w' from hg2 ▸ foGcd_any _ c d w0 (Nat.lt_succ_self _) m3 m4)
  rw [hg1, hg2] at HS
  have HG3 := hid (fun (w0 : World) => show Calls Try.prog 37 #[.int .i64 g1, .int .i64 g2] w0 fun e w' => e = .returned (.int .i64 (gcdL [a, b, c, d])) ∧ w0 = w' from HS.out ▸ foGcd_any _ g1 g2 w0 (Nat.lt_succ_self _) (hg1 ▸ gcdW_mid a b m1 m2) (hg2 ▸ gcdW_mid c d m3 m4))
  obtain ⟨G, hG⟩ : ∃ G, gcdL [a, b, c, d] = G := ⟨_, rfl⟩
  rw [hG] at HG3 ⊢
  clear h hq m1 m2 m3 m4 hg1 hg2 hG HS
  go_enter Try.func24, Try.ntmps24
  go_upto_region 1 with fail
  go_quiet (first | (go_at_call 37; first | with_reducible exact Calls.quiet_of_same ((HG1.out _).mono fun _ _ ⟨a, b⟩ => ⟨a, b.symm⟩) | with_reducible exact Calls.quiet_of_same ((HG2.out _).mono fun _ _ ⟨a, b⟩ => ⟨a, b.symm⟩) | with_reducible exact Calls.quiet_of_same ((HG3.out _).mono fun _ _ ⟨a, b⟩ => ⟨a, b.symm⟩)))
  go_wp2_with fail
  go_ret
  exact ⟨rfl, Later.drewN _ _⟩
end Go.Proofs.Ytpkdikfjcbmcbac
