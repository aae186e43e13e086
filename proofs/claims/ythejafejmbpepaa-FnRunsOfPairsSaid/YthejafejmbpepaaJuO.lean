/- The least pair of a pair: the model. -/
import Derived.Test.YthejafejmbpepaaJuN
namespace Go.Proofs.Ythejafejmbpepaa
open Go.RowKit

/-- What is left of a way down: so many jumps are enough. -/
def LeftJ (k : Int) (R : Jp2) (p : Jp2) : Prop := ∃ n, leastJ k n p = R ∧ (p.1 + p.2).toNat ≤ n
theorem LeftJ.start (k : Int) (p : Jp2) : LeftJ k (leastOf k p) p := ⟨_, rfl, Nat.le_refl _⟩
theorem LeftJ.step {k : Int} {R p q : Jp2} (h : LeftJ k R p) (hp : jpN p) (e : dnJ k p = some q) : LeftJ k R q := by
  obtain ⟨n, h1, h2⟩ := h
  obtain ⟨g1, g2⟩ := dnJ_good hp e
  obtain ⟨g3, g4, g5⟩ := g1
  cases n with
  | zero => omega
  | succ n => exact ⟨n, by rw [leastJ_some e] at h1; exact h1, by omega⟩
theorem LeftJ.done {k : Int} {R p : Jp2} (h : LeftJ k R p) (e : dnJ k p = none) : R = p := by
  obtain ⟨n, h1, _⟩ := h
  rw [leastJ_none e] at h1
  exact h1.symm
theorem juDown_as (x y k : Int) (w : World) (hk : 0 ≤ k ∧ k ≤ 1000000000000) (hp : jpN (x, y)) (o : Option Jp2) (h : dnJ k (x, y) = o) :
    Calls Try.prog 47 #[.int .i64 x, .int .i64 y, .int .i64 k] w fun e w' => e = .returned (.tuple #[.int .i64 (o.getD (0, 0)).1, .int .i64 (o.getD (0, 0)).2, .bool o.isSome]) ∧ w = w' := by
  subst h; exact juDown_any x y k w hk hp
set_option maxRecDepth 20000 in
set_option maxHeartbeats 2000000 in
theorem specLeastPair_any (x y k c : Int) (w : World) :
    Calls Try.prog 25 #[.int .i64 x, .int .i64 y, .int .i64 k, .int .i64 c] w fun e w' => PairAns w (leastAns x y k c) e w' := by
  cases hW : juW k c
  · have HW := hid hW
    have HA := hid (show leastAns x y k c = none from if_neg (by rw [juB_noW hW]; simp))
    clear hW
    go_enter Try.func25, Try.ntmps25
    go_wp2_with (go_at_call 45; refine (juGiven_as _ _ _ _ HW.out).mono ?_; rintro e w2 ⟨rfl, rfl⟩)
    go_ret3
    rw [HA.out]
    exact ⟨rfl, Later.refl _⟩
  · cases hG : juGd x y k c
    · have HW := hid hW
      have HG := hid hG
      have HA := hid (show leastAns x y k c = none from if_neg (by rw [juB_noG hG]; simp))
      clear hW hG
      go_enter Try.func25, Try.ntmps25
      go_wp2_with (first | (go_at_call 45; refine (juGiven_as _ _ _ _ HW.out).mono ?_; rintro e w2 ⟨rfl, rfl⟩) | (go_at_call 46; refine (juGood_as _ _ _ _ _ _ HW.out HG.out).mono ?_; rintro e w2 ⟨rfl, rfl⟩))
      go_ret3
      rw [HA.out]
      exact ⟨rfl, Later.refl _⟩
    · have HW := hid hW
      have HG := hid hG
      have HN := hid (juGd_N hG)
      obtain ⟨k1, k2, e1, e2⟩ := juW_iff.1 hW
      have HA := hid (show leastAns x y k c = some (leastOf k (x, y)) from if_pos (juB_mk hW hG))
      have HS := hid (LeftJ.start k (x, y))
      obtain ⟨R, hR⟩ : ∃ R, leastOf k (x, y) = R := ⟨_, rfl⟩
      rw [hR] at HA HS
      rw [HA.out]
      clear hW hG hR HA
      go_enter Try.func25, Try.ntmps25
      go_wp2_with (first | (go_at_call 45; refine (juGiven_as _ _ _ _ HW.out).mono ?_; rintro e w2 ⟨rfl, rfl⟩) | (go_at_call 46; refine (juGood_as _ _ _ _ _ _ HW.out HG.out).mono ?_; rintro e w2 ⟨rfl, rfl⟩))
      go_loopw [0, 1] (fun s0 s1 wr => ∃ a b : Int, s0 = .int .i64 a ∧ s1 = .int .i64 b ∧ jpN (a, b) ∧ LeftJ k R (a, b) ∧ wr = w) (fun s0 s1 _ => (intOf s0 + intOf s1).toNat)
      case atStart => exact ⟨x, y, rfl, rfl, HN.out, HS.out, rfl⟩
      case round =>
        obtain ⟨a, b, rfl, rfl, hN, hS, rfl⟩ := hrel
        have HNr := hid hN
        have HSr := hid hS
        cases hd : dnJ k (a, b) with
        | none =>
          have HD := hid (fun w0 => juDown_as a b k w0 ⟨by omega, by omega⟩ hN _ hd)
          have HE := hid (hS.done hd)
          clear hd hN hS
          go_wp2_with (go_at_call 47; refine (HD.out _).mono ?_; rintro e w2 ⟨rfl, rfl⟩; simp only [Option.getD_none, Option.isSome_none])
          go_ret3
          rw [HE.out]
          exact ⟨rfl, Later.refl _⟩
        | some q =>
          obtain ⟨qa, qb⟩ := q
          have HD := hid (fun w0 => juDown_as a b k w0 ⟨by omega, by omega⟩ hN _ hd)
          have HE := hid (hS.step hN hd)
          have HG2 := hid (dnJ_good hN hd)
          clear hd hN hS
          go_wp2_with (go_at_call 47; refine (HD.out _).mono ?_; rintro e w2 ⟨rfl, rfl⟩; simp only [Option.getD_some, Option.isSome_some])
          go_roundw
          case rel => exact ⟨qa, qb, rfl, rfl, HG2.out.1, HE.out, trivial⟩
          case measure =>
            obtain ⟨⟨g1, g2, g3⟩, g4⟩ := HG2.out
            obtain ⟨n1, n2, n3⟩ := HNr.out
            simp only at g1 g2 g3 g4 n1 n2 n3
            simp [intOf]; omega
end Go.Proofs.Ythejafejmbpepaa
