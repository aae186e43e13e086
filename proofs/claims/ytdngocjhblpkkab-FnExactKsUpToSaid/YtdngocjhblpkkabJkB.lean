/- Which k there is a pair for (the program): KsUpTo. -/
import Derived.Test.YtdngocjhblpkkabJkA
namespace Go.Proofs.Ytdngocjhblpkkab
open Go.RowKit

theorem ownInts_nilK (lo hi : Nat) (w : World) : OwnInts lo hi w (.slice none 0 0) [] := ⟨World.ownsRow_nil _ _ _ _, fun b hb => by simp [Value.ownBlock] at hb⟩
theorem isLook_asK (k : Int) (b : Bool) (w : World) (h : decide (0 ≤ k ∧ k ≤ 200) = b) : Calls Try.prog 46 #[.int .i64 k] w fun e w' => e = .returned (.bool b) ∧ w = w' := by
  subst h; exact isLook_any k w
set_option maxRecDepth 20000 in
set_option maxHeartbeats 4000000 in
theorem implKsUpTo_any (c m : Int) (w : World) :
    Calls Try.prog 26 #[.int .i64 c, .int .i64 m] w fun e w' => IntsAns w (ksAns c m) e w' := by
  have HL := hid (Later.alloc w (.cells #[.int .i64 c] 3))
  have HX := hid (show Box (w.alloc (.cells #[.int .i64 c] 3)) w.heap.size (.int .i64 c) from ⟨by simp [go_sem], by simp [go_sem]⟩)
  by_cases h1 : -1000 ≤ c ∧ c ≤ 1000
  · have HC := hid (show decide (-1000 ≤ c ∧ c ≤ 1000) = true from decide_eq_true h1)
    by_cases h2 : 0 ≤ m ∧ m ≤ 200
    · have HM := hid (show decide (0 ≤ m ∧ m ≤ 200) = true from decide_eq_true h2)
      have HA := hid (show ksAns c m = some (ksSet c (m.toNat + 1)) from if_pos ⟨h1, h2⟩)
      obtain ⟨n, rfl⟩ : ∃ n : Nat, m = (n : Int) := ⟨m.toNat, by omega⟩
      rw [Int.toNat_natCast] at HA
      have hn : n ≤ 200 := by omega
      have HV := hid (fun (w' : World) (hb : FoundK w w.heap.size (w.heap.size + 1) c [] w') => eachUpTo_any 56 #[.pointer (some ⟨w.heap.size, 0, none⟩), .pointer (some ⟨w.heap.size + 1, 0, none⟩)] Try.call56 n hn (FoundK w w.heap.size (w.heap.size + 1) c)
        (fun L x y w0 _ _ _ hl hI => foundK_any w _ _ c L x y w0 hl hI) w' hb)
      have HI := hid (show FoundK w w.heap.size (w.heap.size + 1) c [] ((w.alloc (.cells #[.int .i64 c] 3)).alloc (.cells #[.slice none 0 0] 34)) from
        ⟨.slice none 0 0, ⟨by simp [go_sem], by simp [go_sem]⟩, ⟨by simp [go_sem], by simp [go_sem]⟩, World.ownsRow_nil _ _ _ _, by omega, Nat.le_refl _, (Later.alloc w _).trans (Later.alloc _ _), by simp⟩)
      have HLEN := hid (show (ksL c (gridJ (n + 1))).length ≤ 100000 from ksL_len (by have := seenJ_len (n := n + 1) (m := 0) (by omega) (by omega); rw [List.length_append] at this; omega))
      have HSET := hid (show ksSet c (n + 1) = Go.Lib.compact ((ksL c (gridJ (n + 1))).mergeSort fun x y => decide (x ≤ y)) from rfl)
      obtain ⟨K, hK⟩ : ∃ K, ksSet c (n + 1) = K := ⟨_, rfl⟩
      rw [hK] at HA HSET
      rw [HA.out]
      clear h1 h2 hK HA
      go_enter Try.func26, Try.ntmps26
      go_upto_region 1 with fail
      have c0 := HX.out.1
      go_wp2_with (first | (go_at_call 54; refine (isC_as _ _ _ HC.out).mono ?_; rintro e w2 ⟨rfl, rfl⟩) | (go_at_call 46; refine (isLook_asK _ _ _ HM.out).mono ?_; rintro e w2 ⟨rfl, rfl⟩))
      clear c0 HX
      generalize (w.alloc (.cells #[.int .i64 c] 3)).alloc (.cells #[.slice none 0 0] 34) = w1 at HI ⊢
      refine (HV.out _ HI.out).mono ?_
      rintro e w2 ⟨rfl, v, _, hF, hO, _, _, hL, hSz⟩
      obtain ⟨R, hR⟩ : ∃ R, ksL c (gridJ (n + 1)) = R := ⟨_, rfl⟩
      rw [hR] at hO HLEN HSET
      have HF := hid hF
      have HL2 := hid hL
      clear hL hR
      rcases id hO.2 with ⟨rfl, h0⟩ | ⟨b, cap, cur, rfl, hb, hbl, _, _⟩
      · have hR0 : R = [] := List.eq_nil_of_length_eq_zero h0
        have HK0 := hid (show K = [] by rw [HSET.out, hR0]; simp [Go.Lib.compact, Go.Lib.compactUpTo])
        clear hO h0 hR0
        obtain ⟨f0, _⟩ := hF
        go_wp2_with (first | (go_at_call 58; refine (sortNil_any _).mono ?_; rintro e w3 ⟨rfl, rfl⟩) | (go_at_call 59; refine (compactNil_any _).mono ?_; rintro e w3 ⟨rfl, rfl⟩))
        go_ret2
        rw [HK0.out]
        exact ⟨_, rfl, ownInts_nilK _ _ _, HL2.out⟩
      · have hZ : OwnZs (w.heap.size + 1 + 1) w2 b cap R := hO
        have HZ := hid hZ
        have HS := hid (sortZ_any b cap R w2 (by have := HLEN.out; omega) hZ)
        have HBb := hid (show w.heap.size + 1 + 1 ≤ b from hb)
        have HSL := hid (show (R.mergeSort fun x y => decide (x ≤ y)).length = R.length from List.length_mergeSort _)
        obtain ⟨Q, hQ⟩ : ∃ Q, R.mergeSort (fun x y => decide (x ≤ y)) = Q := ⟨_, rfl⟩
        rw [hQ] at HS HSL HSET
        have HCZ := hid (fun (w9 : World) (h9 : OwnZs (w.heap.size + 1 + 1) w9 b cap Q) => compactZ_any b cap Q w9 (by have := HLEN.out; have := HSL.out; omega) h9)
        rw [← HSET.out] at HCZ
        obtain ⟨q, hq⟩ : ∃ q, R.length = q := ⟨_, rfl⟩
        rw [HSL.out, hq] at HCZ
        rw [hq] at HS HF
        clear hO hZ hb hbl hQ hF
        obtain ⟨f0, _⟩ := HF.out
        clear hq
        go_wp2_with (go_at_call 58; refine HS.out.mono ?_; rintro e w6 ⟨rfl, hz6, hg6⟩; have HC6 := hid (HCZ.out w6 hz6); have HL6 := hid (show Later w w6 from Below.grown HL2.out hg6 HL2.out.size (fun j e => by have h1 := Option.some.inj e; have := HBb.out; omega)); have HF6 := hid (HF.out.keep (hg6.block (w.heap.size + 1) (by omega) (fun e => by have h1 := Option.some.inj e; have := HBb.out; omega))); clear hz6 hg6 f0; obtain ⟨g0, _⟩ := HF6.out)
        go_wp2_with (go_at_call 59; refine HC6.out.mono ?_; rintro e w7 ⟨rfl, hz7, hg7⟩)
        have HL7 := hid (show Later w w7 from Below.grown HL6.out hg7 HL6.out.size (fun j e => by have h1 := Option.some.inj e; have := HBb.out; omega))
        have HO7 := hid (show OwnInts w.heap.size w7.heap.size w7 (.slice (some ⟨b, 0, none⟩) K.length cap) K from ⟨ownsRow_base hz7 (by omega), fun k hk => (hz7.lt k hk).2⟩)
        clear hz7 hg7
        go_ret2
        exact ⟨_, rfl, HO7.out, HL7.out⟩
    · have HM := hid (show decide (0 ≤ m ∧ m ≤ 200) = false from decide_eq_false h2)
      have HA := hid (show ksAns c m = none from if_neg (fun h => h2 h.2))
      rw [HA.out]
      clear h1 h2 HA
      go_enter Try.func26, Try.ntmps26
      go_upto_region 1 with fail
      have c0 := HX.out.1
      generalize w.alloc (.cells #[.int .i64 c] 3) = w1 at HL c0 ⊢
      clear HX
      go_wp2_with (first | (go_at_call 54; refine (isC_as _ _ _ HC.out).mono ?_; rintro e w2 ⟨rfl, rfl⟩) | (go_at_call 46; refine (isLook_asK _ _ _ HM.out).mono ?_; rintro e w2 ⟨rfl, rfl⟩))
      go_ret2
      exact ⟨_, rfl, ownInts_nilK _ _ _, HL.out⟩
  · have HC := hid (show decide (-1000 ≤ c ∧ c ≤ 1000) = false from decide_eq_false h1)
    have HA := hid (show ksAns c m = none from if_neg (fun h => h1 h.1))
    rw [HA.out]
    clear h1 HA
    go_enter Try.func26, Try.ntmps26
    go_upto_region 1 with fail
    have c0 := HX.out.1
    generalize w.alloc (.cells #[.int .i64 c] 3) = w1 at HL c0 ⊢
    clear HX
    go_wp2_with (go_at_call 54; refine (isC_as _ _ _ HC.out).mono ?_; rintro e w2 ⟨rfl, rfl⟩)
    go_ret2
    exact ⟨_, rfl, ownInts_nilK _ _ _, HL.out⟩
end Go.Proofs.Ytdngocjhblpkkab
