/- InverseOf: the program's. -/
import Derived.Test.YtedgccbogjinhaaDetD
namespace Go.Proofs.Ytedgccbogjinhaa
open Go.RowKit

def adjAt (n : Nat) (m : List (List Int)) (i j : Nat) : Int := wrap64 (sgn (i + j) * det n (minorM n m j i))
def adjM (n : Nat) (m : List (List Int)) : List (List Int) := mk (n + 1) (adjAt n m)
def invAt (d : Int) (n : Nat) (m : List (List Int)) (i j : Nat) : Int := wrap64 (d * adjAt n m i j)
def invM (d : Int) (n : Nat) (m : List (List Int)) : List (List Int) := mk (n + 1) (invAt d n m)

set_option maxHeartbeats 400000 in
theorem adjEntry_any (n : Nat) (m : List (List Int)) (hq : Sq (n + 1) m) (hn : n + 1 ≤ 4) (b : Nat) (v : Value) (i j : Nat) (w : World) (hi : i < n + 1) (hj : j < n + 1)
    (hb : w.cell? ⟨b, 0, none⟩ = some v) (h : Rows2 w v m) :
    Calls Try.prog 99 #[.int .i64 i, .int .i64 j, .pointer (some ⟨b, 0, none⟩)] w fun e w' => e = .returned (.int .i64 (adjAt n m i j)) ∧ Later w w' := by
  have HR := hid (h.later (Later.drew w))
  have hij : i + j ≤ 1048576 := by omega
  have hb1 : w.drew.cell? ⟨b, 0, none⟩ = some v := hb
  have IHH := hid (determinant_any n (by omega))
  have hwr : IntKind.i64.wrap ((i : Int) + (j : Int)) = ((i + j : Nat) : Int) := by rw [IntWalk.i64_left, IntWalk.wrap64_in _ (by omega)]; omega
  clear h hb
  go_enter Try.func99, Try.ntmps99
  go_wp2_with fail
  go_region_held3 (fun w' => w'.cell? ⟨b, 0, none⟩ = some v) (first | exact hb1 | exact hb2 | exact hb3) (first | (go_at_call 96; refine (signAt_any (i + j) _ hij).mono ?_; rintro e ws ⟨rfl, rfl⟩) | (go_at_call 97; refine (without_any n m hq (by omega) j i v _ HR.out).mono ?_; rintro e w2 ⟨v2, rfl, ho, hL⟩; have HO := hid ho.rows; have hb2 := hL.cell hb1; have HL2 := hid ((Later.drew w).trans hL); clear hL ho) | (go_at_call 75; refine (IHH.out _ (minorM_sq n m j i) v2 _ HO.out).mono ?_; rintro e w3 ⟨rfl, hL⟩; have hb3 := hL.cell hb2; have HL3 := hid (HL2.out.trans hL); clear hL))
  go_wp2_with fail
  go_ret
  exact ⟨by simp [IntWalk.i64_left, adjAt], HL3.out⟩

set_option maxHeartbeats 400000 in
theorem adjoint_any (n : Nat) (m : List (List Int)) (hq : Sq (n + 1) m) (v : Value) (w : World) (hn : n + 1 ≤ 4) (h : Rows2 w v m) :
    Calls Try.prog 78 #[v] w fun e w' => MadeRows w (adjM n m) e w' := by
  obtain ⟨a, cap, rfl, hl⟩ := h.sqForm hq
  have hb : (w.alloc (.cells #[Value.slice a (n + 1) cap] 60)).cell? ⟨w.heap.size, 0, none⟩ = some (.slice a (n + 1) cap) := by simp [go_sem]
  have HR := hid (h.later (Later.alloc w (.cells #[Value.slice a (n + 1) cap] 60)))
  have HL := hid (Later.alloc w (.cells #[Value.slice a (n + 1) cap] 60))
  clear h
  go_enter Try.func78, Try.ntmps78
  go_wp2_with fail
  have HB := hid hb
  clear hb
  rw [show ((n : Int) + 1) = ((n + 1 : Nat) : Int) by omega]
  refine (gridOf_pure (n + 1) 99 #[.pointer (some ⟨w.heap.size, 0, none⟩)] (adjAt n m) _ (by omega) Try.call99 (fun i j w1 hi hj hL => (adjEntry_any n m hq hn w.heap.size _ i j w1 hi hj (hL.cell HB.out) (HR.out.later hL)).mono fun e w2 h2 => h2)).mono ?_
  rintro e w1 ⟨v1, rfl, ho, hL⟩
  have HO := hid ho
  have HL1 := hid (HL.out.trans hL)
  clear ho hL
  go_wp2_with fail
  go_ret
  exact ⟨_, rfl, HO.out.wide (by simp) (Nat.le_refl _), HL1.out⟩

set_option maxHeartbeats 400000 in
theorem invEntry_any (n : Nat) (A : List (List Int)) (hq : Sq n A) (bd ba : Nat) (d : Int) (v : Value) (i j : Nat) (w : World) (hi : i < n) (hj : j < n)
    (hbd : w.cell? ⟨bd, 0, none⟩ = some (.int .i64 d)) (hba : w.cell? ⟨ba, 0, none⟩ = some v) (h : Rows2 w v A) :
    Calls Try.prog 79 #[.int .i64 i, .int .i64 j, .pointer (some ⟨bd, 0, none⟩), .pointer (some ⟨ba, 0, none⟩)] w fun e w' => e = .returned (.int .i64 (wrap64 (d * ent A i j))) ∧ Later w w' := by
  obtain ⟨ad, cap, a2, c2, rfl, hc, _, hx⟩ := h.ent hq i hi
  obtain ⟨ad2, rfl, hcx⟩ := hx j hj
  have h1 : w.drew.cell? ⟨bd, 0, none⟩ = some (.int .i64 d) := hbd
  have h2 : w.drew.cell? ⟨ba, 0, none⟩ = some (.slice (some ad) n cap) := hba
  have h3 : w.drew.cell? (ad.add i) = some (.slice (some ad2) n c2) := hc
  have h4 : w.drew.cell? (ad2.add j) = some (.int .i64 (ent A i j)) := hcx
  have hi2 : (i : Int) < (n : Int) := by omega
  have hj2 : (j : Int) < (n : Int) := by omega
  clear hbd hba hc hcx hx h
  go_enter Try.func79, Try.ntmps79
  go_wp2_with fail
  go_region_held3 (fun w' => w'.cell? ⟨bd, 0, none⟩ = some (.int .i64 d) ∧ w'.cell? ⟨ba, 0, none⟩ = some (.slice (some ad) n cap) ∧ w'.cell? (ad.add i) = some (.slice (some ad2) n c2) ∧ w'.cell? (ad2.add j) = some (.int .i64 (ent A i j))) (exact ⟨h1, h2, h3, h4⟩) (fail)
  go_wp2_with fail
  go_ret
  exact ⟨by simp [IntWalk.i64_left], Later.drew w⟩

def unitDet (m : List (List Int)) : Prop := det m.length m = 1 ∨ det m.length m = -1
instance (m : List (List Int)) : Decidable (unitDet m) := by unfold unitDet; infer_instance
def invAns (m : List (List Int)) : Option (List (List Int)) := if goodM 1000 m = true ∧ unitDet m then ifGood (invM (det m.length m) (m.length - 1) m) else none

set_option maxHeartbeats 1000000 in
theorem implInverseOf_any (v : Value) (m : List (List Int)) (w : World) (h : Rows2 w v m) :
    Calls Try.prog 37 #[.agg #[v]] w fun e w' => MatAns w (invAns m) e w' := by
  obtain ⟨a, cap, rfl, hl, _⟩ := id h
  have hL := (Later.alloc w (.cells #[Value.slice a m.length cap] 27)).trans (Later.alloc _ (.cells #[Value.slice none 0 0] 27))
  have hb0 : Box ((w.alloc (.cells #[Value.slice a m.length cap] 27)).alloc (.cells #[Value.slice none 0 0] 27)) w.heap.size (.slice a m.length cap) := ⟨by simp [go_sem], by simp [go_sem]⟩
  have hb1 : Box ((w.alloc (.cells #[Value.slice a m.length cap] 27)).alloc (.cells #[Value.slice none 0 0] 27)) (w.heap.size + 1) (.slice none 0 0) := ⟨by simp [go_sem], by simp [go_sem]⟩
  have HR := hid (h.later hL)
  have HL := hid hL
  have hc0 := hb0.1
  have hs : w.heap.size + 2 ≤ ((w.alloc (.cells #[Value.slice a m.length cap] 27)).alloc (.cells #[Value.slice none 0 0] 27)).heap.size := by simp
  have HB0 := hid hb0
  have HB1 := hid hb1
  clear h hL hb0 hb1
  go_enter Try.func37, Try.ntmps37
  go_wp2_with fail
  generalize (w.alloc (.cells #[Value.slice a m.length cap] 27)).alloc (.cells #[Value.slice none 0 0] 27) = w1 at hc0 hs HB0 HB1 HR HL ⊢
  refine (implDeterminantOf_any _ m _ HR.out).mono ?_
  rintro e w2 ⟨rfl, hL2⟩
  have hB1 := HB1.out.later hL2
  have hB0 := HB0.out.later hL2
  have hR2 := HR.out.later hL2
  have hLL2 := HL.out.trans hL2
  have hs2 : w.heap.size + 2 ≤ w2.heap.size := by have := hL2.size; omega
  clear HB0 HB1 HR HL hc0 hL2 hs
  cases hg : goodM 1000 m
  · have HA := hid (show invAns m = none by unfold invAns; rw [if_neg (by rw [hg]; simp)])
    rw [show detAns m = none from whenGood_no hg]
    have hA := Later.alloc w2 (.cells #[Value.int .i64 0] 3)
    have hc1 := (hB1.later hA).1
    have hf1 := (hB1.later hA).2
    have HLL := hid (hLL2.trans hA)
    clear hg hB0 hB1 hR2 hLL2 hA
    go_wp2_with fail
    refine bodyPost_ret (v := .tuple #[.agg #[.slice none 0 0], .bool false]) (by simp [results, Try.results37, go_sem, hc1]) rfl ⟨_, by rw [HA.out]; rfl, by rw [HA.out]; exact OwnRows.empty _ _ _, ?_⟩
    first | exact HLL.out | exact HLL.out.setCell (by simp) _
  · have hsq := goodM_sq hg
    obtain ⟨n, hn⟩ : ∃ n, m.length = n + 1 := ⟨m.length - 1, by omega⟩
    rw [show detAns m = some (det m.length m) from whenGood_yes hg]
    have hA := Later.alloc w2 (.cells #[Value.int .i64 (det m.length m)] 3)
    have hcd : (w2.alloc (.cells #[Value.int .i64 (det m.length m)] 3)).cell? ⟨w2.heap.size, 0, none⟩ = some (.int .i64 (det m.length m)) := by simp [go_sem]
    have hs3 : w2.heap.size + 1 ≤ (w2.alloc (.cells #[Value.int .i64 (det m.length m)] 3)).heap.size := by simp
    have hB1' := hB1.later hA
    have hc1 := hB1'.1
    have hf1 := hB1'.2
    have hc0 := (hB0.later hA).1
    have HB1 := hid hB1'
    have HR := hid (hR2.later hA)
    have HLL := hid (hLL2.trans hA)
    have HSQ := hid hsq.2.2
    have HG := hid hg
    have HN := hid hn
    have hm4 : m.length ≤ 4 := hsq.2.1
    clear hg hB0 hB1 hB1' hR2 hLL2 hA hsq hn
    by_cases hu : unitDet m
    · have HA := hid (show invAns m = ifGood (invM (det m.length m) (m.length - 1) m) by unfold invAns; rw [if_pos ⟨HG.out, hu⟩])
      obtain ⟨d, hd⟩ : ∃ d, d = det m.length m := ⟨_, rfl⟩
      rw [← hd] at hcd hs3 hc1 hf1 hc0 HB1 HR HLL HA ⊢
      have HU := hid (show d = 1 ∨ d = -1 by rw [hd]; exact hu)
      clear hu hd
      rw [show m.length - 1 = n by rw [HN.out]; omega] at HA
      have HMK := hid (show mk (n + 1) (fun i j => wrap64 (d * ent (adjM n m) i j)) = invM d n m from mk_congr _ _ _ fun i j hi hj => by unfold invAt adjM; rw [ent_mk _ _ i j hi hj])
      have hn4 : n + 1 ≤ 4 := by have := HN.out; omega
      have hdd : (d != 1) = false ∨ ((d != 1) = true ∧ (d != -1) = false) := by rcases HU.out with h | h <;> subst h <;> simp
      rcases hdd with hb1 | ⟨hb1, hb2⟩
      all_goals
        go_wp2_with fail
        have hsz : w2.heap.size < (w2.alloc (.cells #[Value.int .i64 d] 3)).heap.size := by simp
        generalize w2.alloc (.cells #[Value.int .i64 d] 3) = w3 at hcd hs3 hc1 hf1 hc0 HB1 HR HLL hsz ⊢
        refine (adjoint_any n m (by rw [← HN.out]; exact HSQ.out) _ w3 hn4 HR.out).mono ?_
        rintro e w4 ⟨v4, rfl, ho4, hL4⟩
        obtain ⟨a4, cap4, hv4, _⟩ := ho4.shape
        rw [show (adjM n m).length = n + 1 from mk_length _ _] at hv4
        subst hv4
        have hA := Later.alloc w4 (.cells #[Value.slice a4 (n + 1) cap4] 60)
        have hca : (w4.alloc (.cells #[Value.slice a4 (n + 1) cap4] 60)).cell? ⟨w4.heap.size, 0, none⟩ = some (.slice a4 (n + 1) cap4) := by simp [go_sem]
        have HCD := hid ((hL4.trans hA).cell hcd)
        have HB5 := hid (HB1.out.later (hL4.trans hA))
        have HO4 := hid (ho4.later hA)
        have HL5 := hid (HLL.out.trans (hL4.trans hA))
        clear hcd hc1 hf1 hc0 hs3 ho4 hL4 hA hsz HR
        go_wp2_with fail
        generalize w4.alloc (.cells #[Value.slice a4 (n + 1) cap4] 60) = w5 at hca HCD HB5 HO4 HL5 ⊢
        have HCA := hid hca
        clear hca
        rw [show ((n : Int) + 1) = ((n + 1 : Nat) : Int) by omega]
        refine (gridOf_pure (n + 1) 79 #[.pointer (some ⟨w2.heap.size, 0, none⟩), .pointer (some ⟨w4.heap.size, 0, none⟩)] (fun i j => wrap64 (d * ent (adjM n m) i j)) _ (by omega) Try.call79 (fun i j w6 hi hj hL => (invEntry_any (n + 1) (adjM n m) (Sq.mk' _ _) w2.heap.size w4.heap.size d _ i j w6 hi hj (hL.cell HCD.out) (hL.cell HCA.out) (HO4.out.rows.later hL)).mono fun e w7 h7 => h7)).mono ?_
        rintro e w6 ⟨v6, rfl, ho6, hL6⟩
        rw [HMK.out] at ho6
        have HO6 := hid ho6
        have HL6 := hid hL6
        clear ho6 hL6
        go_wp2_with fail
        refine (matrixOf_ans w5 _ (invM d n m) _ HL6.out HO6.out).mono ?_
        rintro e w7 ⟨v7, rfl, ho7, hL7⟩
        obtain ⟨hc1, hf1⟩ := HB5.out.later hL7
        have HL7 := hid (HL5.out.trans hL7)
        have hs5 := HL5.out.size
        obtain ⟨a7, cap7, rfl, _⟩ := ho7.shape
        have HO7 := hid ho7
        clear hL7 ho7
        go_wp2_with fail
        refine bodyPost_ret (v := .tuple #[.agg #[.slice a7 ((ifGood (invM d n m)).getD []).length cap7], .bool (ifGood (invM d n m)).isSome]) (by simp [results, Try.results37, go_sem, hc1]) rfl ⟨_, by rw [HA.out], ?_, ?_⟩
        · rw [HA.out]
          have := HB5.out.lt
          exact (HO7.out.setCell (a := ⟨w.heap.size + 1, 0, none⟩) (by simp; omega) _).wide hs5 (by simp [World.setCell])
        · exact HL7.out.setCell (by simp) _
    · have HA := hid (show invAns m = none by unfold invAns; rw [if_neg (fun h => hu h.2)])
      have h1 : ¬ det m.length m = 1 := fun h => hu (.inl h)
      have h2 : ¬ det m.length m = -1 := fun h => hu (.inr h)
      generalize det m.length m = d at hcd hs3 hc1 hf1 hc0 HB1 HR HLL h1 h2 ⊢
      clear hu
      have hb1 : (d != 1) = true := by simp [h1]
      have hb2 : (d != -1) = true := by simp [h2]
      go_wp2_with fail
      all_goals
        refine bodyPost_ret (v := .tuple #[.agg #[.slice none 0 0], .bool false]) (by simp [results, Try.results37, go_sem, hc1]) rfl ⟨_, by rw [HA.out]; rfl, by rw [HA.out]; exact OwnRows.empty _ _ _, ?_⟩
        first | exact HLL.out | exact HLL.out.setCell (by simp) _
end Go.Proofs.Ytedgccbogjinhaa
