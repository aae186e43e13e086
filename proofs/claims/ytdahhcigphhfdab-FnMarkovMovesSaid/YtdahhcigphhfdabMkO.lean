/- Contracts of MarkovDown and MarkovMove. -/
import Derived.Test.YtdahhcigphhfdabMkN
namespace Go.Proofs.Ytdahhcigphhfdab
open Go.RowKit

def downAns (zs : List Int) : Option (List Int) := if mkGoodW zs = true ∧ zs.getD 2 0 ≠ 1 then some (ordL (zs.getD 0 0) (zs.getD 1 0) (3 * zs.getD 0 0 * zs.getD 1 0 - zs.getD 2 0)) else none
def moveOpt (x y z : Int) (i : Nat) : Option (List Int) := if 1000000000 < other3 x y z i then none else some (moveL x y z i)
def moveAns (zs : List Int) (i : Int) : Option (List Int) := if mkGoodW zs = true ∧ (0 ≤ i ∧ i ≤ 2) then moveOpt (zs.getD 0 0) (zs.getD 1 0) (zs.getD 2 0) i.toNat else none
theorem ordL_rot0 (x y z : Int) : ordL y z x = ordL x y z := by rw [← ordL_swap2, ordL_swap1]
theorem ordL_rot1 (x y z : Int) : ordL z x y = ordL x y z := by rw [ordL_swap1, ordL_swap2]
theorem areCnt_of {x y z : Int} (hx : 1 ≤ x ∧ x ≤ 1000000000) (hy : 1 ≤ y ∧ y ≤ 1000000000) (hz : 1 ≤ z ∧ z ≤ 1000000000) : areCnt [x, y, z] = true := by
  simp [areCnt, within, hx.1, hx.2, hy.1, hy.2, hz.1, hz.2]
theorem Cnt0.of {x : Int} (h : 1 ≤ x ∧ x ≤ 1000000000) : Cnt0 x := ⟨by omega, h.2⟩
theorem OwnInts.nothing (lo hi : Nat) (w : World) : OwnInts lo hi w (.slice none 0 0) [] := ⟨World.ownsRow_nil _ _ _ _, fun b hb => by simp [Value.ownBlock] at hb⟩
theorem arrayAt3 (ad : Addr) (cap : Nat) : ∀ w, (Instr.arrayAt 106 (.slice (some ad) 3 cap)).run Try.prog w = .ok (.pointer (some ad)) w := fun w => run_arrayAt w _ _ _ _ _ _ Try.underlying106 (by omega)

set_option maxRecDepth 20000 in
set_option maxHeartbeats 2000000 in
/-- The triple below (the model). -/
theorem mkDown_any (x y z : Int) (ad : Addr) (cap : Nat) (w : World) (hx : 1 ≤ x ∧ x ≤ 1000000000) (hy : 1 ≤ y ∧ y ≤ 1000000000) (hz : 1 ≤ z ∧ z ≤ 1000000000) (hxy : x ≤ y) (hyz : y ≤ z) (he : x * x + y * y + z * z = 3 * x * y * z)
    (c0 : w.cell? ad = some (.int .i64 x)) (c1 : w.cell? ⟨ad.block, ad.off + 1, none⟩ = some (.int .i64 y)) (c2 : w.cell? ⟨ad.block, ad.off + 2, none⟩ = some (.int .i64 z)) :
    Calls Try.prog 119 #[.slice (some ad) 3 cap] w fun e w' => MadeInts w (ordL x y (3 * x * y - z)) e w' := by
  obtain ⟨p1, p2⟩ := mul_le18 hx.1 hx.2 hx.1 hx.2
  obtain ⟨p3, p4⟩ := mul_le18 hy.1 hy.2 hy.1 hy.2
  have hn : 1 ≤ 3 * x * y - z ∧ 3 * x * y - z ≤ 1000000000 := by
    have h1 := down_pos x y z hx.1 hy.1 hz.1 he
    by_cases h : z = 1
    · have : x = 1 := by omega
      have : y = 1 := by omega
      subst_vars; omega
    · have := down_less x y z hx.1 hxy hyz he h
      omega
  have hq : (x * x + y * y) / z = 3 * x * y - z := by
    have h2 : x * x + y * y = z * (3 * x * y - z) := by grind
    rw [h2]; exact Int.mul_ediv_cancel_left _ (by omega)
  have z0 : ¬ z = 0 := by omega
  obtain ⟨n, hn0⟩ : ∃ n, n = 3 * x * y - z := ⟨_, rfl⟩
  rw [← hn0] at hn hq ⊢
  have q1 : (x * x + y * y).tdiv z = n := by rw [← hq]; exact Int.tdiv_eq_ediv_of_nonneg (by omega)
  have qw : IntKind.i64.wrap n = n := by rw [IntWalk.i64_left]; exact IntWalk.wrap64_in _ (by omega)
  have w1 : IntKind.i64.wrap (x * x) = x * x := by rw [IntWalk.i64_left]; exact IntWalk.wrap64_in _ (by omega)
  have w2 : IntKind.i64.wrap (y * y) = y * y := by rw [IntWalk.i64_left]; exact IntWalk.wrap64_in _ (by omega)
  have w3 : IntKind.i64.wrap (x * x + y * y) = x * x + y * y := by rw [IntWalk.i64_left]; exact IntWalk.wrap64_in _ (by omega)
  clear hq hn0 he
  go_enter Try.func119, Try.ntmps119
  go_wp2_with fail
  go_region_held3 (fun w' => w'.cell? ad = some (.int .i64 x) ∧ w'.cell? ⟨ad.block, ad.off + 1, none⟩ = some (.int .i64 y) ∧ w'.cell? ⟨ad.block, ad.off + 2, none⟩ = some (.int .i64 z)) (first | exact ⟨c0, c1, c2⟩ | exact ⟨d0, d1, d2⟩) (first | (go_at_call 122; refine (mkSort_any x y n _ (by omega) (by omega) (by omega)).mono ?_; rintro e w2 ⟨v2, rfl, hown, hL⟩; have d0 := hL.cell (w := w.drew) c0; have d1 := hL.cell (w := w.drew) c1; have d2 := hL.cell (w := w.drew) c2; have HL := hid ((Later.drew w).trans hL); have HO := hid hown; clear hL hown))
  go_wp2_with fail
  go_ret
  exact ⟨_, rfl, HO.out, HL.out⟩

set_option maxHeartbeats 1000000 in
theorem specMarkovDown_any (v : Value) (zs : List Int) (w : World) (h : Ints w v zs) :
    Calls Try.prog 50 #[v] w fun e w' => IntsAns w (downAns zs) e w' := by
  cases hg : mkGoodW zs
  · have HA := hid (show downAns zs = none by unfold downAns; rw [if_neg (by simp [hg])])
    have HG := hid hg
    have H := hid h
    obtain ⟨a, cap, rfl, hl, _⟩ := id h
    clear hg h
    go_enter Try.func50, Try.ntmps50
    go_wp2_with fail
    refine (mkGood_as _ zs false _ HG.out H.out).mono ?_
    rintro e w' ⟨rfl, n, rfl⟩
    go_wp2_with fail
    go_ret2
    rw [HA.out]
    exact ⟨_, rfl, OwnInts.nothing _ _ _, Later.drewN _ _⟩
  · obtain ⟨x, y, z, rfl, hx, hy, hz, hxy, hyz, he⟩ := mkGoodW_three hg
    obtain ⟨x', y', z', ad, cap, e1, rfl, c0, c1, c2⟩ := h.three rfl
    simp only [List.cons.injEq, and_true] at e1
    obtain ⟨rfl, rfl, rfl⟩ := e1
    have HG := hid hg
    have H := hid h
    have HE := hid he
    by_cases hz1 : z = 1
    · have HA := hid (show downAns [x, y, z] = none by unfold downAns; rw [if_neg (by simp [hz1])])
      have hd : (z == 1) = true := by simp [hz1]
      clear hg h he hz1
      go_enter Try.func50, Try.ntmps50
      go_wp2_with fail
      refine (mkGood_as (.slice (some ad) 3 cap) [x, y, z] true _ HG.out H.out).mono ?_
      rintro e w' ⟨rfl, n, rfl⟩
      have c2' := (Later.drewN w n).cell c2
      go_wp2_with fail
      go_ret2
      rw [HA.out]
      exact ⟨_, rfl, OwnInts.nothing _ _ _, Later.drewN _ _⟩
    · have HA := hid (show downAns [x, y, z] = some (ordL x y (3 * x * y - z)) by unfold downAns; rw [if_pos ⟨hg, by simpa using hz1⟩]; rfl)
      have hd : (z == 1) = false := by simp [hz1]
      clear hg h he
      go_enter Try.func50, Try.ntmps50
      go_wp2_with fail
      refine (mkGood_as (.slice (some ad) 3 cap) [x, y, z] true _ HG.out H.out).mono ?_
      rintro e w' ⟨rfl, n, rfl⟩
      have c2' := (Later.drewN w n).cell c2
      go_wp2_with fail
      refine (mkDown_any x y z ad cap _ hx hy hz hxy hyz HE.out ((Later.drewN w n).cell c0) ((Later.drewN w n).cell c1) c2').mono ?_
      rintro e w2 ⟨v2, rfl, ho, hL⟩
      have HO := hid ho
      have HL := hid hL
      clear ho hL
      go_wp2_with fail
      go_ret2
      rw [HA.out]
      exact ⟨_, rfl, HO.out.wide (Later.drewN w n).size (Nat.le_refl _), (Later.drewN w n).trans HL.out⟩

set_option maxRecDepth 20000 in
set_option maxHeartbeats 1000000 in
theorem implMarkovDown_any (v : Value) (zs : List Int) (w : World) (h : Ints w v zs) :
    Calls Try.prog 49 #[v] w fun e w' => IntsAns w (downAns zs) e w' := by
  cases hg : mkGoodW zs
  · have HA := hid (show downAns zs = none by unfold downAns; rw [if_neg (by simp [hg])])
    have HG := hid hg
    have H := hid h
    obtain ⟨a, cap, rfl, hl, _⟩ := id h
    clear hg h
    go_enter Try.func49, Try.ntmps49
    go_wp2_with fail
    refine (implIsMarkov_any _ zs _ H.out).mono ?_
    rintro e w' ⟨rfl, hL⟩
    rw [HG.out]
    have HL := hid hL
    clear hL
    go_wp2_with fail
    go_ret2
    rw [HA.out]
    exact ⟨_, rfl, OwnInts.nothing _ _ _, HL.out⟩
  · obtain ⟨x, y, z, rfl, hx, hy, hz, hxy, hyz, he⟩ := mkGoodW_three hg
    obtain ⟨x', y', z', ad, cap, e1, rfl, c0, c1, c2⟩ := h.three rfl
    simp only [List.cons.injEq, and_true] at e1
    obtain ⟨rfl, rfl, rfl⟩ := e1
    have HG := hid hg
    have H := hid h
    have ha := arrayAt3 ad cap
    by_cases hz1 : z = 1
    · have HA := hid (show downAns [x, y, z] = none by unfold downAns; rw [if_neg (by simp [hz1])])
      have HR := hid (show isRoot3 x y z = true by unfold isRoot3; rw [decide_eq_true (by omega), decide_eq_true (by omega), decide_eq_true (by omega)]; rfl)
      clear hg h he hz1
      go_enter Try.func49, Try.ntmps49
      go_wp2_with fail
      refine (implIsMarkov_any (.slice (some ad) 3 cap) [x, y, z] _ H.out).mono ?_
      rintro e w2 ⟨rfl, hL⟩
      rw [HG.out]
      replace c0 := hL.cell c0
      replace c1 := hL.cell c1
      replace c2 := hL.cell c2
      have HL := hid hL
      clear hL
      go_wp2_with fail
      refine (isMarkovRoot_any x y z _).mono ?_
      rintro e w3 ⟨rfl, hL⟩
      rw [HR.out]
      have HL3 := hid (HL.out.trans hL)
      clear hL c0 c1 c2
      go_wp2_with fail
      go_ret2
      rw [HA.out]
      exact ⟨_, rfl, OwnInts.nothing _ _ _, HL3.out⟩
    · have HA := hid (show downAns [x, y, z] = some (ordL x y (3 * x * y - z)) by unfold downAns; rw [if_pos ⟨hg, by simpa using hz1⟩]; rfl)
      have HR := hid (show isRoot3 x y z = false by unfold isRoot3; rw [decide_eq_false hz1]; simp)
      clear hg h he hz1
      go_enter Try.func49, Try.ntmps49
      go_wp2_with fail
      refine (implIsMarkov_any (.slice (some ad) 3 cap) [x, y, z] _ H.out).mono ?_
      rintro e w2 ⟨rfl, hL⟩
      rw [HG.out]
      replace c0 := hL.cell c0
      replace c1 := hL.cell c1
      replace c2 := hL.cell c2
      have HL := hid hL
      clear hL
      go_wp2_with fail
      refine (isMarkovRoot_any x y z _).mono ?_
      rintro e w3 ⟨rfl, hL⟩
      rw [HR.out]
      replace c0 := hL.cell c0
      replace c1 := hL.cell c1
      replace c2 := hL.cell c2
      have HL3 := hid (HL.out.trans hL)
      clear hL
      go_wp2_with fail
      refine (moved_any x y z 2 (.inr (.inr rfl)) _ (Cnt0.of hx) (Cnt0.of hy) (Cnt0.of hz)).mono ?_
      rintro e w4 ⟨p, q, r, hpqr, rfl, hL⟩
      have HP := hid hpqr
      have HL4 := hid (HL3.out.trans hL)
      clear hL c0 c1 c2 hpqr
      go_wp2_with fail
      refine (list_any p q r _).mono ?_
      rintro e w5 ⟨v5, rfl, ho, hL⟩
      have HO := hid (ho.wide HL4.out.size (Nat.le_refl _))
      have HL5 := hid (HL4.out.trans hL)
      clear hL ho
      go_wp2_with fail
      go_ret2
      rw [HA.out]
      refine ⟨_, rfl, ?_, HL5.out⟩
      have h2 : ordL x y (3 * x * y - z) = [p, q, r] := HP.out
      rw [Option.getD_some, h2]
      exact HO.out
end Go.Proofs.Ytdahhcigphhfdab
