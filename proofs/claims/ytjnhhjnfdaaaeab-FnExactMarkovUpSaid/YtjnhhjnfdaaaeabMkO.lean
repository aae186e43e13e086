/- Contracts of MarkovDown and MarkovMove. -/
import Derived.Test.YtjnhhjnfdaaaeabMkN
namespace Go.Proofs.Ytjnhhjnfdaaaeab
open Go.RowKit

def downAns (zs : List Int) : Option (List Int) := if mkGoodW zs = true ∧ zs.getD 2 0 ≠ 1 then some (ordL (zs.getD 0 0) (zs.getD 1 0) (3 * zs.getD 0 0 * zs.getD 1 0 - zs.getD 2 0)) else none
def moveOpt (x y z : Int) (i : Nat) : Option (List Int) := if 1000000000 < other3 x y z i then none else some (moveL x y z i)
def moveAns (zs : List Int) (i : Int) : Option (List Int) := if mkGoodW zs = true ∧ (0 ≤ i ∧ i ≤ 2) then moveOpt (zs.getD 0 0) (zs.getD 1 0) (zs.getD 2 0) i.toNat else none
theorem ordL_rot0 (x y z : Int) : ordL y z x = ordL x y z := by rw [← ordL_swap2, ordL_swap1]
theorem ordL_rot1 (x y z : Int) : ordL z x y = ordL x y z := by rw [ordL_swap1, ordL_swap2]
theorem areCnt_of {x y z : Int} (hx : 1 ≤ x ∧ x ≤ 1000000000) (hy : 1 ≤ y ∧ y ≤ 1000000000) (hz : 1 ≤ z ∧ z ≤ 1000000000) : areCnt [x, y, z] = true := by
  simp [areCnt, within, hx.1, hx.2, hy.1, hy.2, hz.1, hz.2]
theorem Cnt0.of {x : Int} (h : 1 ≤ x ∧ x ≤ 1000000000) : Cnt0 x := ⟨by omega, h.2⟩
theorem OwnInts.nothing (lo hi : Nat) (w : World) : OwnInts lo hi w (.slice none 0 0) [] := ⟨World.ownsRow_nil _ _ _ _, fun b hb => by simp [Value.ownBlock] at hb⟩
theorem arrayAt3 (ad : Addr) (cap : Nat) : ∀ w, (Instr.arrayAt 59 (.slice (some ad) 3 cap)).run Try.prog w = .ok (.pointer (some ad)) w := fun w => run_arrayAt w _ _ _ _ _ _ Try.underlying59 (by omega)

set_option maxRecDepth 20000 in
set_option maxHeartbeats 2000000 in
/-- The triple below (the model). -/
theorem mkDown_any (x y z : Int) (ad : Addr) (cap : Nat) (w : World) (hx : 1 ≤ x ∧ x ≤ 1000000000) (hy : 1 ≤ y ∧ y ≤ 1000000000) (hz : 1 ≤ z ∧ z ≤ 1000000000) (hxy : x ≤ y) (hyz : y ≤ z) (he : x * x + y * y + z * z = 3 * x * y * z)
    (c0 : w.cell? ad = some (.int .i64 x)) (c1 : w.cell? ⟨ad.block, ad.off + 1, none⟩ = some (.int .i64 y)) (c2 : w.cell? ⟨ad.block, ad.off + 2, none⟩ = some (.int .i64 z)) :
    Calls Try.prog 94 #[.slice (some ad) 3 cap] w fun e w' => MadeInts w (ordL x y (3 * x * y - z)) e w' := by
  obtain ⟨p1, p2⟩ := mul_le18 hx.1 hx.2 hx.1 hx.2
  obtain ⟨p3, p4⟩ := mul_le18 hy.1 hy.2 hy.1 hy.2
  have hn : 1 ≤ 3 * x * y - z ∧ 3 * x * y - z ≤ 1000000000 := by
    have h1 := down_pos x y z hx.1 hy.1 hz.1 he
    by_cases h : z = 1
    · have : x = 1 := by omega
      have : y = 1 := by omega
      subst_vars; omega
    · have := down_less x y z hx.1 hxy hyz he h
      omega
  have hq : (x * x + y * y) / z = 3 * x * y - z := by
    have h2 : x * x + y * y = z * (3 * x * y - z) := by grind
    rw [h2]; exact Int.mul_ediv_cancel_left _ (by omega)
  have z0 : ¬ z = 0 := by omega
  obtain ⟨n, hn0⟩ : ∃ n, n = 3 * x * y - z := ⟨_, rfl⟩
  rw [← hn0] at hn hq ⊢
  have q1 : (x * x + y * y).tdiv z = n := by rw [← hq]; exact Int.tdiv_eq_ediv_of_nonneg (by omega)
  have qw : IntKind.i64.wrap n = n := by rw [IntWalk.i64_left]; exact IntWalk.wrap64_in _ (by omega)
  have w1 : IntKind.i64.wrap (x * x) = x * x := by rw [IntWalk.i64_left]; exact IntWalk.wrap64_in _ (by omega)
  have w2 : IntKind.i64.wrap (y * y) = y * y := by rw [IntWalk.i64_left]; exact IntWalk.wrap64_in _ (by omega)
  have w3 : IntKind.i64.wrap (x * x + y * y) = x * x + y * y := by rw [IntWalk.i64_left]; exact IntWalk.wrap64_in _ (by omega)
  clear hq hn0 he
  go_enter Try.func94, Try.ntmps94
  go_wp2_with fail
  go_region_held3 (fun w' => w'.cell? ad = some (.int .i64 x) ∧ w'.cell? ⟨ad.block, ad.off + 1, none⟩ = some (.int .i64 y) ∧ w'.cell? ⟨ad.block, ad.off + 2, none⟩ = some (.int .i64 z)) (first | exact ⟨c0, c1, c2⟩ | exact ⟨d0, d1, d2⟩) (first | (go_at_call 130; refine (mkSort_any x y n _ (by omega) (by omega) (by omega)).mono ?_; rintro e w2 ⟨v2, rfl, hown, hL⟩; have d0 := hL.cell (w := w.drew) c0; have d1 := hL.cell (w := w.drew) c1; have d2 := hL.cell (w := w.drew) c2; have HL := hid ((Later.drew w).trans hL); have HO := hid hown; clear hL hown))
  go_wp2_with fail
  go_ret
  exact ⟨_, rfl, HO.out, HL.out⟩

end Go.Proofs.Ytjnhhjnfdaaaeab
