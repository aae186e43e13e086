/- The cursor: pick, among. -/
import Derived.Test.YthejafejmbpepaaCuA
namespace Go.Proofs.Ythejafejmbpepaa
open Go.RowKit

set_option maxRecDepth 20000 in
set_option maxHeartbeats 4000000 in
theorem curPick_any (base w : World) (B : Nat) (v : Value) (bs : List Int) (m : Nat) (n : Int) (hm : m ≤ 900000000) (hn : n ≤ 9223372036854775807) (h : Cur base w B v bs m) :
    Calls Try.prog 58 #[.pointer (some ⟨B, 0, none⟩), .int .i64 n] w fun e w' => CurNum base w B v bs (m + 2) 0 (if n ≤ 1 then 0 else n - 1) e w' := by
  have H := hid h
  clear h
  by_cases h1 : n ≤ 1
  · go_enter Try.func58, Try.ntmps58
    go_wp2_with fail
    go_ret
    exact ⟨0, rfl, by omega, by simp, H.out.mono (by omega), grown_refl _ _⟩
  · have hnz : ¬ n = 0 := by omega
    rw [if_neg h1]
    by_cases h2 : n ≤ 200
    · go_enter Try.func58, Try.ntmps58
      go_wp2_with fail
      refine (curNext_any base w B v bs m (by omega) H.out).mono ?_
      rintro e w1 ⟨x, rfl, x0, x1, hC, hG⟩
      have HC := hid hC
      have HG := hid hG
      have hr0 : 0 ≤ x.tmod n := Int.tmod_nonneg n x0
      have hr1 : x.tmod n < n := Int.tmod_lt_of_pos x (by omega)
      obtain ⟨r, hr⟩ : ∃ r, x.tmod n = r := ⟨_, rfl⟩
      rw [hr] at hr0 hr1
      have hrw : IntKind.i64.wrap r = r := by rw [IntWalk.i64_left]; exact IntWalk.wrap64_in _ (by omega)
      clear hC hG
      go_wp2_with fail
      go_ret
      exact ⟨r, rfl, hr0, by omega, HC.out.mono (by omega), HG.out⟩
    · go_enter Try.func58, Try.ntmps58
      go_wp2_with fail
      refine (curNext_any base w B v bs m (by omega) H.out).mono ?_
      rintro e w1 ⟨x, rfl, x0, x1, hC, hG⟩
      have HC := hid hC
      have HG := hid hG
      clear hC hG
      go_wp2_with fail
      refine (curNext_any base w1 B v bs (m + 1) (by omega) HC.out).mono ?_
      rintro e w2 ⟨y, rfl, y0, y1, hC, hG⟩
      have HC2 := hid hC
      have HG2 := hid (grown_trans HG.out hG)
      obtain ⟨z, hz⟩ : ∃ z, x * 256 + y = z := ⟨_, rfl⟩
      have hr0 : 0 ≤ z.tmod n := Int.tmod_nonneg n (by omega)
      have hr1 : z.tmod n < n := Int.tmod_lt_of_pos z (by omega)
      obtain ⟨r, hr⟩ : ∃ r, z.tmod n = r := ⟨_, rfl⟩
      rw [hr] at hr0 hr1
      have hrw : IntKind.i64.wrap r = r := by rw [IntWalk.i64_left]; exact IntWalk.wrap64_in _ (by omega)
      clear hC hG
      go_wp2_with fail
      go_ret
      exact ⟨r, rfl, hr0, by omega, HC2.out, HG2.out⟩
def CurIn (base w : World) (B : Nat) (v : Value) (bs : List Int) (m : Nat) (zs : List Int) (e : Ending) (w' : World) : Prop :=
  ∃ x : Int, e = .returned (.int .i64 x) ∧ x ∈ zs ∧ Cur base w' B v bs m ∧ w.grownBy w' (some B)
set_option maxRecDepth 20000 in
set_option maxHeartbeats 4000000 in
theorem curAmong_any (base w : World) (B : Nat) (v : Value) (bs : List Int) (m : Nat) (D cap : Nat) (zs : List Int) (hm : m ≤ 900000000) (hz : 0 < zs.length) (hz2 : zs.length ≤ 1000) (hD : D ≠ B) (h : Cur base w B v bs m)
    (hl : ∀ i, i < zs.length → w.cell? ⟨D, i, none⟩ = some (.int .i64 (zs.getD i 0))) :
    Calls Try.prog 57 #[.pointer (some ⟨B, 0, none⟩), .slice (some ⟨D, 0, none⟩) zs.length cap] w fun e w' => CurIn base w B v bs (m + 2) zs e w' := by
  have H := hid h
  have HL := hid hl
  obtain ⟨n, hn⟩ : ∃ n, zs.length = n := ⟨_, rfl⟩
  have HN := hid hn
  have hlt0 : D < w.heap.size := World.block_lt_of_cell? w ⟨D, 0, none⟩ (hl 0 hz)
  rw [hn] at hz hz2 HL ⊢
  clear h hl hn
  go_enter Try.func57, Try.ntmps57
  go_wp2_with fail
  refine (curPick_any base w B v bs m (n : Int) hm (by omega) H.out).mono ?_
  rintro e w1 ⟨x, rfl, x0, x1, hC, hG⟩
  have HC := hid hC
  have HG := hid hG
  obtain ⟨i, rfl⟩ : ∃ i : Nat, x = (i : Int) := ⟨x.toNat, by omega⟩
  have hin : i < n := by split at x1 <;> omega
  have hcell : w1.cell? ⟨D, i, none⟩ = some (.int .i64 (zs.getD i 0)) := cell_keep (HL.out i hin) (hG.block D hlt0 (by intro e; injection e with e; exact hD e))
  have hmem : zs.getD i 0 ∈ zs := by rw [getD_at zs i (by rw [HN.out]; exact hin)]; exact List.getElem_mem _
  obtain ⟨z, hzz⟩ : ∃ z, zs.getD i 0 = z := ⟨_, rfl⟩
  rw [hzz] at hcell hmem
  have hiI : (i : Int) < (n : Int) := by omega
  have hi0 : (0 : Int) ≤ (i : Int) := by omega
  clear hC hG x1 hzz
  go_wp2_with fail
  go_ret
  exact ⟨z, rfl, hmem, HC.out, HG.out⟩
end Go.Proofs.Ythejafejmbpepaa
