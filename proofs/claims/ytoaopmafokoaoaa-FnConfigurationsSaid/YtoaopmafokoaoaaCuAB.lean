/- CuA, CuB, CuL: in one text. -/
import Derived.Test.YtoaopmafokoaoaaRowsKI
import Derived.Deep.RegionHeld3
import Derived.Deep.DeepCutAuto
import Derived.WalkSmall
namespace Go.Proofs.Ytoaopmafokoaoaa
open Go.RowKit


/-- A slice value that reads as a list of bytes. -/
def BytesR (w : World) (v : Value) (bs : List Int) : Prop :=
  ∃ a cap, v = .slice a bs.length cap ∧ bs.length ≤ 9223372036854775807 ∧ ∀ i, i < bs.length → ∃ ad, a = some ad ∧ w.cell? (ad.add i) = some (.int .u8 (bs.getD i 0)) ∧ 0 ≤ bs.getD i 0 ∧ bs.getD i 0 ≤ 255
theorem BytesR.later {w w' : World} {v : Value} {bs : List Int} (h : BytesR w v bs) (k : Later w w') : BytesR w' v bs := by
  obtain ⟨a, cap, rfl, hl, hc⟩ := h
  refine ⟨a, cap, rfl, hl, fun i hi => ?_⟩
  obtain ⟨ad, rfl, h1, h2⟩ := hc i hi
  exact ⟨ad, rfl, k.cell h1, h2⟩
/-- A cursor in block B over bytes that were there at 'base'; it has drawn at most m times. -/
structure Cur (base w : World) (B : Nat) (v : Value) (bs : List Int) (m : Nat) : Prop where
  later : Later base w
  behind : base.heap.size ≤ B
  reads : BytesR base v bs
  code : w.cell? ⟨B, 0, none⟩ = some v
  rest : ∃ (a : Nat) (s : Int), w.cell? ⟨B, 1, none⟩ = some (.int .i64 a) ∧ a ≤ m ∧ w.cell? ⟨B, 2, none⟩ = some (.int .u64 s) ∧ 0 ≤ s ∧ s ≤ 18446744073709551615
  f1 : w.frozen? ⟨B, 1, none⟩ = false
  f2 : w.frozen? ⟨B, 2, none⟩ = false
theorem grown_refl (w : World) (B : Nat) : w.grownBy w (some B) := ⟨rfl, rfl, rfl, Nat.le_refl _, fun _ _ _ => rfl⟩
theorem grown_of_later {w w' : World} (h : Later w w') (B : Nat) : w.grownBy w' (some B) := ⟨h.os, h.tape, h.output, h.size, fun k hk _ => h.block k hk⟩
theorem grown_trans {a b c : World} {B : Nat} (h : a.grownBy b (some B)) (k : b.grownBy c (some B)) : a.grownBy c (some B) :=
  ⟨k.os.trans h.os, k.tape.trans h.tape, k.output.trans h.output, Nat.le_trans h.size k.size, fun j hj hne => (k.block j (Nat.lt_of_lt_of_le hj h.size) hne).trans (h.block j hj hne)⟩
theorem grown_set (w : World) (B i : Nat) (u : Value) : w.grownBy (w.setCell ⟨B, i, none⟩ u) (some B) :=
  ⟨rfl, rfl, rfl, by simp, fun k _ hne => heap_setCell_other _ _ k _ (by intro e; apply hne; simp [e])⟩
/-- what a draw leaves -/
def CurNum (base w : World) (B : Nat) (v : Value) (bs : List Int) (m : Nat) (lo hi : Int) (e : Ending) (w' : World) : Prop :=
  ∃ x : Int, e = .returned (.int .i64 x) ∧ lo ≤ x ∧ x ≤ hi ∧ Cur base w' B v bs m ∧ w.grownBy w' (some B)
theorem Cur.mono {base w : World} {B : Nat} {v : Value} {bs : List Int} {m n : Nat} (h : Cur base w B v bs m) (k : m ≤ n) : Cur base w B v bs n := by
  obtain ⟨h1, h2, h3, h4, ⟨a, s, r1, r2, r3⟩, h6, h7⟩ := h
  exact ⟨h1, h2, h3, h4, ⟨a, s, r1, Nat.le_trans r2 k, r3⟩, h6, h7⟩
theorem Cur.keep {base w w' : World} {B : Nat} {v : Value} {bs : List Int} {m : Nat} (h : Cur base w B v bs m) (k : Later w w') : Cur base w' B v bs m := by
  obtain ⟨h1, h2, h3, h4, ⟨a, s, r1, r2, r3, r4⟩, h6, h7⟩ := h
  exact ⟨h1.trans k, h2, h3, k.cell h4, ⟨a, s, k.cell r1, r2, k.cell r3, r4⟩, k.frozen r1 h6, k.frozen r3 h7⟩
theorem Cur.step {base w w1 : World} {B : Nat} {v : Value} {bs : List Int} {m : Nat} (h : Cur base w B v bs m) (k : Later w w1) (a : Nat) (ha : a ≤ m) (x : Int) (hx : 0 ≤ x ∧ x ≤ 18446744073709551615) :
    Cur base ((w1.setCell ⟨B, 1, none⟩ (.int .i64 ((a : Int) + 1))).setCell ⟨B, 2, none⟩ (.int .u64 x)) B v bs (m + 1) ∧ w.grownBy ((w1.setCell ⟨B, 1, none⟩ (.int .i64 ((a : Int) + 1))).setCell ⟨B, 2, none⟩ (.int .u64 x)) (some B) := by
  have hg : w.grownBy ((w1.setCell ⟨B, 1, none⟩ (.int .i64 ((a : Int) + 1))).setCell ⟨B, 2, none⟩ (.int .u64 x)) (some B) := grown_trans (grown_trans (grown_of_later k B) (grown_set _ _ _ _)) (grown_set _ _ _ _)
  refine ⟨?_, hg⟩
  obtain ⟨h1, h2, h3, h4, ⟨a', s, r1, r2, r3, r4⟩, h6, h7⟩ := h.keep k
  refine ⟨h.later.grown hg h.later.size (fun b e => by injection e with e; subst e; exact h2), h2, h3, ?_, ⟨a + 1, x, ?_, by omega, ?_, hx⟩, ?_, ?_⟩
  · exact (World.cell?_setCell_other _ _ _ _ (by simp)).trans ((World.cell?_setCell_other _ _ _ _ (by simp)).trans h4)
  · exact (World.cell?_setCell_other _ _ _ _ (by simp)).trans (World.cell?_setCell_same _ _ _ r1)
  · exact World.cell?_setCell_same _ _ _ ((World.cell?_setCell_other _ _ _ _ (by simp)).trans r3)
  · simp only [World.frozen?_setCell]; exact h6
  · simp only [World.frozen?_setCell]; exact h7
theorem wrapU (z : Int) : 0 ≤ IntKind.u64.wrap z ∧ IntKind.u64.wrap z ≤ 18446744073709551615 := by
  simp [IntKind.wrap, IntKind.signed, IntKind.bits]
  omega
theorem and_255_u64 (E : Int) (h0 : 0 ≤ E) (h1 : E ≤ 18446744073709551615) : bits BinOp.and IntKind.u64 E 255 = E % 256 := by
  have h := bits_and_u64_nat E.toNat 255 (by omega) (by omega)
  rw [show (255 : Nat) = 2 ^ 8 - 1 from rfl, Nat.and_two_pow_sub_one_eq_mod, Int.toNat_of_nonneg h0] at h
  have h2 : ((E.toNat % 2 ^ 8 : Nat) : Int) = E % 256 := by omega
  exact h.trans h2
theorem curByte {s : Int} (h : 0 ≤ s ∧ s ≤ 18446744073709551615) : 0 ≤ wrap64 (bits BinOp.and IntKind.u64 (s / 1099511627776) 255) ∧ wrap64 (bits BinOp.and IntKind.u64 (s / 1099511627776) 255) ≤ 255 := by
  rw [and_255_u64 _ (by omega) (by omega), IntWalk.wrap64_in _ (by omega)]
  omega
set_option maxRecDepth 20000 in
set_option maxHeartbeats 4000000 in
theorem curNext_any (base w : World) (B : Nat) (v : Value) (bs : List Int) (m : Nat) (hm : m ≤ 1000000000) (h : Cur base w B v bs m) :
    Calls Try.prog 100 #[.pointer (some ⟨B, 0, none⟩)] w fun e w' => CurNum base w B v bs (m + 1) 0 255 e w' := by
  have H := hid h
  obtain ⟨h1, h2, h3, h4, ⟨a, s, r1, r2, r3, r4, r5⟩, h6, h7⟩ := h
  obtain ⟨ca, cap, rfl, hl, hc⟩ := id h3
  have HC := hid hc
  have HL := hid h1
  have H3 := hid h3
  have H2 := hid h2
  clear hc h1 h2 h3
  by_cases hlt : a < bs.length
  · have hltI : (a : Int) < (bs.length : Int) := by omega
    obtain ⟨ad, rfl, hcell, hb0, hb1⟩ := HC.out a hlt
    have hcell' := HL.out.cell hcell
    obtain ⟨b, hb⟩ : ∃ b, bs.getD a 0 = b := ⟨_, rfl⟩
    rw [hb] at hcell' hb0 hb1
    clear hcell hb
    have ha0 : (0 : Int) ≤ (a : Int) := by omega
    have HG := hid (grown_refl w B)
    go_enter Try.func100, Try.ntmps100
    go_wp2_with fail
    go_quiet (fail)
    have HQ := hid (Later.drewN w nq)
    generalize w.drewN nq = wa at HQ ⊢
    replace h6 := HQ.out.frozen r1 h6
    replace h7 := HQ.out.frozen r3 h7
    replace r1 := HQ.out.cell r1
    replace r3 := HQ.out.cell r3
    replace h4 := HQ.out.cell h4
    replace hcell' := HQ.out.cell hcell'
    replace H := hid (H.out.keep HQ.out)
    replace HG := hid (grown_trans HG.out (grown_of_later HQ.out B))
    clear HQ
    go_wp2_with fail
    go_quiet (fail)
    have HQ := hid (Later.drewN wa nq)
    generalize wa.drewN nq = wb at HQ ⊢
    replace h6 := HQ.out.frozen r1 h6
    replace h7 := HQ.out.frozen r3 h7
    replace r1 := HQ.out.cell r1
    replace r3 := HQ.out.cell r3
    replace h4 := HQ.out.cell h4
    replace hcell' := HQ.out.cell hcell'
    replace H := hid (H.out.keep HQ.out)
    replace HG := hid (grown_trans HG.out (grown_of_later HQ.out B))
    clear HQ
    go_wp2_with fail
    obtain ⟨X, hX⟩ : ∃ X, IntKind.u64.wrap (IntKind.u64.wrap (IntKind.u64.wrap (s * 6364136223846793005) + b) + 1442695040888963407) = X := ⟨_, rfl⟩
    have hXb := wrapU (IntKind.u64.wrap (IntKind.u64.wrap (s * 6364136223846793005) + b) + 1442695040888963407)
    rw [hX] at hXb ⊢
    clear hX
    have hst := H.out.step (Later.refl wb) a r2 X hXb
    replace H := hid hst.1
    replace HG := hid (grown_trans HG.out hst.2)
    clear hst r3 r1 h4 h6 h7
    generalize (wb.setCell ⟨B, 1, none⟩ (.int .i64 ((a : Int) + 1))).setCell ⟨B, 2, none⟩ (.int .u64 X) = wc at H HG ⊢
    obtain ⟨_, _, _, h4, ⟨a2, s2, r1, q2, r3, q4, q5⟩, h6, h7⟩ := H.out
    go_quiet (fail)
    have HQ := hid (Later.drewN wc nq)
    generalize wc.drewN nq = wd at HQ ⊢
    replace h6 := HQ.out.frozen r1 h6
    replace h7 := HQ.out.frozen r3 h7
    replace r1 := HQ.out.cell r1
    replace r3 := HQ.out.cell r3
    replace h4 := HQ.out.cell h4
    replace H := hid (H.out.keep HQ.out)
    replace HG := hid (grown_trans HG.out (grown_of_later HQ.out B))
    clear HQ
    go_wp2_with fail
    · go_ret
      exact ⟨_, rfl, hb0, hb1, H.out, HG.out⟩
    · go_ret
      have hr := curByte ⟨q4, q5⟩
      exact ⟨_, rfl, hr.1, hr.2, H.out, HG.out⟩
  · have hltI : ¬ (a : Int) < (bs.length : Int) := by omega
    have HG := hid (grown_refl w B)
    clear HC
    go_enter Try.func100, Try.ntmps100
    go_wp2_with fail
    go_quiet (fail)
    have HQ := hid (Later.drewN w nq)
    generalize w.drewN nq = wb at HQ ⊢
    replace h6 := HQ.out.frozen r1 h6
    replace h7 := HQ.out.frozen r3 h7
    replace r1 := HQ.out.cell r1
    replace r3 := HQ.out.cell r3
    replace h4 := HQ.out.cell h4
    replace H := hid (H.out.keep HQ.out)
    replace HG := hid (grown_trans HG.out (grown_of_later HQ.out B))
    clear HQ
    go_wp2_with fail
    obtain ⟨X, hX⟩ : ∃ X, IntKind.u64.wrap (IntKind.u64.wrap (IntKind.u64.wrap (s * 6364136223846793005)) + 1442695040888963407) = X := ⟨_, rfl⟩
    have hXb := wrapU (IntKind.u64.wrap (IntKind.u64.wrap (s * 6364136223846793005)) + 1442695040888963407)
    rw [hX] at hXb ⊢
    clear hX
    have hst := H.out.step (Later.refl wb) a r2 X hXb
    replace H := hid hst.1
    replace HG := hid (grown_trans HG.out hst.2)
    clear hst r3 r1 h4 h6 h7
    generalize (wb.setCell ⟨B, 1, none⟩ (.int .i64 ((a : Int) + 1))).setCell ⟨B, 2, none⟩ (.int .u64 X) = wc at H HG ⊢
    obtain ⟨_, _, _, h4, ⟨a2, s2, r1, q2, r3, q4, q5⟩, h6, h7⟩ := H.out
    go_quiet (fail)
    have HQ := hid (Later.drewN wc nq)
    generalize wc.drewN nq = wd at HQ ⊢
    replace h6 := HQ.out.frozen r1 h6
    replace h7 := HQ.out.frozen r3 h7
    replace r1 := HQ.out.cell r1
    replace r3 := HQ.out.cell r3
    replace h4 := HQ.out.cell h4
    replace H := hid (H.out.keep HQ.out)
    replace HG := hid (grown_trans HG.out (grown_of_later HQ.out B))
    clear HQ
    go_wp2_with fail
    · go_ret
      exact ⟨0, rfl, by omega, by omega, H.out, HG.out⟩
    · go_ret
      have hr := curByte ⟨q4, q5⟩
      exact ⟨_, rfl, hr.1, hr.2, H.out, HG.out⟩


set_option maxRecDepth 20000 in
set_option maxHeartbeats 4000000 in
theorem curPick_any (base w : World) (B : Nat) (v : Value) (bs : List Int) (m : Nat) (n : Int) (hm : m ≤ 900000000) (hn : n ≤ 9223372036854775807) (h : Cur base w B v bs m) :
    Calls Try.prog 44 #[.pointer (some ⟨B, 0, none⟩), .int .i64 n] w fun e w' => CurNum base w B v bs (m + 2) 0 (if n ≤ 1 then 0 else n - 1) e w' := by
  have H := hid h
  clear h
  by_cases h1 : n ≤ 1
  · go_enter Try.func44, Try.ntmps44
    go_wp2_with fail
    go_ret
    exact ⟨0, rfl, by omega, by simp, H.out.mono (by omega), grown_refl _ _⟩
  · have hnz : ¬ n = 0 := by omega
    rw [if_neg h1]
    by_cases h2 : n ≤ 200
    · go_enter Try.func44, Try.ntmps44
      go_wp2_with fail
      refine (curNext_any base w B v bs m (by omega) H.out).mono ?_
      rintro e w1 ⟨x, rfl, x0, x1, hC, hG⟩
      have HC := hid hC
      have HG := hid hG
      have hr0 : 0 ≤ x.tmod n := Int.tmod_nonneg n x0
      have hr1 : x.tmod n < n := Int.tmod_lt_of_pos x (by omega)
      obtain ⟨r, hr⟩ : ∃ r, x.tmod n = r := ⟨_, rfl⟩
      rw [hr] at hr0 hr1
      have hrw : IntKind.i64.wrap r = r := by rw [IntWalk.i64_left]; exact IntWalk.wrap64_in _ (by omega)
      clear hC hG
      go_wp2_with fail
      go_ret
      exact ⟨r, rfl, hr0, by omega, HC.out.mono (by omega), HG.out⟩
    · go_enter Try.func44, Try.ntmps44
      go_wp2_with fail
      refine (curNext_any base w B v bs m (by omega) H.out).mono ?_
      rintro e w1 ⟨x, rfl, x0, x1, hC, hG⟩
      have HC := hid hC
      have HG := hid hG
      clear hC hG
      go_wp2_with fail
      refine (curNext_any base w1 B v bs (m + 1) (by omega) HC.out).mono ?_
      rintro e w2 ⟨y, rfl, y0, y1, hC, hG⟩
      have HC2 := hid hC
      have HG2 := hid (grown_trans HG.out hG)
      obtain ⟨z, hz⟩ : ∃ z, x * 256 + y = z := ⟨_, rfl⟩
      have hr0 : 0 ≤ z.tmod n := Int.tmod_nonneg n (by omega)
      have hr1 : z.tmod n < n := Int.tmod_lt_of_pos z (by omega)
      obtain ⟨r, hr⟩ : ∃ r, z.tmod n = r := ⟨_, rfl⟩
      rw [hr] at hr0 hr1
      have hrw : IntKind.i64.wrap r = r := by rw [IntWalk.i64_left]; exact IntWalk.wrap64_in _ (by omega)
      clear hC hG
      go_wp2_with fail
      go_ret
      exact ⟨r, rfl, hr0, by omega, HC2.out, HG2.out⟩
def CurIn (base w : World) (B : Nat) (v : Value) (bs : List Int) (m : Nat) (zs : List Int) (e : Ending) (w' : World) : Prop :=
  ∃ x : Int, e = .returned (.int .i64 x) ∧ x ∈ zs ∧ Cur base w' B v bs m ∧ w.grownBy w' (some B)
set_option maxRecDepth 20000 in
set_option maxHeartbeats 4000000 in
theorem curAmong_any (base w : World) (B : Nat) (v : Value) (bs : List Int) (m : Nat) (D cap : Nat) (zs : List Int) (hm : m ≤ 900000000) (hz : 0 < zs.length) (hz2 : zs.length ≤ 1000) (hD : D ≠ B) (h : Cur base w B v bs m)
    (hl : ∀ i, i < zs.length → w.cell? ⟨D, i, none⟩ = some (.int .i64 (zs.getD i 0))) :
    Calls Try.prog 46 #[.pointer (some ⟨B, 0, none⟩), .slice (some ⟨D, 0, none⟩) zs.length cap] w fun e w' => CurIn base w B v bs (m + 2) zs e w' := by
  have H := hid h
  have HL := hid hl
  obtain ⟨n, hn⟩ : ∃ n, zs.length = n := ⟨_, rfl⟩
  have HN := hid hn
  have hlt0 : D < w.heap.size := World.block_lt_of_cell? w ⟨D, 0, none⟩ (hl 0 hz)
  rw [hn] at hz hz2 HL ⊢
  clear h hl hn
  go_enter Try.func46, Try.ntmps46
  go_wp2_with fail
  refine (curPick_any base w B v bs m (n : Int) hm (by omega) H.out).mono ?_
  rintro e w1 ⟨x, rfl, x0, x1, hC, hG⟩
  have HC := hid hC
  have HG := hid hG
  obtain ⟨i, rfl⟩ : ∃ i : Nat, x = (i : Int) := ⟨x.toNat, by omega⟩
  have hin : i < n := by split at x1 <;> omega
  have hcell : w1.cell? ⟨D, i, none⟩ = some (.int .i64 (zs.getD i 0)) := cell_keep (HL.out i hin) (hG.block D hlt0 (by intro e; injection e with e; exact hD e))
  have hmem : zs.getD i 0 ∈ zs := by rw [getD_at zs i (by rw [HN.out]; exact hin)]; exact List.getElem_mem _
  obtain ⟨z, hzz⟩ : ∃ z, zs.getD i 0 = z := ⟨_, rfl⟩
  rw [hzz] at hcell hmem
  have hiI : (i : Int) < (n : Int) := by omega
  have hi0 : (0 : Int) ≤ (i : Int) := by omega
  clear hC hG x1 hzz
  go_wp2_with fail
  go_ret
  exact ⟨z, rfl, hmem, HC.out, HG.out⟩


theorem bytes_form {w : World} {v : Value} {bs : List Int} (h : BytesR w v bs) : ∃ a cap, v = .slice a bs.length cap := by
  obtain ⟨a, cap, rfl, _⟩ := h
  exact ⟨a, cap, rfl⟩
def BigRes (n m : Nat) (e : Ending) : Prop := ∃ b : Bool, e = .returned (.bool b) ∧ (b = false → n ≤ 1048576 ∧ m ≤ 1048576)
theorem big_any (u v : Value) (xs ys : List Int) (w : World) (hx : BytesR w u xs) (hy : BytesR w v ys) :
    Calls Try.prog 6 #[u, v] w fun e w' => BigRes xs.length ys.length e ∧ w = w' := by
  obtain ⟨a, c, rfl⟩ := bytes_form hx
  obtain ⟨a2, c2, rfl⟩ := bytes_form hy
  obtain ⟨_, _, _, hl1, _⟩ := hx
  obtain ⟨_, _, _, hl2, _⟩ := hy
  by_cases h1 : xs.length ≤ 1048576
  · have h1I : (xs.length : Int) ≤ 1048576 := by omega
    by_cases h2 : ys.length ≤ 1048576 - xs.length
    · have h2I : (ys.length : Int) ≤ 1048576 - (xs.length : Int) := by omega
      go_enter Try.func6, Try.ntmps6
      go_wp2_with fail
      go_ret
      exact ⟨⟨_, rfl, fun _ => ⟨h1, by omega⟩⟩, rfl⟩
    · have h2I : ¬ (ys.length : Int) ≤ 1048576 - (xs.length : Int) := by omega
      go_enter Try.func6, Try.ntmps6
      go_wp2_with fail
      go_ret
      exact ⟨⟨true, rfl, fun h => by cases h⟩, rfl⟩
  · have h1I : ¬ (xs.length : Int) ≤ 1048576 := by omega
    go_enter Try.func6, Try.ntmps6
    go_wp2_with fail
    go_ret
    exact ⟨⟨true, rfl, fun h => by cases h⟩, rfl⟩
set_option maxHeartbeats 1000000 in
theorem vSame_same (u v : Value) (xs : List Int) (w : World) (hx : Ints w u xs) (hy : Ints w v xs) :
    Calls Try.prog 24 #[u, v] w fun e w' => e = .returned (.bool true) ∧ ∃ n, w' = w.drewN n := by
  obtain ⟨a, cap, rfl, hl, hc⟩ := hx
  obtain ⟨b, cap2, rfl, hl2, hc2⟩ := hy
  have HC := hid hc
  have HC2 := hid hc2
  have hne : ((xs.length : Int) != (xs.length : Int)) = false := by simp
  clear hc hc2
  go_enter Try.func24, Try.ntmps24
  go_wp2_with fail
  go_loopw [13] (fun i wr => ∃ k n : Nat, k ≤ xs.length ∧ i = .int .i64 k ∧ wr = w.drewN n) (fun i _ => xs.length - (intOf i).toNat)
  case atStart => exact ⟨0, 0, Nat.zero_le _, rfl, rfl⟩
  case round =>
    obtain ⟨k, n, hk, rfl, rfl⟩ := hrel
    by_cases hlt : k < xs.length
    · obtain ⟨ad, rfl, hcell⟩ := HC.out k hlt
      obtain ⟨ad2, rfl, hcell2⟩ := HC2.out k hlt
      have hi1 : (k : Int) < (xs.length : Int) := by omega
      obtain ⟨z, hz⟩ : ∃ z, xs.getD k 0 = z := ⟨_, rfl⟩
      rw [hz] at hcell hcell2
      have hb : (z != z) = false := by simp
      clear hz
      go_wp2_with fail
      go_quiet (fail)
      go_wp2_with fail
      go_roundw
      case rel => exact ⟨k + 1, n + nq, hlt, by go_num, by simp⟩
      case measure => simp [intOf]; omega
    · go_wp2_with fail
      go_ret
      exact ⟨rfl, n, rfl⟩
set_option maxHeartbeats 2000000 in
theorem vSameLists_same (u v : Value) (xs : List (List Int)) (w : World) (hx : Rows2 w u xs) (hy : Rows2 w v xs) :
    Calls Try.prog 10 #[u, v] w fun e w' => e = .returned (.bool true) ∧ ∃ n, w' = w.drewN n := by
  obtain ⟨a, cap, rfl, hl, hc⟩ := hx
  obtain ⟨b, cap2, rfl, hl2, hc2⟩ := hy
  have HC := hid hc
  have HC2 := hid hc2
  have hne : ((xs.length : Int) != (xs.length : Int)) = false := by simp
  clear hc hc2
  go_enter Try.func10, Try.ntmps10
  go_wp2_with fail
  go_loopw [13] (fun i wr => ∃ k : Nat, k ≤ xs.length ∧ i = .int .i64 k ∧ Drew w wr) (fun i _ => xs.length - (intOf i).toNat)
  case atStart => exact ⟨0, Nat.zero_le _, rfl, Drew.refl w⟩
  case round =>
    obtain ⟨k, hk, rfl, hdr⟩ := hrel
    have HD := hid hdr
    clear hdr
    by_cases hlt : k < xs.length
    · obtain ⟨ad, u1, rfl, hcell, hu1⟩ := HC.out k hlt
      obtain ⟨ad2, u2, rfl, hcell2, hu2⟩ := HC2.out k hlt
      have hi1 : (k : Int) < (xs.length : Int) := by omega
      have HU1 := hid (hu1.later HD.out.later)
      have HU2 := hid (hu2.later HD.out.later)
      have hcellr := HD.out.later.cell hcell
      have hcellr2 := HD.out.later.cell hcell2
      have HQ := hid (fun m => vSame_same u1 u2 (xs.getD k []) _ (HU1.out.drewN m) (HU2.out.drewN m))
      clear hu1 hu2 hcell hcell2
      go_wp2_with fail
      go_quiet ((go_at_call 24; exact Calls.quiet_of (HQ.out _)))
      go_wp2_with fail
      go_roundw
      case rel => exact ⟨k + 1, hlt, by go_num, HD.out.step nq⟩
      case measure => simp [intOf]; omega
    · go_wp2_with fail
      go_ret
      exact ⟨rfl, HD.out⟩
end Go.Proofs.Ytoaopmafokoaoaa
