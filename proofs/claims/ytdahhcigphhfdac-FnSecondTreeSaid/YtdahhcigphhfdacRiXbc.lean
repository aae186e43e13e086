/- RiXb, RiXc: in one text. -/
import Derived.Test.YtdahhcigphhfdacRiL
import Derived.Test.YtdahhcigphhfdacRiG
import Derived.Test.YtdahhcigphhfdacRiXa
import Derived.Deep.RegionHeld3
import Derived.Deep.DeepCutAuto
import Derived.StillTailTactics
namespace Go.Proofs.Ytdahhcigphhfdac
open Go.RowKit


/-- Twice the product of two numbers, each told by how many m and n it has. -/
def twoP (a b c d : Int) : List Int := [a * c - b * d, a * d + b * c, a * c + b * d]
set_option maxRecDepth 20000 in
set_option maxHeartbeats 2000000 in
theorem twiceProduct_any (a b c d : Int) (ha : -2 ≤ a ∧ a ≤ 2) (hb : -2 ≤ b ∧ b ≤ 2) (hc : -2 ≤ c ∧ c ≤ 2) (hd : -2 ≤ d ∧ d ≤ 2) (w : World) :
    Calls Try.prog 120 #[.agg #[.int .i64 a, .int .i64 b], .agg #[.int .i64 c, .int .i64 d]] w fun e w' => MadeInts w (twoP a b c d) e w' := by
  obtain ⟨x1, x2⟩ := small_mul ha.1 ha.2 hc.1 hc.2 (by omega)
  obtain ⟨x3, x4⟩ := small_mul hb.1 hb.2 hd.1 hd.2 (by omega)
  obtain ⟨x5, x6⟩ := small_mul ha.1 ha.2 hd.1 hd.2 (by omega)
  obtain ⟨x7, x8⟩ := small_mul hb.1 hb.2 hc.1 hc.2 (by omega)
  have h1 := Later.alloc w (.cells #[.int .i64 a, .int .i64 b] 82)
  have h2 := Later.alloc (w.alloc (.cells #[.int .i64 a, .int .i64 b] 82)) (.cells #[.int .i64 c, .int .i64 d] 82)
  have h3 := ownsThreeR ((w.alloc (.cells #[.int .i64 a, .int .i64 b] 82)).alloc (.cells #[.int .i64 c, .int .i64 d] 82)) (a * c - b * d) (a * d + b * c) (a * c + b * d)
  have hs : ((w.alloc (.cells #[.int .i64 a, .int .i64 b] 82)).alloc (.cells #[.int .i64 c, .int .i64 d] 82)).heap.size = w.heap.size + 1 + 1 := by simp
  rw [hs] at h3
  have HO := hid h3
  have HL := hid ((h1.trans h2).trans (Later.alloc _ (.cells #[.int .i64 (a * c - b * d), .int .i64 (a * d + b * c), .int .i64 (a * c + b * d)] 3)))
  clear h1 h2 h3 hs ha hb hc hd
  go_enter Try.func120, Try.ntmps120
  go_wp2_with fail
  go_ret
  exact ⟨_, rfl, HO.out.wide (by omega) (by simp), HL.out⟩

theorem two_rows (w : World) : OwnInts w.heap.size ((w.alloc (.cells #[.int .i64 0, .int .i64 0, .int .i64 0] 3)).alloc (.cells #[.int .i64 0, .int .i64 0, .int .i64 0] 3)).heap.size ((w.alloc (.cells #[.int .i64 0, .int .i64 0, .int .i64 0] 3)).alloc (.cells #[.int .i64 0, .int .i64 0, .int .i64 0] 3)) (.slice (some ⟨w.heap.size, 0, none⟩) 3 3) [0, 0, 0] ∧
    OwnInts w.heap.size ((w.alloc (.cells #[.int .i64 0, .int .i64 0, .int .i64 0] 3)).alloc (.cells #[.int .i64 0, .int .i64 0, .int .i64 0] 3)).heap.size ((w.alloc (.cells #[.int .i64 0, .int .i64 0, .int .i64 0] 3)).alloc (.cells #[.int .i64 0, .int .i64 0, .int .i64 0] 3)) (.slice (some ⟨w.heap.size + 1, 0, none⟩) 3 3) [0, 0, 0] ∧
    Later w ((w.alloc (.cells #[.int .i64 0, .int .i64 0, .int .i64 0] 3)).alloc (.cells #[.int .i64 0, .int .i64 0, .int .i64 0] 3)) := by
  have o1 := ownsThreeR w 0 0 0
  have o2 := ownsThreeR (w.alloc (.cells #[.int .i64 0, .int .i64 0, .int .i64 0] 3)) 0 0 0
  have hs : (w.alloc (.cells #[.int .i64 0, .int .i64 0, .int .i64 0] 3)).heap.size = w.heap.size + 1 := by simp
  rw [hs] at o2
  exact ⟨(o1.later (Later.alloc _ _)).wide (Nat.le_refl _) (by simp), o2.wide (by omega) (by simp), (Later.alloc _ _).trans (Later.alloc _ _)⟩
theorem rows3 (lo : Nat) (w : World) (u0 u1 u2 : Value) (r0 r1 r2 : List Int) (hlo : lo ≤ w.heap.size) (h0 : OwnInts lo w.heap.size w u0 r0) (h1 : OwnInts lo w.heap.size w u1 r1) (h2 : OwnInts lo w.heap.size w u2 r2)
    (d01 : ∀ k, u0.ownBlock = some k → u1.ownBlock ≠ some k) (d02 : ∀ k, u0.ownBlock = some k → u2.ownBlock ≠ some k) (d12 : ∀ k, u1.ownBlock = some k → u2.ownBlock ≠ some k) :
    OwnRows lo (w.heap.size + 1) (w.alloc (.cells #[u0, u1, u2] 26)) (.slice (some ⟨w.heap.size, 0, none⟩) 3 3) [r0, r1, r2] := by
  have l4 := Later.alloc w (.cells #[u0, u1, u2] 26)
  have hl := World.ownsRow_lit (e := 26) (size := 1) w #[u0, u1, u2] 3 (Nat.le_refl _) (by unfold maxLen; omega) (by simp)
  refine ⟨[u0, u1, u2], rfl, ownsRow_base (by simpa using hl) hlo, fun k hk => by simp [Value.ownBlock] at hk; omega, ?_, ?_⟩
  · intro j hj
    have hj3 : j = 0 ∨ j = 1 ∨ j = 2 := by simp at hj; omega
    rcases hj3 with rfl | rfl | rfl
    · exact (h0.later l4).wide (Nat.le_refl _) (by omega)
    · exact (h1.later l4).wide (Nat.le_refl _) (by omega)
    · exact (h2.later l4).wide (Nat.le_refl _) (by omega)
  · intro x y hxy hy k hk
    have hy3 : y = 1 ∨ y = 2 := by simp at hy; omega
    rcases hy3 with rfl | rfl
    · obtain rfl : x = 0 := by omega
      exact d01 k hk
    · have hx2 : x = 0 ∨ x = 1 := by omega
      rcases hx2 with rfl | rfl
      · exact d02 k hk
      · exact d12 k hk
/-- A row of three while it is filled from its head. -/
def partR (X : List Int) (i : Nat) : List Int := X.take i ++ List.replicate (3 - i) 0
theorem partR_len (X : List Int) (i : Nat) (h : X.length = 3) (hi : i ≤ 3) : (partR X i).length = 3 := by unfold partR; simp; omega
theorem partR_set (X : List Int) (i : Nat) (h : X.length = 3) (hi : i < 3) : (partR X i).set i (X.getD i 0) = partR X (i + 1) := by
  unfold partR
  rw [List.set_append_right _ _ (by simp; omega), List.length_take, show 3 - i = (3 - (i + 1)) + 1 by omega, List.replicate_succ, show min i X.length = i by omega, Nat.sub_self, List.set_cons_zero, take_snoc X i (by omega), getD_at X i (by omega), List.append_assoc]
  rfl
def difL (A N : List Int) : List Int := [(A.getD 0 0 - N.getD 0 0).tdiv 2, (A.getD 1 0 - N.getD 1 0).tdiv 2, (A.getD 2 0 - N.getD 2 0).tdiv 2]
def sumH (A N : List Int) : List Int := [(A.getD 0 0 + N.getD 0 0).tdiv 2, (A.getD 1 0 + N.getD 1 0).tdiv 2, (A.getD 2 0 + N.getD 2 0).tdiv 2]
theorem difL_at (A N : List Int) (i : Nat) (h : i < 3) : (difL A N).getD i 0 = (A.getD i 0 - N.getD i 0).tdiv 2 ∧ (sumH A N).getD i 0 = (A.getD i 0 + N.getD i 0).tdiv 2 := by
  have h3 : i = 0 ∨ i = 1 ∨ i = 2 := by omega
  rcases h3 with rfl | rfl | rfl <;> exact ⟨rfl, rfl⟩
theorem twoP_bd (s : St) (h : Small s) (i : Nat) : (-8 ≤ (twoP s.a s.b s.a s.b).getD i 0 ∧ (twoP s.a s.b s.a s.b).getD i 0 ≤ 8) ∧ (-8 ≤ (twoP s.c s.d s.c s.d).getD i 0 ∧ (twoP s.c s.d s.c s.d).getD i 0 ≤ 8) := by
  obtain ⟨x1, x2⟩ := small_mul h.a1 h.a2 h.a1 h.a2 (by omega)
  obtain ⟨x3, x4⟩ := small_mul h.b1 h.b2 h.b1 h.b2 (by omega)
  obtain ⟨x5, x6⟩ := small_mul h.a1 h.a2 h.b1 h.b2 (by omega)
  obtain ⟨x7, x8⟩ := small_mul h.b1 h.b2 h.a1 h.a2 (by omega)
  obtain ⟨y1, y2⟩ := small_mul h.c1 h.c2 h.c1 h.c2 (by omega)
  obtain ⟨y3, y4⟩ := small_mul h.d1 h.d2 h.d1 h.d2 (by omega)
  obtain ⟨y5, y6⟩ := small_mul h.c1 h.c2 h.d1 h.d2 (by omega)
  obtain ⟨y7, y8⟩ := small_mul h.d1 h.d2 h.c1 h.c2 (by omega)
  unfold twoP
  rcases i with _ | _ | _ | i
  · simp only [List.getD_cons_zero]; omega
  · simp only [List.getD_cons_succ, List.getD_cons_zero]; omega
  · simp only [List.getD_cons_succ, List.getD_cons_zero]; omega
  · simp
/-- The rows of the matrix of a step. -/
def matS (s : St) : List (List Int) := [difL (twoP s.a s.b s.a s.b) (twoP s.c s.d s.c s.d), twoP s.a s.b s.c s.d, sumH (twoP s.a s.b s.a s.b) (twoP s.c s.d s.c s.d)]
theorem OwnInts.cellR {lo hi : Nat} {w : World} {g n c : Nat} {zs : List Int} (h : OwnInts lo hi w (.slice (some ⟨g, 0, none⟩) n c) zs) {k : Nat} (hk : k < zs.length) : w.cell? ⟨g, k, none⟩ = some (.int .i64 (zs.getD k 0)) := by
  obtain ⟨_, _, e, _, hc⟩ := h.ints
  simp only [Value.slice.injEq] at e
  obtain ⟨rfl, _, _⟩ := e
  obtain ⟨ad, e2, hx⟩ := hc k hk
  simp only [Option.some.injEq] at e2
  subst e2
  rwa [addr_add0] at hx
theorem OwnInts.putR {lo hi : Nat} {w : World} {g n c : Nat} {zs ys : List Int} (h : OwnInts lo hi w (.slice (some ⟨g, 0, none⟩) n c) zs) (hn : zs.length = n) (k : Nat) (z : Int) (hy : zs.set k z = ys) : OwnInts lo hi (w.setCell ⟨g, k, none⟩ (.int .i64 z)) (.slice (some ⟨g, 0, none⟩) n c) ys := by
  subst hy
  subst hn
  have h2 := (h.1.stored k (.int .i64 z)).1
  refine ⟨?_, h.2⟩
  rw [List.map_set, List.length_set]
  exact h2
theorem make3 (w : World) : (Instr.makeSlice 26 (.int .i64 3) (.int .i64 3)).run Try.prog w = .ok (.slice (some ⟨w.heap.size, 0, none⟩) 3 3) (w.alloc (.cells #[.int .i64 0, .int .i64 0, .int .i64 0] 3)) := by kernel_rfl
set_option maxRecDepth 20000 in
set_option maxHeartbeats 4000000 in
theorem matrixAt_any (s0 s1 s2 : St) (hg : Good3 s0 s1 s2) (k : Int) (o : Option (List (List Int))) (w : World)
    (ho : within 0 2 k = false → o = none) (q0 : k = 0 → o = some (matS s0) ∧ goodM 1000000 (matS s0) = true) (q1 : k = 1 → o = some (matS s1) ∧ goodM 1000000 (matS s1) = true) (q2 : k = 2 → o = some (matS s2) ∧ goodM 1000000 (matS s2) = true) :
    Calls Try.prog 79 #[.agg (tree3 s0 s1 s2).toArray, .int .i64 k] w fun e w' => MatAns w o e w' := by
  have HB := hid (Box12.new w s0 s1 s2 86)
  have hA := Later.alloc w (.cells (tree3 s0 s1 s2).toArray 86)
  have hA2 := Later.alloc (w.alloc (.cells (tree3 s0 s1 s2).toArray 86)) (.cells #[.slice none 0 0] 46)
  have HL := hid (hA.trans hA2)
  replace HB := hid (HB.out.later hA2)
  have HX := hid (show Box ((w.alloc (.cells (tree3 s0 s1 s2).toArray 86)).alloc (.cells #[.slice none 0 0] 46)) (w.heap.size + 1) (.slice none 0 0) from ⟨by simp [go_sem], by simp [go_sem]⟩)
  have HG := hid hg
  have HQ0 := hid q0
  have HQ1 := hid q1
  have HQ2 := hid q2
  clear q0 q1 q2
  obtain ⟨a0, b0, c0, d0⟩ := s0
  obtain ⟨a1, b1, c1, d1⟩ := s1
  obtain ⟨a2, b2, c2, d2⟩ := s2
  unfold tree3 at HB HL HX ⊢
  simp only at HB HL HX ⊢
  clear hA hA2 hg
  cases hk : within 0 2 k
  · have HK := hid hk
    have HA := hid (ho hk)
    clear hk ho
    go_enter Try.func79, Try.ntmps79
    go_wp2_with (go_at_call 118; refine (isChild_as _ _ _ HK.out).mono ?_; rintro e w4 ⟨rfl, rfl⟩)
    have yy0 := HX.out.1
    generalize (w.alloc (.cells #[.int .i64 a0, .int .i64 b0, .int .i64 c0, .int .i64 d0, .int .i64 a1, .int .i64 b1, .int .i64 c1, .int .i64 d1, .int .i64 a2, .int .i64 b2, .int .i64 c2, .int .i64 d2] 86)).alloc (.cells #[.slice none 0 0] 46) = w4 at HL yy0 ⊢
    refine bodyPost_ret (v := .tuple #[.agg #[.slice none 0 0], .bool false]) ?_ rfl ⟨_, by rw [HA.out]; rfl, by rw [HA.out]; exact OwnRows.empty _ _ _, HL.out⟩
    rw [results_cell_tmp rfl]
    go_simp
  · have HK := hid hk
    have hz : k = 0 ∨ k = 1 ∨ k = 2 := by simp only [within, Bool.and_eq_true, decide_eq_true_eq] at hk; omega
    clear hk ho
    go_enter Try.func79, Try.ntmps79
    go_wp2_with (go_at_call 118; refine (isChild_as _ _ _ HK.out).mono ?_; rintro e w4 ⟨rfl, rfl⟩)
    have HSZ := hid (show ((w.alloc (.cells #[.int .i64 a0, .int .i64 b0, .int .i64 c0, .int .i64 d0, .int .i64 a1, .int .i64 b1, .int .i64 c1, .int .i64 d1, .int .i64 a2, .int .i64 b2, .int .i64 c2, .int .i64 d2] 86)).alloc (.cells #[.slice none 0 0] 46)).heap.size = w.heap.size + 1 + 1 by simp)
    generalize (w.alloc (.cells #[.int .i64 a0, .int .i64 b0, .int .i64 c0, .int .i64 d0, .int .i64 a1, .int .i64 b1, .int .i64 c1, .int .i64 d1, .int .i64 a2, .int .i64 b2, .int .i64 c2, .int .i64 d2] 86)).alloc (.cells #[.slice none 0 0] 46) = w1 at HB HL HX HSZ ⊢
    obtain ⟨B, hB⟩ : ∃ B, w.heap.size = B := ⟨_, rfl⟩
    have HWB := hid (show w.heap.size ≤ B by omega)
    rw [hB] at HB HX HSZ ⊢
    clear hB
    have HZ : ∃ (kk : Nat) (sa sb sc sd : Int), k = (kk : Int) ∧ kk < 3 ∧ w1.cell? ⟨B, kk * 4, none⟩ = some (.int .i64 sa) ∧ w1.cell? ⟨B, kk * 4 + 1, none⟩ = some (.int .i64 sb) ∧ w1.cell? ⟨B, kk * 4 + 2, none⟩ = some (.int .i64 sc) ∧ w1.cell? ⟨B, kk * 4 + 3, none⟩ = some (.int .i64 sd) ∧ Small ⟨sa, sb, sc, sd⟩ ∧ ∀ (P : Nat → St → Prop), P 0 ⟨a0, b0, c0, d0⟩ → P 1 ⟨a1, b1, c1, d1⟩ → P 2 ⟨a2, b2, c2, d2⟩ → P kk ⟨sa, sb, sc, sd⟩ := by
      rcases hz with rfl | rfl | rfl
      · exact ⟨0, a0, b0, c0, d0, rfl, by omega, HB.out.k0, HB.out.k1, HB.out.k2, HB.out.k3, HG.out.g0, fun P h0 _ _ => h0⟩
      · exact ⟨1, a1, b1, c1, d1, rfl, by omega, HB.out.k4, HB.out.k5, HB.out.k6, HB.out.k7, HG.out.g1, fun P _ h1 _ => h1⟩
      · exact ⟨2, a2, b2, c2, d2, rfl, by omega, HB.out.k8, HB.out.k9, HB.out.k10, HB.out.k11, HG.out.g2, fun P _ _ h2 => h2⟩
    obtain ⟨kk, sa, sb, sc, sd, rfl, hkk, ea, eb, ec, ed, hsm, hP⟩ := HZ
    have HSM := hid hsm
    have HPP := hid (hP (fun j s => (kk : Int) = (j : Int) → o = some (matS s) ∧ goodM 1000000 (matS s) = true) HQ0.out HQ1.out HQ2.out rfl)
    have kki : (kk : Int) < 3 := by omega
    have kk0 : (0 : Int) ≤ (kk : Int) := by omega
    clear hz hsm hP
    go_cut [6, 7] (fun s6 s7 wx => ∃ b6 b7, s6 = .pointer (some ⟨b6, 0, none⟩) ∧ s7 = .pointer (some ⟨b7, 0, none⟩) ∧ wx.cell? ⟨b6, 0, none⟩ = some (.int .i64 sa) ∧ wx.cell? ⟨b6, 1, none⟩ = some (.int .i64 sb) ∧ wx.cell? ⟨b7, 0, none⟩ = some (.int .i64 sc) ∧ wx.cell? ⟨b7, 1, none⟩ = some (.int .i64 sd) ∧ Later w1 wx)
    case first =>
      have LA := Later.alloc w1.drew (.cells #[.int .i64 0, .int .i64 0] 82)
      have LD := Later.drew w1
      go_region_held3 (fun w' => w'.cell? ⟨B, kk * 4, none⟩ = some (.int .i64 sa) ∧ w'.cell? ⟨B, kk * 4 + 1, none⟩ = some (.int .i64 sb) ∧ w'.cell? ⟨B, kk * 4 + 2, none⟩ = some (.int .i64 sc) ∧ w'.cell? ⟨B, kk * 4 + 3, none⟩ = some (.int .i64 sd)) (first | exact ⟨ea, eb, ec, ed⟩ | go_keep) (first | fail)
      all_goals go_wp2_with fail
      all_goals go_meet
      all_goals exact ⟨_, _, rfl, rfl, by simp [go_sem], by simp [go_sem], by simp [go_sem], by simp [go_sem], ((Later.alloc _ _).trans (Later.alloc _ _)).trans (Later.drew _)⟩
    case rest =>
      obtain ⟨b6, b7, rfl, rfl, q0, q1, q2, q3, hLx⟩ := hcut
      have HLx := hid hLx
      have HSB := HSM.out
      have HT1 := hid (fun w0 => twiceProduct_any sa sb sa sb ⟨HSB.a1, HSB.a2⟩ ⟨HSB.b1, HSB.b2⟩ ⟨HSB.a1, HSB.a2⟩ ⟨HSB.b1, HSB.b2⟩ w0)
      have HT2 := hid (fun w0 => twiceProduct_any sa sb sc sd ⟨HSB.a1, HSB.a2⟩ ⟨HSB.b1, HSB.b2⟩ ⟨HSB.c1, HSB.c2⟩ ⟨HSB.d1, HSB.d2⟩ w0)
      have HT3 := hid (fun w0 => twiceProduct_any sc sd sc sd ⟨HSB.c1, HSB.c2⟩ ⟨HSB.d1, HSB.d2⟩ ⟨HSB.c1, HSB.c2⟩ ⟨HSB.d1, HSB.d2⟩ w0)
      have TK1 := hid trivial
      have TK2 := hid trivial
      have TK3 := hid trivial
      clear hLx HSB ea eb ec ed
      go_wp2_with fail
      go_region_held3 (fun w' => w'.cell? ⟨b6, 0, none⟩ = some (.int .i64 sa) ∧ w'.cell? ⟨b6, 1, none⟩ = some (.int .i64 sb) ∧ w'.cell? ⟨b7, 0, none⟩ = some (.int .i64 sc) ∧ w'.cell? ⟨b7, 1, none⟩ = some (.int .i64 sd)) (first | exact ⟨q0, q1, q2, q3⟩ | exact ⟨f0, f1, f2, f3⟩ | exact ⟨g0, g1, g2, g3⟩ | exact ⟨h0, h1, h2, h3⟩) (first | (have hh := TK1; clear hh; go_at_call 120; refine (HT1.out _).mono ?_; rintro e w1x ⟨v1, rfl, ho1, hL1⟩; have hLL1 := (Later.drew wc).trans hL1; have HLL1 := hid hLL1; have HO1a := hid ho1; have f0 := hLL1.cell q0; have f1 := hLL1.cell q1; have f2 := hLL1.cell q2; have f3 := hLL1.cell q3; have HZ1 := hid hL1.size; clear hL1 hLL1 ho1 TK1) | (have hh := TK2; clear hh; go_at_call 120; refine (HT2.out _).mono ?_; rintro e w2x ⟨v2, rfl, ho2, hL2⟩; have hLL2 := HLL1.out.trans hL2; have HLL2 := hid hLL2; have HO2a := hid ho2; have HO1b := hid (HO1a.out.later hL2); have g0 := hL2.cell f0; have g1 := hL2.cell f1; have g2 := hL2.cell f2; have g3 := hL2.cell f3; have HZ2 := hid hL2.size; clear hL2 hLL2 ho2 TK2) | (have hh := TK3; clear hh; go_at_call 120; refine (HT3.out _).mono ?_; rintro e w3x ⟨v3, rfl, ho3, hL3⟩; have hLL3 := HLL2.out.trans hL3; have HLL3 := hid hLL3; have HO3a := hid ho3; have HO1c := hid (HO1b.out.later hL3); have HO2b := hid (HO2a.out.later hL3); have h0 := hL3.cell g0; have h1 := hL3.cell g1; have h2 := hL3.cell g2; have h3 := hL3.cell g3; have HZ3 := hid hL3.size; clear hL3 hLL3 ho3 TK3))
      all_goals go_wp2_with fail
      obtain ⟨g1, p1, rfl, m0, m1, m2, hg1, hg1'⟩ := HO1c.out.threeR
      obtain ⟨g2, p2, rfl, _, _, _, hg2, hg2'⟩ := HO2b.out.threeR
      obtain ⟨g3, p3, rfl, n0, n1, n2, hg3, hg3'⟩ := HO3a.out.threeR
      have M0 := hid m0
      have M1 := hid m1
      have M2 := hid m2
      have N0 := hid n0
      have N1 := hid n1
      have N2 := hid n2
      clear m0 m1 m2 n0 n1 n2
      go_cut [11, 12] (fun s11 s12 wx => ∃ b11 b12, s11 = .slice (some ⟨b11, 0, none⟩) 3 3 ∧ s12 = .slice (some ⟨b12, 0, none⟩) 3 3 ∧ OwnInts w3x.heap.size wx.heap.size wx (.slice (some ⟨b11, 0, none⟩) 3 3) [0, 0, 0] ∧ OwnInts w3x.heap.size wx.heap.size wx (.slice (some ⟨b12, 0, none⟩) 3 3) [0, 0, 0] ∧ b11 ≠ b12 ∧ Later w3x wx)
      case first =>
        have hmk := make3
        go_region
        all_goals go_wp2_with fail
        all_goals go_meet
        · have tr := two_rows w3x
          exact ⟨_, _, rfl, rfl, tr.1.later (Later.drew _), tr.2.1.later (Later.drew _), by omega, tr.2.2.trans (Later.drew _)⟩
        · have tr := two_rows w3x
          exact ⟨_, _, rfl, rfl, tr.2.1.later (Later.drew _), tr.1.later (Later.drew _), by omega, tr.2.2.trans (Later.drew _)⟩
      case rest =>
        obtain ⟨b11, b12, rfl, rfl, hx0, hz0', hne, hLy⟩ := hcut
        obtain ⟨L3, hL3⟩ : ∃ L, w3x.heap.size = L := ⟨_, rfl⟩
        have HLY := hid hLy
        have HX0 := hid hx0
        have HZ0 := hid hz0'
        have HNE := hid hne
        have hb11 := (hx0.blk (b := b11) rfl).1
        have hb12 := (hz0'.blk (b := b12) rfl).1
        have HG1 := hid (show g1 < w3x.heap.size by have := HZ3.out; have := HZ2.out; omega)
        have HG2 := hid (show g2 < w3x.heap.size by have := HZ3.out; omega)
        have HG3 := hid hg3'
        obtain ⟨A, hA⟩ : ∃ A, twoP sa sb sa sb = A := ⟨_, rfl⟩
        obtain ⟨N, hN⟩ : ∃ N, twoP sc sd sc sd = N := ⟨_, rfl⟩
        obtain ⟨Y, hY⟩ : ∃ Y, twoP sa sb sc sd = Y := ⟨_, rfl⟩
        have hBD : ∀ i, (-8 ≤ A.getD i 0 ∧ A.getD i 0 ≤ 8) ∧ (-8 ≤ N.getD i 0 ∧ N.getD i 0 ≤ 8) := fun i => by rw [← hA, ← hN]; exact twoP_bd ⟨sa, sb, sc, sd⟩ HSM.out i
        have hAl : A.length = 3 := by rw [← hA]; rfl
        have hNl : N.length = 3 := by rw [← hN]; rfl
        have HMS := hid (show matS ⟨sa, sb, sc, sd⟩ = [difL A N, Y, sumH A N] by unfold matS; rw [hA, hN, hY])
        have hO1 := HO1c.out
        have hO2 := HO2b.out
        have hO3 := HO3a.out
        rw [hA] at hO1
        rw [hY] at hO2
        rw [hN] at hO3
        have HA1 := hid hO1
        have HA2 := hid hO2
        have HA3 := hid hO3
        clear hO1 hO2 hO3
        have HLW3 := hid (HL.out.trans (HLx.out.trans HLL3.out))
        have HX3 := hid (HX.out.later (HLx.out.trans HLL3.out))
        obtain ⟨X, hX⟩ : ∃ X, difL A N = X := ⟨_, rfl⟩
        obtain ⟨Z, hZ⟩ : ∃ Z, sumH A N = Z := ⟨_, rfl⟩
        have hat := difL_at A N
        rw [hX, hZ] at hat
        rw [hX, hZ] at HMS
        have hXl : X.length = 3 := by rw [← hX]; rfl
        have hZl : Z.length = 3 := by rw [← hZ]; rfl
        have hYl : Y.length = 3 := by rw [← hY]; rfl
        have HAT := hid hat
        have HBD := hid hBD
        clear hA hN hY hX hZ hat hBD hx0 hz0' hLy hL3 M0 M1 M2 N0 N1 N2 HO1a HO1b HO1c HO2a HO2b HO3a
        go_wp2_with fail
        go_loopw [43] (fun o43 wr => ∃ i : Nat, i ≤ 3 ∧ o43 = .int .i64 i ∧ OwnInts w3x.heap.size wr.heap.size wr (.slice (some ⟨b11, 0, none⟩) 3 3) (partR X i) ∧ OwnInts w3x.heap.size wr.heap.size wr (.slice (some ⟨b12, 0, none⟩) 3 3) (partR Z i) ∧ Later w3x wr) (fun o43 _ => 3 - (intOf o43).toNat)
        case atStart => exact ⟨0, by omega, rfl, HX0.out, HZ0.out, HLY.out⟩
        case round =>
          obtain ⟨i, hi, rfl, hrx, hrz, hLr⟩ := hrel
          by_cases hlt : i < 3
          · have hii : (i : Int) < 3 := by omega
            have hi0 : (0 : Int) ≤ (i : Int) := by omega
            have LD := Later.drew wr
            have ca := ((HA1.out.later hLr).later LD).cellR (k := i) (by omega)
            have cn := ((HA3.out.later hLr).later LD).cellR (k := i) (by omega)
            have cx := (hrx.later LD).cellR (k := i) (by rw [partR_len X i hXl hi]; exact hlt)
            have cz := (hrz.later LD).cellR (k := i) (by rw [partR_len Z i hZl hi]; exact hlt)
            have hfx := (hrx.later LD).1
            have hfz := (hrz.later LD).1
            rw [partR_len X i hXl hi] at hfx
            rw [partR_len Z i hZl hi] at hfz
            have fx := hfx.frozenAt i
            have fz := hfz.frozenAt i
            clear hfx hfz
            obtain ⟨⟨ab1, ab2⟩, nb1, nb2⟩ := HBD.out i
            obtain ⟨dx, dz⟩ := HAT.out i hlt
            have HRX := hid hrx
            have HRZ := hid hrz
            have HLr := hid hLr
            obtain ⟨aa, haa⟩ : ∃ q, A.getD i 0 = q := ⟨_, rfl⟩
            obtain ⟨nn, hnn⟩ : ∃ q, N.getD i 0 = q := ⟨_, rfl⟩
            rw [haa] at ca ab1 ab2 dx dz
            rw [hnn] at cn nb1 nb2 dx dz
            obtain ⟨q1, hq1⟩ : ∃ q, (aa - nn).tdiv 2 = q := ⟨_, rfl⟩
            obtain ⟨q2, hq2⟩ : ∃ q, (aa + nn).tdiv 2 = q := ⟨_, rfl⟩
            have hq1b := tdiv_bd (x := aa - nn) (D := 2) (B := 16) (by omega) (by omega)
            have hq2b := tdiv_bd (x := aa + nn) (D := 2) (B := 16) (by omega) (by omega)
            rw [hq1] at hq1b dx
            rw [hq2] at hq2b dz
            have e1 : IntKind.i64.wrap (aa - nn) = aa - nn := by rw [IntWalk.i64_left]; exact IntWalk.wrap64_in _ (by omega)
            have e2 : IntKind.i64.wrap (aa + nn) = aa + nn := by rw [IntWalk.i64_left]; exact IntWalk.wrap64_in _ (by omega)
            have e3 : IntKind.i64.wrap q1 = q1 := by rw [IntWalk.i64_left]; exact IntWalk.wrap64_in _ (by omega)
            have e4 : IntKind.i64.wrap q2 = q2 := by rw [IntWalk.i64_left]; exact IntWalk.wrap64_in _ (by omega)
            have HNX := hid (partR_set X i hXl hlt)
            have HNZ := hid (partR_set Z i hZl hlt)
            rw [dx] at HNX
            rw [dz] at HNZ
            obtain ⟨x0', hx0'⟩ : ∃ q, (partR X i).getD i 0 = q := ⟨_, rfl⟩
            obtain ⟨z0', hz0''⟩ : ∃ q, (partR Z i).getD i 0 = q := ⟨_, rfl⟩
            rw [hx0'] at cx
            rw [hz0''] at cz
            clear hrx hrz hLr haa hnn dx dz hx0' hz0'' LD
            go_wp2_with fail
            go_still_tail 13, (by kernel_rfl)
            change wpList _ _ _ _ _ wr.drew
            have HLd := hid (HLr.out.trans (Later.drew wr))
            have HRXd := hid (HRX.out.later (Later.drew wr))
            have HRZd := hid (HRZ.out.later (Later.drew wr))
            have HSd := hid (Later.drew wr).size
            generalize wr.drew = wd at ca cn cx cz fx fz HLd HRXd HRZd HSd ⊢
            go_wp2_with fail
            have hga : g1 ≠ b11 := by have := HG1.out; omega
            have hgn : g3 ≠ b11 := by have := HG3.out; omega
            have ca2 : (wd.setCell ⟨b11, i, none⟩ (.int .i64 q1)).cell? ⟨g1, i, none⟩ = some (.int .i64 aa) := (World.cell?_setCell_far wd ⟨b11, i, none⟩ ⟨g1, i, none⟩ _ (fun e => hga e.symm)).trans ca
            have cn2 : (wd.setCell ⟨b11, i, none⟩ (.int .i64 q1)).cell? ⟨g3, i, none⟩ = some (.int .i64 nn) := (World.cell?_setCell_far wd ⟨b11, i, none⟩ ⟨g3, i, none⟩ _ (fun e => hgn e.symm)).trans cn
            have cz2 : (wd.setCell ⟨b11, i, none⟩ (.int .i64 q1)).cell? ⟨b12, i, none⟩ = some (.int .i64 z0') := (World.cell?_setCell_far wd ⟨b11, i, none⟩ ⟨b12, i, none⟩ _ (fun e => HNE.out e)).trans cz
            have fz2 : (wd.setCell ⟨b11, i, none⟩ (.int .i64 q1)).frozen? ⟨b12, i, none⟩ = false := by rw [World.frozen?_setCell]; exact fz
            have HRXe := hid (HRXd.out.putR (partR_len X i hXl hi) i q1 HNX.out)
            have HRZe := hid (HRZd.out.setCell (a := ⟨b11, i, none⟩) (by simp only [Value.ownBlock, ne_eq, Option.some.injEq]; exact fun e => HNE.out e.symm) (.int .i64 q1))
            have HLe := hid (show Later w3x (wd.setCell ⟨b11, i, none⟩ (.int .i64 q1)) from Below.setCell HLd.out hb11 _)
            have HSe := hid (show wr.heap.size ≤ (wd.setCell ⟨b11, i, none⟩ (.int .i64 q1)).heap.size by simp; exact HSd.out)
            generalize wd.setCell ⟨b11, i, none⟩ (.int .i64 q1) = we at ca2 cn2 cz2 fz2 HRXe HRZe HLe HSe ⊢
            clear ca cn cx cz fx fz
            have LE := Later.drew we
            have ca3 := LE.cell ca2
            have cn3 := LE.cell cn2
            have fz3 := LE.frozen cz2 fz2
            have cz3 := LE.cell cz2
            clear LE
            go_still_tail 13, (by kernel_rfl)
            change wpList _ _ _ _ _ we.drew
            have HLf := hid (HLe.out.trans (Later.drew we))
            have HRXf := hid (HRXe.out.later (Later.drew we))
            have HRZf := hid (HRZe.out.later (Later.drew we))
            have HSf := hid (Nat.le_trans HSe.out (Later.drew we).size)
            clear ca2 cn2 cz2 fz2
            generalize we.drew = wf at ca3 cn3 cz3 fz3 HLf HRXf HRZf HSf ⊢
            go_wp2_with fail
            have HRZg := hid (HRZf.out.putR (partR_len Z i hZl hi) i q2 HNZ.out)
            have HRXg := hid (HRXf.out.setCell (a := ⟨b12, i, none⟩) (by simp only [Value.ownBlock, ne_eq, Option.some.injEq]; exact fun e => HNE.out e) (.int .i64 q2))
            have HLg := hid (show Later w3x (wf.setCell ⟨b12, i, none⟩ (.int .i64 q2)) from Below.setCell HLf.out hb12 _)
            have HSg := hid (show wr.heap.size ≤ (wf.setCell ⟨b12, i, none⟩ (.int .i64 q2)).heap.size by simp; exact HSf.out)
            generalize wf.setCell ⟨b12, i, none⟩ (.int .i64 q2) = wg at HRXg HRZg HLg HSg ⊢
            clear ca3 cn3 cz3 fz3
            go_roundw
            case rel => exact ⟨i + 1, by omega, by go_num, HRXg.out.wide (Nat.le_refl _) HSg.out, HRZg.out.wide (Nat.le_refl _) HSg.out, HLg.out⟩
            case measure => simp [intOf]; omega
          · obtain rfl : i = 3 := by omega
            have HFX : Hid (OwnInts w3x.heap.size wr.heap.size wr (.slice (some ⟨b11, 0, none⟩) 3 3) X) := hid (by have := hrx; unfold partR at this; simpa [List.take_of_length_le (show X.length ≤ 3 by omega)] using this)
            have HFZ : Hid (OwnInts w3x.heap.size wr.heap.size wr (.slice (some ⟨b12, 0, none⟩) 3 3) Z) := hid (by have := hrz; unfold partR at this; simpa [List.take_of_length_le (show Z.length ≤ 3 by omega)] using this)
            have HLr := hid hLr
            clear hrx hrz hLr
            go_wp2_with fail
            have hLa := Later.alloc wr (.cells #[.slice (some ⟨b11, 0, none⟩) 3 3, .slice (some ⟨g2, 0, none⟩) 3 p2, .slice (some ⟨b12, 0, none⟩) 3 3] 26)
            have hs1 : w1.heap.size ≤ w3x.heap.size := Nat.le_trans HLx.out.size HLL3.out.size
            have hsr := HLr.out.size
            have hs2 : w1.heap.size ≤ w1x.heap.size := Nat.le_trans HLx.out.size HZ1.out
            have hg2l := HG2.out
            have hrows := rows3 w1.heap.size wr (.slice (some ⟨b11, 0, none⟩) 3 3) (.slice (some ⟨g2, 0, none⟩) 3 p2) (.slice (some ⟨b12, 0, none⟩) 3 3) X Y Z (by omega) (HFX.out.wide hs1 (Nat.le_refl _)) ((HA2.out.later HLr.out).wide hs2 (by have := HZ3.out; omega)) (HFZ.out.wide hs1 (Nat.le_refl _))
              (fun k hk => by simp only [Value.ownBlock, Option.some.injEq] at hk ⊢; simp; omega) (fun k hk => by simp only [Value.ownBlock, Option.some.injEq] at hk ⊢; simp; have := HNE.out; omega) (fun k hk => by simp only [Value.ownBlock, Option.some.injEq] at hk ⊢; simp; omega)
            have HROW := hid hrows
            have HXa := hid ((HX3.out.later HLr.out).later hLa)
            have HLa := hid ((HLW3.out.trans HLr.out).trans hLa)
            have hsa : (wr.alloc (.cells #[.slice (some ⟨b11, 0, none⟩) 3 3, .slice (some ⟨g2, 0, none⟩) 3 p2, .slice (some ⟨b12, 0, none⟩) 3 3] 26)).heap.size = wr.heap.size + 1 := by simp
            have HSA := hid hsa
            clear hLa hrows hsa
            generalize wr.alloc (.cells #[.slice (some ⟨b11, 0, none⟩) 3 3, .slice (some ⟨g2, 0, none⟩) 3 p2, .slice (some ⟨b12, 0, none⟩) 3 3] 26) = wa at HROW HXa HLa HSA ⊢
            refine (matrixOf_any _ [X, Y, Z] wa HROW.out.rows).mono ?_
            rintro e w9 ⟨rfl, hL9⟩
            obtain ⟨hoe, hgd⟩ := HPP.out
            rw [HMS.out] at hoe hgd
            rw [hgd]
            simp only [if_true]
            have HOE := hid hoe
            have hb := HXa.out.later hL9
            obtain ⟨r0, f0⟩ := hb
            have HB9 := hid (HXa.out.later hL9)
            have HR9 := hid (HROW.out.later hL9)
            have HL9 := hid (HLa.out.trans hL9)
            have HS9 := hid (show wr.heap.size + 1 ≤ w9.heap.size by have := hL9.size; have := HSA.out; omega)
            clear hoe hgd hL9
            go_wp2_with fail
            have HR10 := hid (HR9.out.setCell (a := ⟨B + 1, 0, none⟩) (by have := HSZ.out; simp; omega) (.slice (some ⟨wr.heap.size, 0, none⟩) 3 3))
            have e0 := (HB9.out.set (.slice (some ⟨wr.heap.size, 0, none⟩) 3 3)).1
            have HL10 := hid (show Later w (w9.setCell ⟨B + 1, 0, none⟩ (.slice (some ⟨wr.heap.size, 0, none⟩) 3 3)) from Below.setCell HL9.out (show w.heap.size ≤ B + 1 by have := HWB.out; omega) _)
            have HS10 := hid (show wr.heap.size + 1 ≤ (w9.setCell ⟨B + 1, 0, none⟩ (.slice (some ⟨wr.heap.size, 0, none⟩) 3 3)).heap.size by simp; exact HS9.out)
            generalize w9.setCell ⟨B + 1, 0, none⟩ (.slice (some ⟨wr.heap.size, 0, none⟩) 3 3) = w10 at HR10 e0 HL10 HS10 ⊢
            clear r0 f0
            refine bodyPost_ret (v := .tuple #[.agg #[.slice (some ⟨wr.heap.size, 0, none⟩) 3 3], .bool true]) ?_ rfl ⟨_, by rw [HOE.out]; rfl, by rw [HOE.out]; exact HR10.out.wide HL.out.size HS10.out, HL10.out⟩
            rw [results_cell_tmp rfl]
            go_simp


theorem bergM_out (k : Int) (h : within 0 2 k = false) : bergM k = none := by
  have hn : ¬ (0 ≤ k ∧ k ≤ 2) := fun hh => by simp [within, hh.1, hh.2] at h
  unfold bergM
  rw [if_neg (by omega), if_neg (by omega), if_neg (by omega)]
set_option maxRecDepth 20000 in
set_option maxHeartbeats 2000000 in
theorem implBergMatrix_any (k : Int) (w : World) : Calls Try.prog 26 #[.int .i64 k] w fun e w' => MatAns w (bergM k) e w' := by
  obtain ⟨V, hV⟩ : ∃ V, Value.agg (tree3 (bergT 0) (bergT 1) (bergT 2)).toArray = V := ⟨_, rfl⟩
  have HT := hid (fun w0 => bergTree_any w0)
  have HM := hid (fun w0 => matrixAt_any (bergT 0) (bergT 1) (bergT 2) treeBerg.good k (bergM k) w0 (bergM_out k) (fun h => by subst h; decide) (fun h => by subst h; decide) (fun h => by subst h; decide))
  rw [hV] at HT HM
  obtain ⟨o, ho⟩ : ∃ o, bergM k = o := ⟨_, rfl⟩
  rw [ho] at HM ⊢
  have HL := hid (Later.alloc w (.cells #[.slice none 0 0] 46))
  have HX := hid (show Box (w.alloc (.cells #[.slice none 0 0] 46)) w.heap.size (.slice none 0 0) from ⟨by simp [go_sem], by simp [go_sem]⟩)
  have HSZ := hid (show (w.alloc (.cells #[.slice none 0 0] 46)).heap.size = w.heap.size + 1 by simp)
  clear hV ho
  go_enter Try.func26, Try.ntmps26
  go_wp2_with fail
  generalize w.alloc (.cells #[.slice none 0 0] 46) = w1 at HL HX HSZ ⊢
  refine (HT.out _).mono ?_
  rintro e w2 ⟨rfl, hL2⟩
  have HL2 := hid (HL.out.trans hL2)
  have HX2 := hid (HX.out.later hL2)
  have HS2 := hid hL2.size
  clear hL2
  go_wp2_with fail
  refine (HM.out _).mono ?_
  rintro e w3 ⟨v3, rfl, ho3, hL3⟩
  have HO3 := hid ho3
  have HL3 := hid (HL2.out.trans hL3)
  have HX3 := hid (HX2.out.later hL3)
  have HS3 := hid hL3.size
  obtain ⟨r0, f0⟩ := HX3.out
  obtain ⟨a3, c3, rfl, _⟩ := ho3.shape
  clear ho3 hL3
  go_wp2_with fail
  have HO4 := hid (HO3.out.setCell (a := ⟨w.heap.size, 0, none⟩) (by have := HSZ.out; have := HS2.out; simp; omega) (.slice a3 (o.getD []).length c3))
  have e0 := (HX3.out.set (.slice a3 (o.getD []).length c3)).1
  have HL4 := hid (show Later w (w3.setCell ⟨w.heap.size, 0, none⟩ (.slice a3 (o.getD []).length c3)) from Below.setCell HL3.out (Nat.le_refl _) _)
  have HS4 := hid (show w3.heap.size ≤ (w3.setCell ⟨w.heap.size, 0, none⟩ (.slice a3 (o.getD []).length c3)).heap.size by simp)
  generalize w3.setCell ⟨w.heap.size, 0, none⟩ (.slice a3 (o.getD []).length c3) = w4 at HO4 e0 HL4 HS4 ⊢
  clear r0 f0
  refine bodyPost_ret (v := .tuple #[.agg #[.slice a3 (o.getD []).length c3], .bool o.isSome]) ?_ rfl ⟨_, rfl, HO4.out.wide HL2.out.size HS4.out, HL4.out⟩
  rw [results_cell_tmp rfl]
  go_simp

theorem priceM_out (k : Int) (h : within 0 2 k = false) : priceM k = none := by
  have hn : ¬ (0 ≤ k ∧ k ≤ 2) := fun hh => by simp [within, hh.1, hh.2] at h
  unfold priceM
  rw [if_neg (by omega), if_neg (by omega), if_neg (by omega)]
set_option maxRecDepth 20000 in
set_option maxHeartbeats 2000000 in
theorem implPriceMatrix_any (k : Int) (w : World) : Calls Try.prog 39 #[.int .i64 k] w fun e w' => MatAns w (priceM k) e w' := by
  obtain ⟨V, hV⟩ : ∃ V, Value.agg (tree3 (priceT 0) (priceT 1) (priceT 2)).toArray = V := ⟨_, rfl⟩
  have HT := hid (fun w0 => priceTree_any w0)
  have HM := hid (fun w0 => matrixAt_any (priceT 0) (priceT 1) (priceT 2) treePrice.good k (priceM k) w0 (priceM_out k) (fun h => by subst h; decide) (fun h => by subst h; decide) (fun h => by subst h; decide))
  rw [hV] at HT HM
  obtain ⟨o, ho⟩ : ∃ o, priceM k = o := ⟨_, rfl⟩
  rw [ho] at HM ⊢
  have HL := hid (Later.alloc w (.cells #[.slice none 0 0] 46))
  have HX := hid (show Box (w.alloc (.cells #[.slice none 0 0] 46)) w.heap.size (.slice none 0 0) from ⟨by simp [go_sem], by simp [go_sem]⟩)
  have HSZ := hid (show (w.alloc (.cells #[.slice none 0 0] 46)).heap.size = w.heap.size + 1 by simp)
  clear hV ho
  go_enter Try.func39, Try.ntmps39
  go_wp2_with fail
  generalize w.alloc (.cells #[.slice none 0 0] 46) = w1 at HL HX HSZ ⊢
  refine (HT.out _).mono ?_
  rintro e w2 ⟨rfl, hL2⟩
  have HL2 := hid (HL.out.trans hL2)
  have HX2 := hid (HX.out.later hL2)
  have HS2 := hid hL2.size
  clear hL2
  go_wp2_with fail
  refine (HM.out _).mono ?_
  rintro e w3 ⟨v3, rfl, ho3, hL3⟩
  have HO3 := hid ho3
  have HL3 := hid (HL2.out.trans hL3)
  have HX3 := hid (HX2.out.later hL3)
  have HS3 := hid hL3.size
  obtain ⟨r0, f0⟩ := HX3.out
  obtain ⟨a3, c3, rfl, _⟩ := ho3.shape
  clear ho3 hL3
  go_wp2_with fail
  have HO4 := hid (HO3.out.setCell (a := ⟨w.heap.size, 0, none⟩) (by have := HSZ.out; have := HS2.out; simp; omega) (.slice a3 (o.getD []).length c3))
  have e0 := (HX3.out.set (.slice a3 (o.getD []).length c3)).1
  have HL4 := hid (show Later w (w3.setCell ⟨w.heap.size, 0, none⟩ (.slice a3 (o.getD []).length c3)) from Below.setCell HL3.out (Nat.le_refl _) _)
  have HS4 := hid (show w3.heap.size ≤ (w3.setCell ⟨w.heap.size, 0, none⟩ (.slice a3 (o.getD []).length c3)).heap.size by simp)
  generalize w3.setCell ⟨w.heap.size, 0, none⟩ (.slice a3 (o.getD []).length c3) = w4 at HO4 e0 HL4 HS4 ⊢
  clear r0 f0
  refine bodyPost_ret (v := .tuple #[.agg #[.slice a3 (o.getD []).length c3], .bool o.isSome]) ?_ rfl ⟨_, rfl, HO4.out.wide HL2.out.size HS4.out, HL4.out⟩
  rw [results_cell_tmp rfl]
  go_simp
end Go.Proofs.Ytdahhcigphhfdac
