/- Right triples in the program: steps, trees, children. -/
import Derived.Test.YtdahhcigphhfdacRiQ
import Derived.Test.YtdahhcigphhfdacRiC
import Derived.Test.YtdahhcigphhfdacRgH
import Derived.Deep.DeepCutAuto
namespace Go.Proofs.Ytdahhcigphhfdac
open Go.RowKit

theorem results_cellR {fn : Func} {p : Tmp} {ty : TypeId} (h : fn.results = #[.cell p ty]) (tmps : Array Value) (P : Program) (w : World) :
    (results fn tmps).run P w = ((asAddr (tmps.getD p undef)).run P w).andThen fun a w₁ => (loadVar ty a).run P w₁ := by
  simp only [results, h]
  simp [Sem.run_bind, Result.andThen]
def stV (s : St) : List Value := [.int .i64 s.a, .int .i64 s.b, .int .i64 s.c, .int .i64 s.d]
def treeV (T : Nat → St) : List Value := stV (T 0) ++ stV (T 1) ++ stV (T 2)
structure Small (s : St) : Prop where
  a1 : -2 ≤ s.a
  a2 : s.a ≤ 2
  b1 : -2 ≤ s.b
  b2 : s.b ≤ 2
  c1 : -2 ≤ s.c
  c2 : s.c ≤ 2
  d1 : -2 ≤ s.d
  d2 : s.d ≤ 2
theorem small_mul {a m : Int} {B : Int} (h1 : -2 ≤ a) (h2 : a ≤ 2) (h3 : -B ≤ m) (h4 : m ≤ B) (hB : 0 ≤ B) : -(2 * B) ≤ a * m ∧ a * m ≤ 2 * B := by
  have ha : a = -2 ∨ a = -1 ∨ a = 0 ∨ a = 1 ∨ a = 2 := by omega
  rcases ha with rfl | rfl | rfl | rfl | rfl <;> omega

set_option maxRecDepth 20000 in
set_option maxHeartbeats 2000000 in
theorem childP_any (m n : Int) (s : St) (hs : Small s) (w : World) (hm : -1000000 ≤ m ∧ m ≤ 1000000) (hn : -1000000 ≤ n ∧ n ≤ 1000000) :
    Calls Try.prog 119 #[.agg #[.int .i64 m, .int .i64 n], .agg (stV s).toArray] w fun e w' => e = .returned (.agg #[.int .i64 (kid s m n).1, .int .i64 (kid s m n).2]) ∧ Later w w' := by
  obtain ⟨a, b, c, d⟩ := s
  obtain ⟨x1, x2⟩ := small_mul hs.a1 hs.a2 hm.1 hm.2 (by omega)
  obtain ⟨x3, x4⟩ := small_mul hs.b1 hs.b2 hn.1 hn.2 (by omega)
  obtain ⟨x5, x6⟩ := small_mul hs.c1 hs.c2 hm.1 hm.2 (by omega)
  obtain ⟨x7, x8⟩ := small_mul hs.d1 hs.d2 hn.1 hn.2 (by omega)
  simp only at x1 x2 x3 x4 x5 x6 x7 x8
  unfold stV kid
  simp only
  have HL := hid (((Later.alloc w (.cells #[.int .i64 m, .int .i64 n] 66)).trans (Later.alloc _ (.cells #[.int .i64 a, .int .i64 b, .int .i64 c, .int .i64 d] 84))).trans (Later.alloc _ (.cells #[.int .i64 (a * m + b * n), .int .i64 (c * m + d * n)] 66)))
  clear hs hm hn
  go_enter Try.func119, Try.ntmps119
  go_wp2_with fail
  have r0 : (((w.alloc (.cells #[.int .i64 m, .int .i64 n] 66)).alloc (.cells #[.int .i64 a, .int .i64 b, .int .i64 c, .int .i64 d] 84)).alloc (.cells #[.int .i64 (a * m + b * n), .int .i64 (c * m + d * n)] 66)).cell? ⟨w.heap.size + 1 + 1, 0, none⟩ = some (.int .i64 (a * m + b * n)) := by simp [go_sem]
  have r1 : (((w.alloc (.cells #[.int .i64 m, .int .i64 n] 66)).alloc (.cells #[.int .i64 a, .int .i64 b, .int .i64 c, .int .i64 d] 84)).alloc (.cells #[.int .i64 (a * m + b * n), .int .i64 (c * m + d * n)] 66)).cell? ⟨w.heap.size + 1 + 1, 1, none⟩ = some (.int .i64 (c * m + d * n)) := by simp [go_sem]
  generalize ((w.alloc (.cells #[.int .i64 m, .int .i64 n] 66)).alloc (.cells #[.int .i64 a, .int .i64 b, .int .i64 c, .int .i64 d] 84)).alloc (.cells #[.int .i64 (a * m + b * n), .int .i64 (c * m + d * n)] 66) = w3 at HL r0 r1 ⊢
  refine bodyPost_ret (v := .agg #[.int .i64 (a * m + b * n), .int .i64 (c * m + d * n)]) ?_ rfl ⟨rfl, HL.out⟩
  rw [results_cellR rfl]
  go_simp

theorem stV_alloc (w : World) (a b c d : Int) (ty : TypeId) : (w.alloc (.cells #[.int .i64 a, .int .i64 b, .int .i64 c, .int .i64 d] ty)).cell? ⟨w.heap.size, 0, none⟩ = some (.int .i64 a) ∧ (w.alloc (.cells #[.int .i64 a, .int .i64 b, .int .i64 c, .int .i64 d] ty)).cell? ⟨w.heap.size, 1, none⟩ = some (.int .i64 b) ∧ (w.alloc (.cells #[.int .i64 a, .int .i64 b, .int .i64 c, .int .i64 d] ty)).cell? ⟨w.heap.size, 2, none⟩ = some (.int .i64 c) ∧ (w.alloc (.cells #[.int .i64 a, .int .i64 b, .int .i64 c, .int .i64 d] ty)).cell? ⟨w.heap.size, 3, none⟩ = some (.int .i64 d) := by simp [go_sem]
theorem tdiv_bd {x D B : Int} (h1 : -B ≤ x) (h2 : x ≤ B) : -B ≤ x.tdiv D ∧ x.tdiv D ≤ B := by
  have h : (x.tdiv D).natAbs ≤ x.natAbs := by rw [Int.natAbs_tdiv]; exact Nat.div_le_self _ _
  omega
/-- What 'before' answers. -/
def befV (s : St) (m n : Int) : Value := .tuple #[.agg #[.int .i64 (bef s m n).1, .int .i64 (bef s m n).2], .bool (okB s m n)]

set_option maxRecDepth 20000 in
set_option maxHeartbeats 4000000 in
theorem before_any (m n : Int) (s : St) (hs : Small s) (hd : s.det ≠ 0) (w : World) (hm : -100000 ≤ m ∧ m ≤ 100000) (hn : -100000 ≤ n ∧ n ≤ 100000) :
    Calls Try.prog 151 #[.agg #[.int .i64 m, .int .i64 n], .agg (stV s).toArray] w fun e w' => e = .returned (befV s m n) ∧ Later w w' := by
  obtain ⟨a, b, c, d⟩ := s
  obtain ⟨x1, x2⟩ := small_mul hs.a1 hs.a2 hn.1 hn.2 (by omega)
  obtain ⟨x3, x4⟩ := small_mul hs.b1 hs.b2 hn.1 hn.2 (by omega)
  obtain ⟨x5, x6⟩ := small_mul hs.c1 hs.c2 hm.1 hm.2 (by omega)
  obtain ⟨x7, x8⟩ := small_mul hs.d1 hs.d2 hm.1 hm.2 (by omega)
  obtain ⟨y1, y2⟩ := small_mul hs.a1 hs.a2 hs.d1 hs.d2 (by omega)
  obtain ⟨y3, y4⟩ := small_mul hs.b1 hs.b2 hs.c1 hs.c2 (by omega)
  simp only at x1 x2 x3 x4 x5 x6 x7 x8 y1 y2 y3 y4
  obtain ⟨D, hD⟩ : ∃ D, a * d - b * c = D := ⟨_, rfl⟩
  have hD0 : ¬ D = 0 := fun e => hd (by unfold St.det; simp only; omega)
  obtain ⟨q1, q2⟩ := tdiv_bd (x := d * m - b * n) (D := D) (B := 400000) (by omega) (by omega)
  obtain ⟨q3, q4⟩ := tdiv_bd (x := a * n - c * m) (D := D) (B := 400000) (by omega) (by omega)
  obtain ⟨p, hp⟩ : ∃ p, (d * m - b * n).tdiv D = p := ⟨_, rfl⟩
  obtain ⟨q, hq⟩ : ∃ q, (a * n - c * m).tdiv D = q := ⟨_, rfl⟩
  rw [hp] at q1 q2
  rw [hq] at q3 q4
  have HB := hid (show bef ⟨a, b, c, d⟩ m n = (p, q) by unfold bef St.det; simp only; rw [hD, hp, hq])
  have e1 : IntKind.i64.wrap (d * m) = d * m := by rw [IntWalk.i64_left]; exact IntWalk.wrap64_in _ (by omega)
  have e2 : IntKind.i64.wrap (b * n) = b * n := by rw [IntWalk.i64_left]; exact IntWalk.wrap64_in _ (by omega)
  have e3 : IntKind.i64.wrap (d * m - b * n) = d * m - b * n := by rw [IntWalk.i64_left]; exact IntWalk.wrap64_in _ (by omega)
  have e4 : IntKind.i64.wrap (a * n) = a * n := by rw [IntWalk.i64_left]; exact IntWalk.wrap64_in _ (by omega)
  have e5 : IntKind.i64.wrap (c * m) = c * m := by rw [IntWalk.i64_left]; exact IntWalk.wrap64_in _ (by omega)
  have e6 : IntKind.i64.wrap (a * n - c * m) = a * n - c * m := by rw [IntWalk.i64_left]; exact IntWalk.wrap64_in _ (by omega)
  have e7 : IntKind.i64.wrap p = p := by rw [IntWalk.i64_left]; exact IntWalk.wrap64_in _ (by omega)
  have e8 : IntKind.i64.wrap q = q := by rw [IntWalk.i64_left]; exact IntWalk.wrap64_in _ (by omega)
  have HS := hid hs
  unfold stV
  simp only
  have hL1 := Later.alloc w (.cells #[.int .i64 m, .int .i64 n] 66)
  have hL2 := Later.alloc (w.alloc (.cells #[.int .i64 m, .int .i64 n] 66)) (.cells #[.int .i64 a, .int .i64 b, .int .i64 c, .int .i64 d] 84)
  have hL3 := Later.alloc ((w.alloc (.cells #[.int .i64 m, .int .i64 n] 66)).alloc (.cells #[.int .i64 a, .int .i64 b, .int .i64 c, .int .i64 d] 84)) (.cells #[.int .i64 0, .int .i64 0] 66)
  obtain ⟨c0, c1⟩ := pair_alloc w m n 66
  obtain ⟨s0, s1, s2, s3⟩ := stV_alloc (w.alloc (.cells #[.int .i64 m, .int .i64 n] 66)) a b c d 84
  obtain ⟨r0, r1⟩ := pair_alloc ((w.alloc (.cells #[.int .i64 m, .int .i64 n] 66)).alloc (.cells #[.int .i64 a, .int .i64 b, .int .i64 c, .int .i64 d] 84)) 0 0 66
  have hsz : (w.alloc (.cells #[.int .i64 m, .int .i64 n] 66)).heap.size = w.heap.size + 1 := by simp
  have hsz2 : ((w.alloc (.cells #[.int .i64 m, .int .i64 n] 66)).alloc (.cells #[.int .i64 a, .int .i64 b, .int .i64 c, .int .i64 d] 84)).heap.size = w.heap.size + 1 + 1 := by simp
  have f0 : (((w.alloc (.cells #[.int .i64 m, .int .i64 n] 66)).alloc (.cells #[.int .i64 a, .int .i64 b, .int .i64 c, .int .i64 d] 84)).alloc (.cells #[.int .i64 0, .int .i64 0] 66)).frozen? ⟨w.heap.size + 1 + 1, 0, none⟩ = false := by simp [go_sem]
  have f1 : (((w.alloc (.cells #[.int .i64 m, .int .i64 n] 66)).alloc (.cells #[.int .i64 a, .int .i64 b, .int .i64 c, .int .i64 d] 84)).alloc (.cells #[.int .i64 0, .int .i64 0] 66)).frozen? ⟨w.heap.size + 1 + 1, 1, none⟩ = false := by simp [go_sem]
  rw [hsz] at s0 s1 s2 s3
  rw [hsz2] at r0 r1
  replace c0 := hL3.cell (hL2.cell c0)
  replace c1 := hL3.cell (hL2.cell c1)
  replace s0 := hL3.cell s0
  replace s1 := hL3.cell s1
  replace s2 := hL3.cell s2
  replace s3 := hL3.cell s3
  have HL := hid ((hL1.trans hL2).trans hL3)
  have HSZ := hid (show w.heap.size + 1 + 1 < (((w.alloc (.cells #[.int .i64 m, .int .i64 n] 66)).alloc (.cells #[.int .i64 a, .int .i64 b, .int .i64 c, .int .i64 d] 84)).alloc (.cells #[.int .i64 0, .int .i64 0] 66)).heap.size by simp)
  clear hL1 hL2 hL3 hsz hsz2 hs
  go_enter Try.func151, Try.ntmps151
  go_upto_region 2 with fail
  generalize ((w.alloc (.cells #[.int .i64 m, .int .i64 n] 66)).alloc (.cells #[.int .i64 a, .int .i64 b, .int .i64 c, .int .i64 d] 84)).alloc (.cells #[.int .i64 0, .int .i64 0] 66) = w3 at HL HSZ c0 c1 s0 s1 s2 s3 r0 r1 f0 f1 ⊢
  clear hd
  have hlt0 : w.heap.size < w3.heap.size := by have := HSZ.out; omega
  have hlt1 : w.heap.size + 1 < w3.heap.size := by have := HSZ.out; omega
  have HA := hid (fun (w' : World) (hw : w' = w3 ∨ w' = w3.drew) => show (w'.alloc (.cells #[.int .i64 0, .int .i64 0] 66)).cell? ⟨w.heap.size, 0, none⟩ = some (.int .i64 m) ∧ (w'.alloc (.cells #[.int .i64 0, .int .i64 0] 66)).cell? ⟨w.heap.size, 1, none⟩ = some (.int .i64 n) ∧ (w'.alloc (.cells #[.int .i64 0, .int .i64 0] 66)).cell? ⟨w.heap.size + 1, 0, none⟩ = some (.int .i64 a) ∧ (w'.alloc (.cells #[.int .i64 0, .int .i64 0] 66)).cell? ⟨w.heap.size + 1, 1, none⟩ = some (.int .i64 b) ∧ (w'.alloc (.cells #[.int .i64 0, .int .i64 0] 66)).cell? ⟨w.heap.size + 1, 2, none⟩ = some (.int .i64 c) ∧ (w'.alloc (.cells #[.int .i64 0, .int .i64 0] 66)).cell? ⟨w.heap.size + 1, 3, none⟩ = some (.int .i64 d) from by
    rcases hw with rfl | rfl
    · exact ⟨(Later.alloc _ _).cell c0, (Later.alloc _ _).cell c1, (Later.alloc _ _).cell s0, (Later.alloc _ _).cell s1, (Later.alloc _ _).cell s2, (Later.alloc _ _).cell s3⟩
    · exact ⟨(Later.alloc _ _).cell ((Later.drew _).cell c0), (Later.alloc _ _).cell ((Later.drew _).cell c1), (Later.alloc _ _).cell ((Later.drew _).cell s0), (Later.alloc _ _).cell ((Later.drew _).cell s1), (Later.alloc _ _).cell ((Later.drew _).cell s2), (Later.alloc _ _).cell ((Later.drew _).cell s3)⟩)
  go_region_held3 (fun w' => w'.cell? ⟨w.heap.size, 0, none⟩ = some (.int .i64 m) ∧ w'.cell? ⟨w.heap.size, 1, none⟩ = some (.int .i64 n) ∧ w'.cell? ⟨w.heap.size + 1, 0, none⟩ = some (.int .i64 a) ∧ w'.cell? ⟨w.heap.size + 1, 1, none⟩ = some (.int .i64 b) ∧ w'.cell? ⟨w.heap.size + 1, 2, none⟩ = some (.int .i64 c) ∧ w'.cell? ⟨w.heap.size + 1, 3, none⟩ = some (.int .i64 d)) (first | exact ⟨c0, c1, s0, s1, s2, s3⟩ | exact HA.out _ (.inl rfl) | exact HA.out _ (.inr rfl) | go_keep) (first | fail)
  have hA3 := Later.alloc w3 (.cells #[.int .i64 p, .int .i64 q] 66)
  obtain ⟨d0, d1⟩ := pair_alloc w3 p q 66
  have hA4 := Later.drew (w3.alloc (.cells #[.int .i64 p, .int .i64 q] 66))
  have hA5 := hA3.trans hA4
  have HP := hid (show w3.heap.size ≠ w.heap.size + 1 + 1 by have := HSZ.out; omega)
  replace c0 := hA5.cell c0
  replace c1 := hA5.cell c1
  replace s0 := hA5.cell s0
  replace s1 := hA5.cell s1
  replace s2 := hA5.cell s2
  replace s3 := hA5.cell s3
  replace f0 := hA5.frozen r0 f0
  replace f1 := hA5.frozen r1 f1
  replace r0 := hA5.cell r0
  replace r1 := hA5.cell r1
  replace d0 := hA4.cell d0
  replace d1 := hA4.cell d1
  have HL := hid (HL.out.trans hA5)
  have HSZ := hid (show w3.heap.size < ((w3.alloc (.cells #[.int .i64 p, .int .i64 q] 66)).drew).heap.size by simp)
  clear hA3 hA4 hA5 hlt0 hlt1 HA
  generalize (w3.alloc (.cells #[.int .i64 p, .int .i64 q] 66)).drew = w4 at HL HSZ c0 c1 s0 s1 s2 s3 r0 r1 f0 f1 d0 d1 ⊢
  obtain ⟨B3, hB3⟩ : ∃ B, w3.heap.size = B := ⟨_, rfl⟩
  rw [hB3] at HSZ HP d0 d1 ⊢
  have HV := hid (fun w0 => isValid_any p q w0)
  clear hB3
  clear e1 e2 e3 e4 e5 e6 e7 e8 hp hq
  have kc0 : ∀ u : LaterH w4, u.now.cell? ⟨w.heap.size, 0, none⟩ = some (.int .i64 m) := fun u => u.later.cell c0
  have kc1 : ∀ u : LaterH w4, u.now.cell? ⟨w.heap.size, 1, none⟩ = some (.int .i64 n) := fun u => u.later.cell c1
  have ks0 : ∀ u : LaterH w4, u.now.cell? ⟨w.heap.size + 1, 0, none⟩ = some (.int .i64 a) := fun u => u.later.cell s0
  have ks1 : ∀ u : LaterH w4, u.now.cell? ⟨w.heap.size + 1, 1, none⟩ = some (.int .i64 b) := fun u => u.later.cell s1
  have ks2 : ∀ u : LaterH w4, u.now.cell? ⟨w.heap.size + 1, 2, none⟩ = some (.int .i64 c) := fun u => u.later.cell s2
  have ks3 : ∀ u : LaterH w4, u.now.cell? ⟨w.heap.size + 1, 3, none⟩ = some (.int .i64 d) := fun u => u.later.cell s3
  have kd0 : ∀ u : LaterH w4, u.now.cell? ⟨B3, 0, none⟩ = some (.int .i64 p) := fun u => u.later.cell d0
  have kd1 : ∀ u : LaterH w4, u.now.cell? ⟨B3, 1, none⟩ = some (.int .i64 q) := fun u => u.later.cell d1
  have HR0 := hid r0
  have HR1 := hid r1
  have HF0 := hid f0
  have HF1 := hid f1
  clear c0 c1 s0 s1 s2 s3 d0 d1 r0 r1 f0 f1
  go_wp2_with fail
  cases hv : validB p q
  · rw [hv] at HV
    have HO := hid (show okB ⟨a, b, c, d⟩ m n = false by unfold okB; rw [HB.out, hv]; rfl)
    clear hv
    refine wp_region_held_drew (S := fun w' => w'.cell? ⟨B3, 0, none⟩ = some (.int .i64 p) ∧ w'.cell? ⟨B3, 1, none⟩ = some (.int .i64 q)) (by kernel_rfl) ⟨kd0 ⟨_, Later.drew _⟩, kd1 ⟨_, Later.drew _⟩⟩ (fun hS => ?_)
    change wpAnyH _ _ _ _ _ 12 _ _ _
    refine wpAnyH_take (i := 0) (v := .agg #[.int .i64 p, .int .i64 q]) rfl (by kernel_rfl) (by kernel_rfl) (by kernel_rfl) (fun _ _ _ h => h) (.inl ⟨rfl, fun w' hw => by obtain ⟨h0, h1⟩ := hw; go_simp⟩) hS ?_
    refine wpAnyH_take (i := 1) (v := .agg #[.int .i64 p, .int .i64 q]) rfl (by kernel_rfl) (by kernel_rfl) (by kernel_rfl) (fun _ _ _ h => h) (.inl ⟨rfl, fun w' hw => by obtain ⟨h0, h1⟩ := hw; go_simp⟩) hS ?_
    refine wpAnyH_ready (rs := [2]) (by kernel_rfl) (by simp) (AllReadyH.cons rfl (fun K2 hK2 => ?_) AllReadyH.nil)
    rw [if_pos (by kernel_rfl)]
    go_simp
    go_at_call 108
    refine (HV.out _).mono ?_
    rintro e w5 ⟨rfl, hL5⟩
    have hL5' := (Later.drew w4).trans hL5
    have r0 := hL5'.cell HR0.out
    have r1 := hL5'.cell HR1.out
    have f0 := hL5'.frozen HR0.out HF0.out
    have f1 := hL5'.frozen HR1.out HF1.out
    have HL5 := hid (HL.out.trans hL5')
    refine hK2.out _ _ ⟨kd0 ⟨_, hL5'⟩, kd1 ⟨_, hL5'⟩⟩ (fun hS5 => ?_)
    clear hK2 K2 hL5 hL5' hS
    refine wpAnyH_take (i := 3) (v := .bool false) rfl (by kernel_rfl) (by kernel_rfl) (by kernel_rfl) (fun _ _ _ h => h) (.inl ⟨by kernel_rfl, fun w' hw => by clear hw; go_simp⟩) hS5 ?_
    refine wpAnyH_take (i := 4) (v := undef) rfl (by kernel_rfl) (by kernel_rfl) (by kernel_rfl) (fun _ _ _ h => h) (.inr ⟨by kernel_rfl, rfl⟩) hS5 ?_
    refine wpAnyH_take (i := 5) (v := undef) rfl (by kernel_rfl) (by kernel_rfl) (by kernel_rfl) (fun _ _ _ h => h) (.inr ⟨by kernel_rfl, rfl⟩) hS5 ?_
    refine wpAnyH_take (i := 6) (v := undef) rfl (by kernel_rfl) (by kernel_rfl) (by kernel_rfl) (fun _ _ _ h => h) (.inr ⟨by kernel_rfl, rfl⟩) hS5 ?_
    refine wpAnyH_take (i := 7) (v := undef) rfl (by kernel_rfl) (by kernel_rfl) (by kernel_rfl) (fun _ _ _ h => h) (.inr ⟨by kernel_rfl, rfl⟩) hS5 ?_
    refine wpAnyH_take (i := 8) (v := undef) rfl (by kernel_rfl) (by kernel_rfl) (by kernel_rfl) (fun _ _ _ h => h) (.inr ⟨by kernel_rfl, rfl⟩) hS5 ?_
    refine wpAnyH_take (i := 9) (v := .bool false) rfl (by kernel_rfl) (by kernel_rfl) (by kernel_rfl) (fun _ _ _ h => h) (.inl ⟨by kernel_rfl, fun w' hw => by clear hw; go_simp⟩) hS5 ?_
    refine wpAnyH_ready (rs := [10]) (by kernel_rfl) (by simp) (AllReadyH.cons rfl (fun K3 hK3 => ?_) AllReadyH.nil)
    rw [if_pos (by kernel_rfl)]
    go_simp
    refine hK3.out _ _ ⟨(World.cell?_setCell_other _ _ _ _ (by first | exact fun e => HP.out (congrArg Addr.block e) | exact fun e => HP.out (congrArg Addr.block e).symm)).trans ((World.cell?_setCell_other _ _ _ _ (by first | exact fun e => HP.out (congrArg Addr.block e) | exact fun e => HP.out (congrArg Addr.block e).symm)).trans hS5.1), (World.cell?_setCell_other _ _ _ _ (by first | exact fun e => HP.out (congrArg Addr.block e) | exact fun e => HP.out (congrArg Addr.block e).symm)).trans ((World.cell?_setCell_other _ _ _ _ (by first | exact fun e => HP.out (congrArg Addr.block e) | exact fun e => HP.out (congrArg Addr.block e).symm)).trans hS5.2)⟩ (fun hS6 => ?_)
    clear hK3 K3
    refine wpAnyH_take (i := 11) (v := .bool false) rfl (by kernel_rfl) (by kernel_rfl) (by kernel_rfl) (fun _ _ _ h => h) (.inl ⟨by kernel_rfl, fun w' hw => by clear hw; go_simp⟩) hS6 ?_
    refine wpAnyH_done (by kernel_rfl) ?_ _
    have HL6 := hid (show Later w ((w5.setCell ⟨w.heap.size + 1 + 1, 0, none⟩ (.int .i64 p)).setCell ⟨w.heap.size + 1 + 1, 1, none⟩ (.int .i64 q)) from Below.setCell (Below.setCell HL5.out (by simp; omega) _) (by simp; omega) _)
    have e0 : ((w5.setCell ⟨w.heap.size + 1 + 1, 0, none⟩ (.int .i64 p)).setCell ⟨w.heap.size + 1 + 1, 1, none⟩ (.int .i64 q)).cell? ⟨w.heap.size + 1 + 1, 0, none⟩ = some (.int .i64 p) := (World.cell?_setCell_other _ _ _ _ (by simp)).trans (World.cell?_setCell_same _ _ _ r0)
    have e1 : ((w5.setCell ⟨w.heap.size + 1 + 1, 0, none⟩ (.int .i64 p)).setCell ⟨w.heap.size + 1 + 1, 1, none⟩ (.int .i64 q)).cell? ⟨w.heap.size + 1 + 1, 1, none⟩ = some (.int .i64 q) := World.cell?_setCell_same _ _ _ ((World.cell?_setCell_other _ _ _ _ (by simp)).trans r1)
    clear hS5 hS6 r0 r1 f0 f1
    generalize (w5.setCell ⟨w.heap.size + 1 + 1, 0, none⟩ (.int .i64 p)).setCell ⟨w.heap.size + 1 + 1, 1, none⟩ (.int .i64 q) = w6 at HL6 e0 e1 ⊢
    go_wp2_with fail
    refine bodyPost_ret (v := .tuple #[.agg #[.int .i64 p, .int .i64 q], .bool false]) ?_ rfl ⟨by unfold befV; rw [HB.out, HO.out], HL6.out⟩
    rw [results_cell_tmp rfl]
    go_simp
  · rw [hv] at HV
    obtain ⟨X, hX⟩ : ∃ X, a * p + b * q = X := ⟨_, rfl⟩
    obtain ⟨Y, hY⟩ : ∃ Y, c * p + d * q = Y := ⟨_, rfl⟩
    have HK := hid (show kid ⟨a, b, c, d⟩ p q = (X, Y) by unfold kid; rw [hX, hY])
    have HO := hid (show okB ⟨a, b, c, d⟩ m n = (X == m && Y == n) by
      unfold okB
      rw [HB.out, hv]
      simp only [Bool.true_and, HK.out]
      by_cases g1 : X = m <;> by_cases g2 : Y = n <;> simp [g1, g2])
    have HCH := hid (fun w0 => childP_any p q ⟨a, b, c, d⟩ HS.out w0 ⟨by omega, by omega⟩ ⟨by omega, by omega⟩)
    rw [HK.out] at HCH
    clear hv hX hY
    refine wp_region_held_drew (S := (fun w' => w'.cell? ⟨B3, 0, none⟩ = some (.int .i64 p) ∧ w'.cell? ⟨B3, 1, none⟩ = some (.int .i64 q) ∧ w'.cell? ⟨w.heap.size, 0, none⟩ = some (.int .i64 m) ∧ w'.cell? ⟨w.heap.size, 1, none⟩ = some (.int .i64 n) ∧ w'.cell? ⟨w.heap.size + 1, 0, none⟩ = some (.int .i64 a) ∧ w'.cell? ⟨w.heap.size + 1, 1, none⟩ = some (.int .i64 b) ∧ w'.cell? ⟨w.heap.size + 1, 2, none⟩ = some (.int .i64 c) ∧ w'.cell? ⟨w.heap.size + 1, 3, none⟩ = some (.int .i64 d))) (by kernel_rfl) ⟨kd0 ⟨_, Later.drew _⟩, kd1 ⟨_, Later.drew _⟩, kc0 ⟨_, Later.drew _⟩, kc1 ⟨_, Later.drew _⟩, ks0 ⟨_, Later.drew _⟩, ks1 ⟨_, Later.drew _⟩, ks2 ⟨_, Later.drew _⟩, ks3 ⟨_, Later.drew _⟩⟩ (fun hS => ?_)
    change wpAnyH _ _ _ _ _ 12 _ _ _
    refine wpAnyH_take (i := 0) (v := .agg #[.int .i64 p, .int .i64 q]) rfl (by kernel_rfl) (by kernel_rfl) (by kernel_rfl) (fun _ _ _ h => h) (.inl ⟨by kernel_rfl, fun w' hw => by obtain ⟨h0, h1, h2, h3, h4, h5, h6, h7⟩ := hw; go_simp⟩) hS ?_
    refine wpAnyH_take (i := 1) (v := .agg #[.int .i64 p, .int .i64 q]) rfl (by kernel_rfl) (by kernel_rfl) (by kernel_rfl) (fun _ _ _ h => h) (.inl ⟨by kernel_rfl, fun w' hw => by obtain ⟨h0, h1, h2, h3, h4, h5, h6, h7⟩ := hw; go_simp⟩) hS ?_
    refine wpAnyH_ready (rs := [2]) (by kernel_rfl) (by simp) (AllReadyH.cons rfl (fun K2 hK2 => ?_) AllReadyH.nil)
    rw [if_pos (by kernel_rfl)]
    clear hS
    go_simp
    go_at_call 108
    refine (HV.out _).mono ?_
    rintro e w5 ⟨rfl, hL5⟩
    have hL5' := (Later.drew w4).trans hL5
    refine hK2.out _ _ ⟨kd0 ⟨_, hL5'⟩, kd1 ⟨_, hL5'⟩, kc0 ⟨_, hL5'⟩, kc1 ⟨_, hL5'⟩, ks0 ⟨_, hL5'⟩, ks1 ⟨_, hL5'⟩, ks2 ⟨_, hL5'⟩, ks3 ⟨_, hL5'⟩⟩ (fun hS5 => ?_)
    clear hK2 K2 hL5
    refine wpAnyH_take (i := 3) (v := .bool true) rfl (by kernel_rfl) (by kernel_rfl) (by kernel_rfl) (fun _ _ _ h => h) (.inl ⟨by kernel_rfl, fun w' hw => by clear hw; go_simp⟩) hS5 ?_
    refine wpAnyH_take (i := 4) (v := .agg #[.int .i64 p, .int .i64 q]) rfl (by kernel_rfl) (by kernel_rfl) (by kernel_rfl) (fun _ _ _ h => h) (.inl ⟨by kernel_rfl, fun w' hw => by obtain ⟨h0, h1, h2, h3, h4, h5, h6, h7⟩ := hw; go_simp⟩) hS5 ?_
    refine wpAnyH_take (i := 5) (v := .agg #[.int .i64 a, .int .i64 b, .int .i64 c, .int .i64 d]) rfl (by kernel_rfl) (by kernel_rfl) (by kernel_rfl) (fun _ _ _ h => h) (.inl ⟨by kernel_rfl, fun w' hw => by obtain ⟨h0, h1, h2, h3, h4, h5, h6, h7⟩ := hw; go_simp⟩) hS5 ?_
    refine wpAnyH_take (i := 7) (v := .agg #[.int .i64 m, .int .i64 n]) rfl (by kernel_rfl) (by kernel_rfl) (by kernel_rfl) (fun _ _ _ h => h) (.inl ⟨by kernel_rfl, fun w' hw => by obtain ⟨h0, h1, h2, h3, h4, h5, h6, h7⟩ := hw; go_simp⟩) hS5 ?_
    refine wpAnyH_ready (rs := [6]) (by kernel_rfl) (by simp) (AllReadyH.cons rfl (fun K4 hK4 => ?_) AllReadyH.nil)
    rw [if_pos (by kernel_rfl)]
    clear hS5
    go_simp
    go_at_call 119
    refine (HCH.out _).mono ?_
    rintro e w7 ⟨rfl, hL7⟩
    have hL7' := hL5'.trans hL7
    have r0 := hL7'.cell HR0.out
    have r1 := hL7'.cell HR1.out
    have f0 := hL7'.frozen HR0.out HF0.out
    have f1 := hL7'.frozen HR1.out HF1.out
    have HL5 := hid (HL.out.trans hL7')
    refine hK4.out _ _ ⟨kd0 ⟨_, hL7'⟩, kd1 ⟨_, hL7'⟩, kc0 ⟨_, hL7'⟩, kc1 ⟨_, hL7'⟩, ks0 ⟨_, hL7'⟩, ks1 ⟨_, hL7'⟩, ks2 ⟨_, hL7'⟩, ks3 ⟨_, hL7'⟩⟩ (fun hS5 => ?_)
    clear hK4 K4 hL7 hL7' hL5'
    have hq2 : 9999 + 1 = 10000 := rfl
    refine wpAnyH_take (i := 8) (v := .bool (X == m && Y == n)) rfl (by kernel_rfl) (by kernel_rfl) (by kernel_rfl) (fun _ _ _ h => h) (.inl ⟨by kernel_rfl, fun w' hw => by clear hw; go_simp; by_cases g1 : X = m <;> by_cases g2 : Y = n <;> simp [g1, g2]⟩) hS5 ?_
    refine wpAnyH_take (i := 9) (v := .bool (X == m && Y == n)) rfl (by kernel_rfl) (by kernel_rfl) (by kernel_rfl) (fun _ _ _ h => h) (.inl ⟨by kernel_rfl, fun w' hw => by clear hw; go_simp⟩) hS5 ?_
    refine wpAnyH_ready (rs := [10]) (by kernel_rfl) (by simp) (AllReadyH.cons rfl (fun K3 hK3 => ?_) AllReadyH.nil)
    rw [if_pos (by kernel_rfl)]
    have hkeep : ∀ (b' i : Nat) (v : Value), b' ≠ w.heap.size + 1 + 1 → w7.cell? ⟨b', i, none⟩ = some v → ((w7.setCell ⟨w.heap.size + 1 + 1, 0, none⟩ (.int .i64 p)).setCell ⟨w.heap.size + 1 + 1, 1, none⟩ (.int .i64 q)).cell? ⟨b', i, none⟩ = some v := fun b' i v hb h =>
      (World.cell?_setCell_other _ _ _ _ (by first | exact fun e => hb (congrArg Addr.block e) | exact fun e => hb (congrArg Addr.block e).symm)).trans ((World.cell?_setCell_other _ _ _ _ (by first | exact fun e => hb (congrArg Addr.block e) | exact fun e => hb (congrArg Addr.block e).symm)).trans h)
    have HKP := hid hkeep
    have HS7 := hid hS5
    clear hkeep hS5
    go_simp
    refine hK3.out _ _ ⟨HKP.out _ _ _ HP.out HS7.out.1, HKP.out _ _ _ HP.out HS7.out.2.1, HKP.out _ _ _ (by omega) HS7.out.2.2.1, HKP.out _ _ _ (by omega) HS7.out.2.2.2.1, HKP.out _ _ _ (by omega) HS7.out.2.2.2.2.1, HKP.out _ _ _ (by omega) HS7.out.2.2.2.2.2.1, HKP.out _ _ _ (by omega) HS7.out.2.2.2.2.2.2.1, HKP.out _ _ _ (by omega) HS7.out.2.2.2.2.2.2.2⟩ (fun hS6 => ?_)
    clear hK3 K3
    refine wpAnyH_take (i := 11) (v := .bool (X == m && Y == n)) rfl (by kernel_rfl) (by kernel_rfl) (by kernel_rfl) (fun _ _ _ h => h) (.inl ⟨by kernel_rfl, fun w' hw => by clear hw; go_simp⟩) hS6 ?_
    refine wpAnyH_done (by kernel_rfl) ?_ _
    have HL6 := hid (show Later w ((w7.setCell ⟨w.heap.size + 1 + 1, 0, none⟩ (.int .i64 p)).setCell ⟨w.heap.size + 1 + 1, 1, none⟩ (.int .i64 q)) from Below.setCell (Below.setCell HL5.out (by simp; omega) _) (by simp; omega) _)
    have e0 : ((w7.setCell ⟨w.heap.size + 1 + 1, 0, none⟩ (.int .i64 p)).setCell ⟨w.heap.size + 1 + 1, 1, none⟩ (.int .i64 q)).cell? ⟨w.heap.size + 1 + 1, 0, none⟩ = some (.int .i64 p) := (World.cell?_setCell_other _ _ _ _ (by simp)).trans (World.cell?_setCell_same _ _ _ r0)
    have e1 : ((w7.setCell ⟨w.heap.size + 1 + 1, 0, none⟩ (.int .i64 p)).setCell ⟨w.heap.size + 1 + 1, 1, none⟩ (.int .i64 q)).cell? ⟨w.heap.size + 1 + 1, 1, none⟩ = some (.int .i64 q) := World.cell?_setCell_same _ _ _ ((World.cell?_setCell_other _ _ _ _ (by simp)).trans r1)
    clear hS6 r0 r1 f0 f1 HKP HS7
    generalize ((w7.setCell ⟨w.heap.size + 1 + 1, 0, none⟩ (.int .i64 p)).setCell ⟨w.heap.size + 1 + 1, 1, none⟩ (.int .i64 q)) = w8 at HL6 e0 e1 ⊢
    go_wp2_with fail
    refine bodyPost_ret (v := .tuple #[.agg #[.int .i64 p, .int .i64 q], .bool (X == m && Y == n)]) ?_ rfl ⟨by unfold befV; rw [HB.out, HO.out], HL6.out⟩
    rw [results_cell_tmp rfl]
    go_simp
end Go.Proofs.Ytdahhcigphhfdac
