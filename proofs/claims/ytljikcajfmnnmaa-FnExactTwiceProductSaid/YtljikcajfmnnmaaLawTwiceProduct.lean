/- The walk of the law FnExactTwiceProduct, over whatever contracts the model's and the program's functions have. -/
import Derived.Test.YtljikcajfmnnmaaCiL
namespace Go.Proofs.Ytljikcajfmnnmaa
open Go.RowKit

set_option maxRecDepth 20000 in
set_option maxHeartbeats 2000000 in
theorem lawTwiceProduct_gen (a b x y p q r s : Int) (o : Option Int)
    (hS : ∀ (w : World), Calls Try.prog 13 #[.agg #[.int .i64 a, .int .i64 b, .int .i64 x, .int .i64 y], .agg #[.int .i64 p, .int .i64 q, .int .i64 r, .int .i64 s]] w fun e w' => NumAns w o e w')
    (hI : ∀ (w : World), Calls Try.prog 14 #[.agg #[.int .i64 a, .int .i64 b, .int .i64 x, .int .i64 y], .agg #[.int .i64 p, .int .i64 q, .int .i64 r, .int .i64 s]] w fun e w' => NumAns w o e w')
    (w : World) :
    Calls Try.prog 4 #[.agg #[.int .i64 a, .int .i64 b, .int .i64 x, .int .i64 y], .agg #[.int .i64 p, .int .i64 q, .int .i64 r, .int .i64 s]] w fun e w' => e = .returned (.bool true) ∧ Later w w' := by
  have HS := hid hS
  have HI := hid hI
  clear hS hI
  unfold NumAns at HS HI
  obtain ⟨v, hv⟩ : ∃ v, o.getD 0 = v := ⟨_, rfl⟩
  rw [hv] at HS HI
  clear hv
  obtain ⟨ob, hob⟩ : ∃ ob, o.isSome = ob := ⟨_, rfl⟩
  rw [hob] at HS HI
  clear hob
  have hne : (ob != ob) = false := by simp
  have hnv : (v != v) = false := by simp
  have HTA := hid (fun w0 => toCircle_any a b x y w0)
  have HTP := hid (fun w0 => toCircle_any p q r s w0)
  unfold CiRes at HTA HTP
  simp only at HTA HTP
  have HL := hid ((Later.alloc w (.cells #[.int .i64 a, .int .i64 b, .int .i64 x, .int .i64 y] 23)).trans (Later.alloc _ (.cells #[.int .i64 p, .int .i64 q, .int .i64 r, .int .i64 s] 23)))
  have HC := hid ((CBox.new w a b x y 23).later (Later.alloc _ (.cells #[.int .i64 p, .int .i64 q, .int .i64 r, .int .i64 s] 23)))
  have HP : Hid (CBox ((w.alloc (.cells #[.int .i64 a, .int .i64 b, .int .i64 x, .int .i64 y] 23)).alloc (.cells #[.int .i64 p, .int .i64 q, .int .i64 r, .int .i64 s] 23)) (w.heap.size + 1) p q r s) := hid (by have := CBox.new (w.alloc (.cells #[.int .i64 a, .int .i64 b, .int .i64 x, .int .i64 y] 23)) p q r s 23; simpa using this)
  go_enter Try.func4, Try.ntmps4
  go_wp2_with fail
  generalize (w.alloc (.cells #[.int .i64 a, .int .i64 b, .int .i64 x, .int .i64 y] 23)).alloc (.cells #[.int .i64 p, .int .i64 q, .int .i64 r, .int .i64 s] 23) = w1 at HL HC HP ⊢
  obtain ⟨c0, c1, c2, c3⟩ := HC.out
  obtain ⟨p0, p1, p2, p3⟩ := HP.out
  have kc0 : ∀ u : LaterH w1, u.now.cell? ⟨w.heap.size, 0, none⟩ = some (.int .i64 a) := fun u => u.later.cell c0
  have kc1 : ∀ u : LaterH w1, u.now.cell? ⟨w.heap.size, 1, none⟩ = some (.int .i64 b) := fun u => u.later.cell c1
  have kc2 : ∀ u : LaterH w1, u.now.cell? ⟨w.heap.size, 2, none⟩ = some (.int .i64 x) := fun u => u.later.cell c2
  have kc3 : ∀ u : LaterH w1, u.now.cell? ⟨w.heap.size, 3, none⟩ = some (.int .i64 y) := fun u => u.later.cell c3
  have kp0 : ∀ u : LaterH w1, u.now.cell? ⟨w.heap.size + 1, 0, none⟩ = some (.int .i64 p) := fun u => u.later.cell p0
  have kp1 : ∀ u : LaterH w1, u.now.cell? ⟨w.heap.size + 1, 1, none⟩ = some (.int .i64 q) := fun u => u.later.cell p1
  have kp2 : ∀ u : LaterH w1, u.now.cell? ⟨w.heap.size + 1, 2, none⟩ = some (.int .i64 r) := fun u => u.later.cell p2
  have kp3 : ∀ u : LaterH w1, u.now.cell? ⟨w.heap.size + 1, 3, none⟩ = some (.int .i64 s) := fun u => u.later.cell p3
  clear c0 c1 c2 c3 p0 p1 p2 p3
  refine wp_region_quiet_laterH (by kernel_rfl) (by kernel_rfl) ?_
  repeat
    with_reducible refine wpQuiet_step (fun K hK => ?_)
    go_simp
    first
      | (with_reducible refine hK _ ?_; clear hK K)
      | (apply Exists.intro
         refine ⟨fun _ => ?_, hK _ ?_⟩
         (first | (go_at_call 11; first | with_reducible exact Calls.laterH _ (HTA.out _) | with_reducible exact Calls.laterH _ (HTP.out _)) | with_reducible exact Calls.laterH _ (HS.out _))
         clear hK K)
  with_reducible refine wpQuiet_nil ?_
  intro w2 hw'
  obtain ⟨⟨wq, hLq⟩, hw''⟩ := hw'
  subst hw''
  obtain ⟨c0, c1, c2, c3⟩ := HC.out.later hLq
  obtain ⟨p0, p1, p2, p3⟩ := HP.out.later hLq
  have HL2 := hid (HL.out.trans hLq)
  have HC2 := hid (HC.out.later hLq)
  have HP2 := hid (HP.out.later hLq)
  clear hLq kc0 kc1 kc2 kc3 kp0 kp1 kp2 kp3
  go_wp2_with fail
  have kc0 : ∀ u : LaterH w2, u.now.cell? ⟨w.heap.size, 0, none⟩ = some (.int .i64 a) := fun u => u.later.cell c0
  have kc1 : ∀ u : LaterH w2, u.now.cell? ⟨w.heap.size, 1, none⟩ = some (.int .i64 b) := fun u => u.later.cell c1
  have kc2 : ∀ u : LaterH w2, u.now.cell? ⟨w.heap.size, 2, none⟩ = some (.int .i64 x) := fun u => u.later.cell c2
  have kc3 : ∀ u : LaterH w2, u.now.cell? ⟨w.heap.size, 3, none⟩ = some (.int .i64 y) := fun u => u.later.cell c3
  have kp0 : ∀ u : LaterH w2, u.now.cell? ⟨w.heap.size + 1, 0, none⟩ = some (.int .i64 p) := fun u => u.later.cell p0
  have kp1 : ∀ u : LaterH w2, u.now.cell? ⟨w.heap.size + 1, 1, none⟩ = some (.int .i64 q) := fun u => u.later.cell p1
  have kp2 : ∀ u : LaterH w2, u.now.cell? ⟨w.heap.size + 1, 2, none⟩ = some (.int .i64 r) := fun u => u.later.cell p2
  have kp3 : ∀ u : LaterH w2, u.now.cell? ⟨w.heap.size + 1, 3, none⟩ = some (.int .i64 s) := fun u => u.later.cell p3
  clear c0 c1 c2 c3 p0 p1 p2 p3
  refine wp_region_quiet_laterH (by kernel_rfl) (by kernel_rfl) ?_
  repeat
    with_reducible refine wpQuiet_step (fun K hK => ?_)
    go_simp
    first
      | (with_reducible refine hK _ ?_; clear hK K)
      | (apply Exists.intro
         refine ⟨fun _ => ?_, hK _ ?_⟩
         (first | (go_at_call 11; first | with_reducible exact Calls.laterH _ (HTA.out _) | with_reducible exact Calls.laterH _ (HTP.out _)) | with_reducible exact Calls.laterH _ (HI.out _))
         clear hK K)
  with_reducible refine wpQuiet_nil ?_
  intro w3 hw'
  obtain ⟨⟨wq, hLq⟩, hw''⟩ := hw'
  subst hw''
  obtain ⟨c0, c1, c2, c3⟩ := HC2.out.later hLq
  obtain ⟨p0, p1, p2, p3⟩ := HP2.out.later hLq
  have HL3 := hid (HL2.out.trans hLq)
  clear hLq kc0 kc1 kc2 kc3 kp0 kp1 kp2 kp3
  go_wp2_with fail
  go_ret
  exact ⟨rfl, HL3.out⟩
end Go.Proofs.Ytljikcajfmnnmaa
