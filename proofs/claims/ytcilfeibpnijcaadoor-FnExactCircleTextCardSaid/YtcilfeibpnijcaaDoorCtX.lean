/- The text of a circle, in the model and in the program. -/
import Derived.Test.YtcilfeibpnijcaaDoorCtN
import Derived.Test.YtcilfeibpnijcaaDoorCiP
import Derived.Test.YtcilfeibpnijcaaDoorCiL
import Derived.Test.YtcilfeibpnijcaaDoorAns3
import Derived.Test.YtcilfeibpnijcaaDoorLayItoa
import Derived.Test.YtcilfeibpnijcaaDoorLayJoin
import Derived.Deep.AppendLies
import Derived.Lib.SmallJoins
namespace Go.Proofs.YtcilfeibpnijcaaDoor
open Go.RowKit

def ctT (t : Ci4) : List UInt8 := Lib.join ([Lib.itoa t.1, Lib.itoa t.2.1, Lib.itoa t.2.2.1, Lib.itoa t.2.2.2]) [32]
def ctAns (t : Ci4) : Option (List UInt8) := if ciB t then some (ctT t) else none
theorem ctT_bytes (a b x y : List UInt8) :
    ((((((⟨a.toArray⟩ : ByteArray) ++ ⟨#[32]⟩) ++ ⟨b.toArray⟩) ++ ⟨#[32]⟩ ++ ⟨x.toArray⟩) ++ ⟨#[32]⟩) ++ ⟨y.toArray⟩) = ⟨(Lib.join [a, b, x, y] [32]).toArray⟩ := by
  apply ByteArray.ext
  simp [Lib.join_cons, Lib.joinTail]
set_option maxRecDepth 20000 in
set_option maxHeartbeats 2000000 in
theorem ciText_any (a b x y : Int) (h : ciIn (a, b, x, y) = true) (w : World) :
    Calls Tryd.prog 8 #[.agg #[.int .i64 a, .int .i64 b, .int .i64 x, .int .i64 y]] w fun e w' => e = .returned (.string ⟨(ctT (a, b, x, y)).toArray⟩) ∧ Later w w' := by
  obtain ⟨ha, hb, hx, hy⟩ := ciIn_bd h
  have HA := hid (ciNumber_any a (by omega))
  have HB := hid (ciNumber_any b (by omega))
  have HX := hid (ciNumber_any x (by omega))
  have HY := hid (ciNumber_any y (by omega))
  have la := itoa_len a (by omega)
  have lb := itoa_len b (by omega)
  have lx := itoa_len x (by omega)
  have ly := itoa_len y (by omega)
  clear ha hb hx hy h
  unfold ctT
  simp only
  generalize Lib.itoa a = A at HA la ⊢
  generalize Lib.itoa b = B at HB lb ⊢
  generalize Lib.itoa x = X at HX lx ⊢
  generalize Lib.itoa y = Y at HY ly ⊢
  rw [← ctT_bytes]
  have s1 : ¬ (9223372036854775807 < A.length + 1) := by omega
  have s2 : ¬ (9223372036854775807 < A.length + 1 + B.length) := by omega
  have s3 : ¬ (9223372036854775807 < A.length + 1 + B.length + 1) := by omega
  have s4 : ¬ (9223372036854775807 < A.length + 1 + B.length + 1 + X.length) := by omega
  have s5 : ¬ (9223372036854775807 < A.length + 1 + B.length + 1 + X.length + 1) := by omega
  have s6 : ¬ (9223372036854775807 < A.length + 1 + B.length + 1 + X.length + 1 + Y.length) := by omega
  clear la lb lx ly
  have HL := hid (Later.alloc w (.cells #[.int .i64 a, .int .i64 b, .int .i64 x, .int .i64 y] 26))
  have HC := hid (CBox.new w a b x y 26)
  go_enter Tryd.func8, Tryd.ntmps8
  go_wp2_with fail
  generalize w.alloc (.cells #[.int .i64 a, .int .i64 b, .int .i64 x, .int .i64 y] 26) = w1 at HL HC ⊢
  have kc0 : ∀ u : LaterH w1, u.now.cell? ⟨w.heap.size, 0, none⟩ = some (.int .i64 a) := fun u => u.later.cell HC.out.1
  have kc1 : ∀ u : LaterH w1, u.now.cell? ⟨w.heap.size, 1, none⟩ = some (.int .i64 b) := fun u => u.later.cell HC.out.2.1
  have kc2 : ∀ u : LaterH w1, u.now.cell? ⟨w.heap.size, 2, none⟩ = some (.int .i64 x) := fun u => u.later.cell HC.out.2.2.1
  have kc3 : ∀ u : LaterH w1, u.now.cell? ⟨w.heap.size, 3, none⟩ = some (.int .i64 y) := fun u => u.later.cell HC.out.2.2.2
  refine wp_region_quiet_laterH (by kernel_rfl) (by kernel_rfl) ?_
  repeat
    with_reducible refine wpQuiet_step (fun K hK => ?_)
    go_simp
    first
      | (with_reducible refine hK _ ?_; clear hK K)
      | (apply Exists.intro
         refine ⟨fun _ => ?_, hK _ ?_⟩
         (go_at_call 13; first | (with_reducible exact Calls.laterH _ (HA.out _)) | (with_reducible exact Calls.laterH _ (HB.out _)) | (with_reducible exact Calls.laterH _ (HX.out _)) | (with_reducible exact Calls.laterH _ (HY.out _)))
         clear hK K)
  with_reducible refine wpQuiet_nil ?_
  intro w2 hw'
  obtain ⟨⟨wq, hLq⟩, hw''⟩ := hw'
  subst hw''
  have HL2 := hid (HL.out.trans hLq)
  clear hLq kc0 kc1 kc2 kc3
  go_wp2_with fail
  go_ret
  exact ⟨rfl, HL2.out⟩
end Go.Proofs.YtcilfeibpnijcaaDoor
