/- What the model draws for the laws on ways; vSolves at any list. -/
import Derived.Test.YtdahhcigphhfdadCuHv
import Derived.Test.YtdahhcigphhfdadHuLb
namespace Go.Proofs.Ytdahhcigphhfdad
open Go.RowKit

set_option maxRecDepth 20000 in
set_option maxHeartbeats 4000000 in
theorem drawIsHurwitz_any (v : Value) (bs : List Int) (w : World) (h : BytesR w v bs) :
    Calls Try.prog 40 #[v] w fun e w' => ListTwoG w e w' := by
  have HC := hid (fun ty => Cur.newG w v bs h ty)
  obtain ⟨a, cap, rfl, _⟩ := id h
  clear h
  go_enter Try.func40, Try.ntmps40
  go_wp2_with fail
  refine (curHurwitz_any w _ w.heap.size _ bs 0 (by omega) (HC.out _)).mono ?_
  rintro e w1 ⟨u, zs, α, β, rfl, ho, hl, hC⟩
  have HO := hid (ho.wide (show w.heap.size ≤ w.heap.size + 1 by omega) (Nat.le_refl _))
  have HL := hid hC.later
  clear ho hC
  go_wp2_with fail
  go_ret3
  exact ⟨u, zs, α, β, rfl, HO.out, hl, HL.out⟩
theorem drawWayDown_any (v : Value) (bs : List Int) (w : World) (h : BytesR w v bs) :
    Calls Try.prog 16 #[v] w fun e w' => ListTwoG w e w' := by
  have HC := hid (drawIsHurwitz_any v bs w h)
  clear h
  go_enter Try.func16, Try.ntmps16
  go_wp2_with fail
  refine HC.out.mono ?_
  rintro e w1 ⟨u, zs, α, β, rfl, ho, hl, hL⟩
  have HO := hid ho
  have HL := hid hL
  clear ho hL
  go_wp2_with fail
  go_ret3
  exact ⟨u, zs, α, β, rfl, HO.out, hl, HL.out⟩
theorem vSolves_as (v : Value) (zs : List Int) (a b : Int) (t : Bool) (w : World) (hs : (givenB a b && solB zs a b) = t) (h : Ints w v zs) :
    Calls Try.prog 14 #[v, .int .i64 a, .int .i64 b] w fun e w' => e = .returned (.bool t) ∧ Later w w' := by
  obtain ⟨b1, hb1⟩ : ∃ t, (isHuAns zs a b).getD false = t := ⟨_, rfl⟩
  obtain ⟨b2, hb2⟩ : ∃ t, (isHuAns zs a b).isSome = t := ⟨_, rfl⟩
  have HT := hid (show (b1 && b2) = t by rw [← hb1, ← hb2, isHu_and]; exact hs)
  have HI := hid (bool_as9 (implIsHurwitz_any v zs a b w h) hb1 hb2)
  clear h hs hb1 hb2
  cases b1 <;> cases b2
  all_goals
    go_enter Try.func14, Try.ntmps14
    go_wp2_with fail
    refine HI.out.mono ?_
    rintro e w1 ⟨rfl, hL⟩
    have HL := hid hL
    clear hL
    go_wp2_with fail
    go_ret
    exact ⟨by rw [← HT.out]; rfl, HL.out⟩
end Go.Proofs.Ytdahhcigphhfdad
