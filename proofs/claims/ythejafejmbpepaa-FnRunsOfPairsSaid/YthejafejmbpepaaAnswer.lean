/- Contracts of answerOf at its three types, and of TransposeOf. -/
import Derived.Test.YthejafejmbpepaaTrans
namespace Go.Proofs.Ythejafejmbpepaa
open Go.RowKit

/-- A grid and a bool. -/
def GridAns (w : World) (o : Option (List (List Int))) (e : Ending) (w' : World) : Prop :=
  ∃ v, e = .returned (.tuple #[v, .bool o.isSome]) ∧ OwnRows w.heap.size w'.heap.size w' v (o.getD []) ∧ Later w w'
def whenGood {α : Type} (M : Int) (m : List (List Int)) (r : α) : Option α := if goodM M m then some r else none
theorem whenGood_yes {α : Type} {M : Int} {m : List (List Int)} {r : α} (h : goodM M m = true) : whenGood M m r = some r := by unfold whenGood; rw [if_pos h]
theorem whenGood_no {α : Type} {M : Int} {m : List (List Int)} {r : α} (h : goodM M m = false) : whenGood M m r = none := by unfold whenGood; rw [if_neg (by rw [h]; simp)]

theorem off_sq (n : Nat) (R : List (List Int)) (h : Sq n R) (hn : n ≤ 4) : off R R.length ≤ 16 := by
  have h1 := off_bound R 4 R.length (fun i hi => by rw [h.2 i (by rw [← h.1]; exact hi)]; exact hn) (Nat.le_refl _)
  have h2 := h.1
  omega
theorem off_whenGood (M : Int) (m R : List (List Int)) (h : goodM M m = true → ∃ n, n ≤ 4 ∧ Sq n R) : off ((whenGood M m R).getD []) ((whenGood M m R).getD []).length ≤ 1000000000000 := by
  unfold whenGood
  split
  · rename_i hg
    obtain ⟨n, hn, hq⟩ := h hg
    have := off_sq n R hq hn
    show off R R.length ≤ _
    omega
  · simp [off]

set_option maxHeartbeats 400000 in
theorem answerInt_any (v : Value) (m : List (List Int)) (M : Int) (F : Nat) (R : Int) (w : World) (hM : 0 ≤ M ∧ M ≤ 1000000000) (h : Rows2 w v m)
    (eg : ∀ args w, (callFunc F args).run Try.prog w = .ok (.enter F args) w)
    (hF : goodM M m = true → ∀ u w1, Rows2 w1 u m → Calls Try.prog F #[u] w1 fun e w2 => e = .returned (.int .i64 R) ∧ Later w1 w2) :
    Calls Try.prog 59 #[.agg #[v], .int .i64 M, .func (.func F) #[] #[]] w fun e w' => NumAns w (whenGood M m R) e w' := by
  obtain ⟨a, cap, rfl, hl, _⟩ := id h
  have hA := Later.alloc w (.cells #[Value.slice a m.length cap] 31)
  have hb : (w.alloc (.cells #[Value.slice a m.length cap] 31)).cell? ⟨w.heap.size, 0, none⟩ = some (.slice a m.length cap) := by simp [go_sem]
  have HR := hid (h.later hA)
  have HL := hid hA
  have HF := hid hF
  clear h hA hF
  go_enter Try.func59, Try.ntmps59
  go_wp2_with fail
  generalize w.alloc (.cells #[Value.slice a m.length cap] 31) = w1 at hb HR HL ⊢
  refine (isMatrixUpTo_any _ m M _ hM HR.out).mono ?_
  rintro e w2 ⟨rfl, hL⟩
  have hb2 := hL.cell hb
  have HR2 := hid (HR.out.later hL)
  have HL2 := hid (HL.out.trans hL)
  clear hL hb
  cases hg : goodM M m
  · have HG := hid hg; clear hg
    go_wp2_with fail
    go_ret2
    exact ⟨by rw [whenGood_no HG.out]; rfl, HL2.out⟩
  · have HC := hid (HF.out hg (.slice a m.length cap) _ HR2.out)
    have HG := hid hg; clear hg
    go_wp2_with fail
    refine HC.out.mono ?_
    rintro e w3 ⟨rfl, hL⟩
    have HL3 := hid (HL2.out.trans hL)
    clear hL
    go_wp2_with fail
    go_ret2
    exact ⟨by rw [whenGood_yes HG.out]; rfl, HL3.out⟩

def transAns (m : List (List Int)) : Option (List (List Int)) := whenGood 1000000 m (transM m.length m)

end Go.Proofs.Ythejafejmbpepaa
