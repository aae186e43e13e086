/- Contracts of answerOf at its three types, and of TransposeOf. -/
import Derived.Test.YtedgccbogjinhaaTrans
namespace Go.Proofs.Ytedgccbogjinhaa
open Go.RowKit

/-- A grid and a bool. -/
def GridAns (w : World) (o : Option (List (List Int))) (e : Ending) (w' : World) : Prop :=
  ∃ v, e = .returned (.tuple #[v, .bool o.isSome]) ∧ OwnRows w.heap.size w'.heap.size w' v (o.getD []) ∧ Later w w'
def whenGood {α : Type} (M : Int) (m : List (List Int)) (r : α) : Option α := if goodM M m then some r else none
theorem whenGood_yes {α : Type} {M : Int} {m : List (List Int)} {r : α} (h : goodM M m = true) : whenGood M m r = some r := by unfold whenGood; rw [if_pos h]
theorem whenGood_no {α : Type} {M : Int} {m : List (List Int)} {r : α} (h : goodM M m = false) : whenGood M m r = none := by unfold whenGood; rw [if_neg (by rw [h]; simp)]

theorem off_sq (n : Nat) (R : List (List Int)) (h : Sq n R) (hn : n ≤ 4) : off R R.length ≤ 16 := by
  have h1 := off_bound R 4 R.length (fun i hi => by rw [h.2 i (by rw [← h.1]; exact hi)]; exact hn) (Nat.le_refl _)
  have h2 := h.1
  omega
theorem off_whenGood (M : Int) (m R : List (List Int)) (h : goodM M m = true → ∃ n, n ≤ 4 ∧ Sq n R) : off ((whenGood M m R).getD []) ((whenGood M m R).getD []).length ≤ 1000000000000 := by
  unfold whenGood
  split
  · rename_i hg
    obtain ⟨n, hn, hq⟩ := h hg
    have := off_sq n R hq hn
    show off R R.length ≤ _
    omega
  · simp [off]

set_option maxHeartbeats 400000 in
theorem answerGrid_any (v : Value) (m : List (List Int)) (M : Int) (F : Nat) (R : List (List Int)) (w : World) (hM : 0 ≤ M ∧ M ≤ 1000000000) (h : Rows2 w v m)
    (eg : ∀ args w, (callFunc F args).run Try.prog w = .ok (.enter F args) w)
    (hF : goodM M m = true → ∀ u w1, Rows2 w1 u m → Calls Try.prog F #[u] w1 fun e w2 => MadeRows w1 R e w2) :
    Calls Try.prog 70 #[.agg #[v], .int .i64 M, .func (.func F) #[] #[]] w fun e w' => GridAns w (whenGood M m R) e w' := by
  obtain ⟨a, cap, rfl, hl, _⟩ := id h
  have hA := Later.alloc w (.cells #[Value.slice a m.length cap] 27)
  have hb : (w.alloc (.cells #[Value.slice a m.length cap] 27)).cell? ⟨w.heap.size, 0, none⟩ = some (.slice a m.length cap) := by simp [go_sem]
  have HR := hid (h.later hA)
  have HL := hid hA
  have HF := hid hF
  clear h hA hF
  go_enter Try.func70, Try.ntmps70
  go_wp2_with fail
  generalize w.alloc (.cells #[Value.slice a m.length cap] 27) = w1 at hb HR HL ⊢
  refine (isMatrixUpTo_any _ m M _ hM HR.out).mono ?_
  rintro e w2 ⟨rfl, hL⟩
  have hb2 := hL.cell hb
  have HR2 := hid (HR.out.later hL)
  have HL2 := hid (HL.out.trans hL)
  clear hL hb
  cases hg : goodM M m
  · have HG := hid hg; clear hg
    go_wp2_with fail
    go_ret2
    exact ⟨_, by rw [whenGood_no HG.out]; rfl, by rw [whenGood_no HG.out]; exact OwnRows.empty _ _ _, HL2.out⟩
  · have HC := hid (HF.out hg (.slice a m.length cap) _ HR2.out)
    have HG := hid hg; clear hg
    go_wp2_with fail
    refine HC.out.mono ?_
    rintro e w3 ⟨v3, rfl, ho, hL⟩
    have HO := hid ho
    have HL3 := hid (HL2.out.trans hL)
    have hs := HL2.out.size
    clear ho hL
    go_wp2_with fail
    go_ret2
    exact ⟨_, by rw [whenGood_yes HG.out]; rfl, by rw [whenGood_yes HG.out]; exact HO.out.wide hs (Nat.le_refl _), HL3.out⟩

set_option maxHeartbeats 400000 in
theorem answerInt_any (v : Value) (m : List (List Int)) (M : Int) (F : Nat) (R : Int) (w : World) (hM : 0 ≤ M ∧ M ≤ 1000000000) (h : Rows2 w v m)
    (eg : ∀ args w, (callFunc F args).run Try.prog w = .ok (.enter F args) w)
    (hF : goodM M m = true → ∀ u w1, Rows2 w1 u m → Calls Try.prog F #[u] w1 fun e w2 => e = .returned (.int .i64 R) ∧ Later w1 w2) :
    Calls Try.prog 74 #[.agg #[v], .int .i64 M, .func (.func F) #[] #[]] w fun e w' => NumAns w (whenGood M m R) e w' := by
  obtain ⟨a, cap, rfl, hl, _⟩ := id h
  have hA := Later.alloc w (.cells #[Value.slice a m.length cap] 27)
  have hb : (w.alloc (.cells #[Value.slice a m.length cap] 27)).cell? ⟨w.heap.size, 0, none⟩ = some (.slice a m.length cap) := by simp [go_sem]
  have HR := hid (h.later hA)
  have HL := hid hA
  have HF := hid hF
  clear h hA hF
  go_enter Try.func74, Try.ntmps74
  go_wp2_with fail
  generalize w.alloc (.cells #[Value.slice a m.length cap] 27) = w1 at hb HR HL ⊢
  refine (isMatrixUpTo_any _ m M _ hM HR.out).mono ?_
  rintro e w2 ⟨rfl, hL⟩
  have hb2 := hL.cell hb
  have HR2 := hid (HR.out.later hL)
  have HL2 := hid (HL.out.trans hL)
  clear hL hb
  cases hg : goodM M m
  · have HG := hid hg; clear hg
    go_wp2_with fail
    go_ret2
    exact ⟨by rw [whenGood_no HG.out]; rfl, HL2.out⟩
  · have HC := hid (HF.out hg (.slice a m.length cap) _ HR2.out)
    have HG := hid hg; clear hg
    go_wp2_with fail
    refine HC.out.mono ?_
    rintro e w3 ⟨rfl, hL⟩
    have HL3 := hid (HL2.out.trans hL)
    clear hL
    go_wp2_with fail
    go_ret2
    exact ⟨by rw [whenGood_yes HG.out]; rfl, HL3.out⟩

set_option maxHeartbeats 400000 in
theorem answerBool_any (v : Value) (m : List (List Int)) (M : Int) (F : Nat) (R : Bool) (w : World) (hM : 0 ≤ M ∧ M ≤ 1000000000) (h : Rows2 w v m)
    (eg : ∀ args w, (callFunc F args).run Try.prog w = .ok (.enter F args) w)
    (hF : goodM M m = true → ∀ u w1, Rows2 w1 u m → Calls Try.prog F #[u] w1 fun e w2 => e = .returned (.bool R) ∧ Later w1 w2) :
    Calls Try.prog 82 #[.agg #[v], .int .i64 M, .func (.func F) #[] #[]] w fun e w' => BoolAns w (whenGood M m R) e w' := by
  obtain ⟨a, cap, rfl, hl, _⟩ := id h
  have hA := Later.alloc w (.cells #[Value.slice a m.length cap] 27)
  have hb : (w.alloc (.cells #[Value.slice a m.length cap] 27)).cell? ⟨w.heap.size, 0, none⟩ = some (.slice a m.length cap) := by simp [go_sem]
  have HR := hid (h.later hA)
  have HL := hid hA
  have HF := hid hF
  clear h hA hF
  go_enter Try.func82, Try.ntmps82
  go_wp2_with fail
  generalize w.alloc (.cells #[Value.slice a m.length cap] 27) = w1 at hb HR HL ⊢
  refine (isMatrixUpTo_any _ m M _ hM HR.out).mono ?_
  rintro e w2 ⟨rfl, hL⟩
  have hb2 := hL.cell hb
  have HR2 := hid (HR.out.later hL)
  have HL2 := hid (HL.out.trans hL)
  clear hL hb
  cases hg : goodM M m
  · have HG := hid hg; clear hg
    go_wp2_with fail
    go_ret2
    exact ⟨by rw [whenGood_no HG.out]; rfl, HL2.out⟩
  · have HC := hid (HF.out hg (.slice a m.length cap) _ HR2.out)
    have HG := hid hg; clear hg
    go_wp2_with fail
    refine HC.out.mono ?_
    rintro e w3 ⟨rfl, hL⟩
    have HL3 := hid (HL2.out.trans hL)
    clear hL
    go_wp2_with fail
    go_ret2
    exact ⟨by rw [whenGood_yes HG.out]; rfl, HL3.out⟩

def transAns (m : List (List Int)) : Option (List (List Int)) := whenGood 1000000 m (transM m.length m)

set_option maxHeartbeats 400000 in
theorem implTransposeOf_any (v : Value) (m : List (List Int)) (w : World) (h : Rows2 w v m) :
    Calls Try.prog 33 #[.agg #[v]] w fun e w' => MatAns w (transAns m) e w' := by
  obtain ⟨a, cap, rfl, hl, _⟩ := id h
  have hA := (Later.alloc w (.cells #[Value.slice a m.length cap] 27)).trans (Later.alloc _ (.cells #[Value.slice none 0 0] 27))
  have hb1 : Box ((w.alloc (.cells #[Value.slice a m.length cap] 27)).alloc (.cells #[Value.slice none 0 0] 27)) (w.heap.size + 1) (.slice none 0 0) := ⟨by simp [go_sem], by simp [go_sem]⟩
  have hs : w.heap.size + 2 ≤ ((w.alloc (.cells #[Value.slice a m.length cap] 27)).alloc (.cells #[Value.slice none 0 0] 27)).heap.size := by simp
  have HR := hid (h.later hA)
  have HL := hid hA
  clear h hA
  go_enter Try.func33, Try.ntmps33
  go_wp2_with fail
  generalize (w.alloc (.cells #[Value.slice a m.length cap] 27)).alloc (.cells #[Value.slice none 0 0] 27) = w1 at hb1 hs HR HL ⊢
  refine (answerGrid_any _ m 1000000 71 (transM m.length m) _ ⟨by omega, by omega⟩ HR.out Try.call71 (fun hg u w2 hu => transposed_any m.length m (goodM_sq hg).2.2 u w2 (by have := (goodM_sq hg).2.1; omega) hu)).mono ?_
  rintro e w2 ⟨v2, rfl, ho, hL⟩
  obtain ⟨hc, hf⟩ := hb1.later hL
  obtain ⟨a2, cap2, rfl, _⟩ := ho.shape
  have HO := hid ho
  have HL2 := hid (HL.out.trans hL)
  clear ho hL hb1
  go_wp2_with fail
  refine bodyPost_ret (v := .tuple #[.agg #[.slice a2 ((whenGood 1000000 m (transM m.length m)).getD []).length cap2], .bool (whenGood 1000000 m (transM m.length m)).isSome]) (by simp [results, Try.results33, go_sem, hc]) rfl ⟨_, rfl, ?_, ?_⟩
  · exact (HO.out.setCell (a := ⟨w.heap.size + 1, 0, none⟩) (by simp; omega) _).wide (by omega) (by simp [World.setCell])
  · exact HL2.out.setCell (by simp) _

set_option maxHeartbeats 400000 in
theorem specTransposeOf_any (v : Value) (m : List (List Int)) (w : World) (h : Rows2 w v m) :
    Calls Try.prog 32 #[.agg #[v]] w fun e w' => MatAns w (transAns m) e w' := by
  obtain ⟨a, cap, rfl, hl, _⟩ := id h
  have hA := (Later.alloc w (.cells #[Value.slice a m.length cap] 27)).trans (Later.alloc _ (.cells #[Value.slice none 0 0] 27))
  have hb0 : Box ((w.alloc (.cells #[Value.slice a m.length cap] 27)).alloc (.cells #[Value.slice none 0 0] 27)) w.heap.size (.slice a m.length cap) := ⟨by simp [go_sem], by simp [go_sem]⟩
  have hb1 : Box ((w.alloc (.cells #[Value.slice a m.length cap] 27)).alloc (.cells #[Value.slice none 0 0] 27)) (w.heap.size + 1) (.slice none 0 0) := ⟨by simp [go_sem], by simp [go_sem]⟩
  have hs : w.heap.size + 2 ≤ ((w.alloc (.cells #[Value.slice a m.length cap] 27)).alloc (.cells #[Value.slice none 0 0] 27)).heap.size := by simp
  have HR := hid (h.later hA)
  have HL := hid hA
  clear h hA
  go_enter Try.func32, Try.ntmps32
  go_wp2_with fail
  generalize (w.alloc (.cells #[Value.slice a m.length cap] 27)).alloc (.cells #[Value.slice none 0 0] 27) = w1 at hb0 hb1 hs HR HL ⊢
  refine (foGood_any _ m _ HR.out).mono ?_
  rintro e w2 ⟨rfl, hL⟩
  have hb01 := hb0.later hL
  have hb11 := hb1.later hL
  have HR2 := hid (HR.out.later hL)
  have HL2 := hid (HL.out.trans hL)
  have hs2 : w.heap.size + 2 ≤ w2.heap.size := by have := hL.size; omega
  clear hL hb0 hb1
  cases hg : goodM 1000000 m
  · have HG := hid (whenGood_no (r := transM m.length m) hg); clear hg
    obtain ⟨hc, hf⟩ := hb11
    clear hb01
    go_wp2_with fail
    refine bodyPost_ret (v := .tuple #[.agg #[.slice none 0 0], .bool false]) (by simp [results, Try.results32, go_sem, hc]) rfl ⟨_, by unfold transAns; rw [HG.out]; rfl, by unfold transAns; rw [HG.out]; exact OwnRows.empty _ _ _, ?_⟩
    exact HL2.out.setCell (by simp) _
  · have hsq := goodM_sq hg
    have HG := hid (whenGood_yes (r := transM m.length m) hg); clear hg
    have hc0 := hb01.1
    have HC := hid (foTranspose_any m.length m hsq.2.2 (.slice a m.length cap) _ (by omega) HR2.out)
    have HB := hid hb11
    clear hsq hb01 hb11
    go_wp2_with fail
    refine HC.out.mono ?_
    rintro e w3 ⟨v3, rfl, ho, hL⟩
    obtain ⟨hc, hf⟩ := HB.out.later hL
    obtain ⟨a3, cap3, rfl, _⟩ := ho.shape
    have HO := hid ho
    have HL3 := hid (HL2.out.trans hL)
    clear ho hL
    go_wp2_with fail
    refine bodyPost_ret (v := .tuple #[.agg #[.slice a3 (transM m.length m).length cap3], .bool true]) (by simp [results, Try.results32, go_sem, hc]) rfl ⟨_, by unfold transAns; rw [HG.out]; rfl, ?_, ?_⟩
    · unfold transAns; rw [HG.out]
      exact (HO.out.setCell (a := ⟨w.heap.size + 1, 0, none⟩) (by simp; omega) _).wide (by omega) (by simp [World.setCell])
    · exact HL3.out.setCell (by simp) _
end Go.Proofs.Ytedgccbogjinhaa
