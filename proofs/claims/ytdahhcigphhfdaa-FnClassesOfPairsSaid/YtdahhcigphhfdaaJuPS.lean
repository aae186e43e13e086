/- JuP, JuR, JuS: in one text. -/
import Derived.Test.YtdahhcigphhfdaaRowsKI
import Derived.Deep.AppendLies
import Derived.Deep.RegionHeld3
import Derived.Deep.DeepCutAuto
import Derived.Test.YtdahhcigphhfdaaJuO
import Derived.Test.YtdahhcigphhfdaaBasB
namespace Go.Proofs.Ytdahhcigphhfdaa
open Go.RowKit


theorem lit2J (w : World) (a b : Int) : OwnInts w.heap.size (w.alloc (.cells #[.int .i64 a, .int .i64 b] 3)).heap.size (w.alloc (.cells #[.int .i64 a, .int .i64 b] 3)) (.slice (some ⟨w.heap.size, 0, none⟩) 2 2) [a, b] := by
  have h := World.ownsRow_lit (e := 3) (size := 1) w #[.int .i64 a, .int .i64 b] 2 (Nat.le_refl _) (by unfold maxLen; omega) (by simp)
  refine ⟨h, fun k hk => ?_⟩
  simp [Value.ownBlock] at hk ⊢
  omega
theorem grown_behind {w W w' : World} {o : Option Nat} (hL : Later w W) (hg : W.grownBy w' o) : w.grownBy w' o :=
  ⟨hg.os.trans hL.os, hg.tape.trans hL.tape, hg.output.trans hL.output, Nat.le_trans hL.size hg.size, fun k hk hne => (hg.block k (Nat.lt_of_lt_of_le hk hL.size) hne).trans (hL.block k hk)⟩
theorem later_grown {w0 w w' : World} {o : Option Nat} (hL : Later w0 w) (hg : w.grownBy w' o) (ho : ∀ b, o = some b → w0.heap.size ≤ b) : Later w0 w' := hL.grown hg hL.size ho
theorem wpList_push2 {ops : Array Oper} {rest : List Oper} {o : Oper} {a : Act} {Q : Exit → Act → World → Prop} (hgd : o.guard = none) (s x : Operand)
    (ho : o.op = .call { callee := .builtin .append, args := #[s, x], argTypes := #[26, 26] }) (lo : Nat) (w W : World) (v : Value) (L : List (List Int)) (p q : Int)
    (hs : a.eval s = v) (hlo : lo ≤ w.heap.size) (hO : OwnRows lo w.heap.size w v L) (hlen : L.length ≤ 1000000) (hx : a.eval x = .slice (some ⟨w.heap.size + 1, 0, none⟩) 1 1)
    (hW : W = (w.alloc (.cells #[.int .i64 p, .int .i64 q] 3)).alloc (.cells #[.slice (some ⟨w.heap.size, 0, none⟩) 2 2] 32))
    (h : ∀ g cap w', OwnRows lo w'.heap.size w' (.slice (some ⟨g, 0, none⟩) (L.length + 1) cap) (L ++ [[p, q]]) → w.grownBy w' v.ownBlock → lo ≤ g → wpList Try.prog ops Q rest (a.put o.dst (.slice (some ⟨g, 0, none⟩) (L.length + 1) cap)) w') :
    wpList Try.prog ops Q (o :: rest) a W := by
  obtain ⟨i0, hi, hz0, hz1, hz2⟩ := info_parts Try.infoInts
  have hl1 := Later.alloc w (.cells #[.int .i64 p, .int .i64 q] 3)
  have hi1 := lit2J w p q
  have hsz : (w.alloc (.cells #[.int .i64 p, .int .i64 q] 3)).heap.size = w.heap.size + 1 := by simp
  obtain ⟨w4, hw4⟩ : ∃ w4, w.alloc (.cells #[.int .i64 p, .int .i64 q] 3) = w4 := ⟨_, rfl⟩
  rw [hw4] at hl1 hi1 hsz hW
  have hA := Later.alloc w4 (.cells #[.slice (some ⟨w.heap.size, 0, none⟩) 2 2] 32)
  obtain ⟨us, hul, hus, hub, hin, hdis⟩ := (hO.later hl1).partsH
  have hown4 := hus.alloc (.cells #[.slice (some ⟨w.heap.size, 0, none⟩) 2 2] 32)
  have hnew := World.news_of_block (cs := #[.slice (some ⟨w.heap.size, 0, none⟩) 2 2]) (t := 32) (fr := (0, 0)) (heap_alloc_new w4 (.cells #[.slice (some ⟨w.heap.size, 0, none⟩) 2 2] 32))
  rw [hsz] at hnew
  subst hW
  refine wpList_append_lies _ hgd s x _ ho lo 32 i0 (.slice none 0 0) 1 24 Try.underlying26 hi hz0 hz1 hz2 rfl (by omega) v us.length us hs hown4 ⟨w.heap.size + 1, 0, none⟩ 1 1 [.slice (some ⟨w.heap.size, 0, none⟩) 2 2] hx rfl hnew (by simp [Value.oneCell']) (by omega) (by unfold maxLen; omega) (by omega) (by simp; omega) (w.heap.size + 2) (by simp; omega) ?_
  intro g' cap1 w7 hown7 hgrow hat hglt
  have HP := OwnRows.pushed hul hown4 (fun i hi => ((hin i hi).later hA)) hdis (((hi1.wide (Nat.le_refl _) (Nat.le_refl _)).later hA).wide (Nat.le_refl _) (by simp)) (by omega) hown7 hgrow
  have hlg : lo ≤ g' := by
    rcases hat with e | e
    · exact (hown4.lt g' e).1
    · omega
  rw [hul] at HP ⊢
  exact h g' cap1 w7 HP (grown_behind (hl1.trans hA) hgrow) hlg


theorem toldJ_getD {R : List Jp2} (h : R.length ≤ 1000) : (toldJ R).getD [] = R.map jpL := by unfold toldJ; rw [if_pos h]; rfl
theorem toldJ_over {R : List Jp2} (h : 1000 < R.length) : toldJ R = none := if_neg (by omega)
def ascOk (x y k c s : Int) : Bool := juB x y k c && decide (0 ≤ s ∧ s ≤ 40)
theorem ascAns_no {x y k c s : Int} (h : ascOk x y k c s = false) : ascAns x y k c s = none := by
  refine if_neg fun hh => ?_
  unfold ascOk at h
  rw [hh.1, decide_eq_true ⟨hh.2.1, hh.2.2.1⟩] at h
  cases h
theorem ascAns_yes {x y k c s : Int} (hB : juB x y k c = true) (hs : 0 ≤ s ∧ s ≤ 40) :
    ascAns x y k c s = if s < (upRun k (s.toNat + 1) (x, y)).length then some ((upRun k (s.toNat + 1) (x, y)).map jpL) else none := by
  unfold ascAns
  simp only [hB, hs.1, hs.2, true_and]
end Go.Proofs.Ytdahhcigphhfdaa
