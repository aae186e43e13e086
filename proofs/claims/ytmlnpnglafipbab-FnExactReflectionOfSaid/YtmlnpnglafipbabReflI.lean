/- ReflectionOf, the program's. -/
import Derived.Test.YtmlnpnglafipbabRefl
namespace Go.Proofs.Ytmlnpnglafipbab
open Go.RowKit

def wholeN (n : Nat) (q : Int) (zs ps : List Int) : Nat → Bool
  | 0 => true
  | t + 1 => wholeN n q zs ps t && wholeAt q (zs.getD (t / n) 0) (ps.getD (t % n) 0)
def reflM (n : Nat) (q : Int) (zs ps : List Int) : List (List Int) := mk n fun i j => reflAt q (zs.getD i 0) (ps.getD j 0) i j
def reflAns (F : List (List Int)) (zs : List Int) : Option (List (List Int)) :=
  match prodAns F zs zs with
  | none => none
  | some q => if q = 0 ∨ wholeN F.length q zs (applyW F zs) (F.length * F.length) = false then none else ifGood (reflM F.length q zs (applyW F zs))
theorem wholeN_step (n : Nat) (q : Int) (zs ps : List Int) (i j : Nat) (hj : j < n) : wholeN n q zs ps (i * n + j + 1) = (wholeN n q zs ps (i * n + j) && wholeAt q (zs.getD i 0) (ps.getD j 0)) := by
  show (_ && wholeAt q (zs.getD ((i * n + j) / n) 0) (ps.getD ((i * n + j) % n) 0)) = _
  rw [Nat.mul_comm i n, Nat.mul_add_div (by omega), Nat.div_eq_of_lt hj, Nat.mul_add_mod, Nat.mod_eq_of_lt hj]; rfl

theorem reflGrid_any (n : Nat) (zs ps : List Int) (hz : zs.length = n) (hp : ps.length = n) (bv bq : Nat) (v u : Value) (q : Int) (hq : q ≠ 0) (wp wg : World) (hn : n ≤ 1048576)
    (hbv : wp.cell? ⟨bv, 0, none⟩ = some v) (hbq : wp.cell? ⟨bq, 0, none⟩ = some (.int .i64 q)) (h : Ints wp v zs) (h2 : Ints wp u ps)
    (hsz : wg.heap.size = wp.heap.size + 2) (hL : Later wp wg) (hbp : wg.cell? ⟨wp.heap.size, 0, none⟩ = some u) (hba : Box wg (wp.heap.size + 1) (.bool true)) :
    Calls Try.prog 82 #[.int .i64 n, .func (.func 83) #[] #[.pointer (some ⟨bv, 0, none⟩), .pointer (some ⟨wp.heap.size, 0, none⟩), .pointer (some ⟨wp.heap.size + 1, 0, none⟩), .pointer (some ⟨bq, 0, none⟩)]] wg fun e w' =>
      ∃ r, e = .returned r ∧ OwnRows wg.heap.size w'.heap.size w' r (reflM n q zs ps) ∧ Later wp w' ∧ w'.cell? ⟨wp.heap.size + 1, 0, none⟩ = some (.bool (wholeN n q zs ps (n * n))) := by
  have hbqlt : bq < wp.heap.size := World.block_lt_of_cell? wp ⟨bq, 0, none⟩ hbq
  refine (gridOf_any n 83 _ (fun i j => reflAt q (zs.getD i 0) (ps.getD j 0) i j) (fun t w' => Later wp w' ∧ w'.cell? ⟨wp.heap.size, 0, none⟩ = some u ∧ Box w' (wp.heap.size + 1) (.bool (wholeN n q zs ps t))) wg hn Try.call83 ⟨hL, hbp, hba⟩ ?_ ?_).mono ?_
  · rintro t w1 w2 ⟨a1, a2, a3⟩ hb
    refine ⟨Below.trans a1 (Below.mono hb (by omega)), cell_keep a2 (hb.block _ (by show wp.heap.size < _; omega)), a3.keep (hb.block _ (by omega))⟩
  · rintro i j w1 hi hj ⟨a1, a2, a3⟩ hs
    refine (reflEntry_any n zs ps hz hp bv wp.heap.size (wp.heap.size + 1) bq v u q hq _ i j w1 hi hj (a1.cell hbv) a2 a3.1 a3.2 (a1.cell hbq) (by omega) (h.later a1) (h2.later a1)).mono ?_
    rintro e w2 ⟨rfl, k, l, rfl⟩
    have b1 : Later wp (w1.drewN k) := a1.trans (Later.drewN _ _)
    have b3 : Box (w1.drewN k) (wp.heap.size + 1) (.bool (wholeN n q zs ps (i * n + j))) := a3.later (Later.drewN _ _)
    refine ⟨rfl, ⟨?_, ?_, ?_⟩, ?_⟩
    · exact (show Later wp ((w1.drewN k).setCell ⟨wp.heap.size + 1, 0, none⟩ _) from Below.setCell b1 (by show wp.heap.size ≤ wp.heap.size + 1; omega) _).trans (Later.drewN _ _)
    · exact (Later.drewN _ _).cell ((World.cell?_setCell_other _ _ _ _ (by simp)).trans ((Later.drewN w1 k).cell a2))
    · rw [wholeN_step n q zs ps i j hj]
      exact (b3.set _).later (Later.drewN _ _)
    · refine ⟨by simp [World.setCell], fun b hb1 hb2 => ?_⟩
      show ((w1.drewN k).setCell ⟨wp.heap.size + 1, 0, none⟩ _).heap[b]? = _
      rw [heap_setCell_other _ _ b _ (by show b ≠ wp.heap.size + 1; omega)]; rfl
  · rintro e w' ⟨r, rfl, ho, a1, a2, a3⟩
    exact ⟨r, rfl, ho, a1, a3.1⟩
end Go.Proofs.Ytmlnpnglafipbab
