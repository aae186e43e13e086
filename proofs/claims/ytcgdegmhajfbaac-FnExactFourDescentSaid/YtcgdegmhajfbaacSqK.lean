/- The divisors of a number in pairs (the program), and sums over divisors. -/
import Derived.Test.YtcgdegmhajfbaacSqG
import Derived.Test.YtcgdegmhajfbaacIntC
import Derived.Deep.AppendLies
namespace Go.Proofs.Ytcgdegmhajfbaac
open Go.RowKit

/-- One step: a number put behind numbers that the call owns. -/
theorem wpList_push1 {ops : Array Oper} {rest : List Oper} {o : Oper} {a : Act} {Q : Exit → Act → World → Prop} (hgd : o.guard = none) (s x : Operand)
    (ho : o.op = .call { callee := .builtin .append, args := #[s, x], argTypes := #[28, 28] }) (lo : Nat) (w W : World) (v : Value) (L : List Int) (p : Int)
    (hs : a.eval s = v) (hlo : lo ≤ w.heap.size) (hO : OwnInts lo w.heap.size w v L) (hlen : L.length ≤ 1000000) (hx : a.eval x = .slice (some ⟨w.heap.size, 0, none⟩) 1 1)
    (hW : W = w.alloc (.cells #[.int .i64 p] 3))
    (h : ∀ g cap w', OwnInts lo w'.heap.size w' (.slice (some ⟨g, 0, none⟩) (L.length + 1) cap) (L ++ [p]) → w.grownBy w' v.ownBlock → lo ≤ g → wpList Try.prog ops Q rest (a.put o.dst (.slice (some ⟨g, 0, none⟩) (L.length + 1) cap)) w') :
    wpList Try.prog ops Q (o :: rest) a W := by
  obtain ⟨i0, hi, hz0, hz1, hz2⟩ := info_parts Try.infoInt
  have hA := Later.alloc w (.cells #[.int .i64 p] 3)
  have hown4 := hO.1.alloc (.cells #[.int .i64 p] 3)
  have hnew := World.news_of_block (cs := #[.int .i64 p]) (t := 3) (fr := (0, 0)) (heap_alloc_new w (.cells #[.int .i64 p] 3))
  subst hW
  refine wpList_append_lies _ hgd s x _ ho lo 3 i0 (.int .i64 0) 1 8 Try.underlying28 hi hz0 hz1 hz2 rfl (by omega) v L.length (L.map (Value.int .i64)) hs hown4 ⟨w.heap.size, 0, none⟩ 1 1 [.int .i64 p] hx rfl hnew (by simp [Value.oneCell']) (by omega) (by unfold maxLen; omega) (by omega) (by simp; omega) (w.heap.size + 1) (by simp) ?_
  intro g' cap1 w7 hown7 hgrow hat hglt
  have hlg : lo ≤ g' := by
    rcases hat with e | e
    · exact (hown4.lt g' e).1
    · omega
  refine h g' cap1 w7 (OwnInts.ofH hown7 (by simp)) ?_ hlg
  exact ⟨hgrow.os.trans hA.os, hgrow.tape.trans hA.tape, hgrow.output.trans hA.output, Nat.le_trans hA.size hgrow.size, fun k hk hne => (hgrow.block k (Nat.lt_of_lt_of_le hk hA.size) hne).trans (hA.block k hk)⟩
theorem ownInts_nil9 (lo hi : Nat) (w : World) : OwnInts lo hi w (.slice none 0 0) [] := ⟨World.ownsRow_nil _ _ _ _, fun b hb => by simp [Value.ownBlock] at hb⟩
theorem divL_len (n : Nat) : ∀ k, (Sq.divL n k).length ≤ 2 * k := by
  intro k
  induction k with
  | zero => simp [Sq.divL]
  | succ k ih =>
    unfold Sq.divL
    rw [List.length_append]
    split
    · split <;> simp <;> omega
    · simp; omega
theorem divL_no {n k : Nat} (h : ¬ n % (k + 1) = 0) : Sq.divL n (k + 1) = Sq.divL n k := by
  conv => lhs; unfold Sq.divL
  rw [if_neg h, List.append_nil]
theorem divL_one {n k : Nat} (h : n % (k + 1) = 0) (h2 : ¬ (k + 1) * (k + 1) < n) : Sq.divL n (k + 1) = Sq.divL n k ++ [k + 1] := by
  conv => lhs; unfold Sq.divL
  rw [if_pos h, if_neg h2]
theorem divL_two {n k : Nat} (h : n % (k + 1) = 0) (h2 : (k + 1) * (k + 1) < n) : Sq.divL n (k + 1) = Sq.divL n k ++ [k + 1] ++ [n / (k + 1)] := by
  conv => lhs; unfold Sq.divL
  rw [if_pos h, if_pos h2]; simp
theorem ofNats_snoc (l : List Nat) (x : Nat) : ofNats (l ++ [x]) = ofNats l ++ [(x : Int)] := by simp [ofNats]
theorem rootN_le {n : Nat} (h : n ≤ 1000000) : rootN n ≤ 1000 := sq_in (rootN_spec n).1 h
end Go.Proofs.Ytcgdegmhajfbaac
