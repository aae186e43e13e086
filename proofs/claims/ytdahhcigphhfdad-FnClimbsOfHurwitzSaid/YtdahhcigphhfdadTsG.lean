/- A cursor and a list of one's own behind it. -/
import Derived.Test.YtdahhcigphhfdadCuG
import Derived.Test.YtdahhcigphhfdadBasB
namespace Go.Proofs.Ytdahhcigphhfdad
open Go.RowKit

/-- a list that a method of the cursor draws -/
def CurListM (base : World) (B : Nat) (v : Value) (bs : List Int) (m : Nat) (e : Ending) (w' : World) : Prop :=
  ∃ u zs, e = .returned u ∧ OwnInts (B + 1) w'.heap.size w' u zs ∧ zs.length ≤ 1000 ∧ Cur base w' B v bs m
def ListNumM (base : World) (e : Ending) (w' : World) : Prop := ∃ u zs, ∃ k : Int, e = .returned (.tuple #[u, .int .i64 k]) ∧ OwnInts base.heap.size w'.heap.size w' u zs ∧ zs.length ≤ 1000 ∧ Later base w'
theorem rowGrownM {lo B : Nat} {w2 w3 : World} {v : Value} {L : List (List Int)} (h : OwnRows lo w2.heap.size w2 v L) (hB : B < lo) (hG : w2.grownBy w3 (some B)) {i : Nat} (hi : i < L.length) :
    ∃ g cap u, v = .slice (some ⟨g, 0, none⟩) L.length cap ∧ w3.cell? ⟨g, i, none⟩ = some u ∧ OwnInts lo w3.heap.size w3 u (L.getD i []) := by
  obtain ⟨g, cap', u, hv, hcu, hu, _⟩ := h.row hi
  subst hv
  obtain ⟨us, _, h2, h3, _⟩ := h
  have hg := (h2.lt g rfl).1
  have e : ((⟨g, 0, none⟩ : Addr).add i) = ⟨g, i, none⟩ := by cases i <;> simp [Addr.add]
  rw [e] at hcu
  refine ⟨g, cap', u, rfl, cell_keep hcu (hG.block g (h3 g rfl) (fun e => by injection e with e; omega)), ?_⟩
  exact hu.keepG hB hG
/-- a cursor and a list of one's own of some numbers behind it -/
structure TsM (base : World) (B : Nat) (v : Value) (bs : List Int) (m g c : Nat) (zs : List Int) (w : World) : Prop where
  cur : Cur base w B v bs m
  own : OwnInts (B + 1) w.heap.size w (.slice (some ⟨g, 0, none⟩) zs.length c) zs
theorem TsM.later {base w w' : World} {B : Nat} {v : Value} {bs : List Int} {m g c : Nat} {zs : List Int} (h : TsM base B v bs m g c zs w) (k : Later w w') : TsM base B v bs m g c zs w' :=
  ⟨h.cur.keep k, (h.own.later k).wide (Nat.le_refl _) k.size⟩
theorem TsM.cell {base w : World} {B : Nat} {v : Value} {bs : List Int} {m g c : Nat} {zs : List Int} (h : TsM base B v bs m g c zs w) {i : Nat} (hi : i < zs.length) : w.cell? ⟨g, i, none⟩ = some (.int .i64 (zs.getD i 0)) := by
  have := h.own.1.cellAt i (by omega)
  rw [this]
  simp [hi]
theorem TsM.frozen {base w : World} {B : Nat} {v : Value} {bs : List Int} {m g c : Nat} {zs : List Int} (h : TsM base B v bs m g c zs w) (i : Nat) : w.frozen? ⟨g, i, none⟩ = false := h.own.1.frozenAt i
def LitM (B D : Nat) (zs : List Int) (w : World) : Prop := D ≠ B ∧ D < w.heap.size ∧ ∀ i, i < zs.length → w.cell? ⟨D, i, none⟩ = some (.int .i64 (zs.getD i 0))
theorem LitM.grown {B D : Nat} {zs : List Int} {w w' : World} (h : LitM B D zs w) (k : w.grownBy w' (some B)) : LitM B D zs w' :=
  ⟨h.1, Nat.lt_of_lt_of_le h.2.1 k.size, fun i hi => cell_keep (h.2.2 i hi) (k.block D h.2.1 (fun e => h.1 (by injection e)))⟩
theorem LitM.new {B : Nat} {w : World} {zs : List Int} (hB : B < w.heap.size) : LitM B w.heap.size zs (w.alloc (.cells (zs.map (Value.int .i64)).toArray 3)) :=
  ⟨by omega, by simp, lit_cellsG w zs⟩
theorem pickTsM {base w : World} {B : Nat} {v : Value} {bs : List Int} {m g c : Nat} {zs : List Int} (hm : m ≤ 900000000) (n : Nat) (hn : 1 ≤ n ∧ n ≤ 1000) (h : TsM base B v bs m g c zs w) :
    Calls Try.prog 53 #[.pointer (some ⟨B, 0, none⟩), .int .i64 n] w fun e w' => ∃ i : Nat, e = .returned (.int .i64 i) ∧ i < n ∧ TsM base B v bs (m + 2) g c zs w' ∧ w.grownBy w' (some B) := by
  refine (curPick_any base w B v bs m n hm (by omega) h.cur).mono ?_
  rintro e w' ⟨x, rfl, x0, x1, hC, hG⟩
  obtain ⟨i, rfl⟩ : ∃ i : Nat, x = i := ⟨x.toNat, by omega⟩
  exact ⟨i, rfl, by split at x1 <;> omega, ⟨hC, h.own.keepG (Nat.lt_succ_self B) hG⟩, hG⟩
theorem amongTsM {base w : World} {B D : Nat} {v : Value} {bs : List Int} {m g c : Nat} {zs ys : List Int} (hm : m ≤ 900000000) (hy : 0 < ys.length ∧ ys.length ≤ 1000) (h : TsM base B v bs m g c zs w) (hD : LitM B D ys w) :
    Calls Try.prog 55 #[.pointer (some ⟨B, 0, none⟩), .slice (some ⟨D, 0, none⟩) ys.length ys.length] w fun e w' => ∃ x : Int, e = .returned (.int .i64 x) ∧ x ∈ ys ∧ TsM base B v bs (m + 2) g c zs w' ∧ w.grownBy w' (some B) := by
  refine (curAmong_any base w B v bs m D _ ys hm hy.1 hy.2 hD.1 h.cur hD.2.2).mono ?_
  rintro e w' ⟨x, rfl, hx, hC, hG⟩
  exact ⟨x, rfl, hx, ⟨hC, h.own.keepG (Nat.lt_succ_self B) hG⟩, hG⟩
end Go.Proofs.Ytdahhcigphhfdad
