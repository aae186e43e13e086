/- What the model draws for whole quotients: numbers, whichever they are. -/
import Derived.Test.YtdahhcigphhfdaaCuAB
import Derived.Test.YtdahhcigphhfdaaJuM
namespace Go.Proofs.Ytdahhcigphhfdaa
open Go.RowKit

/-- two numbers, whichever they are -/
def TwoNums (base : World) (e : Ending) (w' : World) : Prop := ∃ a b : Int, e = .returned (.tuple #[.int .i64 a, .int .i64 b]) ∧ Later base w'
theorem Cur.new (w : World) (v : Value) (bs : List Int) (h : BytesR w v bs) (ty : TypeId) : Cur w (w.alloc (.cells #[v, .int .i64 0, .int .u64 0] ty)) w.heap.size v bs 0 :=
  ⟨Later.alloc w _, Nat.le_refl _, h, by simp [go_sem], ⟨0, 0, by simp [go_sem], Nat.le_refl _, by simp [go_sem], by omega, by omega⟩, by simp [go_sem], by simp [go_sem]⟩
theorem Cur.lt {base w : World} {B : Nat} {v : Value} {bs : List Int} {m : Nat} (h : Cur base w B v bs m) : B < w.heap.size := World.block_lt_of_cell? w ⟨B, 0, none⟩ h.code
theorem Cur.alloc {base w : World} {B : Nat} {v : Value} {bs : List Int} {m : Nat} (h : Cur base w B v bs m) (o : Obj) : Cur base (w.alloc o) B v bs m := h.keep (Later.alloc w o)
theorem lit_cells (w : World) (zs : List Int) : ∀ i, i < zs.length → (w.alloc (.cells (zs.map (Value.int .i64)).toArray 3)).cell? ⟨w.heap.size, i, none⟩ = some (.int .i64 (zs.getD i 0)) := by
  intro i hi
  simp [go_sem, hi]
end Go.Proofs.Ytdahhcigphhfdaa
