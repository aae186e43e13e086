/- Steps of guarded operations; numbers put behind numbers. -/
import Derived.Test.YtdahhcigphhfdacBasB
import Derived.Test.YtdahhcigphhfdacRowsKI
import Derived.Deep.AppendLies
import Derived.Laws.AppendOwnNone
namespace Go.Proofs.Ytdahhcigphhfdac
open Go.RowKit

theorem wpList_unguardG {P : Program} {ops : Array Oper} {rest : List Oper} {o : Oper} {a : Act} {w : World} {Q : Exit → Act → World → Prop} (hw : Region.wanted o (yielded ops a.tmps) = true) (h : wpList P ops Q ({ o with guard := none } :: rest) a w) : wpList P ops Q (o :: rest) a w := by
  unfold wpList at h ⊢
  rw [if_pos hw]
  rw [if_pos (by rfl)] at h
  exact h
theorem Ints.newsNG {w : World} {g n c : Nat} {zs : List Int} (h : Ints w (.slice (some ⟨g, 0, none⟩) n c) zs) : ∀ j u, (zs.map (Value.int .i64))[j]? = some u → w.cell? ((⟨g, 0, none⟩ : Addr).add j) = some u := by
  intro j u hj
  obtain ⟨a, cap, hv, _, hc⟩ := h
  simp only [Value.slice.injEq] at hv
  obtain ⟨rfl, _, rfl⟩ := hv
  have hlt : j < zs.length := by
    rcases Nat.lt_or_ge j zs.length with h | h
    · exact h
    · rw [List.getElem?_eq_none (by simpa using h)] at hj; cases hj
  obtain ⟨ad', e, hx⟩ := hc j hlt
  simp only [Option.some.injEq] at e
  subst e
  rw [hx]
  simp [hlt] at hj ⊢
  exact hj
/-- One step: numbers that are read put behind numbers that the call owns. -/
theorem wpList_catG {ops : Array Oper} {rest : List Oper} {o : Oper} {a : Act} {Q : Exit → Act → World → Prop} (hgd : o.guard = none) (s x : Operand)
    (ho : o.op = .call { callee := .builtin .append, args := #[s, x], argTypes := #[26, 26] }) (lo hi : Nat) (w : World) (v u : Value) (L Z : List Int)
    (hs : a.eval s = v) (hlo : lo ≤ w.heap.size) (hO : OwnInts lo hi w v L) (hlen : L.length + Z.length ≤ 1000000) (hx : a.eval x = u) (hu : OwnInts 0 w.heap.size w u Z)
    (h : ∀ p n c w', OwnInts lo w'.heap.size w' (.slice p n c) (L ++ Z) → w.grownBy w' v.ownBlock → wpList Try.prog ops Q rest (a.put o.dst (.slice p n c)) w') :
    wpList Try.prog ops Q (o :: rest) a w := by
  obtain ⟨i0, hi, hz0, hz1, hz2⟩ := info_parts Try.infoInt
  have hint := hu.ints
  rcases hu.1.2 with ⟨rfl, h0⟩ | ⟨g, cap, cur, rfl, _⟩
  · have hZ : Z = [] := by
      have := hu.1.1; simp at this
      exact List.eq_nil_of_length_eq_zero h0
    subst hZ
    refine wpList_append_own_none hgd s x _ ho lo 3 i0 1 Try.underlying26 hi v _ _ hs hO.1 hx ?_
    obtain ⟨p, c, rfl, _⟩ := ownsRow_shape hO.1
    refine h _ _ _ w ?_ ⟨rfl, rfl, rfl, Nat.le_refl _, fun _ _ _ => rfl⟩
    rw [List.append_nil]
    exact ⟨hO.1, fun b hb => (hO.1.lt b hb).2⟩
  · refine wpList_append_own_at _ hgd s x _ ho lo 3 i0 (.int .i64 0) 1 8 Try.underlying26 hi hz0 hz1 hz2 rfl (by omega) v L.length (L.map (Value.int .i64)) hs hO.1 ⟨g, 0, none⟩ Z.length cap (Z.map (Value.int .i64)) hx (by simp) (hint.newsNG) (fun u hu => by obtain ⟨y, _, rfl⟩ := List.mem_map.1 hu; rfl) (by unfold maxLen; omega) (by omega) hlo ?_
    intro v' w' hown hg _ _
    obtain ⟨p, c, rfl, _⟩ := ownsRow_shape hown
    exact h _ _ _ w' (OwnInts.ofH hown (by simp)) hg
end Go.Proofs.Ytdahhcigphhfdac
