/- Rows of rows as pairs: a row and what it holds. -/
import Derived.Test.YtoaopmafokoaoabRowsKI
import Derived.Deep.RegionHeld3
import Derived.Deep.AppendLies
namespace Go.Proofs.Ytoaopmafokoaoab
open Go.RowKit

abbrev Pr : Type := Value × List Int
def NePr (p q : Pr) : Prop := ∀ k, p.1.ownBlock = some k → q.1.ownBlock ≠ some k
theorem NePr.symm {p q : Pr} (h : NePr p q) : NePr q p := fun k hq hp => h k hp hq
/-- A row of rows of its own, its rows with what they hold. -/
structure OwnPs (lo hi : Nat) (w : World) (v : Value) (ps : List Pr) : Prop where
  own : w.ownsRow lo 24 1 v ps.length (ps.map (·.1))
  blk : ∀ k, v.ownBlock = some k → k < hi
  ints : ∀ p ∈ ps, OwnInts lo hi w p.1 p.2
  ne : ps.Pairwise NePr
theorem OwnPs.rows {lo hi : Nat} {w : World} {v : Value} {ps : List Pr} (h : OwnPs lo hi w v ps) : OwnRows lo hi w v (ps.map (·.2)) := by
  refine ⟨ps.map (·.1), by simp, by simpa using h.own, h.blk, fun i hi => ?_, fun i j hij hj k hk => ?_⟩
  · have hi' : i < ps.length := by simpa using hi
    have := h.ints ps[i] (List.getElem_mem hi')
    simpa [hi'] using this
  · have hj' : j < ps.length := by simpa using hj
    have := List.pairwise_iff_getElem.1 h.ne i j (by omega) hj' hij k
    simp [hj', show i < ps.length by omega] at hk ⊢
    exact this hk
theorem OwnRows.ps {lo hi : Nat} {w : World} {v : Value} {L : List (List Int)} (h : OwnRows lo hi w v L) : ∃ ps, OwnPs lo hi w v ps ∧ ps.map (·.2) = L := by
  obtain ⟨us, hl, ho, hb, hi2, hd⟩ := h.partsH
  refine ⟨us.zip L, ⟨?_, hb, ?_, ?_⟩, ?_⟩
  · rw [List.length_zip, ← hl, Nat.min_self]
    have : (us.zip L).map (·.1) = us := by rw [List.map_fst_zip]; omega
    rw [this]; exact ho
  · intro p hp
    obtain ⟨i, hi3, rfl⟩ := List.getElem_of_mem hp
    have hi4 : i < L.length := by rw [List.length_zip] at hi3; omega
    have := hi2 i hi4
    simpa [hi4, show i < us.length by omega] using this
  · rw [List.pairwise_iff_getElem]
    intro i j hi3 hj3 hij k hk
    have hj4 : j < L.length := by rw [List.length_zip] at hj3; omega
    have := hd i j hij hj4 k
    simp [show i < us.length by omega, show j < us.length by omega] at this
    simpa using this (by simpa using hk)
  · rw [List.map_snd_zip]; omega
theorem OwnPs.later {lo hi : Nat} {w w' : World} {v : Value} {ps : List Pr} (h : OwnPs lo hi w v ps) (k : Later w w') : OwnPs lo hi w' v ps :=
  ⟨ownsRow_keep h.own fun b hb => k.block b (h.own.lt b hb).2, h.blk, fun p hp => (h.ints p hp).later k, h.ne⟩
theorem OwnPs.wide {lo hi lo' hi' : Nat} {w : World} {v : Value} {ps : List Pr} (h : OwnPs lo hi w v ps) (h1 : lo' ≤ lo) (h2 : hi ≤ hi') : OwnPs lo' hi' w v ps :=
  ⟨ownsRow_base h.own h1, fun k hk => Nat.lt_of_lt_of_le (h.blk k hk) h2, fun p hp => (h.ints p hp).wide h1 h2, h.ne⟩
theorem ownPs_head {lo hi : Nat} {w : World} {g n cg : Nat} {ps : List Pr} (h : OwnPs lo hi w (.slice (some ⟨g, 0, none⟩) n cg) ps) : n = ps.length ∧ n ≤ cg ∧ ∀ k, k < ps.length → w.cell? ⟨g, k, none⟩ = some (ps.getD k (undef, [])).1 := by
  rcases h.own.2 with ⟨e, _⟩ | ⟨g', cg', cur, e, hb, hg, hn, hm, hs, ht⟩
  · simp at e
  · simp only [Value.slice.injEq] at e
    obtain ⟨_, rfl, rfl⟩ := e
    refine ⟨rfl, hn, fun k hk => ?_⟩
    rw [h.own.cellAt k (by omega)]
    simp [hk]

/-- append of nothing, at a step of a region that draws. -/
theorem step_append_noneH {P : Program} (w : World) {ops : Array Oper} {o : Oper} {a : Act} {K : Act → World → Prop} {Q : Exit → Act → World → Prop} {E : Prop} (hgd : o.guard = none) (s x : Operand) (t : TypeId)
    (ho : o.op = .call { callee := .builtin .append, args := #[s, x], argTypes := #[t, t] })
    (base : Nat) (e : TypeId) (i : TypeInfo) (size : Nat) (ht : P.underlying t = some (.slice e)) (hi : P.info? e = some i)
    (v : Value) (n : Nat) (xs : List Value) (hs : a.eval s = v) (hown : w.ownsRow base e size v n xs) (hx : a.eval x = .slice none 0 0)
    (h : K (a.put o.dst v) w) :
    if Region.wanted o (yielded ops a.tmps) = true then Oper.wp P o a w K Q else E := by
  have hw : Region.wanted o (yielded ops a.tmps) = true := by simp [Region.wanted, hgd]
  rw [if_pos hw]
  have hr := run_append_owned_none (P := P) (w := w) base t o.type e i size ht hi v n xs hown
  unfold Oper.wp execOp
  simp only [ho, resolve, invoke, builtin, Sem.run_bind, Sem.run_pure, Result.andThen_ok, List.map_toArray, List.map_cons, List.map_nil, hs, hx, hr]
  exact h
end Go.Proofs.Ytoaopmafokoaoab
