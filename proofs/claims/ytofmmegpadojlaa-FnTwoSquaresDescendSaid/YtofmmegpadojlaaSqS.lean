/- An iterator that writes boxes of its own between two rounds: what a round leaves alone is named by a set of blocks. -/
import Derived.Test.YtofmmegpadojlaaSqP
import Derived.RangeFuncNested
import Derived.RangeFuncBound
import Derived.RangeFuncCalls
import Derived.RangeFuncLeaves
import Derived.Shelf.Abstract
import Derived.OwnWalkIn
import Derived.TacticsInMore
import Derived.LoopNIn
import Derived.LoopIn
namespace Go.Proofs.Ytofmmegpadojlaa
open Go.RowKit Go.Shelf

/-- Invariants that bear what an iterator does with blocks of its own. -/
structure Carr (J : (Nat → Prop) → List (List Int) → World → Prop) : Prop where
  new : ∀ P s w cs t, J P s w → J (fun b => P b ∨ b = w.heap.size) s (w.alloc (.cells cs t))
  set : ∀ P s w b k v, J P s w → P b → J P s (w.setCell ⟨b, k, none⟩ v)
  weak : ∀ P P' s w, J P' s w → (∀ b, P b → P' b) → J P s w
def encV (zs : List Int) : Value := .agg (zs.map (Value.int .i64)).toArray
/-- What the rounds of a loop do with the lists L, one after the other. -/
def Yields (l : Nat) (L : List (List Int)) (J : (Nat → Prop) → List (List Int) → World → Prop) (Jx : List (List Int) → World → Prop) : Prop :=
  ∀ m P pre x W, J P pre W → pre ++ [x] <+: L → YieldAt Fence.wide m Try.prog l #[encV x] W fun e W' =>
    (e = .returned (.bool true) ∧ J P (pre ++ [x]) W' ∧ ∀ b, P b → W'.heap[b]? = W.heap[b]?) ∨ (e = .returned (.bool false) ∧ Jx (pre ++ [x]) W')
def Went (J : (Nat → Prop) → List (List Int) → World → Prop) (Jx : List (List Int) → World → Prop) (P : Nat → Prop) (pre Z : List (List Int)) (W : World) (e : Ending) (W' : World) : Prop :=
  (e = .returned (.bool true) ∧ J P (pre ++ Z) W' ∧ ∀ b, P b → W'.heap[b]? = W.heap[b]?) ∨ (e = .returned (.bool false) ∧ ∃ q, q <+: Z ∧ Jx (pre ++ q) W')
/-- A function value that goes through L. -/
def SeqL (g : Nat) (lb : Array Value) (L : List (List Int)) (w : World) : Prop :=
  ∀ (l : Nat) J Jx (W : World), Below w.heap.size w W → Carr J → Yields l L J Jx → J (fun _ => False) [] W →
    Calls Try.prog g (#[.func (.yield l) #[] #[]] ++ lb) W fun e W' => (∃ v, e = .returned v) ∧ (J (fun _ => False) L W' ∨ ∃ q, q <+: L ∧ Jx q W')

/-- How the body of a round may be left. -/
def postL (l D : Nat) (P : Nat → Prop) (I : (Nat → Prop) → List (List Int) → World → Prop) (Ix : Code → List (List Int) → World → Prop) (xs : List (List Int)) (W W2 : World) : Exit → Act → World → Prop
  | .normal, _, W' => W'.heap[l]? = W2.heap[l]? ∧ W'.heap[D]? = W.heap[D]? ∧ I P xs W' ∧ ∀ b, P b → W'.heap[b]? = W.heap[b]?
  | .ret, _, W' => W'.heap[l]? = W2.heap[l]? ∧ W'.heap[D]? = W.heap[D]? ∧ Ix .ret xs W'
  | .exit id, _, W' => W'.heap[l]? = W2.heap[l]? ∧ W'.heap[D]? = W.heap[D]? ∧ Ix (.exit id) xs W'
  | _, _, _ => False
theorem putObj_far {W : World} {l b : Nat} {o : Obj} (h : b ≠ l) : (W.putObj l o).heap[b]? = W.heap[b]? := World.putObj_heap_other h
theorem rangeL {g : Operand} {ps : Array Tmp} {assign body : Code} {Q : Exit → Act → World → Prop} {a : Act} {w : World} {gf : Nat} {lb : Array Value} {L : List (List Int)} {p0 : Tmp} (hps : ps = #[p0])
    (hg : a.eval g = .func (.func gf) #[] lb) (eg : ∀ args w, (callFunc gf args).run Try.prog w = .ok (.enter gf args) w) (hseq : SeqL gf lb L w)
    (I : (Nat → Prop) → List (List Int) → World → Prop) (Ix : Code → List (List Int) → World → Prop) (hI : Carr I)
    (hIp : ∀ P s W k o, I P s W → w.heap.size ≤ k → (∀ c, W.heap[k]? = some c → c.isCells = false) → I P s (W.putObj k o))
    (hXp : ∀ c s W k o, Ix c s W → w.heap.size ≤ k → (∀ c, W.heap[k]? = some c → c.isCells = false) → Ix c s (W.putObj k o))
    (hIn : ∀ s W o, I (fun _ => False) s W → W.heap.size = w.heap.size ∨ W.heap.size = w.heap.size + 1 → I (fun _ => False) s (W.alloc o))
    (h0 : I (fun _ => False) [] w) (n : Nat)
    (hround : ∀ (m l D : Nat) (P : Nat → Prop) (pre : List (List Int)) (x : List Int) (W : World), D = w.heap.size → l = w.heap.size + 1 → l < W.heap.size → (∀ c, W.heap[l]? = some c → c.isCells = false) → (∀ c, W.heap[D]? = some c → c.isCells = false) → ¬ P l → ¬ P D → I P pre W → pre ++ [x] <+: L →
      assign.wpIn (Fence.wide.inRound l) m Try.prog (Exit.then (fun a1 W1 => W1.heap[l]? = W.heap[l]? ∧
          ∀ o W2, W2 = W1.putObj l o → o.isCells = false → body.wpIn (Fence.wide.inRound l) m Try.prog (postL l D P I Ix (pre ++ [x]) W W2) a1 W2) (fun _ _ _ => False))
        { tmps := a.tmps.setIfInBounds p0 (encV x), defers := [] } W)
    (hdone : ∀ (W : World), I (fun _ => False) L W → W.heap[w.heap.size]? = some (.deferred (some [])) → w.heap.size < W.heap.size → Q .normal { a with defers := { target := .collected w.heap.size, args := #[] } :: a.defers } W)
    (hstop : ∀ (c : Code) (q : List (List Int)) (W : World), q <+: L → Ix c q W → W.heap[w.heap.size]? = some (.deferred (some [])) → w.heap.size < W.heap.size → c.wpIn Fence.wide n Try.prog Q { a with defers := { target := .collected w.heap.size, args := #[] } :: a.defers } W) :
    (Code.rangeFunc g ps assign body).wpIn Fence.wide n Try.prog Q a w := by
  subst hps
  refine wpIn_rangeFunc ?_
  intro fn _
  obtain ⟨rec, hrec⟩ : ∃ rec : LoopState → Option Code → Loop, rec = fun st pe => { state := st, pending := pe, fn, tmps := a.tmps, params := #[p0], assign, body, defers := w.heap.size } := ⟨_, rfl⟩
  obtain ⟨W1, hW1⟩ : ∃ W1, (w.alloc (.deferred (some []))).alloc (.loop (rec .ready none)) = W1 := ⟨_, rfl⟩
  obtain ⟨D, hD⟩ : ∃ D, D = w.heap.size := ⟨_, rfl⟩
  obtain ⟨l, hl⟩ : ∃ l, l = w.heap.size + 1 := ⟨_, rfl⟩
  have hlD : D ≠ l := by omega
  have hL1 : W1.heap[l]? = some (.loop (rec .ready none)) := by
    rw [← hW1, hl]; have := World.alloc_heap_new (w.alloc (.deferred (some []))) (.loop (rec .ready none)); rwa [World.size_alloc] at this
  have hK1 : W1.heap[D]? = some (.deferred (some [])) := by
    rw [← hW1, hD]; exact (Below.heap_alloc _ _ _ (by simp)).trans (World.alloc_heap_new w _)
  have hI1 : I (fun _ => False) [] W1 := by rw [← hW1]; exact hIn _ _ _ (hIn _ _ _ h0 (.inl rfl)) (.inr (by simp))
  have hb1 : Below w.heap.size w W1 := by
    rw [← hW1]; exact ((Below.refl _ w).alloc (Nat.le_refl _) _).alloc (by simp) _
  have ltOf : ∀ {W : World} {k : Nat} {o : Obj}, W.heap[k]? = some o → k < W.heap.size := fun h => (Array.getElem?_eq_some_iff.1 h).1
  refine ⟨l, [{ target := .collected D, args := #[] }], W1, { target := .fn (.func gf) lb, args := #[.func (.yield l) #[] #[]] }, W1, gf,
    #[.func (.yield l) #[] #[]] ++ lb, W1, ?_, ?_, ?_, ?_, ?_, ?_⟩
  · rw [← hW1, hrec, hD, hl]; exact run_enterLoop_outer _ _ _ _ _
  · simp only [resolve, hg]
    simp [go_sem]
  · intro f' _; trivial
  · simp [invoke, go_sem, eg]
  · intro h; cases h
  · have hcall := hseq l
      (fun P pre W => I P pre W ∧ W.heap[l]? = some (.loop (rec .ready none)) ∧ W.heap[D]? = some (.deferred (some [])) ∧ ¬ P l ∧ ¬ P D)
      (fun pre W => ∃ c, Ix c pre W ∧ W.heap[l]? = some (.loop (rec .done (some c))) ∧ W.heap[D]? = some (.deferred (some [])))
      W1 hb1
      { new := fun P s W cs t ⟨h1, h2, h3, h4, h5⟩ => ⟨hI.new P s W cs t h1, (Below.heap_alloc _ _ _ (ltOf h2)).trans h2, (Below.heap_alloc _ _ _ (ltOf h3)).trans h3,
          fun h => h.elim h4 (fun e => by have := ltOf h2; omega), fun h => h.elim h5 (fun e => by have := ltOf h3; omega)⟩
        set := fun P s W b k v ⟨h1, h2, h3, h4, h5⟩ hb => ⟨hI.set P s W b k v h1 hb, (heap_setCell_other W ⟨b, k, none⟩ l v (fun e => h4 (by rw [e]; exact hb))).trans h2, (heap_setCell_other W ⟨b, k, none⟩ D v (fun e => h5 (by rw [e]; exact hb))).trans h3, h4, h5⟩
        weak := fun P P' s W ⟨h1, h2, h3, h4, h5⟩ hp => ⟨hI.weak P P' s W h1 hp, h2, h3, fun h => h4 (hp _ h), fun h => h5 (hp _ h)⟩ }
      ?_ ⟨hI1, hL1, hK1, id, id⟩
    · refine callsIn_wide.2 (hcall.mono ?_)
      rintro e W2 ⟨⟨v, rfl⟩, (⟨hi, hl2, hk2, _, _⟩ | ⟨q, hq, c, hx, hl2, hk2⟩)⟩
      · refine ⟨none, _, by have := run_endLoop (P := Try.prog) hl2 (by rw [hrec]; simp); rw [hrec] at this; exact this, ?_⟩
        subst hD
        exact hdone _ (hIp _ _ _ _ _ hi (by omega) (fun c hc => by rw [hl2] at hc; cases hc; rfl)) ((World.putObj_heap_other hlD).trans hk2) (ltOf ((World.putObj_heap_other hlD).trans hk2))
      · refine ⟨some c, _, by have := run_endLoop (P := Try.prog) hl2 (by rw [hrec]; simp); rw [hrec] at this; exact this, ?_⟩
        subst hD
        exact hstop c q _ hq (hXp _ _ _ _ _ hx (by omega) (fun c hc => by rw [hl2] at hc; cases hc; rfl)) ((World.putObj_heap_other hlD).trans hk2) (ltOf ((World.putObj_heap_other hlD).trans hk2))
    · rintro m P pre x W ⟨hi, hl2, hk2, hPl, hPD⟩ hpx
      have hy := run_yield (P := Try.prog) (args := #[encV x]) hl2 (by rw [hrec]; rfl)
      rw [hrec] at hy
      refine ⟨fn, _, assign, body, hy, roundIn_of_wpIn trivial ?_⟩
      have hr := hround m l D P pre x W hD hl (ltOf hl2) (fun c hc => by rw [hl2] at hc; cases hc; rfl) (fun c hc => by rw [hk2] at hc; cases hc; rfl) hPl hPD hi hpx
      have htm : ((#[p0].zip #[encV x]).foldl (fun t (p, v) => t.setIfInBounds p v) a.tmps) = a.tmps.setIfInBounds p0 (encV x) := by simp
      rw [htm]
      refine wpIn_mono hr ?_
      rintro e a1 W2 hp
      cases e with
      | normal =>
        obtain ⟨hl3, hbody⟩ := hp
        have hl4 := hl3.trans hl2
        refine ⟨_, run_beginRound hl4 (by rw [hrec]), wpIn_mono (hbody _ _ rfl rfl) ?_⟩
        have hlt := ltOf hl4
        have fin : ∀ (jump : Option Code) (W3 : World), W3.heap[l]? = (W2.putObj l (.loop { rec .ready none with state := .busy })).heap[l]? →
            (Instr.endRound l jump).run Try.prog W3 = .ok (.bool jump.isNone) (W3.putObj l (.loop (rec (if jump.isNone then .ready else .done) jump))) ∧
            (W3.putObj l (.loop (rec (if jump.isNone then .ready else .done) jump))).heap[l]? = some (.loop (rec (if jump.isNone then .ready else .done) jump)) ∧
            (∀ c, W3.heap[l]? = some c → c.isCells = false) := fun jump W3 h3 => by
          have h5 : W3.heap[l]? = some (.loop { rec .ready none with state := .busy }) := h3.trans (World.putObj_heap_same hlt)
          have h6 := run_endRound (P := Try.prog) jump h5
          rw [hrec] at h6 ⊢
          exact ⟨h6, World.putObj_heap_same (ltOf h5), fun c hc => by rw [h5] at hc; cases hc; rfl⟩
        rintro e a3 W3 hp
        cases e with
        | normal =>
          obtain ⟨h3, hd3, hi3, hk3⟩ := hp
          obtain ⟨hrun, hl5, hnc⟩ := fin none W3 h3
          exact ⟨_, _, hrun, .inl ⟨rfl, ⟨hIp _ _ _ _ _ hi3 (by omega) hnc, hl5, (World.putObj_heap_other hlD).trans (hd3.trans hk2), hPl, hPD⟩, fun b hb => (World.putObj_heap_other (fun e => hPl (by rw [← e]; exact hb))).trans (hk3 b hb)⟩⟩
        | ret =>
          obtain ⟨h3, hd3, hi3⟩ := hp
          obtain ⟨hrun, hl5, hnc⟩ := fin (some .ret) W3 h3
          exact ⟨_, _, hrun, .inr ⟨rfl, .ret, hXp _ _ _ _ _ hi3 (by omega) hnc, hl5, (World.putObj_heap_other hlD).trans (hd3.trans hk2)⟩⟩
        | exit id =>
          obtain ⟨h3, hd3, hi3⟩ := hp
          obtain ⟨hrun, hl5, hnc⟩ := fin (some (.exit id)) W3 h3
          exact ⟨_, _, hrun, .inr ⟨rfl, .exit id, hXp _ _ _ _ _ hi3 (by omega) hnc, hl5, (World.putObj_heap_other hlD).trans (hd3.trans hk2)⟩⟩
        | goto t => exact hp.elim
        | panic ch => exact hp.elim
        | outgrown => exact hp.elim
      | ret => exact hp.elim
      | exit id => exact hp.elim
      | goto t => exact hp.elim
      | panic ch => exact hp.elim
      | outgrown => exact hp.elim
end Go.Proofs.Ytofmmegpadojlaa
