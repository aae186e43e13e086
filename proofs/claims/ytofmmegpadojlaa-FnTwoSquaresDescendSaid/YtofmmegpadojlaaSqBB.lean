/- The product of two lists of four numbers, in the model. -/
import Derived.Test.YtofmmegpadojlaaSqBA
namespace Go.Proofs.Ytofmmegpadojlaa
open Go.RowKit

/-- Which operations have come when the first k have. -/
def lkA (N k : Nat) : Array Bool := (List.replicate k true ++ List.replicate (N - k) false).toArray
theorem lkA_set {N k : Nat} (h : k < N) : (lkA N k).setIfInBounds k true = lkA N (k + 1) := by
  unfold lkA
  obtain ⟨m, hm⟩ : ∃ m, N - k = m + 1 := ⟨N - k - 1, by omega⟩
  rw [hm, show N - (k + 1) = m by omega, List.replicate_succ, List.setIfInBounds_toArray, List.set_append_right _ _ (by simp), List.length_replicate, Nat.sub_self]
  congr 1
  simp only [List.set_cons_zero]
  rw [show List.replicate (k + 1) true = List.replicate k true ++ [true] by rw [List.replicate_succ']]
  simp
def stepB (ops : Array Oper) (N k : Nat) : Bool := (Region.ready .any ops (lkA N k)).contains k && Region.free .any ops (lkA N k) k
theorem lexHead_of (ops : Array Oper) (N g : Nat) : ∀ f k, k + f ≤ N → (∀ i, k ≤ i → i < k + f → stepB ops N i = true) → Region.seqB .any ops g (k + f) (lkA N (k + f)) = true → Region.lexHead .any ops g f k (lkA N k) = true := by
  intro f
  induction f with
  | zero => intro k _ _ h; exact h
  | succ f ih =>
    intro k hk hs h
    have h0 := hs k (Nat.le_refl _) (by omega)
    unfold stepB at h0
    unfold Region.lexHead
    rw [h0, lkA_set (by omega), Bool.true_and]
    exact ih (k + 1) (by omega) (fun i h1 h2 => hs i (by omega) (by omega)) (by rw [show k + 1 + f = k + (f + 1) by omega]; exact h)
theorem lexTail_of (ops : Array Oper) (N n m : Nat) (hN : ops.size = N) (h1 : Region.noSelect ops = true) (h2 : n < N) (h3 : Region.sinkB .any ops n = true) (h4 : Region.chainB .any ops n = true) (hm : 4 * m = n)
    (p0 : ((List.range m).all fun i => stepB ops N (0 * m + i)) = true) (p1 : ((List.range m).all fun i => stepB ops N (1 * m + i)) = true) (p2 : ((List.range m).all fun i => stepB ops N (2 * m + i)) = true) (p3 : ((List.range m).all fun i => stepB ops N (3 * m + i)) = true)
    (h5 : Region.seqB .any ops (N - n) n (lkA N n) = true) : Region.lexTailB .any ops n = true := by
  have hall : ∀ (q : Nat), ((List.range m).all fun i => stepB ops N (q * m + i)) = true → ∀ i, q * m ≤ i → i < q * m + m → stepB ops N i = true := by
    intro q hq i h6 h7
    have := List.all_eq_true.1 hq (i - q * m) (List.mem_range.2 (by omega))
    rwa [show q * m + (i - q * m) = i by omega] at this
  have hz : Array.replicate ops.size false = lkA N 0 := by unfold lkA; rw [hN]; simp
  unfold Region.lexTailB
  rw [hz, h1, h3, h4, hN, decide_eq_true h2]
  simp only [Bool.and_self, Bool.true_and]
  refine lexHead_of ops N _ n 0 (by omega) (fun i _ hi => ?_) (by rw [Nat.zero_add]; exact h5)
  rcases Nat.lt_or_ge i (1 * m) with h | h
  · exact hall 0 p0 i (by omega) (by omega)
  · rcases Nat.lt_or_ge i (2 * m) with h' | h'
    · exact hall 1 p1 i (by omega) (by omega)
    · rcases Nat.lt_or_ge i (3 * m) with h'' | h''
      · exact hall 2 p2 i (by omega) (by omega)
      · exact hall 3 p3 i (by omega) (by omega)
theorem still_any {P : Program} {ops : Array Oper} {w : World} {Q : Act → Prop} {l : List Oper} {a : Act} (h : ∀ ops' : Array Oper, wpStill P ops' w Q l a) : wpStill P ops w Q l a := h ops
theorem still_k {P : Program} {ops : Array Oper} {w : World} {Q : Act → Prop} {l : List Oper} {a : Act} (h : ∀ K : Act → Prop, (∀ a, Q a → K a) → wpStill P ops w K l a) : wpStill P ops w Q l a := h Q (fun _ h => h)
set_option maxRecDepth 100000 in
set_option maxHeartbeats 8000000 in
theorem sqFour_any (v0 v1 : Value) (a b c d x y z t : Int) (w : World) (ha : In6 a) (hb : In6 b) (hc : In6 c) (hd : In6 d) (hx : In6 x) (hy : In6 y) (hz : In6 z) (ht : In6 t) (h0 : Ints w v0 [a, b, c, d]) (h1 : Ints w v1 [x, y, z, t]) :
    Calls Try.prog 78 #[v0, v1] w fun e w' => MadeInts w (l4 (Sq.mul4 ⟨a, b, c, d⟩ ⟨x, y, z, t⟩)) e w' := by
  obtain ⟨ad, ca, rfl, c0, c1, c2, c3⟩ := h0.at4
  obtain ⟨bd, cb, rfl, d0, d1, d2, d3⟩ := h1.at4
  have m1 := mulBd ha hx (by omega)
  have m2 := mulBd hb hy (by omega)
  have m3 := mulBd hc hz (by omega)
  have m4 := mulBd hd ht (by omega)
  have m5 := mulBd ha hy (by omega)
  have m6 := mulBd hb hx (by omega)
  have m7 := mulBd hc ht (by omega)
  have m8 := mulBd hd hz (by omega)
  have m9 := mulBd ha hz (by omega)
  have n1 := mulBd hc hx (by omega)
  have n2 := mulBd hd hy (by omega)
  have n3 := mulBd hb ht (by omega)
  have n4 := mulBd ha ht (by omega)
  have n5 := mulBd hd hx (by omega)
  have n6 := mulBd hb hz (by omega)
  have n7 := mulBd hc hy (by omega)
  have HLW := hid (Later.drew w)
  clear h0 h1 ha hb hc hd hx hy hz ht
  go_enter Try.func78, Try.ntmps78
  go_wp2_with fail
  refine wp_region_still_tail 124 (by kernel_rfl) (lexTail_of _ 126 124 31 (by as_aux_lemma => rfl) (by as_aux_lemma => kernel_rfl) (by omega) (by as_aux_lemma => kernel_rfl) (by as_aux_lemma => kernel_rfl) rfl (by as_aux_lemma => kernel_rfl) (by as_aux_lemma => kernel_rfl) (by as_aux_lemma => kernel_rfl) (by as_aux_lemma => kernel_rfl) (by as_aux_lemma => kernel_rfl)) ?_
  simp only [List.append_eq, List.cons_append, List.nil_append, List.take_succ_cons, List.take_zero, List.drop_succ_cons, List.drop_zero]
  refine still_any (fun ops' => ?_)
  refine still_k (fun K hK => ?_)
  iterate 31 still_step
  as_aux_lemma =>
    iterate 31 still_step
    as_aux_lemma =>
      iterate 31 still_step
      as_aux_lemma =>
        iterate 31 still_step
        refine wpStill_nil ?_
        refine hK _ ?_
        as_aux_lemma =>
          change wpList _ _ _ _ _ w.drew
          generalize w.drew = wd at *
          go_wp2_with fail
          go_ret
          refine ⟨_, rfl, ?_, HLW.out.trans (Later.alloc _ _)⟩
          exact (litB wd (l4 (Sq.mul4 ⟨a, b, c, d⟩ ⟨x, y, z, t⟩)) (by simp [l4]) 4 rfl _ rfl).wide HLW.out.size (Nat.le_refl _)
end Go.Proofs.Ytofmmegpadojlaa
