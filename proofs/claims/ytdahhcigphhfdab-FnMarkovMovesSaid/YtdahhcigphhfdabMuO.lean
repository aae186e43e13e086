/- Rows of triples: sorted and compacted by Go's library. -/
import Derived.Test.YtdahhcigphhfdabMuA
import Derived.Shelf.SlSortCmp.NoneTotal
namespace Go.Proofs.Ytdahhcigphhfdab
open Go.RowKit

theorem cmpI_lt {x y : Int} : cmpI x y < 0 ↔ x < y := by
  unfold cmpI
  by_cases h : x < y
  · rw [if_pos h]; omega
  · rw [if_neg h]; by_cases h2 : y < x
    · rw [if_pos h2]; omega
    · rw [if_neg h2]; omega
theorem cmpI_zero {x y : Int} : cmpI x y = 0 ↔ x = y := by
  unfold cmpI
  by_cases h : x < y
  · rw [if_pos h]; omega
  · rw [if_neg h]; by_cases h2 : y < x
    · rw [if_pos h2]; omega
    · rw [if_neg h2]; omega
theorem ltTr_iff (t u : Tr) : ltOf cmpTr t u = true ↔ t.1 < u.1 ∨ (t.1 = u.1 ∧ (t.2.1 < u.2.1 ∨ (t.2.1 = u.2.1 ∧ t.2.2 < u.2.2))) := by
  have h1 := @cmpI_lt t.1 u.1
  have h2 := @cmpI_lt t.2.1 u.2.1
  have h3 := @cmpI_lt t.2.2 u.2.2
  have z1 := @cmpI_zero t.1 u.1
  have z2 := @cmpI_zero t.2.1 u.2.1
  have z3 := @cmpI_zero t.2.2 u.2.2
  unfold ltOf
  rw [decide_eq_true_iff]
  show cmpLL [t.1, t.2.1, t.2.2] [u.1, u.2.1, u.2.2] < 0 ↔ _
  simp only [cmpLL]
  split
  · split
    · split
      · omega
      · omega
    · omega
  · omega
theorem ltTr_not (t u : Tr) : ltOf cmpTr t u = false ↔ ¬ (t.1 < u.1 ∨ (t.1 = u.1 ∧ (t.2.1 < u.2.1 ∨ (t.2.1 = u.2.1 ∧ t.2.2 < u.2.2)))) := by
  rw [← ltTr_iff]; simp
theorem swoTr : Go.Sort.SWO (ltOf cmpTr) := by
  refine ⟨fun x => ?_, fun x y z h1 h2 => ?_, fun x y z h1 h2 => ?_⟩
  · rw [ltTr_not]; omega
  · rw [ltTr_iff] at *; omega
  · rw [ltTr_not] at *; omega
theorem totTr (x y : Tr) (h1 : ltOf cmpTr x y = false) (h2 : ltOf cmpTr y x = false) : x = y := by
  rw [ltTr_not] at h1 h2
  obtain ⟨a, b, c⟩ := x
  obtain ⟨p, q, r⟩ := y
  simp only at h1 h2
  simp only [Prod.mk.injEq]
  omega
theorem grownBy_grow (W : World) (os : Array Obj) : W.grownBy (Go.Sort.grow W os) none :=
  ⟨rfl, rfl, rfl, by simp, fun k hk _ => Go.Sort.heap_grow_old _ _ hk⟩
theorem laterGrowT (W : World) (os : Array Obj) : Later W (Go.Sort.grow W os) := (Below.refl _ _).grown (grownBy_grow W os) (Nat.le_refl _) (by simp)

open Go.Sort in
set_option maxRecDepth 20000 in
theorem sortT_any {lo : Nat} (w0 : World) (v : Value) (L : List Tr) (w : World) (hL0 : Later w0 w) (hlo : w0.heap.size ≤ lo) (hb : L.length ≤ 1000000) (h : OwnTris lo w v L) :
    Calls Try.prog 113 #[v, .func (.func 114) #[] #[]] w fun e w' => e = .returned (.tuple #[]) ∧ OwnTris lo w' v (sortR L) ∧ Later w0 w' := by
  have hsl : (sortR L).length = L.length := by unfold sortR; exact List.length_mergeSort _
  rcases id h.2 with ⟨rfl, h0⟩ | ⟨g, cap, cur, rfl, hg, hgg, _⟩
  · obtain rfl : L = [] := List.eq_nil_of_length_eq_zero h0
    refine (show Calls Try.prog 113 #[.slice none 0 0, .func (.func 114) #[] #[]] w _ from AnyF.slices_SortFunc_none laysSlLaysF06 none 0 (.func (.func 114) #[] #[]) w).mono ?_
    rintro e w' ⟨rfl, rfl⟩
    exact ⟨rfl, by rw [show sortR [] = [] by simp [sortR]]; exact h, hL0⟩
  · have hblk : g < w.heap.size := by
      apply Classical.byContradiction
      intro hn
      rw [Array.getElem?_eq_none (by omega)] at hgg
      cases hgg
    have hcmp : CmpLays Try.prog 114 #[] trV 3 cmpTr g 0 L.toArray.size w := by
      intro m os dk hs a b
      exact compareTr_any a b _
    refine (show Calls Try.prog 113 #[.slice (some ⟨g, 0, none⟩) L.length cap, .func (.func 114) #[] #[]] w _ from AnyQ.slices_SortFunc_total laysSlLaysF06 3 Try.isAgg106 Try.sizeOf106 trV (fun _ => rfl) (fun x v hv => by simp [trV] at hv; rcases hv with rfl | rfl | rfl <;> rfl) cmpTr swoTr 114 #[] g 0 cap L.toArray w Try.call114 hcmp h.holds hblk (by simp; omega) totTr).mono ?_
    rintro e w' ⟨rfl, n, os, rfl⟩
    obtain ⟨hp1, hp2⟩ := h.putK (q := n) (M := sortR L) hsl
    have hLg := laterGrowT (putRowK trV 3 (Sort.ahead w n) g 0 (sortR L).toArray) os
    refine ⟨rfl, ?_, ?_⟩
    · show OwnTris lo (grow (putRowK trV 3 (Sort.ahead w n) g 0 (sortR L).toArray) os) _ _
      exact hp1.later hLg
    · show Later w0 (grow (putRowK trV 3 (Sort.ahead w n) g 0 (sortR L).toArray) os)
      exact Later.trans (show Later w0 _ from hL0.grown hp2 hL0.size (fun b' hb' => by have e := Option.some.inj hb'; subst e; omega)) hLg
theorem compactNil_any (w : World) : Calls Try.prog 116 #[.slice none 0 0] w fun e w' => e = .returned (.slice none 0 0) ∧ w = w' := by
  go_enter Try.func116, Try.ntmps116
  go_wp2_with fail
  go_ret
  exact ⟨rfl, rfl⟩
theorem compactO_any {lo : Nat} (w0 : World) (v : Value) (L : List Tr) (w : World) (hL0 : Later w0 w) (hlo : w0.heap.size ≤ lo) (hb : L.length ≤ 1000000) (h : OwnTris lo w v L) :
    Calls Try.prog 116 #[v] w fun e w' => ∃ u, e = .returned u ∧ OwnTris lo w' u (compR L L.length) ∧ Later w0 w' := by
  rcases id h.2 with ⟨rfl, h0⟩ | ⟨g, cap, cur, rfl, hg, hgg, _⟩
  · obtain rfl : L = [] := List.eq_nil_of_length_eq_zero h0
    refine (compactNil_any w).mono ?_
    rintro e w' ⟨rfl, rfl⟩
    exact ⟨_, rfl, h, hL0⟩
  · refine (compactT_any w0 g cap L w hL0 hlo hb h).mono ?_
    rintro e w' ⟨rfl, h1, h2⟩
    exact ⟨_, rfl, h1, h2⟩
end Go.Proofs.Ytdahhcigphhfdab
