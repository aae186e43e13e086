/- Rows of right triples in the program: SortFunc. -/
import Derived.Test.YtdahhcigphhfdacRiAd
namespace Go.Proofs.Ytdahhcigphhfdac
open Go.RowKit

theorem grownBy_growR (W : World) (os : Array Obj) : W.grownBy (Go.Sort.grow W os) none :=
  ⟨rfl, rfl, rfl, by simp, fun k hk _ => Go.Sort.heap_grow_old _ _ hk⟩
theorem laterGrowR (W : World) (os : Array Obj) : Later W (Go.Sort.grow W os) := (Below.refl _ _).grown (grownBy_growR W os) (Nat.le_refl _) (by simp)

open Go.Sort in
set_option maxRecDepth 20000 in
theorem sortVp_any {lo : Nat} (w0 : World) (v : Value) (L : List VP) (w : World) (hL0 : Later w0 w) (hlo : w0.heap.size ≤ lo) (hb : L.length ≤ 1000000) (h : OwnRts lo w v L) :
    Calls Try.prog 70 #[v, .func (.func 71) #[] #[]] w fun e w' => e = .returned (.tuple #[]) ∧ OwnRts lo w' v (sortVp L) ∧ Later w0 w' := by
  have hsl : (sortVp L).length = L.length := by unfold sortVp; exact List.length_mergeSort _
  rcases id h.2 with ⟨rfl, h0⟩ | ⟨g, cap, cur, rfl, hg, hgg, _⟩
  · obtain rfl : L = [] := List.eq_nil_of_length_eq_zero h0
    refine (show Calls Try.prog 70 #[.slice none 0 0, .func (.func 71) #[] #[]] w _ from AnyF.slices_SortFunc_none laysRtF06 none 0 (.func (.func 71) #[] #[]) w).mono ?_
    rintro e w' ⟨rfl, rfl⟩
    exact ⟨rfl, by rw [show sortVp [] = [] by simp [sortVp]]; exact h, hL0⟩
  · have hblk : g < w.heap.size := by
      apply Classical.byContradiction
      intro hn
      rw [Array.getElem?_eq_none (by omega)] at hgg
      cases hgg
    have hcmp : CmpLays Try.prog 71 #[] rtVp 5 cmpVp g 0 L.toArray.size w := by
      intro m os dk hs a b
      exact compareRt_any a.1 b.1 _
    refine (show Calls Try.prog 70 #[.slice (some ⟨g, 0, none⟩) L.length cap, .func (.func 71) #[] #[]] w _ from AnyQ.slices_SortFunc_total laysRtF06 5 Try.isAgg69 Try.sizeOf69 rtVp (fun _ => rfl) (fun x v hv => by simp [rtVp, rtV] at hv; rcases hv with rfl | rfl | rfl | rfl | rfl <;> rfl) cmpVp swoVp 71 #[] g 0 cap L.toArray w Try.call71 hcmp h.holds hblk (by simp; omega) totVp).mono ?_
    rintro e w' ⟨rfl, n, os, rfl⟩
    obtain ⟨hp1, hp2⟩ := h.putK (q := n) (M := sortVp L) hsl
    have hLg := laterGrowR (putRowK rtVp 5 (Sort.ahead w n) g 0 (sortVp L).toArray) os
    refine ⟨rfl, ?_, ?_⟩
    · show OwnRts lo (grow (putRowK rtVp 5 (Sort.ahead w n) g 0 (sortVp L).toArray) os) _ _
      exact hp1.later hLg
    · show Later w0 (grow (putRowK rtVp 5 (Sort.ahead w n) g 0 (sortVp L).toArray) os)
      exact Later.trans (show Later w0 _ from hL0.grown hp2 hL0.size (fun b' hb' => by have e := Option.some.inj hb'; subst e; omega)) hLg
end Go.Proofs.Ytdahhcigphhfdac
