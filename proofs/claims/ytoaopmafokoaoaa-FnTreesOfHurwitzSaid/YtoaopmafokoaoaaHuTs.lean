/- Rows of solutions: their order, sorted by Go's library; searched (Contains). -/
import Derived.Test.YtoaopmafokoaoaaHuTeg
import Derived.Test.YtoaopmafokoaoaaHuRv
import Derived.Test.YtoaopmafokoaoaaCmpL
import Derived.Test.YtoaopmafokoaoaaLayQC
import Derived.Shelf.SlSortCmp.NoneTotal
namespace Go.Proofs.Ytoaopmafokoaoaa
open Go.RowKit

def soI (t : So) : List Int := [t.1, t.2.1, t.2.2.1, t.2.2.2]
def cmpSo (t u : So) : Int := cmpLL (soI t) (soI u)
theorem cmpI_cases (x y : Int) : (x < y ∧ cmpI x y = -1) ∨ (x = y ∧ cmpI x y = 0) ∨ (y < x ∧ cmpI x y = 1) := by
  unfold cmpI
  by_cases h : x < y
  · exact .inl ⟨h, if_pos h⟩
  · by_cases h2 : y < x
    · exact .inr (.inr ⟨h2, by rw [if_neg h, if_pos h2]⟩)
    · exact .inr (.inl ⟨by omega, by rw [if_neg h, if_neg h2]⟩)
theorem cmpLL_bef : ∀ {xs ys : List Int}, cmpLL xs ys < 0 ↔ befL xs ys = true := by
  intro xs
  induction xs with
  | nil =>
    intro ys
    cases ys with
    | nil => simp [cmpLL, befL]
    | cons y ys => simp [cmpLL, befL]
  | cons x xs ih =>
    intro ys
    cases ys with
    | nil => simp [cmpLL, befL]
    | cons y ys =>
      rcases cmpI_cases x y with ⟨h, e⟩ | ⟨h, e⟩ | ⟨h, e⟩
      · have hne : x ≠ y := by omega
        simp [cmpLL, befL, e, hne, h]
      · subst h
        simp only [cmpLL, befL, e, if_pos]
        simpa using ih
      · have hne : x ≠ y := by omega
        have hnl : ¬ x < y := by omega
        simp [cmpLL, befL, e, hne, hnl]
theorem ltSo (t u : So) : ltOf cmpSo t u = befL (soI t) (soI u) := by
  unfold ltOf cmpSo
  cases h : befL (soI t) (soI u)
  · exact decide_eq_false (fun hc => by rw [cmpLL_bef.1 hc] at h; cases h)
  · exact decide_eq_true (cmpLL_bef.2 h)
theorem soI_inj {t u : So} (h : soI t = soI u) : t = u := by
  obtain ⟨a, b, c, d⟩ := t
  obtain ⟨p, q, r, s⟩ := u
  simp only [soI, List.cons.injEq, and_true] at h
  obtain ⟨rfl, rfl, rfl, rfl⟩ := h
  rfl
theorem swoSo : Go.Sort.SWO (ltOf cmpSo) := by
  refine ⟨fun x => ?_, fun x y z h1 h2 => ?_, fun x y z h1 h2 => ?_⟩
  · rw [ltSo]; exact befL_irr _
  · rw [ltSo] at *; exact befL_trans h1 h2
  · rw [ltSo] at *
    cases h : befL (soI x) (soI z)
    · rfl
    · by_cases e : soI x = soI y
      · rw [e] at h; rw [h2] at h; cases h
      · rw [befL_trans (befL_total h1 e) h] at h2; cases h2
theorem totSo (x y : So) (h1 : ltOf cmpSo x y = false) (h2 : ltOf cmpSo y x = false) : x = y := by
  rw [ltSo] at h1 h2
  apply Classical.byContradiction
  intro hne
  have := befL_total h1 (fun e => hne (soI_inj e))
  rw [h2] at this; cases this
def sortQ (L : List So) : List So := L.mergeSort fun x y => !(ltOf cmpSo) y x
/-- A sorted row of different solutions of as many parts. -/
theorem sortQ_sorted {L : List So} (hn : L.Nodup) (hz : (∀ s ∈ L, s.2.2.2 = 0) ∨ ∀ s ∈ L, s.2.2.2 ≠ 0) : SortedB ((sortQ L).map soL) := by
  have hp : (sortQ L).Perm L := List.mergeSort_perm _ _
  have hs : (sortQ L).Pairwise fun x y => (!(ltOf cmpSo) y x) = true := List.pairwise_mergeSort (fun a b c h1 h2 => by
      have g1 : ltOf cmpSo b a = false := by simpa using h1
      have g2 : ltOf cmpSo c b = false := by simpa using h2
      have := swoSo.ntrans c b a g2 g1
      simp [this]) (fun a b => by
      cases h : ltOf cmpSo a b
      · simp
      · have : ltOf cmpSo b a = false := by
          cases h2 : ltOf cmpSo b a
          · rfl
          · have := swoSo.trans a b a h h2; rw [swoSo.irrefl] at this; cases this
        simp [this]) L
  have hnd : (sortQ L).Nodup := hp.nodup_iff.2 hn
  unfold SortedB
  rw [List.pairwise_map]
  refine List.Pairwise.imp_of_mem (R := fun x y => ((!(ltOf cmpSo) y x) = true) ∧ x ≠ y) (fun {x y} hx hy hxy => ?_) (hs.and hnd)
  obtain ⟨h1, h2⟩ := hxy
  have h3 : befL (soI y) (soI x) = false := by rw [← ltSo]; simpa using h1
  have h4 := befL_total h3 (fun e => h2 (soI_inj e).symm)
  have hx' := hp.mem_iff.1 hx
  have hy' := hp.mem_iff.1 hy
  obtain ⟨a, b, c, d⟩ := x
  obtain ⟨p, q, r, s⟩ := y
  rcases hz with hz | hz
  · have e1 : d = 0 := hz _ hx'
    have e2 : s = 0 := hz _ hy'
    subst e1; subst e2
    have : befL [a, b, c] [p, q, r] = true := by simpa [soI, befL] using h4
    exact this
  · have e1 : ¬ d = 0 := hz _ hx'
    have e2 : ¬ s = 0 := hz _ hy'
    show befL (qL a b c d) (qL p q r s) = true
    unfold qL
    rw [if_neg e1, if_neg e2]; exact h4
theorem box4_ints {w : World} {B : Nat} {x y z t : Int} (h0 : w.cell? ⟨B, 0, none⟩ = some (.int .i64 x)) (h1 : w.cell? ⟨B, 1, none⟩ = some (.int .i64 y)) (h2 : w.cell? ⟨B, 2, none⟩ = some (.int .i64 z)) (h3 : w.cell? ⟨B, 3, none⟩ = some (.int .i64 t)) : Ints w (.slice (some ⟨B, 0, none⟩) 4 4) [x, y, z, t] := by
  refine ⟨_, 4, rfl, by simp, fun i hi => ⟨_, rfl, ?_⟩⟩
  match i, hi with
  | 0, _ => exact h0
  | 1, _ => exact h1
  | 2, _ => exact h2
  | 3, _ => exact h3
def so2 (w : World) (x y z t p q r s : Int) : World := (w.alloc (.cells #[.int .i64 x, .int .i64 y, .int .i64 z, .int .i64 t] 69)).alloc (.cells #[.int .i64 p, .int .i64 q, .int .i64 r, .int .i64 s] 69)

open Go.Sort in
set_option maxRecDepth 20000 in
set_option maxHeartbeats 2000000 in
theorem compareSo_any (t u : So) (w : World) :
    Calls Try.prog 51 #[.agg #[.int .i64 t.1, .int .i64 t.2.1, .int .i64 t.2.2.1, .int .i64 t.2.2.2], .agg #[.int .i64 u.1, .int .i64 u.2.1, .int .i64 u.2.2.1, .int .i64 u.2.2.2]] w fun e w' => e = .returned (.int .i64 (cmpSo t u)) ∧ ∃ q os', w' = grow (w.drewN q) os' := by
  obtain ⟨x, y, z, t⟩ := t
  obtain ⟨p, q, r, s⟩ := u
  simp only
  obtain ⟨o, ho⟩ : ∃ o, cmpSo (x, y, z, t) (p, q, r, s) = o := ⟨_, rfl⟩
  have HC := hid (fun (v v' : Value) w' (h1 : Ints w' v [x, y, z, t]) (h2 : Ints w' v' [p, q, r, s]) => show Calls Try.prog 108 #[v, v'] w' fun e w2 => e = .returned (.int .i64 o) ∧ w2 = w' by rw [← ho]; exact (compareL_any v v' _ _ 4 w' rfl rfl h1 h2).mono fun _ _ h => ⟨h.1, h.2.symm⟩)
  rw [ho]
  clear ho
  go_enter Try.func51, Try.ntmps51
  go_upto_region 1 with fail
  have hw : (w.alloc (.cells #[.int .i64 x, .int .i64 y, .int .i64 z, .int .i64 t] 69)).alloc (.cells #[.int .i64 p, .int .i64 q, .int .i64 r, .int .i64 s] 69) = so2 w x y z t p q r s := rfl
  rw [hw]
  have HG := hid (show so2 w x y z t p q r s = grow w #[.cells #[.int .i64 x, .int .i64 y, .int .i64 z, .int .i64 t] 69, .cells #[.int .i64 p, .int .i64 q, .int .i64 r, .int .i64 s] 69] from rfl)
  have c0 : (so2 w x y z t p q r s).cell? ⟨w.heap.size, 0, none⟩ = some (.int .i64 x) := by simp [so2, go_sem]
  have c1 : (so2 w x y z t p q r s).cell? ⟨w.heap.size, 1, none⟩ = some (.int .i64 y) := by simp [so2, go_sem]
  have c2 : (so2 w x y z t p q r s).cell? ⟨w.heap.size, 2, none⟩ = some (.int .i64 z) := by simp [so2, go_sem]
  have c3 : (so2 w x y z t p q r s).cell? ⟨w.heap.size, 3, none⟩ = some (.int .i64 t) := by simp [so2, go_sem]
  have d0 : (so2 w x y z t p q r s).cell? ⟨w.heap.size + 1, 0, none⟩ = some (.int .i64 p) := by simp [so2, go_sem]
  have d1 : (so2 w x y z t p q r s).cell? ⟨w.heap.size + 1, 1, none⟩ = some (.int .i64 q) := by simp [so2, go_sem]
  have d2 : (so2 w x y z t p q r s).cell? ⟨w.heap.size + 1, 2, none⟩ = some (.int .i64 r) := by simp [so2, go_sem]
  have d3 : (so2 w x y z t p q r s).cell? ⟨w.heap.size + 1, 3, none⟩ = some (.int .i64 s) := by simp [so2, go_sem]
  clear hw
  generalize so2 w x y z t p q r s = wa at HG c0 c1 c2 c3 d0 d1 d2 d3 ⊢
  have HI := hid (box4_ints c0 c1 c2 c3)
  have HJ := hid (box4_ints d0 d1 d2 d3)
  go_quiet (first | (go_at_call 108; exact Calls.quiet_of_same (HC.out _ _ _ (HI.out.later (Later.drewN wa _)) (HJ.out.later (Later.drewN wa _)))))
  rw [HG.out]
  go_wp2_with fail
  go_ret
  exact ⟨rfl, nq, _, rfl⟩
theorem grownBy_growQ (W : World) (os : Array Obj) : W.grownBy (Go.Sort.grow W os) none :=
  ⟨rfl, rfl, rfl, by simp, fun k hk _ => Go.Sort.heap_grow_old _ _ hk⟩
theorem laterGrowQ (W : World) (os : Array Obj) : Later W (Go.Sort.grow W os) := (Below.refl _ _).grown (grownBy_growQ W os) (Nat.le_refl _) (by simp)

open Go.Sort in
set_option maxRecDepth 20000 in
theorem sortS_any {lo : Nat} (w0 : World) (v : Value) (L : List So) (w : World) (hL0 : Later w0 w) (hlo : w0.heap.size ≤ lo) (hb : L.length ≤ 1000000) (h : OwnSols lo w v L) :
    Calls Try.prog 50 #[v, .func (.func 51) #[] #[]] w fun e w' => e = .returned (.tuple #[]) ∧ OwnSols lo w' v (sortQ L) ∧ Later w0 w' := by
  have hsl : (sortQ L).length = L.length := by unfold sortQ; exact List.length_mergeSort _
  rcases id h.2 with ⟨rfl, h0⟩ | ⟨g, cap, cur, rfl, hg, hgg, _⟩
  · obtain rfl : L = [] := List.eq_nil_of_length_eq_zero h0
    refine (show Calls Try.prog 50 #[.slice none 0 0, .func (.func 51) #[] #[]] w _ from AnyF.slices_SortFunc_none laysSoF06 none 0 (.func (.func 51) #[] #[]) w).mono ?_
    rintro e w' ⟨rfl, rfl⟩
    exact ⟨rfl, by rw [show sortQ [] = [] by simp [sortQ]]; exact h, hL0⟩
  · have hblk : g < w.heap.size := by
      apply Classical.byContradiction
      intro hn
      rw [Array.getElem?_eq_none (by omega)] at hgg
      cases hgg
    have hcmp : CmpLays Try.prog 51 #[] soV 4 cmpSo g 0 L.toArray.size w := by
      intro m os dk hs a b
      exact compareSo_any a b _
    refine (show Calls Try.prog 50 #[.slice (some ⟨g, 0, none⟩) L.length cap, .func (.func 51) #[] #[]] w _ from AnyQ.slices_SortFunc_total laysSoF06 4 Try.isAgg69 Try.sizeOf69 soV (fun _ => rfl) (fun x v hv => by simp [soV] at hv; rcases hv with rfl | rfl | rfl | rfl <;> rfl) cmpSo swoSo 51 #[] g 0 cap L.toArray w Try.call51 hcmp h.holds hblk (by simp; omega) totSo).mono ?_
    rintro e w' ⟨rfl, n, os, rfl⟩
    obtain ⟨hp1, hp2⟩ := h.putK (q := n) (M := sortQ L) hsl
    have hLg := laterGrowQ (putRowK soV 4 (Sort.ahead w n) g 0 (sortQ L).toArray) os
    refine ⟨rfl, ?_, ?_⟩
    · show OwnSols lo (grow (putRowK soV 4 (Sort.ahead w n) g 0 (sortQ L).toArray) os) _ _
      exact hp1.later hLg
    · show Later w0 (grow (putRowK soV 4 (Sort.ahead w n) g 0 (sortQ L).toArray) os)
      exact Later.trans (show Later w0 _ from hL0.grown hp2 hL0.size (fun b' hb' => by have e := Option.some.inj hb'; subst e; omega)) hLg
end Go.Proofs.Ytoaopmafokoaoaa
