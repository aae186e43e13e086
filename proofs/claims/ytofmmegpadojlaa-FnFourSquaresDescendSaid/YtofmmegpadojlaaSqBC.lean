/- Lists of squares as factors, in the program: factorOf. -/
import Derived.Test.YtofmmegpadojlaaSqBA
import Derived.Deep.AppendLies
namespace Go.Proofs.Ytofmmegpadojlaa
open Go.RowKit

/-- A box that holds a list of numbers. -/
def NBox (w : World) (B : Nat) (zs : List Int) : Prop := ∀ j z, zs[j]? = some z → w.cell? ⟨B, j, none⟩ = some (.int .i64 z) ∧ w.frozen? ⟨B, j, none⟩ = false
theorem NBox.keep {w w' : World} {B : Nat} {zs : List Int} (h : NBox w B zs) (k : w'.heap[B]? = w.heap[B]?) : NBox w' B zs :=
  fun j z hj => ⟨cell_keep (h j z hj).1 k, (World.frozen?_of_block k).trans (h j z hj).2⟩
theorem NBox.later {w w' : World} {B : Nat} {zs : List Int} (h : NBox w B zs) (k : Later w w') : NBox w' B zs :=
  fun j z hj => ⟨k.cell (h j z hj).1, k.frozen (h j z hj).1 (h j z hj).2⟩
theorem NBox.of_block {w : World} {B : Nat} {zs : List Int} {cs : Array Value} {t : TypeId} (hc : cs = (zs.map (Value.int .i64)).toArray) (h : w.heap[B]? = some (.cells cs t (0, 0))) : NBox w B zs := by
  subst hc
  intro j z hj
  constructor
  · simp [World.cell?, h, hj]
  · simp [World.frozen?, h]
theorem NBox.new (w : World) (zs : List Int) (cs : Array Value) (t : TypeId) (hc : cs = (zs.map (Value.int .i64)).toArray) : NBox (w.alloc (.cells cs t)) w.heap.size zs := NBox.of_block hc (heap_alloc_new w _)
theorem setN_far (w : World) (B b i : Nat) (v : Value) (h : b ≠ B) : (w.setCell ⟨B, i, none⟩ v).heap[b]? = w.heap[b]? := heap_setCell_other w ⟨B, i, none⟩ b v h
def facL2 (zs : List Int) : List Int := if partsB 2 zs = true then zs else [0, 0]
set_option maxRecDepth 20000 in
set_option maxHeartbeats 4000000 in
theorem factorOf2_any (v : Value) (zs : List Int) (w : World) (h : Ints w v zs) :
    Calls Try.prog 125 #[v] w fun e w' => e = .returned (.tuple #[.agg ((facL2 zs).map (Value.int .i64)).toArray, .bool (partsB 2 zs)]) ∧ Later w w' := by
  have H := hid h
  have HL2 := hid (Later.alloc (w.alloc (.cells #[.int .i64 0, .int .i64 0] 42)) (.cells #[.int .i64 0, .int .i64 0] 42))
  have HLW := hid ((Later.alloc w (.cells #[.int .i64 0, .int .i64 0] 42)).trans HL2.out)
  have HB1 := hid ((NBox.new w [0, 0] #[.int .i64 0, .int .i64 0] 42 rfl).later HL2.out)
  have HB2 := hid (NBox.new (w.alloc (.cells #[.int .i64 0, .int .i64 0] 42)) [0, 0] #[.int .i64 0, .int .i64 0] 42 rfl)
  rw [World.size_alloc] at HB2
  obtain ⟨W2, hW2⟩ : ∃ W2, (w.alloc (.cells #[.int .i64 0, .int .i64 0] 42)).alloc (.cells #[.int .i64 0, .int .i64 0] 42) = W2 := ⟨_, rfl⟩
  rw [hW2] at HL2 HLW HB1 HB2
  have c0 := (HB1.out 0 0 rfl).1
  have f0 := (HB1.out 0 0 rfl).2
  have d0 := (HB2.out 0 0 rfl).1
  have c1 := (HB1.out 1 0 rfl).1
  have f1 := (HB1.out 1 0 rfl).2
  have d1 := (HB2.out 1 0 rfl).1
  cases hp : partsB 2 zs
  · have HA := hid (show facL2 zs = [0, 0] by unfold facL2; rw [if_neg (by rw [hp]; simp)])
    obtain ⟨a, cap, rfl, hl, _⟩ := h
    by_cases hlen : zs.length = 2
    · have HOK := hid (show zs.all (within (-10000) 10000) = false by
        unfold partsB at hp; rw [decide_eq_true hlen, Bool.true_and] at hp; exact hp)
      have hne : ((zs.length : Int) != 2) = false := by simp [hlen]
      clear hp hlen
      go_enter Try.func125, Try.ntmps125
      go_wp2_with (go_at_call 137; refine (areWithin_as _ zs 10000 _ _ (by omega) HOK.out (H.out.later HLW.out)).mono ?_; rintro e w3 ⟨rfl, rfl⟩)
      refine bodyPost_ret (v := .tuple #[.agg #[.int .i64 0, .int .i64 0], .bool false]) ?_ rfl ?_
      · rw [results_cell_tmp rfl]
        go_simp
      · refine ⟨by rw [HA.out]; rfl, ?_⟩
        exact (Below.setCell (p := ⟨w.heap.size, 1, none⟩) (Below.setCell (p := ⟨w.heap.size, 0, none⟩) HLW.out (Nat.le_refl _) _) (Nat.le_refl _) _)
    · have hne : ((zs.length : Int) != 2) = true := by simp; omega
      clear hp hlen
      go_enter Try.func125, Try.ntmps125
      go_wp2_with fail
      refine bodyPost_ret (v := .tuple #[.agg #[.int .i64 0, .int .i64 0], .bool false]) ?_ rfl ?_
      · rw [results_cell_tmp rfl]
        go_simp
      · refine ⟨by rw [HA.out]; rfl, ?_⟩
        exact (Below.setCell (p := ⟨w.heap.size, 1, none⟩) (Below.setCell (p := ⟨w.heap.size, 0, none⟩) HLW.out (Nat.le_refl _) _) (Nat.le_refl _) _)
  · have HOK := hid (show zs.all (within (-10000) 10000) = true by
      unfold partsB at hp; rw [Bool.and_eq_true] at hp; exact hp.2)
    have HA := hid (show facL2 zs = zs by unfold facL2; rw [if_pos hp])
    obtain ⟨a0, a1, rfl, _⟩ := partsB_2 hp
    obtain ⟨ad, cap, rfl, e0, e1⟩ := h.at2
    replace e0 := HLW.out.cell e0
    replace e1 := HLW.out.cell e1
    clear hp
    have harr : ∀ w0, (Instr.arrayAt 42 (.slice (some ad) 2 cap)).run Try.prog w0 = .ok (.pointer (some ad)) w0 := fun w0 => by
      simp [Instr.arrayAt, run_underlying Try.underlying42]
    go_enter Try.func125, Try.ntmps125
    go_wp2_with (go_at_call 137; refine (areWithin_as _ [a0, a1] 10000 _ _ (by omega) HOK.out (H.out.later HLW.out)).mono ?_; rintro e w3 ⟨rfl, rfl⟩)
    refine bodyPost_ret (v := .tuple #[.agg #[.int .i64 a0, .int .i64 a1], .bool true]) ?_ rfl ?_
    · rw [results_cell_tmp rfl]
      go_simp
    · refine ⟨by rw [HA.out]; rfl, ?_⟩
      exact (Below.setCell (p := ⟨w.heap.size, 1, none⟩) (Below.setCell (p := ⟨w.heap.size, 0, none⟩) HLW.out (Nat.le_refl _) _) (Nat.le_refl _) _)
def facL4 (zs : List Int) : List Int := if partsB 4 zs = true then zs else [0, 0, 0, 0]
set_option maxRecDepth 20000 in
set_option maxHeartbeats 4000000 in
theorem factorOf4_any (v : Value) (zs : List Int) (w : World) (h : Ints w v zs) :
    Calls Try.prog 121 #[v] w fun e w' => e = .returned (.tuple #[.agg ((facL4 zs).map (Value.int .i64)).toArray, .bool (partsB 4 zs)]) ∧ Later w w' := by
  have H := hid h
  have HL2 := hid (Later.alloc (w.alloc (.cells #[.int .i64 0, .int .i64 0, .int .i64 0, .int .i64 0] 57)) (.cells #[.int .i64 0, .int .i64 0, .int .i64 0, .int .i64 0] 57))
  have HLW := hid ((Later.alloc w (.cells #[.int .i64 0, .int .i64 0, .int .i64 0, .int .i64 0] 57)).trans HL2.out)
  have HB1 := hid ((NBox.new w [0, 0, 0, 0] #[.int .i64 0, .int .i64 0, .int .i64 0, .int .i64 0] 57 rfl).later HL2.out)
  have HB2 := hid (NBox.new (w.alloc (.cells #[.int .i64 0, .int .i64 0, .int .i64 0, .int .i64 0] 57)) [0, 0, 0, 0] #[.int .i64 0, .int .i64 0, .int .i64 0, .int .i64 0] 57 rfl)
  rw [World.size_alloc] at HB2
  obtain ⟨W2, hW2⟩ : ∃ W2, (w.alloc (.cells #[.int .i64 0, .int .i64 0, .int .i64 0, .int .i64 0] 57)).alloc (.cells #[.int .i64 0, .int .i64 0, .int .i64 0, .int .i64 0] 57) = W2 := ⟨_, rfl⟩
  rw [hW2] at HL2 HLW HB1 HB2
  have c0 := (HB1.out 0 0 rfl).1
  have f0 := (HB1.out 0 0 rfl).2
  have d0 := (HB2.out 0 0 rfl).1
  have c1 := (HB1.out 1 0 rfl).1
  have f1 := (HB1.out 1 0 rfl).2
  have d1 := (HB2.out 1 0 rfl).1
  have c2 := (HB1.out 2 0 rfl).1
  have f2 := (HB1.out 2 0 rfl).2
  have d2 := (HB2.out 2 0 rfl).1
  have c3 := (HB1.out 3 0 rfl).1
  have f3 := (HB1.out 3 0 rfl).2
  have d3 := (HB2.out 3 0 rfl).1
  cases hp : partsB 4 zs
  · have HA := hid (show facL4 zs = [0, 0, 0, 0] by unfold facL4; rw [if_neg (by rw [hp]; simp)])
    obtain ⟨a, cap, rfl, hl, _⟩ := h
    by_cases hlen : zs.length = 4
    · have HOK := hid (show zs.all (within (-10000) 10000) = false by
        unfold partsB at hp; rw [decide_eq_true hlen, Bool.true_and] at hp; exact hp)
      have hne : ((zs.length : Int) != 4) = false := by simp [hlen]
      clear hp hlen
      go_enter Try.func121, Try.ntmps121
      go_wp2_with (go_at_call 137; refine (areWithin_as _ zs 10000 _ _ (by omega) HOK.out (H.out.later HLW.out)).mono ?_; rintro e w3 ⟨rfl, rfl⟩)
      refine bodyPost_ret (v := .tuple #[.agg #[.int .i64 0, .int .i64 0, .int .i64 0, .int .i64 0], .bool false]) ?_ rfl ?_
      · rw [results_cell_tmp rfl]
        go_simp
      · refine ⟨by rw [HA.out]; rfl, ?_⟩
        exact (Below.setCell (p := ⟨w.heap.size, 3, none⟩) (Below.setCell (p := ⟨w.heap.size, 2, none⟩) (Below.setCell (p := ⟨w.heap.size, 1, none⟩) (Below.setCell (p := ⟨w.heap.size, 0, none⟩) HLW.out (Nat.le_refl _) _) (Nat.le_refl _) _) (Nat.le_refl _) _) (Nat.le_refl _) _)
    · have hne : ((zs.length : Int) != 4) = true := by simp; omega
      clear hp hlen
      go_enter Try.func121, Try.ntmps121
      go_wp2_with fail
      refine bodyPost_ret (v := .tuple #[.agg #[.int .i64 0, .int .i64 0, .int .i64 0, .int .i64 0], .bool false]) ?_ rfl ?_
      · rw [results_cell_tmp rfl]
        go_simp
      · refine ⟨by rw [HA.out]; rfl, ?_⟩
        exact (Below.setCell (p := ⟨w.heap.size, 3, none⟩) (Below.setCell (p := ⟨w.heap.size, 2, none⟩) (Below.setCell (p := ⟨w.heap.size, 1, none⟩) (Below.setCell (p := ⟨w.heap.size, 0, none⟩) HLW.out (Nat.le_refl _) _) (Nat.le_refl _) _) (Nat.le_refl _) _) (Nat.le_refl _) _)
  · have HOK := hid (show zs.all (within (-10000) 10000) = true by
      unfold partsB at hp; rw [Bool.and_eq_true] at hp; exact hp.2)
    have HA := hid (show facL4 zs = zs by unfold facL4; rw [if_pos hp])
    obtain ⟨a0, a1, a2, a3, rfl, _⟩ := partsB_4 hp
    obtain ⟨ad, cap, rfl, e0, e1, e2, e3⟩ := h.at4
    replace e0 := HLW.out.cell e0
    replace e1 := HLW.out.cell e1
    replace e2 := HLW.out.cell e2
    replace e3 := HLW.out.cell e3
    clear hp
    have harr : ∀ w0, (Instr.arrayAt 57 (.slice (some ad) 4 cap)).run Try.prog w0 = .ok (.pointer (some ad)) w0 := fun w0 => by
      simp [Instr.arrayAt, run_underlying Try.underlying57]
    go_enter Try.func121, Try.ntmps121
    go_wp2_with (go_at_call 137; refine (areWithin_as _ [a0, a1, a2, a3] 10000 _ _ (by omega) HOK.out (H.out.later HLW.out)).mono ?_; rintro e w3 ⟨rfl, rfl⟩)
    refine bodyPost_ret (v := .tuple #[.agg #[.int .i64 a0, .int .i64 a1, .int .i64 a2, .int .i64 a3], .bool true]) ?_ rfl ?_
    · rw [results_cell_tmp rfl]
      go_simp
    · refine ⟨by rw [HA.out]; rfl, ?_⟩
      exact (Below.setCell (p := ⟨w.heap.size, 3, none⟩) (Below.setCell (p := ⟨w.heap.size, 2, none⟩) (Below.setCell (p := ⟨w.heap.size, 1, none⟩) (Below.setCell (p := ⟨w.heap.size, 0, none⟩) HLW.out (Nat.le_refl _) _) (Nat.le_refl _) _) (Nat.le_refl _) _) (Nat.le_refl _) _)
end Go.Proofs.Ytofmmegpadojlaa
