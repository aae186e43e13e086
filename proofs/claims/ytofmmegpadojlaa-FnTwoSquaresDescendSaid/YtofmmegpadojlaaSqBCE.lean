/- SqBC, SqBD, SqBE: in one text. -/
import Derived.Test.YtofmmegpadojlaaSqBA
import Derived.Deep.AppendLies
namespace Go.Proofs.Ytofmmegpadojlaa
open Go.RowKit


/-- A box that holds a list of numbers. -/
def NBox (w : World) (B : Nat) (zs : List Int) : Prop := ∀ j z, zs[j]? = some z → w.cell? ⟨B, j, none⟩ = some (.int .i64 z) ∧ w.frozen? ⟨B, j, none⟩ = false
theorem NBox.keep {w w' : World} {B : Nat} {zs : List Int} (h : NBox w B zs) (k : w'.heap[B]? = w.heap[B]?) : NBox w' B zs :=
  fun j z hj => ⟨cell_keep (h j z hj).1 k, (World.frozen?_of_block k).trans (h j z hj).2⟩
theorem NBox.later {w w' : World} {B : Nat} {zs : List Int} (h : NBox w B zs) (k : Later w w') : NBox w' B zs :=
  fun j z hj => ⟨k.cell (h j z hj).1, k.frozen (h j z hj).1 (h j z hj).2⟩
theorem NBox.of_block {w : World} {B : Nat} {zs : List Int} {cs : Array Value} {t : TypeId} (hc : cs = (zs.map (Value.int .i64)).toArray) (h : w.heap[B]? = some (.cells cs t (0, 0))) : NBox w B zs := by
  subst hc
  intro j z hj
  constructor
  · simp [World.cell?, h, hj]
  · simp [World.frozen?, h]
theorem NBox.new (w : World) (zs : List Int) (cs : Array Value) (t : TypeId) (hc : cs = (zs.map (Value.int .i64)).toArray) : NBox (w.alloc (.cells cs t)) w.heap.size zs := NBox.of_block hc (heap_alloc_new w _)
theorem setN_far (w : World) (B b i : Nat) (v : Value) (h : b ≠ B) : (w.setCell ⟨B, i, none⟩ v).heap[b]? = w.heap[b]? := heap_setCell_other w ⟨B, i, none⟩ b v h
def facL2 (zs : List Int) : List Int := if partsB 2 zs = true then zs else [0, 0]
set_option maxRecDepth 20000 in
set_option maxHeartbeats 4000000 in
theorem factorOf2_any (v : Value) (zs : List Int) (w : World) (h : Ints w v zs) :
    Calls Try.prog 125 #[v] w fun e w' => e = .returned (.tuple #[.agg ((facL2 zs).map (Value.int .i64)).toArray, .bool (partsB 2 zs)]) ∧ Later w w' := by
  have H := hid h
  have HL2 := hid (Later.alloc (w.alloc (.cells #[.int .i64 0, .int .i64 0] 42)) (.cells #[.int .i64 0, .int .i64 0] 42))
  have HLW := hid ((Later.alloc w (.cells #[.int .i64 0, .int .i64 0] 42)).trans HL2.out)
  have HB1 := hid ((NBox.new w [0, 0] #[.int .i64 0, .int .i64 0] 42 rfl).later HL2.out)
  have HB2 := hid (NBox.new (w.alloc (.cells #[.int .i64 0, .int .i64 0] 42)) [0, 0] #[.int .i64 0, .int .i64 0] 42 rfl)
  rw [World.size_alloc] at HB2
  obtain ⟨W2, hW2⟩ : ∃ W2, (w.alloc (.cells #[.int .i64 0, .int .i64 0] 42)).alloc (.cells #[.int .i64 0, .int .i64 0] 42) = W2 := ⟨_, rfl⟩
  rw [hW2] at HL2 HLW HB1 HB2
  have c0 := (HB1.out 0 0 rfl).1
  have f0 := (HB1.out 0 0 rfl).2
  have d0 := (HB2.out 0 0 rfl).1
  have c1 := (HB1.out 1 0 rfl).1
  have f1 := (HB1.out 1 0 rfl).2
  have d1 := (HB2.out 1 0 rfl).1
  cases hp : partsB 2 zs
  · have HA := hid (show facL2 zs = [0, 0] by unfold facL2; rw [if_neg (by rw [hp]; simp)])
    obtain ⟨a, cap, rfl, hl, _⟩ := h
    by_cases hlen : zs.length = 2
    · have HOK := hid (show zs.all (within (-10000) 10000) = false by
        unfold partsB at hp; rw [decide_eq_true hlen, Bool.true_and] at hp; exact hp)
      have hne : ((zs.length : Int) != 2) = false := by simp [hlen]
      clear hp hlen
      go_enter Try.func125, Try.ntmps125
      go_wp2_with (go_at_call 137; refine (areWithin_as _ zs 10000 _ _ (by omega) HOK.out (H.out.later HLW.out)).mono ?_; rintro e w3 ⟨rfl, rfl⟩)
      refine bodyPost_ret (v := .tuple #[.agg #[.int .i64 0, .int .i64 0], .bool false]) ?_ rfl ?_
      · rw [results_cell_tmp rfl]
        go_simp
      · refine ⟨by rw [HA.out]; rfl, ?_⟩
        exact (Below.setCell (p := ⟨w.heap.size, 1, none⟩) (Below.setCell (p := ⟨w.heap.size, 0, none⟩) HLW.out (Nat.le_refl _) _) (Nat.le_refl _) _)
    · have hne : ((zs.length : Int) != 2) = true := by simp; omega
      clear hp hlen
      go_enter Try.func125, Try.ntmps125
      go_wp2_with fail
      refine bodyPost_ret (v := .tuple #[.agg #[.int .i64 0, .int .i64 0], .bool false]) ?_ rfl ?_
      · rw [results_cell_tmp rfl]
        go_simp
      · refine ⟨by rw [HA.out]; rfl, ?_⟩
        exact (Below.setCell (p := ⟨w.heap.size, 1, none⟩) (Below.setCell (p := ⟨w.heap.size, 0, none⟩) HLW.out (Nat.le_refl _) _) (Nat.le_refl _) _)
  · have HOK := hid (show zs.all (within (-10000) 10000) = true by
      unfold partsB at hp; rw [Bool.and_eq_true] at hp; exact hp.2)
    have HA := hid (show facL2 zs = zs by unfold facL2; rw [if_pos hp])
    obtain ⟨a0, a1, rfl, _⟩ := partsB_2 hp
    obtain ⟨ad, cap, rfl, e0, e1⟩ := h.at2
    replace e0 := HLW.out.cell e0
    replace e1 := HLW.out.cell e1
    clear hp
    have harr : ∀ w0, (Instr.arrayAt 42 (.slice (some ad) 2 cap)).run Try.prog w0 = .ok (.pointer (some ad)) w0 := fun w0 => by
      simp [Instr.arrayAt, run_underlying Try.underlying42]
    go_enter Try.func125, Try.ntmps125
    go_wp2_with (go_at_call 137; refine (areWithin_as _ [a0, a1] 10000 _ _ (by omega) HOK.out (H.out.later HLW.out)).mono ?_; rintro e w3 ⟨rfl, rfl⟩)
    refine bodyPost_ret (v := .tuple #[.agg #[.int .i64 a0, .int .i64 a1], .bool true]) ?_ rfl ?_
    · rw [results_cell_tmp rfl]
      go_simp
    · refine ⟨by rw [HA.out]; rfl, ?_⟩
      exact (Below.setCell (p := ⟨w.heap.size, 1, none⟩) (Below.setCell (p := ⟨w.heap.size, 0, none⟩) HLW.out (Nat.le_refl _) _) (Nat.le_refl _) _)
def facL4 (zs : List Int) : List Int := if partsB 4 zs = true then zs else [0, 0, 0, 0]
set_option maxRecDepth 20000 in
set_option maxHeartbeats 4000000 in
theorem factorOf4_any (v : Value) (zs : List Int) (w : World) (h : Ints w v zs) :
    Calls Try.prog 121 #[v] w fun e w' => e = .returned (.tuple #[.agg ((facL4 zs).map (Value.int .i64)).toArray, .bool (partsB 4 zs)]) ∧ Later w w' := by
  have H := hid h
  have HL2 := hid (Later.alloc (w.alloc (.cells #[.int .i64 0, .int .i64 0, .int .i64 0, .int .i64 0] 57)) (.cells #[.int .i64 0, .int .i64 0, .int .i64 0, .int .i64 0] 57))
  have HLW := hid ((Later.alloc w (.cells #[.int .i64 0, .int .i64 0, .int .i64 0, .int .i64 0] 57)).trans HL2.out)
  have HB1 := hid ((NBox.new w [0, 0, 0, 0] #[.int .i64 0, .int .i64 0, .int .i64 0, .int .i64 0] 57 rfl).later HL2.out)
  have HB2 := hid (NBox.new (w.alloc (.cells #[.int .i64 0, .int .i64 0, .int .i64 0, .int .i64 0] 57)) [0, 0, 0, 0] #[.int .i64 0, .int .i64 0, .int .i64 0, .int .i64 0] 57 rfl)
  rw [World.size_alloc] at HB2
  obtain ⟨W2, hW2⟩ : ∃ W2, (w.alloc (.cells #[.int .i64 0, .int .i64 0, .int .i64 0, .int .i64 0] 57)).alloc (.cells #[.int .i64 0, .int .i64 0, .int .i64 0, .int .i64 0] 57) = W2 := ⟨_, rfl⟩
  rw [hW2] at HL2 HLW HB1 HB2
  have c0 := (HB1.out 0 0 rfl).1
  have f0 := (HB1.out 0 0 rfl).2
  have d0 := (HB2.out 0 0 rfl).1
  have c1 := (HB1.out 1 0 rfl).1
  have f1 := (HB1.out 1 0 rfl).2
  have d1 := (HB2.out 1 0 rfl).1
  have c2 := (HB1.out 2 0 rfl).1
  have f2 := (HB1.out 2 0 rfl).2
  have d2 := (HB2.out 2 0 rfl).1
  have c3 := (HB1.out 3 0 rfl).1
  have f3 := (HB1.out 3 0 rfl).2
  have d3 := (HB2.out 3 0 rfl).1
  cases hp : partsB 4 zs
  · have HA := hid (show facL4 zs = [0, 0, 0, 0] by unfold facL4; rw [if_neg (by rw [hp]; simp)])
    obtain ⟨a, cap, rfl, hl, _⟩ := h
    by_cases hlen : zs.length = 4
    · have HOK := hid (show zs.all (within (-10000) 10000) = false by
        unfold partsB at hp; rw [decide_eq_true hlen, Bool.true_and] at hp; exact hp)
      have hne : ((zs.length : Int) != 4) = false := by simp [hlen]
      clear hp hlen
      go_enter Try.func121, Try.ntmps121
      go_wp2_with (go_at_call 137; refine (areWithin_as _ zs 10000 _ _ (by omega) HOK.out (H.out.later HLW.out)).mono ?_; rintro e w3 ⟨rfl, rfl⟩)
      refine bodyPost_ret (v := .tuple #[.agg #[.int .i64 0, .int .i64 0, .int .i64 0, .int .i64 0], .bool false]) ?_ rfl ?_
      · rw [results_cell_tmp rfl]
        go_simp
      · refine ⟨by rw [HA.out]; rfl, ?_⟩
        exact (Below.setCell (p := ⟨w.heap.size, 3, none⟩) (Below.setCell (p := ⟨w.heap.size, 2, none⟩) (Below.setCell (p := ⟨w.heap.size, 1, none⟩) (Below.setCell (p := ⟨w.heap.size, 0, none⟩) HLW.out (Nat.le_refl _) _) (Nat.le_refl _) _) (Nat.le_refl _) _) (Nat.le_refl _) _)
    · have hne : ((zs.length : Int) != 4) = true := by simp; omega
      clear hp hlen
      go_enter Try.func121, Try.ntmps121
      go_wp2_with fail
      refine bodyPost_ret (v := .tuple #[.agg #[.int .i64 0, .int .i64 0, .int .i64 0, .int .i64 0], .bool false]) ?_ rfl ?_
      · rw [results_cell_tmp rfl]
        go_simp
      · refine ⟨by rw [HA.out]; rfl, ?_⟩
        exact (Below.setCell (p := ⟨w.heap.size, 3, none⟩) (Below.setCell (p := ⟨w.heap.size, 2, none⟩) (Below.setCell (p := ⟨w.heap.size, 1, none⟩) (Below.setCell (p := ⟨w.heap.size, 0, none⟩) HLW.out (Nat.le_refl _) _) (Nat.le_refl _) _) (Nat.le_refl _) _) (Nat.le_refl _) _)
  · have HOK := hid (show zs.all (within (-10000) 10000) = true by
      unfold partsB at hp; rw [Bool.and_eq_true] at hp; exact hp.2)
    have HA := hid (show facL4 zs = zs by unfold facL4; rw [if_pos hp])
    obtain ⟨a0, a1, a2, a3, rfl, _⟩ := partsB_4 hp
    obtain ⟨ad, cap, rfl, e0, e1, e2, e3⟩ := h.at4
    replace e0 := HLW.out.cell e0
    replace e1 := HLW.out.cell e1
    replace e2 := HLW.out.cell e2
    replace e3 := HLW.out.cell e3
    clear hp
    have harr : ∀ w0, (Instr.arrayAt 57 (.slice (some ad) 4 cap)).run Try.prog w0 = .ok (.pointer (some ad)) w0 := fun w0 => by
      simp [Instr.arrayAt, run_underlying Try.underlying57]
    go_enter Try.func121, Try.ntmps121
    go_wp2_with (go_at_call 137; refine (areWithin_as _ [a0, a1, a2, a3] 10000 _ _ (by omega) HOK.out (H.out.later HLW.out)).mono ?_; rintro e w3 ⟨rfl, rfl⟩)
    refine bodyPost_ret (v := .tuple #[.agg #[.int .i64 a0, .int .i64 a1, .int .i64 a2, .int .i64 a3], .bool true]) ?_ rfl ?_
    · rw [results_cell_tmp rfl]
      go_simp
    · refine ⟨by rw [HA.out]; rfl, ?_⟩
      exact (Below.setCell (p := ⟨w.heap.size, 3, none⟩) (Below.setCell (p := ⟨w.heap.size, 2, none⟩) (Below.setCell (p := ⟨w.heap.size, 1, none⟩) (Below.setCell (p := ⟨w.heap.size, 0, none⟩) HLW.out (Nat.le_refl _) _) (Nat.le_refl _) _) (Nat.le_refl _) _) (Nat.le_refl _) _)


theorem results_cellN {fn : Func} {p : Tmp} {ty : TypeId} (h : fn.results = #[.cell p ty]) (tmps : Array Value) (P : Program) (w : World) :
    (results fn tmps).run P w = ((asAddr (tmps.getD p undef)).run P w).andThen fun a w₁ => (loadVar ty a).run P w₁ := by
  simp only [results, h]
  simp [Sem.run_bind, Result.andThen]
set_option maxRecDepth 100000 in
set_option maxHeartbeats 8000000 in
theorem product2_any (a b x y : Int) (w : World) (ha : In6 a) (hb : In6 b) (hx : In6 x) (hy : In6 y) :
    Calls Try.prog 93 #[.agg #[.int .i64 a, .int .i64 b], .agg #[.int .i64 x, .int .i64 y]] w fun e w' => e = .returned (.agg #[.int .i64 (a * x - b * y), .int .i64 (a * y + b * x)]) ∧ Later w w' := by
  have m0 := mulBd ha hx (by omega)
  have m1 := mulBd ha hy (by omega)
  have m2 := mulBd hb hx (by omega)
  have m3 := mulBd hb hy (by omega)
  have L1 := Later.alloc w (.cells #[.int .i64 a, .int .i64 b] 42)
  have L2 := Later.alloc (w.alloc (.cells #[.int .i64 a, .int .i64 b] 42)) (.cells #[.int .i64 x, .int .i64 y] 42)
  have L3 := Later.alloc ((w.alloc (.cells #[.int .i64 a, .int .i64 b] 42)).alloc (.cells #[.int .i64 x, .int .i64 y] 42)) (.cells #[.int .i64 0, .int .i64 0] 42)
  have HA := hid (((NBox.new w [a, b] #[.int .i64 a, .int .i64 b] 42 rfl).later L2).later L3)
  have HB := hid ((NBox.new (w.alloc (.cells #[.int .i64 a, .int .i64 b] 42)) [x, y] #[.int .i64 x, .int .i64 y] 42 rfl).later L3)
  have HR := hid (NBox.new ((w.alloc (.cells #[.int .i64 a, .int .i64 b] 42)).alloc (.cells #[.int .i64 x, .int .i64 y] 42)) [0, 0] #[.int .i64 0, .int .i64 0] 42 rfl)
  have HL := hid ((L1.trans L2).trans L3)
  simp only [World.size_alloc] at HB HR
  clear L1 L2 L3 ha hb hx hy
  obtain ⟨W, hW⟩ : ∃ W, ((w.alloc (.cells #[.int .i64 a, .int .i64 b] 42)).alloc (.cells #[.int .i64 x, .int .i64 y] 42)).alloc (.cells #[.int .i64 0, .int .i64 0] 42) = W := ⟨_, rfl⟩
  rw [hW] at HA HB HR HL
  have c0 := (HA.out 0 a rfl).1
  have d0 := (HB.out 0 x rfl).1
  have r0 := (HR.out 0 0 rfl).1
  have f0 := (HR.out 0 0 rfl).2
  have c1 := (HA.out 1 b rfl).1
  have d1 := (HB.out 1 y rfl).1
  have r1 := (HR.out 1 0 rfl).1
  have f1 := (HR.out 1 0 rfl).2
  go_enter Try.func93, Try.ntmps93
  go_wp2_with fail
  refine bodyPost_ret (v := .agg #[.int .i64 (a * x - b * y), .int .i64 (a * y + b * x)]) ?_ rfl ?_
  · rw [results_cellN rfl]
    go_simp
  · exact ⟨rfl, (Below.setCell (p := ⟨w.heap.size + 1 + 1, 1, none⟩) (Below.setCell (p := ⟨w.heap.size + 1 + 1, 0, none⟩) HL.out (by simp only; omega) _) (by simp only; omega) _)⟩
set_option maxRecDepth 100000 in
set_option maxHeartbeats 8000000 in
theorem mirrored_any (a b x y : Int) (w : World) (ha : In6 a) (hb : In6 b) (hx : In6 x) (hy : In6 y) :
    Calls Try.prog 58 #[.agg #[.int .i64 a, .int .i64 b], .agg #[.int .i64 x, .int .i64 y]] w fun e w' => e = .returned (.agg #[.int .i64 (a * x + b * y), .int .i64 (a * y - b * x)]) ∧ Later w w' := by
  have L1 := Later.alloc w (.cells #[.int .i64 a, .int .i64 b] 42)
  have L2 := Later.alloc (w.alloc (.cells #[.int .i64 a, .int .i64 b] 42)) (.cells #[.int .i64 x, .int .i64 y] 42)
  have L3 := Later.alloc ((w.alloc (.cells #[.int .i64 a, .int .i64 b] 42)).alloc (.cells #[.int .i64 x, .int .i64 y] 42)) (.cells #[.int .i64 0, .int .i64 0] 42)
  have HA := hid (((NBox.new w [a, b] #[.int .i64 a, .int .i64 b] 42 rfl).later L2).later L3)
  have HB := hid ((NBox.new (w.alloc (.cells #[.int .i64 a, .int .i64 b] 42)) [x, y] #[.int .i64 x, .int .i64 y] 42 rfl).later L3)
  have HR := hid (NBox.new ((w.alloc (.cells #[.int .i64 a, .int .i64 b] 42)).alloc (.cells #[.int .i64 x, .int .i64 y] 42)) [0, 0] #[.int .i64 0, .int .i64 0] 42 rfl)
  have HL := hid ((L1.trans L2).trans L3)
  simp only [World.size_alloc] at HB HR
  clear L1 L2 L3
  obtain ⟨W, hW⟩ : ∃ W, ((w.alloc (.cells #[.int .i64 a, .int .i64 b] 42)).alloc (.cells #[.int .i64 x, .int .i64 y] 42)).alloc (.cells #[.int .i64 0, .int .i64 0] 42) = W := ⟨_, rfl⟩
  rw [hW] at HA HB HR HL
  have c0 := (HA.out 0 a rfl).1
  have d0 := (HB.out 0 x rfl).1
  have c1 := (HA.out 1 b rfl).1
  have d1 := (HB.out 1 y rfl).1
  have HP := hid (fun w => product2_any a (-b) x y w ha ⟨by have := hb.2; omega, by have := hb.1; omega⟩ hx hy)
  have e1 : a * x - -b * y = a * x + b * y := by grind
  have e2 : a * y + -b * x = a * y - b * x := by grind
  rw [e1, e2] at HP
  have hbw : IntKind.i64.wrap (-b) = -b := by rw [IntWalk.i64_left]; exact IntWalk.wrap64_in _ (by have := hb.1; have := hb.2; omega)
  clear e1 e2 ha hb hx hy
  go_enter Try.func58, Try.ntmps58
  go_wp2_with (go_at_call 93; refine (HP.out _).mono ?_; rintro e w3 ⟨rfl, hL3⟩; have HR3 := hid (HR.out.later hL3); have HL3 := hid (HL.out.trans hL3); clear hL3; have r0 := (HR3.out 0 0 rfl).1; have f0 := (HR3.out 0 0 rfl).2; have r1 := (HR3.out 1 0 rfl).1; have f1 := (HR3.out 1 0 rfl).2)
  refine bodyPost_ret (v := .agg #[.int .i64 (a * x + b * y), .int .i64 (a * y - b * x)]) ?_ rfl ?_
  · rw [results_cellN rfl]
    go_simp
  · exact ⟨rfl, (Below.setCell (p := ⟨w.heap.size + 1 + 1, 1, none⟩) (Below.setCell (p := ⟨w.heap.size + 1 + 1, 0, none⟩) HL3.out (by simp only; omega) _) (by simp only; omega) _)⟩
set_option maxRecDepth 100000 in
set_option maxHeartbeats 8000000 in
theorem product4_any (a b c d x y z t : Int) (w : World) (ha : In6 a) (hb : In6 b) (hc : In6 c) (hd : In6 d) (hx : In6 x) (hy : In6 y) (hz : In6 z) (ht : In6 t) :
    Calls Try.prog 74 #[.agg #[.int .i64 a, .int .i64 b, .int .i64 c, .int .i64 d], .agg #[.int .i64 x, .int .i64 y, .int .i64 z, .int .i64 t]] w fun e w' => e = .returned (.agg #[.int .i64 (a * x + b * y + c * z + d * t), .int .i64 (a * y - b * x + c * t - d * z), .int .i64 (a * z - c * x + d * y - b * t), .int .i64 (a * t - d * x + b * z - c * y)]) ∧ Later w w' := by
  have m0 := mulBd ha hx (by omega)
  have m1 := mulBd ha hy (by omega)
  have m2 := mulBd ha hz (by omega)
  have m3 := mulBd ha ht (by omega)
  have m4 := mulBd hb hx (by omega)
  have m5 := mulBd hb hy (by omega)
  have m6 := mulBd hb hz (by omega)
  have m7 := mulBd hb ht (by omega)
  have m8 := mulBd hc hx (by omega)
  have m9 := mulBd hc hy (by omega)
  have m10 := mulBd hc hz (by omega)
  have m11 := mulBd hc ht (by omega)
  have m12 := mulBd hd hx (by omega)
  have m13 := mulBd hd hy (by omega)
  have m14 := mulBd hd hz (by omega)
  have m15 := mulBd hd ht (by omega)
  have L1 := Later.alloc w (.cells #[.int .i64 a, .int .i64 b, .int .i64 c, .int .i64 d] 57)
  have L2 := Later.alloc (w.alloc (.cells #[.int .i64 a, .int .i64 b, .int .i64 c, .int .i64 d] 57)) (.cells #[.int .i64 x, .int .i64 y, .int .i64 z, .int .i64 t] 57)
  have L3 := Later.alloc ((w.alloc (.cells #[.int .i64 a, .int .i64 b, .int .i64 c, .int .i64 d] 57)).alloc (.cells #[.int .i64 x, .int .i64 y, .int .i64 z, .int .i64 t] 57)) (.cells #[.int .i64 0, .int .i64 0, .int .i64 0, .int .i64 0] 57)
  have HA := hid (((NBox.new w [a, b, c, d] #[.int .i64 a, .int .i64 b, .int .i64 c, .int .i64 d] 57 rfl).later L2).later L3)
  have HB := hid ((NBox.new (w.alloc (.cells #[.int .i64 a, .int .i64 b, .int .i64 c, .int .i64 d] 57)) [x, y, z, t] #[.int .i64 x, .int .i64 y, .int .i64 z, .int .i64 t] 57 rfl).later L3)
  have HR := hid (NBox.new ((w.alloc (.cells #[.int .i64 a, .int .i64 b, .int .i64 c, .int .i64 d] 57)).alloc (.cells #[.int .i64 x, .int .i64 y, .int .i64 z, .int .i64 t] 57)) [0, 0, 0, 0] #[.int .i64 0, .int .i64 0, .int .i64 0, .int .i64 0] 57 rfl)
  have HL := hid ((L1.trans L2).trans L3)
  simp only [World.size_alloc] at HB HR
  clear L1 L2 L3 ha hb hc hd hx hy hz ht
  obtain ⟨W, hW⟩ : ∃ W, ((w.alloc (.cells #[.int .i64 a, .int .i64 b, .int .i64 c, .int .i64 d] 57)).alloc (.cells #[.int .i64 x, .int .i64 y, .int .i64 z, .int .i64 t] 57)).alloc (.cells #[.int .i64 0, .int .i64 0, .int .i64 0, .int .i64 0] 57) = W := ⟨_, rfl⟩
  rw [hW] at HA HB HR HL
  have c0 := (HA.out 0 a rfl).1
  have d0 := (HB.out 0 x rfl).1
  have r0 := (HR.out 0 0 rfl).1
  have f0 := (HR.out 0 0 rfl).2
  have c1 := (HA.out 1 b rfl).1
  have d1 := (HB.out 1 y rfl).1
  have r1 := (HR.out 1 0 rfl).1
  have f1 := (HR.out 1 0 rfl).2
  have c2 := (HA.out 2 c rfl).1
  have d2 := (HB.out 2 z rfl).1
  have r2 := (HR.out 2 0 rfl).1
  have f2 := (HR.out 2 0 rfl).2
  have c3 := (HA.out 3 d rfl).1
  have d3 := (HB.out 3 t rfl).1
  have r3 := (HR.out 3 0 rfl).1
  have f3 := (HR.out 3 0 rfl).2
  go_enter Try.func74, Try.ntmps74
  go_wp2_with fail
  refine bodyPost_ret (v := .agg #[.int .i64 (a * x + b * y + c * z + d * t), .int .i64 (a * y - b * x + c * t - d * z), .int .i64 (a * z - c * x + d * y - b * t), .int .i64 (a * t - d * x + b * z - c * y)]) ?_ rfl ?_
  · rw [results_cellN rfl]
    go_simp
  · exact ⟨rfl, (Below.setCell (p := ⟨w.heap.size + 1 + 1, 3, none⟩) (Below.setCell (p := ⟨w.heap.size + 1 + 1, 2, none⟩) (Below.setCell (p := ⟨w.heap.size + 1 + 1, 1, none⟩) (Below.setCell (p := ⟨w.heap.size + 1 + 1, 0, none⟩) HL.out (by simp only; omega) _) (by simp only; omega) _) (by simp only; omega) _) (by simp only; omega) _)⟩


theorem NBox.put {w : World} {B : Nat} {zs : List Int} (h : NBox w B zs) (i : Nat) (x : Int) : NBox (w.setCell ⟨B, i, none⟩ (.int .i64 x)) B (zs.set i x) := by
  intro j z hj
  by_cases e : i = j
  · subst e
    have hlt : i < zs.length := by have := (List.getElem?_eq_some_iff.1 hj).1; simpa using this
    rw [List.getElem?_set_self hlt] at hj
    cases hj
    have h0 := h i zs[i] (by simp [hlt])
    exact ⟨World.cell?_setCell_same _ _ _ h0.1, by rw [World.frozen?_setCell]; exact h0.2⟩
  · rw [List.getElem?_set_ne e] at hj
    have h0 := h j z hj
    exact ⟨(World.cell?_setCell_other _ _ _ _ (by intro e2; injection e2 with _ e3; exact e e3)).trans h0.1, by rw [World.frozen?_setCell]; exact h0.2⟩
theorem NBox.all2 {w : World} {B : Nat} {a0 a1 : Int} (h : NBox w B [a0, a1]) (b0 b1 : Int) : NBox ((w.setCell ⟨B, 0, none⟩ (.int .i64 b0)).setCell ⟨B, 1, none⟩ (.int .i64 b1)) B [b0, b1] := by
  have h1 := NBox.put (zs := [a0, a1]) h 0 b0
  have h2 := NBox.put (zs := [b0, a1]) h1 1 b1
  exact h2
theorem NBox.all4 {w : World} {B : Nat} {a0 a1 a2 a3 : Int} (h : NBox w B [a0, a1, a2, a3]) (b0 b1 b2 b3 : Int) : NBox ((((w.setCell ⟨B, 0, none⟩ (.int .i64 b0)).setCell ⟨B, 1, none⟩ (.int .i64 b1)).setCell ⟨B, 2, none⟩ (.int .i64 b2)).setCell ⟨B, 3, none⟩ (.int .i64 b3)) B [b0, b1, b2, b3] := by
  have h1 := NBox.put (zs := [a0, a1, a2, a3]) h 0 b0
  have h2 := NBox.put (zs := [b0, a1, a2, a3]) h1 1 b1
  have h3 := NBox.put (zs := [b0, b1, a2, a3]) h2 2 b2
  have h4 := NBox.put (zs := [b0, b1, b2, a3]) h3 3 b3
  exact h4
set_option maxRecDepth 20000 in
set_option maxHeartbeats 4000000 in
theorem listC2_any (x0 x1 : Int) (w : World) :
    Calls Try.prog 103 #[.agg #[.int .i64 x0, .int .i64 x1]] w fun e w' => MadeInts w [x0, x1] e w' := by
  obtain ⟨i0, hi, hz0, hz1, hz2⟩ := info_parts Try.infoInt
  have HB := hid hz2
  have HX := hid (NBox.new w [x0, x1] #[.int .i64 x0, .int .i64 x1] 71 rfl)
  have HLA := hid (Later.alloc w (.cells #[.int .i64 x0, .int .i64 x1] 71))
  have c0 := (HX.out 0 x0 rfl).1
  have c1 := (HX.out 1 x1 rfl).1
  obtain ⟨zs, hzs⟩ : ∃ zs, [x0, x1] = zs := ⟨_, rfl⟩
  rw [hzs] at HX ⊢
  have HZL := hid (show zs.length = 2 by rw [← hzs]; rfl)
  clear hzs
  go_enter Try.func103, Try.ntmps103
  obtain ⟨w0, hw0⟩ : ∃ w0, w.alloc (.cells #[.int .i64 x0, .int .i64 x1] 71) = w0 := ⟨_, rfl⟩
  have HW0 := hid (show w0.heap.size = w.heap.size + 1 by rw [← hw0]; simp)
  rw [hw0] at HX HLA c0 c1
  go_wp2_with (at_make; refine wpList_make_full _ rfl _ _ 33 rfl w.heap.size 3 i0 (.int .i64 0) 1 Try.underlying33 hi hz0 hz1 _ _ _ _ 2 rfl rfl rfl rfl ?b2 ?b3 ?b4 ?_)
  case b2 => rw [HB.out]; omega
  case b3 => unfold maxLen; omega
  case b4 => rw [HW0.out]; omega
  intro w1 hown hgrow
  have hL1 : Later w0 w1 := (Below.refl _ _).grown hgrow (Nat.le_refl _) (by simp)
  have HL := hid (HLA.out.trans hL1)
  have HX1 := hid (HX.out.keep (hL1.block w.heap.size (by rw [HW0.out]; omega)))
  have HF := hid (show Filled w.heap.size 3 w1 (.slice (some ⟨w0.heap.size, 0, none⟩) 2 2) 2 0 (zs.map (Value.int .i64)) from ⟨_, hown, by simp⟩)
  obtain ⟨s0, hs0⟩ : ∃ s, w0.heap.size = s := ⟨_, rfl⟩
  rw [hs0] at HF HW0 ⊢
  have HWS := hid HW0.out
  clear hown hgrow hL1 c0 c1 HLA HX hw0 hs0 HW0
  go_wp2
  go_loopw [11] (fun i wr => ∃ k : Nat, k ≤ 2 ∧ i = .int .i64 k ∧ Filled w.heap.size 3 wr (.slice (some ⟨s0, 0, none⟩) 2 2) 2 k (zs.map (Value.int .i64)) ∧ NBox wr w.heap.size zs ∧ Later w wr)
    (fun i _ => 2 - (intOf i).toNat)
  case atStart => exact ⟨0, Nat.zero_le _, rfl, HF.out, HX1.out, HL.out⟩
  case round =>
    clear HF HX1 HL
    obtain ⟨k, hk, rfl, hFk, hXk, hLk⟩ := hrel
    by_cases hlt : (k : Int) < 2
    · have hkN : k < 2 := by omega
      obtain ⟨z, hz⟩ : ∃ z, zs[k]? = some z := ⟨zs[k]'(by rw [HZL.out]; omega), by simp [HZL.out, hkN]⟩
      have hcell := (hXk k z hz).1
      obtain ⟨⟨u0, hu0⟩, hfr⟩ := hFk.at hkN
      have HF := hid (hFk.step hkN (u := .int .i64 z) (by simp [hz]))
      have HL := hid (show Later w (wr.setCell ⟨s0, k, none⟩ (.int .i64 z)) from hLk.setCell (by have := HWS.out; simp only; omega) _)
      have HX := hid (hXk.keep (heap_setCell_other wr ⟨s0, k, none⟩ w.heap.size (.int .i64 z) (by have := HWS.out; simp only; omega)))
      clear hFk hXk hLk hz
      go_wp2
      go_roundw
      case rel => exact ⟨k + 1, by omega, by go_num, HF.out, HX.out, HL.out⟩
      case measure => simp [intOf]; omega
    · have hke : k = 2 := by omega
      subst hke
      go_wp2
      go_ret
      have ho := hFk.full (by simp [HZL.out])
      exact ⟨_, rfl, ⟨by rw [HZL.out]; exact ho, fun b hb => (ho.lt b hb).2⟩, hLk⟩
set_option maxRecDepth 20000 in
set_option maxHeartbeats 4000000 in
theorem listC4_any (x0 x1 x2 x3 : Int) (w : World) :
    Calls Try.prog 117 #[.agg #[.int .i64 x0, .int .i64 x1, .int .i64 x2, .int .i64 x3]] w fun e w' => MadeInts w [x0, x1, x2, x3] e w' := by
  obtain ⟨i0, hi, hz0, hz1, hz2⟩ := info_parts Try.infoInt
  have HB := hid hz2
  have HX := hid (NBox.new w [x0, x1, x2, x3] #[.int .i64 x0, .int .i64 x1, .int .i64 x2, .int .i64 x3] 82 rfl)
  have HLA := hid (Later.alloc w (.cells #[.int .i64 x0, .int .i64 x1, .int .i64 x2, .int .i64 x3] 82))
  have c0 := (HX.out 0 x0 rfl).1
  have c1 := (HX.out 1 x1 rfl).1
  have c2 := (HX.out 2 x2 rfl).1
  have c3 := (HX.out 3 x3 rfl).1
  obtain ⟨zs, hzs⟩ : ∃ zs, [x0, x1, x2, x3] = zs := ⟨_, rfl⟩
  rw [hzs] at HX ⊢
  have HZL := hid (show zs.length = 4 by rw [← hzs]; rfl)
  clear hzs
  go_enter Try.func117, Try.ntmps117
  obtain ⟨w0, hw0⟩ : ∃ w0, w.alloc (.cells #[.int .i64 x0, .int .i64 x1, .int .i64 x2, .int .i64 x3] 82) = w0 := ⟨_, rfl⟩
  have HW0 := hid (show w0.heap.size = w.heap.size + 1 by rw [← hw0]; simp)
  rw [hw0] at HX HLA c0 c1 c2 c3
  go_wp2_with (at_make; refine wpList_make_full _ rfl _ _ 33 rfl w.heap.size 3 i0 (.int .i64 0) 1 Try.underlying33 hi hz0 hz1 _ _ _ _ 4 rfl rfl rfl rfl ?b2 ?b3 ?b4 ?_)
  case b2 => rw [HB.out]; omega
  case b3 => unfold maxLen; omega
  case b4 => rw [HW0.out]; omega
  intro w1 hown hgrow
  have hL1 : Later w0 w1 := (Below.refl _ _).grown hgrow (Nat.le_refl _) (by simp)
  have HL := hid (HLA.out.trans hL1)
  have HX1 := hid (HX.out.keep (hL1.block w.heap.size (by rw [HW0.out]; omega)))
  have HF := hid (show Filled w.heap.size 3 w1 (.slice (some ⟨w0.heap.size, 0, none⟩) 4 4) 4 0 (zs.map (Value.int .i64)) from ⟨_, hown, by simp⟩)
  obtain ⟨s0, hs0⟩ : ∃ s, w0.heap.size = s := ⟨_, rfl⟩
  rw [hs0] at HF HW0 ⊢
  have HWS := hid HW0.out
  clear hown hgrow hL1 c0 c1 c2 c3 HLA HX hw0 hs0 HW0
  go_wp2
  go_loopw [11] (fun i wr => ∃ k : Nat, k ≤ 4 ∧ i = .int .i64 k ∧ Filled w.heap.size 3 wr (.slice (some ⟨s0, 0, none⟩) 4 4) 4 k (zs.map (Value.int .i64)) ∧ NBox wr w.heap.size zs ∧ Later w wr)
    (fun i _ => 4 - (intOf i).toNat)
  case atStart => exact ⟨0, Nat.zero_le _, rfl, HF.out, HX1.out, HL.out⟩
  case round =>
    clear HF HX1 HL
    obtain ⟨k, hk, rfl, hFk, hXk, hLk⟩ := hrel
    by_cases hlt : (k : Int) < 4
    · have hkN : k < 4 := by omega
      obtain ⟨z, hz⟩ : ∃ z, zs[k]? = some z := ⟨zs[k]'(by rw [HZL.out]; omega), by simp [HZL.out, hkN]⟩
      have hcell := (hXk k z hz).1
      obtain ⟨⟨u0, hu0⟩, hfr⟩ := hFk.at hkN
      have HF := hid (hFk.step hkN (u := .int .i64 z) (by simp [hz]))
      have HL := hid (show Later w (wr.setCell ⟨s0, k, none⟩ (.int .i64 z)) from hLk.setCell (by have := HWS.out; simp only; omega) _)
      have HX := hid (hXk.keep (heap_setCell_other wr ⟨s0, k, none⟩ w.heap.size (.int .i64 z) (by have := HWS.out; simp only; omega)))
      clear hFk hXk hLk hz
      go_wp2
      go_roundw
      case rel => exact ⟨k + 1, by omega, by go_num, HF.out, HX.out, HL.out⟩
      case measure => simp [intOf]; omega
    · have hke : k = 4 := by omega
      subst hke
      go_wp2
      go_ret
      have ho := hFk.full (by simp [HZL.out])
      exact ⟨_, rfl, ⟨by rw [HZL.out]; exact ho, fun b hb => (ho.lt b hb).2⟩, hLk⟩
end Go.Proofs.Ytofmmegpadojlaa
