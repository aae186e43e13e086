/- Rows of pairs: Go's library's deletion by a predicate (IndexFunc, DeleteFunc). -/
import Derived.Test.YtdahhcigphhfdaaJpT
import Derived.Lib.SliceRun
import Derived.Sort.WalkB12
namespace Go.Proofs.Ytdahhcigphhfdaa
open Go.RowKit

/-- The two cells of a pair in a row. -/
theorem OwnJps.twoAt {lo : Nat} {w : World} {g cap n : Nat} {L : List Jp2} (h : OwnJps lo w (.slice (some ⟨g, 0, none⟩) n cap) L) (hn : L.length = n) (k : Nat) (hk : k < n) :
    w.cell? ⟨g, k * 2, none⟩ = some (.int .i64 (L.getD k (0, 0)).1) ∧ w.cell? ⟨g, k * 2 + 1, none⟩ = some (.int .i64 (L.getD k (0, 0)).2) := by
  subst hn
  have hat := jpCells_at L k hk
  have h' : w.ownsRow lo 84 2 (.slice (some ⟨g, 0, none⟩) L.length cap) L.length (jpCells L) := h
  rw [show L.getD k (0, 0) = L[k] by simp [hk]]
  exact ⟨(h'.cellAt (k * 2) (by omega)).trans hat.1, (h'.cellAt (k * 2 + 1) (by omega)).trans hat.2⟩
theorem OwnJps.openAt {lo : Nat} {w : World} {g cap n : Nat} {L : List Jp2} (h : OwnJps lo w (.slice (some ⟨g, 0, none⟩) n cap) L) (hn : L.length = n) (k : Nat) (hk : k < n) :
    (∃ m0 m1, w.cell? ⟨g, k * 2, none⟩ = some m0 ∧ w.cell? ⟨g, k * 2 + 1, none⟩ = some m1) ∧ w.frozen? ⟨g, k * 2, none⟩ = false ∧ w.frozen? ⟨g, k * 2 + 1, none⟩ = false := by
  subst hn
  have hat := jpCells_at L k hk
  have h' : w.ownsRow lo 84 2 (.slice (some ⟨g, 0, none⟩) L.length cap) L.length (jpCells L) := h
  exact ⟨⟨_, _, (h'.cellAt (k * 2) (by omega)).trans hat.1, (h'.cellAt (k * 2 + 1) (by omega)).trans hat.2⟩, h'.frozenAt _, h'.frozenAt _⟩
theorem jpCells_set (L : List Jp2) (k : Nat) (hk : k < L.length) (p q : Int) : ((jpCells L).set (k * 2) (.int .i64 p)).set (k * 2 + 1) (.int .i64 q) = jpCells (L.set k (p, q)) := by
  induction L generalizing k with
  | nil => simp at hk
  | cons t L ih =>
    cases k with
    | zero => simp [jpCells, jpVs]
    | succ k =>
      have := ih k (by simpa using hk)
      rw [show (k + 1) * 2 = k * 2 + 1 + 1 by omega, show k * 2 + 1 + 1 + 1 = (k * 2 + 1) + 1 + 1 by omega]
      simp [jpCells, jpVs] at this ⊢
      exact this
theorem OwnJps.put {lo : Nat} {w : World} {g cap : Nat} {L : List Jp2} (h : OwnJps lo w (.slice (some ⟨g, 0, none⟩) L.length cap) L) (k : Nat) (hk : k < L.length) (p q : Int) :
    OwnJps lo ((w.setCell ⟨g, k * 2, none⟩ (.int .i64 p)).setCell ⟨g, k * 2 + 1, none⟩ (.int .i64 q)) (.slice (some ⟨g, 0, none⟩) L.length cap) (L.set k (p, q)) := by
  have h1 := (World.ownsRow.stored h (k * 2) (.int .i64 p)).1
  have h2 := (World.ownsRow.stored h1 (k * 2 + 1) (.int .i64 q)).1
  unfold OwnJps
  rw [List.length_set, ← jpCells_set L k hk]
  exact h2
theorem set2_laterK {w0 w : World} {B : Nat} (h : Later w0 w) (hB : w0.heap.size ≤ B) (k : Nat) (p q : Int) :
    Later w0 ((w.setCell ⟨B, k * 2, none⟩ (.int .i64 p)).setCell ⟨B, k * 2 + 1, none⟩ (.int .i64 q)) := Below.setCell (Below.setCell h hB _) hB _
def jpV2 (s : Jp2) : Value := .agg #[.int .i64 s.1, .int .i64 s.2]
/-- A function value that tests solutions of a kind, in whatever world that is behind w0. -/
def TestsJ (w0 : World) (g : Nat) (lb : Array Value) (D : Jp2 → Prop) (p : Jp2 → Bool) : Prop :=
  ∀ w', Later w0 w' → ∀ s, D s → Calls Try.prog g (#[jpV2 s] ++ lb) w' fun e w'' => e = .returned (.bool (p s)) ∧ Later w' w''
theorem ownsRow_setCellsJ {lo : Nat} {e : TypeId} {sz g n cap : Nat} (vs : List Value) : ∀ (o : Nat) (w : World) (xs : List Value), w.ownsRow lo e sz (.slice (some ⟨g, 0, none⟩) n cap) n xs →
    ∃ ys, (w.setCells g o vs).ownsRow lo e sz (.slice (some ⟨g, 0, none⟩) n cap) n ys ∧ ys.take o = xs.take o ∧ w.grownBy (w.setCells g o vs) (some g) := by
  induction vs with
  | nil => intro o w xs h; exact ⟨xs, h, rfl, rfl, rfl, rfl, Nat.le_refl _, fun k _ _ => rfl⟩
  | cons v vs ih =>
    intro o w xs h
    obtain ⟨h1, h2⟩ := h.stored o v
    obtain ⟨ys, h3, h4, h5⟩ := ih (o + 1) _ _ h1
    refine ⟨ys, h3, ?_, ?_⟩
    · have e : ys.take o = (ys.take (o + 1)).take o := by rw [List.take_take, Nat.min_eq_left (by omega)]
      rw [e, h4, List.take_take, Nat.min_eq_left (by omega), List.take_set_of_le (Nat.le_refl _)]
    · refine ⟨h5.os.trans h2.os, h5.tape.trans h2.tape, h5.output.trans h2.output, Nat.le_trans h2.size h5.size, fun k hk hne => ?_⟩
      exact (h5.block k (Nat.lt_of_lt_of_le hk h2.size) hne).trans (h2.block k hk hne)
theorem OwnJps.cut {lo : Nat} {w : World} {g n cap : Nat} {xs : List Value} {M : List Jp2} (h : w.ownsRow lo 84 2 (.slice (some ⟨g, 0, none⟩) n cap) n xs) (i : Nat) (hi : i ≤ n) (hM : M.length = i) (hx : xs.take (i * 2) = jpCells M) :
    OwnJps lo w (.slice (some ⟨g, 0, none⟩) i cap) M := by
  subst hM
  rcases h.2 with ⟨e0, _⟩ | ⟨g', cap', cur, e0, hb, hg, hn, hm, hs, ht⟩
  · cases e0
  · injection e0 with e1 _ e3
    injection e1 with e1
    injection e1 with e1
    subst e1; subst e3
    refine ⟨jpCells_len M, .inr ⟨g, cap, cur, rfl, hb, hg, by omega, hm, hs, ?_⟩⟩
    rw [← hx, ← ht, List.take_take, Nat.min_eq_left (Nat.mul_le_mul_right 2 hi)]
theorem zero_jps (n : Nat) : (Builtin.zeroCells #[Value.int .i64 0, .int .i64 0] n).toList = List.replicate (n * 2) (.int .i64 0) := by
  apply List.ext_getElem
  · simp [Builtin.zeroCells]
  · intro i h1 h2
    have h4 : i % 2 = 0 ∨ i % 2 = 1 := by omega
    simp [Builtin.zeroCells]
    rcases h4 with h | h <;> simp [h]
theorem run_clear_jp (w : World) (ty : TypeId) (b o n c : Nat) (hn : 0 < n)
    (hc : ∀ j, j < n * 2 → (w.cell? ⟨b, o + j, none⟩).isSome = true) (hf : ∀ j, j < n * 2 → w.frozen? ⟨b, o + j, none⟩ = false) :
    (Builtin.clear_ #[78] ty #[.slice (some ⟨b, o, none⟩) n c]).run Try.prog w = .ok (.tuple #[]) (w.setCells b o (List.replicate (n * 2) (.int .i64 0))) := by
  have hv := Try.zeroValue84
  have hst := run_storeCells_cells (P := Try.prog) b o (List.replicate (n * 2) (Value.int .i64 0)) 0 w (by simpa using hc) (by simpa using hf) (by intro v hv'; rw [List.eq_of_mem_replicate hv']; rfl)
  simp only [Nat.add_zero] at hst
  obtain ⟨m, rfl⟩ : ∃ m, n = m + 1 := ⟨n - 1, by omega⟩
  have hz := zero_jps (m + 1)
  simp [Builtin.clear_, run_underlying Try.underlying78, hv, Value.cells]
  rw [hz, hst]
  rfl
/-- The least place at which a test holds, if there is one. -/
def FirstJ (p : Jp2 → Bool) (L : List Jp2) (r : Int) : Prop := (r = -1 ∧ ∀ s ∈ L, p s = false) ∨ ∃ k : Nat, r = (k : Int) ∧ k < L.length ∧ p (L.getD k (0, 0)) = true ∧ ∀ j, j < k → p (L.getD j (0, 0)) = false

set_option maxRecDepth 20000 in
set_option maxHeartbeats 4000000 in
theorem indexFuncJ_any {lo : Nat} (w0 : World) (g : Nat) (lb : Array Value) (eg : ∀ args w, (callFunc g args).run Try.prog w = .ok (.enter g args) w) (D : Jp2 → Prop) (p : Jp2 → Bool) (HT : TestsJ w0 g lb D p)
    (b cap : Nat) (L : List Jp2) (w : World) (hL0 : Later w0 w) (hD : ∀ s ∈ L, D s) (hb : L.length ≤ 1000000000000) (h : OwnJps lo w (.slice (some ⟨b, 0, none⟩) L.length cap) L) :
    Calls Try.prog 137 #[.slice (some ⟨b, 0, none⟩) L.length cap, .func (.func g) #[] lb] w fun e w' => ∃ r, e = .returned (.int .i64 r) ∧ FirstJ p L r ∧ Later w w' := by
  have H := hid h
  have HT' := hid HT
  have HL0 := hid hL0
  have HD := hid hD
  obtain ⟨n, hn⟩ : ∃ n, L.length = n := ⟨_, rfl⟩
  have HN := hid hn
  rw [hn] at H hb ⊢
  clear h HT hL0 hD hn
  go_enter Try.func137, Try.ntmps137
  go_wp2_with fail
  go_loopw [8] (fun i wr => ∃ k : Nat, k ≤ n ∧ i = .int .i64 k ∧ (∀ j, j < k → p (L.getD j (0, 0)) = false) ∧ Later w wr) (fun i _ => n - (intOf i).toNat)
  case atStart => exact ⟨0, Nat.zero_le _, rfl, fun j hj => absurd hj (Nat.not_lt_zero j), Later.refl _⟩
  case round =>
    obtain ⟨k, hk, rfl, hpre, hL⟩ := hrel
    have HP := hid hpre
    have HL := hid hL
    by_cases hlt : k < n
    · have hltI : (k : Int) < (n : Int) := by omega
      obtain ⟨c0, c1⟩ := (H.out.later hL).twoAt HN.out k hlt
      have hm : D (L.getD k (0, 0)) := HD.out _ (by rw [List.getD_eq_getElem?_getD, List.getElem?_eq_getElem (by rw [HN.out]; exact hlt), Option.getD_some]; exact List.getElem_mem _)
      obtain ⟨s, hs⟩ : ∃ s, L.getD k (0, 0) = s := ⟨_, rfl⟩
      have HSE := hid hs
      rw [hs] at c0 c1 hm
      have HCALL := hid (HT'.out wr (HL0.out.trans hL) s hm)
      obtain ⟨x', y'⟩ := s
      simp only at c0 c1
      clear hpre hL hm hs
      cases hp : p (x', y')
      · have HPV := hid hp
        clear hp
        go_wp2_with fail
        refine HCALL.out.mono ?_
        rw [HPV.out]
        rintro e w2 ⟨rfl, hL2⟩
        have HL2 := hid (HL.out.trans hL2)
        clear hL2
        go_wp2_with fail
        go_roundw
        case rel => exact ⟨k + 1, hlt, by go_num, fun j hj => by
          by_cases e : j = k
          · rw [e, HSE.out]; exact HPV.out
          · exact HP.out j (by omega), HL2.out⟩
        case measure => simp [intOf]; omega
      · have HPV := hid hp
        clear hp
        go_wp2_with fail
        refine HCALL.out.mono ?_
        rw [HPV.out]
        rintro e w2 ⟨rfl, hL2⟩
        have HL2 := hid (HL.out.trans hL2)
        clear hL2
        go_wp2_with fail
        go_ret
        exact ⟨_, rfl, .inr ⟨k, rfl, by rw [HN.out]; exact hlt, by rw [HSE.out]; exact HPV.out, HP.out⟩, HL2.out⟩
    · obtain rfl : k = n := by omega
      clear hL hpre
      go_wp2_with fail
      go_ret
      exact ⟨_, rfl, .inl ⟨rfl, fun s hs => by
        obtain ⟨j, hj, rfl⟩ := List.getElem_of_mem hs
        have := HP.out j (by rw [← HN.out]; exact hj)
        simpa [hj] using this⟩, HL.out⟩

theorem filter_noneJ {p : Jp2 → Bool} {L : List Jp2} (h : ∀ s ∈ L, p s = false) : L.filter (fun s => !p s) = L := by
  rw [List.filter_eq_self]; intro s hs; rw [h s hs]; rfl
theorem take_snocSJ (L : List Jp2) (k : Nat) (h : k < L.length) : L.take (k + 1) = L.take k ++ [L.getD k (0, 0)] := by
  rw [List.take_add_one, List.getD_eq_getElem?_getD, List.getElem?_eq_getElem h]; rfl
theorem take_noneJ {p : Jp2 → Bool} {L : List Jp2} {k : Nat} (hk : k ≤ L.length) (h : ∀ j, j < k → p (L.getD j (0, 0)) = false) : (L.take k).filter (fun s => !p s) = L.take k := by
  refine filter_noneJ fun s hs => ?_
  obtain ⟨j, hj, rfl⟩ := List.getElem_of_mem hs
  have hj' : j < k := by rw [List.length_take] at hj; omega
  have := h j hj'
  rw [List.getD_eq_getElem?_getD, List.getElem?_eq_getElem (by omega)] at this
  simpa using this
theorem filter_stepSJ {p : Jp2 → Bool} {L : List Jp2} {j : Nat} (h : j < L.length) : (L.take (j + 1)).filter (fun s => !p s) = (L.take j).filter (fun s => !p s) ++ (if p (L.getD j (0, 0)) = true then [] else [L.getD j (0, 0)]) := by
  rw [take_snocSJ L j h, List.filter_append]
  congr 1
  generalize L.getD j (0, 0) = x
  cases hp : p x <;> simp [hp]
theorem drop_atSJ {K L : List Jp2} {j : Nat} (h : K.drop j = L.drop j) : K.getD j (0, 0) = L.getD j (0, 0) := by
  have h1 : (K.drop j)[0]? = (L.drop j)[0]? := by rw [h]
  rw [List.getElem?_drop, List.getElem?_drop, Nat.add_zero] at h1
  rw [List.getD_eq_getElem?_getD, List.getD_eq_getElem?_getD, h1]
theorem drop_succSJ {K L : List Jp2} {j : Nat} (h : K.drop j = L.drop j) : K.drop (j + 1) = L.drop (j + 1) := by
  have : ∀ X : List Jp2, X.drop (j + 1) = (X.drop j).drop 1 := fun X => by rw [List.drop_drop]
  rw [this, this, h]

set_option maxRecDepth 20000 in
set_option maxHeartbeats 4000000 in
theorem deleteFuncJ_any {lo : Nat} (w0 : World) (g : Nat) (lb : Array Value) (eg : ∀ args w, (callFunc g args).run Try.prog w = .ok (.enter g args) w) (D : Jp2 → Prop) (p : Jp2 → Bool) (HT : TestsJ w0 g lb D p)
    (b cap : Nat) (L : List Jp2) (w : World) (hL0 : Later w0 w) (hlo : w0.heap.size ≤ lo) (hD : ∀ s ∈ L, D s) (hb : L.length ≤ 1000000) (h : OwnJps lo w (.slice (some ⟨b, 0, none⟩) L.length cap) L) :
    Calls Try.prog 74 #[.slice (some ⟨b, 0, none⟩) L.length cap, .func (.func g) #[] lb] w fun e w' => e = .returned (.slice (some ⟨b, 0, none⟩) (L.filter fun s => !p s).length cap) ∧ OwnJps lo w' (.slice (some ⟨b, 0, none⟩) (L.filter fun s => !p s).length cap) (L.filter fun s => !p s) ∧ Later w0 w' := by
  have HIF := indexFuncJ_any w0 g lb eg D p HT b cap L w hL0 hD (by omega) h
  have H := hid h
  have HT' := hid HT
  have HL0 := hid hL0
  have HLO := hid hlo
  have HD := hid hD
  have hcap : L.length ≤ cap := by
    obtain ⟨_, _, e, hle⟩ := h.shape
    simp only [Value.slice.injEq] at e
    rw [e.2.2]; exact hle
  obtain ⟨M, hM⟩ : ∃ M, (L.filter fun s => !p s) = M := ⟨_, rfl⟩
  have HM := hid hM
  rw [hM]
  obtain ⟨n, hn⟩ : ∃ n, L.length = n := ⟨_, rfl⟩
  have HN := hid hn
  rw [hn] at H hb hcap HIF ⊢
  have HIF' := hid HIF
  clear h HT hL0 hlo hD hn hM HIF
  go_enter Try.func74, Try.ntmps74
  go_wp2_with fail
  refine HIF'.out.mono ?_
  rintro e w1 ⟨r, rfl, hr, hL1⟩
  have HL1 := hid (HL0.out.trans hL1)
  have HO1 := hid (H.out.later hL1)
  clear hL1
  rcases hr with ⟨rfl, hall⟩ | ⟨k0, rfl, hk0, hpk, hpre⟩
  · have HE := hid (show M = L by rw [← HM.out]; exact filter_noneJ hall)
    have HEN := hid (show M.length = n by rw [HE.out]; exact HN.out)
    clear hall
    go_wp2_with fail
    go_ret
    exact ⟨by rw [HEN.out]; rfl, by rw [HEN.out, HE.out]; exact HO1.out, HL1.out⟩
  · have hk0n : k0 < n := by rw [← HN.out]; exact hk0
    have hne1 : ((k0 : Int) == -1) = false := beq_eq_false_iff_ne.2 (by omega)
    have HST := hid (show L.take k0 = (L.take (k0 + 1)).filter (fun s => !p s) by rw [filter_stepSJ hk0, hpk, take_noneJ (by omega) hpre]; simp)
    clear hk0 hpk hpre
    go_wp2_with fail
    go_loopw [5, 6, 7] (fun s5 s6 _ wr => ∃ (i j : Nat) (K : List Jp2), s5 = .int .i64 i ∧ s6 = .int .i64 j ∧ j ≤ n ∧ i < j ∧ K.length = n ∧ K.take i = (L.take j).filter (fun s => !p s) ∧ K.drop j = L.drop j ∧ OwnJps lo wr (.slice (some ⟨b, 0, none⟩) n cap) K ∧ Later w0 wr)
      (fun _ s6 _ _ => n - (intOf s6).toNat)
    case atStart => exact ⟨k0, k0 + 1, L, rfl, by go_num, hk0n, by omega, HN.out, HST.out, rfl, HO1.out, HL1.out⟩
    case round =>
      clear HO1 HL1 HST
      obtain ⟨i, j, K, rfl, rfl, hj, hij, hKl, hKt, hKd, hO, hL⟩ := hrel
      have HO := hid hO
      have HL := hid hL
      have HKL := hid hKl
      have HKT := hid hKt
      have HKD := hid hKd
      clear hKt hKd hKl hL
      by_cases hlt : j < n
      · have hltI : (j : Int) < (n : Int) := by omega
        have hiI : (i : Int) < (n : Int) := by omega
        obtain ⟨c0, c1⟩ := hO.twoAt HKL.out j hlt
        have HFS := hid (filter_stepSJ (p := p) (L := L) (j := j) (by rw [HN.out]; exact hlt))
        have hm : D (L.getD j (0, 0)) := HD.out _ (by rw [List.getD_eq_getElem?_getD, List.getElem?_eq_getElem (by rw [HN.out]; exact hlt), Option.getD_some]; exact List.getElem_mem _)
        rw [drop_atSJ HKD.out] at c0 c1
        obtain ⟨s, hs⟩ : ∃ s, L.getD j (0, 0) = s := ⟨_, rfl⟩
        rw [hs] at c0 c1 hm HFS
        obtain ⟨x', y'⟩ := s
        simp only at c0 c1
        have hA := Later.alloc wr (.cells #[.int .i64 x', .int .i64 y'] 84)
        have HCALL := hid (fun w' (k : Later wr w') => HT'.out w' (HL.out.trans k) (x', y') hm)
        have HB := hid (JBox.new wr x' y' 84)
        clear hm hs hO
        cases hp : p (x', y')
        · have HPV := hid hp
          have HFS2 := hid (show (L.take (j + 1)).filter (fun s => !p s) = (L.take j).filter (fun s => !p s) ++ [(x', y')] by rw [HFS.out, hp]; rfl)
          clear hp
          have hB := hid (HB.out)
          obtain ⟨a0, a1, _, _⟩ := hB.out
          have HOA := hid (HO.out.later hA)
          have HLA := hid (HL.out.trans hA)
          have HCALL2 := hid (HCALL.out _ hA)
          clear hA HCALL
          go_wp2_with fail
          refine HCALL2.out.mono ?_
          rw [HPV.out]
          rintro e w2 ⟨rfl, hL2⟩
          have HL2 := hid (HLA.out.trans hL2)
          have HB2 := hid (HB.out.later hL2)
          have HO2 := hid (HOA.out.later hL2)
          obtain ⟨⟨m0, m1, e0, e1⟩, g0, g1⟩ := HO2.out.openAt HKL.out i (by omega)
          obtain ⟨b0, b1, _, _⟩ := HB2.out
          clear hL2
          go_wp2_with fail
          have h1 : OwnJps lo w2 (.slice (some ⟨b, 0, none⟩) K.length cap) K := by rw [HKL.out]; exact HO2.out
          have h2 := h1.put i (by rw [HKL.out]; omega) x' y'
          rw [HKL.out] at h2
          have HO3 := hid h2
          have HL3 := hid (set2_laterK HL2.out (Nat.le_trans HLO.out (HO2.out.lt b rfl).1) i x' y')
          clear h1 h2
          go_roundw
          case rel => exact ⟨i + 1, j + 1, K.set i (x', y'), by go_num, by go_num, hlt, by omega, by rw [List.length_set]; exact HKL.out, by
            rw [HFS2.out, ← HKT.out, List.take_set, take_snocSJ K i (by rw [HKL.out]; omega)]
            rw [List.set_append_right _ _ (by rw [List.length_take]; omega), List.length_take, Nat.min_eq_left (by rw [HKL.out]; omega)]; simp, by
            rw [List.drop_set_of_lt (by omega)]; exact drop_succSJ HKD.out, HO3.out, HL3.out⟩
          case measure => simp [intOf]; omega
        · have HPV := hid hp
          have HFS2 := hid (show (L.take (j + 1)).filter (fun s => !p s) = (L.take j).filter (fun s => !p s) by rw [HFS.out, hp]; simp)
          clear hp
          obtain ⟨a0, a1, _, _⟩ := HB.out
          have HOA := hid (HO.out.later hA)
          have HLA := hid (HL.out.trans hA)
          have HCALL2 := hid (HCALL.out _ hA)
          clear hA HCALL
          go_wp2_with fail
          refine HCALL2.out.mono ?_
          rw [HPV.out]
          rintro e w2 ⟨rfl, hL2⟩
          have HL2 := hid (HLA.out.trans hL2)
          have HO2 := hid (HOA.out.later hL2)
          clear hL2
          go_wp2_with fail
          go_roundw
          case rel => exact ⟨i, j + 1, K, rfl, by go_num, hlt, by omega, HKL.out, by rw [HFS2.out]; exact HKT.out, drop_succSJ HKD.out, HO2.out, HL2.out⟩
          case measure => simp [intOf]; omega
      · obtain rfl : j = n := by omega
        have HE := hid (show K.take i = M by rw [HKT.out, ← HM.out, List.take_of_length_le (by rw [HN.out]; exact Nat.le_refl _)])
        have HEL := hid (show M.length = i by rw [← HE.out, List.length_take, HKL.out]; omega)
        have ho' : wr.ownsRow lo 84 2 (.slice (some ⟨b, 0, none⟩) j cap) j (jpCells K) := by have h := HO.out; unfold OwnJps at h; rw [HKL.out] at h; exact h
        have hcl : ∀ ty, (Builtin.clear_ #[78] ty #[.slice (some ⟨b, i * 2, none⟩) (j - i) (cap - i)]).run Try.prog wr = .ok (.tuple #[]) (wr.setCells b (i * 2) (List.replicate ((j - i) * 2) (.int .i64 0))) := fun ty =>
          run_clear_jp wr ty b (i * 2) (j - i) (cap - i) (by omega) (fun t ht => by
            rw [ho'.cellAt (i * 2 + t) (by omega), List.getElem?_eq_getElem (by rw [jpCells_len, HKL.out]; omega)]; rfl) (fun t _ => ho'.frozenAt _)
        obtain ⟨ys, hys1, hys2, hys3⟩ := ownsRow_setCellsJ (List.replicate ((j - i) * 2) (Value.int .i64 0)) (i * 2) wr (jpCells K) ho'
        have hcut := OwnJps.cut hys1 i (by omega) HEL.out (by
          rw [hys2, ← HE.out]
          have e : jpCells K = jpCells (K.take i) ++ jpCells (K.drop i) := by unfold jpCells; rw [← List.flatMap_append, List.take_append_drop]
          rw [e, List.take_append_of_le_length (by rw [jpCells_len, List.length_take, HKL.out]; omega), List.take_of_length_le (by rw [jpCells_len, List.length_take, HKL.out]; omega)])
        have HCUT := hid hcut
        have HLF := hid (show Later w0 (wr.setCells b (i * 2) (List.replicate ((j - i) * 2) (.int .i64 0))) from HL.out.grown hys3 HL.out.size (fun b' hb' => by have e := Option.some.inj hb'; subst e; exact Nat.le_trans HLO.out (HO.out.lt b rfl).1))
        have hij2 : (i : Int) ≤ (j : Int) := by omega
        have hic : (i : Int) ≤ (cap : Int) := by omega
        have hjc : (j : Int) ≤ (cap : Int) := by omega
        have hnc : ¬ cap = i := by omega
        clear hO ho' hys1 hys2 hys3 hcut
        go_wp2_with fail
        go_ret
        exact ⟨by rw [HEL.out]; rfl, by rw [HEL.out]; exact HCUT.out, HLF.out⟩
end Go.Proofs.Ytdahhcigphhfdaa
