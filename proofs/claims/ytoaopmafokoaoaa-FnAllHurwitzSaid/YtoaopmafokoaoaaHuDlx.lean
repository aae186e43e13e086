/- HuDl, HuDm, HuCp: in one text. -/
import Derived.Test.YtoaopmafokoaoaaHuRv
import Derived.Lib.SliceRun
import Derived.Sort.WalkB12
import Derived.Deep.RegionHeld3
namespace Go.Proofs.Ytoaopmafokoaoaa
open Go.RowKit


/-- The four cells of a solution in a row. -/
theorem OwnSols.fourAt {lo : Nat} {w : World} {g cap n : Nat} {L : List So} (h : OwnSols lo w (.slice (some ⟨g, 0, none⟩) n cap) L) (hn : L.length = n) (k : Nat) (hk : k < n) :
    w.cell? ⟨g, k * 4, none⟩ = some (.int .i64 (L.getD k noSo).1) ∧ w.cell? ⟨g, k * 4 + 1, none⟩ = some (.int .i64 (L.getD k noSo).2.1) ∧ w.cell? ⟨g, k * 4 + 2, none⟩ = some (.int .i64 (L.getD k noSo).2.2.1) ∧ w.cell? ⟨g, k * 4 + 3, none⟩ = some (.int .i64 (L.getD k noSo).2.2.2) := by
  subst hn
  have hat := soCells_at L k hk
  have h' : w.ownsRow lo 69 4 (.slice (some ⟨g, 0, none⟩) L.length cap) L.length (soCells L) := h
  rw [show L.getD k noSo = L[k] by simp [hk]]
  exact ⟨(h'.cellAt (k * 4) (by omega)).trans hat.1, (h'.cellAt (k * 4 + 1) (by omega)).trans hat.2.1, (h'.cellAt (k * 4 + 2) (by omega)).trans hat.2.2.1, (h'.cellAt (k * 4 + 3) (by omega)).trans hat.2.2.2⟩
def soA (s : So) : Value := .agg #[.int .i64 s.1, .int .i64 s.2.1, .int .i64 s.2.2.1, .int .i64 s.2.2.2]
/-- A function value that tests solutions of a kind, in whatever world that is behind w0. -/
def Tests (w0 : World) (g : Nat) (lb : Array Value) (D : So → Prop) (p : So → Bool) : Prop :=
  ∀ w', Later w0 w' → ∀ s, D s → Calls Try.prog g (#[soA s] ++ lb) w' fun e w'' => e = .returned (.bool (p s)) ∧ Later w' w''
theorem ownsRow_setCells {lo : Nat} {e : TypeId} {sz g n cap : Nat} (vs : List Value) : ∀ (o : Nat) (w : World) (xs : List Value), w.ownsRow lo e sz (.slice (some ⟨g, 0, none⟩) n cap) n xs →
    ∃ ys, (w.setCells g o vs).ownsRow lo e sz (.slice (some ⟨g, 0, none⟩) n cap) n ys ∧ ys.take o = xs.take o ∧ w.grownBy (w.setCells g o vs) (some g) := by
  induction vs with
  | nil => intro o w xs h; exact ⟨xs, h, rfl, rfl, rfl, rfl, Nat.le_refl _, fun k _ _ => rfl⟩
  | cons v vs ih =>
    intro o w xs h
    obtain ⟨h1, h2⟩ := h.stored o v
    obtain ⟨ys, h3, h4, h5⟩ := ih (o + 1) _ _ h1
    refine ⟨ys, h3, ?_, ?_⟩
    · have e : ys.take o = (ys.take (o + 1)).take o := by rw [List.take_take, Nat.min_eq_left (by omega)]
      rw [e, h4, List.take_take, Nat.min_eq_left (by omega), List.take_set_of_le (Nat.le_refl _)]
    · refine ⟨h5.os.trans h2.os, h5.tape.trans h2.tape, h5.output.trans h2.output, Nat.le_trans h2.size h5.size, fun k hk hne => ?_⟩
      exact (h5.block k (Nat.lt_of_lt_of_le hk h2.size) hne).trans (h2.block k hk hne)
theorem OwnSols.cut {lo : Nat} {w : World} {g n cap : Nat} {xs : List Value} {M : List So} (h : w.ownsRow lo 69 4 (.slice (some ⟨g, 0, none⟩) n cap) n xs) (i : Nat) (hi : i ≤ n) (hM : M.length = i) (hx : xs.take (i * 4) = soCells M) :
    OwnSols lo w (.slice (some ⟨g, 0, none⟩) i cap) M := by
  subst hM
  rcases h.2 with ⟨e0, _⟩ | ⟨g', cap', cur, e0, hb, hg, hn, hm, hs, ht⟩
  · cases e0
  · injection e0 with e1 _ e3
    injection e1 with e1
    injection e1 with e1
    subst e1; subst e3
    refine ⟨soCells_len M, .inr ⟨g, cap, cur, rfl, hb, hg, by omega, hm, hs, ?_⟩⟩
    rw [← hx, ← ht, List.take_take, Nat.min_eq_left (Nat.mul_le_mul_right 4 hi)]
theorem zero_sols (n : Nat) : (Builtin.zeroCells #[Value.int .i64 0, .int .i64 0, .int .i64 0, .int .i64 0] n).toList = List.replicate (n * 4) (.int .i64 0) := by
  apply List.ext_getElem
  · simp [Builtin.zeroCells]
  · intro i h1 h2
    have h4 : i % 4 = 0 ∨ i % 4 = 1 ∨ i % 4 = 2 ∨ i % 4 = 3 := by omega
    simp [Builtin.zeroCells]
    rcases h4 with h | h | h | h <;> simp [h]
theorem run_clear_so (w : World) (ty : TypeId) (b o n c : Nat) (hn : 0 < n)
    (hc : ∀ j, j < n * 4 → (w.cell? ⟨b, o + j, none⟩).isSome = true) (hf : ∀ j, j < n * 4 → w.frozen? ⟨b, o + j, none⟩ = false) :
    (Builtin.clear_ #[72] ty #[.slice (some ⟨b, o, none⟩) n c]).run Try.prog w = .ok (.tuple #[]) (w.setCells b o (List.replicate (n * 4) (.int .i64 0))) := by
  have hv := Try.zeroValue69
  have hst := run_storeCells_cells (P := Try.prog) b o (List.replicate (n * 4) (Value.int .i64 0)) 0 w (by simpa using hc) (by simpa using hf) (by intro v hv'; rw [List.eq_of_mem_replicate hv']; rfl)
  simp only [Nat.add_zero] at hst
  obtain ⟨m, rfl⟩ : ∃ m, n = m + 1 := ⟨n - 1, by omega⟩
  have hz := zero_sols (m + 1)
  simp [Builtin.clear_, run_underlying Try.underlying72, hv, Value.cells]
  rw [hz, hst]
  rfl
/-- The least place at which a test holds, if there is one. -/
def FirstAt (p : So → Bool) (L : List So) (r : Int) : Prop := (r = -1 ∧ ∀ s ∈ L, p s = false) ∨ ∃ k : Nat, r = (k : Int) ∧ k < L.length ∧ p (L.getD k noSo) = true ∧ ∀ j, j < k → p (L.getD j noSo) = false

set_option maxRecDepth 20000 in
set_option maxHeartbeats 4000000 in
theorem indexFunc_any {lo : Nat} (w0 : World) (g : Nat) (lb : Array Value) (eg : ∀ args w, (callFunc g args).run Try.prog w = .ok (.enter g args) w) (D : So → Prop) (p : So → Bool) (HT : Tests w0 g lb D p)
    (b cap : Nat) (L : List So) (w : World) (hL0 : Later w0 w) (hD : ∀ s ∈ L, D s) (hb : L.length ≤ 1000000000000) (h : OwnSols lo w (.slice (some ⟨b, 0, none⟩) L.length cap) L) :
    Calls Try.prog 114 #[.slice (some ⟨b, 0, none⟩) L.length cap, .func (.func g) #[] lb] w fun e w' => ∃ r, e = .returned (.int .i64 r) ∧ FirstAt p L r ∧ Later w w' := by
  have H := hid h
  have HT' := hid HT
  have HL0 := hid hL0
  have HD := hid hD
  obtain ⟨n, hn⟩ : ∃ n, L.length = n := ⟨_, rfl⟩
  have HN := hid hn
  rw [hn] at H hb ⊢
  clear h HT hL0 hD hn
  go_enter Try.func114, Try.ntmps114
  go_wp2_with fail
  go_loopw [8] (fun i wr => ∃ k : Nat, k ≤ n ∧ i = .int .i64 k ∧ (∀ j, j < k → p (L.getD j noSo) = false) ∧ Later w wr) (fun i _ => n - (intOf i).toNat)
  case atStart => exact ⟨0, Nat.zero_le _, rfl, fun j hj => absurd hj (Nat.not_lt_zero j), Later.refl _⟩
  case round =>
    obtain ⟨k, hk, rfl, hpre, hL⟩ := hrel
    have HP := hid hpre
    have HL := hid hL
    by_cases hlt : k < n
    · have hltI : (k : Int) < (n : Int) := by omega
      obtain ⟨c0, c1, c2, c3⟩ := (H.out.later hL).fourAt HN.out k hlt
      have hm : D (L.getD k noSo) := HD.out _ (by rw [List.getD_eq_getElem?_getD, List.getElem?_eq_getElem (by rw [HN.out]; exact hlt), Option.getD_some]; exact List.getElem_mem _)
      obtain ⟨s, hs⟩ : ∃ s, L.getD k noSo = s := ⟨_, rfl⟩
      have HSE := hid hs
      rw [hs] at c0 c1 c2 c3 hm
      have HCALL := hid (HT'.out wr (HL0.out.trans hL) s hm)
      obtain ⟨x', y', z', t'⟩ := s
      simp only at c0 c1 c2 c3
      clear hpre hL hm hs
      cases hp : p (x', y', z', t')
      · have HPV := hid hp
        clear hp
        go_wp2_with (go_at_fn g; refine HCALL.out.mono ?_; rw [HPV.out]; rintro e w2 ⟨rfl, hL2⟩; have HL2 := hid (HL.out.trans hL2); clear hL2)
        go_roundw
        case rel => exact ⟨k + 1, hlt, by go_num, fun j hj => by
          by_cases e : j = k
          · rw [e, HSE.out]; exact HPV.out
          · exact HP.out j (by omega), HL2.out⟩
        case measure => simp [intOf]; omega
      · have HPV := hid hp
        clear hp
        go_wp2_with (go_at_fn g; refine HCALL.out.mono ?_; rw [HPV.out]; rintro e w2 ⟨rfl, hL2⟩; have HL2 := hid (HL.out.trans hL2); clear hL2)
        go_ret
        exact ⟨_, rfl, .inr ⟨k, rfl, by rw [HN.out]; exact hlt, by rw [HSE.out]; exact HPV.out, HP.out⟩, HL2.out⟩
    · obtain rfl : k = n := by omega
      clear hL hpre
      go_wp2_with fail
      go_ret
      exact ⟨_, rfl, .inl ⟨rfl, fun s hs => by
        obtain ⟨j, hj, rfl⟩ := List.getElem_of_mem hs
        have := HP.out j (by rw [← HN.out]; exact hj)
        simpa [hj] using this⟩, HL.out⟩


theorem filter_none {p : So → Bool} {L : List So} (h : ∀ s ∈ L, p s = false) : L.filter (fun s => !p s) = L := by
  rw [List.filter_eq_self]; intro s hs; rw [h s hs]; rfl
theorem take_snocS (L : List So) (k : Nat) (h : k < L.length) : L.take (k + 1) = L.take k ++ [L.getD k noSo] := by
  rw [List.take_add_one, List.getD_eq_getElem?_getD, List.getElem?_eq_getElem h]; rfl
theorem take_none {p : So → Bool} {L : List So} {k : Nat} (hk : k ≤ L.length) (h : ∀ j, j < k → p (L.getD j noSo) = false) : (L.take k).filter (fun s => !p s) = L.take k := by
  refine filter_none fun s hs => ?_
  obtain ⟨j, hj, rfl⟩ := List.getElem_of_mem hs
  have hj' : j < k := by rw [List.length_take] at hj; omega
  have := h j hj'
  rw [List.getD_eq_getElem?_getD, List.getElem?_eq_getElem (by omega)] at this
  simpa using this
theorem filter_stepS {p : So → Bool} {L : List So} {j : Nat} (h : j < L.length) : (L.take (j + 1)).filter (fun s => !p s) = (L.take j).filter (fun s => !p s) ++ (if p (L.getD j noSo) = true then [] else [L.getD j noSo]) := by
  rw [take_snocS L j h, List.filter_append]
  congr 1
  generalize L.getD j noSo = x
  cases hp : p x <;> simp [hp]
theorem drop_atS {K L : List So} {j : Nat} (h : K.drop j = L.drop j) : K.getD j noSo = L.getD j noSo := by
  have h1 : (K.drop j)[0]? = (L.drop j)[0]? := by rw [h]
  rw [List.getElem?_drop, List.getElem?_drop, Nat.add_zero] at h1
  rw [List.getD_eq_getElem?_getD, List.getD_eq_getElem?_getD, h1]
theorem drop_succS {K L : List So} {j : Nat} (h : K.drop j = L.drop j) : K.drop (j + 1) = L.drop (j + 1) := by
  have : ∀ X : List So, X.drop (j + 1) = (X.drop j).drop 1 := fun X => by rw [List.drop_drop]
  rw [this, this, h]

set_option maxRecDepth 20000 in
set_option maxHeartbeats 4000000 in
theorem deleteFunc_any {lo : Nat} (w0 : World) (g : Nat) (lb : Array Value) (eg : ∀ args w, (callFunc g args).run Try.prog w = .ok (.enter g args) w) (D : So → Prop) (p : So → Bool) (HT : Tests w0 g lb D p)
    (b cap : Nat) (L : List So) (w : World) (hL0 : Later w0 w) (hlo : w0.heap.size ≤ lo) (hD : ∀ s ∈ L, D s) (hb : L.length ≤ 1000000) (h : OwnSols lo w (.slice (some ⟨b, 0, none⟩) L.length cap) L) :
    Calls Try.prog 68 #[.slice (some ⟨b, 0, none⟩) L.length cap, .func (.func g) #[] lb] w fun e w' => e = .returned (.slice (some ⟨b, 0, none⟩) (L.filter fun s => !p s).length cap) ∧ OwnSols lo w' (.slice (some ⟨b, 0, none⟩) (L.filter fun s => !p s).length cap) (L.filter fun s => !p s) ∧ Later w0 w' := by
  have HIF := indexFunc_any w0 g lb eg D p HT b cap L w hL0 hD (by omega) h
  have H := hid h
  have HT' := hid HT
  have HL0 := hid hL0
  have HLO := hid hlo
  have HD := hid hD
  have hcap : L.length ≤ cap := by
    obtain ⟨_, _, e, hle⟩ := h.shape
    simp only [Value.slice.injEq] at e
    rw [e.2.2]; exact hle
  obtain ⟨M, hM⟩ : ∃ M, (L.filter fun s => !p s) = M := ⟨_, rfl⟩
  have HM := hid hM
  rw [hM]
  obtain ⟨n, hn⟩ : ∃ n, L.length = n := ⟨_, rfl⟩
  have HN := hid hn
  rw [hn] at H hb hcap HIF ⊢
  have HIF' := hid HIF
  clear h HT hL0 hlo hD hn hM HIF
  go_enter Try.func68, Try.ntmps68
  go_wp2_with fail
  refine HIF'.out.mono ?_
  rintro e w1 ⟨r, rfl, hr, hL1⟩
  have HL1 := hid (HL0.out.trans hL1)
  have HO1 := hid (H.out.later hL1)
  clear hL1
  rcases hr with ⟨rfl, hall⟩ | ⟨k0, rfl, hk0, hpk, hpre⟩
  · have HE := hid (show M = L by rw [← HM.out]; exact filter_none hall)
    have HEN := hid (show M.length = n by rw [HE.out]; exact HN.out)
    clear hall
    go_wp2_with fail
    go_ret
    exact ⟨by rw [HEN.out]; rfl, by rw [HEN.out, HE.out]; exact HO1.out, HL1.out⟩
  · have hk0n : k0 < n := by rw [← HN.out]; exact hk0
    have hne1 : ((k0 : Int) == -1) = false := beq_eq_false_iff_ne.2 (by omega)
    have HST := hid (show L.take k0 = (L.take (k0 + 1)).filter (fun s => !p s) by rw [filter_stepS hk0, hpk, take_none (by omega) hpre]; simp)
    clear hk0 hpk hpre
    go_wp2_with fail
    go_loopw [5, 6, 7] (fun s5 s6 _ wr => ∃ (i j : Nat) (K : List So), s5 = .int .i64 i ∧ s6 = .int .i64 j ∧ j ≤ n ∧ i < j ∧ K.length = n ∧ K.take i = (L.take j).filter (fun s => !p s) ∧ K.drop j = L.drop j ∧ OwnSols lo wr (.slice (some ⟨b, 0, none⟩) n cap) K ∧ Later w0 wr)
      (fun _ s6 _ _ => n - (intOf s6).toNat)
    case atStart => exact ⟨k0, k0 + 1, L, rfl, by go_num, hk0n, by omega, HN.out, HST.out, rfl, HO1.out, HL1.out⟩
    case round =>
      clear HO1 HL1 HST
      obtain ⟨i, j, K, rfl, rfl, hj, hij, hKl, hKt, hKd, hO, hL⟩ := hrel
      have HO := hid hO
      have HL := hid hL
      have HKL := hid hKl
      have HKT := hid hKt
      have HKD := hid hKd
      clear hKt hKd hKl hL
      by_cases hlt : j < n
      · have hltI : (j : Int) < (n : Int) := by omega
        have hiI : (i : Int) < (n : Int) := by omega
        obtain ⟨c0, c1, c2, c3⟩ := hO.fourAt HKL.out j hlt
        have HFS := hid (filter_stepS (p := p) (L := L) (j := j) (by rw [HN.out]; exact hlt))
        have hm : D (L.getD j noSo) := HD.out _ (by rw [List.getD_eq_getElem?_getD, List.getElem?_eq_getElem (by rw [HN.out]; exact hlt), Option.getD_some]; exact List.getElem_mem _)
        rw [drop_atS HKD.out] at c0 c1 c2 c3
        obtain ⟨s, hs⟩ : ∃ s, L.getD j noSo = s := ⟨_, rfl⟩
        rw [hs] at c0 c1 c2 c3 hm HFS
        obtain ⟨x', y', z', t'⟩ := s
        simp only at c0 c1 c2 c3
        have hA := Later.alloc wr (.cells #[.int .i64 x', .int .i64 y', .int .i64 z', .int .i64 t'] 69)
        have HCALL := hid (fun w' (k : Later wr w') => HT'.out w' (HL.out.trans k) (x', y', z', t') hm)
        have HB := hid (Box4.new wr x' y' z' t')
        clear hm hs hO
        cases hp : p (x', y', z', t')
        · have HPV := hid hp
          have HFS2 := hid (show (L.take (j + 1)).filter (fun s => !p s) = (L.take j).filter (fun s => !p s) ++ [(x', y', z', t')] by rw [HFS.out, hp]; rfl)
          clear hp
          have hB := hid (HB.out)
          obtain ⟨⟨a0, a1, a2, a3⟩, _⟩ := hB.out
          have HOA := hid (HO.out.later hA)
          have HLA := hid (HL.out.trans hA)
          have HCALL2 := hid (HCALL.out _ hA)
          clear hA HCALL
          go_wp2_with (go_at_fn g; refine HCALL2.out.mono ?_; rw [HPV.out]; rintro e w2 ⟨rfl, hL2⟩; have HL2 := hid (HLA.out.trans hL2); have HB2 := hid (HB.out.later hL2); have HO2 := hid (HOA.out.later hL2); obtain ⟨⟨m0, m1, m2, m3, e0, e1, e2, e3⟩, g0, g1, g2, g3⟩ := HO2.out.openAt HKL.out i (by omega); obtain ⟨⟨b0, b1, b2, b3⟩, _⟩ := HB2.out; clear hL2)
          have h1 : OwnSols lo w2 (.slice (some ⟨b, 0, none⟩) K.length cap) K := by rw [HKL.out]; exact HO2.out
          have h2 := h1.put i (by rw [HKL.out]; omega) x' y' z' t'
          rw [HKL.out] at h2
          have HO3 := hid h2
          have HL3 := hid (set4_laterK HL2.out (Nat.le_trans HLO.out (HO2.out.lt b rfl).1) i x' y' z' t')
          clear h1 h2
          go_roundw
          case rel => exact ⟨i + 1, j + 1, K.set i (x', y', z', t'), by go_num, by go_num, hlt, by omega, by rw [List.length_set]; exact HKL.out, by
            rw [HFS2.out, ← HKT.out, List.take_set, take_snocS K i (by rw [HKL.out]; omega)]
            rw [List.set_append_right _ _ (by rw [List.length_take]; omega), List.length_take, Nat.min_eq_left (by rw [HKL.out]; omega)]; simp, by
            rw [List.drop_set_of_lt (by omega)]; exact drop_succS HKD.out, HO3.out, HL3.out⟩
          case measure => simp [intOf]; omega
        · have HPV := hid hp
          have HFS2 := hid (show (L.take (j + 1)).filter (fun s => !p s) = (L.take j).filter (fun s => !p s) by rw [HFS.out, hp]; simp)
          clear hp
          obtain ⟨⟨a0, a1, a2, a3⟩, _⟩ := HB.out
          have HOA := hid (HO.out.later hA)
          have HLA := hid (HL.out.trans hA)
          have HCALL2 := hid (HCALL.out _ hA)
          clear hA HCALL
          go_wp2_with (go_at_fn g; refine HCALL2.out.mono ?_; rw [HPV.out]; rintro e w2 ⟨rfl, hL2⟩; have HL2 := hid (HLA.out.trans hL2); have HO2 := hid (HOA.out.later hL2); clear hL2)
          go_roundw
          case rel => exact ⟨i, j + 1, K, rfl, by go_num, hlt, by omega, HKL.out, by rw [HFS2.out]; exact HKT.out, drop_succS HKD.out, HO2.out, HL2.out⟩
          case measure => simp [intOf]; omega
      · obtain rfl : j = n := by omega
        have HE := hid (show K.take i = M by rw [HKT.out, ← HM.out, List.take_of_length_le (by rw [HN.out]; exact Nat.le_refl _)])
        have HEL := hid (show M.length = i by rw [← HE.out, List.length_take, HKL.out]; omega)
        have ho' : wr.ownsRow lo 69 4 (.slice (some ⟨b, 0, none⟩) j cap) j (soCells K) := by have h := HO.out; unfold OwnSols at h; rw [HKL.out] at h; exact h
        have hcl : ∀ ty, (Builtin.clear_ #[72] ty #[.slice (some ⟨b, i * 4, none⟩) (j - i) (cap - i)]).run Try.prog wr = .ok (.tuple #[]) (wr.setCells b (i * 4) (List.replicate ((j - i) * 4) (.int .i64 0))) := fun ty =>
          run_clear_so wr ty b (i * 4) (j - i) (cap - i) (by omega) (fun t ht => by
            rw [ho'.cellAt (i * 4 + t) (by omega), List.getElem?_eq_getElem (by rw [soCells_len, HKL.out]; omega)]; rfl) (fun t _ => ho'.frozenAt _)
        obtain ⟨ys, hys1, hys2, hys3⟩ := ownsRow_setCells (List.replicate ((j - i) * 4) (Value.int .i64 0)) (i * 4) wr (soCells K) ho'
        have hcut := OwnSols.cut hys1 i (by omega) HEL.out (by
          rw [hys2, ← HE.out]
          have e : soCells K = soCells (K.take i) ++ soCells (K.drop i) := by unfold soCells; rw [← List.flatMap_append, List.take_append_drop]
          rw [e, List.take_append_of_le_length (by rw [soCells_len, List.length_take, HKL.out]; omega), List.take_of_length_le (by rw [soCells_len, List.length_take, HKL.out]; omega)])
        have HCUT := hid hcut
        have HLF := hid (show Later w0 (wr.setCells b (i * 4) (List.replicate ((j - i) * 4) (.int .i64 0))) from HL.out.grown hys3 HL.out.size (fun b' hb' => by have e := Option.some.inj hb'; subst e; exact Nat.le_trans HLO.out (HO.out.lt b rfl).1))
        have hij2 : (i : Int) ≤ (j : Int) := by omega
        have hic : (i : Int) ≤ (cap : Int) := by omega
        have hjc : (j : Int) ≤ (cap : Int) := by omega
        have hnc : ¬ cap = i := by omega
        clear hO ho' hys1 hys2 hys3 hcut
        go_wp2_with fail
        go_ret
        exact ⟨by rw [HEL.out]; rfl, by rw [HEL.out]; exact HCUT.out, HLF.out⟩


/-- The first k of a row without what is equal to the one ahead of it. -/
def compT (L : List So) : Nat → List So
  | 0 => []
  | k + 1 => compT L k ++ (if k = 0 ∨ L.getD k noSo ≠ L.getD (k - 1) noSo then [L.getD k noSo] else [])
theorem compT_le (L : List So) (k : Nat) : (compT L k).length ≤ k := by
  induction k with
  | zero => simp [compT]
  | succ k ih => unfold compT; rw [List.length_append]; split <;> simp <;> omega
theorem compT_keep {L : List So} {j : Nat} (h : L.getD (j + 1) noSo ≠ L.getD j noSo) : compT L (j + 2) = compT L (j + 1) ++ [L.getD (j + 1) noSo] := by
  show compT L (j + 1) ++ _ = _
  rw [if_pos (.inr h)]
theorem compT_drop {L : List So} {j : Nat} (h : L.getD (j + 1) noSo = L.getD j noSo) : compT L (j + 2) = compT L (j + 1) := by
  show compT L (j + 1) ++ _ = _
  rw [if_neg (by rw [h]; simp), List.append_nil]
theorem fourForm {lo : Nat} {w : World} {g cap n : Nat} {L : List So} (h : OwnSols lo w (.slice (some ⟨g, 0, none⟩) n cap) L) (hn : L.length = n) (a q : Nat) (hk : a + q < n) :
    w.cell? ⟨g, a * 4 + q * 4, none⟩ = some (.int .i64 (L.getD (a + q) noSo).1) ∧ w.cell? ⟨g, a * 4 + q * 4 + 1, none⟩ = some (.int .i64 (L.getD (a + q) noSo).2.1) ∧ w.cell? ⟨g, a * 4 + q * 4 + 2, none⟩ = some (.int .i64 (L.getD (a + q) noSo).2.2.1) ∧ w.cell? ⟨g, a * 4 + q * 4 + 3, none⟩ = some (.int .i64 (L.getD (a + q) noSo).2.2.2) := by
  rw [← Nat.add_mul]
  exact h.fourAt hn (a + q) hk
theorem cut_at {lo : Nat} {w w0 : World} {b n cap : Nat} {K M : List So} (ho : OwnSols lo w (.slice (some ⟨b, 0, none⟩) n cap) K) (hl : K.length = n) (hlo : w0.heap.size ≤ lo) (hL : Later w0 w) (i : Nat) (hi : i < n) (hM : K.take i = M) :
    (∀ ty, (Builtin.clear_ #[72] ty #[.slice (some ⟨b, i * 4, none⟩) (n - i) (cap - i)]).run Try.prog w = .ok (.tuple #[]) (w.setCells b (i * 4) (List.replicate ((n - i) * 4) (.int .i64 0)))) ∧
    OwnSols lo (w.setCells b (i * 4) (List.replicate ((n - i) * 4) (.int .i64 0))) (.slice (some ⟨b, 0, none⟩) i cap) M ∧ Later w0 (w.setCells b (i * 4) (List.replicate ((n - i) * 4) (.int .i64 0))) ∧ n ≤ cap ∧ M.length = i := by
  have ho' : w.ownsRow lo 69 4 (.slice (some ⟨b, 0, none⟩) n cap) n (soCells K) := by have h := ho; unfold OwnSols at h; rw [hl] at h; exact h
  have hcap : n ≤ cap := by
    obtain ⟨_, _, e, hle⟩ := ho.shape
    simp only [Value.slice.injEq] at e
    rw [e.2.2, ← hl]; exact hle
  have hMl : M.length = i := by rw [← hM, List.length_take, hl]; omega
  obtain ⟨ys, hys1, hys2, hys3⟩ := ownsRow_setCells (List.replicate ((n - i) * 4) (Value.int .i64 0)) (i * 4) w (soCells K) ho'
  refine ⟨fun ty => run_clear_so w ty b (i * 4) (n - i) (cap - i) (by omega) (fun t ht => by
    rw [ho'.cellAt (i * 4 + t) (by omega), List.getElem?_eq_getElem (by rw [soCells_len, hl]; omega)]; rfl) (fun t _ => ho'.frozenAt _), ?_, ?_, hcap, hMl⟩
  · refine OwnSols.cut hys1 i (by omega) hMl ?_
    rw [hys2, ← hM]
    have e : soCells K = soCells (K.take i) ++ soCells (K.drop i) := by unfold soCells; rw [← List.flatMap_append, List.take_append_drop]
    rw [e, List.take_append_of_le_length (by rw [soCells_len, List.length_take, hl]; omega), List.take_of_length_le (by rw [soCells_len, List.length_take, hl]; omega)]
  · exact hL.grown hys3 hL.size (fun b' hb' => by have e := Option.some.inj hb'; subst e; exact Nat.le_trans hlo (ho.lt b rfl).1)

set_option maxRecDepth 20000 in
set_option maxHeartbeats 8000000 in
theorem compact_any {lo : Nat} (w0 : World) (b cap : Nat) (L : List So) (w : World) (hL0 : Later w0 w) (hlo : w0.heap.size ≤ lo) (hb : L.length ≤ 1000000) (h : OwnSols lo w (.slice (some ⟨b, 0, none⟩) L.length cap) L) :
    Calls Try.prog 60 #[.slice (some ⟨b, 0, none⟩) L.length cap] w fun e w' => e = .returned (.slice (some ⟨b, 0, none⟩) (compT L L.length).length cap) ∧ OwnSols lo w' (.slice (some ⟨b, 0, none⟩) (compT L L.length).length cap) (compT L L.length) ∧ Later w0 w' := by
  have H := hid h
  have HL0 := hid hL0
  have HLO := hid hlo
  obtain ⟨M, hM⟩ : ∃ M, compT L L.length = M := ⟨_, rfl⟩
  have HM := hid hM
  rw [hM]
  obtain ⟨n, hn⟩ : ∃ n, L.length = n := ⟨_, rfl⟩
  have HN := hid hn
  rw [hn] at H hb HM ⊢
  have hcap : n ≤ cap := by
    obtain ⟨_, _, e, hle⟩ := H.out.shape
    simp only [Value.slice.injEq] at e
    rw [e.2.2, ← HN.out]; exact hle
  clear h hL0 hlo hn hM
  by_cases h2 : n < 2
  · have hd : decide ((n : Int) < 2) = true := decide_eq_true (by omega)
    have HE := hid (show M = L by
      rw [← HM.out]
      have h01 : n = 0 ∨ n = 1 := by omega
      rcases h01 with rfl | rfl
      · rw [List.eq_nil_of_length_eq_zero HN.out]; rfl
      · obtain ⟨x, rfl⟩ := List.length_eq_one_iff.1 HN.out; rfl)
    have HEN := hid (show M.length = n by rw [HE.out]; exact HN.out)
    go_enter Try.func60, Try.ntmps60
    go_wp2_with fail
    go_ret
    exact ⟨by rw [HEN.out]; rfl, by rw [HEN.out, HE.out]; exact H.out, HL0.out⟩
  · have hd : decide ((n : Int) < 2) = false := decide_eq_false (by omega)
    go_enter Try.func60, Try.ntmps60
    go_wp2_with fail
    go_loopw [3] (fun k wr => ∃ j : Nat, j + 1 ≤ n ∧ k = .int .i64 ((j : Int) + 1) ∧ compT L (j + 1) = L.take (j + 1) ∧ OwnSols lo wr (.slice (some ⟨b, 0, none⟩) n cap) L ∧ Later w0 wr) (fun k _ => n - (intOf k).toNat)
    case atStart => exact ⟨0, by omega, by simp, by rw [show L.take (0 + 1) = L.take 0 ++ [L.getD 0 noSo] from take_snocS L 0 (by rw [HN.out]; omega)]; rfl, H.out, HL0.out⟩
    case round =>
      obtain ⟨j, hj, rfl, hpre, hO, hL⟩ := hrel
      have HP := hid hpre
      have HO := hid hO
      have HL := hid hL
      by_cases hlt : j + 1 < n
      · have hltI : (j : Int) + 1 < (n : Int) := by omega
        obtain ⟨c0, c1, c2, c3⟩ := hO.fourAt HN.out j (by omega)
        obtain ⟨d0, d1, d2, d3⟩ := hO.fourAt HN.out (j + 1) hlt
        have HKP := hid (fun h => compT_keep (L := L) (j := j) h)
        have HDR := hid (fun h => compT_drop (L := L) (j := j) h)
        have HSN := hid (take_snocS L (j + 1) (by rw [HN.out]; exact hlt))
        obtain ⟨s, hs⟩ : ∃ s, L.getD j noSo = s := ⟨_, rfl⟩
        obtain ⟨u, hu⟩ : ∃ u, L.getD (j + 1) noSo = u := ⟨_, rfl⟩
        rw [hs] at c0 c1 c2 c3 HKP HDR
        rw [hu] at d0 d1 d2 d3 HKP HDR HSN
        obtain ⟨x, y, z, t⟩ := s
        obtain ⟨p, q, r, v⟩ := u
        simp only at c0 c1 c2 c3 d0 d1 d2 d3
        have heq := eqSo p q r v x y z t
        have j1 : IntKind.i64.wrap ((j : Int) + 1 - 1) = (j : Int) := by rw [IntWalk.i64_left]; rw [IntWalk.wrap64_in _ (by omega)]; omega
        have j2 : ((j : Int) + 1).toNat = j + 1 := by omega
        have j3 : (0 : Int) ≤ (j : Int) + 1 := by omega
        have j4 : (j : Int) < (n : Int) := by omega
        have j5 : (0 : Int) ≤ (j : Int) := by omega
        have HJI := hid hj
        clear hpre hO hL hs hu
        by_cases he : (p, q, r, v) = (x, y, z, t)
        · have hbe : (p == x && (q == y && (r == z && v == t))) = true := by simp only [Prod.mk.injEq] at he; simp [he]
          rw [hbe] at heq
          have HE := hid (HDR.out he)
          clear hbe he
          go_wp2_with fail
          go_quiet (fail)
          have HL2 := hid (HL.out.trans (Later.drewN wr nq))
          have HO2 := hid (HO.out.later (Later.drewN wr nq))
          generalize wr.drewN nq = wd at HL2 HO2 ⊢
          clear c0 c1 c2 c3 d0 d1 d2 d3 heq j1 HKP HDR HSN
          obtain ⟨A, hA⟩ : ∃ A, j + 1 = A := ⟨_, rfl⟩
          have hAI : (j : Int) + 1 = (A : Int) := by omega
          have hAn : A < n := by omega
          have hAnI : (A : Int) ≤ (n : Int) := by omega
          have hA2 : A < cap := by omega
          have hAcI : (A : Int) ≤ (cap : Int) := by omega
          have hncI : (n : Int) ≤ (cap : Int) := by omega
          have hne : ¬ cap = A := by omega
          have HST := hid (show L.take A = compT L (A + 0 + 1) by rw [← hA]; exact (HE.out.trans HP.out).symm)
          rw [hAI]
          have hA1 : 1 ≤ A := by omega
          clear j2 j3 j4 j5 hltI hlt HP HE HO HL hA hAI HJI hj
          go_wp2_with fail
          go_loopw [3, 5] (fun s3 s5 wr => ∃ (i q : Nat) (K : List So), s3 = .int .i64 i ∧ s5 = .int .i64 ((q : Int) + 1) ∧ A + q + 1 ≤ n ∧ i ≤ A + q ∧ K.length = n ∧ K.take i = compT L (A + q + 1) ∧ K.drop (A + q) = L.drop (A + q) ∧ OwnSols lo wr (.slice (some ⟨b, 0, none⟩) n cap) K ∧ Later w0 wr) (fun _ s5 _ => n - (intOf s5).toNat)
          case atStart => exact ⟨A, 0, L, rfl, by simp, by omega, by omega, HN.out, HST.out, rfl, HO2.out, HL2.out⟩
          case round =>
            clear HO2 HL2 HST
            obtain ⟨i, q', K, rfl, rfl, hq, hiq, hKl, hKt, hKd, hO, hL⟩ := hrel
            have HO := hid hO
            have HL := hid hL
            have HKL := hid hKl
            have HKT := hid hKt
            have HKD := hid hKd
            clear hKt hKd hL hKl
            by_cases hlt : A + q' + 1 < n
            · obtain ⟨c0, c1, c2, c3⟩ := fourForm hO HKL.out A q' (by omega)
              obtain ⟨d0, d1, d2, d3⟩ := fourForm hO HKL.out A (q' + 1) (by omega)
              rw [show A + (q' + 1) = A + q' + 1 by omega] at d0 d1 d2 d3
              rw [drop_atS HKD.out] at c0 c1 c2 c3
              rw [drop_atS (drop_succS HKD.out)] at d0 d1 d2 d3
              have HKP := hid (fun h => compT_keep (L := L) (j := A + q') h)
              have HDR := hid (fun h => compT_drop (L := L) (j := A + q') h)
              obtain ⟨s, hs⟩ : ∃ s, L.getD (A + q') noSo = s := ⟨_, rfl⟩
              obtain ⟨u, hu⟩ : ∃ u, L.getD (A + q' + 1) noSo = u := ⟨_, rfl⟩
              rw [hs] at c0 c1 c2 c3 HKP HDR
              rw [hu] at d0 d1 d2 d3 HKP HDR
              clear hs hu
              obtain ⟨x, y, z, t⟩ := s
              obtain ⟨p, q, r, v⟩ := u
              simp only at c0 c1 c2 c3 d0 d1 d2 d3
              have heq := eqSo p q r v x y z t
              have j1 : IntKind.i64.wrap ((q' : Int) + 1 - 1) = (q' : Int) := by rw [IntWalk.i64_left]; rw [IntWalk.wrap64_in _ (by omega)]; omega
              have j2 : ((q' : Int) + 1).toNat = q' + 1 := by omega
              have j3 : (0 : Int) ≤ (q' : Int) + 1 := by omega
              have hltN : q' + 1 < n - A := by omega
              have hltI : (q' : Int) + 1 < ((n - A : Nat) : Int) := by omega
              have j4 : (q' : Int) < ((n - A : Nat) : Int) := by omega
              have j5 : (0 : Int) ≤ (q' : Int) := by omega
              obtain ⟨⟨m0, m1, m2, m3, e0, e1, e2, e3⟩, g0, g1, g2, g3⟩ := hO.openAt HKL.out i (by omega)
              have hin : (i : Int) < (n : Int) := by omega
              have hi0 : (0 : Int) ≤ (i : Int) := by omega
              by_cases he : (p, q, r, v) = (x, y, z, t)
              · have hbe : (p == x && (q == y && (r == z && v == t))) = true := by simp only [Prod.mk.injEq] at he; simp [he]
                rw [hbe] at heq
                have HE := hid (HDR.out he)
                clear hbe he hO
                go_wp2_with fail
                go_quiet (fail)
                have HL2 := hid (HL.out.trans (Later.drewN wr nq))
                have HO2 := hid (HO.out.later (Later.drewN wr nq))
                generalize wr.drewN nq = wd at HL2 HO2 ⊢
                clear j1 heq
                go_wp2_with fail
                go_roundw
                case rel => exact ⟨i, q' + 1, K, rfl, by go_num, hlt, by omega, HKL.out, by rw [show A + (q' + 1) + 1 = A + q' + 2 by omega, HE.out]; exact HKT.out, drop_succS HKD.out, HO2.out, HL2.out⟩
                case measure => simp [intOf]; omega
              · have hbe : (p == x && (q == y && (r == z && v == t))) = false := by
                  cases hb2 : (p == x && (q == y && (r == z && v == t)))
                  · rfl
                  · exfalso; apply he; simp at hb2; simp [hb2]
                rw [hbe] at heq
                have HE := hid (HKP.out he)
                have HX := hid (show (soCells K).length = (soCells K).length from rfl)
                clear hbe he hO
                go_wp2_with fail
                go_quiet (fail)
                have hLd := Later.drewN wr nq
                have HL2 := hid (HL.out.trans hLd)
                have HO2 := hid (HO.out.later hLd)
                replace d0 := hLd.cell d0
                replace d1 := hLd.cell d1
                replace d2 := hLd.cell d2
                replace d3 := hLd.cell d3
                replace g0 := hLd.frozen e0 g0
                replace g1 := hLd.frozen e1 g1
                replace g2 := hLd.frozen e2 g2
                replace g3 := hLd.frozen e3 g3
                replace e0 := hLd.cell e0
                replace e1 := hLd.cell e1
                replace e2 := hLd.cell e2
                replace e3 := hLd.cell e3
                clear c0 c1 c2 c3
                generalize wr.drewN nq = wd at HL2 HO2 d0 d1 d2 d3 e0 e1 e2 e3 g0 g1 g2 g3 ⊢
                clear j1 heq hLd
                go_wp2_with fail
                have h1 : OwnSols lo wd (.slice (some ⟨b, 0, none⟩) K.length cap) K := by rw [HKL.out]; exact HO2.out
                have h2' := h1.put i (by rw [HKL.out]; omega) p q r v
                rw [HKL.out] at h2'
                have HO3 := hid h2'
                have HL3 := hid (set4_laterK HL2.out (Nat.le_trans HLO.out (HO2.out.lt b rfl).1) i p q r v)
                clear h1 h2'
                go_roundw
                case rel => exact ⟨i + 1, q' + 1, K.set i (p, q, r, v), by go_num, by go_num, hlt, by omega, by rw [List.length_set]; exact HKL.out, by
                  rw [show A + (q' + 1) + 1 = A + q' + 2 by omega, HE.out, ← HKT.out, List.take_set, take_snocS K i (by rw [HKL.out]; omega)]
                  rw [List.set_append_right _ _ (by rw [List.length_take]; omega), List.length_take, Nat.min_eq_left (by rw [HKL.out]; omega), Nat.sub_self]; rfl, by
                  rw [List.drop_set_of_lt (by omega)]; exact drop_succS HKD.out, HO3.out, HL3.out⟩
                case measure => simp [intOf]; omega
            · have hJ : A + q' + 1 = n := by omega
              have hin2 : i < n := by omega
              obtain ⟨hcl, hcut, hlf, hcap2, hml⟩ := cut_at (M := M) HO.out HKL.out HLO.out HL.out i hin2 (by rw [HKT.out, hJ]; exact HM.out)
              have HCUT := hid hcut
              have HLF := hid hlf
              have HML := hid hml
              have hq2 : ¬ (q' : Int) + 1 < ((n - A : Nat) : Int) := by omega
              have hiI : (i : Int) ≤ (n : Int) := by omega
              have hicI : (i : Int) ≤ (cap : Int) := by omega
              have hnci : ¬ cap = i := by omega
              clear hO hcut hlf hml hJ
              go_wp2_with fail
              go_ret
              exact ⟨by rw [HML.out]; rfl, by rw [HML.out]; exact HCUT.out, HLF.out⟩
        · have hbe : (p == x && (q == y && (r == z && v == t))) = false := by
            cases hb2 : (p == x && (q == y && (r == z && v == t)))
            · rfl
            · exfalso; apply he; simp at hb2; simp [hb2]
          rw [hbe] at heq
          have HE := hid (HKP.out he)
          clear hbe he
          go_wp2_with fail
          go_quiet (fail)
          have HL2 := hid (HL.out.trans (Later.drewN wr nq))
          have HO2 := hid (HO.out.later (Later.drewN wr nq))
          generalize wr.drewN nq = wd at HL2 HO2 ⊢
          clear j1 heq
          go_wp2_with fail
          go_roundw
          case rel => exact ⟨j + 1, hlt, by go_num, by rw [HE.out, HP.out, HSN.out], HO2.out, HL2.out⟩
          case measure => simp [intOf]; omega
      · have hjn : j + 1 = n := by omega
        have hjI : ¬ (j : Int) + 1 < (n : Int) := by omega
        have HE := hid (show M = L by rw [← HM.out, ← hjn, HP.out]; exact List.take_of_length_le (by rw [HN.out]; omega))
        have HEN := hid (show M.length = n by rw [HE.out]; exact HN.out)
        clear hpre hO hL hjn
        go_wp2_with fail
        go_ret
        exact ⟨by rw [HEN.out]; rfl, by rw [HEN.out, HE.out]; exact HO.out, HL.out⟩
end Go.Proofs.Ytoaopmafokoaoaa
