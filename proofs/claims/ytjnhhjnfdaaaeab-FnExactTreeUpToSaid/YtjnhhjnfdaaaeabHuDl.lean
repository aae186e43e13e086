/- Rows of solutions: Go's library's deletion by a predicate. -/
import Derived.Test.YtjnhhjnfdaaaeabHuRv
import Derived.Lib.SliceRun
import Derived.Sort.WalkB12
namespace Go.Proofs.Ytjnhhjnfdaaaeab
open Go.RowKit

/-- The four cells of a solution in a row. -/
theorem OwnSols.fourAt {lo : Nat} {w : World} {g cap n : Nat} {L : List So} (h : OwnSols lo w (.slice (some ⟨g, 0, none⟩) n cap) L) (hn : L.length = n) (k : Nat) (hk : k < n) :
    w.cell? ⟨g, k * 4, none⟩ = some (.int .i64 (L.getD k noSo).1) ∧ w.cell? ⟨g, k * 4 + 1, none⟩ = some (.int .i64 (L.getD k noSo).2.1) ∧ w.cell? ⟨g, k * 4 + 2, none⟩ = some (.int .i64 (L.getD k noSo).2.2.1) ∧ w.cell? ⟨g, k * 4 + 3, none⟩ = some (.int .i64 (L.getD k noSo).2.2.2) := by
  subst hn
  have hat := soCells_at L k hk
  have h' : w.ownsRow lo 48 4 (.slice (some ⟨g, 0, none⟩) L.length cap) L.length (soCells L) := h
  rw [show L.getD k noSo = L[k] by simp [hk]]
  exact ⟨(h'.cellAt (k * 4) (by omega)).trans hat.1, (h'.cellAt (k * 4 + 1) (by omega)).trans hat.2.1, (h'.cellAt (k * 4 + 2) (by omega)).trans hat.2.2.1, (h'.cellAt (k * 4 + 3) (by omega)).trans hat.2.2.2⟩
def soA (s : So) : Value := .agg #[.int .i64 s.1, .int .i64 s.2.1, .int .i64 s.2.2.1, .int .i64 s.2.2.2]
/-- A function value that tests solutions of a kind, in whatever world that is behind w0. -/
def Tests (w0 : World) (g : Nat) (lb : Array Value) (D : So → Prop) (p : So → Bool) : Prop :=
  ∀ w', Later w0 w' → ∀ s, D s → Calls Try.prog g (#[soA s] ++ lb) w' fun e w'' => e = .returned (.bool (p s)) ∧ Later w' w''
theorem ownsRow_setCells {lo : Nat} {e : TypeId} {sz g n cap : Nat} (vs : List Value) : ∀ (o : Nat) (w : World) (xs : List Value), w.ownsRow lo e sz (.slice (some ⟨g, 0, none⟩) n cap) n xs →
    ∃ ys, (w.setCells g o vs).ownsRow lo e sz (.slice (some ⟨g, 0, none⟩) n cap) n ys ∧ ys.take o = xs.take o ∧ w.grownBy (w.setCells g o vs) (some g) := by
  induction vs with
  | nil => intro o w xs h; exact ⟨xs, h, rfl, rfl, rfl, rfl, Nat.le_refl _, fun k _ _ => rfl⟩
  | cons v vs ih =>
    intro o w xs h
    obtain ⟨h1, h2⟩ := h.stored o v
    obtain ⟨ys, h3, h4, h5⟩ := ih (o + 1) _ _ h1
    refine ⟨ys, h3, ?_, ?_⟩
    · have e : ys.take o = (ys.take (o + 1)).take o := by rw [List.take_take, Nat.min_eq_left (by omega)]
      rw [e, h4, List.take_take, Nat.min_eq_left (by omega), List.take_set_of_le (Nat.le_refl _)]
    · refine ⟨h5.os.trans h2.os, h5.tape.trans h2.tape, h5.output.trans h2.output, Nat.le_trans h2.size h5.size, fun k hk hne => ?_⟩
      exact (h5.block k (Nat.lt_of_lt_of_le hk h2.size) hne).trans (h2.block k hk hne)
theorem OwnSols.cut {lo : Nat} {w : World} {g n cap : Nat} {xs : List Value} {M : List So} (h : w.ownsRow lo 48 4 (.slice (some ⟨g, 0, none⟩) n cap) n xs) (i : Nat) (hi : i ≤ n) (hM : M.length = i) (hx : xs.take (i * 4) = soCells M) :
    OwnSols lo w (.slice (some ⟨g, 0, none⟩) i cap) M := by
  subst hM
  rcases h.2 with ⟨e0, _⟩ | ⟨g', cap', cur, e0, hb, hg, hn, hm, hs, ht⟩
  · cases e0
  · injection e0 with e1 _ e3
    injection e1 with e1
    injection e1 with e1
    subst e1; subst e3
    refine ⟨soCells_len M, .inr ⟨g, cap, cur, rfl, hb, hg, by omega, hm, hs, ?_⟩⟩
    rw [← hx, ← ht, List.take_take, Nat.min_eq_left (Nat.mul_le_mul_right 4 hi)]
theorem zero_sols (n : Nat) : (Builtin.zeroCells #[Value.int .i64 0, .int .i64 0, .int .i64 0, .int .i64 0] n).toList = List.replicate (n * 4) (.int .i64 0) := by
  apply List.ext_getElem
  · simp [Builtin.zeroCells]
  · intro i h1 h2
    have h4 : i % 4 = 0 ∨ i % 4 = 1 ∨ i % 4 = 2 ∨ i % 4 = 3 := by omega
    simp [Builtin.zeroCells]
    rcases h4 with h | h | h | h <;> simp [h]
theorem run_clear_so (w : World) (ty : TypeId) (b o n c : Nat) (hn : 0 < n)
    (hc : ∀ j, j < n * 4 → (w.cell? ⟨b, o + j, none⟩).isSome = true) (hf : ∀ j, j < n * 4 → w.frozen? ⟨b, o + j, none⟩ = false) :
    (Builtin.clear_ #[51] ty #[.slice (some ⟨b, o, none⟩) n c]).run Try.prog w = .ok (.tuple #[]) (w.setCells b o (List.replicate (n * 4) (.int .i64 0))) := by
  have hv := Try.zeroValue48
  have hst := run_storeCells_cells (P := Try.prog) b o (List.replicate (n * 4) (Value.int .i64 0)) 0 w (by simpa using hc) (by simpa using hf) (by intro v hv'; rw [List.eq_of_mem_replicate hv']; rfl)
  simp only [Nat.add_zero] at hst
  obtain ⟨m, rfl⟩ : ∃ m, n = m + 1 := ⟨n - 1, by omega⟩
  have hz := zero_sols (m + 1)
  simp [Builtin.clear_, run_underlying Try.underlying51, hv, Value.cells]
  rw [hz, hst]
  rfl
/-- The least place at which a test holds, if there is one. -/
def FirstAt (p : So → Bool) (L : List So) (r : Int) : Prop := (r = -1 ∧ ∀ s ∈ L, p s = false) ∨ ∃ k : Nat, r = (k : Int) ∧ k < L.length ∧ p (L.getD k noSo) = true ∧ ∀ j, j < k → p (L.getD j noSo) = false

set_option maxRecDepth 20000 in
set_option maxHeartbeats 4000000 in
theorem indexFunc_any {lo : Nat} (w0 : World) (g : Nat) (lb : Array Value) (eg : ∀ args w, (callFunc g args).run Try.prog w = .ok (.enter g args) w) (D : So → Prop) (p : So → Bool) (HT : Tests w0 g lb D p)
    (b cap : Nat) (L : List So) (w : World) (hL0 : Later w0 w) (hD : ∀ s ∈ L, D s) (hb : L.length ≤ 1000000000000) (h : OwnSols lo w (.slice (some ⟨b, 0, none⟩) L.length cap) L) :
    Calls Try.prog 117 #[.slice (some ⟨b, 0, none⟩) L.length cap, .func (.func g) #[] lb] w fun e w' => ∃ r, e = .returned (.int .i64 r) ∧ FirstAt p L r ∧ Later w w' := by
  have H := hid h
  have HT' := hid HT
  have HL0 := hid hL0
  have HD := hid hD
  obtain ⟨n, hn⟩ : ∃ n, L.length = n := ⟨_, rfl⟩
  have HN := hid hn
  rw [hn] at H hb ⊢
  clear h HT hL0 hD hn
  go_enter Try.func117, Try.ntmps117
  go_wp2_with fail
  go_loopw [8] (fun i wr => ∃ k : Nat, k ≤ n ∧ i = .int .i64 k ∧ (∀ j, j < k → p (L.getD j noSo) = false) ∧ Later w wr) (fun i _ => n - (intOf i).toNat)
  case atStart => exact ⟨0, Nat.zero_le _, rfl, fun j hj => absurd hj (Nat.not_lt_zero j), Later.refl _⟩
  case round =>
    obtain ⟨k, hk, rfl, hpre, hL⟩ := hrel
    have HP := hid hpre
    have HL := hid hL
    by_cases hlt : k < n
    · have hltI : (k : Int) < (n : Int) := by omega
      obtain ⟨c0, c1, c2, c3⟩ := (H.out.later hL).fourAt HN.out k hlt
      have hm : D (L.getD k noSo) := HD.out _ (by rw [List.getD_eq_getElem?_getD, List.getElem?_eq_getElem (by rw [HN.out]; exact hlt), Option.getD_some]; exact List.getElem_mem _)
      obtain ⟨s, hs⟩ : ∃ s, L.getD k noSo = s := ⟨_, rfl⟩
      have HSE := hid hs
      rw [hs] at c0 c1 c2 c3 hm
      have HCALL := hid (HT'.out wr (HL0.out.trans hL) s hm)
      obtain ⟨x', y', z', t'⟩ := s
      simp only at c0 c1 c2 c3
      clear hpre hL hm hs
      cases hp : p (x', y', z', t')
      · have HPV := hid hp
        clear hp
        go_wp2_with (go_at_fn g; refine HCALL.out.mono ?_; rw [HPV.out]; rintro e w2 ⟨rfl, hL2⟩; have HL2 := hid (HL.out.trans hL2); clear hL2)
        go_roundw
        case rel => exact ⟨k + 1, hlt, by go_num, fun j hj => by
          by_cases e : j = k
          · rw [e, HSE.out]; exact HPV.out
          · exact HP.out j (by omega), HL2.out⟩
        case measure => simp [intOf]; omega
      · have HPV := hid hp
        clear hp
        go_wp2_with (go_at_fn g; refine HCALL.out.mono ?_; rw [HPV.out]; rintro e w2 ⟨rfl, hL2⟩; have HL2 := hid (HL.out.trans hL2); clear hL2)
        go_ret
        exact ⟨_, rfl, .inr ⟨k, rfl, by rw [HN.out]; exact hlt, by rw [HSE.out]; exact HPV.out, HP.out⟩, HL2.out⟩
    · obtain rfl : k = n := by omega
      clear hL hpre
      go_wp2_with fail
      go_ret
      exact ⟨_, rfl, .inl ⟨rfl, fun s hs => by
        obtain ⟨j, hj, rfl⟩ := List.getElem_of_mem hs
        have := HP.out j (by rw [← HN.out]; exact hj)
        simpa [hj] using this⟩, HL.out⟩
end Go.Proofs.Ytjnhhjnfdaaaeab
