/- Sq, Trans, Answer, Same: in one text. -/
import Derived.Test.YtoaopmafokoaoaaBasB
namespace Go.Proofs.Ytoaopmafokoaoaa
open Go.RowKit


def ent (m : List (List Int)) (i j : Nat) : Int := (m.getD i []).getD j 0
def Sq (n : Nat) (m : List (List Int)) : Prop := m.length = n ∧ ∀ i, i < n → (m.getD i []).length = n
theorem Sq.mk' (n : Nat) (f : Nat → Nat → Int) : Sq n (mk n f) := ⟨mk_length n f, fun i hi => by rw [mk_row n f i hi]; simp⟩
theorem ent_mk (n : Nat) (f : Nat → Nat → Int) (i j : Nat) (hi : i < n) (hj : j < n) : ent (mk n f) i j = f i j := by unfold ent; rw [mk_row n f i hi]; simp [hj]
theorem goodM_sq {M : Int} {m : List (List Int)} (h : goodM M m = true) : 1 ≤ m.length ∧ m.length ≤ 4 ∧ Sq m.length m := by
  by_cases hs : 1 ≤ m.length ∧ m.length ≤ 4
  · refine ⟨hs.1, hs.2, rfl, fun i hi => ?_⟩
    rw [goodM_eq _ _ hs, List.all_eq_true] at h
    have := h m[i] (List.getElem_mem hi)
    rw [getD_row m i hi]
    simp only [rowGood, Bool.and_eq_true, decide_eq_true_eq] at this
    exact this.1
  · rw [goodM_size _ _ hs] at h; cases h
theorem goodM_ent {M : Int} {m : List (List Int)} (h : goodM M m = true) (i j : Nat) (hi : i < m.length) (hj : j < m.length) : -M ≤ ent m i j ∧ ent m i j ≤ M := by
  have hq := goodM_sq h
  rw [goodM_eq _ _ ⟨hq.1, hq.2.1⟩, List.all_eq_true] at h
  have := h m[i] (List.getElem_mem hi)
  simp only [rowGood, Bool.and_eq_true, decide_eq_true_eq, List.all_eq_true] at this
  have hl : j < m[i].length := by omega
  have h2 := this.2 m[i][j] (List.getElem_mem hl)
  simp only [within, Bool.and_eq_true, decide_eq_true_eq] at h2
  unfold ent
  rw [getD_row m i hi, getD_at _ j hl]
  exact h2
theorem sq_eq_mk (n : Nat) (m : List (List Int)) (h : Sq n m) : m = mk n (ent m) := by
  apply List.ext_getElem
  · rw [mk_length]; exact h.1
  · intro i h1 h2
    have hi : i < n := by rw [← h.1]; exact h1
    have e1 := getD_row m i h1
    have e2 := getD_row (mk n (ent m)) i h2
    rw [← e1, ← e2, mk_row n _ i hi]
    apply List.ext_getElem
    · rw [h.2 i hi]; simp
    · intro j h3 h4
      rw [List.getElem_map]; simp only [List.getElem_range]; exact (getD_at _ j h3).symm

/-- An entry that is read: the row's cell, the entry's cell. -/
theorem Rows2.ent {w : World} {v : Value} {m : List (List Int)} {n : Nat} (h : Rows2 w v m) (hq : Sq n m) (i : Nat) (hi : i < n) :
    ∃ ad cap a2 c2, v = .slice (some ad) n cap ∧ w.cell? (ad.add i) = some (.slice a2 n c2) ∧ Ints w (.slice a2 n c2) (m.getD i []) ∧ ∀ j, j < n → ∃ ad2, a2 = some ad2 ∧ w.cell? (ad2.add j) = some (.int .i64 (ent m i j)) := by
  obtain ⟨a, cap, rfl, _, hc⟩ := h
  obtain ⟨ad, u, rfl, hcell, hu⟩ := hc i (by rw [hq.1]; exact hi)
  obtain ⟨a2, c2, rfl, h2, h3⟩ := id hu
  rw [hq.2 i hi] at hcell hu
  refine ⟨ad, cap, a2, c2, by rw [hq.1], hcell, hu, fun j hj => ?_⟩
  obtain ⟨ad2, rfl, hx⟩ := h3 j (by rw [hq.2 i hi]; exact hj)
  exact ⟨ad2, rfl, hx⟩
theorem Rows2.sqForm {w : World} {v : Value} {m : List (List Int)} {n : Nat} (h : Rows2 w v m) (hq : Sq n m) : ∃ a cap, v = .slice a n cap ∧ n ≤ 9223372036854775807 := by
  obtain ⟨a, cap, rfl, hl, _⟩ := h
  exact ⟨a, cap, by rw [hq.1], by rw [← hq.1]; exact hl⟩

def upd (f : Nat → Nat → Int) (i j : Nat) (x : Int) : Nat → Nat → Int := fun a b => if a = i ∧ b = j then x else f a b
theorem mk_set (n : Nat) (f : Nat → Nat → Int) (i j : Nat) (x : Int) (hi : i < n) : (mk n f).set i (((mk n f).getD i []).set j x) = mk n (upd f i j x) := by
  rw [mk_row n f i hi]
  apply List.ext_getElem
  · simp [mk]
  · intro a h1 h2
    have ha : a < n := by simpa [mk] using h2
    by_cases hai : a = i
    · subst hai
      simp only [List.getElem_set_self]
      apply List.ext_getElem
      · simp [mk]
      · intro b h3 h4
        by_cases hbj : b = j
        · subst hbj; simp [mk, upd]
        · simp [mk, upd, hbj, List.getElem_set_ne (Ne.symm hbj)]
    · rw [List.getElem_set_ne (fun e => hai e.symm)]
      simp [mk, upd, hai]

/-- A cell of a grid of the call's own: where it lies, and what a store there leaves. -/
theorem OwnRows.at2 {lo hi : Nat} {w : World} {v : Value} {n : Nat} {f : Nat → Nat → Int} (h : OwnRows lo hi w v (mk n f)) (i j : Nat) (hi' : i < n) (hj : j < n) :
    ∃ g cap gu cu, v = .slice (some ⟨g, 0, none⟩) n cap ∧ lo ≤ gu ∧ gu < hi ∧ w.cell? ⟨g, i, none⟩ = some (.slice (some ⟨gu, 0, none⟩) n cu) ∧ w.cell? ⟨gu, j, none⟩ = some (.int .i64 (f i j)) ∧ w.frozen? ⟨gu, j, none⟩ = false ∧
      ∀ x, OwnRows lo hi (w.setCell ⟨gu, j, none⟩ (.int .i64 x)) v (mk n (upd f i j x)) ∧ Wrote (fun b => lo ≤ b ∧ b < hi) w (w.setCell ⟨gu, j, none⟩ (.int .i64 x)) := by
  obtain ⟨g, cap, u, hv, hc, hu, hstep⟩ := h.row (i := i) (by rw [mk_length]; exact hi')
  rw [mk_row n f i hi'] at hu
  obtain ⟨gu, cu, rfl, h1, h2, h3, h4, h5⟩ := hu.cell (i := j) (by simpa using hj)
  rw [mk_length] at hv
  rw [addr_add0] at hc
  simp only [List.length_map, List.length_range] at hc h3 h5 hstep hu
  have hnum : ((List.range n).map (f i)).getD j 0 = f i j := by simp [hj]
  rw [hnum] at h3
  refine ⟨g, cap, gu, cu, hv, h1, h2, hc, h3, h4, fun x => ?_⟩
  have h6 := hstep _ _ (h5 x).1 (h5 x).2
  rw [← mk_row n f i hi', mk_set n f i j x hi'] at h6
  exact ⟨h6, (h5 x).2.mono fun b hb => hu.blk hb⟩


def transM (n : Nat) (m : List (List Int)) : List (List Int) := mk n fun i j => ent m j i

/-- entries that the model has laid: rows below i, and of row i those below j -/
def trState (m : List (List Int)) (i j : Nat) : Nat → Nat → Int := fun a b => if b < i ∨ (b = i ∧ a < j) then ent m b a else 0
theorem trState_step (m : List (List Int)) (i j : Nat) : upd (trState m i j) j i (ent m i j) = trState m i (j + 1) := by
  funext a b
  unfold upd trState
  by_cases h1 : a = j ∧ b = i
  · obtain ⟨rfl, rfl⟩ := h1; simp
  · rw [if_neg h1]
    have : (b < i ∨ b = i ∧ a < j) ↔ (b < i ∨ b = i ∧ a < j + 1) := by omega
    simp only [this]
theorem trState_next (n : Nat) (m : List (List Int)) (i : Nat) : mk n (trState m i n) = mk n (trState m (i + 1) 0) := by
  refine mk_congr n _ _ fun a b ha hb => ?_
  unfold trState
  have : (b < i ∨ b = i ∧ a < n) ↔ (b < i + 1 ∨ b = i + 1 ∧ a < 0) := by omega
  simp only [this]
theorem trState_zero (n : Nat) (m : List (List Int)) : mk n (trState m 0 0) = zeroM n n := by
  apply List.ext_getElem
  · simp [mk, zeroM]
  · intro a h1 h2
    simp [mk, zeroM, trState]
    exact (List.map_const' ..).symm ▸ by simp
theorem trState_full (n : Nat) (m : List (List Int)) : mk n (trState m n 0) = transM n m := by
  refine mk_congr n _ _ fun a b ha hb => ?_
  unfold trState
  rw [if_pos (Or.inl hb)]

/-- A grid and a bool. -/
def GridAns (w : World) (o : Option (List (List Int))) (e : Ending) (w' : World) : Prop :=
  ∃ v, e = .returned (.tuple #[v, .bool o.isSome]) ∧ OwnRows w.heap.size w'.heap.size w' v (o.getD []) ∧ Later w w'
def whenGood {α : Type} (M : Int) (m : List (List Int)) (r : α) : Option α := if goodM M m then some r else none
theorem whenGood_yes {α : Type} {M : Int} {m : List (List Int)} {r : α} (h : goodM M m = true) : whenGood M m r = some r := by unfold whenGood; rw [if_pos h]
theorem whenGood_no {α : Type} {M : Int} {m : List (List Int)} {r : α} (h : goodM M m = false) : whenGood M m r = none := by unfold whenGood; rw [if_neg (by rw [h]; simp)]

theorem off_sq (n : Nat) (R : List (List Int)) (h : Sq n R) (hn : n ≤ 4) : off R R.length ≤ 16 := by
  have h1 := off_bound R 4 R.length (fun i hi => by rw [h.2 i (by rw [← h.1]; exact hi)]; exact hn) (Nat.le_refl _)
  have h2 := h.1
  omega
theorem off_whenGood (M : Int) (m R : List (List Int)) (h : goodM M m = true → ∃ n, n ≤ 4 ∧ Sq n R) : off ((whenGood M m R).getD []) ((whenGood M m R).getD []).length ≤ 1000000000000 := by
  unfold whenGood
  split
  · rename_i hg
    obtain ⟨n, hn, hq⟩ := h hg
    have := off_sq n R hq hn
    show off R R.length ≤ _
    omega
  · simp [off]

def transAns (m : List (List Int)) : Option (List (List Int)) := whenGood 1000000 m (transM m.length m)

set_option maxHeartbeats 400000 in
theorem l1Same_any (u v : Value) (xs ys : List Int) (w : World) (hx : Ints w u xs) (hy : Ints w v ys) :
    Calls Try.prog 111 #[u, v] w fun e w' => e = .returned (.bool (eqL xs ys)) ∧ Drew w w' := by
  obtain ⟨a, cap, rfl, hl, hc⟩ := hx
  obtain ⟨b, cap2, rfl, hl2, hc2⟩ := hy
  have HC := hid hc
  have HC2 := hid hc2; clear hc hc2
  by_cases hlen : xs.length = ys.length
  · have HL := hid hlen
    have hne : ((xs.length : Int) != (ys.length : Int)) = false := by simp [hlen]
    have hle : xs.length ≤ ys.length := by omega
    clear hlen
    go_enter Try.func111, Try.ntmps111
    go_wp2
    go_loopw [13] (fun i wr => ∃ k n : Nat, k ≤ xs.length ∧ i = .int .i64 k ∧ xs.take k = ys.take k ∧ wr = w.drewN n) (fun i _ => xs.length - (intOf i).toNat)
    case atStart => exact ⟨0, 0, Nat.zero_le _, rfl, rfl, rfl⟩
    case round =>
      obtain ⟨k, n, hk, rfl, heq, rfl⟩ := hrel
      have HE := hid heq; clear heq
      by_cases hlt : k < xs.length
      · have hlt2 : k < ys.length := by omega
        obtain ⟨ad, rfl, hcell⟩ := HC.out k hlt
        obtain ⟨ad2, rfl, hcell2⟩ := HC2.out k hlt2
        have hi1 : (k : Int) < (xs.length : Int) := by omega
        have hi2 : (k : Int) < (ys.length : Int) := by omega
        by_cases hv : xs[k] = ys[k]
        · have HV := hid hv
          have hb : (xs[k] != ys[k]) = false := by simp [hv]
          clear hv
          go_wp2
          go_quiet (fail)
          go_wp2
          go_roundw
          case rel => exact ⟨k + 1, n + nq, hlt, by go_num, by rw [take_snoc xs k hlt, take_snoc ys k hlt2, HE.out, HV.out], by simp⟩
          case measure => simp [intOf]; omega
        · have hb : (xs[k] != ys[k]) = true := by simp [hv]
          have HN := hid hv; clear hv
          go_wp2
          go_quiet (fail)
          go_wp2
          go_ret
          exact ⟨ret_bool (by symm; unfold eqL; rw [decide_eq_false_iff_not]; intro e; subst e; exact HN.out rfl), ⟨n + nq, by simp⟩⟩
      · go_wp2
        go_ret
        exact ⟨ret_bool (by symm; unfold eqL; rw [decide_eq_true_iff, ← take_all xs k (by omega), HE.out, take_all ys k (by have := HL.out; omega)]), ⟨n, rfl⟩⟩
  · have hne : ((xs.length : Int) != (ys.length : Int)) = true := by simp; omega
    go_enter Try.func111, Try.ntmps111
    go_wp2
    go_ret
    exact ⟨ret_bool (by symm; unfold eqL; rw [decide_eq_false_iff_not]; intro e; subst e; exact hlen rfl), Drew.refl w⟩
theorem l1Same_as {u v : Value} {xs ys : List Int} {w : World} {b : Bool} (hb : eqL xs ys = b) (hx : Ints w u xs) (hy : Ints w v ys) :
    Calls Try.prog 111 #[u, v] w fun e w' => e = .returned (.bool b) ∧ Drew w w' := by
  subst hb; exact l1Same_any u v xs ys w hx hy

def symW (m : List (List Int)) : Bool := eqLL m (transM m.length m)
end Go.Proofs.Ytoaopmafokoaoaa
