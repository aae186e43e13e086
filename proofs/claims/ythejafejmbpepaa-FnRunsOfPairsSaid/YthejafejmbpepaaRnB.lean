/- JqA, JqC, RwJ, JlB: in one text. -/
import Derived.Test.YthejafejmbpepaaJp
import Derived.Test.YthejafejmbpepaaCuL
import Derived.Test.YthejafejmbpepaaJlA
import Derived.Test.YthejafejmbpepaaJpJ
import Derived.Test.YthejafejmbpepaaRgH
import Derived.Test.YthejafejmbpepaaJuO
import Derived.Test.YthejafejmbpepaaJuS
namespace Go.Proofs.Ythejafejmbpepaa
open Go.RowKit


/-- Two numbers with the whole quotient q. -/
def QP (q x y : Int) : Prop := 0 ≤ y ∧ y ≤ x ∧ 1 ≤ x ∧ x * x + y * y = q * (x * y + 1)
theorem QP.pos {q x y : Int} (h : QP q x y) : 1 ≤ q := by
  obtain ⟨h1, h2, h3, h4⟩ := h
  by_cases hq : 1 ≤ q
  · exact hq
  · have a1 : 0 < x * x := Int.mul_pos (by omega) (by omega)
    have a2 : 0 ≤ y * y := Int.mul_nonneg h1 h1
    have a3 : 0 ≤ x * y := Int.mul_nonneg (by omega) h1
    have a4 : q * (x * y + 1) ≤ 0 := Int.mul_nonpos_of_nonpos_of_nonneg (by omega) (by omega)
    omega
theorem QP.step {q x y : Int} (h : QP q x y) (hz : 0 ≤ q * y - x) : q * y - x < y ∧ QP q y (q * y - x) := by
  have hq := h.pos
  obtain ⟨h1, h2, h3, h4⟩ := h
  have hy : 1 ≤ y := by
    by_cases hy : 1 ≤ y
    · exact hy
    · have : y = 0 := by omega
      subst this
      simp at hz
      omega
  have e : x * (q * y - x) = y * y - q := by grind
  have e2 : y * y + (q * y - x) * (q * y - x) = q * (y * (q * y - x) + 1) := by grind
  generalize q * y - x = z at *
  have hlt : z < y := by
    by_cases hlt : z < y
    · exact hlt
    · have a1 : y * y ≤ x * z := Int.mul_le_mul h2 (by omega) (by omega) (by omega)
      omega
  exact ⟨hlt, hz, by omega, hy, e2⟩
theorem QP.dn {q x y : Int} (h : QP q x y) (p : Jp2) (e : dnJ q (x, y) = some p) : p = (y, q * y - x) ∧ 0 ≤ q * y - x := by
  unfold dnJ at e
  simp only at e
  split at e
  · rename_i hh
    obtain ⟨g1, _⟩ := h.step hh.1
    rw [if_pos g1] at e
    injection e with e
    exact ⟨e.symm, hh.1⟩
  · cases e
theorem QP.two {x y : Int} (h : QP 2 x y) : False := by
  obtain ⟨h1, h2, h3, h4⟩ := h
  have e : (x - y) * (x - y) = 2 := by grind
  generalize x - y = d at e
  have hd : d ≤ 1 ∨ 2 ≤ d := by omega
  rcases hd with hd | hd
  · rcases (show d ≤ -2 ∨ d = -1 ∨ d = 0 ∨ d = 1 by omega) with h | h | h | h
    · have := Int.mul_le_mul (show (2 : Int) ≤ -d by omega) (show (2 : Int) ≤ -d by omega) (by omega) (by omega)
      rw [Int.neg_mul_neg] at this
      omega
    · subst h; omega
    · subst h; omega
    · subst h; omega
  · have := Int.mul_le_mul hd hd (by omega) (by omega)
    omega
theorem QP.one {x y : Int} (h : QP 1 x y) : x = 1 := by
  obtain ⟨h1, h2, h3, h4⟩ := h
  have e : (x - y) * (x - y) + x * y = 1 := by grind
  have a1 : 0 ≤ (x - y) * (x - y) := Int.mul_nonneg (by omega) (by omega)
  rcases (show y = 0 ∨ 1 ≤ y by omega) with hy | hy
  · subst hy
    simp at e
    by_cases hx : x = 1
    · exact hx
    · have := Int.mul_le_mul (show (2 : Int) ≤ x by omega) (show (2 : Int) ≤ x by omega) (by omega) (by omega)
      omega
  · have := Int.mul_le_mul (show x ≤ x by omega) hy (by omega) (by omega)
    omega
theorem QP.short3 {q : Int} (hq : 3 ≤ q) (m : Nat) : ∀ (n : Nat) (x y : Int), QP q x y → x < (2 : Int) ^ n → (runJ (dnJ q) m (x, y)).length ≤ n + 1 := by
  induction m with
  | zero => intro n x y _ _; simp [runJ]
  | succ m ih =>
    intro n x y h hx
    cases hd : dnJ q (x, y) with
    | none => rw [runJ_none hd]; simp
    | some p =>
      obtain ⟨rfl, hz⟩ := h.dn p hd
      obtain ⟨g1, g2⟩ := h.step hz
      rw [runJ_some hd, List.length_cons]
      obtain ⟨h1, h2, h3, h4⟩ := h
      have h5 : 2 * y ≤ x := by
        have : 3 * y ≤ q * y := Int.mul_le_mul_of_nonneg_right hq h1
        omega
      cases n with
      | zero => simp at hx; omega
      | succ n =>
        have := ih n y (q * y - x) g2 (by rw [Int.pow_succ] at hx; omega)
        omega
theorem QP.short {q x y : Int} (h : QP q x y) (hx : x ≤ 1000000) (m : Nat) : (runJ (dnJ q) m (x, y)).length ≤ 21 := by
  have hq := h.pos
  rcases (show q = 1 ∨ q = 2 ∨ 3 ≤ q by omega) with e | e | e
  · subst e
    obtain rfl := h.one
    rcases (show y = 0 ∨ y = 1 by have := h.1; have := h.2.1; omega) with e | e
    · subst e
      have : dnJ 1 (1, 0) = none := by decide
      cases m with
      | zero => simp [runJ]
      | succ m => rw [runJ_none this]; simp
    · subst e
      have h1 : dnJ 1 (1, 1) = some (1, 0) := by decide
      have h2 : dnJ 1 (1, 0) = none := by decide
      cases m with
      | zero => simp [runJ]
      | succ m =>
        rw [runJ_some h1]
        cases m with
        | zero => simp [runJ]
        | succ m => rw [runJ_none h2]; simp
  · subst e; exact h.two.elim
  · exact QP.short3 e m 20 x y h (by omega)
theorem quoJ_some {a b q : Int} (h : quoJ a b = some q) : 0 ≤ a ∧ a ≤ 1000000 ∧ 0 ≤ b ∧ b ≤ 1000000 ∧ ¬ (a = 0 ∧ b = 0) ∧ a * a + b * b = q * (a * b + 1) := by
  unfold quoJ at h
  split at h
  · rename_i hh
    obtain ⟨h1, h2, h3, h4, h5, h6⟩ := hh
    injection h with h
    refine ⟨h1, h2, h3, h4, h5, ?_⟩
    have := (dvd_tdiv (a * a + b * b) (a * b + 1)).1 h6
    rw [h] at this
    exact this.symm
  · cases h
theorem quoJ_comm (a b : Int) : quoJ a b = quoJ b a := by
  unfold quoJ
  rw [Int.mul_comm b a, Int.add_comm (b * b) (a * a)]
  by_cases h : 0 ≤ a ∧ a ≤ 1000000 ∧ 0 ≤ b ∧ b ≤ 1000000 ∧ ¬ (a = 0 ∧ b = 0) ∧ (a * a + b * b).tmod (a * b + 1) = 0
  · rw [if_pos h, if_pos ⟨h.2.2.1, h.2.2.2.1, h.1, h.2.1, fun hh => h.2.2.2.2.1 ⟨hh.2, hh.1⟩, h.2.2.2.2.2⟩]
  · rw [if_neg h, if_neg fun hh => h ⟨hh.2.2.1, hh.2.2.2.1, hh.1, hh.2.1, fun h2 => hh.2.2.2.2.1 ⟨h2.2, h2.1⟩, hh.2.2.2.2.2⟩]
/-- The greater one and the lesser one. -/
def mxJ (a b : Int) : Int := if a < b then b else a
def mnJ (a b : Int) : Int := if a < b then a else b
theorem quo_QP {a b q : Int} (h : quoJ a b = some q) : QP q (mxJ a b) (mnJ a b) ∧ mxJ a b ≤ 1000000 ∧ quoJ (mxJ a b) (mnJ a b) = some q ∧ juN (mxJ a b) (mnJ a b) = true ∧ 0 ≤ q ∧ q ≤ 1000000000000 := by
  obtain ⟨h1, h2, h3, h4, h5, h6⟩ := quoJ_some h
  have hq : QP q (mxJ a b) (mnJ a b) := by
    unfold mxJ mnJ
    split
    · exact ⟨h1, by omega, by omega, by rw [Int.mul_comm b a]; omega⟩
    · exact ⟨h3, by omega, by omega, h6⟩
  have hm : mxJ a b ≤ 1000000 := by unfold mxJ; split <;> omega
  have hp := hq.pos
  refine ⟨hq, hm, ?_, ?_, by omega, ?_⟩
  · unfold mxJ mnJ
    split
    · rw [quoJ_comm]; exact h
    · exact h
  · exact juN_iff.2 ⟨hq.1, hq.2.1, hm⟩
  · unfold quoJ at h
    split at h
    · injection h with h
      obtain ⟨q1, q2⟩ := sqBd (x := a) ⟨h1, h2⟩
      obtain ⟨q3, q4⟩ := sqBd (x := b) ⟨h3, h4⟩
      by_cases hb : q ≤ 1000000000000
      · exact hb
      · obtain ⟨r1, r2, r3, r4⟩ := hq
        obtain ⟨x, hx⟩ : ∃ x, mxJ a b = x := ⟨_, rfl⟩
        obtain ⟨y, hy⟩ : ∃ y, mnJ a b = y := ⟨_, rfl⟩
        rw [hx] at r2 r3 r4 hm
        rw [hy] at r1 r2 r4
        have s1 : x * x ≤ 1000000 * x := Int.mul_le_mul_of_nonneg_right hm (by omega)
        have s2 : y * y ≤ x * y := Int.mul_le_mul_of_nonneg_right r2 r1
        have s3 : 0 ≤ x * y := Int.mul_nonneg (by omega) r1
        have s4 : 1 * (x * y) ≤ q * (x * y) := Int.mul_le_mul_of_nonneg_right hp s3
        have s5 : q * (x * y + 1) = q * (x * y) + q := by rw [Int.mul_add, Int.mul_one]
        omega
    · cases h
def qrAns (a b : Int) : Option (List (List Int)) := match quoJ a b with | none => none | some q => toldJ (dnRun q (mxJ a b, mnJ a b))
theorem qr_told {a b q : Int} (h : quoJ a b = some q) : toldJ (dnRun q (mxJ a b, mnJ a b)) = some ((dnRun q (mxJ a b, mnJ a b)).map jpL) := by
  obtain ⟨h1, h2, _⟩ := quo_QP h
  unfold toldJ
  rw [if_pos]
  have := h1.short h2 1001
  unfold dnRun
  omega
def qpAns (q c : Int) : Option (List (List Int)) := if 1 ≤ q ∧ q ≤ 100 ∧ 0 ≤ c ∧ c ≤ 20 then some ((upRun (q * q) c.toNat (q, 0)).map jpL) else none


def atJ (L : List Jp2) (i : Nat) : Jp2 := L.getD i (0, 0)
theorem atJ_zero (p : Jp2) (L : List Jp2) : atJ (p :: L) 0 = p := rfl
theorem atJ_succ (p : Jp2) (L : List Jp2) (i : Nat) : atJ (p :: L) (i + 1) = atJ L i := by simp [atJ]
theorem runJ_next (f : Jp2 → Option Jp2) : ∀ (n : Nat) (p : Jp2) (i : Nat), i + 1 < (runJ f n p).length → f (atJ (runJ f n p) i) = some (atJ (runJ f n p) (i + 1))
  | 0, p, i, h => by simp [runJ] at h
  | n + 1, p, i, h => by
    cases hf : f p with
    | none => rw [runJ_none hf] at h; simp at h
    | some q =>
      rw [runJ_some hf] at h ⊢
      cases i with
      | zero =>
        rw [atJ_zero, atJ_succ, hf]
        cases n with
        | zero => simp [runJ] at h
        | succ n => rfl
      | succ i =>
        rw [atJ_succ, atJ_succ]
        exact runJ_next f n q i (by simp at h; omega)
theorem runJ_all {f : Jp2 → Option Jp2} {P : Jp2 → Prop} (hf : ∀ p q, P p → f p = some q → P q) : ∀ (n : Nat) (p : Jp2), P p → ∀ i, i < (runJ f n p).length → P (atJ (runJ f n p) i)
  | 0, p, _, i, h => by simp [runJ] at h
  | n + 1, p, hp, i, h => by
    cases hq : f p with
    | none =>
      rw [runJ_none hq] at h ⊢
      have : i = 0 := by simp at h; omega
      subst this; exact hp
    | some q =>
      rw [runJ_some hq] at h ⊢
      cases i with
      | zero => exact hp
      | succ i => rw [atJ_succ]; exact runJ_all hf n q (hf p q hp hq) i (by simp at h; omega)
theorem runJ_last (f : Jp2 → Option Jp2) : ∀ (n : Nat) (p : Jp2), (runJ f n p).length < n → f (atJ (runJ f n p) ((runJ f n p).length - 1)) = none
  | 0, p, h => by simp [runJ] at h
  | n + 1, p, h => by
    cases hq : f p with
    | none => rw [runJ_none hq]; exact hq
    | some q =>
      rw [runJ_some hq] at h ⊢
      have ih := runJ_last f n q (by simp at h; omega)
      cases n with
      | zero => simp [runJ] at h
      | succ n =>
        have hp := runJ_pos f n q
        rw [List.length_cons, show (runJ f (n + 1) q).length + 1 - 1 = ((runJ f (n + 1) q).length - 1) + 1 by omega, atJ_succ]
        exact ih
def QJ (q : Int) (p : Jp2) : Prop := QP q p.1 p.2 ∧ p.1 ≤ 1000000
theorem QJ.quo {q : Int} {p : Jp2} (h : QJ q p) : quoJ p.1 p.2 = some q := by
  obtain ⟨⟨h1, h2, h3, h4⟩, h5⟩ := h
  rw [quoJ_eq ⟨by omega, h5⟩ ⟨h1, by omega⟩ (by omega), h4]
  have hm : 0 ≤ p.1 * p.2 := Int.mul_nonneg (by omega) h1
  rw [if_pos (Int.mul_tmod_left q (p.1 * p.2 + 1)), Int.mul_tdiv_cancel q (by omega)]
theorem QJ.dn {q : Int} (p r : Jp2) (h : QJ q p) (e : dnJ q p = some r) : QJ q r := by
  obtain ⟨h1, h2⟩ := h
  obtain ⟨rfl, hz⟩ := h1.dn r e
  obtain ⟨g1, g2⟩ := h1.step hz
  exact ⟨g2, by have := h1.2.1; simp only; omega⟩
theorem QJ.up {k : Int} (p r : Jp2) (h : QJ k p) (e : upJ k p = some r) : QJ k r := by
  obtain ⟨⟨h1, h2, h3, h4⟩, h5⟩ := h
  unfold upJ at e
  split at e
  · rename_i hh
    injection e with e
    subst e
    obtain ⟨x, y⟩ := p
    simp only at *
    refine ⟨⟨by simp only; omega, by simp only; omega, by simp only; omega, ?_⟩, by simp only; omega⟩
    simp only
    grind
  · cases e
theorem QJ.root {q : Int} {p : Jp2} (h : QJ q p) (e : dnJ q p = none) : p.2 = 0 ∧ p.1 * p.1 = q := by
  obtain ⟨hq, h5⟩ := h
  obtain ⟨x, y⟩ := p
  simp only at hq h5 ⊢
  have hpos := hq.pos
  have hz : q * y - x < 0 := by
    by_cases hz : q * y - x < 0
    · exact hz
    · obtain ⟨g1, _⟩ := hq.step (by omega)
      have := hq.2.1
      unfold dnJ at e
      simp only at e
      rw [if_pos ⟨by omega, by omega⟩] at e
      cases e
  obtain ⟨h1, h2, h3, h4⟩ := hq
  have hy : y = 0 := by
    by_cases hy : y = 0
    · exact hy
    · have e1 : x * (x - q * y) = q - y * y := by grind
      have e2 : x * 1 ≤ x * (x - q * y) := Int.mul_le_mul_of_nonneg_left (by omega) (by omega)
      have e3 : q * 1 ≤ q * y := Int.mul_le_mul_of_nonneg_left (by omega) (by omega)
      have e4 : 0 ≤ y * y := Int.mul_nonneg h1 h1
      omega
  subst hy
  exact ⟨rfl, by simpa using h4⟩
/-- What the run of two numbers with a whole quotient has. -/
structure RunJ (q : Int) (L : List Jp2) : Prop where
  pos : 0 < L.length
  short : L.length ≤ 21
  each : ∀ i, i < L.length → QJ q (atJ L i)
  falls : ∀ i, i + 1 < L.length → (atJ L (i + 1)).1 + (atJ L (i + 1)).2 < (atJ L i).1 + (atJ L i).2
  last0 : (atJ L (L.length - 1)).2 = 0
  last1 : (atJ L (L.length - 1)).1 * (atJ L (L.length - 1)).1 = q
theorem run_facts {a b q : Int} (h : quoJ a b = some q) : RunJ q (dnRun q (mxJ a b, mnJ a b)) := by
  obtain ⟨h1, h2, _, hN, _⟩ := quo_QP h
  have hQ : QJ q (mxJ a b, mnJ a b) := ⟨h1, h2⟩
  have hs := h1.short h2 1001
  have hp : 1 ≤ (runJ (dnJ q) 1001 (mxJ a b, mnJ a b)).length := runJ_pos (dnJ q) 1000 (mxJ a b, mnJ a b)
  have hall := runJ_all (f := dnJ q) (P := QJ q) (fun p r => QJ.dn p r) 1001 _ hQ
  have hlast := (hall _ (show (runJ (dnJ q) 1001 (mxJ a b, mnJ a b)).length - 1 < _ by omega)).root (runJ_last (dnJ q) 1001 _ (by omega))
  refine ⟨by unfold dnRun; omega, hs, hall, fun i hi => ?_, hlast.1, hlast.2⟩
  have hn := runJ_next (dnJ q) 1001 _ i hi
  have hi2 := hall i (Nat.lt_of_succ_lt hi)
  exact (dnJ_good (k := q) ⟨hi2.1.1, hi2.1.2.1, hi2.2⟩ hn).2
/-- What the first pairs of a quotient have. -/
structure UpsJ (k : Int) (L : List Jp2) : Prop where
  short : L.length ≤ 20
  each : ∀ i, i < L.length → QJ k (atJ L i)
  next : ∀ i, i + 1 < L.length → (atJ L (i + 1)).2 = (atJ L i).1
theorem ups_facts {q : Int} (h1 : 1 ≤ q) (h2 : q ≤ 100) (n : Nat) (hn : n ≤ 20) : UpsJ (q * q) (upRun (q * q) n (q, 0)) := by
  have hQ : QJ (q * q) (q, 0) := ⟨⟨by simp only; omega, by simp only; omega, by simp only; omega, by simp only; grind⟩, by simp only; omega⟩
  refine ⟨Nat.le_trans (runJ_len _ _ _) hn, runJ_all (fun p r => QJ.up p r) n _ hQ, fun i hi => ?_⟩
  have hn := runJ_next (upJ (q * q)) n _ i hi
  have hi0 : upRun (q * q) n (q, 0) = runJ (upJ (q * q)) n (q, 0) := rfl
  rw [hi0]
  obtain ⟨L, hL⟩ : ∃ L, runJ (upJ (q * q)) n (q, 0) = L := ⟨_, rfl⟩
  rw [hL] at hn ⊢
  unfold upJ at hn
  split at hn
  · injection hn with hn
    rw [← hn]
  · cases hn


theorem wp_region_laterJ {P : Program} {id : Nat} {Q : Exit → Act → World → Prop} {a : Act} {w : World} {l : List Oper} (hm : P.follows .mixedOrders = true) (hB : Region.lexB .any l.toArray = true)
    (h : wpQuiet P l.toArray (fun w' => ∃ p : LaterH w, w' = p.now) (fun a' => ∀ w', (∃ p : LaterH w, w' = p.now) → Q .normal a' w') l a) : (Code.region id l.toArray true).wp P Q a w :=
  wp_region_quiet (C := fun w' => ∃ p : LaterH w, w' = p.now) hm hB ⟨⟨w.drew, Later.drew w⟩, rfl⟩ (by simpa using h)
theorem pair_as {w0 : World} {fn : FuncId} {args : Array Value} {o : Option Jp2} {a b : Int} {t : Bool} (h : Calls Try.prog fn args w0 fun e w' => PairAns w0 o e w') (ha : (o.getD (0, 0)).1 = a) (hb : (o.getD (0, 0)).2 = b) (ht : o.isSome = t) :
    Calls Try.prog fn args w0 fun e w' => e = .returned (.tuple #[.int .i64 a, .int .i64 b, .bool t]) ∧ Later w0 w' :=
  h.mono fun e w' ⟨he, hl⟩ => ⟨by rw [he, ha, hb, ht], hl⟩
theorem vPair_any (x y k c : Int) (t : Bool) (w : World) (h : juB x y k c = t) :
    Calls Try.prog 10 #[.int .i64 x, .int .i64 y, .int .i64 k, .int .i64 c] w fun e w' => e = .returned (.bool t) ∧ Later w w' := by
  have HI := hid (fun w0 => implIsJump_any x y k c w0)
  have HT := hid h
  have HA := hid (show ((isjAns x y k c).getD false && (isjAns x y k c).isSome) = t by
    rw [← h]; unfold isjAns juB
    cases juW k c <;> cases juGd x y k c <;> simp)
  clear h
  obtain ⟨b1, h1⟩ : ∃ b, (isjAns x y k c).getD false = b := ⟨_, rfl⟩
  obtain ⟨b2, h2⟩ : ∃ b, (isjAns x y k c).isSome = b := ⟨_, rfl⟩
  rw [h1, h2] at HA
  have HI2 : Hid (∀ w0, Calls Try.prog 48 #[.int .i64 x, .int .i64 y, .int .i64 k, .int .i64 c] w0 fun e w' => e = .returned (.tuple #[.bool b1, .bool b2]) ∧ Later w0 w') :=
    hid (fun w0 => (HI.out w0).mono fun e w' ⟨he, hl⟩ => ⟨by rw [he, h1, h2], hl⟩)
  clear h1 h2 HI
  cases b1 <;> cases b2
  all_goals
    go_enter Try.func10, Try.ntmps10
    go_wp2_with fail
    refine (HI2.out _).mono ?_
    rintro e w1 ⟨rfl, hL⟩
    have HL := hid hL
    clear hL
    go_wp2_with fail
    go_ret
    exact ⟨by rw [← HA.out]; rfl, HL.out⟩
theorem Ints.twoJ {w : World} {v : Value} {a b : Int} (h : Ints w v [a, b]) :
    ∃ ad cap, v = .slice (some ad) 2 cap ∧ w.cell? ad = some (.int .i64 a) ∧ w.cell? ⟨ad.block, ad.off + 1, none⟩ = some (.int .i64 b) := by
  obtain ⟨p, cap, rfl, hl, hc⟩ := h
  obtain ⟨ad, rfl, h0⟩ := hc 0 (by simp)
  obtain ⟨ad1, e1, h1⟩ := hc 1 (by simp)
  obtain rfl : ad = ad1 := by simpa using e1
  exact ⟨ad, cap, rfl, by simpa [Addr.add] using h0, by simpa [Addr.add] using h1⟩
/-- one row: where it lies, and that it reads as its pair -/
theorem rowTwo {w : World} {a : Option Addr} {n cap : Nat} {L : List Jp2} (h : Rows2 w (.slice a n cap) (L.map jpL)) (i : Nat) (hi : i < L.length) :
    ∃ ad ad2 c2, a = some ad ∧ w.cell? (ad.add i) = some (.slice (some ad2) 2 c2) ∧ w.cell? ad2 = some (.int .i64 (atJ L i).1) ∧ w.cell? ⟨ad2.block, ad2.off + 1, none⟩ = some (.int .i64 (atJ L i).2) ∧ Ints w (.slice (some ad2) 2 c2) [(atJ L i).1, (atJ L i).2] := by
  obtain ⟨a', cap', e, hl, hc⟩ := h
  simp only [Value.slice.injEq] at e
  obtain ⟨rfl, _, rfl⟩ := e
  obtain ⟨ad, u, rfl, hcell, hu⟩ := hc i (by simpa using hi)
  have e2 : (L.map jpL).getD i [] = [(atJ L i).1, (atJ L i).2] := by simp [atJ, jpL, hi]
  rw [e2] at hu
  obtain ⟨ad2, c2, rfl, h0, h1⟩ := hu.twoJ
  exact ⟨ad, ad2, c2, rfl, hcell, h0, h1, hu⟩
/-- what a function that answers rows of pairs leaves, as the law reads it -/
theorem rows_of {w0 : World} {fn : FuncId} {args : Array Value} {o : Option (List (List Int))} {L : List Jp2} {t : Bool} (h : Calls Try.prog fn args w0 fun e w' => RowsAns w0 o e w') (hL : o.getD [] = L.map jpL) (ht : o.isSome = t) :
    Calls Try.prog fn args w0 fun e w' => ∃ a c, e = .returned (.tuple #[.slice a L.length c, .bool t]) ∧ Rows2 w' (.slice a L.length c) (L.map jpL) ∧ Later w0 w' :=
  h.mono fun e w' ⟨v, he, ho, hl⟩ => by
    rw [hL] at ho
    obtain ⟨a, c, rfl, _⟩ := ho.shape
    rw [List.length_map] at ho he
    exact ⟨a, c, by rw [he, ht], ho.rows, hl⟩
theorem pair_lit (w : World) (p q : Int) : Ints (w.alloc (.cells #[.int .i64 p, .int .i64 q] 3)) (.slice (some ⟨w.heap.size, 0, none⟩) 2 2) [p, q] := (jm_pair w p q).ints


theorem isj_B {x y k c : Int} (h : isjAns x y k c = some true) : juB x y k c = true := by
  unfold isjAns at h
  split at h
  · rename_i hW
    injection h with h
    exact juB_mk hW h
  · cases h
theorem dn_B {x y k c : Int} {q : Jp2} (hB : juB x y k c = true) (h : dnJ k (x, y) = some q) : dnAns x y k c = some q := by unfold dnAns; rw [if_pos hB, h]
theorem up_B {x y k c : Int} {q : Jp2} (hB : juB x y k c = true) (h : upJ k (x, y) = some q) : upAns8 x y k c = some q := by unfold upAns8; rw [if_pos hB, h]
theorem juB_jpN {x y k c : Int} (h : juB x y k c = true) : jpN (x, y) := by
  unfold juB at h; simp only [Bool.and_eq_true] at h; exact juGd_N h.2
theorem least_end (k : Int) : ∀ (n : Nat) (p : Jp2), jpN p → (p.1 + p.2).toNat ≤ n → dnJ k (leastJ k n p) = none
  | 0, p, hp, hn => by
    obtain ⟨x, y⟩ := p
    obtain ⟨h1, h2, h3⟩ := hp
    simp only at h1 h2 h3 hn
    have ex : x = 0 := by omega
    have ey : y = 0 := by omega
    subst ex; subst ey
    simp [leastJ, dnJ]
  | n + 1, p, hp, hn => by
    cases h : dnJ k p with
    | none => rw [leastJ_none h]; exact h
    | some q =>
      rw [leastJ_some h]
      have hg := dnJ_good hp h
      have h0 := hg.1.1
      have h1 := hg.1.2.1
      exact least_end k n q hg.1 (by omega)
/-- a run down, as the law reads it -/
structure RunLaw (x y k c : Int) (R : Jp2) (L : List Jp2) : Prop where
  pos : 0 < L.length
  short : L.length ≤ 1000
  first : atJ L 0 = (x, y)
  last : atJ L (L.length - 1) = R
  next : ∀ i, i + 1 < L.length → dnAns (atJ L i).1 (atJ L i).2 k c = some (atJ L (i + 1))
theorem desc_law {x y k c : Int} {M : List (List Int)} (h : descAns x y k c = some M) :
    ∃ L : List Jp2, M = L.map jpL ∧ RunLaw x y k c (leastOf k (x, y)) L ∧ juB x y k c = true := by
  unfold descAns at h
  split at h
  · rename_i hB
    unfold toldJ at h
    split at h
    · rename_i hl
      injection h with h
      have hpos : 0 < (dnRun k (x, y)).length := runJ_pos _ _ _
      have hP : ∀ i, i < (dnRun k (x, y)).length → juB (atJ (dnRun k (x, y)) i).1 (atJ (dnRun k (x, y)) i).2 k c = true ∧ LeftJ k (leastOf k (x, y)) (atJ (dnRun k (x, y)) i) :=
        runJ_all (P := fun p => juB p.1 p.2 k c = true ∧ LeftJ k (leastOf k (x, y)) p) (fun p q hp e => ⟨isj_B (dn_law (dn_B hp.1 e)).is, hp.2.step (juB_jpN hp.1) e⟩) 1001 (x, y) ⟨hB, LeftJ.start k (x, y)⟩
      refine ⟨dnRun k (x, y), h.symm, ⟨hpos, hl, ?_, ?_, fun i hi => ?_⟩, hB⟩
      · show (runJ (dnJ k) (1000 + 1) (x, y)).getD 0 (0, 0) = (x, y)
        rw [runJ.eq_2]
        rfl
      · have h1 : dnJ k (atJ (dnRun k (x, y)) ((dnRun k (x, y)).length - 1)) = none := runJ_last (dnJ k) 1001 (x, y) (show (dnRun k (x, y)).length < 1001 by omega)
        exact ((hP _ (by omega)).2.done h1).symm
      · exact dn_B (hP i (by omega)).1 (runJ_next (dnJ k) 1001 (x, y) i hi)
    · cases h
  · cases h
theorem least_law {x y k c : Int} (hB : juB x y k c = true) : dnAns (leastOf k (x, y)).1 (leastOf k (x, y)).2 k c = none := by
  unfold dnAns
  split
  · exact least_end k _ (x, y) (juB_jpN hB) (Nat.le_refl _)
  · rfl
/-- a run up, as the law reads it -/
structure UpsLaw (k c s : Int) (L : List Jp2) : Prop where
  len : (L.length : Int) = s + 1
  few : 0 ≤ s ∧ s ≤ 40
  next : ∀ i, i + 1 < L.length → upAns8 (atJ L i).1 (atJ L i).2 k c = some (atJ L (i + 1))
theorem asc_law {x y k c s : Int} {M : List (List Int)} (h : ascAns x y k c s = some M) : ∃ L : List Jp2, M = L.map jpL ∧ UpsLaw k c s L := by
  unfold ascAns at h
  split at h
  · rename_i hh
    obtain ⟨hB, s1, s2, hl⟩ := hh
    injection h with h
    have hle : (upRun k (s.toNat + 1) (x, y)).length ≤ s.toNat + 1 := runJ_len _ _ _
    have hP : ∀ i, i < (upRun k (s.toNat + 1) (x, y)).length → juB (atJ (upRun k (s.toNat + 1) (x, y)) i).1 (atJ (upRun k (s.toNat + 1) (x, y)) i).2 k c = true :=
      runJ_all (P := fun p => juB p.1 p.2 k c = true) (fun p q hp e => isj_B (up_law (up_B hp e)).is) (s.toNat + 1) (x, y) hB
    refine ⟨upRun k (s.toNat + 1) (x, y), h.symm, ⟨by omega, ⟨s1, s2⟩, fun i hi => ?_⟩⟩
    exact up_B (hP i (by omega)) (runJ_next (upJ k) _ (x, y) i hi)
  · cases h
end Go.Proofs.Ythejafejmbpepaa
