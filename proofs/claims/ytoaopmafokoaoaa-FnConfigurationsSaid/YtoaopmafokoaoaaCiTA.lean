/- CiT, Ans3, CiA: in one text. -/
import Derived.Test.YtoaopmafokoaoaaBasA
import Derived.Test.YtoaopmafokoaoaaBasB
namespace Go.Proofs.Ytoaopmafokoaoaa
open Go.RowKit


abbrev Ci4 := Int × Int × Int × Int
abbrev CNode := List Ci4 × Int
def c00 : Ci4 := (0, 0, 0, 0)
/-- the circle behind a swap: twice the sum of all less three times the old one -/
def ciNew (cs : List Ci4) (i : Nat) : Ci4 :=
  let a := cs.getD 0 c00; let b := cs.getD 1 c00; let c := cs.getD 2 c00; let d := cs.getD 3 c00; let o := cs.getD i c00
  (2 * (a.1 + b.1 + c.1 + d.1) - 3 * o.1, 2 * (a.2.1 + b.2.1 + c.2.1 + d.2.1) - 3 * o.2.1, 2 * (a.2.2.1 + b.2.2.1 + c.2.2.1 + d.2.2.1) - 3 * o.2.2.1, 2 * (a.2.2.2 + b.2.2.2 + c.2.2.2 + d.2.2.2) - 3 * o.2.2.2)
def ciSwL (cs : List Ci4) (i : Nat) : List Ci4 := cs.set i (ciNew cs i)
def ciTold (most : Int) (c : Ci4) : Bool := decide (c.2.1 ≤ most)
def kidAt (most : Int) (nd : CNode) (i : Nat) : List CNode := if (i : Int) ≠ nd.2 ∧ ciTold most (ciNew nd.1 i) = true then [(ciSwL nd.1 i, (i : Int))] else []
def newAt (most : Int) (nd : CNode) (i : Nat) : List Ci4 := if (i : Int) ≠ nd.2 ∧ ciTold most (ciNew nd.1 i) = true then [ciNew nd.1 i] else []
def kidsTo (most : Int) (nd : CNode) : Nat → List CNode
  | 0 => []
  | i + 1 => kidsTo most nd i ++ kidAt most nd i
def newsTo (most : Int) (nd : CNode) : Nat → List Ci4
  | 0 => []
  | i + 1 => newsTo most nd i ++ newAt most nd i
def bfsT (most : Int) : Nat → List CNode → List Ci4
  | 0, _ => []
  | _ + 1, [] => []
  | f + 1, nd :: rest => newsTo most nd 4 ++ bfsT most f (rest ++ kidsTo most nd 4)

def Bd (B : Int) (c : Ci4) : Prop := (-B ≤ c.1 ∧ c.1 ≤ B) ∧ (-B ≤ c.2.1 ∧ c.2.1 ≤ B) ∧ (-B ≤ c.2.2.1 ∧ c.2.2.1 ≤ B) ∧ (-B ≤ c.2.2.2 ∧ c.2.2.2 ≤ B)
/-- any two Curvatures have a sum greater than 0 -/
def Two (cs : List Ci4) : Prop := ∀ i j, i < 4 → j < 4 → i ≠ j → 1 ≤ (cs.getD i c00).2.1 + (cs.getD j c00).2.1
structure Dep0 (cs : List Ci4) : Prop where
  len : cs.length = 4
  bd : ∀ i, i < 4 → Bd 1000000 (cs.getD i c00)
  two : Two cs
  up : ∀ i, i < 4 → (cs.getD i c00).2.1 ≤ (ciNew cs i).2.1
structure DepS (most : Int) (n : Nat) (cs : List Ci4) (l : Nat) : Prop where
  n1 : 1 ≤ n ∧ n ≤ 8
  l4 : l < 4
  len : cs.length = 4
  bd : ∀ i, i < 4 → Bd (1000000 * 7 ^ n) (cs.getD i c00)
  two : Two cs
  gap : ∀ j, j < 4 → j ≠ l → (cs.getD j c00).2.1 + 2 * ((n : Int) - 1) ≤ (cs.getD l c00).2.1
  big : 1 + (n : Int) * ((n : Int) - 1) ≤ (cs.getD l c00).2.1
  told : (cs.getD l c00).2.1 ≤ most
def Dep (most : Int) (n : Nat) (nd : CNode) : Prop := (n = 0 ∧ nd.2 = -1 ∧ Dep0 nd.1) ∨ ∃ l : Nat, nd.2 = (l : Int) ∧ DepS most n nd.1 l

theorem four_of (cs : List Ci4) (h : cs.length = 4) : ∃ a b c d, cs = [a, b, c, d] := by
  match cs, h with
  | [a, b, c, d], _ => exact ⟨a, b, c, d, rfl⟩
theorem lt4 {i : Nat} (h : i < 4) : i = 0 ∨ i = 1 ∨ i = 2 ∨ i = 3 := by omega

theorem swL_len4 (cs : List Ci4) (i : Nat) (h : cs.length = 4) : (ciSwL cs i).length = 4 := by simp [ciSwL, h]
theorem swL_same (cs : List Ci4) (i : Nat) (h : cs.length = 4) (hi : i < 4) : (ciSwL cs i).getD i c00 = ciNew cs i := by
  simp [ciSwL, h, hi]
theorem swL_other (cs : List Ci4) (i j : Nat) (hij : j ≠ i) : (ciSwL cs i).getD j c00 = cs.getD j c00 := by
  simp [ciSwL, Ne.symm hij]
theorem new_bd (cs : List Ci4) (i : Nat) (B : Int) (h : cs.length = 4) (hi : i < 4) (hb : ∀ i, i < 4 → Bd B (cs.getD i c00)) : Bd (7 * B) (ciNew cs i) := by
  obtain ⟨a, b, c, d, rfl⟩ := four_of cs h
  have h0 := hb 0 (by omega)
  have h1 := hb 1 (by omega)
  have h2 := hb 2 (by omega)
  have h3 := hb 3 (by omega)
  simp only [Bd, List.getD_cons_zero, List.getD_cons_succ] at h0 h1 h2 h3
  obtain ⟨⟨a1, a2⟩, ⟨a3, a4⟩, ⟨a5, a6⟩, a7, a8⟩ := h0
  obtain ⟨⟨b1, b2⟩, ⟨b3, b4⟩, ⟨b5, b6⟩, b7, b8⟩ := h1
  obtain ⟨⟨c1, c2⟩, ⟨c3, c4⟩, ⟨c5, c6⟩, c7, c8⟩ := h2
  obtain ⟨⟨d1, d2⟩, ⟨d3, d4⟩, ⟨d5, d6⟩, d7, d8⟩ := h3
  rcases lt4 hi with rfl | rfl | rfl | rfl <;> simp only [ciNew, Bd, List.getD_cons_zero, List.getD_cons_succ] <;> omega

/-- the Curvature of the new circle, less another one of the four -/
theorem new_up (cs : List Ci4) (i l : Nat) (h : cs.length = 4) (hi : i < 4) (hl : l < 4) (hil : i ≠ l) (ht : Two cs) :
    (cs.getD l c00).2.1 + ((cs.getD l c00).2.1 - (cs.getD i c00).2.1) + 2 ≤ (ciNew cs i).2.1 := by
  obtain ⟨a, b, c, d, rfl⟩ := four_of cs h
  have h01 := ht 0 1 (by omega) (by omega) (by omega)
  have h02 := ht 0 2 (by omega) (by omega) (by omega)
  have h03 := ht 0 3 (by omega) (by omega) (by omega)
  have h12 := ht 1 2 (by omega) (by omega) (by omega)
  have h13 := ht 1 3 (by omega) (by omega) (by omega)
  have h23 := ht 2 3 (by omega) (by omega) (by omega)
  simp only [List.getD_cons_zero, List.getD_cons_succ] at h01 h02 h03 h12 h13 h23
  rcases lt4 hi with rfl | rfl | rfl | rfl <;> rcases lt4 hl with rfl | rfl | rfl | rfl <;> simp only [ciNew, List.getD_cons_zero, List.getD_cons_succ] <;> omega

theorem two_step (cs : List Ci4) (i : Nat) (h : cs.length = 4) (hi : i < 4) (ht : Two cs) (hu : (cs.getD i c00).2.1 ≤ (ciNew cs i).2.1) : Two (ciSwL cs i) := by
  intro p q hp hq hpq
  by_cases h1 : p = i
  · subst h1
    rw [swL_same cs p h hp, swL_other cs p q (Ne.symm hpq)]
    have := ht p q hp hq hpq
    omega
  · by_cases h2 : q = i
    · subst h2
      rw [swL_same cs q h hq, swL_other cs q p hpq]
      have := ht p q hp hq hpq
      omega
    · rw [swL_other cs i p h1, swL_other cs i q h2]
      exact ht p q hp hq hpq
theorem bd_mono {B C : Int} {c : Ci4} (h : Bd B c) (hb : B ≤ C) : Bd C c := by
  unfold Bd at *; omega
theorem bd_step (cs : List Ci4) (i : Nat) (B : Int) (h : cs.length = 4) (hi : i < 4) (hB : 0 ≤ B) (hb : ∀ i, i < 4 → Bd B (cs.getD i c00)) : ∀ j, j < 4 → Bd (7 * B) ((ciSwL cs i).getD j c00) := by
  intro j hj
  by_cases e : j = i
  · subst e; rw [swL_same cs j h hj]; exact new_bd cs j B h hj hb
  · rw [swL_other cs i j e]; exact bd_mono (hb j hj) (by omega)
/-- one of the four is the greatest, and it is greater than 0 -/
theorem has_top (cs : List Ci4) (ht : Two cs) : ∃ m, m < 4 ∧ 1 ≤ (cs.getD m c00).2.1 ∧ ∀ j, j < 4 → (cs.getD j c00).2.1 ≤ (cs.getD m c00).2.1 := by
  have h01 := ht 0 1 (by omega) (by omega) (by omega)
  by_cases a : (cs.getD 0 c00).2.1 ≤ (cs.getD 1 c00).2.1
  · by_cases b : (cs.getD 2 c00).2.1 ≤ (cs.getD 3 c00).2.1
    · by_cases c : (cs.getD 1 c00).2.1 ≤ (cs.getD 3 c00).2.1
      · exact ⟨3, by omega, by omega, fun j hj => by rcases lt4 hj with rfl | rfl | rfl | rfl <;> omega⟩
      · exact ⟨1, by omega, by omega, fun j hj => by rcases lt4 hj with rfl | rfl | rfl | rfl <;> omega⟩
    · by_cases c : (cs.getD 1 c00).2.1 ≤ (cs.getD 2 c00).2.1
      · exact ⟨2, by omega, by omega, fun j hj => by rcases lt4 hj with rfl | rfl | rfl | rfl <;> omega⟩
      · exact ⟨1, by omega, by omega, fun j hj => by rcases lt4 hj with rfl | rfl | rfl | rfl <;> omega⟩
  · by_cases b : (cs.getD 2 c00).2.1 ≤ (cs.getD 3 c00).2.1
    · by_cases c : (cs.getD 0 c00).2.1 ≤ (cs.getD 3 c00).2.1
      · exact ⟨3, by omega, by omega, fun j hj => by rcases lt4 hj with rfl | rfl | rfl | rfl <;> omega⟩
      · exact ⟨0, by omega, by omega, fun j hj => by rcases lt4 hj with rfl | rfl | rfl | rfl <;> omega⟩
    · by_cases c : (cs.getD 0 c00).2.1 ≤ (cs.getD 2 c00).2.1
      · exact ⟨2, by omega, by omega, fun j hj => by rcases lt4 hj with rfl | rfl | rfl | rfl <;> omega⟩
      · exact ⟨0, by omega, by omega, fun j hj => by rcases lt4 hj with rfl | rfl | rfl | rfl <;> omega⟩
theorem dep0_kid {most : Int} (cs : List Ci4) (i : Nat) (h : Dep0 cs) (hi : i < 4) (ht : ciTold most (ciNew cs i) = true) : DepS most 1 (ciSwL cs i) i := by
  obtain ⟨hlen, hbd, htwo, hup⟩ := h
  obtain ⟨m, hm, hm1, hmax⟩ := has_top cs htwo
  have htop : ∀ j, j < 4 → (cs.getD j c00).2.1 ≤ (ciNew cs i).2.1 := by
    intro j hj
    by_cases e : i = m
    · subst e; have := hup i hi; have := hmax j hj; omega
    · have := new_up cs i m hlen hi hm e htwo; have := hmax j hj; have := hmax i hi; omega
  refine ⟨⟨by omega, by omega⟩, hi, swL_len4 cs i hlen, ?_, two_step cs i hlen hi htwo (hup i hi), ?_, ?_, ?_⟩
  · have := bd_step cs i 1000000 hlen hi (by omega) hbd
    simpa using this
  · intro j hj hji
    rw [swL_same cs i hlen hi, swL_other cs i j hji]
    have := htop j hj
    omega
  · rw [swL_same cs i hlen hi]
    have := htop m hm
    omega
  · rw [swL_same cs i hlen hi]; simpa [ciTold] using ht
theorem depS_kid {most : Int} {n : Nat} {l : Nat} (cs : List Ci4) (i : Nat) (hm : most ≤ 60) (h : DepS most n cs l) (hi : i < 4) (hil : i ≠ l) (ht : ciTold most (ciNew cs i) = true) : n ≤ 7 ∧ DepS most (n + 1) (ciSwL cs i) i := by
  obtain ⟨⟨hn1, hn8⟩, hl4, hlen, hbd, htwo, hgap, hbig, htold⟩ := h
  have hu := new_up cs i l hlen hi hl4 hil htwo
  have hg := hgap i hi hil
  have htl : (ciNew cs i).2.1 ≤ most := by simpa [ciTold] using ht
  have hmul : ((n + 1 : Nat) : Int) * (((n + 1 : Nat) : Int) - 1) = (n : Int) * ((n : Int) - 1) + 2 * (n : Int) := by
    rw [show ((n + 1 : Nat) : Int) = (n : Int) + 1 by omega]; grind
  have h7 : n ≤ 7 := by
    rcases Nat.lt_or_ge n 8 with h | h
    · omega
    · have h8 : n = 8 := by omega
      subst h8
      omega
  have hle : ∀ j, j < 4 → (cs.getD j c00).2.1 ≤ (cs.getD l c00).2.1 := by
    intro j hj
    by_cases e : j = l
    · subst e; omega
    · have := hgap j hj e; omega
  refine ⟨h7, ⟨by omega, by omega⟩, hi, swL_len4 cs i hlen, ?_, two_step cs i hlen hi htwo (by have := hle i hi; omega), ?_, ?_, ?_⟩
  · have hB : (0 : Int) ≤ 1000000 * 7 ^ n := by have := Int.pow_pos (n := 7) (m := n) (by omega); omega
    have := bd_step cs i _ hlen hi hB hbd
    rw [show (7 : Int) * (1000000 * 7 ^ n) = 1000000 * 7 ^ (n + 1) by rw [Int.pow_succ]; grind] at this
    exact this
  · intro j hj hji
    rw [swL_same cs i hlen hi, swL_other cs i j hji]
    have := hle j hj
    omega
  · rw [swL_same cs i hlen hi, hmul]
    omega
  · rw [swL_same cs i hlen hi]; exact htl

/-- how many nodes there may be from a depth on -/
def pot (n : Nat) : Nat := if n = 0 then 13121 else (3 ^ (9 - n) - 1) / 2
theorem pot_pos {n : Nat} (h : n ≤ 8) : 1 ≤ pot n := by
  have : ∀ n, n < 9 → 1 ≤ pot n := by decide
  exact this n (by omega)
theorem pot_step {n : Nat} (h : 1 ≤ n ∧ n ≤ 7) : pot n = 1 + 3 * pot (n + 1) := by
  have : ∀ n, n < 8 → 1 ≤ n → pot n = 1 + 3 * pot (n + 1) := by decide
  exact this n (by omega) (by omega)
theorem pot_8 : pot 8 = 1 := by decide
theorem pot_0 : pot 0 = 1 + 4 * pot 1 := by decide
inductive Pend (most : Int) : List CNode → Nat → Prop
  | nil : Pend most [] 0
  | cons {n m : Nat} {nd : CNode} {rest : List CNode} : Dep most n nd → Pend most rest m → Pend most (nd :: rest) (pot n + m)
theorem Pend.app {most : Int} {xs ys : List CNode} {m k : Nat} (h : Pend most xs m) (g : Pend most ys k) : Pend most (xs ++ ys) (m + k) := by
  induction h with
  | nil => simpa using g
  | cons hd _ ih => rw [List.cons_append, Nat.add_assoc]; exact .cons hd ih
theorem Dep.n8 {most : Int} {n : Nat} {nd : CNode} (h : Dep most n nd) : n ≤ 8 := by
  rcases h with ⟨rfl, _⟩ | ⟨l, _, h⟩
  · omega
  · exact h.n1.2
theorem Pend.len {most : Int} {xs : List CNode} {m : Nat} (h : Pend most xs m) : xs.length ≤ m := by
  induction h with
  | nil => simp
  | cons hd _ ih => have := pot_pos hd.n8; simp; omega
/-- the children up to an index -/
theorem kids_pend {most : Int} {n : Nat} {nd : CNode} (hm : most ≤ 60) (h : Dep most n nd) : ∃ m, Pend most (kidsTo most nd 4) m ∧ m + 1 ≤ pot n := by
  rcases h with ⟨rfl, hl, h0⟩ | ⟨l, hl, hS⟩
  · have one : ∀ i, i < 4 → ∃ m, Pend most (kidAt most nd i) m ∧ m ≤ pot 1 := by
      intro i hi
      unfold kidAt
      split
      · rename_i hc
        exact ⟨pot 1 + 0, .cons (.inr ⟨i, rfl, dep0_kid nd.1 i h0 hi hc.2⟩) .nil, by omega⟩
      · exact ⟨0, .nil, by omega⟩
    obtain ⟨m0, p0, q0⟩ := one 0 (by omega)
    obtain ⟨m1, p1, q1⟩ := one 1 (by omega)
    obtain ⟨m2, p2, q2⟩ := one 2 (by omega)
    obtain ⟨m3, p3, q3⟩ := one 3 (by omega)
    exact ⟨_, ((((Pend.nil.app p0).app p1).app p2).app p3), by have := pot_0; omega⟩
  · have hl4 := hS.l4
    have one : ∀ i, i < 4 → ∃ m, Pend most (kidAt most nd i) m ∧ (i = l → m = 0) ∧ (m = 0 ∨ (n ≤ 7 ∧ m ≤ pot (n + 1))) := by
      intro i hi
      unfold kidAt
      split
      · rename_i hc
        have hil : i ≠ l := fun e => hc.1 (by rw [hl, e])
        obtain ⟨h7, hk⟩ := depS_kid nd.1 i hm hS hi hil hc.2
        exact ⟨pot (n + 1) + 0, .cons (.inr ⟨i, rfl, hk⟩) .nil, fun e => absurd e hil, .inr ⟨h7, by omega⟩⟩
      · exact ⟨0, .nil, fun _ => rfl, .inl rfl⟩
    obtain ⟨m0, p0, q0, r0⟩ := one 0 (by omega)
    obtain ⟨m1, p1, q1, r1⟩ := one 1 (by omega)
    obtain ⟨m2, p2, q2, r2⟩ := one 2 (by omega)
    obtain ⟨m3, p3, q3, r3⟩ := one 3 (by omega)
    refine ⟨_, ((((Pend.nil.app p0).app p1).app p2).app p3), ?_⟩
    have hn1 := hS.n1
    by_cases h7 : n ≤ 7
    · have hp := pot_step ⟨hn1.1, h7⟩
      rcases lt4 hl4 with rfl | rfl | rfl | rfl
      · have := q0 rfl; omega
      · have := q1 rfl; omega
      · have := q2 rfl; omega
      · have := q3 rfl; omega
    · have h8 : n = 8 := by omega
      subst h8
      have := pot_8
      omega
theorem kidsTo_len (most : Int) (nd : CNode) (k : Nat) : (kidsTo most nd k).length ≤ k := by
  induction k with
  | zero => simp [kidsTo]
  | succ k ih => simp only [kidsTo, List.length_append]; unfold kidAt; split <;> simp <;> omega
theorem newsTo_len (most : Int) (nd : CNode) (k : Nat) : (newsTo most nd k).length = (kidsTo most nd k).length := by
  induction k with
  | zero => simp [kidsTo, newsTo]
  | succ k ih => simp only [kidsTo, newsTo, List.length_append, ih]; unfold kidAt newAt; split <;> simp


def StrAns (w : World) (o : Option (List UInt8)) (e : Ending) (w' : World) : Prop := e = .returned (.tuple #[.string ⟨(o.getD []).toArray⟩, .bool o.isSome]) ∧ Later w w'


theorem Try.infoCi : (Try.prog.info? 103).map (fun i => (i.zero, i.size, i.bytes)) = some (some (.agg #[.int .i64 0, .int .i64 0, .int .i64 0, .int .i64 0]), 4, 32) := by kernel_rfl
def ciVs (t : Ci4) : List Value := [.int .i64 t.1, .int .i64 t.2.1, .int .i64 t.2.2.1, .int .i64 t.2.2.2]
def ciCells (L : List Ci4) : List Value := L.flatMap ciVs
theorem ciCells_len (L : List Ci4) : (ciCells L).length = L.length * 4 := by
  induction L with
  | nil => rfl
  | cons t L ih => simp [ciCells, ciVs] at ih ⊢; omega
theorem ciCells_snoc (L : List Ci4) (t : Ci4) : ciCells (L ++ [t]) = ciCells L ++ [.int .i64 t.1, .int .i64 t.2.1, .int .i64 t.2.2.1, .int .i64 t.2.2.2] := by simp [ciCells, ciVs]
theorem ciCells_at (L : List Ci4) (i : Nat) (h : i < L.length) : (ciCells L)[i * 4]? = some (.int .i64 (L.getD i c00).1) ∧ (ciCells L)[i * 4 + 1]? = some (.int .i64 (L.getD i c00).2.1) ∧ (ciCells L)[i * 4 + 2]? = some (.int .i64 (L.getD i c00).2.2.1) ∧ (ciCells L)[i * 4 + 3]? = some (.int .i64 (L.getD i c00).2.2.2) := by
  induction L generalizing i with
  | nil => simp at h
  | cons t L ih =>
    cases i with
    | zero => simp [ciCells, ciVs]
    | succ i =>
      have := ih i (by simpa using h)
      have e : ∀ j, (ciCells (t :: L))[j + 4]? = (ciCells L)[j]? := fun j => by simp [ciCells, ciVs]
      rw [show (i + 1) * 4 = i * 4 + 4 by omega, show i * 4 + 4 + 1 = (i * 4 + 1) + 4 by omega, show i * 4 + 4 + 2 = (i * 4 + 2) + 4 by omega, show i * 4 + 4 + 3 = (i * 4 + 3) + 4 by omega, e, e, e, e]
      simpa using this
theorem ciCells_set (L : List Ci4) (i : Nat) (hi : i < L.length) (t : Ci4) : ((((ciCells L).set (i * 4) (.int .i64 t.1)).set (i * 4 + 1) (.int .i64 t.2.1)).set (i * 4 + 2) (.int .i64 t.2.2.1)).set (i * 4 + 3) (.int .i64 t.2.2.2) = ciCells (L.set i t) := by
  induction L generalizing i with
  | nil => simp at hi
  | cons x L ih =>
    cases i with
    | zero => simp [ciCells, ciVs]
    | succ i =>
      have e : ciCells (x :: L) = [.int .i64 x.1, .int .i64 x.2.1, .int .i64 x.2.2.1, .int .i64 x.2.2.2] ++ ciCells L := by simp [ciCells, ciVs]
      have e2 : ciCells ((x :: L).set (i + 1) t) = [.int .i64 x.1, .int .i64 x.2.1, .int .i64 x.2.2.1, .int .i64 x.2.2.2] ++ ciCells (L.set i t) := by simp [ciCells, ciVs]
      rw [e, e2, ← ih i (by simpa using hi)]
      simp [Nat.add_mul]
/-- A slice that came in: it may begin anywhere. -/
def CisA (w : World) (v : Value) (L : List Ci4) : Prop := ∃ a cap, v = .slice a L.length cap ∧ L.length ≤ 9223372036854775807 ∧
  ∀ i, i < L.length → ∃ ad, a = some ad ∧ w.cell? (ad.add (i * 4)) = some (.int .i64 (L.getD i c00).1) ∧ w.cell? (ad.add (i * 4 + 1)) = some (.int .i64 (L.getD i c00).2.1) ∧ w.cell? (ad.add (i * 4 + 2)) = some (.int .i64 (L.getD i c00).2.2.1) ∧ w.cell? (ad.add (i * 4 + 3)) = some (.int .i64 (L.getD i c00).2.2.2)
/-- A slice from the head of a block on. -/
def Cis (w : World) (v : Value) (L : List Ci4) : Prop := ∃ a cap, v = .slice a L.length cap ∧ L.length ≤ 9223372036854775807 ∧ L.length ≤ cap ∧
  ∀ i, i < L.length → ∃ g, a = some ⟨g, 0, none⟩ ∧ w.cell? ⟨g, i * 4, none⟩ = some (.int .i64 (L.getD i c00).1) ∧ w.cell? ⟨g, i * 4 + 1, none⟩ = some (.int .i64 (L.getD i c00).2.1) ∧ w.cell? ⟨g, i * 4 + 2, none⟩ = some (.int .i64 (L.getD i c00).2.2.1) ∧ w.cell? ⟨g, i * 4 + 3, none⟩ = some (.int .i64 (L.getD i c00).2.2.2)
def OwnCis (lo hi : Nat) (w : World) (v : Value) (L : List Ci4) : Prop := w.ownsRow lo 103 4 v L.length (ciCells L) ∧ ∀ k, v.ownBlock = some k → k < hi
theorem CisA.later {w w' : World} {v : Value} {L : List Ci4} (h : CisA w v L) (k : Later w w') : CisA w' v L := by
  obtain ⟨a, cap, rfl, hl, hc⟩ := h
  refine ⟨a, cap, rfl, hl, fun i hi => ?_⟩
  obtain ⟨ad, rfl, h0, h1, h2, h3⟩ := hc i hi
  exact ⟨ad, rfl, k.cell h0, k.cell h1, k.cell h2, k.cell h3⟩
theorem Cis.later {w w' : World} {v : Value} {L : List Ci4} (h : Cis w v L) (k : Later w w') : Cis w' v L := by
  obtain ⟨a, cap, rfl, hl, hp, hc⟩ := h
  refine ⟨a, cap, rfl, hl, hp, fun i hi => ?_⟩
  obtain ⟨g, rfl, h0, h1, h2, h3⟩ := hc i hi
  exact ⟨g, rfl, k.cell h0, k.cell h1, k.cell h2, k.cell h3⟩
theorem Cis.nil (w : World) (cap : Nat) : Cis w (.slice none 0 cap) [] := ⟨none, cap, rfl, Nat.zero_le _, Nat.zero_le _, fun i hi => absurd hi (Nat.not_lt_zero i)⟩
theorem ownsRow_keep4 {w w' : World} {lo : Nat} {e : TypeId} {sz : Nat} {v : Value} {n : Nat} {xs : List Value} (h : w.ownsRow lo e sz v n xs)
    (k : ∀ b, v.ownBlock = some b → w'.heap[b]? = w.heap[b]?) : w'.ownsRow lo e sz v n xs := by
  refine ⟨h.1, ?_⟩
  rcases h.2 with hn | ⟨g, cap, cur, rfl, hb, hgg, rest⟩
  · exact .inl hn
  · exact .inr ⟨g, cap, cur, rfl, hb, (k g rfl).trans hgg, rest⟩
theorem ownsRow_base4 {w : World} {lo lo' sz : Nat} {e : TypeId} {v : Value} {n : Nat} {xs : List Value} (h : w.ownsRow lo e sz v n xs) (hl : lo' ≤ lo) : w.ownsRow lo' e sz v n xs := by
  refine ⟨h.1, ?_⟩
  rcases h.2 with hn | ⟨g, cap, cur, rfl, hb, rest⟩
  · exact .inl hn
  · exact .inr ⟨g, cap, cur, rfl, Nat.le_trans hl hb, rest⟩
theorem OwnCis.later {lo hi : Nat} {w w' : World} {v : Value} {L : List Ci4} (h : OwnCis lo hi w v L) (k : Later w w') : OwnCis lo hi w' v L :=
  ⟨ownsRow_keep4 h.1 fun b hb => k.block b (h.1.lt b hb).2, h.2⟩
theorem OwnCis.keep {w w' : World} {lo hi : Nat} {v : Value} {L : List Ci4} (h : OwnCis lo hi w v L) (k : ∀ b, lo ≤ b → b < hi → w'.heap[b]? = w.heap[b]?) : OwnCis lo hi w' v L :=
  ⟨ownsRow_keep4 h.1 fun b hb => k b (h.1.lt b hb).1 (h.2 b hb), h.2⟩
theorem OwnCis.wide {w : World} {lo hi lo' hi' : Nat} {v : Value} {L : List Ci4} (h : OwnCis lo hi w v L) (hl : lo' ≤ lo) (hh : hi ≤ hi') : OwnCis lo' hi' w v L :=
  ⟨ownsRow_base4 h.1 hl, fun k hk => Nat.lt_of_lt_of_le (h.2 k hk) hh⟩
theorem OwnCis.shape {lo hi : Nat} {w : World} {v : Value} {L : List Ci4} (h : OwnCis lo hi w v L) : ∃ a cap, v = .slice a L.length cap ∧ L.length ≤ cap := by
  rcases h.1.2 with ⟨rfl, h0⟩ | ⟨g, cap, cur, rfl, hb, hg, hn, _⟩
  · exact ⟨none, 0, by rw [h0], by omega⟩
  · exact ⟨_, cap, rfl, by omega⟩
theorem OwnCis.form {lo hi : Nat} {w : World} {v : Value} {L : List Ci4} (h : OwnCis lo hi w v L) : (v = .slice none 0 0 ∧ L = []) ∨ ∃ g cap, v = .slice (some ⟨g, 0, none⟩) L.length cap := by
  rcases h.1.2 with ⟨rfl, h0⟩ | ⟨g, cap, cur, rfl, _⟩
  · exact .inl ⟨rfl, List.eq_nil_of_length_eq_zero h0⟩
  · exact .inr ⟨g, cap, rfl⟩
theorem OwnCis.cis {lo hi : Nat} {w : World} {v : Value} {L : List Ci4} (h : OwnCis lo hi w v L) : Cis w v L := by
  rcases h.1.2 with ⟨rfl, h0⟩ | ⟨g, cap, cur, rfl, hb, hg, hn, hm, hs, ht⟩
  · have hL : L = [] := List.eq_nil_of_length_eq_zero h0
    subst hL
    exact Cis.nil w 0
  · refine ⟨_, cap, rfl, by unfold maxLen at hm; omega, hn, fun i hi => ⟨g, rfl, ?_⟩⟩
    have h' : w.ownsRow lo 103 4 (.slice (some ⟨g, 0, none⟩) L.length cap) L.length (ciCells L) := ⟨h.1.1, .inr ⟨g, cap, cur, rfl, hb, hg, hn, hm, hs, ht⟩⟩
    have ha := ciCells_at L i hi
    exact ⟨(h'.cellAt (i * 4) (by omega)).trans ha.1, (h'.cellAt (i * 4 + 1) (by omega)).trans ha.2.1, (h'.cellAt (i * 4 + 2) (by omega)).trans ha.2.2.1, (h'.cellAt (i * 4 + 3) (by omega)).trans ha.2.2.2⟩
theorem OwnCis.nothing (lo hi : Nat) (w : World) : OwnCis lo hi w (.slice none 0 0) [] := ⟨⟨rfl, .inl ⟨rfl, rfl⟩⟩, fun k hk => by simp [Value.ownBlock] at hk⟩
/-- One circle is written. -/
theorem OwnCis.put {lo hi : Nat} {w : World} {g cap : Nat} {L : List Ci4} (h : OwnCis lo hi w (.slice (some ⟨g, 0, none⟩) L.length cap) L) (i : Nat) (hi' : i < L.length) (p q r s : Int) :
    OwnCis lo hi ((((w.setCell ⟨g, i * 4, none⟩ (.int .i64 p)).setCell ⟨g, i * 4 + 1, none⟩ (.int .i64 q)).setCell ⟨g, i * 4 + 2, none⟩ (.int .i64 r)).setCell ⟨g, i * 4 + 3, none⟩ (.int .i64 s)) (.slice (some ⟨g, 0, none⟩) L.length cap) (L.set i (p, q, r, s)) := by
  have h1 := (World.ownsRow.stored h.1 (i * 4) (.int .i64 p)).1
  have h2 := (World.ownsRow.stored h1 (i * 4 + 1) (.int .i64 q)).1
  have h3 := (World.ownsRow.stored h2 (i * 4 + 2) (.int .i64 r)).1
  have h4 := (World.ownsRow.stored h3 (i * 4 + 3) (.int .i64 s)).1
  refine ⟨?_, h.2⟩
  rw [List.length_set, ← ciCells_set L i hi' (p, q, r, s)]
  exact h4
theorem OwnCis.openAt {lo hi : Nat} {w : World} {g cap n : Nat} {L : List Ci4} (h : OwnCis lo hi w (.slice (some ⟨g, 0, none⟩) n cap) L) (hn : L.length = n) (k : Nat) (hk : k < n) :
    (w.cell? ⟨g, k * 4, none⟩ = some (.int .i64 (L.getD k c00).1) ∧ w.cell? ⟨g, k * 4 + 1, none⟩ = some (.int .i64 (L.getD k c00).2.1) ∧ w.cell? ⟨g, k * 4 + 2, none⟩ = some (.int .i64 (L.getD k c00).2.2.1) ∧ w.cell? ⟨g, k * 4 + 3, none⟩ = some (.int .i64 (L.getD k c00).2.2.2)) ∧
    w.frozen? ⟨g, k * 4, none⟩ = false ∧ w.frozen? ⟨g, k * 4 + 1, none⟩ = false ∧ w.frozen? ⟨g, k * 4 + 2, none⟩ = false ∧ w.frozen? ⟨g, k * 4 + 3, none⟩ = false := by
  subst hn
  have hat := ciCells_at L k hk
  exact ⟨⟨(h.1.cellAt (k * 4) (by omega)).trans hat.1, (h.1.cellAt (k * 4 + 1) (by omega)).trans hat.2.1, (h.1.cellAt (k * 4 + 2) (by omega)).trans hat.2.2.1, (h.1.cellAt (k * 4 + 3) (by omega)).trans hat.2.2.2⟩,
    h.1.frozenAt _, h.1.frozenAt _, h.1.frozenAt _, h.1.frozenAt _⟩
theorem set4_far (w : World) (B k b : Nat) (p q r s : Value) (h : b ≠ B) :
    ((((w.setCell ⟨B, k, none⟩ p).setCell ⟨B, k + 1, none⟩ q).setCell ⟨B, k + 2, none⟩ r).setCell ⟨B, k + 3, none⟩ s).heap[b]? = w.heap[b]? := by
  rw [heap_setCell_other _ _ b _ h, heap_setCell_other _ _ b _ h, heap_setCell_other _ _ b _ h, heap_setCell_other _ _ b _ h]
theorem set4_later {w0 w : World} {B : Nat} (h : Later w0 w) (hB : w0.heap.size ≤ B) (k : Nat) (p q r s : Value) :
    Later w0 ((((w.setCell ⟨B, k, none⟩ p).setCell ⟨B, k + 1, none⟩ q).setCell ⟨B, k + 2, none⟩ r).setCell ⟨B, k + 3, none⟩ s) :=
  Below.setCell (Below.setCell (Below.setCell (Below.setCell h hB _) hB _) hB _) hB _

/-! ### answers -/
def ciVal (t : Ci4) : Value := .agg #[.int .i64 t.1, .int .i64 t.2.1, .int .i64 t.2.2.1, .int .i64 t.2.2.2]
def CiRes (w : World) (t : Ci4) (e : Ending) (w' : World) : Prop := e = .returned (.agg #[.int .i64 t.1, .int .i64 t.2.1, .int .i64 t.2.2.1, .int .i64 t.2.2.2]) ∧ Later w w'
def CiAns (w : World) (o : Option Ci4) (e : Ending) (w' : World) : Prop :=
  e = .returned (.tuple #[.agg #[.int .i64 (o.getD c00).1, .int .i64 (o.getD c00).2.1, .int .i64 (o.getD c00).2.2.1, .int .i64 (o.getD c00).2.2.2], .bool o.isSome]) ∧ Later w w'
def CisAns (w : World) (o : Option (List Ci4)) (e : Ending) (w' : World) : Prop :=
  ∃ v, e = .returned (.tuple #[v, .bool o.isSome]) ∧ OwnCis w.heap.size w'.heap.size w' v (o.getD []) ∧ Later w w'
def MadeCis (w : World) (L : List Ci4) (e : Ending) (w' : World) : Prop := ∃ v, e = .returned v ∧ OwnCis w.heap.size w'.heap.size w' v L ∧ Later w w'
end Go.Proofs.Ytoaopmafokoaoaa
