/- Letters, Christoffel words, their cuts: what the functions of the third chapter answer, as functions of lists of bytes. -/
import Derived.Test.YtkpnckcfoigceaaRoot
import Derived.Lib.SlTrimSet
import Derived.Lib.Bytealg
namespace Go.Proofs.Ytkpnckcfoigceaa

/-! ### letters -/

def isAB (c : UInt8) : Bool := c == 97 || c == 98
def lettersW (l : List UInt8) : Bool := decide (1 ≤ l.length) && decide (l.length ≤ 40) && l.all isAB
def cntB (l : List UInt8) : Nat := l.count 98
theorem cntB_le (l : List UInt8) : cntB l ≤ l.length := List.count_le_length
theorem lettersW_iff (l : List UInt8) : lettersW l = true ↔ 1 ≤ l.length ∧ l.length ≤ 40 ∧ l.all isAB = true := by simp [lettersW, and_assoc]
theorem isAB_iff (c : UInt8) : isAB c = true ↔ c = 97 ∨ c = 98 := by simp [isAB]
theorem lettersW_take {l : List UInt8} (h : lettersW l = true) (k : Nat) (h1 : 1 ≤ k) (h2 : k ≤ l.length) : lettersW (l.take k) = true := by
  obtain ⟨_, h4, h5⟩ := (lettersW_iff l).1 h
  rw [List.all_eq_true] at h5
  refine (lettersW_iff _).2 ⟨by rw [List.length_take]; omega, by rw [List.length_take]; omega, List.all_eq_true.2 fun x hx => h5 x (List.mem_of_mem_take hx)⟩
theorem lettersW_drop {l : List UInt8} (h : lettersW l = true) (k : Nat) (h2 : k < l.length) : lettersW (l.drop k) = true := by
  obtain ⟨_, h4, h5⟩ := (lettersW_iff l).1 h
  rw [List.all_eq_true] at h5
  refine (lettersW_iff _).2 ⟨by rw [List.length_drop]; omega, by rw [List.length_drop]; omega, List.all_eq_true.2 fun x hx => h5 x (List.mem_of_mem_drop hx)⟩

/-! ### what is cut off at both ends -/

theorem ab_contains (b : UInt8) : ([97, 98] : List UInt8).contains b = isAB b := by
  simp only [List.contains, List.elem, isAB]
  cases (b == 97) <;> cases (b == 98) <;> rfl
theorem dropWhile_nil_iff (p : UInt8 → Bool) (l : List UInt8) : l.dropWhile p = [] ↔ l.all p = true := by
  induction l with
  | nil => simp
  | cons x r ih =>
    simp only [List.dropWhile, List.all_cons]
    cases h : p x <;> simp [ih]
theorem dropWhile_mem (p : UInt8 → Bool) (l : List UInt8) (x : UInt8) (hx : x ∈ l) (hp : p x = false) : x ∈ l.dropWhile p := by
  induction l with
  | nil => cases hx
  | cons y r ih =>
    simp only [List.dropWhile]
    cases h : p y
    · exact hx
    · rcases List.mem_cons.1 hx with rfl | hx
      · rw [h] at hp; cases hp
      · exact ih hx
theorem trim_nil_iff (l : List UInt8) : Go.Lib.trimS l [97, 98] = [] ↔ l.all isAB = true := by
  have e : (fun b => ([97, 98] : List UInt8).contains b) = isAB := funext ab_contains
  unfold Go.Lib.trimS Go.Lib.trimLeftS Go.Lib.trimRightS
  rw [e, dropWhile_nil_iff, List.all_eq_true, List.all_eq_true]
  constructor
  · intro h x hx
    cases hp : isAB x
    · have := h x (by
        rw [List.mem_reverse]
        exact dropWhile_mem isAB _ x (by rw [List.mem_reverse]; exact hx) hp)
      rw [hp] at this
      exact this
    · rfl
  · intro h x hx
    rw [List.mem_reverse] at hx
    exact h x (by
      have := (List.dropWhile_sublist (p := isAB) (l := l.reverse)).subset hx
      rwa [List.mem_reverse] at this)

/-! ### Christoffel words -/

def chLet (b n i : Nat) : UInt8 := if i * b / n = (i + 1) * b / n then 97 else 98
def chW (a b : Nat) : List UInt8 := (List.range (a + b)).map (chLet b (a + b))
theorem chW_len (a b : Nat) : (chW a b).length = a + b := by simp [chW]
theorem chW_at (a b i : Nat) (h : i < a + b) : (chW a b)[i]? = some (chLet b (a + b) i) := by simp [chW, h]
theorem chW_take (a b i : Nat) (h : i < a + b) : (chW a b).take (i + 1) = (chW a b).take i ++ [chLet b (a + b) i] := by
  rw [List.take_add_one, chW_at a b i h]; rfl
theorem chLet_ab (b n i : Nat) : isAB (chLet b n i) = true := by unfold chLet; split <;> decide
theorem chW_ab (a b : Nat) : (chW a b).all isAB = true := by
  rw [List.all_eq_true]
  intro x hx
  obtain ⟨i, _, rfl⟩ := List.mem_map.1 hx
  exact chLet_ab _ _ _
def chOk (a b : Int) : Prop := 0 ≤ a ∧ a ≤ 40 ∧ 0 ≤ b ∧ b ≤ 40 - a ∧ gcdW a b = 1
instance (a b : Int) : Decidable (chOk a b) := by unfold chOk; infer_instance
def chAns (a b : Int) : Option (List UInt8) := if chOk a b then some (chW a.toNat b.toNat) else none
/-- Letters that are a Christoffel word. -/
def goodW (l : List UInt8) : Bool := decide (gcdW ((l.length - cntB l : Nat) : Int) (cntB l : Int) = 1) && decide (chW (l.length - cntB l) (cntB l) = l)
theorem goodW_ans {l : List UInt8} (hl : l.length ≤ 40) : goodW l = decide (chAns ((l.length - cntB l : Nat) : Int) (cntB l : Int) = some l) := by
  have hc := cntB_le l
  unfold goodW chAns
  by_cases hg : gcdW ((l.length - cntB l : Nat) : Int) (cntB l : Int) = 1
  · rw [if_pos (show chOk _ _ from ⟨by omega, by omega, by omega, by omega, hg⟩)]
    simp [hg]
  · rw [if_neg (fun h => hg h.2.2.2.2)]
    simp [hg]
theorem goodW_eq {l : List UInt8} (h : goodW l = true) : gcdW ((l.length - cntB l : Nat) : Int) (cntB l : Int) = 1 ∧ chW (l.length - cntB l) (cntB l) = l := by
  simpa [goodW] using h
def cutOf (a b : Nat) : Nat := ((List.range (a + b)).find? fun k => k * b % (a + b) == 1).getD 0
def cutGood (a b : Nat) : Bool :=
  if a + b ≤ 40 ∧ 2 ≤ a + b ∧ gcdW a b = 1 then decide (1 ≤ cutOf a b) && decide (cutOf a b < a + b) && goodW ((chW a b).take (cutOf a b)) && goodW ((chW a b).drop (cutOf a b)) else true
set_option maxRecDepth 100000 in
theorem cuts_all : ((List.range 41).all fun a => (List.range 41).all fun b => cutGood a b) = true := by decide +kernel
theorem good_cut {l : List UInt8} (hl : l.length ≤ 40) (h2 : 2 ≤ l.length) (hg : goodW l = true) : ∃ k, 1 ≤ k ∧ k < l.length ∧ goodW (l.take k) = true ∧ goodW (l.drop k) = true := by
  obtain ⟨h3, h4⟩ := goodW_eq hg
  have hc := cntB_le l
  obtain ⟨a, ha⟩ : ∃ a, l.length - cntB l = a := ⟨_, rfl⟩
  obtain ⟨b, hb⟩ : ∃ b, cntB l = b := ⟨_, rfl⟩
  rw [ha, hb] at h3 h4
  have h5 := List.all_eq_true.1 (List.all_eq_true.1 cuts_all a (List.mem_range.2 (by omega))) b (List.mem_range.2 (by omega))
  unfold cutGood at h5
  rw [if_pos ⟨by omega, by omega, h3⟩, h4] at h5
  simp only [Bool.and_eq_true, decide_eq_true_eq] at h5
  obtain ⟨⟨⟨p1, p2⟩, p3⟩, p4⟩ := h5
  exact ⟨_, p1, by omega, p3, p4⟩
def cutAt (l : List UInt8) (k : Nat) : Bool := goodW (l.take k) && goodW (l.drop k)
/-- The first cut from k on at which both parts are Christoffel words. -/
def splitF (l : List UInt8) : Nat → Nat → Nat
  | 0, _ => 0
  | f + 1, k => if cutAt l k = true then k else splitF l f (k + 1)
def splitW (l : List UInt8) : Nat := splitF l (l.length - 1) 1
theorem splitF_none (l : List UInt8) : ∀ (f k : Nat), (∀ j, k ≤ j → j < k + f → cutAt l j = false) → splitF l f k = 0
  | 0, _, _ => rfl
  | f + 1, k, h => by
    unfold splitF
    rw [if_neg (by rw [h k (Nat.le_refl _) (by omega)]; simp)]
    exact splitF_none l f (k + 1) fun j h1 h2 => h j (by omega) (by omega)
theorem splitF_at (l : List UInt8) : ∀ (f k m : Nat), k ≤ m → m < k + f → (∀ j, k ≤ j → j < m → cutAt l j = false) → cutAt l m = true → splitF l f k = m
  | 0, k, m, h1, h2, _, _ => by omega
  | f + 1, k, m, h1, h2, h3, h4 => by
    unfold splitF
    by_cases e : k = m
    · subst e; rw [if_pos h4]
    · rw [if_neg (by rw [h3 k (Nat.le_refl _) (by omega)]; simp)]
      exact splitF_at l f (k + 1) m (by omega) (by omega) (fun j h5 h6 => h3 j (by omega) h6) h4
theorem splitW_at (l : List UInt8) (m : Nat) (h1 : 1 ≤ m) (h2 : m < l.length) (h3 : ∀ j, 1 ≤ j → j < m → cutAt l j = false) (h4 : cutAt l m = true) : splitW l = m :=
  splitF_at l _ 1 m h1 (by omega) h3 h4
theorem cut_ex {l : List UInt8} (hl : l.length ≤ 40) (h2 : 2 ≤ l.length) (hg : goodW l = true) (h : ∀ j, 1 ≤ j → j < l.length → cutAt l j = false) : False := by
  obtain ⟨k, h3, h4, h5, h6⟩ := good_cut hl h2 hg
  have := h k h3 h4
  unfold cutAt at this
  rw [h5, h6] at this
  cases this
theorem splitW_lt {l : List UInt8} (hl : l.length ≤ 40) (h2 : 2 ≤ l.length) (hg : goodW l = true) : 1 ≤ splitW l ∧ splitW l < l.length := by
  have key : ∀ (f k : Nat), 1 ≤ k → k + f = l.length → (∀ j, 1 ≤ j → j < k → cutAt l j = false) → 1 ≤ splitF l f k ∧ splitF l f k < l.length := by
    intro f
    induction f with
    | zero => intro k _ he h; exact (cut_ex hl h2 hg fun j h3 h4 => h j h3 (by omega)).elim
    | succ f ih =>
      intro k hk he h
      unfold splitF
      split
      · omega
      · rename_i hn
        refine ih (k + 1) (by omega) (by omega) fun j h3 h4 => ?_
        by_cases e : j = k
        · subst e; simpa using hn
        · exact h j h3 (by omega)
  exact key (l.length - 1) 1 (Nat.le_refl _) (by omega) fun j h3 h4 => by omega
def isTwoW (l : List UInt8) : Bool := lettersW l && decide (1 < l.length) && goodW l
def isChAns (l : List UInt8) : Option Bool := if lettersW l = true then some (goodW l) else none
def countsAns (l : List UInt8) : Option (Int × Int) := if lettersW l = true then some (((l.length - cntB l : Nat) : Int), (cntB l : Int)) else none
def facAns (l : List UInt8) : Option (List UInt8 × List UInt8) := if isTwoW l = true then some (l.take (splitW l), l.drop (splitW l)) else none
def centreAns (l : List UInt8) : Option (List UInt8) := if isTwoW l = true then some ((l.drop 1).take (l.length - 2)) else none
def nextAns (l : List UInt8) : Option (List UInt8 × List UInt8) :=
  if isTwoW l = true ∧ l.length + splitW l ≤ 40 ∧ l.length + (l.length - splitW l) ≤ 40 then some (l.take (splitW l) ++ l, l ++ l.drop (splitW l)) else none
def mirLet (c : UInt8) : UInt8 := if c = 97 then 98 else 97
def mirrorAns (l : List UInt8) : Option (List UInt8) := if lettersW l = true then some (l.reverse.map mirLet) else none
end Go.Proofs.Ytkpnckcfoigceaa
