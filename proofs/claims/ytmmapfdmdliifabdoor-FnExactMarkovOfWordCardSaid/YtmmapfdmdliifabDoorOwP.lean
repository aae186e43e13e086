/- The triple of a word, as a function of lists; words of Markov triples in both. -/
import Derived.Test.YtmmapfdmdliifabDoorMkP
import Derived.Test.YtmmapfdmdliifabDoorWdS
import Derived.Test.YtmmapfdmdliifabDoorWdI
namespace Go.Proofs.YtmmapfdmdliifabDoor
open Go.RowKit

def isLR (c : UInt8) : Bool := c == 108 || c == 114
def wordLR (l : List UInt8) : Bool := decide (l.length ≤ 40) && l.all isLR
def nOf (c : UInt8) (x y z : Int) : Int := if c = 108 then 3 * z * x - y else 3 * y * z - x
def fOf (c : UInt8) (x y : Int) : Int := if c = 108 then x else y
def walkW : List UInt8 → Int → Int → Int → Option (List Int)
  | [], x, y, z => some [x, y, z]
  | c :: r, x, y, z => if 1000000000 < nOf c x y z then none else walkW r (fOf c x y) z (nOf c x y z)
def ofWordAns (l : List UInt8) : Option (List Int) := if wordLR l = true then walkW l 1 2 5 else none
theorem wordLR_iff (l : List UInt8) : wordLR l = true ↔ l.length ≤ 40 ∧ l.all isLR = true := by simp [wordLR]
theorem isLR_iff (c : UInt8) : isLR c = true ↔ c = 108 ∨ c = 114 := by simp [isLR]
theorem walkW_three : ∀ (l : List UInt8) (x y z : Int) (r : List Int), walkW l x y z = some r → r.length = 3
  | [], x, y, z, r, h => by simp [walkW] at h; subst h; rfl
  | c :: l, x, y, z, r, h => by
    unfold walkW at h
    split at h
    · cases h
    · exact walkW_three l _ _ _ r h
theorem ofWordAns_len (l : List UInt8) : ((ofWordAns l).getD []).length ≤ 1000000000000 := by
  unfold ofWordAns
  split
  · cases h : walkW l 1 2 5 with
    | none => simp
    | some r => have := walkW_three l _ _ _ r h; simp [this]
  · simp
def Tri3 (x y z : Int) : Prop := 1 ≤ x ∧ x ≤ y ∧ y ≤ z ∧ z ≤ 1000000000
theorem nOf_ge {c : UInt8} {x y z : Int} (h : Tri3 x y z) : z ≤ nOf c x y z := by
  obtain ⟨h1, h2, h3, _⟩ := h
  unfold nOf
  split
  · have : 3 * z * 1 ≤ 3 * z * x := Int.mul_le_mul_of_nonneg_left h1 (by omega)
    omega
  · have : 3 * 1 * z ≤ 3 * y * z := Int.mul_le_mul_of_nonneg_right (by omega) (by omega)
    omega
theorem Tri3.next {c : UInt8} {x y z : Int} (h : Tri3 x y z) (hn : ¬ 1000000000 < nOf c x y z) : Tri3 (fOf c x y) z (nOf c x y z) := by
  have hg := nOf_ge (c := c) h
  obtain ⟨h1, h2, h3, h4⟩ := h
  refine ⟨?_, ?_, hg, by omega⟩ <;> unfold fOf <;> split <;> omega
theorem other3_nOf {c : UInt8} {x y z : Int} (hc : c = 108 ∨ c = 114) : other3 x y z (if c = 108 then 1 else 0) = nOf c x y z := by
  rcases hc with rfl | rfl <;> simp [other3, nOf]
theorem moveL_nOf {c : UInt8} {x y z : Int} (h : Tri3 x y z) : moveL x y z (if c = 108 then 1 else 0) = [fOf c x y, z, nOf c x y z] := by
  have hg := nOf_ge (c := c) h
  obtain ⟨h1, h2, h3, _⟩ := h
  by_cases hc : c = 108
  · subst hc
    have hg' : z ≤ 3 * z * x - y := by simpa [nOf] using hg
    simp only [moveL, fOf, nOf, if_true]
    exact ordL_eq _ _ _ _ _ _ (by omega) hg' (by omega)
  · simp only [if_neg hc, moveL, fOf, nOf]
    have hg' : z ≤ 3 * y * z - x := by simpa [nOf, hc] using hg
    exact ordL_eq _ _ _ _ _ _ (by omega) hg' (by omega)
theorem moveOpt_nOf {c : UInt8} {x y z : Int} (h : Tri3 x y z) (hc : c = 108 ∨ c = 114) : moveOpt x y z (if c = 108 then 1 else 0) = if 1000000000 < nOf c x y z then none else some [fOf c x y, z, nOf c x y z] := by
  unfold moveOpt
  rw [other3_nOf hc, moveL_nOf h]
theorem walkW_drop (l : List UInt8) (k : Nat) (c : UInt8) (x y z : Int) (h : l[k]? = some c) : walkW (l.drop k) x y z = if 1000000000 < nOf c x y z then none else walkW (l.drop (k + 1)) (fOf c x y) z (nOf c x y z) := by
  have hk : k < l.length := (List.getElem?_eq_some_iff.1 h).1
  have hc : l[k] = c := by rw [List.getElem?_eq_getElem hk] at h; simpa using h
  rw [List.drop_eq_getElem_cons hk, hc]
  rfl

set_option maxHeartbeats 1000000 in
theorem mkLetters_any (s : ByteArray) (w : World) : Calls Tryd.prog 22 #[.string s] w fun e w' => e = .returned (.bool (wordLR s.data.toList)) ∧ w = w' := by
  by_cases h40 : s.size ≤ 40
  · have h40I : ¬ (40 : Int) < (s.size : Int) := by omega
    go_enter Tryd.func22, Tryd.ntmps22
    go_wp2_with fail
    go_loop [3] (fun i => ∃ k : Nat, k ≤ s.size ∧ i = .int .i64 k ∧ (s.data.toList.take k).all isLR = true) (fun i => s.size - (intOf i).toNat)
    case atStart => exact ⟨0, Nat.zero_le _, rfl, by simp⟩
    case round =>
      obtain ⟨k, hk, rfl, hall⟩ := hrel
      have HA := hid hall
      clear hall
      by_cases hlt : k < s.size
      · have HT := hid (byte_take s k hlt)
        have hltI : (k : Int) < (s.size : Int) := by omega
        by_cases h1 : (s[k]'hlt) = 108
        · have hn : (s[k]'hlt).toNat = 108 := by rw [h1]; rfl
          have HOK := hid (show isLR (s[k]'hlt) = true by rw [h1]; decide)
          clear h1
          go_wp2_with fail
          go_round
          case rel => exact ⟨k + 1, hlt, by go_num, by rw [HT.out, List.all_append, HA.out]; simp [HOK.out]⟩
          case measure => simp [intOf]; omega
        · by_cases h2 : (s[k]'hlt) = 114
          · have hn : (s[k]'hlt).toNat = 114 := by rw [h2]; rfl
            have HOK := hid (show isLR (s[k]'hlt) = true by rw [h2]; decide)
            clear h1 h2
            go_wp2_with fail
            go_round
            case rel => exact ⟨k + 1, hlt, by go_num, by rw [HT.out, List.all_append, HA.out]; simp [HOK.out]⟩
            case measure => simp [intOf]; omega
          · have e1 := u8_iff (s[k]'hlt) 108 (by decide)
            have e2 := u8_iff (s[k]'hlt) 114 (by decide)
            have hb1 : (((s[k]'hlt).toNat : Int) != 108) = true := by rw [bne, show ((108 : Int)) = ((108 : Nat) : Int) from rfl, e1]; simp; exact h1
            have hb2 : (((s[k]'hlt).toNat : Int) != 114) = true := by rw [bne, show ((114 : Int)) = ((114 : Nat) : Int) from rfl, e2]; simp; exact h2
            have HN := hid (show wordLR s.data.toList = false by
              cases e : wordLR s.data.toList
              · rfl
              · have p := ((wordLR_iff _).1 e).2
                rw [List.all_eq_true] at p
                rcases (isLR_iff _).1 (p (s[k]'hlt) (List.mem_of_getElem? (byte_at s k hlt))) with q | q
                · exact (h1 q).elim
                · exact (h2 q).elim)
            clear e1 e2 h1 h2
            go_wp2_with fail
            go_ret
            exact ⟨ret_bool HN.out.symm, rfl⟩
      · have HE := hid (show wordLR s.data.toList = true from (wordLR_iff _).2 ⟨by rw [← size_list]; exact h40, by
          have := HA.out
          rwa [List.take_of_length_le (by rw [← size_list]; omega)] at this⟩)
        go_wp2_with fail
        go_ret
        exact ⟨ret_bool HE.out.symm, rfl⟩
  · have HN := hid (show wordLR s.data.toList = false by
      cases e : wordLR s.data.toList
      · rfl
      · have := ((wordLR_iff _).1 e).1
        rw [← size_list] at this
        exact (h40 this).elim)
    have h40I : (40 : Int) < (s.size : Int) := by omega
    go_enter Tryd.func22, Tryd.ntmps22
    go_wp2_with fail
    go_ret
    exact ⟨ret_bool HN.out.symm, rfl⟩
theorem mkLetters_as (s : ByteArray) (b : Bool) (w : World) (h : wordLR s.data.toList = b) : Calls Tryd.prog 22 #[.string s] w fun e w' => e = .returned (.bool b) ∧ w = w' := by
  subst h; exact mkLetters_any s w

theorem lr_contains (b : UInt8) : ([108, 114] : List UInt8).contains b = isLR b := by
  simp only [List.contains, List.elem, isLR]
  cases (b == 108) <;> cases (b == 114) <;> rfl
theorem trimLR_nil_iff (l : List UInt8) : Lib.trimS l [108, 114] = [] ↔ l.all isLR = true := by
  have e : (fun b => ([108, 114] : List UInt8).contains b) = isLR := funext lr_contains
  unfold Lib.trimS Lib.trimLeftS Lib.trimRightS
  rw [e, dropWhile_nil_iff, List.all_eq_true, List.all_eq_true]
  constructor
  · intro h x hx
    cases hp : isLR x
    · have := h x (by
        rw [List.mem_reverse]
        exact dropWhile_mem isLR _ x (by rw [List.mem_reverse]; exact hx) hp)
      rw [hp] at this
      exact this
    · rfl
  · intro h x hx
    rw [List.mem_reverse] at hx
    exact h x (by
      have := (List.dropWhile_sublist (p := isLR) (l := l.reverse)).subset hx
      rwa [List.mem_reverse] at this)
theorem trim_lr_as (s : ByteArray) (r : ByteArray) (w : World) (hs : s.size ≤ 1048576) (hr : (⟨(Lib.trimS s.data.toList [108, 114]).toArray⟩ : ByteArray) = r) :
    Calls Tryd.prog 34 #[.string s, .string ⟨#[108, 114]⟩] w fun e w' => e = .returned (.string r) ∧ Later w w' := by
  subst hr
  exact Any.strings_Trim_laid laysLays160 (by kernel_rfl) s ⟨#[108, 114]⟩ w (by omega) (by decide) (ascii_of_all (by decide))

set_option maxHeartbeats 1000000 in
theorem isMarkovWord_any (s : ByteArray) (w : World) (hs : s.size ≤ 1048576) : Calls Tryd.prog 24 #[.string s] w fun e w' => e = .returned (.bool (wordLR s.data.toList)) ∧ Later w w' := by
  by_cases h40 : (s.size : Int) ≤ 40
  · obtain ⟨r, hr⟩ : ∃ r, (⟨(Lib.trimS s.data.toList [108, 114]).toArray⟩ : ByteArray) = r := ⟨_, rfl⟩
    have HT := hid (fun w => trim_lr_as s r w hs hr)
    by_cases hr0 : r.size = 0
    · have hrl : Lib.trimS s.data.toList [108, 114] = [] := by
        have h1 : r.data.toList = [] := by rw [← List.length_eq_zero_iff, ← size_list]; exact hr0
        rw [← hr] at h1
        simpa using h1
      have HN := hid ((wordLR_iff s.data.toList).2 ⟨by rw [← size_list]; omega, (trimLR_nil_iff _).1 hrl⟩)
      have her := bytes_empty hr0
      rw [HN.out]
      subst her
      clear hr hrl hr0
      go_enter Tryd.func24, Tryd.ntmps24
      go_wp2_with fail
      refine (HT.out _).mono ?_
      rintro e w1 ⟨rfl, hL⟩
      go_wp2_with fail
      go_ret
      exact ⟨rfl, hL⟩
    · have hner := neq_empty r hr0
      have HN := hid (show wordLR s.data.toList = false by
        cases e : wordLR s.data.toList
        · rfl
        · have h1 := (trimLR_nil_iff _).2 ((wordLR_iff _).1 e).2
          rw [h1] at hr
          subst hr
          exact (hr0 rfl).elim)
      rw [HN.out]
      clear hr hr0
      go_enter Tryd.func24, Tryd.ntmps24
      go_wp2_with fail
      refine (HT.out _).mono ?_
      rintro e w1 ⟨rfl, hL⟩
      go_wp2_with fail
      go_ret
      exact ⟨rfl, hL⟩
  · have HN := hid (show wordLR s.data.toList = false by
      cases e : wordLR s.data.toList
      · rfl
      · have := ((wordLR_iff _).1 e).1
        rw [← size_list] at this
        omega)
    have hd : decide ((s.size : Int) ≤ 40) = false := decide_eq_false h40
    rw [HN.out]
    go_enter Tryd.func24, Tryd.ntmps24
    go_wp2_with fail
    go_ret
    exact ⟨rfl, Later.refl _⟩
theorem isMarkovWord_as (s : ByteArray) (b : Bool) (w : World) (hs : s.size ≤ 1048576) (h : wordLR s.data.toList = b) : Calls Tryd.prog 24 #[.string s] w fun e w' => e = .returned (.bool b) ∧ Later w w' := by
  subst h; exact isMarkovWord_any s w hs
theorem indexOf_any (c : UInt8) (w : World) : Calls Tryd.prog 26 #[.int .u8 (c.toNat : Nat)] w fun e w' => e = .returned (.int .i64 ((if c = 108 then 1 else 0 : Nat) : Int)) ∧ w = w' := by
  by_cases h : c = 108
  · subst h
    go_enter Tryd.func26, Tryd.ntmps26
    go_wp2_with fail
    go_ret
    exact ⟨rfl, rfl⟩
  · have e1 := u8_iff c 108 (by decide)
    have hb1 : (((c).toNat : Int) == 108) = false := by rw [show ((108 : Int)) = ((108 : Nat) : Int) from rfl, e1]; simp; exact h
    rw [if_neg h]
    clear e1 h
    go_enter Tryd.func26, Tryd.ntmps26
    go_wp2_with fail
    go_ret
    exact ⟨rfl, rfl⟩
end Go.Proofs.YtmmapfdmdliifabDoor
