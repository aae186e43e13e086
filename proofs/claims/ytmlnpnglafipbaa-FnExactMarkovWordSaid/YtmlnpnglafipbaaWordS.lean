/- The word of a triple, in the model. -/
import Derived.Test.YtmlnpnglafipbaaPathI
import Derived.Test.YtmlnpnglafipbaaAns3
import Derived.Laws.Concat
namespace Go.Proofs.Ytmlnpnglafipbaa
open Go.RowKit

def letW (R : List (List Int)) (k : Nat) : UInt8 := if (R.getD k []).getD 0 0 = (R.getD (k + 1) []).getD 0 0 then 108 else 114
def wordOf (R : List (List Int)) : List UInt8 := (List.range (R.length - 3)).map fun i => letW R (R.length - 4 - i)
def wordAns (zs : List Int) : Option (List UInt8) :=
  if mkGoodW zs = true ∧ 3 ≤ (pathG (zs.getD 0 0) (zs.getD 1 0) (zs.getD 2 0)).length ∧ (pathG (zs.getD 0 0) (zs.getD 1 0) (zs.getD 2 0)).length ≤ 43 then some (wordOf (pathG (zs.getD 0 0) (zs.getD 1 0) (zs.getD 2 0))) else none
theorem wordOf_len (R : List (List Int)) : (wordOf R).length = R.length - 3 := by simp [wordOf]
theorem wordOf_at (R : List (List Int)) (i : Nat) (h : i < R.length - 3) : (wordOf R)[i]? = some (letW R (R.length - 4 - i)) := by simp [wordOf, h]
theorem wordOf_take (R : List (List Int)) (i : Nat) (h : i < R.length - 3) : (wordOf R).take (i + 1) = (wordOf R).take i ++ [letW R (R.length - 4 - i)] := by
  rw [List.take_add_one, wordOf_at R i h]; rfl
theorem path_short {x y z : Int} (h : T3 x y z) (hz : z < 5) : (pathG x y z).length < 3 := by
  obtain ⟨hx, hy, hz0, hxy, hyz, he⟩ := id h
  by_cases h1 : z = 1
  · subst h1; simp [pathG, tailG_one]
  · have hm := mid_less x y z h h1
    have hz' : z = 2 ∨ z = 3 ∨ z = 4 := by omega
    rcases hz' with rfl | rfl | rfl
    · obtain rfl : y = 1 := by omega
      obtain rfl : x = 1 := by omega
      decide
    · have hy' : y = 1 ∨ y = 2 := by omega
      have hx' : x = 1 ∨ x = 2 := by omega
      rcases hy' with rfl | rfl <;> rcases hx' with rfl | rfl <;> omega
    · have hy' : y = 1 ∨ y = 2 ∨ y = 3 := by omega
      have hx' : x = 1 ∨ x = 2 ∨ x = 3 := by omega
      rcases hy' with rfl | rfl | rfl <;> rcases hx' with rfl | rfl | rfl <;> omega
theorem path_long {x y z : Int} (h : T3 x y z) (hz : ¬ z < 5) : 3 ≤ (pathG x y z).length := by
  have h1 := tailG_step h (by omega)
  have hn := next_T3 h (by omega)
  have hne : nz x y z ≠ 1 := by
    intro e
    obtain ⟨hx, hy, hz0, hxy, hyz, he⟩ := h
    have g := high3_spec x y (3 * x * y - z)
    unfold nz at e
    obtain rfl : x = 1 := by omega
    obtain rfl : y = 1 := by omega
    have : (z - 1) * (z - 2) = 0 := by grind
    rcases Int.mul_eq_zero.1 this with h | h <;> omega
  have h2 := tailG_step hn.1 hne
  unfold pathG
  rw [h1, h2]
  simp
theorem tailF_row3 (k : Nat) : ∀ (x y z : Int) (r : List Int), r ∈ tailF k x y z → r.length = 3 := by
  induction k with
  | zero => intro x y z r h; simp [tailF] at h
  | succ k ih =>
    intro x y z r h
    unfold tailF at h
    split at h
    · simp at h
    · rcases List.mem_cons.1 h with rfl | h
      · rfl
      · exact ih _ _ _ r h
theorem tailF_len3 (k : Nat) : ∀ (x y z : Int), (tailF k x y z).length ≤ k := by
  induction k with
  | zero => intro x y z; simp [tailF]
  | succ k ih =>
    intro x y z
    unfold tailF
    split
    · simp
    · have := ih (nx x y z) (ny x y z) (nz x y z)
      simp; omega
theorem pathG_len {x y z : Int} (h : T3 x y z) : (pathG x y z).length ≤ 1000000001 := by
  have h1 : (tailG x y z).length ≤ z.toNat := tailF_len3 _ _ _ _
  have := h.2.2.1.2
  unfold pathG
  rw [List.length_cons]
  omega
theorem pathG_rows {x y z : Int} (r : List Int) (h : r ∈ pathG x y z) : r.length = 3 := by
  rcases List.mem_cons.1 h with rfl | h
  · rfl
  · exact tailF_row3 _ _ _ _ r h
theorem add_at2 (a : Addr) (i : Nat) : a.add (i + 1) = ⟨a.block, a.off + (i + 1), none⟩ := by simp [Addr.add]
theorem Rows2.at3 {w : World} {a : Option Addr} {n cap : Nat} {R : List (List Int)} (h : Rows2 w (.slice a n cap) R) (h3 : ∀ r, r ∈ R → r.length = 3) (k : Nat) (hk : k < R.length) :
    ∃ ad ta tc, a = some ad ∧ w.cell? (ad.add k) = some (.slice (some ta) 3 tc) ∧ w.cell? ta = some (.int .i64 ((R.getD k []).getD 0 0)) := by
  obtain ⟨a', cap', e, _, hc⟩ := h
  obtain ⟨ad, u, rfl, hu, hi⟩ := hc k hk
  have hl : (R.getD k []).length = 3 := by rw [getD_row R k hk]; exact h3 _ (List.getElem_mem hk)
  obtain ⟨p, q, r, ta, tc, e3, rfl, c0, _, _⟩ := hi.three hl
  simp only [Value.slice.injEq] at e
  exact ⟨ad, ta, tc, e.1, hu, by rw [e3]; exact c0⟩

set_option maxRecDepth 20000 in
set_option maxHeartbeats 4000000 in
theorem specMarkovWord_any (v : Value) (zs : List Int) (w : World) (h : Ints w v zs) :
    Calls Try.prog 32 #[v] w fun e w' => StrAns w (wordAns zs) e w' := by
  cases hg : mkGoodW zs
  · have HA := hid (show wordAns zs = none by unfold wordAns; rw [if_neg (by simp [hg])])
    have HG := hid hg
    have H := hid h
    obtain ⟨a, cap, rfl, hl, _⟩ := id h
    clear hg h
    go_enter Try.func32, Try.ntmps32
    go_wp2_with fail
    refine (mkGood_as _ zs false _ HG.out H.out).mono ?_
    rintro e w' ⟨rfl, n, rfl⟩
    go_wp2_with fail
    go_ret2
    rw [HA.out]
    exact ⟨rfl, Later.drewN _ _⟩
  · obtain ⟨x, y, z, rfl, hT⟩ := mkGoodW_T3 hg
    obtain ⟨x', y', z', ad, cap, e1, rfl, c0, c1, c2⟩ := h.three rfl
    simp only [List.cons.injEq, and_true] at e1
    obtain ⟨rfl, rfl, rfl⟩ := e1
    have HG := hid hg
    have H := hid h
    have HT := hid hT
    by_cases hz : z < 5
    · have HA := hid (show wordAns [x, y, z] = none by
        unfold wordAns; rw [if_neg]; rintro ⟨_, h3, _⟩
        have := path_short hT hz
        have h4 : 3 ≤ (pathG x y z).length := h3
        omega)
      have hd : decide (z < 5) = true := decide_eq_true hz
      clear hg h hT
      go_enter Try.func32, Try.ntmps32
      go_wp2_with fail
      refine (mkGood_as (.slice (some ad) 3 cap) [x, y, z] true _ HG.out H.out).mono ?_
      rintro e w' ⟨rfl, n, rfl⟩
      have c2' := (Later.drewN w n).cell c2
      go_wp2_with fail
      go_ret2
      rw [HA.out]
      exact ⟨rfl, Later.drewN _ _⟩
    · have h3 := path_long hT hz
      have hd : decide (z < 5) = false := decide_eq_false hz
      have hrow := hid (fun r => pathG_rows (x := x) (y := y) (z := z) r)
      have hlen : (pathG x y z).length ≤ 1000000001 := pathG_len hT
      have HA := hid (show wordAns [x, y, z] = if (pathG x y z).length ≤ 43 then some (wordOf (pathG x y z)) else none by
        unfold wordAns
        by_cases h43 : (pathG x y z).length ≤ 43
        · rw [if_pos h43, if_pos ⟨hg, h3, h43⟩]; rfl
        · rw [if_neg h43, if_neg (fun hh => h43 hh.2.2)])
      have HPATH := hid (fun w0 (hw0 : Later w w0) => mkPath_any x y z ad cap w0 hT (h.later hw0))
      obtain ⟨R, hR⟩ : ∃ R, pathG x y z = R := ⟨_, rfl⟩
      rw [hR] at h3 hrow hlen HA HPATH
      clear hg h hT hR
      go_enter Try.func32, Try.ntmps32
      go_wp2_with fail
      refine (mkGood_as (.slice (some ad) 3 cap) [x, y, z] true _ HG.out H.out).mono ?_
      rintro e w' ⟨rfl, n, rfl⟩
      have c2' := (Later.drewN w n).cell c2
      go_wp2_with fail
      refine (HPATH.out _ (Later.drewN w n)).mono ?_
      rintro e w2 ⟨v2, rfl, ho, hL⟩
      obtain ⟨a2, cp2, rfl, _⟩ := ho.shape
      have HR := hid ho.rows
      have HL := hid ((Later.drewN w n).trans hL)
      clear ho hL c0 c1 c2 c2' hd
      obtain ⟨M, hM⟩ : ∃ M, R.length = M + 3 := ⟨R.length - 3, by omega⟩
      have hMi : (R.length : Int) - 4 = (M : Int) - 1 := by omega
      go_wp2_with fail
      go_loopw [5, 6] (fun s k wr => ∃ i : Nat, i ≤ M ∧ k = .int .i64 ((M : Int) - 1 - i) ∧ s = .string ⟨((wordOf R).take i).toArray⟩ ∧ Later w2 wr) (fun _ k _ => (intOf k + 1).toNat)
      case atStart => exact ⟨0, Nat.zero_le _, by simp; omega, rfl, Later.refl _⟩
      case round =>
        obtain ⟨i, hi, rfl, rfl, hL⟩ := hrel
        have HLr := hid hL
        by_cases hlt : i < M
        · obtain ⟨K, hK⟩ : ∃ K : Nat, (M : Int) - 1 - (i : Int) = (K : Int) := ⟨M - 1 - i, by omega⟩
          have hKe : R.length - 4 - i = K := by omega
          obtain ⟨ad1, ta1, tc1, rfl, b1, b2⟩ := (HR.out.later hL).at3 hrow.out K (by omega)
          obtain ⟨ad2, ta2, tc2, e2, b3, b4⟩ := (HR.out.later hL).at3 hrow.out (K + 1) (by omega)
          obtain rfl : ad1 = ad2 := by simpa using e2
          rw [add_at2] at b3
          have HW := hid (show (wordOf R).take (i + 1) = (wordOf R).take i ++ [letW R K] by rw [wordOf_take R i (by omega), hKe])
          have hlw : letW R K = if (R.getD K []).getD 0 0 = (R.getD (K + 1) []).getD 0 0 then 108 else 114 := rfl
          obtain ⟨p, hp⟩ : ∃ p, (R.getD K []).getD 0 0 = p := ⟨_, rfl⟩
          obtain ⟨q, hq⟩ : ∃ q, (R.getD (K + 1) []).getD 0 0 = q := ⟨_, rfl⟩
          rw [hp] at b2 hlw
          rw [hq] at b4 hlw
          have hsz : ((wordOf R).take i).length ≤ 1000000001 := by rw [List.length_take, wordOf_len]; omega
          obtain ⟨l, hl⟩ : ∃ l, (wordOf R).take i = l := ⟨_, rfl⟩
          rw [hl] at HW hsz ⊢
          rw [hK]
          have hK0 : (K : Int) < (R.length : Int) := by omega
          have hK1 : (K : Int) + 1 < (R.length : Int) := by omega
          have k1 : IntKind.i64.wrap ((K : Int) + 1) = (K : Int) + 1 := by rw [IntWalk.i64_left]; exact IntWalk.wrap64_in _ (by omega)
          have k2 : ((K : Int) + 1).toNat = K + 1 := by omega
          have HKI := hid hK
          clear hp hq hl hL e2 hK hKe
          by_cases hpq : p = q
          · have hb : (p == q) = true := by simp [hpq]
            have HW2 := hid (show (wordOf R).take (i + 1) = l ++ [108] by rw [HW.out, hlw, if_pos hpq])
            clear hpq hlw
            go_wp2_with fail
            go_quiet (fail)
            have HLd := hid (HLr.out.trans (Later.drewN wr nq))
            generalize wr.drewN nq = wd at HLd ⊢
            go_wp2_with fail
            go_roundw
            case rel => exact ⟨i + 1, hlt, by have := HKI.out; congr 1 <;> omega, by rw [HW2.out]; simp [ByteArray.ext_iff], HLd.out⟩
            case measure => simp [intOf]
          · have hb : (p == q) = false := by simp [hpq]
            have HW2 := hid (show (wordOf R).take (i + 1) = l ++ [114] by rw [HW.out, hlw, if_neg hpq])
            clear hpq hlw
            go_wp2_with fail
            go_quiet (fail)
            have HLd := hid (HLr.out.trans (Later.drewN wr nq))
            generalize wr.drewN nq = wd at HLd ⊢
            go_wp2_with fail
            go_roundw
            case rel => exact ⟨i + 1, hlt, by have := HKI.out; congr 1 <;> omega, by rw [HW2.out]; simp [ByteArray.ext_iff], HLd.out⟩
            case measure => simp [intOf]
        · have hiM : i = M := by omega
          have HI := hid (show (wordOf R).take i = wordOf R from List.take_of_length_le (by rw [wordOf_len]; omega))
          have hk1 : (M : Int) - 1 - (i : Int) = -1 := by omega
          have hwl := wordOf_len R
          rw [HI.out, hk1]
          have HLL := hid (HL.out.trans hL)
          obtain ⟨W, hW⟩ : ∃ W, wordOf R = W := ⟨_, rfl⟩
          rw [hW] at hwl HA ⊢
          have hWM : W.length = M := by omega
          clear hk1 hwl hW HI hL hiM
          by_cases h40 : 40 < M
          · have HN := hid (show wordAns [x, y, z] = none by rw [HA.out, if_neg (by omega)])
            have hd : decide ((40 : Int) < (M : Int)) = true := decide_eq_true (by omega)
            go_wp2_with fail
            go_ret2
            rw [HN.out]
            exact ⟨rfl, HLL.out⟩
          · have HN := hid (show wordAns [x, y, z] = some W by rw [HA.out, if_pos (by omega)])
            have hd : decide ((40 : Int) < (M : Int)) = false := decide_eq_false (by omega)
            go_wp2_with fail
            go_ret2
            rw [HN.out]
            exact ⟨rfl, HLL.out⟩
end Go.Proofs.Ytmlnpnglafipbaa
