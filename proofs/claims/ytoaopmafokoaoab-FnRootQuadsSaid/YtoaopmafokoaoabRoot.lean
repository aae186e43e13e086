/- Contracts of RootOf and DivisorOf. -/
import Derived.Test.YtoaopmafokoaoabBasB
namespace Go.Proofs.Ytoaopmafokoaoab
open Go.RowKit

/-- The greatest number whose square is at most n. -/
def rootN : Nat → Nat
  | 0 => 0
  | n + 1 => if (rootN n + 1) * (rootN n + 1) ≤ n + 1 then rootN n + 1 else rootN n
theorem rootN_spec (n : Nat) : rootN n * rootN n ≤ n ∧ n < (rootN n + 1) * (rootN n + 1) := by
  induction n with
  | zero => simp [rootN]
  | succ n ih =>
    unfold rootN
    split
    · rename_i h
      refine ⟨h, ?_⟩
      have h1 : (rootN n + 1 + 1) * (rootN n + 1 + 1) = (rootN n + 1) * (rootN n + 1) + 2 * (rootN n + 1) + 1 := by
        rw [Nat.mul_add, Nat.add_mul, Nat.add_mul]; omega
      omega
    · rename_i h
      exact ⟨by omega, by omega⟩
theorem root_unique (n r s : Nat) (hr : r * r ≤ n) (hr2 : n < (r + 1) * (r + 1)) (hs : s * s ≤ n) (hs2 : n < (s + 1) * (s + 1)) : r = s := by
  rcases Nat.lt_trichotomy r s with h | h | h
  · have := Nat.mul_le_mul (show r + 1 ≤ s from h) (show r + 1 ≤ s from h); omega
  · exact h
  · have := Nat.mul_le_mul (show s + 1 ≤ r from h) (show s + 1 ≤ r from h); omega
theorem rootN_eq (n r : Nat) (h : r * r ≤ n) (h2 : n < (r + 1) * (r + 1)) : rootN n = r :=
  root_unique n _ _ (rootN_spec n).1 (rootN_spec n).2 h h2
def rootAns (n : Int) : Option Int := if 0 ≤ n ∧ n ≤ 1000000000000000000 then some (rootN n.toNat : Int) else none
theorem sq_lt_of (n k : Nat) (hn : n ≤ 1000000000000000000) (hk : 1000000001 ≤ k) : n < k * k := by
  have := Nat.mul_le_mul hk hk
  omega

set_option maxHeartbeats 1000000 in
theorem foRoot_any (n : Nat) (w : World) (hn : n ≤ 1000000000000000000) :
    Calls Try.prog 112 #[.int .i64 n] w fun e w' => e = .returned (.int .i64 (rootN n : Nat)) ∧ w = w' := by
  go_enter Try.func112, Try.ntmps112
  go_wp2_with fail
  go_loop [3, 4] (fun x y => ∃ l h : Nat, x = .int .i64 l ∧ y = .int .i64 h ∧ l < h ∧ h ≤ 1000000001 ∧ l * l ≤ n ∧ n < h * h) (fun x y => (intOf y).toNat - (intOf x).toNat)
  case atStart => exact ⟨0, 1000000001, rfl, rfl, by omega, by omega, by omega, sq_lt_of n _ hn (by omega)⟩
  case round =>
    obtain ⟨l, h, rfl, rfl, hlh, hh, hl2, hh2⟩ := hrel
    have HL2 := hid hl2
    have HH2 := hid hh2
    clear hl2 hh2
    by_cases hgt : (1 : Int) < (h : Int) - (l : Int)
    · obtain ⟨m, hm⟩ : ∃ m : Nat, m = (l + h) / 2 := ⟨_, rfl⟩
      have hmi : ((l : Int) + (h : Int)) / 2 = (m : Int) := by omega
      have hml : l < m := by omega
      have hmh : m < h := by omega
      have hsq : m * m ≤ 1000000002000000001 := by have := Nat.mul_le_mul (show m ≤ 1000000001 by omega) (show m ≤ 1000000001 by omega); omega
      have p0 : (0 : Int) ≤ (m : Int) * (m : Int) := by rw [← Int.natCast_mul]; omega
      have p1 : (m : Int) * (m : Int) ≤ 1000000002000000001 := by rw [← Int.natCast_mul]; omega
      by_cases hle : (m : Int) * (m : Int) ≤ (n : Int)
      · have HLE := hid (show m * m ≤ n by rw [← Int.natCast_mul] at hle; omega)
        clear hm hsq
        go_wp2_with fail
        go_round
        case rel => exact ⟨m, h, by rw [hmi], rfl, hmh, hh, HLE.out, HH2.out⟩
        case measure => simp [intOf]; omega
      · have HLE := hid (show n < m * m by rw [← Int.natCast_mul] at hle; omega)
        clear hm hsq
        go_wp2_with fail
        go_round
        case rel => exact ⟨l, m, rfl, by rw [hmi], hml, by omega, HL2.out, HLE.out⟩
        case measure => simp [intOf]; omega
    · have hh1 : h = l + 1 := by omega
      have HR := hid (show rootN n = l by rw [rootN_eq n l HL2.out (by rw [← hh1]; exact HH2.out)])
      clear hh1
      go_wp2_with fail
      go_ret
      exact ⟨by rw [HR.out]; rfl, rfl⟩

set_option maxHeartbeats 1000000 in
theorem implRootOf_any (n : Int) (w : World) :
    Calls Try.prog 110 #[.int .i64 n] w fun e w' => NumAns w (rootAns n) e w' := by
  by_cases h0 : n < 0
  · have HA := hid (show rootAns n = none by unfold rootAns; rw [if_neg (by omega)])
    go_enter Try.func110, Try.ntmps110
    go_wp2_with fail
    go_ret2
    exact ⟨by rw [HA.out]; rfl, Later.refl _⟩
  · by_cases h1 : 1000000000000000000 < n
    · have HA := hid (show rootAns n = none by unfold rootAns; rw [if_neg (by omega)])
      go_enter Try.func110, Try.ntmps110
      go_wp2_with fail
      go_ret2
      exact ⟨by rw [HA.out]; rfl, Later.refl _⟩
    · have HA := hid (show rootAns n = some (rootN n.toNat : Int) by unfold rootAns; rw [if_pos (by omega)])
      obtain ⟨m, rfl⟩ : ∃ m : Nat, n = (m : Int) := ⟨n.toNat, by omega⟩
      have hm : m ≤ 1000000000000000000 := by omega
      go_enter Try.func110, Try.ntmps110
      go_wp2_with fail
      go_loop [4, 5] (fun x y => ∃ l h : Nat, x = .int .i64 l ∧ y = .int .i64 h ∧ l ≤ h ∧ h ≤ 1000000000 ∧ l * l ≤ m ∧ m < (h + 1) * (h + 1)) (fun x y => (intOf y).toNat - (intOf x).toNat)
      case atStart => exact ⟨0, 1000000000, rfl, rfl, by omega, by omega, by omega, sq_lt_of m _ hm (by omega)⟩
      case round =>
        obtain ⟨l, h, rfl, rfl, hlh, hh, hl2, hh2⟩ := hrel
        have HL2 := hid hl2
        have HH2 := hid hh2
        clear hl2 hh2
        by_cases hgt : l < h
        · obtain ⟨k, hk⟩ : ∃ k : Nat, k = (l + h + 1) / 2 := ⟨_, rfl⟩
          have hmi : ((l : Int) + (h : Int) + 1) / 2 = (k : Int) := by omega
          have hml : l < k := by omega
          have hmh : k ≤ h := by omega
          have hsq : k * k ≤ 1000000002000000001 := by have := Nat.mul_le_mul (show k ≤ 1000000001 by omega) (show k ≤ 1000000001 by omega); omega
          have p0 : (0 : Int) ≤ (k : Int) * (k : Int) := by rw [← Int.natCast_mul]; omega
          have p1 : (k : Int) * (k : Int) ≤ 1000000002000000001 := by rw [← Int.natCast_mul]; omega
          by_cases hle : (k : Int) * (k : Int) ≤ (m : Int)
          · have HLE := hid (show k * k ≤ m by rw [← Int.natCast_mul] at hle; omega)
            clear hk hsq
            go_wp2_with fail
            go_round
            case rel => exact ⟨k, h, by rw [hmi], rfl, hmh, hh, HLE.out, HH2.out⟩
            case measure => simp [intOf]; omega
          · have HLE := hid (show m < (k - 1 + 1) * (k - 1 + 1) by rw [← Int.natCast_mul] at hle; rw [show k - 1 + 1 = k by omega]; omega)
            clear hk hsq
            go_wp2_with fail
            go_round
            case rel => exact ⟨l, k - 1, rfl, by go_num, by omega, by omega, HL2.out, HLE.out⟩
            case measure => simp [intOf]; omega
        · have hh1 : h = l := by omega
          have HR := hid (show rootN m = l by rw [rootN_eq m l HL2.out (by rw [← hh1]; exact HH2.out)])
          clear hh1
          go_wp2_with fail
          go_ret2
          exact ⟨by rw [HA.out, Int.toNat_natCast, HR.out]; rfl, Later.refl _⟩

/-! ### divisors -/

def maxI (a b : Int) : Int := if b < a then a else b
/-- The greatest common divisor by remainders as the program cuts them; the fuel is the second number's size and one. -/
def gcdF : Nat → Int → Int → Int
  | 0, a, _ => a
  | k + 1, a, b => if b = 0 then maxI a (-a) else gcdF k b (a.tmod b)
def gcdW (a b : Int) : Int := gcdF (b.natAbs + 1) a b
theorem tmod_lt (a b : Int) (hb : b ≠ 0) : (a.tmod b).natAbs < b.natAbs := by
  rw [Int.natAbs_tmod]
  exact Nat.mod_lt _ (Int.natAbs_pos.2 hb)
theorem gcdF_more (k : Nat) : ∀ (j : Nat) (a b : Int), b.natAbs < k → b.natAbs < j → gcdF k a b = gcdF j a b := by
  induction k with
  | zero => intro j a b h; omega
  | succ k ih =>
    intro j a b h1 h2
    cases j with
    | zero => omega
    | succ j =>
      unfold gcdF
      split
      · rfl
      · rename_i hb
        have := tmod_lt a b hb
        exact ih j b _ (by omega) (by omega)
theorem gcdW_zero (a : Int) : gcdW a 0 = maxI a (-a) := by simp [gcdW, gcdF]
theorem gcdW_step (a b : Int) (hb : b ≠ 0) : gcdW a b = gcdW b (a.tmod b) := by
  have h := tmod_lt a b hb
  unfold gcdW
  rw [show gcdF (b.natAbs + 1) a b = gcdF b.natAbs b (a.tmod b) by rw [gcdF, if_neg hb]]
  exact gcdF_more _ _ _ _ h (by omega)
def Mid (a : Int) : Prop := -1000000000 ≤ a ∧ a ≤ 1000000000
theorem tmod_mid (a b : Int) (_ha : Mid a) (hb : Mid b) (h0 : b ≠ 0) : Mid (a.tmod b) := by
  have h := tmod_lt a b h0
  unfold Mid at *
  omega
theorem gcdF_mid (k : Nat) : ∀ (a b : Int), Mid a → Mid b → Mid (gcdF k a b) := by
  induction k with
  | zero => intro a b ha _; exact ha
  | succ k ih =>
    intro a b ha hb
    unfold gcdF
    split
    · unfold maxI; split
      · exact ha
      · unfold Mid at *; omega
    · rename_i h0
      exact ih b _ hb (tmod_mid a b ha hb h0)
theorem gcdW_mid (a b : Int) (ha : Mid a) (hb : Mid b) : Mid (gcdW a b) := gcdF_mid _ a b ha hb

theorem l1Most_any (a b : Int) (w : World) : Calls Try.prog 136 #[.int .i64 a, .int .i64 b] w fun e w' => e = .returned (.int .i64 (maxI a b)) ∧ w = w' := by
  by_cases h : b < a
  · go_enter Try.func136, Try.ntmps136
    go_wp2_with fail
    go_ret
    exact ⟨ret_int (by unfold maxI; rw [if_pos (by assumption)]), rfl⟩
  · go_enter Try.func136, Try.ntmps136
    go_wp2_with fail
    go_ret
    exact ⟨ret_int (by unfold maxI; rw [if_neg (by omega)]), rfl⟩
theorem l1Abs_any (a : Int) (w : World) (ha : Mid a) : Calls Try.prog 129 #[.int .i64 a] w fun e w' => e = .returned (.int .i64 (maxI a (-a))) ∧ w = w' := by
  obtain ⟨h1, h2⟩ := ha
  go_enter Try.func129, Try.ntmps129
  go_wp2_with fail
  refine (l1Most_any _ _ _).mono ?_
  rintro e w' ⟨rfl, rfl⟩
  go_wp2_with fail
  go_ret
  exact ⟨rfl, rfl⟩

set_option maxHeartbeats 400000 in
theorem foGcd_any (k : Nat) : ∀ (a b : Int) (w : World), b.natAbs < k → Mid a → Mid b → Calls Try.prog 117 #[.int .i64 a, .int .i64 b] w fun e w' => e = .returned (.int .i64 (gcdW a b)) ∧ w = w' := by
  induction k with
  | zero => intro a b w h; omega
  | succ k ih =>
    intro a b w hk ha hb
    by_cases h0 : b = 0
    · subst h0
      have HG := hid (gcdW_zero a)
      have HA := hid ha
      clear ih ha hb hk
      go_enter Try.func117, Try.ntmps117
      go_wp2_with fail
      refine (l1Abs_any _ _ HA.out).mono ?_
      rintro e w' ⟨rfl, rfl⟩
      rw [← HG.out]
      go_wp2_with fail
      go_ret
      exact ⟨rfl, rfl⟩
    · have HG := hid (gcdW_step a b h0)
      have hlt := tmod_lt a b h0
      have HC := hid (ih b (a.tmod b) w (by omega) hb (tmod_mid a b ha hb h0))
      have hbe : (b == 0) = false := by simp [h0]
      have hb1 := hb.1
      have hb2 := hb.2
      have ha1 := ha.1
      have ha2 := ha.2
      clear ih hk hlt
      go_enter Try.func117, Try.ntmps117
      go_wp2_with fail
      refine HC.out.mono ?_
      rintro e w' ⟨rfl, rfl⟩
      rw [← HG.out]
      go_wp2_with fail
      go_ret
      exact ⟨rfl, rfl⟩

set_option maxHeartbeats 1000000 in
theorem commonDivisor_any (a b : Int) (w : World) (ha : Mid a) (hb : Mid b) : Calls Try.prog 87 #[.int .i64 a, .int .i64 b] w fun e w' => e = .returned (.int .i64 (gcdW a b)) ∧ Later w w' := by
  have HA := hid ha
  have HB := hid hb
  clear ha hb
  go_enter Try.func87, Try.ntmps87
  go_wp2_with fail
  go_loopw [0, 1] (fun x y wr => ∃ c d : Int, x = .int .i64 c ∧ y = .int .i64 d ∧ Mid c ∧ Mid d ∧ gcdW c d = gcdW a b ∧ Later w wr) (fun _ y _ => (intOf y).natAbs)
  case atStart => exact ⟨a, b, rfl, rfl, HA.out, HB.out, rfl, Later.refl w⟩
  case round =>
    obtain ⟨c, d, rfl, rfl, hc, hd, hg, hL⟩ := hrel
    have HG := hid hg
    have HL := hid hL
    have hc1 := hc.1
    have hc2 := hc.2
    have hd1 := hd.1
    have hd2 := hd.2
    clear hg hL
    by_cases h0 : d = 0
    · subst h0
      have hb0 : ((0 : Int) != 0) = false := by simp
      have HZ := hid (gcdW_zero c)
      go_wp2_with fail
      all_goals
        go_ret
        exact ⟨ret_int (by rw [← HG.out, HZ.out]; unfold maxI; split <;> omega), HL.out⟩
    · have hb0 : (d != 0) = true := by simp [h0]
      have HS := hid (gcdW_step c d h0)
      have HT := hid (tmod_lt c d h0)
      have HM := hid (tmod_mid c d hc hd h0)
      have HD := hid hd
      clear hc hd
      go_wp2_with fail
      go_quiet (fail)
      go_wp2_with fail
      go_roundw
      case rel => exact ⟨d, c.tmod d, rfl, rfl, HD.out, HM.out, by rw [← HS.out]; exact HG.out, HL.out.trans (Later.drewN _ _)⟩
      case measure => exact HT.out

def gcdL (zs : List Int) : Int := zs.foldl gcdW 0
theorem gcdL_step (zs : List Int) (k : Nat) (h : k < zs.length) : gcdL (zs.take (k + 1)) = gcdW (gcdL (zs.take k)) (zs.getD k 0) := by
  unfold gcdL; rw [take_snoc zs k h, List.foldl_append, getD_at zs k h]; rfl
def divOK (zs : List Int) : Bool := zs.all (within (-1000000000) 1000000000)
theorem divOK_mid {zs : List Int} (h : divOK zs = true) (k : Nat) (hk : k < zs.length) : Mid (zs.getD k 0) := by
  unfold divOK at h
  rw [List.all_eq_true] at h
  have := h zs[k] (List.getElem_mem hk)
  simp only [within, Bool.and_eq_true, decide_eq_true_eq] at this
  rw [getD_at zs k hk]
  exact this
theorem gcdL_mid {zs : List Int} (h : divOK zs = true) (k : Nat) (hk : k ≤ zs.length) : Mid (gcdL (zs.take k)) := by
  induction k with
  | zero => simp [gcdL, Mid]
  | succ k ih => rw [gcdL_step zs k hk]; exact gcdW_mid _ _ (ih (by omega)) (divOK_mid h k hk)
def divAns (zs : List Int) : Option Int := if zs.length ≤ 40 ∧ divOK zs = true then some (gcdL zs) else none

set_option maxHeartbeats 1000000 in
theorem implDivisorOf_any (v : Value) (zs : List Int) (w : World) (h : Ints w v zs) :
    Calls Try.prog 40 #[v] w fun e w' => NumAns w (divAns zs) e w' := by
  obtain ⟨a, cap, rfl, hl, hc⟩ := id h
  have H := hid h
  have HC := hid hc
  clear h hc
  by_cases h40 : (40 : Int) < (zs.length : Int)
  · have HA := hid (show divAns zs = none by unfold divAns; rw [if_neg (by omega)])
    go_enter Try.func40, Try.ntmps40
    go_wp2_with fail
    go_ret2
    exact ⟨by rw [HA.out]; rfl, Later.refl _⟩
  · cases ho : divOK zs
    · have HA := hid (show divAns zs = none by unfold divAns; rw [if_neg (by rw [ho]; simp)])
      have HO := hid ho
      clear ho
      go_enter Try.func40, Try.ntmps40
      go_wp2_with fail
      refine (areWithin_as _ zs _ _ _ ⟨by omega, by omega⟩ HO.out H.out).mono ?_
      rintro e w' ⟨rfl, rfl⟩
      go_wp2_with fail
      go_ret2
      exact ⟨by rw [HA.out]; rfl, Later.refl _⟩
    · have HA := hid (show divAns zs = some (gcdL zs) by unfold divAns; rw [if_pos ⟨by omega, ho⟩])
      have HO := hid ho
      clear ho
      go_enter Try.func40, Try.ntmps40
      go_wp2_with fail
      refine (areWithin_as _ zs _ _ _ ⟨by omega, by omega⟩ HO.out H.out).mono ?_
      rintro e w' ⟨rfl, rfl⟩
      go_wp2_with fail
      go_loopw [4, 17] (fun s x wr => ∃ k : Nat, k ≤ zs.length ∧ x = .int .i64 k ∧ s = .int .i64 (gcdL (zs.take k)) ∧ Later w wr) (fun _ x _ => zs.length - (intOf x).toNat)
      case atStart => exact ⟨0, Nat.zero_le _, rfl, rfl, Later.refl w⟩
      case round =>
        obtain ⟨k, hk, rfl, rfl, hL⟩ := hrel
        by_cases hlt : k < zs.length
        · obtain ⟨ad, rfl, hcell0⟩ := HC.out k hlt
          have hcell := hL.cell hcell0
          have HS := hid (gcdL_step zs k hlt)
          have HG := hid (commonDivisor_any (gcdL (zs.take k)) (zs.getD k 0) wr (gcdL_mid HO.out k hk) (divOK_mid HO.out k hlt))
          have HL := hid hL
          clear hL hcell0
          generalize zs.getD k 0 = y at hcell HS HG
          generalize gcdL (zs.take k) = x at HS HG ⊢
          go_wp2_with fail
          refine HG.out.mono ?_
          rintro e w' ⟨rfl, hL2⟩
          have HL2 := hid (HL.out.trans hL2)
          clear hL2
          rw [← HS.out]
          go_wp2_with fail
          go_roundw
          case rel => exact ⟨k + 1, hlt, by go_num, rfl, HL2.out⟩
          case measure => simp [intOf]; omega
        · have hkn : zs.length ≤ k := by omega
          have HT := hid (take_all zs k hkn)
          have HL := hid hL
          clear hkn hL
          go_wp2_with fail
          go_ret2
          exact ⟨by rw [HA.out, HT.out]; rfl, HL.out⟩
end Go.Proofs.Ytoaopmafokoaoab
