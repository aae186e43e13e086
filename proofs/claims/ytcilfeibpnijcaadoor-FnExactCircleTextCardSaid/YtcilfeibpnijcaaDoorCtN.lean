/- The text of a number, in the model: digits. -/
import Derived.Test.YtcilfeibpnijcaaDoorCiS
import Derived.Lib.ItoaNum
import Derived.Lib.ItoaLen
import Derived.Lib.ItoaMem
import Derived.Laws.IdiomStrings
import Derived.Laws.Concat
import Derived.Deep.RegionHeld3
namespace Go.Proofs.YtcilfeibpnijcaaDoor
open Go.RowKit

theorem conv_one (w : World) (g d : Nat) (z : Int) (hz : z = 48 + d) (hd : d < 10) (hc : w.cell? ⟨g, 0, none⟩ = some (.int .u8 z)) :
    (convert 41 9 (.slice (some ⟨g, 0, none⟩) 1 1)).run Tryd.prog w = .ok (.string ⟨#[UInt8.ofNat (48 + d)]⟩) w := by
  refine run_convert_bytes_back (P := Tryd.prog) w 41 9 5 ⟨g, 0, none⟩ 1 [UInt8.ofNat (48 + d)] Tryd.underlying41 Tryd.underlying5 Tryd.underlying9 fun j hj => ?_
  obtain rfl : j = 0 := by simpa using hj
  rw [show (⟨g, 0, none⟩ : Addr).add 0 = ⟨g, 0, none⟩ from rfl, hc, hz]
  have : (UInt8.ofNat (48 + d)).toNat = 48 + d := by rw [UInt8.toNat_ofNat']; omega
  rw [List.getElem_cons_zero, this]
  rfl
theorem cellDB {w w' : World} {v : Value} {t : TypeId} (k : Later (w.alloc (.cells #[v] t)).drew w') : w'.cell? ⟨w.heap.size, 0, none⟩ = some v := k.cell (by simp [go_sem])
theorem cellDA {w w' : World} {v : Value} {t : TypeId} (k : Later (w.drew.alloc (.cells #[v] t)) w') : w'.cell? ⟨w.heap.size, 0, none⟩ = some v := k.cell (by simp [go_sem])
set_option maxRecDepth 20000 in
set_option maxHeartbeats 1000000 in
theorem l1Num_one (n : Nat) (hn : n < 10) (w : World) :
    Calls Tryd.prog 18 #[.int .i64 n] w fun e w' => e = .returned (.string ⟨(Lib.decDigits n).toArray⟩) ∧ Later w w' := by
  have hlt : (n : Int) < 10 := by omega
  have HL := hid (Later.alloc w (.cells #[.int .u8 (48 + n)] 5))
  have kc := conv_one (w.alloc (.cells #[.int .u8 (48 + n)] 5)) w.heap.size n (48 + n) rfl hn (by simp [go_sem])
  rw [Lib.decDigits_one hn]
  generalize UInt8.ofNat (48 + n) = b at kc ⊢
  go_enter Tryd.func18, Tryd.ntmps18
  go_wp2_with fail
  go_ret
  exact ⟨rfl, HL.out⟩
set_option maxRecDepth 20000 in
set_option maxHeartbeats 150000 in
theorem l1Num_step (n : Nat) (hn : ¬ n < 10) (hm : n ≤ 1000000000) (w : World)
    (IH : Hid (∀ w, Calls Tryd.prog 18 #[.int .i64 (n / 10 : Nat)] w fun e w' => e = .returned (.string ⟨(Lib.decDigits (n / 10)).toArray⟩) ∧ Later w w')) :
    Calls Tryd.prog 18 #[.int .i64 n] w fun e w' => e = .returned (.string ⟨(Lib.decDigits n).toArray⟩) ∧ Later w w' := by
  have hlt : ¬ (n : Int) < 10 := by omega
  obtain ⟨d, hd⟩ : ∃ d, n % 10 = d := ⟨_, rfl⟩
  obtain ⟨q, hq⟩ : ∃ q, n / 10 = q := ⟨_, rfl⟩
  have hq' : (n : Int).tdiv 10 = (q : Int) := by rw [Int.tdiv_eq_ediv_of_nonneg (by omega)]; omega
  have hr' : (n : Int).tmod 10 = (d : Int) := by rw [Int.tmod_eq_emod_of_nonneg (by omega)]; omega
  have hd10 : d < 10 := by omega
  have HD := hid (show (⟨(Lib.decDigits n).toArray⟩ : ByteArray) = ⟨(Lib.decDigits q).toArray⟩ ++ ⟨#[UInt8.ofNat (48 + d)]⟩ by
    rw [Lib.decDigits, dif_neg hn, hd, hq]
    apply ByteArray.ext
    simp)
  rw [hq] at IH
  rw [HD.out]
  have hqb : (-1 : Int) < q ∧ (q : Int) < 100000001 := by omega
  have hwq : IntKind.i64.wrap (q : Int) = q := wr64 (by omega)
  have hwd : IntKind.i64.wrap (d : Int) = d := wr64 (by omega)
  have hd' : -9223372036854775808 ≤ (48 : Int) + d ∧ (48 : Int) + d ≤ 255 := by omega
  have hwa : IntKind.i64.wrap (48 + (d : Int)) = 48 + d := wr64 (by omega)
  have hw8 : IntKind.u8.wrap (48 + (d : Int)) = 48 + d := by simp [IntKind.wrap, IntKind.signed, IntKind.bits]; omega
  clear hd hq
  have HQ : (Lib.decDigits q).length ≤ 21 := by have := Lib.itoa_length_le (q : Int) (by omega) (by omega); rwa [Lib.itoa_nonneg] at this
  generalize Lib.decDigits q = Q at HQ HD IH ⊢
  have hs1 : ¬ (9223372036854775807 < Q.length + 1) := by omega
  have hs2 : ¬ (9223372036854775806 < Q.length) := by omega
  have KC : Hid (∀ (w : World) (g : Nat), w.cell? ⟨g, 0, none⟩ = some (.int .u8 (48 + d)) → (convert 41 9 (.slice (some ⟨g, 0, none⟩) 1 1)).run Tryd.prog w = .ok (.string ⟨#[UInt8.ofNat (48 + d)]⟩) w) := hid fun w g => conv_one w g d _ rfl hd10
  generalize UInt8.ofNat (48 + d) = b at HD KC ⊢
  go_enter Tryd.func18, Tryd.ntmps18
  go_wp2_with fail
  have kc := KC.out (w.drew.alloc (.cells #[.int .u8 (48 + d)] 5)) w.heap.size (by simp [go_sem])
  have kc0 := KC.out (w.alloc (.cells #[.int .u8 (48 + d)] 5)).drew w.heap.size (by simp [go_sem])
  clear hlt hn hm
  go_region_with (first | (go_at_call 18; refine (IH.out _).mono ?_; rintro e w2 ⟨rfl, hL⟩; have kc1 := KC.out (w2.alloc (.cells #[.int .u8 (48 + d)] 5)) w2.heap.size (by simp [go_sem]); (first | (have kc2 := KC.out w2 w.heap.size (cellDA hL)) | (have kc2 := KC.out w2 w.heap.size (cellDB hL)) | skip); have HL2 := hid hL; clear hL))
  all_goals go_wp2
  · go_ret
    exact ⟨rfl, (Later.drew w).trans (HL2.out.trans (Later.alloc w2 (.cells #[.int .u8 (48 + d)] 5)))⟩
  · go_ret
    exact ⟨rfl, (Later.alloc w (.cells #[.int .u8 (48 + d)] 5)).trans ((Later.drew _).trans HL2.out)⟩
  · go_ret
    exact ⟨rfl, (Later.alloc w (.cells #[.int .u8 (48 + d)] 5)).trans ((Later.drew _).trans HL2.out)⟩
theorem l1Num_any : ∀ (m n : Nat), n ≤ m → n ≤ 1000000000 → ∀ w, Calls Tryd.prog 18 #[.int .i64 n] w fun e w' => e = .returned (.string ⟨(Lib.decDigits n).toArray⟩) ∧ Later w w'
  | 0, n, h, _, w => l1Num_one n (by omega) w
  | m + 1, n, h, hb, w => by
    by_cases hn : n < 10
    · exact l1Num_one n hn w
    · exact l1Num_step n hn hb w (hid (fun w => l1Num_any m (n / 10) (by omega) (by omega) w))
theorem itoa_at (z : Int) (h : 0 ≤ z) : Lib.itoa z = Lib.decDigits z.toNat := by
  unfold Lib.itoa
  rw [if_neg (by omega)]
theorem itoa_less (z : Int) (h : z < 0) : Lib.itoa z = 45 :: Lib.decDigits (-z).toNat := by
  unfold Lib.itoa
  rw [if_pos h]
  congr 2
  omega
theorem itoa_len (z : Int) (h : -1000000000 ≤ z ∧ z ≤ 1000000000) : (Lib.itoa z).length ≤ 21 := Lib.itoa_length_le z (by omega) (by omega)
set_option maxRecDepth 20000 in
set_option maxHeartbeats 1000000 in
theorem ciNumber_any (z : Int) (hz : -1000000000 ≤ z ∧ z ≤ 1000000000) (w : World) : Calls Tryd.prog 13 #[.int .i64 z] w fun e w' => e = .returned (.string ⟨(Lib.itoa z).toArray⟩) ∧ Later w w' := by
  by_cases h0 : z < 0
  · obtain ⟨k, hk⟩ : ∃ k : Nat, -z = k := ⟨(-z).toNat, by omega⟩
    have KN := hid (l1Num_any k k (Nat.le_refl _) (by omega))
    have hL := itoa_len z hz
    have HI := hid (show (⟨(Lib.itoa z).toArray⟩ : ByteArray) = ⟨#[45]⟩ ++ ⟨(Lib.decDigits k).toArray⟩ by
      rw [itoa_less z h0, show (-z).toNat = k by omega]
      apply ByteArray.ext
      simp)
    rw [itoa_less z h0, show (-z).toNat = k by omega, List.length_cons] at hL
    rw [HI.out]
    have hwk : IntKind.i64.wrap (k : Int) = k := wr64 (by omega)
    clear HI
    generalize Lib.decDigits k = Q at KN hL ⊢
    have hs1 : ¬ (9223372036854775807 < 1 + Q.length) := by omega
    have hs2 : ¬ (9223372036854775807 < Q.length + 1) := by omega
    go_enter Tryd.func13, Tryd.ntmps13
    go_wp2_with fail
    refine (KN.out _).mono ?_
    rintro e w2 ⟨rfl, hL2⟩
    have HL2 := hid hL2
    clear hL2
    go_wp2_with fail
    go_ret
    exact ⟨rfl, HL2.out⟩
  · obtain ⟨k, hk⟩ : ∃ k : Nat, z = k := ⟨z.toNat, by omega⟩
    subst hk
    have KN := hid (l1Num_any k k (Nat.le_refl _) (by omega))
    rw [itoa_at _ (by omega), Int.toNat_natCast]
    generalize Lib.decDigits k = Q at KN ⊢
    go_enter Tryd.func13, Tryd.ntmps13
    go_wp2_with fail
    refine (KN.out _).mono ?_
    rintro e w2 ⟨rfl, hL2⟩
    have HL2 := hid hL2
    clear hL2
    go_wp2_with fail
    go_ret
    exact ⟨rfl, HL2.out⟩
end Go.Proofs.YtcilfeibpnijcaaDoor
