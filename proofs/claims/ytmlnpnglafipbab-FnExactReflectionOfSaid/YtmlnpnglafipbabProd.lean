/- Contracts of ApplyMatrix, ProductAt, FormAt. -/
import Derived.Test.YtmlnpnglafipbabApply
namespace Go.Proofs.Ytmlnpnglafipbab
open Go.RowKit

theorem vecOK_len {n : Nat} {zs : List Int} (h : vecOK n zs = true) : zs.length = n := by
  simp only [vecOK, Bool.and_eq_true, decide_eq_true_eq] at h; exact h.1
theorem vecOK_no {n : Nat} {zs : List Int} (h : zs.length ≠ n) : vecOK n zs = false := by simp [vecOK, h]
theorem vecOK_eq {n : Nat} {zs : List Int} (h : zs.length = n) : vecOK n zs = zs.all (within (-1000000) 1000000) := by simp [vecOK, h]

theorem isVector_any (v : Value) (zs : List Int) (n : Nat) (w : World) (_hn : n ≤ 1048576) (h : Ints w v zs) :
    Calls Try.prog 133 #[v, .int .i64 n] w fun e w' => e = .returned (.bool (vecOK n zs)) ∧ w = w' := by
  have H := hid h
  obtain ⟨a, cap, rfl, hl, _⟩ := h
  by_cases hz : zs.length = n
  · have hb : ((zs.length : Int) == (n : Int)) = true := by simp [hz]
    have HZ := hid hz
    clear hz
    go_enter Try.func133, Try.ntmps133
    go_wp2_with fail
    refine (areWithin_any _ zs 1000000 _ ⟨by omega, by omega⟩ H.out).mono ?_
    rintro e w' ⟨rfl, rfl⟩
    go_wp2_with fail
    go_ret
    exact ⟨ret_bool (vecOK_eq HZ.out).symm, rfl⟩
  · have hb : ((zs.length : Int) == (n : Int)) = false := by simp; omega
    have HZ := hid hz
    clear hz
    go_enter Try.func133, Try.ntmps133
    go_wp2_with fail
    go_ret
    exact ⟨ret_bool (vecOK_no HZ.out).symm, rfl⟩

def matVec (m : List (List Int)) (zs : List Int) : Bool := goodM 1000000 m && vecOK m.length zs
set_option maxHeartbeats 400000 in
theorem foVector_any (u v : Value) (m : List (List Int)) (zs : List Int) (w : World) (hu : Rows2 w u m) (hv : Ints w v zs) :
    Calls Try.prog 75 #[.agg #[u], v] w fun e w' => e = .returned (.bool (matVec m zs)) ∧ Later w w' := by
  obtain ⟨a, cap, rfl, hl, _⟩ := id hu
  obtain ⟨vz, capz, rfl, hlz, _⟩ := id hv
  have hb0 : (w.alloc (.cells #[Value.slice a m.length cap] 42)).cell? ⟨w.heap.size, 0, none⟩ = some (.slice a m.length cap) := by simp [go_sem]
  have HU := hid (hu.later (Later.alloc w (.cells #[Value.slice a m.length cap] 42)))
  have HV := hid (hv.later (Later.alloc w (.cells #[Value.slice a m.length cap] 42)))
  have HL := hid (Later.alloc w (.cells #[Value.slice a m.length cap] 42))
  clear hu hv
  go_enter Try.func75, Try.ntmps75
  go_wp2_with fail
  generalize w.alloc (.cells #[Value.slice a m.length cap] 42) = w1 at hb0 HU HV HL ⊢
  refine (foGood_any _ m _ HU.out).mono ?_
  rintro e w2 ⟨rfl, hL⟩
  have hb2 := hL.cell hb0
  have HV2 := hid (HV.out.later hL)
  have HL2 := hid (HL.out.trans hL)
  clear hL hb0
  cases hg : goodM 1000000 m
  · have HG := hid (show matVec m zs = false by unfold matVec; rw [hg]; rfl); clear hg
    go_wp2_with fail
    go_ret
    exact ⟨ret_bool HG.out.symm, HL2.out⟩
  · have HG := hid (show matVec m zs = vecOK m.length zs by unfold matVec; rw [hg]; rfl); clear hg
    by_cases hz : zs.length = m.length
    · have hb : ((zs.length : Int) == (m.length : Int)) = true := by simp [hz]
      have HZ := hid hz
      clear hz
      go_wp2_with fail
      refine (l1All_any _ zs (-1000000) 1000000 _ HV2.out).mono ?_
      rintro e w' ⟨rfl, rfl⟩
      go_wp2_with fail
      go_ret
      exact ⟨ret_bool (by rw [HG.out, vecOK_eq HZ.out]), HL2.out⟩
    · have hb : ((zs.length : Int) == (m.length : Int)) = false := by simp; omega
      have HZ := hid hz
      clear hz
      go_wp2_with fail
      go_ret
      exact ⟨ret_bool (by rw [HG.out, vecOK_no HZ.out]), HL2.out⟩

def applyAns (m : List (List Int)) (zs : List Int) : Option (List Int) := if matVec m zs && (applyW m zs).all (within (-1000000) 1000000) then some (applyW m zs) else none

end Go.Proofs.Ytmlnpnglafipbab
