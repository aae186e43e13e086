/- ReflectionOf, the program's: the function value that makes an entry. -/
import Derived.Test.YtmlnpnglafipbabKeep
import Derived.Test.YtmlnpnglafipbabProd2
import Derived.Deep.DeepCutAuto
namespace Go.Proofs.Ytmlnpnglafipbab
open Go.RowKit

def takenAt (x p : Int) : Int := wrap64 (wrap64 (2 * x) * p)
def wholeAt (q x p : Int) : Bool := (takenAt x p).tmod q == 0
def reflAt (q x p : Int) (i j : Nat) : Int := wrap64 (eqI i j - wrap64 ((takenAt x p).tdiv q))
theorem takenAt_swap (x p : Int) : takenAt x p = takenAt p x := by
  obtain ⟨s, hs⟩ := wrap_ex (2 * x)
  obtain ⟨t, ht⟩ := wrap_ex (2 * p)
  unfold takenAt
  rw [hs, ht, show (2 * x + 18446744073709551616 * s) * p = 2 * x * p + 18446744073709551616 * (s * p) by grind, show (2 * p + 18446744073709551616 * t) * x = 2 * x * p + 18446744073709551616 * (t * x) by grind, wrap_add, wrap_add]

set_option maxRecDepth 20000 in
set_option maxHeartbeats 2000000 in
theorem reflEntry_any (n : Nat) (zs ps : List Int) (hz : zs.length = n) (hp : ps.length = n) (bv bp ba bq : Nat) (v u : Value) (q : Int) (hq : q ≠ 0) (b : Bool) (i j : Nat) (w : World) (hi : i < n) (hj : j < n)
    (hbv : w.cell? ⟨bv, 0, none⟩ = some v) (hbp : w.cell? ⟨bp, 0, none⟩ = some u) (hba : w.cell? ⟨ba, 0, none⟩ = some (.bool b)) (hfa : w.frozen? ⟨ba, 0, none⟩ = false) (hbq : w.cell? ⟨bq, 0, none⟩ = some (.int .i64 q)) (hqa : bq ≠ ba)
    (h : Ints w v zs) (h2 : Ints w u ps) :
    Calls Try.prog 83 #[.int .i64 i, .int .i64 j, .pointer (some ⟨bv, 0, none⟩), .pointer (some ⟨bp, 0, none⟩), .pointer (some ⟨ba, 0, none⟩), .pointer (some ⟨bq, 0, none⟩)] w fun e w' =>
      e = .returned (.int .i64 (reflAt q (zs.getD i 0) (ps.getD j 0) i j)) ∧ ∃ k l, w' = ((w.drewN k).setCell ⟨ba, 0, none⟩ (.bool (b && wholeAt q (zs.getD i 0) (ps.getD j 0)))).drewN l := by
  obtain ⟨a, cap, rfl, hl, hc⟩ := h
  obtain ⟨a2, cap2, rfl, hl2, hc2⟩ := h2
  obtain ⟨ad, rfl, c0⟩ := hc i (by omega)
  obtain ⟨ad2, rfl, c1⟩ := hc2 j (by omega)
  have HR := hid (show reflAt q (zs.getD i 0) (ps.getD j 0) i j = wrap64 (eqI i j - wrap64 ((takenAt (zs.getD i 0) (ps.getD j 0)).tdiv q)) from rfl)
  have HWH := hid (show wholeAt q (zs.getD i 0) (ps.getD j 0) = ((takenAt (zs.getD i 0) (ps.getD j 0)).tmod q == 0) from rfl)
  have ht : takenAt (zs.getD i 0) (ps.getD j 0) = wrap64 (wrap64 (2 * zs.getD i 0) * ps.getD j 0) := rfl
  obtain ⟨x, hx⟩ : ∃ x, zs.getD i 0 = x := ⟨_, rfl⟩
  obtain ⟨p, hpp⟩ : ∃ p, ps.getD j 0 = p := ⟨_, rfl⟩
  rw [hx] at c0 HR HWH ht ⊢
  rw [hpp] at c1 HR HWH ht ⊢
  obtain ⟨t, htt⟩ : ∃ t, takenAt x p = t := ⟨_, rfl⟩
  rw [htt] at HR HWH ht
  have hi1 : (i : Int) < (zs.length : Int) := by omega
  have hj1 : (j : Int) < (ps.length : Int) := by omega
  have htr : wrap64 (wrap64 (2 * x) * p) = t := ht.symm
  have z0 : ¬ q = 0 := hq
  obtain ⟨r, hr⟩ : ∃ r, t.tmod q = r := ⟨_, rfl⟩
  obtain ⟨d, hd⟩ : ∃ d, t.tdiv q = d := ⟨_, rfl⟩
  rw [hr] at HWH
  rw [hd] at HR
  obtain ⟨e, he⟩ : ∃ e, eqI i j = e := ⟨_, rfl⟩
  have HU := hid (fun w => unitEntry_any i j w)
  rw [he] at HR HU
  clear hc hc2 hx hpp htt ht he
  cases b
  · have HS := hid (show (false && wholeAt q x p) = false from rfl)
    go_enter Try.func83, Try.ntmps83
    go_wp2_with fail
    go_quiet (fail)
    go_upto_region 3 with fail
    have hbq' : ((w.drewN nq).setCell ⟨ba, 0, none⟩ (.bool false)).cell? ⟨bq, 0, none⟩ = some (.int .i64 q) := (World.cell?_setCell_other _ _ _ _ (by intro e; exact hqa (congrArg Addr.block e).symm)).trans ((Later.drewN w nq).cell hbq)
    have HW := hid (show (w.drewN nq).setCell ⟨ba, 0, none⟩ (.bool false) = (w.drewN nq).setCell ⟨ba, 0, none⟩ (.bool (false && wholeAt q x p)) by rw [HS.out])
    generalize (w.drewN nq).setCell ⟨ba, 0, none⟩ (.bool false) = w2 at hbq' HW ⊢
    clear c0 c1 hbv hbp hba hfa hbq
    go_quiet (first | (go_at_call 84; exact Calls.quiet_of_same ((HU.out _).mono fun _ _ h => ⟨h.1, h.2.symm⟩)))
    go_wp2_with fail
    go_ret
    rw [HW.out]
    exact ⟨ret_int HR.out.symm, _, _, rfl⟩
  · have HS := hid (show (true && wholeAt q x p) = (r == 0) by rw [HWH.out]; rfl)
    go_enter Try.func83, Try.ntmps83
    go_wp2_with fail
    go_quiet (fail)
    replace hbq := (Later.drewN w nq).cell hbq
    replace hba := (Later.drewN w nq).cell hba
    go_upto_region 3 with fail
    have hbq' : ((w.drewN nq).setCell ⟨ba, 0, none⟩ (.bool (r == 0))).cell? ⟨bq, 0, none⟩ = some (.int .i64 q) := (World.cell?_setCell_other _ _ _ _ (by intro e; exact hqa (congrArg Addr.block e).symm)).trans hbq
    have HW := hid (show (w.drewN nq).setCell ⟨ba, 0, none⟩ (.bool (r == 0)) = (w.drewN nq).setCell ⟨ba, 0, none⟩ (.bool (true && wholeAt q x p)) by rw [HS.out])
    generalize (w.drewN nq).setCell ⟨ba, 0, none⟩ (.bool (r == 0)) = w2 at hbq' HW ⊢
    clear c0 c1 hbv hbp hba hfa hbq
    go_quiet (first | (go_at_call 84; exact Calls.quiet_of_same ((HU.out _).mono fun _ _ h => ⟨h.1, h.2.symm⟩)))
    go_wp2_with fail
    go_ret
    rw [HW.out]
    exact ⟨ret_int HR.out.symm, _, _, rfl⟩
end Go.Proofs.Ytmlnpnglafipbab
