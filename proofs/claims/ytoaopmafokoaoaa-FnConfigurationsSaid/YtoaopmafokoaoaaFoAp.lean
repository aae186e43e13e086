/- Form, Apply: in one text. -/
import Derived.Test.YtoaopmafokoaoaaSqTr
import Derived.Deep.RegionHeld3
import Derived.Deep.RegionWith
import Derived.Deep.AppendLies
namespace Go.Proofs.Ytoaopmafokoaoaa
open Go.RowKit


theorem within_mono {M M' : Int} (h : M ≤ M') (z : Int) (hz : within (-M) M z = true) : within (-M') M' z = true := by
  simp only [within, Bool.and_eq_true, decide_eq_true_eq] at hz ⊢; omega
theorem goodM_mono {M M' : Int} (h : M ≤ M') {m : List (List Int)} (hg : goodM M m = true) : goodM M' m = true := by
  have hq := goodM_sq hg
  rw [goodM_eq _ _ ⟨hq.1, hq.2.1⟩, List.all_eq_true] at hg ⊢
  intro r hr
  have := hg r hr
  simp only [rowGood, Bool.and_eq_true, decide_eq_true_eq, List.all_eq_true] at this ⊢
  exact ⟨this.1, fun z hz => within_mono h z (this.2 z hz)⟩

def formW (m : List (List Int)) : Bool := goodM 1000 m && symW m
theorem symW_len (m : List (List Int)) : m.length = (transM m.length m).length := by simp [transM, mk]

def symAns (m : List (List Int)) : Option Bool := whenGood 1000000 m (symW m)

def dotW (a b : List Int) : Int := wsum (fun i => wrap64 (a.getD i 0 * b.getD i 0)) a.length
def applyW (m : List (List Int)) (zs : List Int) : List Int := m.map fun r => dotW r zs
def vecOK (n : Nat) (zs : List Int) : Bool := decide (zs.length = n) && zs.all (within (-1000000) 1000000)

theorem dotEntry_any (zs : List Int) (b : Nat) (u : Value) (i : Nat) (x : Int) (w : World) (hi : i < zs.length) (hb : w.cell? ⟨b, 0, none⟩ = some u) (h : Ints w u zs) :
    Calls Try.prog 148 #[.int .i64 i, .int .i64 x, .pointer (some ⟨b, 0, none⟩)] w fun e w' => e = .returned (.int .i64 (wrap64 (x * zs.getD i 0))) ∧ w = w' := by
  obtain ⟨a, cap, rfl, hl, hc⟩ := h
  obtain ⟨ad, rfl, hx⟩ := hc i hi
  have hi2 : (i : Int) < (zs.length : Int) := by omega
  generalize zs.getD i 0 = y at hx ⊢
  clear hc
  go_enter Try.func148, Try.ntmps148
  go_wp2_with fail
  go_ret
  exact ⟨rfl, rfl⟩

set_option maxHeartbeats 400000 in
theorem dot_any (u v : Value) (xs ys : List Int) (w : World) (hl : xs.length ≤ ys.length) (hu : Ints w u xs) (hv : Ints w v ys) :
    Calls Try.prog 128 #[u, v] w fun e w' => e = .returned (.int .i64 (dotW xs ys)) ∧ Later w w' := by
  obtain ⟨b, cap2, rfl, _⟩ := id hv
  have hb : (w.alloc (.cells #[Value.slice b ys.length cap2] 24)).cell? ⟨w.heap.size, 0, none⟩ = some (.slice b ys.length cap2) := by simp [go_sem]
  have HB := hid hb
  have HU := hid (hu.later (Later.alloc w (.cells #[Value.slice b ys.length cap2] 24)))
  have HV := hid (hv.later (Later.alloc w (.cells #[Value.slice b ys.length cap2] 24)))
  have HL := hid (Later.alloc w (.cells #[Value.slice b ys.length cap2] 24))
  clear hu hv hb
  go_enter Try.func128, Try.ntmps128
  go_wp2_with fail
  refine (sumOver_any u xs 148 #[.pointer (some ⟨w.heap.size, 0, none⟩)] (fun i => wrap64 (xs.getD i 0 * ys.getD i 0)) _ Try.call148 HU.out (fun i w1 hi hL => (dotEntry_any ys w.heap.size _ i (xs.getD i 0) w1 (by omega) (hL.cell HB.out) (HV.out.later hL)).mono fun e w2 ⟨he, hw⟩ => ⟨he, by subst hw; exact Later.refl _⟩)).mono ?_
  rintro e w1 ⟨rfl, hL⟩
  have HL2 := hid (HL.out.trans hL)
  clear hL
  go_wp2_with fail
  go_ret
  exact ⟨rfl, HL2.out⟩

theorem OwnInts.pushed {lo : Nat} {w1 : World} {v' : Value} {L : List Int} {x : Int} (ho1 : w1.ownsRow lo 3 1 v' (L.length + 1) (L.map (Value.int .i64) ++ [.int .i64 x])) : OwnInts lo w1.heap.size w1 v' (L ++ [x]) :=
  ⟨by simpa using ho1, fun b hb => (ho1.lt b hb).2⟩
theorem OwnInts.empty (lo hi : Nat) (w : World) : OwnInts lo hi w (.slice none 0 0) [] := ⟨World.ownsRow_nil _ _ _ _, fun b hb => by simp [Value.ownBlock] at hb⟩

end Go.Proofs.Ytoaopmafokoaoaa
