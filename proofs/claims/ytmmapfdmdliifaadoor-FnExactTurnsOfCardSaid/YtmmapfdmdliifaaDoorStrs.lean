/- Lists of texts: what they read as, what a call made; comparison and marks of them. -/
import Derived.Test.YtmmapfdmdliifaaDoorAns4
import Derived.Laws.IdiomStrings
import Derived.WalkLawsBesides
import Derived.Lib.Strings
import Derived.Lib.Bytealg
namespace Go.Proofs.YtmmapfdmdliifaaDoor
open Go.RowKit

def strV (l : List UInt8) : Value := .string ⟨l.toArray⟩
/-- A slice value that reads as a list of texts. -/
def Strs (w : World) (v : Value) (L : List (List UInt8)) : Prop :=
  ∃ a cap, v = .slice a L.length cap ∧ L.length ≤ 9223372036854775807 ∧ ∀ i, i < L.length → ∃ ad, a = some ad ∧ w.cell? (ad.add i) = some (strV (L.getD i []))
def OwnStrs (lo hi : Nat) (w : World) (v : Value) (L : List (List UInt8)) : Prop :=
  w.ownsRow lo 9 1 v L.length (L.map strV) ∧ ∀ k, v.ownBlock = some k → k < hi
def StrsAns (w : World) (o : Option (List (List UInt8))) (e : Ending) (w' : World) : Prop :=
  ∃ v, e = .returned (.tuple #[v, .bool o.isSome]) ∧ OwnStrs w.heap.size w'.heap.size w' v (o.getD []) ∧ Later w w'
theorem Strs.later {w w' : World} {v : Value} {L : List (List UInt8)} (h : Strs w v L) (k : Later w w') : Strs w' v L := by
  obtain ⟨a, cap, rfl, hl, hc⟩ := h
  refine ⟨a, cap, rfl, hl, fun i hi => ?_⟩
  obtain ⟨ad, rfl, hx⟩ := hc i hi
  exact ⟨ad, rfl, k.cell hx⟩
theorem OwnStrs.keep {w w' : World} {lo hi : Nat} {v : Value} {L : List (List UInt8)} (h : OwnStrs lo hi w v L) (k : ∀ b, lo ≤ b → b < hi → w'.heap[b]? = w.heap[b]?) : OwnStrs lo hi w' v L :=
  ⟨ownsRow_keep h.1 fun b hb => k b (h.1.lt b hb).1 (h.2 b hb), h.2⟩
theorem OwnStrs.wide {w : World} {lo hi lo' hi' : Nat} {v : Value} {L : List (List UInt8)} (h : OwnStrs lo hi w v L) (hl : lo' ≤ lo) (hh : hi ≤ hi') : OwnStrs lo' hi' w v L :=
  ⟨ownsRow_base h.1 hl, fun k hk => Nat.lt_of_lt_of_le (h.2 k hk) hh⟩
theorem OwnStrs.later {w w' : World} {lo hi : Nat} {v : Value} {L : List (List UInt8)} (h : OwnStrs lo hi w v L) (k : Later w w') : OwnStrs lo hi w' v L :=
  ⟨ownsRow_keep h.1 fun b hb => k.block b (h.1.lt b hb).2, h.2⟩
theorem OwnStrs.strs {w : World} {lo hi : Nat} {v : Value} {L : List (List UInt8)} (h : OwnStrs lo hi w v L) : Strs w v L := by
  obtain ⟨a, cap, rfl, _, hm, _, hc⟩ := ownsRow_shape h.1
  refine ⟨a, cap, rfl, hm, fun i hi => ?_⟩
  obtain ⟨g, rfl, hx⟩ := hc i hi
  refine ⟨_, rfl, ?_⟩
  rw [addr_add0, hx]
  simp [hi]
theorem OwnStrs.shape {w : World} {lo hi : Nat} {v : Value} {L : List (List UInt8)} (h : OwnStrs lo hi w v L) : ∃ a cap, v = .slice a L.length cap ∧ L.length ≤ cap := by
  obtain ⟨a, cap, rfl, h1, _⟩ := ownsRow_shape h.1
  exact ⟨a, cap, rfl, h1⟩
theorem OwnStrs.form {lo hi : Nat} {w : World} {v : Value} {L : List (List UInt8)} (h : OwnStrs lo hi w v L) : (v = .slice none 0 0 ∧ L = []) ∨ ∃ g cap, v = .slice (some ⟨g, 0, none⟩) L.length cap := by
  rcases h.1.2 with ⟨rfl, h0⟩ | ⟨g, cap, cur, rfl, _⟩
  · exact .inl ⟨rfl, List.eq_nil_of_length_eq_zero h0⟩
  · exact .inr ⟨g, cap, rfl⟩
theorem OwnStrs.blk {w : World} {lo hi b : Nat} {v : Value} {L : List (List UInt8)} (h : OwnStrs lo hi w v L) (hb : v.ownBlock = some b) : lo ≤ b ∧ b < hi := ⟨(h.1.lt b hb).1, h.2 b hb⟩
theorem OwnStrs.nil (lo hi : Nat) (w : World) : OwnStrs lo hi w (.slice none 0 0) [] := ⟨⟨rfl, .inl ⟨rfl, rfl⟩⟩, fun k hk => by simp [Value.ownBlock] at hk⟩

def eqS (xs ys : List (List UInt8)) : Bool := decide (xs = ys)
theorem eqS_self (xs : List (List UInt8)) : eqS xs xs = true := by simp [eqS]
theorem getD_str (zs : List (List UInt8)) (k : Nat) (h : k < zs.length) : zs.getD k [] = zs[k] := by simp [h]
theorem bytes_beq (x y : List UInt8) : ((⟨x.toArray⟩ : ByteArray).toList == (⟨y.toArray⟩ : ByteArray).toList) = decide (x = y) := by
  rw [Lib.toList_data, Lib.toList_data]
  by_cases h : x = y
  · subst h; simp
  · rw [decide_eq_false h, beq_eq_false_iff_ne]; exact h

set_option maxHeartbeats 800000 in
theorem eqStringS_any (u v : Value) (xs ys : List (List UInt8)) (w : World) (hx : Strs w u xs) (hy : Strs w v ys) :
    Calls Tryd.prog 25 #[u, v] w fun e w' => e = .returned (.bool (eqS xs ys)) ∧ Drew w w' := by
  obtain ⟨a, cap, rfl, hl, hc⟩ := hx
  obtain ⟨b, cap2, rfl, hl2, hc2⟩ := hy
  have HC := hid hc
  have HC2 := hid hc2; clear hc hc2
  by_cases hlen : xs.length = ys.length
  · have HL := hid hlen
    have hne : ((xs.length : Int) != (ys.length : Int)) = false := by simp [hlen]
    have hle : xs.length ≤ ys.length := by omega
    clear hlen
    go_enter Tryd.func25, Tryd.ntmps25
    go_wp2
    go_loopw [5] (fun i wr => ∃ k n : Nat, k ≤ xs.length ∧ i = .int .i64 k ∧ xs.take k = ys.take k ∧ wr = w.drewN n) (fun i _ => xs.length - (intOf i).toNat)
    case atStart => exact ⟨0, 0, Nat.zero_le _, rfl, rfl, rfl⟩
    case round =>
      obtain ⟨k, n, hk, rfl, heq, rfl⟩ := hrel
      have HE := hid heq; clear heq
      by_cases hlt : k < xs.length
      · have hlt2 : k < ys.length := by omega
        obtain ⟨ad, rfl, hcell⟩ := HC.out k hlt
        obtain ⟨ad2, rfl, hcell2⟩ := HC2.out k hlt2
        have hi1 : (k : Int) < (xs.length : Int) := by omega
        have hi2 : (k : Int) < (ys.length : Int) := by omega
        rw [getD_str xs k hlt] at hcell
        rw [getD_str ys k hlt2] at hcell2
        have hbq := bytes_beq xs[k] ys[k]
        unfold strV at hcell hcell2
        obtain ⟨p, hp⟩ : ∃ p : ByteArray, (⟨xs[k].toArray⟩ : ByteArray) = p := ⟨_, rfl⟩
        obtain ⟨q, hq⟩ : ∃ q : ByteArray, (⟨ys[k].toArray⟩ : ByteArray) = q := ⟨_, rfl⟩
        rw [hp] at hcell hbq
        rw [hq] at hcell2 hbq
        clear hp hq
        by_cases hv : xs[k] = ys[k]
        · have HV := hid hv
          have hb : (p.toList == q.toList) = true := by rw [hbq]; exact decide_eq_true hv
          clear hv hbq
          go_wp2
          go_quiet (fail)
          go_wp2
          go_roundw
          case rel => exact ⟨k + 1, n + nq, hlt, by go_num, by rw [take_snoc xs k hlt, take_snoc ys k hlt2, HE.out, HV.out], by simp⟩
          case measure => simp [intOf]; omega
        · have hb : (p.toList == q.toList) = false := by rw [hbq]; exact decide_eq_false hv
          have HN := hid hv; clear hv hbq
          go_wp2
          go_quiet (fail)
          go_wp2
          go_ret
          exact ⟨ret_bool (by symm; unfold eqS; rw [decide_eq_false_iff_not]; intro e; subst e; exact HN.out rfl), ⟨n + nq, by simp⟩⟩
      · go_wp2
        go_ret
        exact ⟨ret_bool (by symm; unfold eqS; rw [decide_eq_true_iff, ← take_all xs k (by omega), HE.out, take_all ys k (by have := HL.out; omega)]), ⟨n, rfl⟩⟩
  · have hne : ((xs.length : Int) != (ys.length : Int)) = true := by simp; omega
    go_enter Tryd.func25, Tryd.ntmps25
    go_wp2
    go_ret
    exact ⟨ret_bool (by symm; unfold eqS; rw [decide_eq_false_iff_not]; intro e; subst e; exact hlen rfl), Drew.refl w⟩

/-! ### markText -/

def digF : Nat → Nat → List UInt8 → List UInt8
  | 0, _, acc => acc
  | f + 1, k, acc => if k = 0 then acc else digF f (k / 10) (UInt8.ofNat (48 + k % 10) :: acc)
theorem digF_more : ∀ (f g k : Nat) (acc : List UInt8), k < f → k < g → digF f k acc = digF g k acc
  | 0, _, _, _, h, _ => by omega
  | _, 0, _, _, _, h => by omega
  | f + 1, g + 1, k, acc, h1, h2 => by
    unfold digF
    split
    · rfl
    · exact digF_more f g _ _ (by omega) (by omega)
def digW (k : Nat) (acc : List UInt8) : List UInt8 := digF (k + 1) k acc
theorem digW_zero (acc : List UInt8) : digW 0 acc = acc := by simp [digW, digF]
theorem digW_step (k : Nat) (acc : List UInt8) (h : k ≠ 0) : digW k acc = digW (k / 10) (UInt8.ofNat (48 + k % 10) :: acc) := by
  unfold digW
  rw [show digF (k + 1) k acc = digF k (k / 10) (UInt8.ofNat (48 + k % 10) :: acc) by rw [digF, if_neg h]]
  exact digF_more _ _ _ _ (by omega) (by omega)
def textM (k : Nat) : List UInt8 := if k = 0 then [109, 48] else 109 :: digW k []
end Go.Proofs.YtmmapfdmdliifaaDoor
