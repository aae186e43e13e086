/- Lists of matrices, where every law reads them: szMatrixS; eqMatrixS at one list twice. -/
import Derived.Test.YtkpnckcfoigceaaWmI
namespace Go.Proofs.Ytkpnckcfoigceaa
open Go.RowKit

def SzIn (zss : List (List Int)) (l : Int) : Prop := (zss.length : Int) ≤ l ∧ ∀ i, i < zss.length → ((zss.getD i []).length : Int) ≤ l
theorem SzIn.mono {zss : List (List Int)} {l m : Int} (h : SzIn zss l) (k : l ≤ m) : SzIn zss m := ⟨Int.le_trans h.1 k, fun i hi => Int.le_trans (h.2 i hi) k⟩
def SzRes3 (Z : List (List (List Int))) (l : Int) (e : Ending) : Prop :=
  ∃ r : Int, e = .returned (.int .i64 r) ∧ (r = -1 ∨ (0 ≤ r ∧ r ≤ l ∧ (Z.length : Int) ≤ l ∧ ∀ i, i < Z.length → SzIn (Z.getD i []) l))

set_option maxHeartbeats 1000000 in
theorem szMatrixS_any (v : Value) (Z : List (List (List Int))) (l : Int) (w : World) (hl : 0 ≤ l ∧ l ≤ 1048576) (h : MatsR w v Z) :
    Calls Try.prog 6 #[v, .int .i64 l] w fun e w' => SzRes3 Z l e ∧ Later w w' := by
  obtain ⟨a, cap, rfl, hm, hc⟩ := h
  obtain ⟨hl0, hl1⟩ := hl
  have HC := hid hc; clear hc
  by_cases hx : (Z.length : Int) ≤ l
  · have h1 : ¬ l - (Z.length : Int) < 0 := by omega
    go_enter Try.func6, Try.ntmps6
    go_wp2_with fail
    go_loopw [1, 5] (fun x i wr => ∃ (k : Nat) (r : Int), k ≤ Z.length ∧ i = .int .i64 k ∧ x = .int .i64 r ∧ 0 ≤ r ∧ r ≤ l ∧ (∀ j, j < k → SzIn (Z.getD j []) l) ∧ Later w wr) (fun _ i _ => Z.length - (intOf i).toNat)
    case atStart => exact ⟨0, _, Nat.zero_le _, rfl, rfl, by omega, by omega, fun j hj => absurd hj (Nat.not_lt_zero j), Later.refl _⟩
    case round =>
      obtain ⟨k, r, hk, rfl, rfl, hr0, hr1, hall, hL⟩ := hrel
      have HA := hid hall
      have HLr := hid hL
      clear hall
      by_cases hlt : k < Z.length
      · have hltI : (k : Int) < (Z.length : Int) := by omega
        obtain ⟨ad, u, rfl, hcell, hu⟩ := HC.out k hlt
        replace hcell := hL.cell hcell
        have HU := hid (hu.later hL)
        have HNX := hid (fun (hp : SzIn (Z.getD k []) l) j (hj : j < k + 1) => show SzIn (Z.getD j []) l from if e : j = k then by rw [e]; exact hp else HA.out j (by omega))
        clear hL hu
        go_wp2_with fail
        refine (szMatrix_any u (Z.getD k []) r _ ⟨hr0, by omega⟩ HU.out).mono ?_
        rintro e w' ⟨⟨r', rfl, hr'⟩, hL'⟩
        have HL' := hid (HLr.out.trans hL')
        clear hL'
        rcases hr' with rfl | ⟨h2, h3, h4, h5⟩
        · go_wp2_with fail
          go_ret
          exact ⟨⟨_, rfl, .inl rfl⟩, HL'.out⟩
        · have hneg : ¬ r' < 0 := by omega
          have HS := hid (HNX.out (SzIn.mono ⟨h4, h5⟩ hr1))
          clear h4 h5
          go_wp2_with fail
          go_roundw
          case rel => exact ⟨k + 1, r', hlt, by go_num, rfl, h2, by omega, HS.out, HL'.out⟩
          case measure => simp [intOf]; omega
      · go_wp2_with fail
        go_ret
        exact ⟨⟨r, rfl, .inr ⟨hr0, hr1, hx, fun i hi => HA.out i (by omega)⟩⟩, HLr.out⟩
  · have h1 : l - (Z.length : Int) < 0 := by omega
    go_enter Try.func6, Try.ntmps6
    go_wp2_with fail
    go_ret
    exact ⟨⟨_, rfl, .inl rfl⟩, Later.refl _⟩
theorem Try.infoMat : (Try.prog.info? 27).map (fun i => (i.zero, i.size, i.bytes)) = some (some (.agg #[.slice none 0 0]), 1, 24) := by kernel_rfl

/-- The first k matrices of a list of the call's own are laid: the list's block is g, matrix i lies in the blocks from cut i to cut (i + 1). -/
def LaidMats (lo : Nat) (w : World) (g n cap k : Nat) (cut : Nat → Nat) (Z : List (List (List Int))) : Prop :=
  ∃ us : List Value, w.ownsRow lo 27 1 (.slice (some ⟨g, 0, none⟩) n cap) n us ∧ g < cut 0 ∧ (∀ i, i < k → cut i ≤ cut (i + 1)) ∧ cut k ≤ w.heap.size ∧
    ∀ i, i < k → OwnRows (cut i) (cut (i + 1)) w (us.getD i undef) (Z.getD i [])

theorem LaidMats.cut_le {lo : Nat} {w : World} {g n cap k : Nat} {cut : Nat → Nat} {Z : List (List (List Int))} (h : LaidMats lo w g n cap k cut Z) : ∀ i, i ≤ k → cut 0 ≤ cut i := by
  obtain ⟨us, _, _, hm, _⟩ := h
  intro i
  induction i with
  | zero => intro _; exact Nat.le_refl _
  | succ i ih => intro hi; exact Nat.le_trans (ih (by omega)) (hm i (by omega))
theorem LaidMats.step {lo : Nat} {w w4 : World} {g n cap k : Nat} {cut : Nat → Nat} {Z : List (List (List Int))} {v4 : Value} (h : LaidMats lo w g n cap k cut Z) (hk : k < n) (hL : Later w w4) (ho : OwnRows w.heap.size w4.heap.size w4 v4 (Z.getD k [])) :
    LaidMats lo (w4.setCell ⟨g, k, none⟩ v4) g n cap (k + 1) (fun i => if i ≤ k then cut i else w4.heap.size) Z := by
  have hcl := h.cut_le
  obtain ⟨us, how, hg, hm, hs, hr⟩ := h
  have hck := hcl k (Nat.le_refl _)
  have hsz := hL.size
  have how4 := ownsRow_keep how fun b hb => hL.block b (how.lt b hb).2
  have hl : us.length = n := by have := how.1; omega
  refine ⟨us.set k v4, (how4.stored k v4).1, ?_, ?_, ?_, ?_⟩
  · simpa using hg
  · intro i hi
    by_cases e : i = k
    · subst e
      simp only [Nat.le_refl, if_true]
      rw [if_neg (by omega)]
      omega
    · simp only []
      rw [if_pos (by omega), if_pos (by omega)]
      exact hm i (by omega)
  · simp only []
    rw [if_neg (by omega)]
    simp [World.setCell]
  · intro i hi
    by_cases e : i = k
    · subst e
      have e1 : (us.set i v4).getD i undef = v4 := by simp [List.getD_eq_getElem?_getD, hl, hk]
      rw [e1]
      simp only [Nat.le_refl, if_true]
      rw [if_neg (by omega)]
      exact (ho.setCell (a := ⟨g, i, none⟩) (by show g < w.heap.size; omega) v4).wide hs (Nat.le_refl _)
    · have e1 : (us.set k v4).getD i undef = us.getD i undef := by
        rw [List.getD_eq_getElem?_getD, List.getElem?_set_ne (by omega), ← List.getD_eq_getElem?_getD]
      rw [e1]
      simp only []
      rw [if_pos (by omega), if_pos (by omega)]
      have := hcl i (by omega)
      exact ((hr i (by omega)).later hL).setCell (a := ⟨g, k, none⟩) (by show g < cut i; omega) v4

set_option maxRecDepth 20000 in
set_option maxHeartbeats 1000000 in
theorem toMatrixS_any (v : Value) (Z : List (List (List Int))) (w : World) (hn : Z.length ≤ 1048576) (hb : ∀ i, i < Z.length → SzIn (Z.getD i []) 1048576) (h : MatsR w v Z) :
    Calls Try.prog 8 #[v] w fun e w' => ∃ g cap cut, e = .returned (.slice (some ⟨g, 0, none⟩) Z.length cap) ∧ w.heap.size ≤ g ∧ LaidMats w.heap.size w' g Z.length cap Z.length cut Z ∧ Later w w' := by
  obtain ⟨a, cap, rfl, hl, hc⟩ := h
  have HC := hid hc; clear hc
  have HBB := hid hb; clear hb
  obtain ⟨i0, hi, hz0, hz1, hz2⟩ := info_parts Try.infoMat
  have HB := hid hz2
  go_enter Try.func8, Try.ntmps8
  go_wp2_with (at_make; refine wpList_make_full _ rfl _ _ 30 rfl w.heap.size 27 i0 (.agg #[.slice none 0 0]) 1 Try.underlying30 hi hz0 hz1 _ _ _ _ Z.length rfl rfl rfl rfl ?b2 ?b3 ?b4 ?_)
  case b2 => rw [HB.out]; omega
  case b3 => unfold maxLen; omega
  case b4 => exact Nat.le_refl _
  intro w1 hown hgrow
  have hL : Later w w1 := (Below.refl _ _).grown hgrow (Nat.le_refl _) (by simp)
  have hF : LaidMats w.heap.size w1 w.heap.size Z.length Z.length 0 (fun _ => w1.heap.size) Z :=
    ⟨_, hown, (hown.lt w.heap.size (by simp [Value.ownBlock])).2, fun i hi => absurd hi (Nat.not_lt_zero i), Nat.le_refl _, fun i hi => absurd hi (Nat.not_lt_zero i)⟩
  have HF := hid hF
  have HL := hid hL
  clear hown hgrow hL hF
  go_wp2_with fail
  go_loopw [4] (fun i wr => ∃ (k : Nat) (cut : Nat → Nat), k ≤ Z.length ∧ i = .int .i64 k ∧ LaidMats w.heap.size wr w.heap.size Z.length Z.length k cut Z ∧ Later w wr) (fun i _ => Z.length - (intOf i).toNat)
  case atStart => exact ⟨0, _, Nat.zero_le _, rfl, HF.out, HL.out⟩
  case round =>
    clear HF HL
    obtain ⟨k, cut, hk, rfl, hF, hL⟩ := hrel
    have HF := hid hF
    have HLr := hid hL
    by_cases hlt : k < Z.length
    · have hltI : (k : Int) < (Z.length : Int) := by omega
      obtain ⟨ad, u, rfl, hcell, hu⟩ := HC.out k hlt
      replace hcell := hL.cell hcell
      have HU := hid (hu.later hL)
      obtain ⟨hb1, hb2⟩ := HBB.out k hlt
      have HN1 := hid (show (Z.getD k []).length ≤ 1048576 by omega)
      have HN2 := hid (fun i hi => show ((Z.getD k []).getD i []).length ≤ 1048576 by have := hb2 i hi; omega)
      clear hb1 hb2 hF hL hu
      go_wp2_with fail
      refine (toMatrix_any u (Z.getD k []) _ HN1.out HN2.out HU.out).mono ?_
      rintro e w4 ⟨v4, rfl, ho4, hL4⟩
      obtain ⟨us, how, hg, hm, hs, hr⟩ := HF.out
      have how4 := ownsRow_keep how fun b hb => hL4.block b (how.lt b hb).2
      have hfr := how4.frozenAt k
      obtain ⟨x0, hu0⟩ : ∃ x0, w4.cell? ⟨w.heap.size, k, none⟩ = some x0 := by have := how4.cellAt k (by omega); rw [this]; have h9 := how4.1; rw [List.getElem?_eq_getElem (by omega)]; exact ⟨_, rfl⟩
      have hST := HF.out.step hlt hL4 ho4
      have hL5 : Later w (w4.setCell ⟨w.heap.size, k, none⟩ v4) := Below.setCell (HLr.out.trans hL4) (Nat.le_refl _) _
      have HST := hid hST
      have HL5 := hid hL5
      obtain ⟨a4, c4, rfl, _⟩ := ho4.shape
      obtain ⟨n4, hn4⟩ : ∃ n4, (Z.getD k []).length = n4 := ⟨_, rfl⟩
      rw [hn4] at HST HL5 ⊢
      clear hn4 hST hL5 how how4 hg hm hs hr ho4 hL4
      go_wp2_with fail
      go_roundw
      case rel => exact ⟨k + 1, _, hlt, by go_num, HST.out, HL5.out⟩
      case measure => simp [intOf]; omega
    · have hke : k = Z.length := by omega
      subst hke
      go_wp2_with fail
      go_ret
      exact ⟨_, _, cut, rfl, Nat.le_refl _, HF.out, HLr.out⟩
end Go.Proofs.Ytkpnckcfoigceaa
