/- What is drawn for quads: lists that are mostly one. -/
import Derived.Test.YtoaopmafokoaoabCuGT
import Derived.Test.YtoaopmafokoaoabQdTUV
import Derived.Test.YtoaopmafokoaoabRowsKI
namespace Go.Proofs.Ytoaopmafokoaoab
open Go.RowKit

/-- literal rows, laid one after the other -/
def layL (w : World) : List (List Int) → World
  | [] => w
  | l :: L => layL (w.alloc (.cells (l.map (Value.int .i64)).toArray 3)) L
theorem layL_later : ∀ (L : List (List Int)) (w : World), Later w (layL w L) := by
  intro L
  induction L with
  | nil => intro w; exact Later.refl w
  | cons l L ih => intro w; exact (Later.alloc w _).trans (ih _)
theorem layL_size : ∀ (L : List (List Int)) (w : World), (layL w L).heap.size = w.heap.size + L.length := by
  intro L
  induction L with
  | nil => intro w; rfl
  | cons l L ih =>
    intro w
    show (layL (w.alloc _) L).heap.size = _
    rw [ih]
    simp
    omega
theorem layL_own : ∀ (L : List (List Int)) (w : World) (lo : Nat), lo ≤ w.heap.size → (∀ l ∈ L, l.length ≤ 1000) → ∀ i, i < L.length →
    OwnInts lo (layL w L).heap.size (layL w L) (.slice (some ⟨w.heap.size + i, 0, none⟩) (L.getD i []).length (L.getD i []).length) (L.getD i []) := by
  intro L
  induction L with
  | nil => intro w lo _ _ i hi; simp at hi
  | cons l L ih =>
    intro w lo hlo hl i hi
    have hk := layL_later L (w.alloc (.cells (l.map (Value.int .i64)).toArray 3))
    cases i with
    | zero => exact ((ownInts_litG w lo hlo l (hl l (by simp))).later hk).wide (Nat.le_refl _) hk.size
    | succ i =>
      have h := ih (w.alloc (.cells (l.map (Value.int .i64)).toArray 3)) lo (by simp; omega) (fun x hx => hl x (by simp [hx])) i (by simpa using hi)
      rw [show (w.alloc (.cells (l.map (Value.int .i64)).toArray 3)).heap.size + i = w.heap.size + (i + 1) by simp; omega] at h
      exact h
def rowVals (g r n : Nat) : List Value := (List.range n).map fun j => .slice (some ⟨g + j, 0, none⟩) r r
theorem litRows_pick {w w' : World} {B r : Nat} {L : List (List Int)} (hr : ∀ l ∈ L, l.length = r) (hr1 : r ≤ 1000) (hB : B < w.heap.size)
    (hG : ((layL w L).alloc (.cells (rowVals w.heap.size r L.length).toArray 24)).grownBy w' (some B)) {i : Nat} (hi : i < L.length) :
    w'.cell? ⟨w.heap.size + L.length, i, none⟩ = some (.slice (some ⟨w.heap.size + i, 0, none⟩) r r) ∧ OwnInts (B + 1) w'.heap.size w' (.slice (some ⟨w.heap.size + i, 0, none⟩) r r) (L.getD i []) := by
  have hsz := layL_size L w
  have hA := Later.alloc (layL w L) (.cells (rowVals w.heap.size r L.length).toArray 24)
  have hri : (L.getD i []).length = r := hr _ (by rw [List.getD_eq_getElem?_getD, List.getElem?_eq_getElem hi, Option.getD_some]; exact List.getElem_mem _)
  constructor
  · have hc : ((layL w L).alloc (.cells (rowVals w.heap.size r L.length).toArray 24)).cell? ⟨w.heap.size + L.length, i, none⟩ = some (.slice (some ⟨w.heap.size + i, 0, none⟩) r r) := by
      rw [← hsz]
      simp [go_sem, rowVals, hi]
    exact cell_keep hc (hG.block (w.heap.size + L.length) (by simp [hsz]) (fun e => by simp only [Option.some.injEq] at e; omega))
  · have h := (layL_own L w (B + 1) hB (fun l hl => by rw [hr l hl]; exact hr1) i hi).later hA
    rw [hri] at h
    exact (h.wide (Nat.le_refl _) hA.size).keepG (Nat.lt_succ_self B) hG

def quadsD : List (List Int) := [[-1, 2, 2, 3], [-2, 3, 6, 7], [-3, 4, 12, 13], [-3, 5, 8, 8], [-6, 11, 14, 15], [0, 0, 1, 1], [0, 1, 1, 4], [-2, 4, 4, 6]]
def quadsE : List (List Int) := [[0, 0, 0, 0], [1, -2, -2, -3], [-9223372036854775808, 0, 1, 1], [0, 0, 100000, 100000]]
theorem quadsD_good : ∀ i, i < 8 → apB (quadsD.getD i []) = true := by decide
set_option maxRecDepth 20000 in
set_option maxHeartbeats 8000000 in
theorem curQuad_any (base w : World) (B : Nat) (v : Value) (bs : List Int) (m : Nat) (hm : m ≤ 1000) (h : Cur base w B v bs m) :
    Calls Try.prog 63 #[.pointer (some ⟨B, 0, none⟩)] w fun e w' => CurListM base B v bs (m + 200) e w' := by
  have HB0 := hid h.ltG
  have H := hid h
  have HM := hid hm
  clear h hm
  go_enter Try.func63, Try.ntmps63
  go_wp2_with fail
  have HC9 := hid (H.out.keep ((layL_later quadsD w).trans (Later.alloc _ (.cells (rowVals w.heap.size 4 8).toArray 24))))
  refine (curPick_any base ((layL w quadsD).alloc (.cells (rowVals w.heap.size 4 8).toArray 24)) B v bs m 8 (by have := HM.out; omega) (by omega) HC9.out).mono ?_
  rintro e w1 ⟨q, rfl, q0, q1, hC, hG⟩
  obtain ⟨i, rfl⟩ : ∃ i : Nat, q = (i : Int) := ⟨q.toNat, by omega⟩
  have hi8 : i < 8 := by simp at q1; omega
  obtain ⟨hc1, ho1⟩ := litRows_pick (L := quadsD) (r := 4) (by decide) (by omega) HB0.out hG hi8
  obtain ⟨Z, hZ⟩ : ∃ Z, quadsD.getD i [] = Z := ⟨_, rfl⟩
  have hgZ := quadsD_good i hi8
  rw [hZ] at ho1 hgZ
  have HZ := hid hgZ
  have HC1 := hid hC
  have hi0 : (0 : Int) ≤ (i : Int) := by omega
  have hiI : (i : Int) < 8 := by omega
  have HW := hid (l1OwnH_any ⟨w.heap.size + i, 0, none⟩ 4 4 Z w1 (apB_hlen hgZ) (by omega) ho1.ints)
  have hc1' : w1.cell? ⟨w.heap.size + 8, i, none⟩ = some (.slice (some ⟨w.heap.size + i, 0, none⟩) 4 4) := hc1
  clear hC hG q0 q1 hc1 ho1 hZ hgZ HC9 H
  go_wp2_with fail
  refine HW.out.mono ?_
  rintro e w2 ⟨vt, rfl, ho, hL2⟩
  have HB2 := hid HC1.out.ltG
  have HO2 := hid (show OwnInts (B + 1) w2.heap.size w2 vt Z from ho.wide HB2.out (Nat.le_refl _))
  have HC2 := hid (HC1.out.keep hL2)
  clear ho hL2 HW HC1 hc1'
  go_wp2_with fail
  refine (curLitG_any base w2 B v bs _ [0, 1, 2, 3, 5, 7] (by have := HM.out; omega) (by simp) (by simp) HC2.out).mono ?_
  rintro e w3 ⟨n, rfl, hn, hC, hG⟩
  have HC3 := hid hC
  have HO3 := hid (HO2.out.keepG (Nat.lt_succ_self B) hG)
  have n1 : 0 ≤ n ∧ n ≤ 7 := by simp at hn; omega
  clear hn hC hG HC2 HO2
  go_wp2_with fail
  go_loopw [3, 4] (fun st sk wr => ∃ (z : List Int) (j : Nat), sk = .int .i64 j ∧ j ≤ 7 ∧ OwnInts (B + 1) wr.heap.size wr st z ∧ apB z = true ∧ Cur base wr B v bs (m + 40 - 2 * j)) (fun _ sk _ => (intOf sk).toNat)
  case atStart => exact ⟨Z, n.toNat, by rw [Int.toNat_of_nonneg n1.1], by omega, HO3.out, HZ.out, HC3.out.mono (by omega)⟩
  case round =>
    obtain ⟨z, j, rfl, hj, hO, hT, hC⟩ := hrel
    have HT := hid hT
    have HC := hid hC
    have HB := hid hC.ltG
    have hl4 := apB_hlen hT
    obtain ⟨a0, cap0, e0, hcap, _, _, hsh⟩ := ownsRow_shape hO.1
    obtain ⟨g, rfl, _⟩ := hsh 0 (by omega)
    subst e0
    rw [hl4] at hO hcap ⊢
    have HO := hid hO
    clear hT hC hO hsh
    cases j with
    | succ j =>
      have HJ := hid hj
      have hjw := wrapQ (q := (j : Int)) (by omega)
      clear hj hcap
      go_wp2_with fail
      refine (curPick_any base wr B v bs _ 4 (by have := HM.out; omega) (by omega) HC.out).mono ?_
      rintro e w4 ⟨q, rfl, q0, q1, hC, hG⟩
      obtain ⟨i, rfl⟩ : ∃ i : Nat, q = (i : Int) := ⟨q.toNat, by omega⟩
      have hi4 : i < 4 := by simp at q1; omega
      have HC4 := hid hC
      have HO4 := hid (HO.out.keepG (Nat.lt_succ_self B) hG)
      have HB4 := hid hC.ltG
      clear hC hG q0 q1 HC HO
      go_wp2_with fail
      refine (apSwap_zs _ z i w4 hi4 HT.out HO4.out.ints).mono ?_
      rintro e w5 ⟨v5, rfl, ho5, hL5⟩
      have HO5 := hid (show OwnInts (B + 1) w5.heap.size w5 v5 (swL z i) from ho5.wide HB4.out (Nat.le_refl _))
      have HO45 := hid ((HO4.out.later hL5).wide (Nat.le_refl _) hL5.size)
      have HC5 := hid (HC4.out.keep hL5)
      clear ho5 hL5 HC4 HO4
      obtain ⟨b, hb⟩ : ∃ b, apB (swL z i) = b := ⟨_, rfl⟩
      have HBb := hid hb
      have HG := hid (apGood_as v5 _ b w5 hb HO5.out.ints)
      clear hb
      cases b
      · go_wp2_with fail
        refine HG.out.mono ?_
        rintro e w6 ⟨rfl, rfl⟩
        go_wp2_with fail
        go_roundw
        case rel => exact ⟨z, j, by go_num, by have := HJ.out; omega, HO45.out, HT.out, HC5.out.mono (by have := HJ.out; omega)⟩
        case measure => simp [intOf]
      · go_wp2_with fail
        refine HG.out.mono ?_
        rintro e w6 ⟨rfl, rfl⟩
        go_wp2_with fail
        go_roundw
        case rel => exact ⟨swL z i, j, by go_num, by have := HJ.out; omega, HO5.out, HBb.out, HC5.out.mono (by have := HJ.out; omega)⟩
        case measure => simp [intOf]
    | zero =>
      have HC0 := hid (HC.out.mono (show m + 40 - 2 * 0 ≤ m + 40 by omega))
      obtain ⟨Z0, Z1, Z2, Z3, hzz⟩ := len4 hl4
      rw [hzz] at HO
      clear HC hcap HT hl4 hj hzz
      go_wp2_with fail
      refine (curPick_any base wr B v bs _ 20 (by have := HM.out; omega) (by omega) HC0.out).mono ?_
      rintro e w7 ⟨c, rfl, c0, c1, hC, hG⟩
      have HC7 := hid hC
      have HO7 := hid (HO.out.keepG (Nat.lt_succ_self B) hG)
      have HB7 := hid hC.ltG
      have HT7 := hid (show TsM base B v bs (m + 70) g cap0 [Z0, Z1, Z2, Z3] w7 from ⟨HC7.out.mono (by omega), HO7.out⟩)
      clear hC hG HO HC0 HC7 HO7 c1
      by_cases e0 : c = 0
      · subst e0
        clear c0
        have LM : Hid (m + 80 ≤ 900000000) := hid (by have := HM.out; omega)
        go_wp2_with fail
        go_region_with (first
          | (go_at_call 80
             refine (pickTsM (g := g) (c := cap0) (zs := [Z0, Z1, Z2, Z3]) (m := m + 70) (by have := LM.out; omega) 4 (by omega) (by first | exact HT7.out.later (Later.drew _) | exact HT7.out.later ((Later.drew _).trans (Later.alloc _ _)) | exact HT7.out.later ((Later.alloc _ _).trans (Later.drew _)))).mono ?_
             rintro e w8 ⟨i, rfl, hi, hT8, hG8⟩
             have k8 := hT8.cell (i := i) (by simpa using hi)
             have k8a := (hT8.later (Later.alloc w8 (.cells #[.int .i64 1, .int .i64 (-1), .int .i64 2, .int .i64 100000] 3))).cell (i := i) (by simpa using hi)
             have hiI : (i : Int) < 4 := by omega
             have hi0 : (0 : Int) ≤ (i : Int) := by omega
             have HT8 := hid hT8
             have HI8 := hid hi
             have HG8 := hid hG8
             clear hT8 hG8 hi)
          | (go_at_call 64
             refine (amongTsM (g := g) (c := cap0) (zs := [Z0, Z1, Z2, Z3]) (ys := [1, -1, 2, 100000]) (m := m + 70 + 2) (by have := LM.out; omega) (by simp) (by first | exact HT8.out | exact HT8.out.later (Later.alloc _ _)) (by first | exact (LitM.new (w := w7.drew) HB7.out).grown HG8.out | exact (LitM.new (w := w7) HB7.out).grown HG8.out | exact LitM.new HT8.out.cur.ltG)).mono ?_
             rintro e w9 ⟨x, rfl, _, hT9, _⟩
             have k9 := hT9.cell (i := i) (by have := HI8.out; simpa using this)
             have f9 := hT9.frozen i
             have HT9 := hid hT9
             clear hT9))
        all_goals
          have HS := hid (fun y => storeG (k := i) (zs := [Z0, Z1, Z2, Z3]) HT9.out.cur HT9.out.own (Nat.lt_succ_self B) y)
          go_wp2_with fail
          go_ret
          exact ⟨_, [Z0, Z1, Z2, Z3].set i _, rfl, (HS.out _).2, by simp, (HS.out _).1.mono (by omega)⟩
      · have e0' : (c == 0) = false := by simp [e0]
        by_cases e1 : c = 1
        · subst e1
          clear c0 e0
          go_wp2_with (at_builtin; refine wpList_pushG (by rfl) _ _ (by rfl) (B + 1) w7 _ (.slice (some ⟨g, 0, none⟩) 4 cap0) [Z0, Z1, Z2, Z3] 0 (by rfl) HB7.out HT7.out.own (by simp) (by rfl) rfl ?_)
          intro g2 cc w8 hO8 hG8 _
          have HO8 := hid hO8
          have HC8 := hid (HT7.out.cur.besideG (Nat.lt_succ_self B) HT7.out.own.ownG hG8)
          clear hO8 hG8
          go_wp2_with fail
          go_ret
          exact ⟨_, [Z0, Z1, Z2, Z3, 0], rfl, HO8.out, by simp, HC8.out.mono (by omega)⟩
        · have e1' : (c == 1) = false := by simp [e1]
          by_cases e2 : c = 2
          · subst e2
            clear c0 e0 e1
            have HC9 := hid (HT7.out.cur.keep ((layL_later quadsE w7).trans (Later.alloc _ (.cells (rowVals w7.heap.size 4 4).toArray 24))))
            go_wp2_with fail
            refine (curPick_any base ((layL w7 quadsE).alloc (.cells (rowVals w7.heap.size 4 4).toArray 24)) B v bs _ 4 (by have := HM.out; omega) (by omega) HC9.out).mono ?_
            rintro e w8 ⟨q, rfl, q0, q1, hC, hG⟩
            obtain ⟨i, rfl⟩ : ∃ i : Nat, q = (i : Int) := ⟨q.toNat, by omega⟩
            have hi4 : i < 4 := by simp at q1; omega
            obtain ⟨hc1, ho1⟩ := litRows_pick (L := quadsE) (r := 4) (by decide) (by omega) HB7.out hG hi4
            have hi0 : (0 : Int) ≤ (i : Int) := by omega
            have hiI : (i : Int) < 4 := by omega
            have hc1' : w8.cell? ⟨w7.heap.size + 4, i, none⟩ = some (.slice (some ⟨w7.heap.size + i, 0, none⟩) 4 4) := hc1
            have HO8 := hid ho1
            have HC8 := hid hC
            have hl : (quadsE.getD i []).length ≤ 1000 := by
              have : ∀ i, i < 4 → (quadsE.getD i []).length ≤ 1000 := by decide
              exact this i hi4
            clear hC hG q0 q1 hc1 ho1 HC9
            go_wp2_with fail
            go_ret
            exact ⟨_, quadsE.getD i [], rfl, HO8.out, hl, HC8.out.mono (by omega)⟩
          · have e2' : (c == 2) = false := by simp [e2]
            go_wp2_with fail
            go_ret
            exact ⟨_, [Z0, Z1, Z2, Z3], rfl, HT7.out.own, by simp, HT7.out.cur.mono (by omega)⟩
end Go.Proofs.Ytoaopmafokoaoab
