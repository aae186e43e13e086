/- The triples behind moves up, in the model. -/
import Derived.Test.YtdahhcigphhfdabPathS
import Derived.Test.YtdahhcigphhfdabMkP
import Derived.Test.YtdahhcigphhfdabSqTr
namespace Go.Proofs.Ytdahhcigphhfdab
open Go.RowKit

def stepU (x y z : Int) (L : List (List Int)) (i : Nat) : List (List Int) := match moveOpt x y z i with
  | none => L
  | some u => if z < u.getD 2 0 ∧ (L = [] ∨ L.getD 0 [] ≠ u) then L ++ [u] else L
theorem stepU_none {x y z : Int} {L : List (List Int)} {i : Nat} (h : moveOpt x y z i = none) : stepU x y z L i = L := by unfold stepU; rw [h]
theorem stepU_some {x y z : Int} {L : List (List Int)} {i : Nat} {u : List Int} (h : moveOpt x y z i = some u) : stepU x y z L i = if z < u.getD 2 0 ∧ (L = [] ∨ L.getD 0 [] ≠ u) then L ++ [u] else L := by unfold stepU; rw [h]
/-- What is left to be done of two moves. -/
def restU (x y z : Int) : Nat → List (List Int) → List (List Int)
  | 0, L => L
  | k + 1, L => restU x y z k (stepU x y z L k)
def upsU (x y z : Int) : List (List Int) := restU x y z 2 []
theorem stepU_len (x y z : Int) (L : List (List Int)) (i : Nat) : (stepU x y z L i).length ≤ L.length + 1 := by
  unfold stepU
  split
  · omega
  · split <;> simp
theorem moveOpt_three {x y z : Int} {i : Nat} {u : List Int} (h : moveOpt x y z i = some u) : ∃ p q r, u = [p, q, r] := by
  unfold moveOpt at h
  split at h
  · cases h
  · simp only [Option.some.injEq] at h
    subst h
    unfold moveL
    split <;> exact ⟨_, _, _, rfl⟩
theorem eqL_iffM {xs ys : List Int} : eqL xs ys = true ↔ xs = ys := by unfold eqL; simp
def upAnsM (zs : List Int) : Option (List (List Int)) := if mkGoodW zs = true then some (upsU (zs.getD 0 0) (zs.getD 1 0) (zs.getD 2 0)) else none

set_option maxRecDepth 20000 in
set_option maxHeartbeats 1000000 in
theorem mkUp_any (x y z : Int) (ad : Addr) (cap : Nat) (w : World) (ht : T3 x y z) (h : Ints w (.slice (some ad) 3 cap) [x, y, z]) :
    Calls Try.prog 117 #[.slice (some ad) 3 cap] w fun e w' => MadeRows w (upsU x y z) e w' := by
  obtain ⟨i0, hi, hz0, hz1, hz2⟩ := info_parts Try.infoInts
  obtain ⟨x', y', z', ad', cap', e1, e2, c0, c1, c2⟩ := h.three rfl
  simp only [Value.slice.injEq, Option.some.injEq, true_and, List.cons.injEq, and_true] at e1 e2
  obtain ⟨rfl, rfl, rfl⟩ := e1
  obtain ⟨rfl, rfl⟩ := e2
  have HC := hid (show w.cell? ad = some (.int .i64 x) ∧ w.cell? ⟨ad.block, ad.off + 1, none⟩ = some (.int .i64 y) ∧ w.cell? ⟨ad.block, ad.off + 2, none⟩ = some (.int .i64 z) from ⟨c0, c1, c2⟩)
  have HT := hid ht
  clear h ht c0 c1 c2
  go_enter Try.func117, Try.ntmps117
  go_wp2_with fail
  go_loopw [3, 4] (fun o i wr => ∃ (k : Nat) (L : List (List Int)), k ≤ 2 ∧ i = .int .i64 ((k : Int) - 1) ∧ OwnRows w.heap.size wr.heap.size wr o L ∧ restU x y z k L = upsU x y z ∧ L.length + k ≤ 2 ∧ Later w wr) (fun _ i _ => (intOf i + 1).toNat)
  case atStart => exact ⟨2, [], by omega, by simp, OwnRows.none_ _ _ _, rfl, by simp, Later.refl _⟩
  case round =>
    obtain ⟨k, L, hk, rfl, hO, hR, hlen, hL⟩ := hrel
    have HO := hid hO
    have HR := hid hR
    have HL := hid hL
    cases k with
    | zero =>
      have hn : ((0 : Nat) : Int) - 1 = -1 := by omega
      have HE := hid (show L = upsU x y z from hR)
      rw [hn]
      obtain ⟨a3, c3, rfl, _⟩ := hO.shape
      clear hO hR hL
      go_wp2_with fail
      go_ret
      exact ⟨_, rfl, by rw [← HE.out]; exact HO.out, HL.out⟩
    | succ k =>
      have hk1 : ((k + 1 : Nat) : Int) - 1 = (k : Int) := by omega
      have HST := hid (show restU x y z k (stepU x y z L k) = upsU x y z from hR)
      rw [hk1]
      have hk01 : k = 0 ∨ k = 1 := by omega
      have hkI : (0 : Int) ≤ (k : Int) := by omega
      obtain ⟨c0, c1, c2⟩ := HC.out
      replace c0 := hL.cell c0
      replace c1 := hL.cell c1
      replace c2 := hL.cell c2
      obtain ⟨a3, c3, rfl, _⟩ := hO.shape
      have hLl : L.length ≤ 1 := by omega
      have HK := hid hk01
      clear hO hR hL
      obtain ⟨t1, t2, t3, _⟩ := HT.out
      go_wp2_with fail
      refine (mkMove_any x y z k (by have := HK.out; omega) ad cap wr t1 t2 t3 c0 c1 c2).mono ?_
      rintro e w2 ⟨v2, rfl, ho2, hL2⟩
      cases hmo : moveOpt x y z k with
      | none =>
        have HSTn := hid (stepU_none (L := L) hmo)
        rw [hmo] at ho2
        obtain ⟨a9, c9, e9, _⟩ := ho2.shape
        have HO2 := hid (HO.out.later hL2)
        have HS2 := hid hL2.size
        have HL2 := hid (HL.out.trans hL2)
        subst e9
        clear hmo ho2 hL2 c0 c1 c2
        go_wp2_with fail
        go_quiet (fail)
        have hq := Later.drewN w2 nq
        have HO3 := hid ((HO2.out.later hq).wide (Nat.le_refl _) (Nat.le_trans HS2.out hq.size))
        have HL3 := hid (HL2.out.trans hq)
        generalize w2.drewN nq = wd at HO3 HL3 ⊢
        clear hq
        go_wp2_with fail
        go_roundw
        case rel => exact ⟨k, L, by omega, by go_num, HO3.out, by have := HST.out; rw [HSTn.out] at this; exact this, by omega, HL3.out⟩
        case measure => simp [intOf]
      | some u =>
        obtain ⟨p, q, r, rfl⟩ := moveOpt_three hmo
        have HSTs := hid (stepU_some (L := L) hmo)
        rw [hmo] at ho2
        replace ho2 : OwnInts wr.heap.size w2.heap.size w2 v2 [p, q, r] := ho2
        obtain ⟨g2, cg2, rfl, b0, b1, b2, _, _⟩ := ho2.three
        have HO2 := hid (HO.out.later hL2)
        have HOu := hid ho2
        have HS2 := hid hL2.size
        have HLr2 := hid hL2
        have HL2 := hid (HL.out.trans hL2)
        replace c2 := hL2.cell c2
        have hgd : ([p, q, r] : List Int).getD 2 0 = r := rfl
        rw [hgd] at HSTs
        clear hmo ho2 hL2 c0 c1 b0 b1 hgd
        by_cases hzr : z < r
        · have hdz : decide (z < r) = true := decide_eq_true hzr
          by_cases hL0 : L.length = 0
          · have hLe : L = [] := List.eq_nil_of_length_eq_zero hL0
            have HSTn := hid (show stepU x y z L k = L ++ [[p, q, r]] by rw [HSTs.out, if_pos ⟨hzr, .inl hLe⟩])
            have h00 : ((L.length : Int) == 0) = true := by rw [hL0]; rfl
            clear hzr hLe hL0
            go_wp2_with fail
            go_quiet (fail)
            have hq := Later.drewN w2 nq
            have HLd := hid (HLr2.out.trans hq)
            have HLwd := hid (HL2.out.trans hq)
            have HO2d := hid ((HOu.out.later hq).wide (Nat.le_refl _) hq.size)
            generalize w2.drewN nq = wd at HLd HLwd HO2d ⊢
            clear hq
            clear h00
            obtain ⟨us, hul, hus, hub, hin, hdis⟩ := (HO.out.later HLd.out).parts
            have HIN := hid hin
            have HD := hid hdis
            have hown4 := hid (hus.alloc (.cells #[.slice (some ⟨g2, 0, none⟩) 3 cg2] 39))
            have hl1 : us.length ≤ 2 := by omega
            have hws := hid (show w.heap.size ≤ wd.heap.size from HLwd.out.size)
            have hwl := hid (show w.heap.size ≤ wr.heap.size from HL.out.size)
            have hull := hid hul
            clear hus hin hdis hub hul
            go_wp2_with (at_builtin; refine wpList_append_lies _ (by rfl) _ _ _ (by rfl) w.heap.size 39 i0 (.slice none 0 0) 1 24 Try.underlying24 hi hz0 hz1 hz2 rfl (by omega) _ us.length us (by rfl) (by exact hown4.out) ⟨wd.heap.size, 0, none⟩ 1 1 [.slice (some ⟨g2, 0, none⟩) 3 cg2] (by rfl) (by rfl) (World.news_of_block (cs := #[.slice (some ⟨g2, 0, none⟩) 3 cg2]) (t := 39) (fr := (0, 0)) (heap_alloc_new wd _)) (by simp [Value.oneCell']) (by omega) (by unfold maxLen; omega) (by omega) (by have := hws.out; simp; omega) (wd.heap.size + 1) (by simp) ?_)
            intro g cap1 w5 hown5 hgrow hat hglt
            have hA := Later.alloc wd (.cells #[.slice (some ⟨g2, 0, none⟩) 3 cg2] 39)
            have HP := hid (OwnRows.pushed hull.out hown4.out (fun i hi => ((HIN.out i hi).later hA)) HD.out ((HO2d.out.later hA).wide (Nat.le_refl _) (by simp)) hwl.out hown5 hgrow)
            have HL5 := hid (show Later w w5 from (HLwd.out.trans hA).grown hgrow (by have := hws.out; simp; omega) (fun b hb => (hown4.out.lt b hb).1))
            clear hown5 hgrow hat hA
            go_wp2_with fail
            go_roundw
            case rel => exact ⟨k, L ++ [[p, q, r]], by omega, by go_num, HP.out, by rw [← HSTn.out]; exact HST.out, by simp; omega, HL5.out⟩
            case measure => simp [intOf]
          · obtain ⟨l, hLe⟩ : ∃ l, L = [l] := by
              match L, hLl, hL0 with
              | [l], _, _ => exact ⟨l, rfl⟩
            have h00 : ((L.length : Int) == 0) = false := beq_eq_false_iff_ne.2 (by omega)
            have hl0 : (0 : Int) < (L.length : Int) := by omega
            obtain ⟨usx, hulx, husx, hjx1, hinx, hjx2⟩ := HO2.out.parts
            obtain ⟨gx, hgx⟩ : ∃ gx, a3 = some ⟨gx, 0, none⟩ := by
              rcases husx.2 with ⟨_, h0⟩ | ⟨gx, cap, cur, e, _⟩
              · omega
              · simp only [Value.slice.injEq] at e; exact ⟨gx, e.1⟩
            subst hgx
            have hrx := hinx 0 (by omega)
            have hg0 : L.getD 0 [] = l := by rw [hLe]; rfl
            rw [hg0] at hrx
            obtain ⟨ax, cx, ex, _⟩ := hrx.shape
            have hcx : w2.cell? ⟨gx, 0, none⟩ = some (.slice ax l.length cx) := by
              have h9 : w2.cell? ⟨gx, 0, none⟩ = usx[0]? := by rw [← hulx] at husx; exact husx.cellAt 0 (by omega)
              rw [h9, ← ex, List.getD_eq_getElem?_getD, List.getElem?_eq_getElem (by omega)]; rfl
            rw [ex] at hrx
            have HRX := hid hrx.ints
            clear hulx husx hinx hrx ex hjx1 hjx2
            clear usx
            by_cases hlu : l = [p, q, r]
            · have HEQ := hid (eqL_iffM.2 hlu)
              have HSTn := hid (show stepU x y z L k = L by rw [HSTs.out, if_neg]; rintro ⟨_, h | h⟩; · rw [hLe] at h; cases h
                                                            · exact h (by rw [hg0, hlu]))
              clear hlu hzr hLe hL0 hg0
              go_wp2_with fail
              go_quiet (first | (go_at_call 140; exact Calls.quiet_of ((l1Same_as HEQ.out (HRX.out.later (Later.drewN w2 _)) (HOu.out.ints.later (Later.drewN w2 _))))))
              have hq := Later.drewN w2 nq
              have HO3 := hid ((HO2.out.later hq).wide (Nat.le_refl _) (Nat.le_trans HS2.out hq.size))
              have HL3 := hid (HL2.out.trans hq)
              generalize w2.drewN nq = wd at HO3 HL3 ⊢
              clear hq
              go_wp2_with fail
              go_roundw
              case rel => exact ⟨k, L, by omega, by go_num, HO3.out, by have := HST.out; rw [HSTn.out] at this; exact this, by omega, HL3.out⟩
              case measure => simp [intOf]
            · have HEQ := hid (show eqL l [p, q, r] = false by
                cases he : eqL l [p, q, r]
                · rfl
                · exact absurd (eqL_iffM.1 he) hlu)
              have HSTn := hid (show stepU x y z L k = L ++ [[p, q, r]] by rw [HSTs.out, if_pos ⟨hzr, .inr (by rw [hg0]; exact hlu)⟩])
              clear hlu hzr hLe hL0 hg0
              go_wp2_with fail
              go_quiet (first | (go_at_call 140; exact Calls.quiet_of ((l1Same_as HEQ.out (HRX.out.later (Later.drewN w2 _)) (HOu.out.ints.later (Later.drewN w2 _))))))
              have hq := Later.drewN w2 nq
              have HLd := hid (HLr2.out.trans hq)
              have HLwd := hid (HL2.out.trans hq)
              have HO2d := hid ((HOu.out.later hq).wide (Nat.le_refl _) hq.size)
              generalize w2.drewN nq = wd at HLd HLwd HO2d ⊢
              clear hq
              clear h00 hl0 hcx
              obtain ⟨us, hul, hus, hub, hin, hdis⟩ := (HO.out.later HLd.out).parts
              have HIN := hid hin
              have HD := hid hdis
              have hown4 := hid (hus.alloc (.cells #[.slice (some ⟨g2, 0, none⟩) 3 cg2] 39))
              have hl1 : us.length ≤ 2 := by omega
              have hws := hid (show w.heap.size ≤ wd.heap.size from HLwd.out.size)
              have hwl := hid (show w.heap.size ≤ wr.heap.size from HL.out.size)
              have hull := hid hul
              clear hus hin hdis hub hul
              go_wp2_with (at_builtin; refine wpList_append_lies _ (by rfl) _ _ _ (by rfl) w.heap.size 39 i0 (.slice none 0 0) 1 24 Try.underlying24 hi hz0 hz1 hz2 rfl (by omega) _ us.length us (by rfl) (by exact hown4.out) ⟨wd.heap.size, 0, none⟩ 1 1 [.slice (some ⟨g2, 0, none⟩) 3 cg2] (by rfl) (by rfl) (World.news_of_block (cs := #[.slice (some ⟨g2, 0, none⟩) 3 cg2]) (t := 39) (fr := (0, 0)) (heap_alloc_new wd _)) (by simp [Value.oneCell']) (by omega) (by unfold maxLen; omega) (by omega) (by have := hws.out; simp; omega) (wd.heap.size + 1) (by simp) ?_)
              intro g cap1 w5 hown5 hgrow hat hglt
              have hA := Later.alloc wd (.cells #[.slice (some ⟨g2, 0, none⟩) 3 cg2] 39)
              have HP := hid (OwnRows.pushed hull.out hown4.out (fun i hi => ((HIN.out i hi).later hA)) HD.out ((HO2d.out.later hA).wide (Nat.le_refl _) (by simp)) hwl.out hown5 hgrow)
              have HL5 := hid (show Later w w5 from (HLwd.out.trans hA).grown hgrow (by have := hws.out; simp; omega) (fun b hb => (hown4.out.lt b hb).1))
              clear hown5 hgrow hat hA
              go_wp2_with fail
              go_roundw
              case rel => exact ⟨k, L ++ [[p, q, r]], by omega, by go_num, HP.out, by rw [← HSTn.out]; exact HST.out, by simp; omega, HL5.out⟩
              case measure => simp [intOf]
        · have hdz : decide (z < r) = false := decide_eq_false hzr
          have HSTn := hid (show stepU x y z L k = L by rw [HSTs.out, if_neg (fun h => hzr h.1)])
          clear hzr
          go_wp2_with fail
          go_quiet (fail)
          have hq := Later.drewN w2 nq
          have HO3 := hid ((HO2.out.later hq).wide (Nat.le_refl _) (Nat.le_trans HS2.out hq.size))
          have HL3 := hid (HL2.out.trans hq)
          generalize w2.drewN nq = wd at HO3 HL3 ⊢
          clear hq
          go_wp2_with fail
          go_roundw
          case rel => exact ⟨k, L, by omega, by go_num, HO3.out, by have := HST.out; rw [HSTn.out] at this; exact this, by omega, HL3.out⟩
          case measure => simp [intOf]
end Go.Proofs.Ytdahhcigphhfdab
