/- Right triples in the program: the word of a triple. -/
import Derived.Test.YtdahhcigphhfdacRiM
import Derived.Test.YtdahhcigphhfdacRevI
import Derived.Deep.AppendLies
namespace Go.Proofs.Ytdahhcigphhfdac
open Go.RowKit

def lenV : Value → Nat
  | .slice _ n _ => n
  | _ => 0
theorem riwF_len (U : Int → Int → Int × Int × Int) (f : Nat) : ∀ m n : Int, (riwF U f m n).length ≤ f := by
  induction f with
  | zero => intro m n; simp [riwF]
  | succ f ih =>
    intro m n
    unfold riwF
    split
    · simp
    · simp only [List.length_cons]; have := ih (U m n).1 (U m n).2.1; omega
def wordAns (U : Int → Int → Int × Int × Int) (zs : List Int) : Option (List Int) := (rightP zs).map fun p => (riwL U p.1 p.2).reverse
theorem Box12.keep {w w' : World} {b : Nat} {s0 s1 s2 : St} (h : Box12 w b s0 s1 s2) (k : w'.heap[b]? = w.heap[b]?) : Box12 w' b s0 s1 s2 := ⟨cell_keep h.k0 k, cell_keep h.k1 k, cell_keep h.k2 k, cell_keep h.k3 k, cell_keep h.k4 k, cell_keep h.k5 k, cell_keep h.k6 k, cell_keep h.k7 k, cell_keep h.k8 k, cell_keep h.k9 k, cell_keep h.k10 k, cell_keep h.k11 k⟩
theorem Box2.keep {w w' : World} {b : Nat} {x y : Int} (h : Box2 w b x y) (k : w'.heap[b]? = w.heap[b]?) : Box2 w' b x y :=
  ⟨cell_keep h.c0 k, cell_keep h.c1 k, (World.frozen?_of_block k).trans h.f0, (World.frozen?_of_block k).trans h.f1⟩
theorem Box2.lt {w : World} {b : Nat} {x y : Int} (h : Box2 w b x y) : b < w.heap.size := World.block_lt_of_cell? w ⟨b, 0, none⟩ h.c0
theorem Box2.put {w : World} {b : Nat} {x y : Int} (h : Box2 w b x y) (p q : Int) : Box2 ((w.setCell ⟨b, 0, none⟩ (.int .i64 p)).setCell ⟨b, 1, none⟩ (.int .i64 q)) b p q :=
  ⟨(h.set p q).1, (h.set p q).2, by simp only [World.frozen?_setCell]; exact h.f0, by simp only [World.frozen?_setCell]; exact h.f1⟩
theorem set2_far (w : World) (b c : Nat) (p q : Value) (h : c ≠ b) : ((w.setCell ⟨b, 0, none⟩ p).setCell ⟨b, 1, none⟩ q).heap[c]? = w.heap[c]? :=
  (heap_setCell_other _ _ c _ (fun e => h (by first | exact e | exact e.symm))).trans (heap_setCell_other _ _ c _ (fun e => h (by first | exact e | exact e.symm)))

/-- What the loop holds: what has been found, and what the next step is. -/
structure WInv (U : Int → Int → Int × Int × Int) (W : List Int) (w : World) (B D : Nat) (s0 s1 s2 : St) (o8 o9 o10 o11 : Value) (wr : World) (pre : List Int) (b9 : Nat) (x y k : Int) (ok : Bool) : Prop where
  h9 : o9 = .pointer (some ⟨b9, 0, none⟩)
  h10 : o10 = .int .i64 k
  h11 : o11 = .bool ok
  box : Box2 wr b9 x y
  own : wr.ownsRow D 3 1 o8 pre.length (pre.map (Value.int .i64))
  far : o8.ownBlock ≠ some b9
  late : Later w wr
  tree : Box12 wr B s0 s1 s2
  hb9 : D ≤ b9
  hD : D ≤ wr.heap.size
  st : (ok = true ∧ Pair x y ∧ pre ++ k :: riwL U x y = W) ∨ (ok = false ∧ pre = W)

set_option maxRecDepth 20000 in
set_option maxHeartbeats 4000000 in
theorem wordOf_any {T : Nat → St} {C : Int → Int → Int → Int × Int} {U : Int → Int → Int × Int × Int} (t : Tree T C U) (v : Value) (zs : List Int) (w : World) (h : Ints w v zs) :
    Calls Try.prog 88 #[.agg (tree3 (T 0) (T 1) (T 2)).toArray, v] w fun e w' => IntsAns w (wordAns U zs) e w' := by
  have HG := hid t.good
  have HB := hid (Box12.new w (T 0) (T 1) (T 2) 86)
  have hA := Later.alloc w (.cells (tree3 (T 0) (T 1) (T 2)).toArray 86)
  have HL := hid hA
  have HR := hid (rightTripleOf_any v zs _ (h.later hA))
  have HPN := hid (fun m n (hm : m ≤ 2) => t.par_none (m := m) (n := n) hm)
  have HPS := hid (fun m n (hp : Pair m n) (hm : 2 < m) => t.par_some hp hm)
  have HUP := hid (fun m n (hp : Pair m n) (hm : 2 < m) => (t.up m n hp hm).1)
  have HST := hid (fun m n (hp : Pair m n) (hm : 2 < m) => t.riwL_step hp hm)
  have HSZ := hid (show w.heap.size < (w.alloc (.cells (tree3 (T 0) (T 1) (T 2)).toArray 86)).heap.size by simp)
  obtain ⟨i0, hi, hz0, hz1, hz2⟩ := info_parts Try.infoInt
  clear hA h t
  generalize T 0 = s0 at *
  generalize T 1 = s1 at *
  generalize T 2 = s2 at *
  have HPA := hid (fun m n w0 hm hn => parent_any m n s0 s1 s2 HG.out w0 hm hn)
  obtain ⟨a0, b0, c0, d0⟩ := s0
  obtain ⟨a1, b1, c1, d1⟩ := s1
  obtain ⟨a2, b2, c2, d2⟩ := s2
  unfold tree3 at HB HL HR HPA HSZ ⊢
  simp only at HB HL HR HPA HSZ ⊢
  cases hr : rightP zs with
  | none =>
    have HA := hid (show wordAns U zs = none by unfold wordAns; rw [hr]; rfl)
    rw [hr] at HR
    have HR2 := hid (show Calls Try.prog 65 #[v] _ fun e w' => e = .returned (.tuple #[.agg #[.int .i64 0, .int .i64 0, .int .i64 0, .int .i64 0, .int .i64 0], .bool false]) ∧ Later _ w' from HR.out)
    clear hr HR HSZ
    go_enter Try.func88, Try.ntmps88
    go_wp2_with fail
    generalize w.alloc _ = w1 at HB HL HR2 ⊢
    refine HR2.out.mono ?_
    rintro e w2 ⟨rfl, hL2⟩
    have hA2 := Later.alloc w2 (.cells #[.int .i64 0, .int .i64 0, .int .i64 0, .int .i64 0, .int .i64 0] 69)
    have HL3 := hid ((HL.out.trans hL2).trans hA2)
    clear hL2 hA2 HR2
    go_wp2_with fail
    go_ret2
    rw [HA.out]
    exact ⟨_, rfl, OwnInts.nothingR _ _ _, HL3.out⟩
  | some p =>
    obtain ⟨m, n⟩ := p
    have hp := (right_some hr).1
    have HPP := hid hp
    have hb1 := hp.h1
    have hb2 := hp.h2
    have hb7 := hp.h7
    have HA := hid (show wordAns U zs = some (riwL U m n).reverse by unfold wordAns; rw [hr]; rfl)
    rw [hr] at HR
    have HR2 := hid (show Calls Try.prog 65 #[v] _ fun e w' => e = .returned (.tuple #[.agg #[.int .i64 m, .int .i64 n, .int .i64 (m * m - n * n), .int .i64 (2 * m * n), .int .i64 (m * m + n * n)], .bool true]) ∧ Later _ w' from HR.out)
    have HWL := hid (show (riwL U m n).length ≤ 31622 by have := riwF_len U m.toNat m n; unfold riwL; omega)
    have HPV : Hid (∃ (x y k : Int) (ok : Bool), parV ⟨a0, b0, c0, d0⟩ ⟨a1, b1, c1, d1⟩ ⟨a2, b2, c2, d2⟩ m n = .tuple #[.agg #[.int .i64 x, .int .i64 y], .int .i64 k, .bool ok] ∧ ((ok = true ∧ Pair x y ∧ [] ++ k :: riwL U x y = riwL U m n) ∨ (ok = false ∧ [] = riwL U m n))) := hid (by
      by_cases hm : m ≤ 2
      · exact ⟨0, 0, 0, false, HPN.out m n hm, .inr ⟨rfl, (riwL_root m n hm).symm⟩⟩
      · exact ⟨_, _, _, true, HPS.out m n hp (by omega), .inl ⟨rfl, HUP.out m n hp (by omega), (HST.out m n hp (by omega)).symm⟩⟩)
    obtain ⟨W, hW⟩ : ∃ W, riwL U m n = W := ⟨_, rfl⟩
    rw [hW] at HA HPV HWL
    clear hr HR hp hW
    go_enter Try.func88, Try.ntmps88
    go_wp2_with fail
    generalize w.alloc _ = w1 at HB HL HR2 HSZ ⊢
    refine HR2.out.mono ?_
    rintro e w2 ⟨rfl, hL2⟩
    have hA2 := Later.alloc w2 (.cells #[.int .i64 m, .int .i64 n, .int .i64 (m * m - n * n), .int .i64 (2 * m * n), .int .i64 (m * m + n * n)] 69)
    have HB3 := hid ((HB.out.later hL2).later hA2)
    have HL3 := hid ((HL.out.trans hL2).trans hA2)
    have HSZ3 := hid (Nat.lt_of_lt_of_le HSZ.out (hL2.trans hA2).size)
    obtain ⟨g0, g1⟩ := rt_alloc w2 (.int .i64 m) (.int .i64 n) (.int .i64 (m * m - n * n)) (.int .i64 (2 * m * n)) (.int .i64 (m * m + n * n)) 69
    obtain ⟨k0, k1, k2, k3, k4, k5, k6, k7, k8, k9, k10, k11⟩ := HB3.out
    simp only at k0 k1 k2 k3 k4 k5 k6 k7 k8 k9 k10 k11
    clear hL2 hA2 HR2
    go_wp2_with fail
    refine (HPA.out m n _ (by omega) (by omega)).mono ?_
    rintro e w4 ⟨rfl, hL4⟩
    obtain ⟨x0, y0, k0', ok0, hpv, hst⟩ := HPV.out
    rw [hpv]
    have hA4 := Later.alloc w4 (.cells #[.int .i64 x0, .int .i64 y0] 66)
    have HL5 := hid ((HL3.out.trans hL4).trans hA4)
    have HB5 := hid ((HB3.out.later hL4).later hA4)
    have HQ5 := hid (Box2.new w4 x0 y0 66)
    have HS5 := hid (show w.heap.size < w4.heap.size from Nat.lt_of_lt_of_le HSZ3.out hL4.size)
    have HS6 := hid (show w4.heap.size ≤ (w4.alloc (.cells #[.int .i64 x0, .int .i64 y0] 66)).heap.size by simp)
    have HST0 := hid hst
    clear hL4 hA4 g0 g1 hpv hst HB3 HL3 HSZ3 k0 k1 k2 k3 k4 k5 k6 k7 k8 k9 k10 k11
    go_wp2_with fail
    generalize w4.alloc (.cells #[.int .i64 x0, .int .i64 y0] 66) = w5 at HL5 HB5 HQ5 HS6 ⊢
    obtain ⟨D, hD⟩ : ∃ D, w4.heap.size = D := ⟨_, rfl⟩
    rw [hD] at HQ5 HS5 HS6 ⊢
    clear hD
    obtain ⟨B, hB⟩ : ∃ B, w.heap.size = B := ⟨_, rfl⟩
    have HWB := hid (show w.heap.size ≤ B by omega)
    rw [hB] at HB5 HS5 ⊢
    clear hB
    go_loopw [8, 9, 10, 11] (fun o8 o9 o10 o11 wr => ∃ pre b9 x y k ok, WInv U W w B D ⟨a0, b0, c0, d0⟩ ⟨a1, b1, c1, d1⟩ ⟨a2, b2, c2, d2⟩ o8 o9 o10 o11 wr pre b9 x y k ok) (fun o8 _ _ _ _ => W.length + 1 - lenV o8)
    case atStart => exact ⟨[], D, x0, y0, k0', ok0, rfl, rfl, rfl, HQ5.out, World.ownsRow_nil _ _ _ _, by simp [Value.ownBlock], HL5.out, HB5.out, Nat.le_refl _, HS6.out, HST0.out⟩
    case round =>
      obtain ⟨pre, b9, x, y, k, ok, hI⟩ := hrel
      have HI := hid hI
      obtain ⟨rfl, rfl, rfl, hbox, hown, hfar, hlate, htree, hb9, hDs, hst⟩ := hI
      obtain ⟨a8, cap8, rfl, _⟩ := ownsRow_shape hown
      clear hown hfar hlate hDs
      rcases hst with ⟨rfl, hpx, hW⟩ | ⟨rfl, hW⟩
      · have HPX := hid hpx
        have hx1 := hpx.h1
        have hx2 := hpx.h2
        have hx7 := hpx.h7
        have HWE := hid hW
        have hlen : pre.length + 1 ≤ 31622 := by have := HWL.out; have := congrArg List.length hW; rw [List.length_append, List.length_cons] at this; omega
        have hlw : pre.length < W.length := by have := congrArg List.length hW; rw [List.length_append, List.length_cons] at this; omega
        have HPV2 : Hid (∃ (x' y' k' : Int) (ok' : Bool), parV ⟨a0, b0, c0, d0⟩ ⟨a1, b1, c1, d1⟩ ⟨a2, b2, c2, d2⟩ x y = .tuple #[.agg #[.int .i64 x', .int .i64 y'], .int .i64 k', .bool ok'] ∧ ((ok' = true ∧ Pair x' y' ∧ (pre ++ [k]) ++ k' :: riwL U x' y' = W) ∨ (ok' = false ∧ pre ++ [k] = W))) := hid (by
          by_cases hm : x ≤ 2
          · refine ⟨0, 0, 0, false, HPN.out x y hm, .inr ⟨rfl, ?_⟩⟩
            rw [riwL_root x y hm] at hW
            exact hW
          · refine ⟨_, _, _, true, HPS.out x y hpx (by omega), .inl ⟨rfl, HUP.out x y hpx (by omega), ?_⟩⟩
            rw [← HST.out x y hpx (by omega), List.append_assoc]
            exact hW)
        have hAr := Later.alloc wr (.cells #[.int .i64 k] 3)
        have HOA := hid (show (wr.alloc (.cells #[.int .i64 k] 3)).ownsRow D 3 1 (.slice a8 pre.length cap8) pre.length (pre.map (Value.int .i64)) from ownsRow_keep HI.out.own fun bk hbk => hAr.block bk (HI.out.own.lt bk hbk).2)
        have HTA := hid (HI.out.tree.later hAr)
        have HQA := hid (HI.out.box.later hAr)
        have HLA := hid (HI.out.late.trans hAr)
        have hDs := HI.out.hD
        have hlateS := hid HI.out.late.size
        clear hAr hbox htree hpx hW
        go_upto_region 8 with fail
        go_wp2_with (at_builtin; refine wpList_append_lies _ (by rfl) _ _ _ (by rfl) D 3 i0 (.int .i64 0) 1 8 Try.underlying26 hi hz0 hz1 hz2 rfl (by omega) _ pre.length (pre.map (Value.int .i64)) (by rfl) (by exact HOA.out) ⟨wr.heap.size, 0, none⟩ 1 1 [.int .i64 k] (by rfl) (by rfl) (World.news_of_block (cs := #[.int .i64 k]) (t := 3) (fr := (0, 0)) (heap_alloc_new wr _)) (by simp [Value.oneCell']) (by omega) (by unfold maxLen; omega) (by omega) (by simp; omega) (wr.heap.size + 1) (by simp) ?_)
        intro g cap1 w9 hown9 hgrow hgn hglt
        have hkB : w9.heap[B]? = (wr.alloc (.cells #[.int .i64 k] 3)).heap[B]? := hgrow.block B (by simp; have := HS5.out; omega) (fun e => by have := (HOA.out.lt B e.symm).1; have := HS5.out; omega)
        have hk9 : w9.heap[b9]? = (wr.alloc (.cells #[.int .i64 k] 3)).heap[b9]? := hgrow.block b9 (by simp; have := HI.out.box.lt; omega) (fun e => HI.out.far e.symm)
        have HGN := hid (show g ≠ b9 by
          rcases hgn with hgn | hgn
          · intro e; exact HI.out.far (by rw [hgn, e])
          · have := HI.out.box.lt; omega)
        have hA9 := Later.alloc w9 (.cells #[.int .i64 x, .int .i64 y] 66)
        have hTB := HTA.out.keep hkB
        have hQ9 := HQA.out.keep hk9
        have HTB := hid (hTB.later hA9)
        have HL9 := hid (show Later w w9 from HLA.out.grown hgrow (by have := hlateS.out; simp; omega) (fun b' hb' => by have := (HOA.out.lt b' hb').1; have := HS5.out; have := HWB.out; omega))
        have HL10 := hid (HL9.out.trans hA9)
        have HO10 := hid (show (w9.alloc (.cells #[.int .i64 x, .int .i64 y] 66)).ownsRow D 3 1 (.slice (some ⟨g, 0, none⟩) (pre.length + 1) cap1) (pre.length + 1) ((pre ++ [k]).map (Value.int .i64)) from by
          have e : (pre ++ [k]).map (Value.int .i64) = pre.map (Value.int .i64) ++ [Value.int .i64 k] := by simp
          rw [e]
          exact ownsRow_keep hown9 fun bk hbk => hA9.block bk (hown9.lt bk hbk).2)
        have HQ10 := hid (Box2.new w9 x y 66)
        have HGL := hid hglt
        have HD9 := hid (show D ≤ w9.heap.size by have := hgrow.size; simp at this; omega)
        have HD10 := hid (show D ≤ (w9.alloc (.cells #[.int .i64 x, .int .i64 y] 66)).heap.size by have := HD9.out; simp; omega)
        obtain ⟨q0, q1, _, _⟩ := hQ9
        obtain ⟨k0, k1, k2, k3, k4, k5, k6, k7, k8, k9, k10, k11⟩ := HTB.out
        simp only at k0 k1 k2 k3 k4 k5 k6 k7 k8 k9 k10 k11
        clear hown9 hgrow hgn hglt hkB hk9 hA9 hTB
        go_wp2_with fail
        generalize w9.alloc (.cells #[.int .i64 x, .int .i64 y] 66) = w10 at HTB HL10 HO10 HQ10 HD10 k0 k1 k2 k3 k4 k5 k6 k7 k8 k9 k10 k11 ⊢
        obtain ⟨b10, hb10⟩ : ∃ b, w9.heap.size = b := ⟨_, rfl⟩
        rw [hb10] at HQ10 HGL HD9 ⊢
        clear hb10 q0 q1
        refine (HPA.out x y _ (by omega) (by omega)).mono ?_
        rintro e w11 ⟨rfl, hL11⟩
        obtain ⟨x', y', k', ok', hpv, hst⟩ := HPV2.out
        rw [hpv]
        have HQ11 := hid (HQ10.out.later hL11)
        have HT11 := hid (HTB.out.later hL11)
        have HO11 := hid (show w11.ownsRow D 3 1 (.slice (some ⟨g, 0, none⟩) (pre.length + 1) cap1) (pre.length + 1) ((pre ++ [k]).map (Value.int .i64)) from ownsRow_keep HO10.out fun bk hbk => hL11.block bk (HO10.out.lt bk hbk).2)
        have HL11 := hid (HL10.out.trans hL11)
        have HD11 := hid (Nat.le_trans HD10.out hL11.size)
        have HST2 := hid hst
        obtain ⟨r0, r1, f0, f1⟩ := HQ11.out
        clear hL11 hpv hst k0 k1 k2 k3 k4 k5 k6 k7 k8 k9 k10 k11
        go_wp2_with fail
        have HQ12 := hid (HQ11.out.put x' y')
        have HT12 := hid (HT11.out.keep (set2_far w11 b10 B (.int .i64 x') (.int .i64 y') (by have := HS5.out; have := HD9.out; omega)))
        have HO12 := hid (show ((w11.setCell ⟨b10, 0, none⟩ (.int .i64 x')).setCell ⟨b10, 1, none⟩ (.int .i64 y')).ownsRow D 3 1 (.slice (some ⟨g, 0, none⟩) (pre.length + 1) cap1) (pre.length + 1) ((pre ++ [k]).map (Value.int .i64)) from ownsRow_keep HO11.out fun bk hbk => set2_far w11 b10 bk _ _ (by simp only [Value.ownBlock, Option.some.injEq] at hbk; have := HGL.out; omega))
        have HL12 := hid (later_set2 HL11.out (show w.heap.size ≤ b10 by have := HWB.out; have := HS5.out; have := HD9.out; omega) (.int .i64 x') (.int .i64 y'))
        have HD12 := hid (show D ≤ ((w11.setCell ⟨b10, 0, none⟩ (.int .i64 x')).setCell ⟨b10, 1, none⟩ (.int .i64 y')).heap.size by simp; exact HD11.out)
        generalize ((w11.setCell ⟨b10, 0, none⟩ (.int .i64 x')).setCell ⟨b10, 1, none⟩ (.int .i64 y')) = w12 at HQ12 HT12 HO12 HL12 HD12 ⊢
        clear r0 r1 f0 f1
        go_roundw
        case rel => exact ⟨pre ++ [k], b10, x', y', k', ok', rfl, rfl, rfl, HQ12.out, by rw [List.length_append]; exact HO12.out, by simp only [Value.ownBlock, ne_eq, Option.some.injEq]; have := HGL.out; omega, HL12.out, HT12.out, HD9.out, HD12.out, HST2.out⟩
        case measure => simp [lenV]; omega
      · subst hW
        have HO := hid (OwnInts.ofH HI.out.own (zs := pre) rfl)
        have HLr := hid HI.out.late
        have HWD := hid (show w.heap.size ≤ D by have := HWB.out; have := HS5.out; omega)
        clear hbox htree
        go_wp2_with fail
        refine (revI_any D _ _ pre wr (by have := HWL.out; omega) HO.out).mono ?_
        rintro e w9 ⟨rfl, hO9, hL9, hsz9⟩
        have HO9 := hid hO9
        have HL9 := hid (hL9 w HLr.out HWD.out)
        have HSZ9 := hid (show wr.heap.size ≤ w9.heap.size from hsz9)
        clear hO9 hL9 hsz9
        go_wp2_with fail
        go_ret2
        rw [HA.out]
        exact ⟨_, rfl, HO9.out.wide HWD.out HSZ9.out, HL9.out⟩
end Go.Proofs.Ytdahhcigphhfdac
