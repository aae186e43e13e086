/- Right triples in the program: the triple of a word. -/
import Derived.Test.YtdahhcigphhfdacRiG
import Derived.Test.YtdahhcigphhfdacIdxA
namespace Go.Proofs.Ytdahhcigphhfdac
open Go.RowKit

def wordR (zs : List Int) (n : Nat) : Bool := decide (zs.length ≤ 40) && zs.all (within 0 ((n : Int) - 1))
theorem within_ltR {n : Nat} {x : Int} : within 0 ((n : Int) - 1) x = (decide (0 ≤ x) && decide (x < (n : Int))) := by
  unfold within
  congr 1
  exact decide_eq_decide.2 (by omega)
theorem isIndexWordR_any (v : Value) (zs : List Int) (n : Nat) (w : World) (h : Ints w v zs) :
    Calls Try.prog 102 #[v, .int .i64 (n : Nat)] w fun e w' => e = .returned (.bool (wordR zs n)) ∧ w = w' := by
  unfold wordR; exact isIdx_any v zs n w h

theorem isIndexWord3_as (v : Value) (zs : List Int) (o : Bool) (w : World) (ho : wordR zs 3 = o) (h : Ints w v zs) :
    Calls Try.prog 102 #[v, .int .i64 3] w fun e w' => e = .returned (.bool o) ∧ w = w' := by
  subst ho; exact isIndexWordR_any v zs 3 w h
def byWordAns (C : Int → Int → Int → Int × Int) (zs : List Int) : Option (List Int) :=
  if wordR zs 3 = true then (foldP C zs 2 1).map fun p => sidesL p.1 p.2 else none
theorem foldP_drop (C : Int → Int → Int → Int × Int) (zs : List Int) (k : Nat) (x y : Int) (hk : k < zs.length) :
    foldP C (zs.drop k) x y = if pairB (C x y (zs.getD k 0)).1 (C x y (zs.getD k 0)).2 = true then foldP C (zs.drop (k + 1)) (C x y (zs.getD k 0)).1 (C x y (zs.getD k 0)).2 else none := by
  rw [List.drop_eq_getElem_cons hk, getD_at zs k hk]
  rfl
theorem wordR_at {zs : List Int} (h : wordR zs 3 = true) (k : Nat) (hk : k < zs.length) : zs.getD k 0 = 0 ∨ zs.getD k 0 = 1 ∨ zs.getD k 0 = 2 := by
  unfold wordR at h
  rw [Bool.and_eq_true, List.all_eq_true] at h
  have := h.2 zs[k] (List.getElem_mem hk)
  simp only [within, Bool.and_eq_true, decide_eq_true_eq] at this
  rw [getD_at zs k hk]
  omega
theorem Box5.keep {w w' : World} {b : Nat} {v0 v1 v2 v3 v4 : Value} (h : Box5 w b v0 v1 v2 v3 v4) (k : w'.heap[b]? = w.heap[b]?) : Box5 w' b v0 v1 v2 v3 v4 :=
  ⟨⟨cell_keep h.arr.c0 k, cell_keep h.arr.c1 k, cell_keep h.arr.c2 k, cell_keep h.arr.c3 k, cell_keep h.arr.c4 k⟩, (World.frozen?_of_block k).trans h.f0, (World.frozen?_of_block k).trans h.f1, (World.frozen?_of_block k).trans h.f2, (World.frozen?_of_block k).trans h.f3, (World.frozen?_of_block k).trans h.f4⟩
theorem set5_cell (w : World) (b : Nat) (u0 u1 u2 u3 u4 : Value) (a : Addr) (v : Value) (h : a.block ≠ b) (hc : w.cell? a = some v) :
    (((((w.setCell ⟨b, 0, none⟩ u0).setCell ⟨b, 1, none⟩ u1).setCell ⟨b, 2, none⟩ u2).setCell ⟨b, 3, none⟩ u3).setCell ⟨b, 4, none⟩ u4).cell? a = some v := by
  have o : ∀ (w : World) (j : Nat) (u : Value), w.cell? a = some v → (w.setCell ⟨b, j, none⟩ u).cell? a = some v := fun w j u hc => (World.cell?_setCell_other _ _ _ _ (by first | exact fun e => h (congrArg Addr.block e) | exact fun e => h (congrArg Addr.block e).symm)).trans hc
  exact o _ _ _ (o _ _ _ (o _ _ _ (o _ _ _ (o _ _ _ hc))))
theorem tripV_yes {m n : Int} (h : pairB m n = true) : tripV m n = .tuple #[.agg #[.int .i64 m, .int .i64 n, .int .i64 (m * m - n * n), .int .i64 (2 * m * n), .int .i64 (m * m + n * n)], .bool true] := by unfold tripV; rw [if_pos h]; rfl
theorem tripV_no {m n : Int} (h : pairB m n = false) : tripV m n = .tuple #[.agg #[.int .i64 0, .int .i64 0, .int .i64 0, .int .i64 0, .int .i64 0], .bool false] := by unfold tripV; rw [h]; rfl

set_option maxRecDepth 20000 in
set_option maxHeartbeats 4000000 in
theorem follow_any {T : Nat → St} {C : Int → Int → Int → Int × Int} {U : Int → Int → Int × Int × Int} (t : Tree T C U) (v : Value) (zs : List Int) (w : World) (h : Ints w v zs) :
    Calls Try.prog 99 #[.agg (tree3 (T 0) (T 1) (T 2)).toArray, v] w fun e w' => IntsAns w (byWordAns C zs) e w' := by
  have HB := hid (Box12.new w (T 0) (T 1) (T 2) 86)
  have hA := Later.alloc w (.cells (tree3 (T 0) (T 1) (T 2)).toArray 86)
  have HL := hid hA
  have H := hid (h.later hA)
  have HK0 := hid (fun m n => t.kid 0 m n (by omega))
  have HK1 := hid (fun m n => t.kid 1 m n (by omega))
  have HK2 := hid (fun m n => t.kid 2 m n (by omega))
  have HS0 := hid (t.small 0)
  have HS1 := hid (t.small 1)
  have HS2 := hid (t.small 2)
  have HSZ := hid (show w.heap.size < (w.alloc (.cells (tree3 (T 0) (T 1) (T 2)).toArray 86)).heap.size by simp)
  obtain ⟨va, vc, rfl, _⟩ := id h
  have HH := hid h
  clear hA h t
  generalize T 0 = s0 at *
  generalize T 1 = s1 at *
  generalize T 2 = s2 at *
  have HC0 := hid (fun m n w0 hm hn => childP_any m n s0 HS0.out w0 hm hn)
  have HC1 := hid (fun m n w0 hm hn => childP_any m n s1 HS1.out w0 hm hn)
  have HC2 := hid (fun m n w0 hm hn => childP_any m n s2 HS2.out w0 hm hn)
  obtain ⟨a0, b0, c0, d0⟩ := s0
  obtain ⟨a1, b1, c1, d1⟩ := s1
  obtain ⟨a2, b2, c2, d2⟩ := s2
  unfold tree3 at HB HL HSZ H ⊢
  unfold stV at HC0 HC1 HC2
  simp only at HB HL HSZ H HC0 HC1 HC2 ⊢
  cases hw : wordR zs 3
  · have HW := hid hw
    have HA := hid (show byWordAns C zs = none by unfold byWordAns; rw [hw]; simp)
    clear hw
    go_enter Try.func99, Try.ntmps99
    go_wp2_with fail
    generalize w.alloc _ = w1 at H HL ⊢
    refine (isIndexWord3_as _ zs _ _ HW.out H.out).mono ?_
    rintro e w2 ⟨rfl, rfl⟩
    go_wp2_with fail
    go_ret2
    rw [HA.out]
    exact ⟨_, rfl, OwnInts.nothingR _ _ _, HL.out⟩
  · have HW := hid hw
    have HA := hid (show byWordAns C zs = (foldP C zs 2 1).map fun p => sidesL p.1 p.2 by unfold byWordAns; rw [if_pos hw])
    obtain ⟨F, hF⟩ : ∃ F, foldP C zs 2 1 = F := ⟨_, rfl⟩
    rw [hF] at HA
    have HF := hid hF
    have HT0 := hid (fun w0 => show Calls Try.prog 63 #[.agg #[.int .i64 2, .int .i64 1]] w0 fun e w' => e = .returned (.tuple #[.agg #[.int .i64 2, .int .i64 1, .int .i64 3, .int .i64 4, .int .i64 5], .bool true]) ∧ Later w0 w' by have h2 := triple_any 2 1 w0; rw [tripV_yes pair21.yes] at h2; exact h2)
    clear hw hF
    go_enter Try.func99, Try.ntmps99
    go_wp2_with fail
    generalize w.alloc _ = w1 at HB HL HSZ H ⊢
    refine (isIndexWord3_as _ zs _ _ HW.out H.out).mono ?_
    rintro e w2 ⟨rfl, rfl⟩
    go_wp2_with fail
    refine (HT0.out _).mono ?_
    rintro e w3 ⟨rfl, hL3⟩
    have hA3 := Later.alloc w3 (.cells #[.int .i64 2, .int .i64 1, .int .i64 3, .int .i64 4, .int .i64 5] 69)
    have HB4 := hid ((HB.out.later hL3).later hA3)
    have HL4 := hid ((HL.out.trans hL3).trans hA3)
    have H4 := hid ((H.out.later hL3).later hA3)
    have HQ4 := hid (Box5.new w3 (.int .i64 2) (.int .i64 1) (.int .i64 3) (.int .i64 4) (.int .i64 5) 69)
    have HS4 := hid (Nat.lt_of_lt_of_le HSZ.out hL3.size)
    clear hL3 hA3
    go_wp2_with fail
    generalize w3.alloc (.cells #[.int .i64 2, .int .i64 1, .int .i64 3, .int .i64 4, .int .i64 5] 69) = w4 at HB4 HL4 H4 HQ4 ⊢
    obtain ⟨D, hD⟩ : ∃ D, w3.heap.size = D := ⟨_, rfl⟩
    obtain ⟨B, hB⟩ : ∃ B, w.heap.size = B := ⟨_, rfl⟩
    have HWB := hid (show w.heap.size ≤ D by have := HS4.out; omega)
    rw [hD] at HQ4 HS4 ⊢
    rw [hB] at HB4 HS4 ⊢
    clear hD hB
    go_loopw [7, 20] (fun o7 o20 wr => ∃ (k : Nat) (x y : Int), k ≤ zs.length ∧ o20 = .int .i64 k ∧ o7 = .bool true ∧ Pair x y ∧ foldP C (zs.drop k) x y = F ∧ Box5 wr D (.int .i64 x) (.int .i64 y) (.int .i64 (x * x - y * y)) (.int .i64 (2 * x * y)) (.int .i64 (x * x + y * y)) ∧ Box12 wr B ⟨a0, b0, c0, d0⟩ ⟨a1, b1, c1, d1⟩ ⟨a2, b2, c2, d2⟩ ∧ Later w wr) (fun _ o20 _ => zs.length - (intOf o20).toNat)
    case atStart => exact ⟨0, 2, 1, Nat.zero_le _, rfl, rfl, pair21, HF.out, HQ4.out, HB4.out, HL4.out⟩
    case round =>
      obtain ⟨k, x, y, hk, rfl, rfl, hp, hf, hq, hb, hl⟩ := hrel
      have HQ := hid hq
      have HBr := hid hb
      have HLr := hid hl
      have HP := hid hp
      by_cases hlt : k < zs.length
      · obtain ⟨_, _, e1, hzl, hcs⟩ := (HH.out.later hl)
        simp only [Value.slice.injEq] at e1
        obtain ⟨rfl, _, rfl⟩ := e1
        obtain ⟨ad, rfl, hcell⟩ := hcs k hlt
        have hstep := foldP_drop C zs k x y hlt
        rw [hf] at hstep
        have hz := wordR_at HW.out k hlt
        obtain ⟨z, hzz⟩ : ∃ z, zs.getD k 0 = z := ⟨_, rfl⟩
        rw [hzz] at hcell hstep hz
        have n1 := hp.h1
        have n2 := hp.h2
        have n7 := hp.h7
        have hxb : -1000000 ≤ x ∧ x ≤ 1000000 := by omega
        have hyb : -1000000 ≤ y ∧ y ≤ 1000000 := by omega
        have HXB := hid hxb
        have HYB := hid hyb
        have HSTP := hid hstep
        obtain ⟨⟨r0, r1, r2, r3, r4⟩, f0, f1, f2, f3, f4⟩ := HQ.out
        clear hf hq hb hl hcs hzz hstep hxb hyb hp
        have HZ : ∃ (kk : Nat) (sa sb sc sd : Int), z = (kk : Int) ∧ kk < 3 ∧ wr.cell? ⟨B, kk * 4, none⟩ = some (.int .i64 sa) ∧ wr.cell? ⟨B, kk * 4 + 1, none⟩ = some (.int .i64 sb) ∧ wr.cell? ⟨B, kk * 4 + 2, none⟩ = some (.int .i64 sc) ∧ wr.cell? ⟨B, kk * 4 + 3, none⟩ = some (.int .i64 sd) ∧ kid ⟨sa, sb, sc, sd⟩ x y = C x y z ∧ Small ⟨sa, sb, sc, sd⟩ := by
          rcases hz with rfl | rfl | rfl
          · exact ⟨0, a0, b0, c0, d0, rfl, by omega, HBr.out.k0, HBr.out.k1, HBr.out.k2, HBr.out.k3, HK0.out x y, HS0.out⟩
          · exact ⟨1, a1, b1, c1, d1, rfl, by omega, HBr.out.k4, HBr.out.k5, HBr.out.k6, HBr.out.k7, HK1.out x y, HS1.out⟩
          · exact ⟨2, a2, b2, c2, d2, rfl, by omega, HBr.out.k8, HBr.out.k9, HBr.out.k10, HBr.out.k11, HK2.out x y, HS2.out⟩
        obtain ⟨kk, sa, sb, sc, sd, rfl, hkk, ea, eb, ec, ed, hkid, hsm⟩ := HZ
        have EA := hid ea
        have EB := hid eb
        have EC := hid ec
        have ED := hid ed
        have HKD := hid hkid
        have HSM := hid hsm
        have kki : (kk : Int) < 3 := by omega
        have kk0 : (0 : Int) ≤ (kk : Int) := by omega
        clear hz ea eb ec ed hkid hsm
        · obtain ⟨x', hx'⟩ : ∃ q, (kid ⟨sa, sb, sc, sd⟩ x y).1 = q := ⟨_, rfl⟩
          obtain ⟨y', hy'⟩ : ∃ q, (kid ⟨sa, sb, sc, sd⟩ x y).2 = q := ⟨_, rfl⟩
          have HCH := hid (fun w0 => show Calls Try.prog 119 #[.agg #[.int .i64 x, .int .i64 y], .agg #[.int .i64 sa, .int .i64 sb, .int .i64 sc, .int .i64 sd]] w0 fun e w' => e = .returned (.agg #[.int .i64 (kid ⟨sa, sb, sc, sd⟩ x y).1, .int .i64 (kid ⟨sa, sb, sc, sd⟩ x y).2]) ∧ Later w0 w' from childP_any x y ⟨sa, sb, sc, sd⟩ HSM.out w0 HXB.out HYB.out)
          rw [hx', hy'] at HCH
          have HTT := hid (fun w0 => triple_any x' y' w0)
          have hst2 : F = if pairB x' y' = true then foldP C (zs.drop (k + 1)) x' y' else none := by
            have e : C x y kk = (x', y') := by rw [← hx', ← hy']; exact HKD.out.symm
            have := HSTP.out
            rw [e] at this
            exact this
          clear hx' hy'
          go_upto_region 7 with fail
          cases hp' : pairB x' y'
          · have HFN := hid (show F = none by rw [hst2, hp']; simp)
            clear hst2
            rw [tripV_no hp'] at HTT
            refine wp_region_held_drew (S := (fun w' => w'.cell? ⟨B, kk * 4, none⟩ = some (.int .i64 sa) ∧ w'.cell? ⟨B, kk * 4 + 1, none⟩ = some (.int .i64 sb) ∧ w'.cell? ⟨B, kk * 4 + 2, none⟩ = some (.int .i64 sc) ∧ w'.cell? ⟨B, kk * 4 + 3, none⟩ = some (.int .i64 sd))) (by kernel_rfl) ⟨(Later.drew wr).cell EA.out, (Later.drew wr).cell EB.out, (Later.drew wr).cell EC.out, (Later.drew wr).cell ED.out⟩ (fun hS => ?_)
            change wpAnyH _ _ _ _ _ 12 _ _ _
            refine wpAnyH_take (i := 0) (v := .pointer (some ⟨D, 0, none⟩)) rfl (by kernel_rfl) (by kernel_rfl) (by kernel_rfl) (fun _ _ _ h => h) (.inl ⟨by kernel_rfl, fun w' hw => by clear hw; go_simp⟩) hS ?_
            refine wpAnyH_take (i := 2) (v := .int .i64 kk) rfl (by kernel_rfl) (by kernel_rfl) (by kernel_rfl) (fun _ _ _ h => h) (.inl ⟨by kernel_rfl, fun w' hw => by clear hw; go_simp⟩) hS ?_
            refine wpAnyH_take (i := 3) (v := .pointer (some ⟨B, kk * 4, none⟩)) rfl (by kernel_rfl) (by kernel_rfl) (by kernel_rfl) (fun _ _ _ h => h) (.inl ⟨by kernel_rfl, fun w' hw => by clear hw; go_simp⟩) hS ?_
            refine wpAnyH_take (i := 4) (v := .agg #[.int .i64 sa, .int .i64 sb, .int .i64 sc, .int .i64 sd]) rfl (by kernel_rfl) (by kernel_rfl) (by kernel_rfl) (fun _ _ _ h => h) (.inl ⟨by kernel_rfl, fun w' hw => by obtain ⟨h0, h1, h2, h3⟩ := hw; go_simp⟩) hS ?_
            refine wpAnyH_ready (rs := [1]) (by kernel_rfl) (by simp) (AllReadyH.cons rfl (fun K2 hK2 => ?_) AllReadyH.nil)
            rw [if_pos (by kernel_rfl)]
            have g0 := (Later.drew wr).cell r0
            have g1 := (Later.drew wr).cell r1
            go_simp
            refine hK2.out _ _ hS (fun hS2 => ?_)
            clear hK2 K2 g0 g1 hS
            refine wpAnyH_ready (rs := [5]) (by kernel_rfl) (by simp) (AllReadyH.cons rfl (fun K3 hK3 => ?_) AllReadyH.nil)
            rw [if_pos (by kernel_rfl)]
            clear hS2
            go_simp
            go_at_call 119
            refine (HCH.out _).mono ?_
            rintro e w5 ⟨rfl, hL5⟩
            have hL5' := (Later.drew wr).trans hL5
            refine hK3.out _ _ ⟨hL5'.cell EA.out, hL5'.cell EB.out, hL5'.cell EC.out, hL5'.cell ED.out⟩ (fun hS3 => ?_)
            clear hK3 K3 hL5
            refine wpAnyH_ready (rs := [6]) (by kernel_rfl) (by simp) (AllReadyH.cons rfl (fun K4 hK4 => ?_) AllReadyH.nil)
            rw [if_pos (by kernel_rfl)]
            clear hS3
            go_simp
            go_at_call 63
            refine (HTT.out _).mono ?_
            rintro e w6 ⟨rfl, hL6⟩
            have hL6' := hL5'.trans hL6
            have HL6 := hid (HLr.out.trans hL6')
            have HQ6 := hid (HQ.out.later hL6')
            have HB6 := hid (HBr.out.later hL6')
            refine hK4.out _ _ ⟨hL6'.cell EA.out, hL6'.cell EB.out, hL6'.cell EC.out, hL6'.cell ED.out⟩ (fun hS4 => ?_)
            clear hK4 K4 hL6 hL6' hL5'
            refine wpAnyH_take (i := 7) (v := .tuple #[.agg #[.int .i64 0, .int .i64 0, .int .i64 0, .int .i64 0, .int .i64 0], .bool false]) rfl (by kernel_rfl) (by kernel_rfl) (by kernel_rfl) (fun _ _ _ h => h) (.inl ⟨by kernel_rfl, fun w' hw => by clear hw; go_simp⟩) hS4 ?_
            refine wpAnyH_take (i := 8) (v := .agg #[.int .i64 0, .int .i64 0, .int .i64 0, .int .i64 0, .int .i64 0]) rfl (by kernel_rfl) (by kernel_rfl) (by kernel_rfl) (fun _ _ _ h => h) (.inl ⟨by kernel_rfl, fun w' hw => by clear hw; go_simp⟩) hS4 ?_
            refine wpAnyH_take (i := 9) (v := .bool false) rfl (by kernel_rfl) (by kernel_rfl) (by kernel_rfl) (fun _ _ _ h => h) (.inl ⟨by kernel_rfl, fun w' hw => by clear hw; go_simp⟩) hS4 ?_
            refine wpAnyH_ready (rs := [10]) (by kernel_rfl) (by simp) (AllReadyH.cons rfl (fun K5 hK5 => ?_) AllReadyH.nil)
            rw [if_pos (by kernel_rfl)]
            obtain ⟨⟨q0, q1, q2, q3, q4⟩, u0, u1, u2, u3, u4⟩ := HQ6.out
            have HS4' := hid hS4
            clear hS4
            go_simp
            refine hK5.out _ _ ⟨set5_cell _ _ _ _ _ _ _ _ _ (by have := HS4.out; simp; omega) HS4'.out.1, set5_cell _ _ _ _ _ _ _ _ _ (by have := HS4.out; simp; omega) HS4'.out.2.1, set5_cell _ _ _ _ _ _ _ _ _ (by have := HS4.out; simp; omega) HS4'.out.2.2.1, set5_cell _ _ _ _ _ _ _ _ _ (by have := HS4.out; simp; omega) HS4'.out.2.2.2⟩ (fun hS6 => ?_)
            clear hK5 K5
            refine wpAnyH_take (i := 11) (v := .bool false) rfl (by kernel_rfl) (by kernel_rfl) (by kernel_rfl) (fun _ _ _ h => h) (.inl ⟨by kernel_rfl, fun w' hw => by clear hw; go_simp⟩) hS6 ?_
            refine wpAnyH_done (by kernel_rfl) ?_ _
            have HQ8 := hid (HQ6.out.set (.int .i64 0) (.int .i64 0) (.int .i64 0) (.int .i64 0) (.int .i64 0))
            have HB8 := hid (show Box12 (((((w6.setCell ⟨D, 0, none⟩ (.int .i64 0)).setCell ⟨D, 1, none⟩ (.int .i64 0)).setCell ⟨D, 2, none⟩ (.int .i64 0)).setCell ⟨D, 3, none⟩ (.int .i64 0)).setCell ⟨D, 4, none⟩ (.int .i64 0)) B ⟨a0, b0, c0, d0⟩ ⟨a1, b1, c1, d1⟩ ⟨a2, b2, c2, d2⟩ from ⟨set5_cell _ _ _ _ _ _ _ _ _ (by have := HS4.out; simp; omega) HB6.out.k0, set5_cell _ _ _ _ _ _ _ _ _ (by have := HS4.out; simp; omega) HB6.out.k1, set5_cell _ _ _ _ _ _ _ _ _ (by have := HS4.out; simp; omega) HB6.out.k2, set5_cell _ _ _ _ _ _ _ _ _ (by have := HS4.out; simp; omega) HB6.out.k3, set5_cell _ _ _ _ _ _ _ _ _ (by have := HS4.out; simp; omega) HB6.out.k4, set5_cell _ _ _ _ _ _ _ _ _ (by have := HS4.out; simp; omega) HB6.out.k5, set5_cell _ _ _ _ _ _ _ _ _ (by have := HS4.out; simp; omega) HB6.out.k6, set5_cell _ _ _ _ _ _ _ _ _ (by have := HS4.out; simp; omega) HB6.out.k7, set5_cell _ _ _ _ _ _ _ _ _ (by have := HS4.out; simp; omega) HB6.out.k8, set5_cell _ _ _ _ _ _ _ _ _ (by have := HS4.out; simp; omega) HB6.out.k9, set5_cell _ _ _ _ _ _ _ _ _ (by have := HS4.out; simp; omega) HB6.out.k10, set5_cell _ _ _ _ _ _ _ _ _ (by have := HS4.out; simp; omega) HB6.out.k11⟩)
            have HL8 := hid (later_set5 HL6.out HWB.out (.int .i64 0) (.int .i64 0) (.int .i64 0) (.int .i64 0) (.int .i64 0))
            clear hS6 q0 q1 q2 q3 q4 u0 u1 u2 u3 u4 HS4'
            generalize (((((w6.setCell ⟨D, 0, none⟩ (.int .i64 0)).setCell ⟨D, 1, none⟩ (.int .i64 0)).setCell ⟨D, 2, none⟩ (.int .i64 0)).setCell ⟨D, 3, none⟩ (.int .i64 0)).setCell ⟨D, 4, none⟩ (.int .i64 0)) = w8 at HQ8 HB8 HL8 ⊢
            go_wp2_with fail
            go_ret2
            rw [HA.out, HFN.out]
            exact ⟨_, rfl, OwnInts.nothingR _ _ _, HL8.out⟩
          · have HFN := hid (show foldP C (zs.drop (k + 1)) x' y' = F by rw [hst2, if_pos hp'])
            clear hst2
            rw [tripV_yes hp'] at HTT
            refine wp_region_held_drew (S := (fun w' => w'.cell? ⟨B, kk * 4, none⟩ = some (.int .i64 sa) ∧ w'.cell? ⟨B, kk * 4 + 1, none⟩ = some (.int .i64 sb) ∧ w'.cell? ⟨B, kk * 4 + 2, none⟩ = some (.int .i64 sc) ∧ w'.cell? ⟨B, kk * 4 + 3, none⟩ = some (.int .i64 sd))) (by kernel_rfl) ⟨(Later.drew wr).cell EA.out, (Later.drew wr).cell EB.out, (Later.drew wr).cell EC.out, (Later.drew wr).cell ED.out⟩ (fun hS => ?_)
            change wpAnyH _ _ _ _ _ 12 _ _ _
            refine wpAnyH_take (i := 0) (v := .pointer (some ⟨D, 0, none⟩)) rfl (by kernel_rfl) (by kernel_rfl) (by kernel_rfl) (fun _ _ _ h => h) (.inl ⟨by kernel_rfl, fun w' hw => by clear hw; go_simp⟩) hS ?_
            refine wpAnyH_take (i := 2) (v := .int .i64 kk) rfl (by kernel_rfl) (by kernel_rfl) (by kernel_rfl) (fun _ _ _ h => h) (.inl ⟨by kernel_rfl, fun w' hw => by clear hw; go_simp⟩) hS ?_
            refine wpAnyH_take (i := 3) (v := .pointer (some ⟨B, kk * 4, none⟩)) rfl (by kernel_rfl) (by kernel_rfl) (by kernel_rfl) (fun _ _ _ h => h) (.inl ⟨by kernel_rfl, fun w' hw => by clear hw; go_simp⟩) hS ?_
            refine wpAnyH_take (i := 4) (v := .agg #[.int .i64 sa, .int .i64 sb, .int .i64 sc, .int .i64 sd]) rfl (by kernel_rfl) (by kernel_rfl) (by kernel_rfl) (fun _ _ _ h => h) (.inl ⟨by kernel_rfl, fun w' hw => by obtain ⟨h0, h1, h2, h3⟩ := hw; go_simp⟩) hS ?_
            refine wpAnyH_ready (rs := [1]) (by kernel_rfl) (by simp) (AllReadyH.cons rfl (fun K2 hK2 => ?_) AllReadyH.nil)
            rw [if_pos (by kernel_rfl)]
            have g0 := (Later.drew wr).cell r0
            have g1 := (Later.drew wr).cell r1
            go_simp
            refine hK2.out _ _ hS (fun hS2 => ?_)
            clear hK2 K2 g0 g1 hS
            refine wpAnyH_ready (rs := [5]) (by kernel_rfl) (by simp) (AllReadyH.cons rfl (fun K3 hK3 => ?_) AllReadyH.nil)
            rw [if_pos (by kernel_rfl)]
            clear hS2
            go_simp
            go_at_call 119
            refine (HCH.out _).mono ?_
            rintro e w5 ⟨rfl, hL5⟩
            have hL5' := (Later.drew wr).trans hL5
            refine hK3.out _ _ ⟨hL5'.cell EA.out, hL5'.cell EB.out, hL5'.cell EC.out, hL5'.cell ED.out⟩ (fun hS3 => ?_)
            clear hK3 K3 hL5
            refine wpAnyH_ready (rs := [6]) (by kernel_rfl) (by simp) (AllReadyH.cons rfl (fun K4 hK4 => ?_) AllReadyH.nil)
            rw [if_pos (by kernel_rfl)]
            clear hS3
            go_simp
            go_at_call 63
            refine (HTT.out _).mono ?_
            rintro e w6 ⟨rfl, hL6⟩
            have hL6' := hL5'.trans hL6
            have HL6 := hid (HLr.out.trans hL6')
            have HQ6 := hid (HQ.out.later hL6')
            have HB6 := hid (HBr.out.later hL6')
            refine hK4.out _ _ ⟨hL6'.cell EA.out, hL6'.cell EB.out, hL6'.cell EC.out, hL6'.cell ED.out⟩ (fun hS4 => ?_)
            clear hK4 K4 hL6 hL6' hL5'
            refine wpAnyH_take (i := 7) (v := .tuple #[.agg #[.int .i64 x', .int .i64 y', .int .i64 (x' * x' - y' * y'), .int .i64 (2 * x' * y'), .int .i64 (x' * x' + y' * y')], .bool true]) rfl (by kernel_rfl) (by kernel_rfl) (by kernel_rfl) (fun _ _ _ h => h) (.inl ⟨by kernel_rfl, fun w' hw => by clear hw; go_simp⟩) hS4 ?_
            refine wpAnyH_take (i := 8) (v := .agg #[.int .i64 x', .int .i64 y', .int .i64 (x' * x' - y' * y'), .int .i64 (2 * x' * y'), .int .i64 (x' * x' + y' * y')]) rfl (by kernel_rfl) (by kernel_rfl) (by kernel_rfl) (fun _ _ _ h => h) (.inl ⟨by kernel_rfl, fun w' hw => by clear hw; go_simp⟩) hS4 ?_
            refine wpAnyH_take (i := 9) (v := .bool true) rfl (by kernel_rfl) (by kernel_rfl) (by kernel_rfl) (fun _ _ _ h => h) (.inl ⟨by kernel_rfl, fun w' hw => by clear hw; go_simp⟩) hS4 ?_
            refine wpAnyH_ready (rs := [10]) (by kernel_rfl) (by simp) (AllReadyH.cons rfl (fun K5 hK5 => ?_) AllReadyH.nil)
            rw [if_pos (by kernel_rfl)]
            obtain ⟨⟨q0, q1, q2, q3, q4⟩, u0, u1, u2, u3, u4⟩ := HQ6.out
            have HS4' := hid hS4
            clear hS4
            go_simp
            refine hK5.out _ _ ⟨set5_cell _ _ _ _ _ _ _ _ _ (by have := HS4.out; simp; omega) HS4'.out.1, set5_cell _ _ _ _ _ _ _ _ _ (by have := HS4.out; simp; omega) HS4'.out.2.1, set5_cell _ _ _ _ _ _ _ _ _ (by have := HS4.out; simp; omega) HS4'.out.2.2.1, set5_cell _ _ _ _ _ _ _ _ _ (by have := HS4.out; simp; omega) HS4'.out.2.2.2⟩ (fun hS6 => ?_)
            clear hK5 K5
            refine wpAnyH_take (i := 11) (v := .bool true) rfl (by kernel_rfl) (by kernel_rfl) (by kernel_rfl) (fun _ _ _ h => h) (.inl ⟨by kernel_rfl, fun w' hw => by clear hw; go_simp⟩) hS6 ?_
            refine wpAnyH_done (by kernel_rfl) ?_ _
            have HQ8 := hid (HQ6.out.set (.int .i64 x') (.int .i64 y') (.int .i64 (x' * x' - y' * y')) (.int .i64 (2 * x' * y')) (.int .i64 (x' * x' + y' * y')))
            have HB8 := hid (show Box12 (((((w6.setCell ⟨D, 0, none⟩ (.int .i64 x')).setCell ⟨D, 1, none⟩ (.int .i64 y')).setCell ⟨D, 2, none⟩ (.int .i64 (x' * x' - y' * y'))).setCell ⟨D, 3, none⟩ (.int .i64 (2 * x' * y'))).setCell ⟨D, 4, none⟩ (.int .i64 (x' * x' + y' * y'))) B ⟨a0, b0, c0, d0⟩ ⟨a1, b1, c1, d1⟩ ⟨a2, b2, c2, d2⟩ from ⟨set5_cell _ _ _ _ _ _ _ _ _ (by have := HS4.out; simp; omega) HB6.out.k0, set5_cell _ _ _ _ _ _ _ _ _ (by have := HS4.out; simp; omega) HB6.out.k1, set5_cell _ _ _ _ _ _ _ _ _ (by have := HS4.out; simp; omega) HB6.out.k2, set5_cell _ _ _ _ _ _ _ _ _ (by have := HS4.out; simp; omega) HB6.out.k3, set5_cell _ _ _ _ _ _ _ _ _ (by have := HS4.out; simp; omega) HB6.out.k4, set5_cell _ _ _ _ _ _ _ _ _ (by have := HS4.out; simp; omega) HB6.out.k5, set5_cell _ _ _ _ _ _ _ _ _ (by have := HS4.out; simp; omega) HB6.out.k6, set5_cell _ _ _ _ _ _ _ _ _ (by have := HS4.out; simp; omega) HB6.out.k7, set5_cell _ _ _ _ _ _ _ _ _ (by have := HS4.out; simp; omega) HB6.out.k8, set5_cell _ _ _ _ _ _ _ _ _ (by have := HS4.out; simp; omega) HB6.out.k9, set5_cell _ _ _ _ _ _ _ _ _ (by have := HS4.out; simp; omega) HB6.out.k10, set5_cell _ _ _ _ _ _ _ _ _ (by have := HS4.out; simp; omega) HB6.out.k11⟩)
            have HL8 := hid (later_set5 HL6.out HWB.out (.int .i64 x') (.int .i64 y') (.int .i64 (x' * x' - y' * y')) (.int .i64 (2 * x' * y')) (.int .i64 (x' * x' + y' * y')))
            clear hS6 q0 q1 q2 q3 q4 u0 u1 u2 u3 u4 HS4'
            generalize (((((w6.setCell ⟨D, 0, none⟩ (.int .i64 x')).setCell ⟨D, 1, none⟩ (.int .i64 y')).setCell ⟨D, 2, none⟩ (.int .i64 (x' * x' - y' * y'))).setCell ⟨D, 3, none⟩ (.int .i64 (2 * x' * y'))).setCell ⟨D, 4, none⟩ (.int .i64 (x' * x' + y' * y'))) = w8 at HQ8 HB8 HL8 ⊢
            go_wp2_with fail
            go_roundw
            case rel => exact ⟨k + 1, x', y', hlt, by go_num, rfl, pairB_iff.1 hp', HFN.out, HQ8.out, HB8.out, HL8.out⟩
            case measure => simp [intOf]; omega
      · obtain rfl : k = zs.length := by omega
        have hF2 : F = some (x, y) := by rw [← hf, List.drop_of_length_le (Nat.le_refl _)]; rfl
        have HF2 := hid hF2
        have HSD := hid (fun w0 => sidesOf_any x y w0 (.agg #[.int .i64 x, .int .i64 y, .int .i64 (x * x - y * y), .int .i64 (2 * x * y), .int .i64 (x * x + y * y)]) true (tripV_yes HP.out.yes))
        have HTA := hid (tripAns_yes HP.out)
        obtain ⟨⟨r0, r1, r2, r3, r4⟩, _⟩ := HQ.out
        clear hf hq hb hl hF2 hp
        go_wp2_with fail
        refine (HSD.out _).mono ?_
        rintro e w7 ⟨v7, rfl, ho, hL7⟩
        rw [HTA.out] at ho ⊢
        have HO := hid ho
        have HL7 := hid (HLr.out.trans hL7)
        clear ho hL7
        go_wp2_with fail
        go_ret2
        rw [HA.out, HF2.out]
        exact ⟨_, rfl, HO.out.wide HLr.out.size (Nat.le_refl _), HL7.out⟩
end Go.Proofs.Ytdahhcigphhfdac
