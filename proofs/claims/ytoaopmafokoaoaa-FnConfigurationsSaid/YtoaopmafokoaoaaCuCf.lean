/- What is drawn for circles: lists that are mostly a configuration. -/
import Derived.Test.YtoaopmafokoaoaaCuGT
import Derived.Test.YtoaopmafokoaoaaCfDE
import Derived.Test.YtoaopmafokoaoaaCiX
import Derived.Test.YtoaopmafokoaoaaCiDJ
import Derived.Test.YtoaopmafokoaoaaCiC
namespace Go.Proofs.Ytoaopmafokoaoaa
open Go.RowKit

theorem OwnCis.keepG {lo : Nat} {w w' : World} {B : Nat} {v : Value} {L : List Ci4} (h : OwnCis lo w.heap.size w v L) (hB : B < lo) (hG : w.grownBy w' (some B)) : OwnCis lo w'.heap.size w' v L :=
  (h.keep fun b h1 h2 => hG.block b h2 (fun e => by injection e with e; omega)).wide (Nat.le_refl _) hG.size
theorem OwnCis.ownG {lo hi : Nat} {w : World} {v : Value} {L : List Ci4} (h : OwnCis lo hi w v L) : ∀ b, v.ownBlock = some b → lo ≤ b := fun b hb => (h.1.lt b hb).1
theorem wpList_pushC {ops : Array Oper} {rest : List Oper} {o : Oper} {a : Act} {Q : Exit → Act → World → Prop} (hgd : o.guard = none) (s x : Operand)
    (ho : o.op = .call { callee := .builtin .append, args := #[s, x], argTypes := #[44, 44] }) (lo : Nat) (w W : World) (v : Value) (L : List Ci4) (t : Ci4)
    (hs : a.eval s = v) (hlo : lo ≤ w.heap.size) (hO : OwnCis lo w.heap.size w v L) (hlen : L.length ≤ 1000000) (hx : a.eval x = .slice (some ⟨w.heap.size, 0, none⟩) 1 1)
    (hW : W = w.alloc (.cells #[.int .i64 t.1, .int .i64 t.2.1, .int .i64 t.2.2.1, .int .i64 t.2.2.2] 103))
    (h : ∀ g cap w', OwnCis lo w'.heap.size w' (.slice (some ⟨g, 0, none⟩) (L.length + 1) cap) (L ++ [t]) → w.grownBy w' v.ownBlock → lo ≤ g → wpList Try.prog ops Q rest (a.put o.dst (.slice (some ⟨g, 0, none⟩) (L.length + 1) cap)) w') :
    wpList Try.prog ops Q (o :: rest) a W := by
  obtain ⟨p, q, r, s4⟩ := t
  obtain ⟨i0, hi, hz0, hz1, hz2⟩ := info_parts Try.infoCi
  have hA := Later.alloc w (.cells #[.int .i64 p, .int .i64 q, .int .i64 r, .int .i64 s4] 103)
  have hown4 := hO.1.alloc (.cells #[.int .i64 p, .int .i64 q, .int .i64 r, .int .i64 s4] 103)
  have hnew := World.news_of_block (cs := #[.int .i64 p, .int .i64 q, .int .i64 r, .int .i64 s4]) (t := 103) (fr := (0, 0)) (heap_alloc_new w (.cells #[.int .i64 p, .int .i64 q, .int .i64 r, .int .i64 s4] 103))
  subst hW
  refine wpList_append_lies _ hgd s x _ ho lo 103 i0 (.agg #[.int .i64 0, .int .i64 0, .int .i64 0, .int .i64 0]) 4 32 Try.underlying44 hi hz0 hz1 hz2 rfl (by omega) v L.length (ciCells L) hs hown4 ⟨w.heap.size, 0, none⟩ 1 1 [.int .i64 p, .int .i64 q, .int .i64 r, .int .i64 s4] hx rfl hnew (by simp [Value.oneCell']) (by omega) (by unfold maxLen; omega) (by omega) (by simp; omega) (w.heap.size + 1) (by simp) ?_
  intro g' cap1 w7 hown7 hgrow hat hglt
  have hlg : lo ≤ g' := by
    rcases hat with e | e
    · exact (hown4.lt g' e).1
    · omega
  refine h g' cap1 w7 ⟨by rw [ciCells_snoc, List.length_append]; exact hown7, fun b hb => by simp [Value.ownBlock] at hb; subst hb; exact hglt⟩ ?_ hlg
  exact ⟨hgrow.os.trans hA.os, hgrow.tape.trans hA.tape, hgrow.output.trans hA.output, Nat.le_trans hA.size hgrow.size, fun k hk hne => (hgrow.block k (Nat.lt_of_lt_of_le hk hA.size) hne).trans (hA.block k hk)⟩
/-- a list of circles that a method of the cursor draws -/
def CurCisC (base : World) (B : Nat) (v : Value) (bs : List Int) (m : Nat) (e : Ending) (w' : World) : Prop :=
  ∃ u L, e = .returned u ∧ OwnCis (B + 1) w'.heap.size w' u L ∧ L.length ≤ 1000 ∧ Cur base w' B v bs m
theorem BdL.mono {B C : Int} {L : List Ci4} (h : BdL B L) (hBC : B ≤ C) : BdL C L := by
  intro i hi
  have := h i hi
  unfold Bd at this ⊢
  omega
theorem BdL.swap {B : Int} {L : List Ci4} (h : BdL B L) (h0 : 0 ≤ B) (hl : L.length = 4) {i : Nat} (hi : i < 4) : BdL (7 * B) (ciSwL L i) := by
  intro j hj
  by_cases e : j = i
  · subst e; rw [swL_same L j hl hj]; exact new_bd L j B hl hj h
  · rw [swL_other L i j e]
    exact (h.mono (show B ≤ 7 * B by omega)) j hj
theorem start_two {k : Int} (h : k = 0 ∨ k = 1) : ∃ S, startAns k = some S ∧ S.length = 4 ∧ BdL 4 S := by
  rcases h with rfl | rfl
  · refine ⟨_, rfl, rfl, fun i hi => ?_⟩
    rcases lt4 hi with rfl | rfl | rfl | rfl <;> simp [Bd]
  · refine ⟨_, rfl, rfl, fun i hi => ?_⟩
    rcases lt4 hi with rfl | rfl | rfl | rfl <;> simp [Bd]
set_option maxRecDepth 20000 in
set_option maxHeartbeats 8000000 in
theorem curConfig_any (base w : World) (B : Nat) (v : Value) (bs : List Int) (m : Nat) (hm : m ≤ 1000) (h : Cur base w B v bs m) :
    Calls Try.prog 78 #[.pointer (some ⟨B, 0, none⟩)] w fun e w' => CurCisC base B v bs (m + 200) e w' := by
  have H := hid h
  have HM := hid hm
  clear h hm
  go_enter Try.func78, Try.ntmps78
  go_wp2_with fail
  refine (curPick_any base w B v bs m 2 (by have := HM.out; omega) (by omega) H.out).mono ?_
  rintro e w1 ⟨k, rfl, k0, k1, hC, _⟩
  have HC1 := hid hC
  have HB1 := hid hC.ltG
  obtain ⟨S, hS, hSl, hSb⟩ := start_two (k := k) (by simp at k1; omega)
  have HST := hid (startS_any k w1)
  rw [hS] at HST
  have HSB := hid hSb
  have HSL := hid hSl
  clear hC k0 k1 hS hSl hSb
  go_wp2_with fail
  refine HST.out.mono ?_
  rintro e w2 ⟨vt, rfl, ho, hL2⟩
  have HO2 := hid (show OwnCis (B + 1) w2.heap.size w2 vt S from ho.wide HB1.out (Nat.le_refl _))
  have HC2 := hid (HC1.out.keep hL2)
  clear ho hL2 HST HC1
  go_wp2_with fail
  refine (curLitG_any base w2 B v bs _ [0, 0, 1, 2, 3, 5] (by have := HM.out; omega) (by simp) (by simp) HC2.out).mono ?_
  rintro e w3 ⟨n, rfl, hn, hC, hG⟩
  have HC3 := hid hC
  have HO3 := hid (HO2.out.keepG (Nat.lt_succ_self B) hG)
  have n1 : 0 ≤ n ∧ n ≤ 5 := by simp at hn; omega
  clear hn hC hG HC2 HO2
  go_wp2_with fail
  go_loopw [3, 5] (fun st sk wr => ∃ (L : List Ci4) (j : Nat) (D : Int), sk = .int .i64 j ∧ j ≤ 5 ∧ OwnCis (B + 1) wr.heap.size wr st L ∧ L.length = 4 ∧ BdL D L ∧ 0 ≤ D ∧ D * 7 ^ j ≤ 100000 ∧ Cur base wr B v bs (m + 40 - 2 * j)) (fun _ sk _ => (intOf sk).toNat)
  case atStart =>
    refine ⟨S, n.toNat, 4, by rw [Int.toNat_of_nonneg n1.1], by omega, HO3.out, HSL.out, HSB.out, by omega, ?_, HC3.out.mono (by omega)⟩
    have : n.toNat = 0 ∨ n.toNat = 1 ∨ n.toNat = 2 ∨ n.toNat = 3 ∨ n.toNat = 4 ∨ n.toNat = 5 := by omega
    rcases this with h | h | h | h | h | h <;> rw [h] <;> decide
  case round =>
    obtain ⟨L, j, D, rfl, hj, hO, hl, hb, hD, hDj, hC⟩ := hrel
    rcases hO.form with ⟨_, e⟩ | ⟨gl, cl, rfl⟩
    · exfalso; rw [e] at hl; simp at hl
    rw [hl] at hO ⊢
    have HB := hid hC.ltG
    have HC := hid hC
    have HO := hid hO
    have HLl := hid hl
    have HBD := hid hb
    clear hC hO hl hb
    cases j with
    | succ j =>
      have HJ := hid hj
      have hjw := wrapQ (q := (j : Int)) (by omega)
      have hp : (1 : Int) ≤ 7 ^ j := by
        have := Int.pow_pos (n := (7 : Int)) (m := j) (by omega)
        omega
      have hp2 : D * 7 ^ (j + 1) = 7 * D * 7 ^ j := by rw [Int.pow_succ]; grind
      have hD1 : D * 1 ≤ D * 7 ^ j := Int.mul_le_mul_of_nonneg_left hp hD
      have hD2 : 7 * D * 7 ^ j = 7 * (D * 7 ^ j) := by grind
      have HD := hid (show 0 ≤ 7 * D ∧ 7 * D * 7 ^ j ≤ 100000 ∧ D ≤ 1000000 by omega)
      clear hj hp hp2 hD1 hD2 hDj
      go_wp2_with fail
      refine (curPick_any base wr B v bs _ 4 (by have := HM.out; omega) (by omega) HC.out).mono ?_
      rintro e w4 ⟨q, rfl, q0, q1, hC, hG⟩
      obtain ⟨i, rfl⟩ : ∃ i : Nat, q = (i : Int) := ⟨q.toNat, by omega⟩
      have hi4 : i < 4 := by simp at q1; omega
      have HC4 := hid hC
      have HO4 := hid (HO.out.keepG (Nat.lt_succ_self B) hG)
      have HB4 := hid hC.ltG
      clear hC hG q0 q1 HC HO
      go_wp2_with fail
      refine (ciSwap_any _ L i w4 hi4 HLl.out (HBD.out.mono HD.out.2.2) HO4.out.cis).mono ?_
      rintro e w5 ⟨v5, rfl, ho5, hL5⟩
      have HO5 := hid (show OwnCis (B + 1) w5.heap.size w5 v5 (ciSwL L i) from ho5.wide HB4.out (Nat.le_refl _))
      have HC5 := hid (HC4.out.keep hL5)
      have HBS := hid (HBD.out.swap hD HLl.out hi4)
      clear ho5 hL5 HC4 HO4
      go_wp2_with fail
      go_roundw
      case rel => exact ⟨ciSwL L i, j, 7 * D, by go_num, by have := HJ.out; omega, HO5.out, swL_len4 L i HLl.out, HBS.out, HD.out.1, HD.out.2.1, HC5.out.mono (by have := HJ.out; omega)⟩
      case measure => simp [intOf]
    | zero =>
      have HC0 := hid (HC.out.mono (show m + 40 - 2 * 0 ≤ m + 40 by omega))
      clear HC HBD hDj hD hj
      go_wp2_with fail
      refine (curOneG_any base wr B v bs _ 3 (by have := HM.out; omega) (by omega) HC0.out).mono ?_
      rintro e w6 ⟨b, rfl, hC, hG⟩
      have HC6 := hid hC
      have HO6 := hid (HO.out.keepG (Nat.lt_succ_self B) hG)
      have HB6 := hid hC.ltG
      clear hC hG HO HC0
      go_upto_if 33 with fail
      go_cut [3] (fun l wx => ∃ M : List Ci4, OwnCis (B + 1) wx.heap.size wx l M ∧ M.length ≤ 4 ∧ Cur base wx B v bs (m + 90))
      case first =>
        cases b
        · go_wp2_with fail
          go_meet
          case rel => exact ⟨L, HO6.out, by have := HLl.out; omega, HC6.out.mono (by omega)⟩
        · go_wp2_with fail
          refine (curPick_any base w6 B v bs _ 5 (by have := HM.out; omega) (by omega) HC6.out).mono ?_
          rintro e w7 ⟨x, rfl, x0, x1, hC, hG⟩
          have HC7 := hid hC
          have HO7 := hid (HO6.out.keepG (Nat.lt_succ_self B) hG)
          have x2 : x ≤ 4 := by simpa using x1
          clear hC hG x1
          obtain ⟨X, hX⟩ : ∃ A, x - 2 = A := ⟨_, rfl⟩
          have hXw := wrapQ (q := X) (by omega)
          go_wp2_with fail
          refine (curPick_any base w7 B v bs _ 5 (by have := HM.out; omega) (by omega) HC7.out).mono ?_
          rintro e w8 ⟨y, rfl, y0, y1, hC, hG⟩
          have HC8 := hid (hC.mono (n := m + 80) (by omega))
          have HO8 := hid (HO7.out.keepG (Nat.lt_succ_self B) hG)
          have HB8 := hid hC.ltG
          have y2 : y ≤ 4 := by simpa using y1
          clear hC hG y1 HC7 HO7 HC6 HO6
          obtain ⟨Y, hY⟩ : ∃ A, y - 2 = A := ⟨_, rfl⟩
          have hYw := wrapQ (q := Y) (by omega)
          obtain ⟨H1, hH1⟩ : ∃ H, w8.heap.size = H := ⟨_, rfl⟩
          rw [hH1] at HO8 HB8
          have HH1 := hid hH1
          clear hH1
          go_wp2_with fail
          go_loopw [7, 42] (fun mv ix wr => ∃ (P : List Ci4) (j : Nat), ix = .int .i64 j ∧ j ≤ 4 ∧ OwnCis H1 wr.heap.size wr mv P ∧ P.length ≤ j ∧ OwnCis (B + 1) H1 wr (.slice (some ⟨gl, 0, none⟩) 4 cl) L ∧ Cur base wr B v bs (m + 80) ∧ H1 ≤ wr.heap.size) (fun _ ix _ => 4 - (intOf ix).toNat)
          case atStart => exact ⟨[], 0, rfl, by omega, OwnCis.nothing _ _ _, by simp, HO8.out, HC8.out, by rw [HH1.out]; exact Nat.le_refl _⟩
          case round =>
            obtain ⟨P, j, rfl, hj4, hP, hPl, hOL, hC, hsz⟩ := hrel
            obtain ⟨ap, cp, rfl, _⟩ := hP.shape
            have HP := hid hP
            have HPL := hid hPl
            have HOL := hid hOL
            have HC := hid hC
            have HSZ := hid hsz
            clear hP hPl hOL hC hsz
            by_cases hlt : j < 4
            · have hltI : (j : Int) < 4 := by omega
              obtain ⟨⟨d0, d1, d2, d3⟩, _, _, _, _⟩ := HOL.out.openAt HLl.out j hlt
              obtain ⟨c, hc⟩ : ∃ c, L.getD j c00 = c := ⟨_, rfl⟩
              rw [hc] at d0 d1 d2 d3
              obtain ⟨p, q, r, s⟩ := c
              simp only at d0 d1 d2 d3
              obtain ⟨o, ho⟩ : ∃ o, shiftAns (p, q, r, s) X Y = o := ⟨_, rfl⟩
              obtain ⟨t, ht⟩ : ∃ t, o.isSome = t := ⟨_, rfl⟩
              obtain ⟨z, hz⟩ : ∃ t, o.getD c00 = t := ⟨_, rfl⟩
              obtain ⟨p', q', r', s'⟩ := z
              have HSH := hid (fun w' => shiftS_any p q r s X Y w')
              unfold CiAns at HSH
              rw [ho, ht, hz] at HSH
              clear hc ho ht hz
              go_wp2_with fail
              refine (HSH.out _).mono ?_
              rintro e w9 ⟨rfl, hL9⟩
              have HL9 := hid ((Later.alloc wr (.cells #[.int .i64 p, .int .i64 q, .int .i64 r, .int .i64 s] 103)).trans hL9)
              clear hL9 d0 d1 d2 d3
              go_upto_region 14 with fail
              obtain ⟨b0, b1, b2, b3⟩ := CBox.new w9 p' q' r' s' 103
              have HL10 := hid (HL9.out.trans (Later.alloc w9 (.cells #[.int .i64 p', .int .i64 q', .int .i64 r', .int .i64 s'] 103)))
              obtain ⟨B12, hB12⟩ : ∃ H, w9.heap.size = H := ⟨_, rfl⟩
              rw [hB12] at b0 b1 b2 b3 ⊢
              generalize w9.alloc (.cells #[.int .i64 p', .int .i64 q', .int .i64 r', .int .i64 s'] 103) = w10 at b0 b1 b2 b3 HL10 ⊢
              have HP10 := hid ((HP.out.later HL10.out).wide (Nat.le_refl _) HL10.out.size)
              have HOL10 := hid (HOL.out.later HL10.out)
              have HC10 := hid (HC.out.keep HL10.out)
              have HS10 := hid (show H1 ≤ w10.heap.size from Nat.le_trans HSZ.out HL10.out.size)
              have HJ := hid hlt
              clear hB12 HL9 HSH
              cases t
              · go_wp2_with fail
                go_roundw
                case rel => exact ⟨P, j + 1, by go_num, HJ.out, HP10.out, by have := HPL.out; omega, HOL10.out, HC10.out, HS10.out⟩
                case measure => simp [intOf]; omega
              · have hPn : P.length ≤ 1000000 := by have := HPL.out; omega
                have HPN := hid hPn
                clear hPn
                go_wp2_with (at_builtin; refine wpList_pushC (by rfl) _ _ (by rfl) H1 w10 _ (.slice ap P.length cp) P (p', q', r', s') (by rfl) HS10.out HP10.out HPN.out (by rfl) rfl ?_)
                intro g2 cc w11 hO11 hG11 _
                have HO11 := hid hO11
                have HOL11 := hid (show OwnCis (B + 1) H1 w11 (.slice (some ⟨gl, 0, none⟩) 4 cl) L from HOL10.out.keep fun b h1 h2 => hG11.block b (by have := HS10.out; omega) (fun e => by have := HP10.out.ownG b e.symm; omega))
                have HC11 := hid (HC10.out.besideG HB8.out HP10.out.ownG hG11)
                have HS11 := hid (Nat.le_trans HS10.out hG11.size)
                clear hO11 hG11 b0 b1 b2 b3
                go_wp2_with fail
                go_roundw
                case rel => exact ⟨P ++ [(p', q', r', s')], j + 1, by go_num, HJ.out, by simpa using HO11.out, by have := HPL.out; simp; omega, HOL11.out, HC11.out, HS11.out⟩
                case measure => simp [intOf]; omega
            · obtain rfl : j = 4 := by omega
              go_wp2_with fail
              go_meet
              case rel => exact ⟨P, HP.out.wide HB8.out (Nat.le_refl _), HPL.out, HC.out.mono (by omega)⟩
      case rest =>
      obtain ⟨M, hO, hMl, hC⟩ := hcut
      obtain ⟨am, cm, rfl, _⟩ := hO.shape
      have HO := hid hO
      have HC := hid hC
      have HML := hid hMl
      clear hO hC hMl HO6 HC6 HB6
      go_wp2_with fail
      refine (curPick_any base _ B v bs _ 20 (by have := HM.out; omega) (by omega) HC.out).mono ?_
      rintro e w7 ⟨c, rfl, c0, c1, hC, hG⟩
      have HC7 := hid hC
      have HO7 := hid (HO.out.keepG (Nat.lt_succ_self B) hG)
      have HB7 := hid hC.ltG
      clear hC hG c1 HO HC
      by_cases e0 : c = 0
      · subst e0
        clear c0
        obtain ⟨n, hn⟩ : ∃ n, M.length = n := ⟨_, rfl⟩
        have HN := hid hn
        rw [hn] at HO7 ⊢
        by_cases h0 : 0 < n
        · obtain ⟨gm, rfl⟩ : ∃ g, am = some ⟨g, 0, none⟩ := by
            rcases HO7.out.form with ⟨_, e⟩ | ⟨g, cap, e⟩
            · rw [e] at hn; simp at hn; omega
            · simp only [Value.slice.injEq] at e; exact ⟨g, e.1⟩
          have h0I : (0 : Int) < (n : Int) := by omega
          have hn4 : n ≤ 4 := by rw [← hn]; exact HML.out
          clear hn
          go_wp2_with fail
          refine (curPick_any base w7 B v bs _ (n : Int) (by have := HM.out; omega) (by omega) HC7.out).mono ?_
          rintro e w8 ⟨q, rfl, q0, q1, hC, hG⟩
          obtain ⟨i, rfl⟩ : ∃ i : Nat, q = (i : Int) := ⟨q.toNat, by omega⟩
          have hin : i < n := by split at q1 <;> omega
          have HC8 := hid hC
          have HO8 := hid (HO7.out.keepG (Nat.lt_succ_self B) hG)
          clear hC hG q0 q1 HC7 HO7
          go_wp2_with fail
          refine (curPick_any base w8 B v bs _ 3 (by have := HM.out; omega) (by omega) HC8.out).mono ?_
          rintro e w9 ⟨x, rfl, x0, x1, hC, hG⟩
          have HC9 := hid hC
          have HO9 := hid (HO8.out.keepG (Nat.lt_succ_self B) hG)
          clear hC hG x0 x1 HC8 HO8
          go_wp2_with fail
          refine (curPick_any base w9 B v bs _ 3 (by have := HM.out; omega) (by omega) HC9.out).mono ?_
          rintro e w10 ⟨y, rfl, y0, y1, hC, hG⟩
          have HC10 := hid hC
          have HO10 := hid (HO9.out.keepG (Nat.lt_succ_self B) hG)
          have y2 : y ≤ 2 := by simpa using y1
          clear hC hG y1 HC9 HO9
          obtain ⟨Y, hY⟩ : ∃ A, y - 1 = A := ⟨_, rfl⟩
          have hYw := wrapQ (q := Y) (by omega)
          have hi0 : (0 : Int) ≤ (i : Int) := by omega
          have hiI : (i : Int) < (n : Int) := by omega
          obtain ⟨⟨d0, d1, d2, d3⟩, f0, f1, f2, f3⟩ := HO10.out.openAt HN.out i hin
          have HPUT := hid (OwnCis.put (by rw [HN.out]; exact HO10.out) i (by rw [HN.out]; exact hin) x Y 1 0)
          rw [HN.out] at HPUT
          have hgB := HO10.out.ownG gm rfl
          have HGB := hid hgB
          clear y0 y2
          go_wp2_with fail
          go_ret
          exact ⟨_, M.set i (x, Y, 1, 0), rfl, HPUT.out.wide (Nat.le_refl _) (by simp), by have := HML.out; simp; omega, (HC10.out.keepG (set4_far _ _ _ _ _ _ _ _ (by have := HGB.out; omega)) (set4_later HC10.out.later (by have := HGB.out; have := HC10.out.behind; omega) _ _ _ _ _)).mono (by omega)⟩
        · have h0I : ¬ (0 : Int) < (n : Int) := by omega
          have hnn := HN.out
          clear hn
          go_wp2_with fail
          go_ret
          exact ⟨_, M, rfl, by rw [HN.out] at *; exact HO7.out, by have := HML.out; omega, HC7.out.mono (by omega)⟩
      · have e0' : (c == 0) = false := by simp [e0]
        by_cases e1 : c = 1
        · subst e1
          clear c0 e0
          have HPN := hid (show M.length ≤ 1000000 by have := HML.out; omega)
          go_wp2_with (at_builtin; refine wpList_pushC (by rfl) _ _ (by rfl) (B + 1) w7 _ (.slice am M.length cm) M (0, 0, 0, 1) (by rfl) HB7.out HO7.out HPN.out (by rfl) rfl ?_)
          intro g2 cc w8 hO8 hG8 _
          have HO8 := hid hO8
          have HC8 := hid (HC7.out.besideG (Nat.lt_succ_self B) HO7.out.ownG hG8)
          clear hO8 hG8
          go_wp2_with fail
          go_ret
          exact ⟨_, M ++ [(0, 0, 0, 1)], rfl, by simpa using HO8.out, by have := HML.out; simp; omega, HC8.out.mono (by omega)⟩
        · have e1' : (c == 1) = false := by simp [e1]
          by_cases e2 : c = 2
          · subst e2
            go_wp2_with fail
            go_ret
            exact ⟨_, [], rfl, OwnCis.nothing _ _ _, by simp, HC7.out.mono (by omega)⟩
          · have e2' : (c == 2) = false := by simp [e2]
            go_wp2_with fail
            go_ret
            exact ⟨_, M, rfl, HO7.out, by have := HML.out; omega, HC7.out.mono (by omega)⟩
end Go.Proofs.Ytoaopmafokoaoaa
