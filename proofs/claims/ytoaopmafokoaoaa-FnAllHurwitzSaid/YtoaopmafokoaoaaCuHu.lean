/- What the model draws for equations of Hurwitz: a factor and a rest; a list that is mostly a solution. -/
import Derived.Test.YtoaopmafokoaoaaCuGT
import Derived.Test.YtoaopmafokoaoaaHuUVW
namespace Go.Proofs.Ytoaopmafokoaoaa
open Go.RowKit

def CurTwoG (base : World) (B : Nat) (v : Value) (bs : List Int) (m : Nat) (w : World) (e : Ending) (w' : World) : Prop :=
  ∃ a b : Int, e = .returned (.tuple #[.int .i64 a, .int .i64 b]) ∧ Cur base w' B v bs m ∧ w.grownBy w' (some B)
set_option maxRecDepth 20000 in
set_option maxHeartbeats 4000000 in
theorem curGiven_any (base w : World) (B : Nat) (v : Value) (bs : List Int) (m : Nat) (hm : m ≤ 1000) (h : Cur base w B v bs m) :
    Calls Try.prog 62 #[.pointer (some ⟨B, 0, none⟩)] w fun e w' => CurTwoG base B v bs (m + 8) w e w' := by
  have H := hid h
  have HM := hid hm
  clear h hm
  go_enter Try.func62, Try.ntmps62
  go_wp2_with fail
  refine (curPick_any base w B v bs m 4 (by have := HM.out; omega) (by omega) H.out).mono ?_
  rintro e w1 ⟨p, rfl, p0, p1, hC, hG⟩
  have HC1 := hid hC
  have HG1 := hid hG
  have p2 : p ≤ 3 := by simpa using p1
  clear hC hG p1
  obtain ⟨A, hA⟩ : ∃ A, 1 + p = A := ⟨_, rfl⟩
  have hAw := wrapQ (q := A) (by omega)
  go_wp2_with fail
  refine (curLitG_any base w1 B v bs _ [0, 0, 0, 1, 2, -1, 5, -3] (by have := HM.out; omega) (by simp) (by simp) HC1.out).mono ?_
  rintro e w2 ⟨b, rfl, _, hC, hG⟩
  have HC2 := hid hC
  have HG2 := hid (grown_trans HG1.out hG)
  clear hC hG hA
  go_wp2_with fail
  refine (curPick_any base w2 B v bs _ 14 (by have := HM.out; omega) (by omega) HC2.out).mono ?_
  rintro e w3 ⟨c, rfl, c0, c1, hC, hG⟩
  have HC3 := hid hC
  have HG3 := hid (grown_trans HG2.out hG)
  clear hC hG c1
  by_cases e0 : c = 0
  · subst e0
    go_wp2_with fail
    refine (curLitG_any base w3 B v bs _ [-1, 0, 20, 21] (by have := HM.out; omega) (by simp) (by simp) HC3.out).mono ?_
    rintro e w4 ⟨z, rfl, _, hC, hG⟩
    have HC4 := hid (hC.mono (n := m + 8) (by omega))
    have HG4 := hid (grown_trans HG3.out hG)
    clear hC hG
    go_wp2_with fail
    go_ret2
    exact ⟨z, b, rfl, HC4.out, HG4.out⟩
  · have e0' : (c == 0) = false := by simp [e0]
    by_cases e1 : c = 1
    · subst e1
      go_wp2_with fail
      refine (curLitG_any base w3 B v bs _ [-51, -50, 50, 51] (by have := HM.out; omega) (by simp) (by simp) HC3.out).mono ?_
      rintro e w4 ⟨z, rfl, _, hC, hG⟩
      have HC4 := hid (hC.mono (n := m + 8) (by omega))
      have HG4 := hid (grown_trans HG3.out hG)
      clear hC hG
      go_wp2_with fail
      go_ret2
      exact ⟨A, z, rfl, HC4.out, HG4.out⟩
    · have e1' : (c == 1) = false := by simp [e1]
      go_wp2_with fail
      go_ret2
      exact ⟨A, b, rfl, HC3.out.mono (by omega), HG3.out⟩
theorem hu_bd : ∀ p : Fin 4, ∀ q : Fin 3, ∀ r : Fin 2, ∀ t : Fin 2, ∀ a : Fin 3,
    -50 ≤ ((p.val : Int) + 1) * (p.val + 1) + (q.val + 1) * (q.val + 1) + (r.val + 1) * (r.val + 1) + t.val - (a.val + 1) * ((p.val + 1) * ((q.val + 1) * (r.val + 1))) ∧
    ((p.val : Int) + 1) * (p.val + 1) + (q.val + 1) * (q.val + 1) + (r.val + 1) * (r.val + 1) + t.val - (a.val + 1) * ((p.val + 1) * ((q.val + 1) * (r.val + 1))) ≤ 50 ∧
    ((a.val : Int) + 1) * ((p.val + 1) * ((q.val + 1) * (r.val + 1))) ≤ 72 := by decide
theorem hu_num {x : Int} {n : Nat} (h0 : 1 ≤ x) (h1 : x ≤ n) : ∃ i : Fin n, x = (i.val : Int) + 1 := ⟨⟨(x - 1).toNat, by omega⟩, by simp only; omega⟩
/-- the drawn list, with the rest that fits -/
theorem hu_drawn {p q r a : Int} {t : Nat} (hp : 1 ≤ p ∧ p ≤ 4) (hq : 1 ≤ q ∧ q ≤ 3) (hr : 1 ≤ r ∧ r ≤ 2) (ht : t = 0 ∨ t = 1) (ha : 1 ≤ a ∧ a ≤ 3) {L zs : List Int} (hL : L = [p, q, r] ++ List.replicate t 1) (hz : zs = sortD L) :
    In5 zs ∧ Sol zs a (sqs zs - capP a zs) ∧ zs.length ≤ 4 := by
  have hperm : zs.Perm L := by rw [hz]; exact sortD_perm L
  have hlen : L.length = 3 ∨ L.length = 4 := by rcases ht with rfl | rfl <;> simp [hL]
  have hlz : zs.length = L.length := hperm.length_eq
  have hin : In5 zs := by
    intro z hz2
    have := hperm.mem_iff.1 hz2
    rw [hL] at this
    rcases ht with rfl | rfl <;> simp at this <;> omega
  have hs : sqs zs = p * p + q * q + r * r + t := by
    rw [sqs_perm hperm, hL]
    rcases ht with rfl | rfl <;> simp [sqs] <;> omega
  have hpr : prodL zs = p * (q * r) := by
    rw [prodL_perm hperm, hL]
    rcases ht with rfl | rfl <;> simp [prodL_cons, prodL_nil]
  obtain ⟨i, rfl⟩ := hu_num (n := 4) hp.1 hp.2
  obtain ⟨j, rfl⟩ := hu_num (n := 3) hq.1 hq.2
  obtain ⟨k, rfl⟩ := hu_num (n := 2) hr.1 hr.2
  obtain ⟨l, rfl⟩ := hu_num (n := 3) ha.1 ha.2
  obtain ⟨b1, b2, b3⟩ := hu_bd i j k ⟨t, by omega⟩ l
  simp only at b1 b2
  have hc : capP ((l.val : Int) + 1) zs = ((l.val : Int) + 1) * prodL zs := by
    rw [capP_eq zs _ ha.1 (by omega) hin]
    unfold leastI
    rw [if_pos (by rw [hpr]; omega)]
  refine ⟨hin, ⟨by omega, ?_, by omega, ?_, ?_⟩, by omega⟩
  · rw [hc, hs, hpr]; exact ⟨b1, b2⟩
  · rw [fallB_iff (by omega)]
    refine ⟨by rw [hz]; exact sortD_dn L, fun z hz2 => hin z hz2⟩
  · rw [hc]; omega
theorem sol_lit1 : Sol [1, 1, 1] 3 0 := ⟨by omega, by omega, by simp, by decide, by decide⟩
theorem sol_lit2 : Sol [1, 1, 1, 1] 4 0 := ⟨by omega, by omega, by simp, by decide, by decide⟩
theorem sol_lit3 : Sol [3, 3, 3] 1 0 := ⟨by omega, by omega, by simp, by decide, by decide⟩
theorem sol_lit4 : Sol [2, 2, 2, 2] 1 0 := ⟨by omega, by omega, by simp, by decide, by decide⟩
/-- a list and two numbers that the cursor draws -/
def CurHur (base : World) (B : Nat) (v : Value) (bs : List Int) (m : Nat) (e : Ending) (w' : World) : Prop :=
  ∃ u zs, ∃ a b : Int, e = .returned (.tuple #[u, .int .i64 a, .int .i64 b]) ∧ OwnInts (B + 1) w'.heap.size w' u zs ∧ zs.length ≤ 4 ∧ Cur base w' B v bs m
theorem OwnInts.addrG {lo hi : Nat} {w : World} {v : Value} {zs : List Int} (h : OwnInts lo hi w v zs) (hl : 0 < zs.length) : ∃ g c, v = .slice (some ⟨g, 0, none⟩) zs.length c := by
  obtain ⟨a, c, e, _, _, _, hsh⟩ := ownsRow_shape h.1
  obtain ⟨g, rfl, _⟩ := hsh 0 hl
  exact ⟨g, c, e⟩
set_option maxRecDepth 20000 in
set_option maxHeartbeats 8000000 in
theorem curHurwitz_any (base w : World) (B : Nat) (v : Value) (bs : List Int) (m : Nat) (hm : m ≤ 500) (h : Cur base w B v bs m) :
    Calls Try.prog 43 #[.pointer (some ⟨B, 0, none⟩)] w fun e w' => CurHur base B v bs (m + 100) e w' := by
  have H := hid h
  have HM := hid hm
  clear h hm
  go_enter Try.func43, Try.ntmps43
  go_wp2_with fail
  refine (curPick_any base w B v bs m 4 (by have := HM.out; omega) (by omega) H.out).mono ?_
  rintro e w1 ⟨p, rfl, p0, p1, hC, _⟩
  have HC1 := hid hC
  have p2 : p ≤ 3 := by simpa using p1
  clear hC p1
  obtain ⟨P, hP⟩ : ∃ A, 1 + p = A := ⟨_, rfl⟩
  have hPw := wrapQ (q := P) (by omega)
  have hPb : 1 ≤ P ∧ P ≤ 4 := by omega
  go_wp2_with fail
  refine (curPick_any base w1 B v bs _ 3 (by have := HM.out; omega) (by omega) HC1.out).mono ?_
  rintro e w2 ⟨q, rfl, q0, q1, hC, _⟩
  have HC2 := hid hC
  have q2 : q ≤ 2 := by simpa using q1
  clear hC q1
  obtain ⟨Q, hQ⟩ : ∃ A, 1 + q = A := ⟨_, rfl⟩
  have hQw := wrapQ (q := Q) (by omega)
  have hQb : 1 ≤ Q ∧ Q ≤ 3 := by omega
  go_wp2_with fail
  refine (curPick_any base w2 B v bs _ 2 (by have := HM.out; omega) (by omega) HC2.out).mono ?_
  rintro e w3 ⟨r, rfl, r0, r1, hC, _⟩
  have HC3 := hid hC
  have r2 : r ≤ 1 := by simpa using r1
  have HB3 := hid hC.ltG
  clear hC r1
  obtain ⟨R, hR⟩ : ∃ A, 1 + r = A := ⟨_, rfl⟩
  have hRw := wrapQ (q := R) (by omega)
  have hRb : 1 ≤ R ∧ R ≤ 2 := by omega
  go_upto_region 2 with fail
  clear hP hQ hR p0 p2 q0 q2 r0 r2 hPw hQw hRw HC1 HC2
  have HO4 := hid (ownInts_litG w3 (B + 1) HB3.out [P, Q, R] (by simp))
  have HC4 := hid (HC3.out.allocG (.cells #[.int .i64 P, .int .i64 Q, .int .i64 R] 3))
  obtain ⟨g0, hg0⟩ : ∃ g, w3.heap.size = g := ⟨_, rfl⟩
  have HO4b := hid (show OwnInts (B + 1) (w3.alloc (.cells #[.int .i64 P, .int .i64 Q, .int .i64 R] 3)).heap.size (w3.alloc (.cells #[.int .i64 P, .int .i64 Q, .int .i64 R] 3)) (.slice (some ⟨g0, 0, none⟩) 3 3) [P, Q, R] by rw [← hg0]; exact HO4.out)
  rw [hg0]
  clear HO4 hg0 HC3 HB3
  generalize w3.alloc (.cells #[.int .i64 P, .int .i64 Q, .int .i64 R] 3) = w4 at HO4b HC4 ⊢
  go_cut [6, 7] (fun a b wx => a = .int .i64 3 ∧ b = .int .i64 0 ∧ wx = w4)
  case first =>
    go_wp2_with fail
    go_meet
    case rel => exact ⟨rfl, rfl, rfl⟩
  case rest =>
  rename_i K hK
  obtain ⟨rfl, rfl, rfl⟩ := hcut
  refine hK _ _ ?_
  apply wp_seq_k
  intro K2 hK2
  go_cut [5, 6, 7] (fun l a b wx => ∃ zs α β, OwnInts (B + 1) wx.heap.size wx l zs ∧ a = .int .i64 α ∧ b = .int .i64 β ∧ Sol zs α β ∧ Cur base wx B v bs (m + 30))
  case first =>
    go_wp2_with fail
    refine (curPick_any base _ B v bs _ 6 (by have := HM.out; omega) (by omega) HC4.out).mono ?_
    rintro e w5 ⟨c, rfl, c0, c1, hC, hG⟩
    have HC5 := hid hC
    have HO5 := hid (HO4b.out.keepG (Nat.lt_succ_self B) hG)
    have HB5 := hid hC.ltG
    clear hC hG c1 HC4 HO4b
    by_cases e0 : c = 0
    · subst e0
      go_wp2_with fail
      go_meet
      case rel => exact ⟨[1, 1, 1], 3, 0, ownInts_litG w5 (B + 1) HB5.out [1, 1, 1] (by simp), rfl, rfl, sol_lit1, (HC5.out.allocG _).mono (by omega)⟩
    · have e0' : (c == 0) = false := by simp [e0]
      by_cases e1 : c = 1
      · subst e1
        go_wp2_with fail
        go_meet
        case rel => exact ⟨[1, 1, 1, 1], 4, 0, ownInts_litG w5 (B + 1) HB5.out [1, 1, 1, 1] (by simp), rfl, rfl, sol_lit2, (HC5.out.allocG _).mono (by omega)⟩
      · have e1' : (c == 1) = false := by simp [e1]
        by_cases e2 : c = 2
        · subst e2
          go_wp2_with fail
          go_meet
          case rel => exact ⟨[3, 3, 3], 1, 0, ownInts_litG w5 (B + 1) HB5.out [3, 3, 3] (by simp), rfl, rfl, sol_lit3, (HC5.out.allocG _).mono (by omega)⟩
        · have e2' : (c == 2) = false := by simp [e2]
          by_cases e3 : c = 3
          · subst e3
            go_wp2_with fail
            go_meet
            case rel => exact ⟨[2, 2, 2, 2], 1, 0, ownInts_litG w5 (B + 1) HB5.out [2, 2, 2, 2] (by simp), rfl, rfl, sol_lit4, (HC5.out.allocG _).mono (by omega)⟩
          · have e3' : (c == 3) = false := by simp [e3]
            clear e0 e1 e2 e3
            go_wp2_with fail
            refine (curOneG_any base w5 B v bs _ 2 (by have := HM.out; omega) (by omega) HC5.out).mono ?_
            rintro e w6 ⟨co, rfl, hC, hG⟩
            have HC6 := hid hC
            have HO6 := hid (HO5.out.keepG (Nat.lt_succ_self B) hG)
            have HB6 := hid hC.ltG
            clear hC hG HC5 HO5
            go_upto_if 24 with fail
            go_cut [5] (fun l wx => ∃ t, (t = 0 ∨ t = 1) ∧ OwnInts (B + 1) wx.heap.size wx l ([P, Q, R] ++ List.replicate t 1) ∧ Cur base wx B v bs (m + 20))
            case first =>
              cases co
              · go_wp2_with fail
                go_meet
                case rel => exact ⟨0, .inl rfl, HO6.out, HC6.out.mono (by omega)⟩
              · go_wp2_with (at_builtin; refine wpList_pushG (by rfl) _ _ (by rfl) (B + 1) w6 _ (.slice (some ⟨g0, 0, none⟩) 3 3) [P, Q, R] 1 (by rfl) HB6.out HO6.out (by simp) (by rfl) rfl ?_)
                intro g2 cc w8 hO8 hG8 _
                have HO8 := hid hO8
                have HC8 := hid (HC6.out.besideG (Nat.lt_succ_self B) HO6.out.ownG hG8)
                clear hO8 hG8
                go_wp2_with fail
                go_meet
                case rel => exact ⟨1, .inr rfl, HO8.out, HC8.out.mono (by omega)⟩
            case rest =>
            obtain ⟨t, ht, hO, hC⟩ := hcut
            obtain ⟨L, hL⟩ : ∃ L, [P, Q, R] ++ List.replicate t 1 = L := ⟨_, rfl⟩
            rw [hL] at hO
            have hLl : L.length ≤ 4 := by rcases ht with rfl | rfl <;> simp [← hL]
            obtain ⟨gl, cl, rfl⟩ := hO.addrG (by rcases ht with rfl | rfl <;> simp [← hL])
            have HC7 := hid hC
            have HB7 := hid hC.ltG
            have HLL := hid hL
            have HT := hid ht
            have HSO := hid (huSort_any _ L wc hLl hO.ints)
            clear hO hC hL ht HC6 HO6 HB6
            go_wp2_with fail
            refine HSO.out.mono ?_
            rintro e w9 ⟨v9, rfl, hO9, hL9⟩
            obtain ⟨Z, hZ⟩ : ∃ Z, sortD L = Z := ⟨_, rfl⟩
            have HZ := hid hZ
            rw [hZ] at hO9
            have HO9 := hid (show OwnInts (B + 1) w9.heap.size w9 v9 Z from hO9.wide HB7.out (Nat.le_refl _))
            have HC9 := hid (HC7.out.keep hL9)
            clear hO9 hL9 hZ HSO HC7
            go_wp2_with fail
            refine (curPick_any base w9 B v bs _ 3 (by have := HM.out; omega) (by omega) HC9.out).mono ?_
            rintro e w10 ⟨x, rfl, x0, x1, hC, hG⟩
            have HC10 := hid hC
            have HO10 := hid (HO9.out.keepG (Nat.lt_succ_self B) hG)
            have x2 : x ≤ 2 := by simpa using x1
            obtain ⟨A, hA⟩ : ∃ A, 1 + x = A := ⟨_, rfl⟩
            have hAw := wrapQ (q := A) (by omega)
            have hA13 : 1 ≤ A ∧ A ≤ 3 := by omega
            obtain ⟨hin, hsol, hl4⟩ := hu_drawn hPb hQb hRb HT.out hA13 HLL.out.symm HZ.out.symm
            obtain ⟨S, hS⟩ : ∃ S, sqs Z = S := ⟨_, rfl⟩
            obtain ⟨C, hCc⟩ : ∃ S, capP A Z = S := ⟨_, rfl⟩
            have HSQ := hid (fun w0 (h : Ints w0 v9 Z) => huSquares_any v9 Z w0 hin hl4 h)
            have HPR := hid (fun w0 (h : Ints w0 v9 Z) => huProduct_any v9 Z A w0 (by omega) hin h)
            rw [hS] at HSQ hsol
            rw [hCc] at HPR hsol
            have hb := hsol.hb
            have hSCw := wrapQ (q := S - C) (by omega)
            have HSOL := hid hsol
            clear hC hG x1 HC9 HO9 hin hsol hl4 hS hCc hb
            go_wp2_with fail
            refine (HSQ.out _ HO10.out.ints).mono ?_
            rintro e w11 ⟨rfl, rfl⟩
            go_wp2_with fail
            refine (HPR.out _ HO10.out.ints).mono ?_
            rintro e w11 ⟨rfl, rfl⟩
            go_wp2_with fail
            go_meet
            case rel => exact ⟨Z, A, S - C, HO10.out, rfl, rfl, HSOL.out, HC10.out.mono (by omega)⟩
  case rest =>
  obtain ⟨zs, a, b, hO, rfl, rfl, hS, hC⟩ := hcut
  have HO5 := hid hO
  have HS5 := hid hS
  have HC5 := hid hC
  clear hO hS hC HO4b HC4
  go_wp2_with fail
  refine (curPick_any base wc B v bs _ 7 (by have := HM.out; omega) (by omega) HC5.out).mono ?_
  rintro e w6 ⟨n, rfl, n0, n1, hC, hG⟩
  have HC6 := hid hC
  have HO6 := hid (HO5.out.keepG (Nat.lt_succ_self B) hG)
  have n2 : n ≤ 6 := by simpa using n1
  clear hC hG n1 HC5 HO5
  go_wp2_with fail
  go_loopw [5, 8] (fun l k wr => ∃ (zs : List Int) (j : Nat), k = .int .i64 j ∧ j ≤ 6 ∧ OwnInts (B + 1) wr.heap.size wr l zs ∧ Sol zs a b ∧ Cur base wr B v bs (m + 60 - 2 * j)) (fun _ k _ => (intOf k).toNat)
  case atStart => exact ⟨zs, n.toNat, by rw [Int.toNat_of_nonneg n0], by omega, HO6.out, HS5.out, HC6.out.mono (by omega)⟩
  case round =>
    obtain ⟨ys, j, rfl, hj, hO, hS, hC⟩ := hrel
    have hyl := hS.hl
    obtain ⟨g, cg, rfl⟩ := hO.addrG (by omega)
    have HO := hid hO
    have HS := hid hS
    have HC := hid hC
    have HB := hid hC.ltG
    clear hO hS hC
    cases j with
    | succ j =>
      have HJ := hid hj
      have hjw := wrapQ (q := (j : Int)) (by omega)
      clear hj
      go_wp2_with fail
      refine (curPick_any base wr B v bs _ (ys.length : Int) (by have := HM.out; omega) (by omega) HC.out).mono ?_
      rintro e w7 ⟨q, rfl, q0, q1, hC, hG⟩
      obtain ⟨i, rfl⟩ : ∃ i : Nat, q = (i : Int) := ⟨q.toNat, by omega⟩
      have hi : i < ys.length := by split at q1 <;> omega
      have HC7 := hid hC
      have HO7 := hid (HO.out.keepG (Nat.lt_succ_self B) hG)
      obtain ⟨oj, hoj⟩ : ∃ o, jumpL a ys i = o := ⟨_, rfl⟩
      have HJM := hid (huJump_any ys a b i _ w7 hi HS.out HO7.out.intsC)
      rw [hoj] at HJM
      have HOJ := hid hoj
      have HI := hid hi
      have HB7 := hid hC.ltG
      clear hC hG q1 hoj hi HO HC
      go_wp2_with fail
      refine HJM.out.mono ?_
      rintro e w8 ⟨v8, rfl, hO8, hL8⟩
      have HO8 := hid (show OwnInts (B + 1) w8.heap.size w8 v8 (oj.getD []) from hO8.wide HB7.out (Nat.le_refl _))
      have HO78 := hid ((HO7.out.later hL8).wide (Nat.le_refl _) hL8.size)
      have HC8 := hid (HC7.out.keep hL8)
      clear hO8 hL8 HJM HO7 HC7
      cases oj with
      | none =>
        go_wp2_with fail
        go_roundw
        case rel => exact ⟨ys, j, by go_num, by have := HJ.out; omega, HO78.out, HS.out, HC8.out.mono (by have := HJ.out; omega)⟩
        case measure => simp [intOf]
      | some xs =>
        have hSx := HS.out.jump HI.out HOJ.out
        have hxl := hSx.hl
        have HO8b := hid (show OwnInts (B + 1) w8.heap.size w8 v8 xs from HO8.out)
        obtain ⟨gx, cx, rfl⟩ := HO8b.out.addrG (by omega)
        have kc0 : w8.cell? ⟨gx, 0, none⟩ = some (.int .i64 (xs.getD 0 0)) := by
          have := HO8b.out.1.cellAt 0 (by omega)
          rw [this]
          cases xs with
          | nil => simp at hxl
          | cons p l => rfl
        have h0x : (0 : Int) < (xs.length : Int) := by omega
        obtain ⟨z0, hz0⟩ : ∃ z, xs.getD 0 0 = z := ⟨_, rfl⟩
        rw [hz0] at kc0
        have HSX := hid hSx
        clear hSx hxl hz0
        by_cases hlt : z0 < 20000
        · go_wp2_with fail
          go_roundw
          case rel => exact ⟨xs, j, by go_num, by have := HJ.out; omega, HO8b.out, HSX.out, HC8.out.mono (by have := HJ.out; omega)⟩
          case measure => simp [intOf]
        · go_wp2_with fail
          go_roundw
          case rel => exact ⟨ys, j, by go_num, by have := HJ.out; omega, HO78.out, HS.out, HC8.out.mono (by have := HJ.out; omega)⟩
          case measure => simp [intOf]
    | zero =>
      have HC0 := hid (HC.out.mono (show m + 60 - 2 * 0 ≤ m + 60 by omega))
      have hy4 : ys.length ≤ 4 := by omega
      have hy0 : 1 ≤ ys.length := by omega
      clear HC hj hyl HS
      go_wp2_with fail
      refine (curPick_any base wr B v bs _ 16 (by have := HM.out; omega) (by omega) HC0.out).mono ?_
      rintro e w7 ⟨c, rfl, c0, c1, hC, hG⟩
      have HC7 := hid hC
      have HO7 := hid (HO.out.keepG (Nat.lt_succ_self B) hG)
      clear hC hG c1 HC0 HO
      by_cases e0 : c = 0
      · subst e0
        go_wp2_with fail
        refine (curPick_any base w7 B v bs _ (ys.length : Int) (by have := HM.out; omega) (by omega) HC7.out).mono ?_
        rintro e w8 ⟨q, rfl, q0, q1, hC, hG⟩
        obtain ⟨i, rfl⟩ : ∃ i : Nat, q = (i : Int) := ⟨q.toNat, by omega⟩
        have hi : i < ys.length := by split at q1 <;> omega
        have HC8 := hid hC
        have HO8 := hid (HO7.out.keepG (Nat.lt_succ_self B) hG)
        have hiI : (i : Int) < (ys.length : Int) := by omega
        have hi0 : (0 : Int) ≤ (i : Int) := by omega
        clear hC hG q1 HC7 HO7
        go_wp2_with fail
        refine (curLitG_any base w8 B v bs _ [-1, 0, 1, 100000, 100001] (by have := HM.out; omega) (by simp) (by simp) HC8.out).mono ?_
        rintro e w9 ⟨x, rfl, _, hC, hG⟩
        have HC9 := hid hC
        have HO9 := hid (HO8.out.keepG (Nat.lt_succ_self B) hG)
        have hf := HO9.out.1.frozenAt i
        obtain ⟨y, hy⟩ : ∃ y, w9.cell? ⟨g, i, none⟩ = some y := by
          have := HO9.out.1.cellAt i (by omega)
          exact ⟨_, this.trans (List.getElem?_eq_getElem (by simpa using hi))⟩
        have HST := hid (storeG (k := i) HC9.out HO9.out (Nat.lt_succ_self B) x)
        clear hC hG HC8 HO8
        go_wp2_with fail
        go_ret3
        exact ⟨_, ys.set i x, a, b, rfl, HST.out.2, by simpa using hy4, HST.out.1.mono (by omega)⟩
      · have e0' : (c == 0) = false := by simp [e0]
        by_cases e1 : c = 1
        · subst e1
          go_wp2_with fail
          refine (curGiven_any base w7 B v bs _ (by have := HM.out; omega) HC7.out).mono ?_
          rintro e w8 ⟨α, β, rfl, hC, hG⟩
          have HC8 := hid hC
          have HO8 := hid (HO7.out.keepG (Nat.lt_succ_self B) hG)
          clear hC hG
          go_wp2_with fail
          go_ret3
          exact ⟨_, ys, α, β, rfl, HO8.out, hy4, HC8.out.mono (by omega)⟩
        · have e1' : (c == 1) = false := by simp [e1]
          go_wp2_with fail
          go_ret3
          exact ⟨_, ys, a, b, rfl, HO7.out, hy4, HC7.out.mono (by omega)⟩
end Go.Proofs.Ytoaopmafokoaoaa
