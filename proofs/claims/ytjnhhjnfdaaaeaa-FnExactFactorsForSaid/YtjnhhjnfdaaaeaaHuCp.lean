/- Rows of solutions: Go's library's Compact. -/
import Derived.Test.YtjnhhjnfdaaaeaaHuDm
import Derived.Deep.RegionHeld3
namespace Go.Proofs.Ytjnhhjnfdaaaeaa
open Go.RowKit

/-- The first k of a row without what is equal to the one ahead of it. -/
def compT (L : List So) : Nat → List So
  | 0 => []
  | k + 1 => compT L k ++ (if k = 0 ∨ L.getD k noSo ≠ L.getD (k - 1) noSo then [L.getD k noSo] else [])
theorem compT_le (L : List So) (k : Nat) : (compT L k).length ≤ k := by
  induction k with
  | zero => simp [compT]
  | succ k ih => unfold compT; rw [List.length_append]; split <;> simp <;> omega
theorem compT_keep {L : List So} {j : Nat} (h : L.getD (j + 1) noSo ≠ L.getD j noSo) : compT L (j + 2) = compT L (j + 1) ++ [L.getD (j + 1) noSo] := by
  show compT L (j + 1) ++ _ = _
  rw [if_pos (.inr h)]
theorem compT_drop {L : List So} {j : Nat} (h : L.getD (j + 1) noSo = L.getD j noSo) : compT L (j + 2) = compT L (j + 1) := by
  show compT L (j + 1) ++ _ = _
  rw [if_neg (by rw [h]; simp), List.append_nil]
theorem fourForm {lo : Nat} {w : World} {g cap n : Nat} {L : List So} (h : OwnSols lo w (.slice (some ⟨g, 0, none⟩) n cap) L) (hn : L.length = n) (a q : Nat) (hk : a + q < n) :
    w.cell? ⟨g, a * 4 + q * 4, none⟩ = some (.int .i64 (L.getD (a + q) noSo).1) ∧ w.cell? ⟨g, a * 4 + q * 4 + 1, none⟩ = some (.int .i64 (L.getD (a + q) noSo).2.1) ∧ w.cell? ⟨g, a * 4 + q * 4 + 2, none⟩ = some (.int .i64 (L.getD (a + q) noSo).2.2.1) ∧ w.cell? ⟨g, a * 4 + q * 4 + 3, none⟩ = some (.int .i64 (L.getD (a + q) noSo).2.2.2) := by
  rw [← Nat.add_mul]
  exact h.fourAt hn (a + q) hk
theorem cut_at {lo : Nat} {w w0 : World} {b n cap : Nat} {K M : List So} (ho : OwnSols lo w (.slice (some ⟨b, 0, none⟩) n cap) K) (hl : K.length = n) (hlo : w0.heap.size ≤ lo) (hL : Later w0 w) (i : Nat) (hi : i < n) (hM : K.take i = M) :
    (∀ ty, (Builtin.clear_ #[60] ty #[.slice (some ⟨b, i * 4, none⟩) (n - i) (cap - i)]).run Try.prog w = .ok (.tuple #[]) (w.setCells b (i * 4) (List.replicate ((n - i) * 4) (.int .i64 0)))) ∧
    OwnSols lo (w.setCells b (i * 4) (List.replicate ((n - i) * 4) (.int .i64 0))) (.slice (some ⟨b, 0, none⟩) i cap) M ∧ Later w0 (w.setCells b (i * 4) (List.replicate ((n - i) * 4) (.int .i64 0))) ∧ n ≤ cap ∧ M.length = i := by
  have ho' : w.ownsRow lo 48 4 (.slice (some ⟨b, 0, none⟩) n cap) n (soCells K) := by have h := ho; unfold OwnSols at h; rw [hl] at h; exact h
  have hcap : n ≤ cap := by
    obtain ⟨_, _, e, hle⟩ := ho.shape
    simp only [Value.slice.injEq] at e
    rw [e.2.2, ← hl]; exact hle
  have hMl : M.length = i := by rw [← hM, List.length_take, hl]; omega
  obtain ⟨ys, hys1, hys2, hys3⟩ := ownsRow_setCells (List.replicate ((n - i) * 4) (Value.int .i64 0)) (i * 4) w (soCells K) ho'
  refine ⟨fun ty => run_clear_so w ty b (i * 4) (n - i) (cap - i) (by omega) (fun t ht => by
    rw [ho'.cellAt (i * 4 + t) (by omega), List.getElem?_eq_getElem (by rw [soCells_len, hl]; omega)]; rfl) (fun t _ => ho'.frozenAt _), ?_, ?_, hcap, hMl⟩
  · refine OwnSols.cut hys1 i (by omega) hMl ?_
    rw [hys2, ← hM]
    have e : soCells K = soCells (K.take i) ++ soCells (K.drop i) := by unfold soCells; rw [← List.flatMap_append, List.take_append_drop]
    rw [e, List.take_append_of_le_length (by rw [soCells_len, List.length_take, hl]; omega), List.take_of_length_le (by rw [soCells_len, List.length_take, hl]; omega)]
  · exact hL.grown hys3 hL.size (fun b' hb' => by have e := Option.some.inj hb'; subst e; exact Nat.le_trans hlo (ho.lt b rfl).1)

set_option maxRecDepth 20000 in
set_option maxHeartbeats 8000000 in
theorem compact_any {lo : Nat} (w0 : World) (b cap : Nat) (L : List So) (w : World) (hL0 : Later w0 w) (hlo : w0.heap.size ≤ lo) (hb : L.length ≤ 1000000) (h : OwnSols lo w (.slice (some ⟨b, 0, none⟩) L.length cap) L) :
    Calls Try.prog 70 #[.slice (some ⟨b, 0, none⟩) L.length cap] w fun e w' => e = .returned (.slice (some ⟨b, 0, none⟩) (compT L L.length).length cap) ∧ OwnSols lo w' (.slice (some ⟨b, 0, none⟩) (compT L L.length).length cap) (compT L L.length) ∧ Later w0 w' := by
  have H := hid h
  have HL0 := hid hL0
  have HLO := hid hlo
  obtain ⟨M, hM⟩ : ∃ M, compT L L.length = M := ⟨_, rfl⟩
  have HM := hid hM
  rw [hM]
  obtain ⟨n, hn⟩ : ∃ n, L.length = n := ⟨_, rfl⟩
  have HN := hid hn
  rw [hn] at H hb HM ⊢
  have hcap : n ≤ cap := by
    obtain ⟨_, _, e, hle⟩ := H.out.shape
    simp only [Value.slice.injEq] at e
    rw [e.2.2, ← HN.out]; exact hle
  clear h hL0 hlo hn hM
  by_cases h2 : n < 2
  · have hd : decide ((n : Int) < 2) = true := decide_eq_true (by omega)
    have HE := hid (show M = L by
      rw [← HM.out]
      have h01 : n = 0 ∨ n = 1 := by omega
      rcases h01 with rfl | rfl
      · rw [List.eq_nil_of_length_eq_zero HN.out]; rfl
      · obtain ⟨x, rfl⟩ := List.length_eq_one_iff.1 HN.out; rfl)
    have HEN := hid (show M.length = n by rw [HE.out]; exact HN.out)
    go_enter Try.func70, Try.ntmps70
    go_wp2_with fail
    go_ret
    exact ⟨by rw [HEN.out]; rfl, by rw [HEN.out, HE.out]; exact H.out, HL0.out⟩
  · have hd : decide ((n : Int) < 2) = false := decide_eq_false (by omega)
    go_enter Try.func70, Try.ntmps70
    go_wp2_with fail
    go_loopw [3] (fun k wr => ∃ j : Nat, j + 1 ≤ n ∧ k = .int .i64 ((j : Int) + 1) ∧ compT L (j + 1) = L.take (j + 1) ∧ OwnSols lo wr (.slice (some ⟨b, 0, none⟩) n cap) L ∧ Later w0 wr) (fun k _ => n - (intOf k).toNat)
    case atStart => exact ⟨0, by omega, by simp, by rw [show L.take (0 + 1) = L.take 0 ++ [L.getD 0 noSo] from take_snocS L 0 (by rw [HN.out]; omega)]; rfl, H.out, HL0.out⟩
    case round =>
      obtain ⟨j, hj, rfl, hpre, hO, hL⟩ := hrel
      have HP := hid hpre
      have HO := hid hO
      have HL := hid hL
      by_cases hlt : j + 1 < n
      · have hltI : (j : Int) + 1 < (n : Int) := by omega
        obtain ⟨c0, c1, c2, c3⟩ := hO.fourAt HN.out j (by omega)
        obtain ⟨d0, d1, d2, d3⟩ := hO.fourAt HN.out (j + 1) hlt
        have HKP := hid (fun h => compT_keep (L := L) (j := j) h)
        have HDR := hid (fun h => compT_drop (L := L) (j := j) h)
        have HSN := hid (take_snocS L (j + 1) (by rw [HN.out]; exact hlt))
        obtain ⟨s, hs⟩ : ∃ s, L.getD j noSo = s := ⟨_, rfl⟩
        obtain ⟨u, hu⟩ : ∃ u, L.getD (j + 1) noSo = u := ⟨_, rfl⟩
        rw [hs] at c0 c1 c2 c3 HKP HDR
        rw [hu] at d0 d1 d2 d3 HKP HDR HSN
        obtain ⟨x, y, z, t⟩ := s
        obtain ⟨p, q, r, v⟩ := u
        simp only at c0 c1 c2 c3 d0 d1 d2 d3
        have heq := eqSo p q r v x y z t
        have j1 : IntKind.i64.wrap ((j : Int) + 1 - 1) = (j : Int) := by rw [IntWalk.i64_left]; rw [IntWalk.wrap64_in _ (by omega)]; omega
        have j2 : ((j : Int) + 1).toNat = j + 1 := by omega
        have j3 : (0 : Int) ≤ (j : Int) + 1 := by omega
        have j4 : (j : Int) < (n : Int) := by omega
        have j5 : (0 : Int) ≤ (j : Int) := by omega
        have HJI := hid hj
        clear hpre hO hL hs hu
        by_cases he : (p, q, r, v) = (x, y, z, t)
        · have hbe : (p == x && (q == y && (r == z && v == t))) = true := by simp only [Prod.mk.injEq] at he; simp [he]
          rw [hbe] at heq
          have HE := hid (HDR.out he)
          clear hbe he
          go_wp2_with fail
          go_quiet (fail)
          have HL2 := hid (HL.out.trans (Later.drewN wr nq))
          have HO2 := hid (HO.out.later (Later.drewN wr nq))
          generalize wr.drewN nq = wd at HL2 HO2 ⊢
          clear c0 c1 c2 c3 d0 d1 d2 d3 heq j1 HKP HDR HSN
          obtain ⟨A, hA⟩ : ∃ A, j + 1 = A := ⟨_, rfl⟩
          have hAI : (j : Int) + 1 = (A : Int) := by omega
          have hAn : A < n := by omega
          have hAnI : (A : Int) ≤ (n : Int) := by omega
          have hA2 : A < cap := by omega
          have hAcI : (A : Int) ≤ (cap : Int) := by omega
          have hncI : (n : Int) ≤ (cap : Int) := by omega
          have hne : ¬ cap = A := by omega
          have HST := hid (show L.take A = compT L (A + 0 + 1) by rw [← hA]; exact (HE.out.trans HP.out).symm)
          rw [hAI]
          have hA1 : 1 ≤ A := by omega
          clear j2 j3 j4 j5 hltI hlt HP HE HO HL hA hAI HJI hj
          go_wp2_with fail
          go_loopw [3, 5] (fun s3 s5 wr => ∃ (i q : Nat) (K : List So), s3 = .int .i64 i ∧ s5 = .int .i64 ((q : Int) + 1) ∧ A + q + 1 ≤ n ∧ i ≤ A + q ∧ K.length = n ∧ K.take i = compT L (A + q + 1) ∧ K.drop (A + q) = L.drop (A + q) ∧ OwnSols lo wr (.slice (some ⟨b, 0, none⟩) n cap) K ∧ Later w0 wr) (fun _ s5 _ => n - (intOf s5).toNat)
          case atStart => exact ⟨A, 0, L, rfl, by simp, by omega, by omega, HN.out, HST.out, rfl, HO2.out, HL2.out⟩
          case round =>
            clear HO2 HL2 HST
            obtain ⟨i, q', K, rfl, rfl, hq, hiq, hKl, hKt, hKd, hO, hL⟩ := hrel
            have HO := hid hO
            have HL := hid hL
            have HKL := hid hKl
            have HKT := hid hKt
            have HKD := hid hKd
            clear hKt hKd hL hKl
            by_cases hlt : A + q' + 1 < n
            · obtain ⟨c0, c1, c2, c3⟩ := fourForm hO HKL.out A q' (by omega)
              obtain ⟨d0, d1, d2, d3⟩ := fourForm hO HKL.out A (q' + 1) (by omega)
              rw [show A + (q' + 1) = A + q' + 1 by omega] at d0 d1 d2 d3
              rw [drop_atS HKD.out] at c0 c1 c2 c3
              rw [drop_atS (drop_succS HKD.out)] at d0 d1 d2 d3
              have HKP := hid (fun h => compT_keep (L := L) (j := A + q') h)
              have HDR := hid (fun h => compT_drop (L := L) (j := A + q') h)
              obtain ⟨s, hs⟩ : ∃ s, L.getD (A + q') noSo = s := ⟨_, rfl⟩
              obtain ⟨u, hu⟩ : ∃ u, L.getD (A + q' + 1) noSo = u := ⟨_, rfl⟩
              rw [hs] at c0 c1 c2 c3 HKP HDR
              rw [hu] at d0 d1 d2 d3 HKP HDR
              clear hs hu
              obtain ⟨x, y, z, t⟩ := s
              obtain ⟨p, q, r, v⟩ := u
              simp only at c0 c1 c2 c3 d0 d1 d2 d3
              have heq := eqSo p q r v x y z t
              have j1 : IntKind.i64.wrap ((q' : Int) + 1 - 1) = (q' : Int) := by rw [IntWalk.i64_left]; rw [IntWalk.wrap64_in _ (by omega)]; omega
              have j2 : ((q' : Int) + 1).toNat = q' + 1 := by omega
              have j3 : (0 : Int) ≤ (q' : Int) + 1 := by omega
              have hltN : q' + 1 < n - A := by omega
              have hltI : (q' : Int) + 1 < ((n - A : Nat) : Int) := by omega
              have j4 : (q' : Int) < ((n - A : Nat) : Int) := by omega
              have j5 : (0 : Int) ≤ (q' : Int) := by omega
              obtain ⟨⟨m0, m1, m2, m3, e0, e1, e2, e3⟩, g0, g1, g2, g3⟩ := hO.openAt HKL.out i (by omega)
              have hin : (i : Int) < (n : Int) := by omega
              have hi0 : (0 : Int) ≤ (i : Int) := by omega
              by_cases he : (p, q, r, v) = (x, y, z, t)
              · have hbe : (p == x && (q == y && (r == z && v == t))) = true := by simp only [Prod.mk.injEq] at he; simp [he]
                rw [hbe] at heq
                have HE := hid (HDR.out he)
                clear hbe he hO
                go_wp2_with fail
                go_quiet (fail)
                have HL2 := hid (HL.out.trans (Later.drewN wr nq))
                have HO2 := hid (HO.out.later (Later.drewN wr nq))
                generalize wr.drewN nq = wd at HL2 HO2 ⊢
                clear j1 heq
                go_wp2_with fail
                go_roundw
                case rel => exact ⟨i, q' + 1, K, rfl, by go_num, hlt, by omega, HKL.out, by rw [show A + (q' + 1) + 1 = A + q' + 2 by omega, HE.out]; exact HKT.out, drop_succS HKD.out, HO2.out, HL2.out⟩
                case measure => simp [intOf]; omega
              · have hbe : (p == x && (q == y && (r == z && v == t))) = false := by
                  cases hb2 : (p == x && (q == y && (r == z && v == t)))
                  · rfl
                  · exfalso; apply he; simp at hb2; simp [hb2]
                rw [hbe] at heq
                have HE := hid (HKP.out he)
                have HX := hid (show (soCells K).length = (soCells K).length from rfl)
                clear hbe he hO
                go_wp2_with fail
                go_quiet (fail)
                have hLd := Later.drewN wr nq
                have HL2 := hid (HL.out.trans hLd)
                have HO2 := hid (HO.out.later hLd)
                replace d0 := hLd.cell d0
                replace d1 := hLd.cell d1
                replace d2 := hLd.cell d2
                replace d3 := hLd.cell d3
                replace g0 := hLd.frozen e0 g0
                replace g1 := hLd.frozen e1 g1
                replace g2 := hLd.frozen e2 g2
                replace g3 := hLd.frozen e3 g3
                replace e0 := hLd.cell e0
                replace e1 := hLd.cell e1
                replace e2 := hLd.cell e2
                replace e3 := hLd.cell e3
                clear c0 c1 c2 c3
                generalize wr.drewN nq = wd at HL2 HO2 d0 d1 d2 d3 e0 e1 e2 e3 g0 g1 g2 g3 ⊢
                clear j1 heq hLd
                go_wp2_with fail
                have h1 : OwnSols lo wd (.slice (some ⟨b, 0, none⟩) K.length cap) K := by rw [HKL.out]; exact HO2.out
                have h2' := h1.put i (by rw [HKL.out]; omega) p q r v
                rw [HKL.out] at h2'
                have HO3 := hid h2'
                have HL3 := hid (set4_laterK HL2.out (Nat.le_trans HLO.out (HO2.out.lt b rfl).1) i p q r v)
                clear h1 h2'
                go_roundw
                case rel => exact ⟨i + 1, q' + 1, K.set i (p, q, r, v), by go_num, by go_num, hlt, by omega, by rw [List.length_set]; exact HKL.out, by
                  rw [show A + (q' + 1) + 1 = A + q' + 2 by omega, HE.out, ← HKT.out, List.take_set, take_snocS K i (by rw [HKL.out]; omega)]
                  rw [List.set_append_right _ _ (by rw [List.length_take]; omega), List.length_take, Nat.min_eq_left (by rw [HKL.out]; omega), Nat.sub_self]; rfl, by
                  rw [List.drop_set_of_lt (by omega)]; exact drop_succS HKD.out, HO3.out, HL3.out⟩
                case measure => simp [intOf]; omega
            · have hJ : A + q' + 1 = n := by omega
              have hin2 : i < n := by omega
              obtain ⟨hcl, hcut, hlf, hcap2, hml⟩ := cut_at (M := M) HO.out HKL.out HLO.out HL.out i hin2 (by rw [HKT.out, hJ]; exact HM.out)
              have HCUT := hid hcut
              have HLF := hid hlf
              have HML := hid hml
              have hq2 : ¬ (q' : Int) + 1 < ((n - A : Nat) : Int) := by omega
              have hiI : (i : Int) ≤ (n : Int) := by omega
              have hicI : (i : Int) ≤ (cap : Int) := by omega
              have hnci : ¬ cap = i := by omega
              clear hO hcut hlf hml hJ
              go_wp2_with fail
              go_ret
              exact ⟨by rw [HML.out]; rfl, by rw [HML.out]; exact HCUT.out, HLF.out⟩
        · have hbe : (p == x && (q == y && (r == z && v == t))) = false := by
            cases hb2 : (p == x && (q == y && (r == z && v == t)))
            · rfl
            · exfalso; apply he; simp at hb2; simp [hb2]
          rw [hbe] at heq
          have HE := hid (HKP.out he)
          clear hbe he
          go_wp2_with fail
          go_quiet (fail)
          have HL2 := hid (HL.out.trans (Later.drewN wr nq))
          have HO2 := hid (HO.out.later (Later.drewN wr nq))
          generalize wr.drewN nq = wd at HL2 HO2 ⊢
          clear j1 heq
          go_wp2_with fail
          go_roundw
          case rel => exact ⟨j + 1, hlt, by go_num, by rw [HE.out, HP.out, HSN.out], HO2.out, HL2.out⟩
          case measure => simp [intOf]; omega
      · have hjn : j + 1 = n := by omega
        have hjI : ¬ (j : Int) + 1 < (n : Int) := by omega
        have HE := hid (show M = L by rw [← HM.out, ← hjn, HP.out]; exact List.take_of_length_le (by rw [HN.out]; omega))
        have HEN := hid (show M.length = n by rw [HE.out]; exact HN.out)
        clear hpre hO hL hjn
        go_wp2_with fail
        go_ret
        exact ⟨by rw [HEN.out]; rfl, by rw [HEN.out, HE.out]; exact HO.out, HL.out⟩
end Go.Proofs.Ytjnhhjnfdaaaeaa
