/- CgB: in one text. -/
import Derived.Test.YtljikcajfmnnmabUpA
namespace Go.Proofs.Ytljikcajfmnnmab
open Go.RowKit


set_option maxRecDepth 20000 in
theorem isTold_any (a b x y most : Int) (B : Nat) (w : World) (h : w.cell? ⟨B, 0, none⟩ = some (.int .i64 most)) :
    Calls Try.prog 59 #[.agg #[.int .i64 a, .int .i64 b, .int .i64 x, .int .i64 y], .pointer (some ⟨B, 0, none⟩)] w fun e w' => BoolRes w (ciTold most (a, b, x, y)) e w' := by
  have HL := hid (Later.alloc w (.cells #[.int .i64 a, .int .i64 b, .int .i64 x, .int .i64 y] 50))
  have HC := hid (CBox.new w a b x y 50)
  have c4 := HL.out.cell h
  clear h
  go_enter Try.func59, Try.ntmps59
  go_wp2_with fail
  go_ret
  exact ⟨rfl, HL.out⟩

set_option maxRecDepth 100000 in
set_option maxHeartbeats 4000000 in
theorem toldBySwaps_any (L : List Ci4) (most : Int) (C : Nat) (w : World) (hm60 : most ≤ 60) (hD : Dep0 L) (h : w.cell? ⟨C, 0, none⟩ = some (.int .i64 most)) :
    Calls Try.prog 58 #[.agg (kA L), .func (.func 59) #[] #[.pointer (some ⟨C, 0, none⟩)]] w fun e w' => ∃ v, e = .returned v ∧ OwnCis w.heap.size w'.heap.size w' v (toldTo most L 4 ++ bfsT most 13121 [(L, -1)]) ∧ Later w w' := by
  have hl := hD.len
  have HP0 := hid (show Pend most [(L, -1)] (pot 0 + 0) from .cons (.inl ⟨rfl, rfl, hD⟩) .nil)
  have HM60 := hid hm60
  have HLW := hid (Later.alloc w (.cells (kA L) 60))
  obtain ⟨R, hR⟩ : ∃ R, toldTo most L 4 ++ bfsT most 13121 [(L, -1)] = R := ⟨_, rfl⟩
  have HR := hid hR
  rw [hR]
  clear hD hm60 hR
  have HL := hid (Later.alloc w (.cells (kA L) 60))
  have HB := hid (KBlk.new w L)
  have HN := hid hl
  go_enter Try.func58, Try.ntmps58
  go_wp2_with (refine wpList_loadK _ (by rfl) 60 _ (by rfl) ⟨w.heap.size, 0, none⟩ (by rfl) Try.isAgg60 16 Try.sizeOf60 (kA L) (by exact HB.out.load HN.out) ?_)
  have HW1 := hid (show w.heap.size < (w.alloc (.cells (kA L) 60)).heap.size by simp)
  have HCM := hid (HL.out.cell h)
  clear h hl HL
  generalize w.alloc (.cells (kA L) 60) = w1 at HB HW1 HCM HLW ⊢
  obtain ⟨B, hB⟩ : ∃ B, w.heap.size = B := ⟨_, rfl⟩
  rw [hB] at HB HW1 ⊢
  clear hB
  go_loopw [5, 14] (fun o i wr => ∃ k : Nat, k ≤ 4 ∧ i = .int .i64 k ∧ OwnCis w1.heap.size wr.heap.size wr o (toldTo most L k) ∧ Later w1 wr) (fun _ i _ => 4 - (intOf i).toNat)
  case atStart => exact ⟨0, by omega, rfl, OwnCis.nothing _ _ _, Later.refl _⟩
  case round =>
    obtain ⟨k, hk, rfl, hO, hL⟩ := hrel
    by_cases hlt : k < 4
    · have hkI : (k : Int) < 4 := by omega
      obtain ⟨⟨c0, c1, c2, c3⟩, _⟩ := (HB.out.later hL).at HN.out k hlt
      have HS := hid (toldTo_step most L k (by rw [HN.out]; exact hlt))
      have HTL := hid (toldTo_len most L k)
      obtain ⟨t, ht⟩ : ∃ t, L.getD k c00 = t := ⟨_, rfl⟩
      obtain ⟨F, hF⟩ : ∃ F, toldTo most L k = F := ⟨_, rfl⟩
      rw [ht] at HS c0 c1 c2 c3
      rw [hF] at HS HTL hO
      obtain ⟨p, q, r, s⟩ := t
      simp only at c0 c1 c2 c3
      have HO := hid hO
      have HL := hid hL
      have HIT := hid (fun (w0 : World) (k : Later w1 w0) => isTold_any p q r s most C w0 (k.cell HCM.out))
      clear ht hF hO hL
      cases hb : ciTold most (p, q, r, s)
      · rw [hb] at HS HIT
        have HS2 := hid (show toldTo most L (k + 1) = F by rw [HS.out]; rfl)
        clear hb HS
        go_wp2_with fail
        refine (HIT.out _ HL.out).mono ?_
        rintro e w2 ⟨rfl, hL2⟩
        have HO2 := hid (HO.out.later hL2)
        have HL2 := hid (HL.out.trans hL2)
        have HZ2 := hid hL2.size
        clear hL2
        go_wp2_with fail
        go_roundw
        case rel => exact ⟨k + 1, by omega, by go_num, by rw [HS2.out]; exact HO2.out.wide (Nat.le_refl _) HZ2.out, HL2.out⟩
        case measure => simp [intOf]; omega
      · rw [hb] at HS HIT
        have HS2 := hid (show toldTo most L (k + 1) = F ++ [(p, q, r, s)] by rw [HS.out]; rfl)
        clear hb HS
        go_wp2_with fail
        refine (HIT.out _ HL.out).mono ?_
        rintro e w2 ⟨rfl, hL2⟩
        have HO2 := hid ((HO.out.later hL2).1.alloc (.cells #[.int .i64 p, .int .i64 q, .int .i64 r, .int .i64 s] 50))
        have HLA := hid ((HL.out.trans hL2).trans (Later.alloc w2 (.cells #[.int .i64 p, .int .i64 q, .int .i64 r, .int .i64 s] 50)))
        have HWS := hid (HL.out.trans hL2).size
        have HOB := hid (fun b (hb : _ = some b) => ((HO.out.later hL2).1.lt b hb).1)
        obtain ⟨⟨c0, c1, c2, c3⟩, _⟩ : (_ ∧ _ ∧ _ ∧ _) ∧ True := ⟨⟨hL2.cell c0, hL2.cell c1, hL2.cell c2, hL2.cell c3⟩, trivial⟩
        have hFl : F.length ≤ 4 := by have := HTL.out; omega
        obtain ⟨i0, hi0, hz0, hz1, hz2⟩ := info_parts Try.infoCi
        obtain ⟨o1, o2, rfl, _⟩ := (HO.out).shape
        clear hL2
        go_wp2_with (at_builtin; refine wpList_append_lies _ (by rfl) _ _ _ (by rfl) w1.heap.size 50 i0 (.agg #[.int .i64 0, .int .i64 0, .int .i64 0, .int .i64 0]) 4 32 Try.underlying22 hi0 hz0 hz1 hz2 rfl (by omega) _ F.length (ciCells F) (by rfl) (by exact HO2.out) ⟨w2.heap.size, 0, none⟩ 1 1 [.int .i64 p, .int .i64 q, .int .i64 r, .int .i64 s] (by rfl) (by rfl) (World.news_of_block (cs := #[.int .i64 p, .int .i64 q, .int .i64 r, .int .i64 s]) (t := 50) (fr := (0, 0)) (heap_alloc_new w2 _)) (by simp [Value.oneCell']) (by omega) (by unfold maxLen; omega) (by omega) (by have := HWS.out; simp; omega) (w2.heap.size + 1) (by simp) ?_)
        intro g cap1 w5 hown1 hgrow hat hglt
        have HP := hid (show OwnCis w1.heap.size w5.heap.size w5 (.slice (some ⟨g, 0, none⟩) (F.length + 1) cap1) (F ++ [(p, q, r, s)]) from ⟨by rw [ciCells_snoc, List.length_append]; exact hown1, fun b hb => by simp [Value.ownBlock] at hb; subst hb; exact hglt⟩)
        have HLn := hid (show Later w1 w5 from HLA.out.grown hgrow (by have := HWS.out; simp; omega) (fun b hb => HOB.out b hb))
        clear hown1 hgrow hat hglt
        go_wp2_with fail
        go_roundw
        case rel => exact ⟨k + 1, by omega, by go_num, by rw [HS2.out]; exact HP.out, HLn.out⟩
        case measure => simp [intOf]; omega
    · obtain rfl : k = 4 := by omega
      have HO := hid hO
      have HL := hid hL
      have hbn : _ = nodeV (L, -1) := build_node L HN.out (.int .i64 (-1))
      have hsz : (nodeV (L, -1)).size = 17 := nodeV_size HN.out
      have hks : (kA L).size = 16 := kA_size HN.out
      rw [hks] at hbn
      have hgs : _ = 17 := (Array.size_setIfInBounds).symm.trans ((congrArg Array.size hbn).trans hsz)
      have hfn := fold_node L HN.out (-1)
      clear hO hL
      go_wp2_with (refine wpList_loadK _ (by rfl) 60 _ (by rfl) ⟨B, 0, none⟩ (by rfl) Try.isAgg60 16 Try.sizeOf60 (kA L) (by exact (HB.out.later HL.out).load HN.out) ?_)
      clear hbn hsz hks hgs hfn
      have HO2 := hid ((HO.out.later (Later.alloc wr (.cells (nodeV (L, -1)) 85))).wide (Nat.le_refl _) (Later.alloc wr (.cells (nodeV (L, -1)) 85)).size)
      have HL2 := hid (HL.out.trans (Later.alloc wr (.cells (nodeV (L, -1)) 85)))
      have HN2 := hid (show OwnNodes w1.heap.size (wr.alloc (.cells (nodeV (L, -1)) 85)).heap.size (wr.alloc (.cells (nodeV (L, -1)) 85)) (.slice (some ⟨wr.heap.size, 0, none⟩) 1 1) [(L, -1)] from
        ⟨by have := World.ownsRow_lit (base := w1.heap.size) (e := 85) (size := 17) wr (nodeV (L, -1)) 1 HL.out.size (by unfold maxLen; omega) (nodeV_size HN.out); simpa [nodeCells, nodeV] using this, fun b hb => by simp [Value.ownBlock] at hb ⊢; omega⟩)
      obtain ⟨g0, hg0⟩ : ∃ g, wr.heap.size = g := ⟨_, rfl⟩
      generalize wr.alloc (.cells (nodeV (L, -1)) 85) = w3 at HO2 HL2 HN2 ⊢
      rw [hg0] at HN2 ⊢
      clear hg0 HO HL hk hlt HB
      go_loopw [5, 7, 8] (fun o v n wr => ∃ (j m : Nat) (T : List Ci4) (seen pend : List CNode), n = .int .i64 j ∧ seen.length = j ∧ Pend most pend m ∧ m + j ≤ 13121 ∧ T.length ≤ 4 + 4 * j ∧ T ++ bfsT most (13121 - j) pend = R ∧ OwnCis w1.heap.size wr.heap.size wr o T ∧ OwnNodes w1.heap.size wr.heap.size wr v (seen ++ pend) ∧ (∀ nd ∈ seen, nd.1.length = 4) ∧ Later w1 wr) (fun _ _ n _ => 13121 - (intOf n).toNat)
      case atStart => exact ⟨0, 13121, toldTo most L 4, [], [(L, -1)], rfl, rfl, HP0.out, by omega, toldTo_len _ _ _, HR.out, HO2.out, HN2.out, (fun nd h => by cases h), HL2.out⟩
      case round =>
        clear HO2 HL2 HN2 HR HP0
        obtain ⟨j, m, T, seen, pend, rfl, hsl, hP, hmj, hTl, hR, hO, hN, h4, hL⟩ := hrel
        cases hP with
        | nil =>
          rw [List.append_nil] at hN
          rw [bfs_nil, List.append_nil] at hR
          subst hR
          obtain ⟨a9, c9, rfl⟩ := hN.shape
          rw [hsl]
          have HO := hid (hO.wide HLW.out.size (Nat.le_refl _))
          have HLX := hid (HLW.out.trans hL)
          clear hN hL hO h4 hTl hmj hsl
          go_wp2_with fail
          go_ret
          exact ⟨_, rfl, HO.out, HLX.out⟩
        | cons hd hP2 =>
          rename_i n m' nd rest
          have hpp := pot_pos hd.n8
          obtain ⟨f, hf⟩ : ∃ f, 13121 - j = f + 1 := ⟨13121 - j - 1, by omega⟩
          rw [hf, bfs_cons, ← List.append_assoc] at hR
          obtain ⟨mk, hPK, hmk⟩ := kids_pend HM60.out hd
          have HPR := hid (hP2.app hPK)
          have HBG := hid hd.big
          have hQ4 : ∀ x ∈ seen ++ nd :: rest, x.1.length = 4 := fun x hx => by
            rcases List.mem_append.1 hx with hx | hx
            · exact h4 x hx
            · rcases List.mem_cons.1 hx with rfl | hx
              · exact (Pend.cons hd hP2).len4 _ (by simp)
              · exact hP2.len4 x hx
          have HLN := hid (hQ4 nd (by simp))
          have HNX := hid (show m' + mk + (j + 1) ≤ 13121 ∧ 13121 - (j + 1) = f by omega)
          have HRR := hid hR
          have HTL := hid hTl
          have HSL := hid hsl
          have hjl : j < (seen ++ nd :: rest).length := by simp; omega
          have hgj : (seen ++ nd :: rest)[j] = nd := by
            rw [List.getElem_append_right (by omega)]
            simp [hsl]
          obtain ⟨g, cap, rfl⟩ := hN.form (by simp; omega)
          have HLD := hid (hN.load rfl hQ4 j hjl)
          rw [hgj] at HLD
          obtain ⟨Q, hQ⟩ : ∃ Q, seen ++ nd :: rest = Q := ⟨_, rfl⟩
          have HQE := hid (show (seen ++ [nd]) ++ (rest ++ kidsTo most nd 4) = Q ++ kidsTo most nd 4 by rw [← hQ]; simp)
          rw [hQ] at hN hjl hQ4 ⊢
          have HQ4 := hid hQ4
          have HQL := hid (show Q.length ≤ 13121 by rw [← hQ]; have := (Pend.cons hd hP2).len; simp at this ⊢; omega)
          have hjI : (j : Int) < (Q.length : Int) := by omega
          have hjb : (j : Int) < 13121 := by omega
          have HLd := hid (setRow_later (w0 := wr) (B := wr.heap.size) (Later.alloc wr (.cells #[.int .i64 0, .int .i64 0, .int .i64 0, .int .i64 0, .int .i64 0, .int .i64 0, .int .i64 0, .int .i64 0, .int .i64 0, .int .i64 0, .int .i64 0, .int .i64 0, .int .i64 0, .int .i64 0, .int .i64 0, .int .i64 0, .int .i64 0] 85)) (Nat.le_refl _) (nodeV nd))
          have HST := hid ((zN_new wr).store (nd' := nd) rfl HLN.out)
          have HNB := hid ((zN_new wr).set nd)
          have HO := hid hO
          have HN := hid hN
          have HL := hid hL
          have HH4 := hid h4
          have HG := hid (hN.2 g rfl)
          clear hN hL hO h4 hTl hmj hsl hpp hf hR hmk hPK hQ4 hgj hQ hd hP2 hjl
          go_wp2_with (first | (refine wpList_loadK _ (by rfl) 85 _ (by rfl) ⟨g, j * 17, none⟩ (by rfl) Try.isAgg85 17 Try.sizeOf85 (nodeV nd) (by exact HLD.out) ?_) | (refine wpList_storeK _ _ (by rfl) 85 _ _ (by rfl) ⟨wr.heap.size, 0, none⟩ (by rfl) (.agg (nodeV nd)) (by rfl) (by exact HST.out) (fun u => ?_)) | (refine wpList_loadK _ (by rfl) 60 _ (by rfl) ⟨wr.heap.size, 0, none⟩ (by rfl) Try.isAgg60 16 Try.sizeOf60 (kA nd.1) (by exact HNB.out.load4 HLN.out) ?_))
          have HD2 := hid (show wr.heap.size < ((wr.alloc (.cells #[.int .i64 0, .int .i64 0, .int .i64 0, .int .i64 0, .int .i64 0, .int .i64 0, .int .i64 0, .int .i64 0, .int .i64 0, .int .i64 0, .int .i64 0, .int .i64 0, .int .i64 0, .int .i64 0, .int .i64 0, .int .i64 0, .int .i64 0] 85)).setRow wr.heap.size (nodeV nd)).heap.size from by have := HNB.out.lt; exact this)
          generalize (wr.alloc (.cells #[.int .i64 0, .int .i64 0, .int .i64 0, .int .i64 0, .int .i64 0, .int .i64 0, .int .i64 0, .int .i64 0, .int .i64 0, .int .i64 0, .int .i64 0, .int .i64 0, .int .i64 0, .int .i64 0, .int .i64 0, .int .i64 0, .int .i64 0] 85)).setRow wr.heap.size (nodeV nd) = wd at HLd HNB HD2 ⊢
          have HOd := hid ((HO.out.later HLd.out).wide (Nat.le_refl _) HLd.out.size)
          have HNd := hid ((HN.out.later HLd.out).wide HLd.out.size)
          have HL1 := hid (HL.out.trans HLd.out)
          have HDL := hid (HL.out.size)
          obtain ⟨D, hDe⟩ : ∃ D, wr.heap.size = D := ⟨_, rfl⟩
          rw [hDe] at HNB HG HDL HD2 ⊢
          clear HLd HST HLD HO HN HL hDe
          go_loopw [5, 7, 45] (fun o v i wr => ∃ k : Nat, k ≤ 4 ∧ i = .int .i64 k ∧ OwnCis w1.heap.size wr.heap.size wr o (T ++ newsTo most nd k) ∧ OwnNodes w1.heap.size wr.heap.size wr v (Q ++ kidsTo most nd k) ∧ NBlk wr D nd ∧ v.ownBlock ≠ some D ∧ Later w1 wr) (fun _ _ i _ => 4 - (intOf i).toNat)
          case atStart => exact ⟨0, by omega, rfl, by simpa [newsTo] using HOd.out, by simpa [kidsTo] using HNd.out, HNB.out, fun e => by simp [Value.ownBlock] at e; have := HG.out; omega, HL1.out⟩
          case round =>
            clear HOd HNd HNB HG HL1
            obtain ⟨k, hk, rfl, hO, hN, hB, hne, hL⟩ := hrel
            by_cases hlt : k < 4
            · have hkI : (k : Int) < 4 := by omega
              have HSW := hid (fun w0 => swappedK_any nd.1 k w0 hlt HLN.out HBG.out)
              have HB := hid hB
              have HO := hid hO
              have HN := hid hN
              have HL := hid hL
              have HNE := hid hne
              clear hO hN hB hne hL
              go_wp2_with (refine wpList_loadK _ (by rfl) 60 _ (by rfl) ⟨D, 0, none⟩ (by rfl) Try.isAgg60 16 Try.sizeOf60 (kA nd.1) (by exact HB.out.load4 HLN.out) ?_)
              refine (HSW.out _).mono ?_
              rintro e w2 ⟨rfl, hL2⟩
              obtain ⟨L2, hL2e⟩ : ∃ L2, ciSwL nd.1 k = L2 := ⟨_, rfl⟩
              have HL2E := hid hL2e
              have HLEN := hid (show L2.length = 4 by rw [← hL2e]; exact swL_len4 _ _ HLN.out)
              have HSAME := hid (show L2.getD k c00 = ciNew nd.1 k by rw [← hL2e]; exact swL_same _ _ HLN.out hlt)
              rw [hL2e]
              have hK0 := KBlk.new w2 zL
              rw [zL_kA] at hK0
              obtain ⟨w3, hw3⟩ : ∃ w3, (w2.alloc (.cells #[.int .i64 0, .int .i64 0, .int .i64 0, .int .i64 0, .int .i64 0, .int .i64 0, .int .i64 0, .int .i64 0, .int .i64 0, .int .i64 0, .int .i64 0, .int .i64 0, .int .i64 0, .int .i64 0, .int .i64 0, .int .i64 0] 60)).setRow w2.heap.size (kA L2) = w3 := ⟨_, rfl⟩
              have HST3 := hid (hK0.store (L' := L2) rfl HLEN.out)
              rw [hw3] at HST3
              have HK3 := hid (show KBlk w3 w2.heap.size L2 by rw [← hw3]; exact hK0.set _)
              have HL3 := hid (show Later wr w3 from hL2.trans (by rw [← hw3]; exact setRow_later (Later.alloc w2 (.cells #[.int .i64 0, .int .i64 0, .int .i64 0, .int .i64 0, .int .i64 0, .int .i64 0, .int .i64 0, .int .i64 0, .int .i64 0, .int .i64 0, .int .i64 0, .int .i64 0, .int .i64 0, .int .i64 0, .int .i64 0, .int .i64 0] 60)) (Nat.le_refl _) _))
              obtain ⟨E, hE⟩ : ∃ E, w2.heap.size = E := ⟨_, rfl⟩
              rw [hE] at HK3 HST3
              have HED := hid (show D < E by have := (HB.out.later hL2).lt; omega)
              have c16 := (HB.out.later HL3.out).last HLN.out
              obtain ⟨l, hl⟩ : ∃ l, nd.2 = l := ⟨_, rfl⟩
              rw [hl] at c16
              have HLL := hid hl
              obtain ⟨⟨c0, c1, c2, c3⟩, _⟩ := HK3.out.at HLEN.out k hlt
              rw [HSAME.out] at c0 c1 c2 c3
              obtain ⟨t, ht⟩ : ∃ t, ciNew nd.1 k = t := ⟨_, rfl⟩
              have HT := hid ht
              rw [ht] at c0 c1 c2 c3
              obtain ⟨p, q, r, s⟩ := t
              simp only at c0 c1 c2 c3
              have HIT := hid (isTold_any p q r s most C w3 ((HL.out.trans HL3.out).cell HCM.out))
              have HE := hid hE
              clear hL2 hL2e hK0 hw3 hl ht hE
              by_cases hkl : (k : Int) = l
              · have HNK := hid (news_no (most := most) (nd := nd) (k := k) (fun h => h.1 (by rw [HLL.out]; exact hkl)))
                have HO3 := hid ((HO.out.later HL3.out).wide (Nat.le_refl _) HL3.out.size)
                have HN3 := hid ((HN.out.later HL3.out).wide HL3.out.size)
                have HB3 := hid (HB.out.later HL3.out)
                have HLZ := hid (HL.out.trans HL3.out)
                go_wp2_with (refine wpList_storeK _ w3 (by rfl) 60 _ _ (by rfl) ⟨w2.heap.size, 0, none⟩ (by rfl) (.agg (kA L2)) (by rfl) (by rw [HE.out]; exact HST3.out) (fun u => ?_))
                go_roundw
                case rel => exact ⟨k + 1, by omega, by go_num, by rw [HNK.out.1]; exact HO3.out, by rw [HNK.out.2]; exact HN3.out, HB3.out, HNE.out, HLZ.out⟩
                case measure => simp [intOf]; omega
              · have HKL := hid hkl
                rw [← HE.out] at c0 c1 c2 c3
                cases hb : ciTold most (p, q, r, s)
                · rw [hb] at HIT
                  have HNK := hid (news_no (most := most) (nd := nd) (k := k) (fun h => by have h2 := h.2; rw [HT.out, hb] at h2; cases h2))
                  clear hb
                  go_wp2_with (refine wpList_storeK _ w3 (by rfl) 60 _ _ (by rfl) ⟨w2.heap.size, 0, none⟩ (by rfl) (.agg (kA L2)) (by rfl) (by rw [HE.out]; exact HST3.out) (fun u => ?_))
                  refine HIT.out.mono ?_
                  rintro e w4 ⟨rfl, hL4⟩
                  have HL4 := hid (HL3.out.trans hL4)
                  have HO3 := hid ((HO.out.later HL4.out).wide (Nat.le_refl _) HL4.out.size)
                  have HN3 := hid ((HN.out.later HL4.out).wide HL4.out.size)
                  have HB3 := hid (HB.out.later HL4.out)
                  have HLZ := hid (HL.out.trans HL4.out)
                  clear hL4
                  go_wp2_with fail
                  go_roundw
                  case rel => exact ⟨k + 1, by omega, by go_num, by rw [HNK.out.1]; exact HO3.out, by rw [HNK.out.2]; exact HN3.out, HB3.out, HNE.out, HLZ.out⟩
                  case measure => simp [intOf]; omega
                · rw [hb] at HIT
                  have HNK := hid (news_yes (most := most) (nd := nd) (k := k) ⟨fun h => hkl (by rw [← HLL.out]; exact h), by rw [HT.out]; exact hb⟩)
                  rw [HT.out, HL2E.out] at HNK
                  clear hb
                  go_wp2_with (refine wpList_storeK _ w3 (by rfl) 60 _ _ (by rfl) ⟨w2.heap.size, 0, none⟩ (by rfl) (.agg (kA L2)) (by rfl) (by rw [HE.out]; exact HST3.out) (fun u => ?_))
                  refine HIT.out.mono ?_
                  rintro e w4 ⟨rfl, hL4⟩
                  have HL4 := hid (HL3.out.trans hL4)
                  have HK4 := hid (HK3.out.later hL4)
                  have c0' := hL4.cell c0
                  have c1' := hL4.cell c1
                  have c2' := hL4.cell c2
                  have c3' := hL4.cell c3
                  clear c0 c1 c2 c3 c16 hL4
                  obtain ⟨F, hF⟩ : ∃ F, T ++ newsTo most nd k = F := ⟨_, rfl⟩
                  obtain ⟨G, hG⟩ : ∃ G, Q ++ kidsTo most nd k = G := ⟨_, rfl⟩
                  have hFl : F.length ≤ 60000 := by
                    have h1 := newsTo_len most nd k
                    have h2 := kidsTo_len most nd k
                    have h3 := HTL.out
                    rw [← hF, List.length_append]
                    omega
                  have hGl : G.length ≤ 20000 := by
                    have h2 := kidsTo_len most nd k
                    have h3 := HQL.out
                    rw [← hG, List.length_append]
                    omega
                  have HFE := hid (show T ++ newsTo most nd (k + 1) = F ++ [(p, q, r, s)] by rw [HNK.out.1, ← hF, List.append_assoc])
                  have HGE := hid (show Q ++ kidsTo most nd (k + 1) = G ++ [(L2, (k : Int))] by rw [HNK.out.2, ← hG, List.append_assoc])
                  rw [hF] at HO
                  rw [hG] at HN
                  clear hF hG
                  obtain ⟨o1, o2, rfl, _⟩ := HO.out.shape
                  obtain ⟨v1, v2, rfl⟩ := HN.out.shape
                  have HOw := hid ((HO.out.later HL4.out).1.alloc (.cells #[.int .i64 p, .int .i64 q, .int .i64 r, .int .i64 s] 50))
                  have HA4 := hid (Later.alloc w4 (.cells #[.int .i64 p, .int .i64 q, .int .i64 r, .int .i64 s] 50))
                  have HN4 := hid ((HN.out.later HL4.out).later HA4.out)
                  have HB4 := hid ((HB.out.later HL4.out).later HA4.out)
                  have HK4' := hid (HK4.out.later HA4.out)
                  have HL14 := hid ((HL.out.trans HL4.out).trans HA4.out)
                  have HWS := hid (HL.out.trans HL4.out).size
                  have HOC := hid (show OwnCis w1.heap.size wr.heap.size (w4.alloc (.cells #[.int .i64 p, .int .i64 q, .int .i64 r, .int .i64 s] 50)) (.slice o1 F.length o2) F from ⟨HOw.out, HO.out.2⟩)
                  obtain ⟨ic, hic, hic0, hic1, hic2⟩ := info_parts Try.infoCi
                  obtain ⟨ib, hib, hib0, hib1, hib2⟩ := info_parts Try.infoBr
                  go_wp2_with (at_builtin; refine wpList_append_lies _ (by rfl) _ _ _ (by rfl) w1.heap.size 50 ic (.agg #[.int .i64 0, .int .i64 0, .int .i64 0, .int .i64 0]) 4 32 Try.underlying22 hic hic0 hic1 hic2 rfl (by omega) _ F.length (ciCells F) (by rfl) (by exact HOw.out) ⟨w4.heap.size, 0, none⟩ 1 1 [.int .i64 p, .int .i64 q, .int .i64 r, .int .i64 s] (by rfl) (by rfl) (World.news_of_block (cs := #[.int .i64 p, .int .i64 q, .int .i64 r, .int .i64 s]) (t := 50) (fr := (0, 0)) (heap_alloc_new w4 _)) (by simp [Value.oneCell']) (by omega) (by unfold maxLen; omega) (by omega) (by have := HWS.out; simp; omega) (w4.heap.size + 1) (by simp) ?_)
                  intro g5 cap5 w5 hown5 hgrow5 hat5 hglt5
                  have HP5 := hid (show OwnCis w1.heap.size w5.heap.size w5 (.slice (some ⟨g5, 0, none⟩) (F.length + 1) cap5) (F ++ [(p, q, r, s)]) from ⟨by rw [ciCells_snoc, List.length_append]; exact hown5, fun b hb => by simp [Value.ownBlock] at hb; subst hb; exact hglt5⟩)
                  have HL5 := hid (show Later w1 w5 from HL14.out.grown hgrow5 HL14.out.size (fun b hb => (HOC.out.1.lt b hb).1))
                  have HN5 := hid (show OwnNodes w1.heap.size wr.heap.size w5 (.slice v1 G.length v2) G from ⟨ownsRow_far HN4.out.1 hgrow5 (fun b hb => rows_apart HN4.out.1 HOC.out.1 (by decide) b hb), HN4.out.2⟩)
                  have HB5 := hid (HB4.out.far hgrow5 (HOC.out.not_node HB4.out))
                  have HK5 := hid (show KBlk w5 E L2 from (hgrow5.block E HK4'.out.lt (fun e => HOC.out.not_conf HK4'.out e.symm)).trans HK4'.out)
                  clear hown5 hgrow5 hat5 hglt5 c0' c1' c2' c3' HOw HA4 HN4 HB4 HK4' HL14 HWS HOC HK4 HL4 HK3 HL3 HST3 HIT
                  have hbn : _ = nodeV (L2, (k : Int)) := build_node L2 HLEN.out (.int .i64 (k : Int))
                  have hsz : (nodeV (L2, (k : Int))).size = 17 := nodeV_size HLEN.out
                  have hks : (kA L2).size = 16 := kA_size HLEN.out
                  rw [hks] at hbn
                  have hgs : _ = 17 := (Array.size_setIfInBounds).symm.trans ((congrArg Array.size hbn).trans hsz)
                  have hfn := fold_node L2 HLEN.out (k : Int)
                  have HA5 := hid (Later.alloc w5 (.cells (nodeV (L2, (k : Int))) 85))
                  have HW5 := hid HL5.out.size
                  have HNw := hid (HN5.out.1.alloc (.cells (nodeV (L2, (k : Int))) 85))
                  go_wp2_with (first | (refine wpList_loadK _ (by rfl) 60 _ (by rfl) ⟨w2.heap.size, 0, none⟩ (by rfl) Try.isAgg60 16 Try.sizeOf60 (kA L2) (by rw [HE.out]; exact HK5.out.load HLEN.out) ?_) | (at_builtin; refine wpList_append_lies _ (by rfl) _ _ _ (by rfl) w1.heap.size 85 ib (.agg #[.int .i64 0, .int .i64 0, .int .i64 0, .int .i64 0, .int .i64 0, .int .i64 0, .int .i64 0, .int .i64 0, .int .i64 0, .int .i64 0, .int .i64 0, .int .i64 0, .int .i64 0, .int .i64 0, .int .i64 0, .int .i64 0, .int .i64 0]) 17 136 Try.underlying86 hib hib0 hib1 hib2 rfl (by omega) _ G.length (nodeCells G) (by rfl) (by exact HNw.out) ⟨w5.heap.size, 0, none⟩ 1 1 (nodeVs (L2, (k : Int))) (by rfl) (nodeVs_len HLEN.out) (World.news_of_block (cs := nodeV (L2, (k : Int))) (t := 85) (fr := (0, 0)) (heap_alloc_new w5 _)) (nodeVs_one _) (by omega) (by unfold maxLen; omega) (by omega) (by have := HW5.out; simp; omega) (w5.heap.size + 1) (by simp) ?_))
                  intro g6 cap6 w6 hown6 hgrow6 hat6 hglt6
                  have HN5a := hid (HN5.out.later HA5.out)
                  have HP5a := hid (HP5.out.later HA5.out)
                  have HB5a := hid (HB5.out.later HA5.out)
                  have HL15 := hid (HL5.out.trans HA5.out)
                  have HN6 := hid (show OwnNodes w1.heap.size w6.heap.size w6 (.slice (some ⟨g6, 0, none⟩) (G.length + 1) cap6) (G ++ [(L2, (k : Int))]) from ⟨by rw [nodeCells_snoc, List.length_append]; exact hown6, fun b hb => by simp [Value.ownBlock] at hb; subst hb; exact hglt6⟩)
                  have HS6 := hid hgrow6.size
                  have HP6 := hid (show OwnCis w1.heap.size w6.heap.size w6 (.slice (some ⟨g5, 0, none⟩) (F.length + 1) cap5) (F ++ [(p, q, r, s)]) from ⟨ownsRow_far HP5a.out.1 hgrow6 (fun b hb => rows_apart HP5a.out.1 HN5a.out.1 (by decide) b hb), fun b hb => by have h1 := HP5.out.2 b hb; have h2 := HA5.out.size; have h3 := HS6.out; omega⟩)
                  have HB6 := hid (HB5a.out.far hgrow6 HNE.out)
                  have HL6 := hid (show Later w1 w6 from HL15.out.grown hgrow6 HL15.out.size (fun b hb => (HN5a.out.1.lt b hb).1))
                  have HNE6 := hid (show (Value.slice (some ⟨g6, 0, none⟩) (G.length + 1) cap6).ownBlock ≠ some D from fun e => by
                    simp [Value.ownBlock] at e
                    rcases hat6 with h | h
                    · exact HNE.out (h.trans (by rw [e]))
                    · have := HB5.out.lt
                      omega)
                  clear hown6 hgrow6 hat6 hglt6 hbn hsz hks hgs hfn
                  go_wp2_with fail
                  go_roundw
                  case rel => exact ⟨k + 1, by omega, by go_num, by rw [HFE.out]; exact HP6.out, by rw [HGE.out]; exact HN6.out, HB6.out, HNE6.out, HL6.out⟩
                  case measure => simp [intOf]; omega
            · obtain rfl : k = 4 := by omega
              have HO := hid hO
              have HN := hid hN
              have HL := hid hL
              obtain ⟨a9, c9, rfl⟩ := hN.shape
              clear hO hN hB hne hL
              go_wp2_with fail
              go_roundw
              case rel => exact ⟨j + 1, m' + mk, T ++ newsTo most nd 4, seen ++ [nd], rest ++ kidsTo most nd 4, by go_num, by simp [HSL.out], HPR.out, HNX.out.1, by have := newsTo_len most nd 4; have := kidsTo_len most nd 4; have := HTL.out; rw [List.length_append]; omega, by rw [HNX.out.2]; exact HRR.out, HO.out, by rw [HQE.out]; exact HN.out, (fun x hx => by
                rcases List.mem_append.1 hx with hx | hx
                · exact HH4.out x hx
                · simp at hx; subst hx; exact HLN.out), HL.out⟩
              case measure => simp [intOf]; omega
end Go.Proofs.Ytljikcajfmnnmab
