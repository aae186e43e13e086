/- Trees of solutions: TreeUpTo (the model). -/
import Derived.Test.YtoaopmafokoaoaaHuTij
import Derived.Test.YtoaopmafokoaoaaHuFa
namespace Go.Proofs.Ytoaopmafokoaoaa
open Go.RowKit

theorem OwnPs.keepB {lo hi : Nat} {w w' : World} {v : Value} {ps : List Pr} {g : Option Nat} (h : OwnPs lo hi w v ps) (hg : w.grownBy w' g) (hv : ∀ b, v.ownBlock = some b → g ≠ some b) (hp : ∀ p ∈ ps, ∀ b, p.1.ownBlock = some b → g ≠ some b) : OwnPs lo hi w' v ps :=
  ⟨ownsRow_keep h.own fun b hb => hg.block b (h.own.lt b hb).2 (fun e => hv b hb e.symm), h.blk, fun p hp' => ⟨ownsRow_keep (h.ints p hp').1 fun b hb => hg.block b ((h.ints p hp').1.lt b hb).2 (fun e => hp p hp' b hb e.symm), (h.ints p hp').2⟩, h.ne⟩
/-- A row that reads as the rows of these pairs. -/
def FrontR (w : World) (v : Value) (fs : List Pr) : Prop := ∃ a c, v = .slice a fs.length c ∧ ∀ i, i < fs.length → ∃ g, a = some ⟨g, 0, none⟩ ∧ w.cell? ⟨g, i, none⟩ = some (fs.getD i (undef, [])).1
theorem FrontR.later {w w' : World} {v : Value} {fs : List Pr} (h : FrontR w v fs) (k : Later w w') : FrontR w' v fs := by
  obtain ⟨a, c, rfl, hc⟩ := h
  exact ⟨a, c, rfl, fun i hi => by obtain ⟨g, e, h⟩ := hc i hi; exact ⟨g, e, k.cell h⟩⟩
theorem frontR_of {lo : Nat} {w : World} {v : Value} {fs : List Pr} (h : w.ownsRow lo 24 1 v fs.length (fs.map (·.1))) : FrontR w v fs := by
  rcases id h.2 with ⟨rfl, h0⟩ | ⟨g, cap, cur, rfl, _⟩
  · exact ⟨none, 0, by rw [h0], fun i hi => by omega⟩
  · exact ⟨_, cap, rfl, fun i hi => ⟨g, rfl, by rw [h.cellAt i (by omega)]; simp [hi]⟩⟩
theorem FrontR.keepB {w w' : World} {v : Value} {fs : List Pr} {g : Option Nat} (h : FrontR w v fs) (hg : w.grownBy w' g) (hv : ∀ b, v.ownBlock = some b → g ≠ some b) : FrontR w' v fs := by
  obtain ⟨a, c, rfl, hc⟩ := h
  refine ⟨a, c, rfl, fun i hi => ?_⟩
  obtain ⟨gf, rfl, h⟩ := hc i hi
  exact ⟨gf, rfl, cell_keep h (hg.block gf (World.block_lt_of_cell? w _ h) (fun e => hv gf rfl e.symm))⟩
theorem putPs_mem {ps : List Pr} {p q : Pr} (h : q ∈ ps) : q ∈ putPs ps p := by
  unfold putPs
  split
  · exact h
  · exact (insPs_perm ps p).mem_iff.2 (List.mem_cons_of_mem _ h)
theorem putPs_from {ps : List Pr} {p q : Pr} (h : q ∈ putPs ps p) : q ∈ ps ∨ q = p := by
  unfold putPs at h
  split at h
  · exact .inl h
  · rcases List.mem_cons.1 ((insPs_perm ps p).mem_iff.1 h) with h | h
    · exact .inr h
    · exact .inl h
theorem inPs_mem {ps : List Pr} {a : List Int} (h : inPs ps a) : a ∈ ps.map (·.2) := by
  obtain ⟨h1, h2⟩ := h
  have h3 : putKp ps a < (ps.map (·.2)).length := by simpa using h2
  rw [getD_atT _ _ h3] at h1
  rw [← h1]; exact List.getElem_mem _
theorem OwnPs.one {lo hi : Nat} {w : World} {u : Value} {a : List Int} (hu : OwnInts lo hi w u a) (hlo : lo ≤ w.heap.size) (hhi : hi ≤ w.heap.size) : OwnPs lo (w.alloc (.cells #[u] 24)).heap.size (w.alloc (.cells #[u] 24)) (.slice (some ⟨w.heap.size, 0, none⟩) 1 1) [(u, a)] := by
  have h := World.ownsRow_lit (e := 24) (size := 1) w #[u] 1 (Nat.le_refl _) (by unfold maxLen; omega) (by simp)
  refine ⟨ownsRow_base h hlo, fun k hk => (h.lt k hk).2, fun p hp => ?_, List.pairwise_singleton _ _⟩
  rw [List.mem_singleton] at hp
  subst hp
  exact (hu.later (Later.alloc w _)).wide (Nat.le_refl _) (by simp; omega)
/-- What the next front's row is apart from. -/
def Apart (vn vo vf : Value) (ps : List Pr) : Prop := ∀ g, vn.ownBlock = some g → vo.ownBlock ≠ some g ∧ (∀ p ∈ ps, p.1.ownBlock ≠ some g) ∧ vf.ownBlock ≠ some g

set_option maxRecDepth 20000 in
set_option maxHeartbeats 4000000 in
theorem specTreeUpTo_any (v : Value) (zs : List Int) (a b most : Int) (w : World) (h : IntsC w v zs) :
    Calls Try.prog 9 #[v, .int .i64 a, .int .i64 b, .int .i64 most] w fun e w' => ∃ o, TreeAns zs a b most o ∧ RowsAns w o e w' := by
  obtain ⟨p, cap, rfl, hl, _⟩ := id h.1
  have H := hid h
  clear h
  obtain ⟨i0, hi, hz0, hz1, hz2⟩ := info_parts Try.infoInts
  cases hg : givenB a b
  · have HG := hid hg
    have HA := hid (show TreeAns zs a b most none by unfold TreeAns treeB; rw [hg]; simp)
    clear hg
    go_enter Try.func9, Try.ntmps9
    go_wp2_with fail
    refine (huGiven_as a b _ _ HG.out).mono ?_
    rintro e w' ⟨rfl, rfl⟩
    go_wp2_with fail
    go_ret2
    exact ⟨none, HA.out, _, rfl, OwnRows.noneH _ _ _, Later.refl _⟩
  · have HG := hid hg
    cases hs : solB zs a b
    · have HS := hid hs
      have HA := hid (show TreeAns zs a b most none by unfold TreeAns treeB; rw [hg, hs]; simp)
      clear hg hs
      go_enter Try.func9, Try.ntmps9
      go_wp2_with fail
      refine (huGiven_as a b _ _ HG.out).mono ?_
      rintro e w' ⟨rfl, rfl⟩
      go_wp2_with fail
      refine (huGood_as _ zs a b _ _ HG.out HS.out H.out.1).mono ?_
      rintro e w' ⟨rfl, hL⟩
      have HL := hid hL
      clear hL
      go_wp2_with fail
      go_ret2
      exact ⟨none, HA.out, _, rfl, OwnRows.noneH _ _ _, HL.out⟩
    · have HSol := hid (Sol.of hg hs)
      have HS := hid hs
      obtain ⟨ad, c, e, hc0⟩ : ∃ ad c, Value.slice p zs.length cap = .slice (some ad) zs.length c ∧ w.cell? ad = some (.int .i64 (zs.getD 0 0)) := by
        obtain ⟨a', c', e', _, hcc⟩ := H.out.1
        obtain ⟨ad, rfl, hx⟩ := hcc 0 (by have := HSol.out.hl; omega)
        have e0 : ad.add 0 = ad := by cases ad; simp [Addr.add]
        rw [e0] at hx
        exact ⟨ad, c', e', hx⟩
      simp only [Value.slice.injEq, true_and] at e
      obtain ⟨rfl, rfl⟩ := e
      have hln : 0 < zs.length := by have := HSol.out.hl; omega
      have hlI : (0 : Int) < (zs.length : Int) := by omega
      have HTB := hid (show treeB zs a b most = (within (zs.getD 0 0) 100000 most) by unfold treeB within; rw [hg, hs]; simp [Bool.and_comm])
      have HC0 := hid hc0
      obtain ⟨x, hx⟩ : ∃ x, zs.getD 0 0 = x := ⟨_, rfl⟩
      rw [hx] at HTB HC0
      clear hg hs hc0
      cases hw : within x 100000 most
      · have HW := hid hw
        have HA := hid (show TreeAns zs a b most none by unfold TreeAns; rw [HTB.out, hw]; simp)
        clear hw hx
        go_enter Try.func9, Try.ntmps9
        go_wp2_with fail
        refine (huGiven_as a b _ _ HG.out).mono ?_
        rintro e w' ⟨rfl, rfl⟩
        go_wp2_with fail
        refine (huGood_as _ zs a b _ _ HG.out HS.out H.out.1).mono ?_
        rintro e w' ⟨rfl, hL⟩
        have HL := hid hL
        have c0 := hL.cell HC0.out
        clear hL
        go_wp2_with fail
        refine (l1In_as _ _ _ _ _ HW.out).mono ?_
        rintro e w2 ⟨rfl, rfl⟩
        go_wp2_with fail
        go_ret2
        exact ⟨none, HA.out, _, rfl, OwnRows.noneH _ _ _, HL.out⟩
      · have HW := hid hw
        have HA := hid (fun o (ho : TreeRes a most zs o) => show TreeAns zs a b most o by unfold TreeAns; rw [if_pos (by rw [HTB.out, hw])]; exact ho)
        have HT0 := hid (TrI.start a most zs)
        clear hw hx
        go_enter Try.func9, Try.ntmps9
        go_wp2_with fail
        refine (huGiven_as a b _ _ HG.out).mono ?_
        rintro e w' ⟨rfl, rfl⟩
        go_wp2_with fail
        refine (huGood_as _ zs a b _ _ HG.out HS.out H.out.1).mono ?_
        rintro e w1 ⟨rfl, hL⟩
        have HL := hid hL
        have c0 := hL.cell HC0.out
        clear hL
        go_wp2_with fail
        refine (l1In_as _ _ _ _ _ HW.out).mono ?_
        rintro e w2 ⟨rfl, rfl⟩
        clear c0
        go_wp2_with fail
        refine (l1OwnV_any _ zs w1 (by have := HSol.out.hl; omega) (H.out.1.later HL.out)).mono ?_
        rintro e w3 ⟨v3, rfl, ho3, hL3⟩
        obtain ⟨a3, c3, rfl, _⟩ := ho3.shape
        have HO3 := hid (OwnPs.one (ho3.wide HL.out.size (Nat.le_refl _)) (Nat.le_trans HL.out.size hL3.size) (Nat.le_refl _))
        have HL3 := hid ((HL.out.trans hL3).trans (Later.alloc w3 (.cells #[.slice a3 zs.length c3] 24)))
        clear ho3 hL3
        go_wp2_with fail
        have HW3 := hid (show w.heap.size ≤ (w3.alloc (.cells #[.slice a3 zs.length c3] 24)).heap.size from HL3.out.size)
        generalize w3.alloc (.cells #[.slice a3 zs.length c3] 24) = w4 at HO3 HL3 HW3 ⊢
        obtain ⟨lo, hlo⟩ : ∃ lo, w.heap.size = lo := ⟨_, rfl⟩
        have HLO := hid hlo
        rw [hlo] at HO3 HW3
        clear hlo
        go_loopw [10, 11] (fun o f wr => ∃ (ps fs : List Pr), OwnPs lo wr.heap.size wr o ps ∧ FrontR wr f fs ∧ (∀ q ∈ fs, q ∈ ps) ∧ TrI a most zs (ps.map (·.2)) (fs.map (·.2)) [] ∧ ps.length ≤ 500 ∧ fs.length ≤ 500 ∧ Later w wr ∧ lo ≤ wr.heap.size) (fun o f _ => 2 * (600 - lenOfH o) + min 1 (lenOfH f))
        case atStart => exact ⟨[(.slice a3 zs.length c3, zs)], [(.slice a3 zs.length c3, zs)], HO3.out, frontR_of HO3.out.own, fun q h => h, HT0.out, by simp, by simp, HL3.out, HW3.out⟩
        case round =>
          clear HO3 HL3 HT0 HW3
          obtain ⟨ps, fs, hO, hF, hsub, hI, h5, hf5, hL, hW⟩ := hrel
          obtain ⟨ao, co, rfl, hoc⟩ := ownsRow_shape hO.own
          obtain ⟨af, cf, hfe, _⟩ := id hF
          subst hfe
          have HO := hid hO
          have HF := hid hF
          have HSB := hid hsub
          have HI := hid hI
          have HLr := hid hL
          have HW := hid hW
          by_cases hf0 : fs.length = 0
          · have hfe : fs = [] := List.eq_nil_of_length_eq_zero hf0
            have HR := hid (show TreeRes a most zs (some (ps.map (·.2))) from TrI.done (by rw [hfe] at hI; exact hI) (by rw [List.length_map]; exact h5))
            have hor := hO.rows
            have hfI : ¬ (0 : Int) < (fs.length : Int) := by omega
            have hlm : (ps.map (·.2)).length = ps.length := List.length_map _
            rw [← HLO.out] at hor
            have HOR := hid hor
            clear hO hF hsub hI hL hW hor hfe hoc
            go_wp2_with fail
            go_ret2
            exact ⟨_, HA.out _ HR.out, _, rfl, HOR.out, HLr.out⟩
          · have hfI : (0 : Int) < (fs.length : Int) := by omega
            clear hO hF hsub hI hL hW hoc
            go_wp2_with fail
            go_loopw [10, 12, 46] (fun o n i wq => ∃ (ps' qs : List Pr) (k : Nat), i = .int .i64 k ∧ k ≤ fs.length ∧ OwnPs lo wq.heap.size wq o ps' ∧ FrontR wq (.slice af fs.length cf) fs ∧ (∀ q ∈ fs, q ∈ ps') ∧ (∀ q ∈ qs, q ∈ ps') ∧ wq.ownsRow lo 24 1 n qs.length (qs.map (·.1)) ∧ Apart n o (.slice af fs.length cf) ps' ∧ TrI a most zs (ps'.map (·.2)) ((fs.drop k).map (·.2)) (qs.map (·.2)) ∧ ps'.length ≤ 500 ∧ ps.length + qs.length ≤ ps'.length ∧ Later w wq ∧ lo ≤ wq.heap.size) (fun _ _ i _ => fs.length - (intOf i).toNat)
            case atStart => exact ⟨ps, [], 0, rfl, Nat.zero_le _, HO.out, HF.out, HSB.out, fun q h => by simp at h, World.ownsRow_nil _ _ _ _, fun g h => by simp [Value.ownBlock] at h, HI.out, h5, by simp, HLr.out, HW.out⟩
            case round =>
              clear HO HF HSB HI HLr HW
              obtain ⟨ps', qs, k, rfl, hk, hO, hF, hfs, hqs, hN, hap, hI, h5', hgr, hL, hW⟩ := hrel
              obtain ⟨ao', co', rfl, hoc'⟩ := ownsRow_shape hO.own
              obtain ⟨an, cn, rfl, hnc⟩ := ownsRow_shape hN
              have HO := hid hO
              have HF := hid hF
              have HFS := hid hfs
              have HQS := hid hqs
              have HN := hid hN
              have HAP := hid hap
              have HI := hid hI
              have HL := hid hL
              have HW := hid hW
              by_cases hlt : k < fs.length
              · have hltI : (k : Int) < (fs.length : Int) := by omega
                have hk0 : (0 : Int) ≤ (k : Int) := by omega
                obtain ⟨_, _, hfe, hfc⟩ := id hF
                simp only [Value.slice.injEq, true_and] at hfe
                obtain ⟨rfl, rfl⟩ := hfe
                obtain ⟨gf, rfl, hcell⟩ := hfc k hlt
                have hcm : fs.getD k (undef, []) ∈ ps' := hfs _ (by rw [List.getD_eq_getElem?_getD, List.getElem?_eq_getElem hlt, Option.getD_some]; exact List.getElem_mem _)
                have hdr : (fs.drop k).map (·.2) = (fs.getD k (undef, [])).2 :: (fs.drop (k + 1)).map (·.2) := by
                  rw [List.drop_eq_getElem_cons hlt, List.map_cons, List.getD_eq_getElem?_getD, List.getElem?_eq_getElem hlt, Option.getD_some]
                have hoi := hO.ints _ hcm
                have hrc := hI.rch _ (List.mem_map_of_mem (f := fun p : Pr => p.2) hcm)
                rw [hdr] at hI
                obtain ⟨c, hc⟩ : ∃ c, fs.getD k (undef, []) = c := ⟨_, rfl⟩
                rw [hc] at hcell hoi hrc hI
                obtain ⟨cv, cl⟩ := c
                simp only at hcell hoi hrc hI
                obtain ⟨ac, cc, rfl, _⟩ := hoi.shape
                have HIC := hid hoi.intsC
                have HSC := hid (hrc.sol HSol.out)
                have HJ0 := hid hI.take
                clear hO hF hfs hqs hN hap hI hL hW hcm hdr hoi hrc hc hfc hoc' hnc HI
                go_wp2_with fail
                refine (huUp_any _ cl a b wr HSC.out HIC.out).mono ?_
                rintro e w5 ⟨vu, us, rfl, hou, hmu, hL5⟩
                obtain ⟨au, cu, rfl, _⟩ := ownsRow_shape hou.own
                have hul : us.length ≤ 4 := by
                  have h1 := upF_len a cl cl.length
                  have h2 := HSC.out.hl
                  rw [← hmu, List.length_map] at h1
                  omega
                have HOU := hid hou
                have HMU := hid hmu
                have HO5 := hid ((HO.out.later hL5).wide (Nat.le_refl _) hL5.size)
                have HF5 := hid (HF.out.later hL5)
                have HN5 := hid (show w5.ownsRow lo 24 1 (.slice an qs.length cn) qs.length (qs.map (·.1)) from ownsRow_keep HN.out fun b hb => hL5.block b (HN.out.lt b hb).2)
                have HAU := hid (show ∀ g, (Value.slice an qs.length cn).ownBlock = some g → (Value.slice au us.length cu).ownBlock ≠ some g ∧ ∀ p ∈ us, p.1.ownBlock ≠ some g from fun g hg => by
                  have h1 := (HN.out.lt g hg).2
                  refine ⟨fun e => ?_, fun p hp e => ?_⟩
                  · have := (HOU.out.own.lt g e).1; omega
                  · have := ((HOU.out.ints p hp).1.lt g e).1; omega)
                have HNE := hid (show ∀ i, 0 ≤ i → i < us.length → ∀ p ∈ ps', NePr p (us.getD i (undef, [])) from fun i _ hi p hp g hg e => by
                  have h1 := ((HO.out.ints p hp).1.lt g hg).2
                  have hm : us.getD i (undef, []) ∈ us := by rw [List.getD_eq_getElem?_getD, List.getElem?_eq_getElem hi, Option.getD_some]; exact List.getElem_mem _
                  have := ((HOU.out.ints _ hm).1.lt g e).1; omega)
                have HL5 := hid (HL.out.trans hL5)
                have HW5 := hid (Nat.le_trans HW.out hL5.size)
                obtain ⟨D, hD⟩ : ∃ D, wr.heap.size = D := ⟨_, rfl⟩
                obtain ⟨E, hE⟩ : ∃ E, w5.heap.size = E := ⟨_, rfl⟩
                have HEE := hid (show E ≤ w5.heap.size by omega)
                have HLD := hid (show lo ≤ D by have := HW.out; omega)
                rw [hD, hE] at HOU
                clear hou hmu hL5 hcell hD hE
                go_wp2_with fail
                go_loopw [10, 12, 54] (fun o n i wq => ∃ (ps2 qs2 : List Pr) (j : Nat), i = .int .i64 j ∧ j ≤ us.length ∧ OwnPs lo wq.heap.size wq o ps2 ∧ FrontR wq (.slice (some ⟨gf, 0, none⟩) fs.length cf) fs ∧ (∀ q ∈ fs, q ∈ ps2) ∧ (∀ q ∈ qs2, q ∈ ps2) ∧ wq.ownsRow lo 24 1 n qs2.length (qs2.map (·.1)) ∧ Apart n o (.slice (some ⟨gf, 0, none⟩) fs.length cf) ps2 ∧ OwnPs D E wq (.slice au us.length cu) us ∧ (∀ g, n.ownBlock = some g → (Value.slice au us.length cu).ownBlock ≠ some g ∧ ∀ p ∈ us, p.1.ownBlock ≠ some g) ∧ (∀ i, j ≤ i → i < us.length → ∀ p ∈ ps2, NePr p (us.getD i (undef, []))) ∧ TrJ a most zs cl (ps2.map (·.2)) ((fs.drop (k + 1)).map (·.2)) (qs2.map (·.2)) j ∧ ps2.length ≤ 500 + j ∧ ps.length + qs2.length ≤ ps2.length ∧ Later w wq ∧ lo ≤ wq.heap.size ∧ E ≤ wq.heap.size) (fun _ _ i _ => us.length - (intOf i).toNat)
                case atStart => exact ⟨ps', qs, 0, rfl, Nat.zero_le _, HO5.out, HF5.out, HFS.out, HQS.out, HN5.out, HAP.out, HOU.out, HAU.out, HNE.out, HJ0.out, by omega, hgr, HL5.out, HW5.out, HEE.out⟩
                case round =>
                  clear HO HF HFS HQS HN HAP HL HW HO5 HF5 HN5 HOU HAU HNE HL5 HW5 HEE HJ0
                  obtain ⟨ps2, qs2, j, rfl, hj, hO, hF, hfs, hqs, hN, hap, hU, hau, hne, hJ, h5j, hgr2, hL, hW, hE⟩ := hrel
                  obtain ⟨ao2, co2, rfl, hoc2⟩ := ownsRow_shape hO.own
                  obtain ⟨an2, cn2, rfl, hnc2⟩ := ownsRow_shape hN
                  have HO := hid hO
                  have HF := hid hF
                  have HFS := hid hfs
                  have HQS := hid hqs
                  have HN := hid hN
                  have HAP := hid hap
                  have HU := hid hU
                  have HAU := hid hau
                  have HNE := hid hne
                  have HJ := hid hJ
                  have HL := hid hL
                  have HW := hid hW
                  have HE := hid hE
                  by_cases hjl : j < us.length
                  · have hjI : (j : Int) < (us.length : Int) := by omega
                    have hj0 : (0 : Int) ≤ (j : Int) := by omega
                    obtain ⟨gu, rfl, hcell⟩ : ∃ gu, au = some ⟨gu, 0, none⟩ ∧ wr.cell? ⟨gu, j, none⟩ = some (us.getD j (undef, [])).1 := by
                      obtain ⟨a', c', e', hcc⟩ := frontR_of hU.own
                      simp only [Value.slice.injEq, true_and] at e'
                      obtain ⟨rfl, _⟩ := e'
                      exact hcc j hjl
                    have hum : us.getD j (undef, []) ∈ us := by rw [List.getD_eq_getElem?_getD, List.getElem?_eq_getElem hjl, Option.getD_some]; exact List.getElem_mem _
                    have hui := (hU.ints _ hum).wide HLD.out hE
                    have hUj : (upF a cl cl.length).getD j [] = (us.getD j (undef, [])).2 := by rw [← HMU.out]; simp [hjl]
                    have hjU : j < (upF a cl cl.length).length := by rw [← HMU.out, List.length_map]; exact hjl
                    have hnj := hne j (Nat.le_refl _) hjl
                    have haj : ∀ g, (Value.slice an2 qs2.length cn2).ownBlock = some g → (us.getD j (undef, [])).1.ownBlock ≠ some g := fun g hg => (hau g hg).2 _ hum
                    have hnu : ∀ i, j + 1 ≤ i → i < us.length → NePr (us.getD j (undef, [])) (us.getD i (undef, [])) := fun i h1 h2 => by
                      have := List.pairwise_iff_getElem.1 hU.ne j i hjl h2 (by omega)
                      simpa [hjl, h2] using this
                    obtain ⟨u, hu⟩ : ∃ u, us.getD j (undef, []) = u := ⟨_, rfl⟩
                    rw [hu] at hcell hui hUj hnj haj hnu
                    obtain ⟨uv, ul⟩ := u
                    simp only at hcell hui hUj haj
                    obtain ⟨j1, h1, h2⟩ := upF_from (show ul ∈ upF a cl cl.length by rw [← hUj, getD_atT _ j hjU]; exact List.getElem_mem _)
                    have hul3 : 0 < ul.length := by have := (HSC.out.jump h1 h2).hl; omega
                    have hulI : (0 : Int) < (ul.length : Int) := by omega
                    obtain ⟨au2, cu2, rfl, hd0⟩ : ∃ ad c, uv = .slice (some ad) ul.length c ∧ wr.cell? ad = some (.int .i64 (ul.getD 0 0)) := by
                      obtain ⟨a', c', e', _, hcc⟩ := hui.ints
                      obtain ⟨ad, rfl, hx⟩ := hcc 0 hul3
                      have e0 : ad.add 0 = ad := by cases ad; simp [Addr.add]
                      rw [e0] at hx
                      exact ⟨ad, c', e', hx⟩
                    have HUI := hid hui
                    have HUJ := hid hUj
                    have HJU := hid hjU
                    have HNJ := hid hnj
                    have HAJ := hid haj
                    have HNU := hid hnu
                    obtain ⟨y, hy⟩ : ∃ y, ul.getD 0 0 = y := ⟨_, rfl⟩
                    rw [hy] at hd0
                    have HY := hid hy
                    clear hO hF hfs hqs hN hap hU hau hne hJ hL hW hE hoc2 hnc2 hum hui hUj hjU hnj haj hnu hu h1 h2 hy
                    by_cases hm : most < y
                    · have HJ2 := hid (HJ.out.skip (by rw [HUJ.out, HY.out]; omega))
                      go_wp2_with fail
                      go_roundw
                      case rel => exact ⟨ps2, qs2, j + 1, by go_num, hjl, HO.out, HF.out, HFS.out, HQS.out, HN.out, HAP.out, HU.out, HAU.out, fun i h1 h2 => HNE.out i (by omega) h2, HJ2.out, by omega, hgr2, HL.out, HW.out, HE.out⟩
                      case measure => simp [intOf]; omega
                    · have HPUT := hid (huPutN_any (.slice ao2 ps2.length co2) (.slice (some au2) ul.length cu2) ul ps2 wr HW.out (by omega) HO.out HUI.out HNJ.out)
                      go_wp2_with fail
                      refine HPUT.out.mono ?_
                      rintro e w6 ⟨v6, rfl, ho6, hL6, hin6, hni6⟩
                      obtain ⟨ao6, co6, rfl, _⟩ := ownsRow_shape ho6.own
                      have HO6 := hid ho6
                      have HF6 := hid (HF.out.later hL6)
                      have HN6 := hid (show w6.ownsRow lo 24 1 (.slice an2 qs2.length cn2) qs2.length (qs2.map (·.1)) from ownsRow_keep HN.out fun b hb => hL6.block b (HN.out.lt b hb).2)
                      have HU6 := hid (HU.out.later hL6)
                      have HL6 := hid (HL.out.trans hL6)
                      have hs6 := hL6.size
                      have hW6 := HW.out
                      have hE6 := HE.out
                      by_cases hin : inPs ps2 ul
                      · have hpe : putPs ps2 (.slice (some au2) ul.length cu2, ul) = ps2 := if_pos hin
                        have hve := hin6 hin
                        rw [hpe] at ho6 hve
                        have HO7 := hid ho6
                        have HVE := hid hve
                        have HPL := hid (show (putPs ps2 (.slice (some au2) ul.length cu2, ul)).length = ps2.length by rw [hpe])
                        have HJ2 := hid (HJ.out.old (by rw [HUJ.out]; exact inPs_mem hin))
                        have hni : ¬ (ps2.length : Int) < (ps2.length : Int) := by omega
                        rw [HPL.out]
                        clear ho6 hL6 hin6 hni6 hpe hve hin HO6 hd0 hcell
                        go_wp2_with fail
                        go_roundw
                        case rel => exact ⟨ps2, qs2, j + 1, by go_num, hjl, HO7.out, HF6.out, HFS.out, HQS.out, HN6.out, by rw [HVE.out]; exact HAP.out, HU6.out, HAU.out, fun i h1 h2 => HNE.out i (by omega) h2, HJ2.out, by omega, hgr2, HL6.out, by omega, by omega⟩
                        case measure => simp [intOf]; omega
                      · have hfr := hni6 hin
                        have hpl : (putPs ps2 (.slice (some au2) ul.length cu2, ul)).length = ps2.length + 1 := by
                          unfold putPs; rw [if_neg hin, (insPs_perm ps2 _).length_eq]; rfl
                        have hpm : (putPs ps2 (.slice (some au2) ul.length cu2, ul)).map (·.2) = putL (ps2.map (·.2)) ul := putPs_map ps2 _
                        have hup : ((Value.slice (some au2) ul.length cu2, ul) : Pr) ∈ putPs ps2 (.slice (some au2) ul.length cu2, ul) := by
                          unfold putPs; rw [if_neg hin]; exact (insPs_perm ps2 _).mem_iff.2 (by simp)
                        have HJ2 := hid (show TrJ a most zs cl ((putPs ps2 (.slice (some au2) ul.length cu2, ul)).map (·.2)) ((fs.drop (k + 1)).map (·.2)) (qs2.map (·.2) ++ [ul]) (j + 1) by
                          have := HJ.out.new HJU.out (by rw [HUJ.out, HY.out]; omega)
                          rw [HUJ.out] at this; rw [hpm]; exact this)
                        have HSUB := hid (fun q (h : q ∈ ps2) => putPs_mem (p := (.slice (some au2) ul.length cu2, ul)) h)
                        have HFROM := hid (fun q (h : q ∈ putPs ps2 (.slice (some au2) ul.length cu2, ul)) => putPs_from h)
                        obtain ⟨P3, hP3⟩ : ∃ P3, putPs ps2 (.slice (some au2) ul.length cu2, ul) = P3 := ⟨_, rfl⟩
                        rw [hP3] at HO6 hfr hpl hup HJ2 HSUB HFROM ⊢
                        rw [hpl] at hfr ⊢
                        have HPL := hid hpl
                        have HUP := hid hup
                        have HAP6 := hid (show Apart (.slice an2 qs2.length cn2) (.slice ao6 (ps2.length + 1) co6) (.slice (some ⟨gf, 0, none⟩) fs.length cf) P3 from fun g hg => by
                          have h1 := (HN.out.lt g hg).2
                          refine ⟨fun e => ?_, fun p hp e => ?_, (HAP.out g hg).2.2⟩
                          · have := hfr g e; omega
                          · rcases HFROM.out p hp with h | h
                            · exact (HAP.out g hg).2.1 p h e
                            · rw [h] at e; exact HAJ.out g hg e)
                        have HNE6 := hid (show ∀ i, j + 1 ≤ i → i < us.length → ∀ p ∈ P3, NePr p (us.getD i (undef, [])) from fun i h1 h2 p hp => by
                          rcases HFROM.out p hp with h | h
                          · exact HNE.out i (by omega) h2 p h
                          · rw [h]; exact HNU.out i h1 h2)
                        have hni : (ps2.length : Int) < ((ps2.length + 1 : Nat) : Int) := by omega
                        have hA := Later.alloc w6 (.cells #[.slice (some au2) ul.length cu2] 24)
                        have hO7 := HO6.out.later hA
                        rw [show (Value.slice ao6 P3.length co6) = .slice ao6 (ps2.length + 1) co6 by rw [hpl]] at hO7
                        have HO7 := hid hO7
                        have HF7 := hid (HF6.out.later hA)
                        have HU7 := hid (HU6.out.later hA)
                        have HN7 := hid (show (w6.alloc (.cells #[.slice (some au2) ul.length cu2] 24)).ownsRow lo 24 1 (.slice an2 qs2.length cn2) qs2.length (qs2.map (·.1)) from ownsRow_keep HN6.out fun b hb => hA.block b (HN6.out.lt b hb).2)
                        have HL7 := hid (HL6.out.trans hA)
                        have hq5 : qs2.length ≤ 600 := by omega
                        clear ho6 hL6 hin6 hni6 hin hd0 hcell hpl hpm hup hP3 hA hO7 hfr HAP
                        go_wp2_with (at_builtin; refine wpList_append_lies _ (by rfl) _ _ _ (by rfl) lo 24 i0 (.slice none 0 0) 1 24 Try.underlying27 hi hz0 hz1 hz2 rfl (by omega) _ qs2.length (qs2.map (·.1)) (by rfl) (by exact HN7.out) ⟨w6.heap.size, 0, none⟩ 1 1 [.slice (some au2) ul.length cu2] (by rfl) (by rfl) (World.news_of_block (cs := #[.slice (some au2) ul.length cu2]) (t := 24) (fr := (0, 0)) (heap_alloc_new w6 _)) (by simp [Value.oneCell']) (by omega) (by unfold maxLen; omega) (by omega) (by simp; omega) (w6.heap.size + 1) (by simp) ?_)
                        intro g7 cap7 w7 hown7 hgrow hat hglt
                        have hgf : gf < w6.heap.size := by
                          obtain ⟨_, _, e1, e2⟩ := HF6.out
                          simp only [Value.slice.injEq, true_and] at e1
                          obtain ⟨rfl, _⟩ := e1
                          obtain ⟨g', e3, e4⟩ := e2 k hlt
                          have e5 : gf = g' := by injection e3 with e3; injection e3
                          rw [e5]; exact World.block_lt_of_cell? w6 _ e4
                        have HO8 := hid ((HO7.out.keepB hgrow (fun b hb e => (HAP6.out b e).1 hb) (fun p hp b hb e => (HAP6.out b e).2.1 p hp hb)).wide (Nat.le_refl _) (show w6.heap.size ≤ w7.heap.size by have := hgrow.size; simp at this; omega))
                        have HF8 := hid (HF7.out.keepB hgrow (fun b hb e => (HAP6.out b e).2.2 hb))
                        have HU8 := hid (HU7.out.keepB hgrow (fun b hb e => (HAU.out b e).1 hb) (fun p hp b hb e => (HAU.out b e).2 p hp hb))
                        have HN8 := hid (show w7.ownsRow lo 24 1 (.slice (some ⟨g7, 0, none⟩) (qs2.length + 1) cap7) (qs2 ++ [((Value.slice (some au2) ul.length cu2, ul) : Pr)]).length ((qs2 ++ [((Value.slice (some au2) ul.length cu2, ul) : Pr)]).map (·.1)) by rw [List.length_append, List.map_append]; exact hown7)
                        have HAP8 := hid (show Apart (.slice (some ⟨g7, 0, none⟩) (qs2.length + 1) cap7) (.slice ao6 (ps2.length + 1) co6) (.slice (some ⟨gf, 0, none⟩) fs.length cf) P3 from fun g hg => by
                          have hg7 : g7 = g := Option.some.inj hg
                          rcases hat with e | e
                          · exact HAP6.out g (by rw [← hg7]; exact e)
                          · refine ⟨fun h => ?_, fun p hp h => ?_, fun h => ?_⟩
                            · have := HO7.out.blk g h; omega
                            · have := (HO7.out.ints p hp).2 g h; omega
                            · have h' : gf = g := Option.some.inj h
                              omega)
                        have HAU8 := hid (show ∀ g, (Value.slice (some ⟨g7, 0, none⟩) (qs2.length + 1) cap7).ownBlock = some g → (Value.slice (some ⟨gu, 0, none⟩) us.length cu).ownBlock ≠ some g ∧ ∀ p ∈ us, p.1.ownBlock ≠ some g from fun g hg => by
                          have hg7 : g7 = g := Option.some.inj hg
                          rcases hat with e | e
                          · exact HAU.out g (by rw [← hg7]; exact e)
                          · refine ⟨fun h => ?_, fun p hp h => ?_⟩
                            · have := HU7.out.blk g h; omega
                            · have := (HU7.out.ints p hp).2 g h; omega)
                        have HL8 := hid (show Later w w7 from HL7.out.grown hgrow (by have := HLO.out; simp; omega) (fun b' hb' => by have := (HN7.out.lt b' hb').1; have := HLO.out; omega))
                        have HW8 := hid (show w6.heap.size ≤ w7.heap.size by have := hgrow.size; simp at this; omega)
                        have HQ8 := hid (show ∀ q ∈ qs2 ++ [((Value.slice (some au2) ul.length cu2, ul) : Pr)], q ∈ P3 from fun q hq => by
                          rcases List.mem_append.1 hq with h | h
                          · exact HSUB.out q (HQS.out q h)
                          · rw [List.mem_singleton.1 h]; exact HUP.out)
                        have HF9 := hid (show ∀ q ∈ fs, q ∈ P3 from fun q hq => HSUB.out q (HFS.out q hq))
                        clear hown7 hgrow hat HSUB
                        go_wp2_with fail
                        go_roundw
                        case rel => exact ⟨P3, qs2 ++ [((Value.slice (some au2) ul.length cu2, ul) : Pr)], j + 1, by go_num, hjl, HO8.out, HF8.out, HF9.out, HQ8.out, HN8.out, HAP8.out, HU8.out, HAU8.out, HNE6.out, by rw [List.map_append]; exact HJ2.out, by have := HPL.out; omega, by have := HPL.out; simp; omega, HL8.out, by have := HW8.out; omega, by have := HW8.out; omega⟩
                        case measure => simp [intOf]; omega
                  · obtain rfl : j = us.length := by omega
                    have hlu : us.length = (upF a cl cl.length).length := by rw [← HMU.out, List.length_map]
                    have HII := hid (show TrI a most zs (ps2.map (·.2)) ((fs.drop (k + 1)).map (·.2)) (qs2.map (·.2)) from TrJ.drop (by rw [hlu] at hJ; exact hJ))
                    clear hO hF hfs hqs hN hap hU hau hne hJ hL hW hE hoc2 hnc2 hlu
                    by_cases h5 : 500 < ps2.length
                    · have h5I : (500 : Int) < (ps2.length : Int) := by omega
                      have HR := hid (tree_many HII.out.srt.nodup HII.out.rch (by rw [List.length_map]; exact h5))
                      go_wp2_with fail
                      go_ret2
                      exact ⟨none, HA.out _ HR.out, _, rfl, OwnRows.noneH _ _ _, HL.out⟩
                    · have h5I : ¬ (500 : Int) < (ps2.length : Int) := by omega
                      go_wp2_with fail
                      go_roundw
                      case rel => exact ⟨ps2, qs2, k + 1, by go_num, hlt, HO.out, HF.out, HFS.out, HQS.out, HN.out, HAP.out, HII.out, by omega, hgr2, HL.out, HW.out⟩
                      case measure => simp [intOf]; omega
              · obtain rfl : k = fs.length := by omega
                have HT := hid (show TrI a most zs (ps'.map (·.2)) (qs.map (·.2)) [] from TrI.turn (by rw [List.drop_length] at hI; exact hI))
                have HFN := hid (frontR_of hN)
                clear hO hF hfs hqs hN hap hI hL hW hoc' hnc
                go_wp2_with fail
                go_roundw
                case rel => exact ⟨ps', qs, HO.out, HFN.out, HQS.out, HT.out, h5', by omega, HL.out, HW.out⟩
                case measure => simp only [lenOfH]; omega
end Go.Proofs.Ytoaopmafokoaoaa
