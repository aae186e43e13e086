/- HuPv, HuUp, HuLd: in one text. -/
import Derived.Test.YtoaopmafokoaoaaHuOrx
import Derived.Test.YtoaopmafokoaoaaOwPr
import Derived.Test.YtoaopmafokoaoaaHuLbx
namespace Go.Proofs.Ytoaopmafokoaoaa
open Go.RowKit


/-- insertion in order -/
def putKp (ps : List Pr) (a : List Int) : Nat := (ps.takeWhile fun p => befL p.2 a).length
def inPs (ps : List Pr) (a : List Int) : Prop := (ps.map (·.2)).getD (putKp ps a) [] = a ∧ putKp ps a < ps.length
instance (ps : List Pr) (a : List Int) : Decidable (inPs ps a) := by unfold inPs; infer_instance
def insPs (ps : List Pr) (p : Pr) : List Pr := ps.take (putKp ps p.2) ++ p :: ps.drop (putKp ps p.2)
def putPs (ps : List Pr) (p : Pr) : List Pr := if inPs ps p.2 then ps else insPs ps p
theorem putKp_map (ps : List Pr) (a : List Int) : putKp ps a = putK (ps.map (·.2)) a := by
  unfold putKp putK
  induction ps with
  | nil => rfl
  | cons p ps ih => simp only [List.map_cons, List.takeWhile_cons]; split <;> simp_all
theorem putPs_map (ps : List Pr) (p : Pr) : (putPs ps p).map (·.2) = putL (ps.map (·.2)) p.2 := by
  unfold putPs putL
  by_cases h : inPs ps p.2
  · rw [if_pos h, if_pos (by unfold inPs at h; rw [putKp_map] at h; simpa using h)]
  · rw [if_neg h, if_neg (by unfold inPs at h; rw [putKp_map] at h; simpa using h)]
    unfold insPs
    rw [putKp_map]
    simp
theorem insPs_perm (ps : List Pr) (p : Pr) : (insPs ps p).Perm (p :: ps) := by
  unfold insPs
  refine List.perm_middle.trans ?_
  rw [List.take_append_drop]
theorem putKp_le (ps : List Pr) (a : List Int) : putKp ps a ≤ ps.length := (List.takeWhile_prefix _).length_le
theorem putKp_lt (ps : List Pr) (a : List Int) : ∀ j (_ : j < putKp ps a), befL ((ps.map (·.2)).getD j []) a = true := by
  induction ps with
  | nil => intro j h; simp [putKp] at h
  | cons p ps ih =>
    intro j h
    unfold putKp at h
    rw [List.takeWhile_cons] at h
    split at h
    · rename_i hp
      cases j with
      | zero => simpa using hp
      | succ j => simpa using ih j (by unfold putKp; simpa using h)
    · simp at h
theorem putKp_at (ps : List Pr) (a : List Int) : putKp ps a < ps.length → befL ((ps.map (·.2)).getD (putKp ps a) []) a = false := by
  induction ps with
  | nil => intro h; simp at h
  | cons p ps ih =>
    intro h
    unfold putKp at h ⊢
    rw [List.takeWhile_cons] at h ⊢
    split at h
    · rename_i hp
      rw [if_pos hp]
      have := ih (by unfold putKp; simpa using h)
      unfold putKp at this
      simpa using this
    · rename_i hp
      rw [if_neg hp]
      simpa using hp
theorem OwnPs.insert {lo : Nat} {w w' : World} {v v' u : Value} {a : List Int} {ps : List Pr} (h : OwnPs lo w.heap.size w v ps) (hu : OwnInts lo w.heap.size w u a) (hne : ∀ p ∈ ps, NePr p (u, a)) (hL : Later w w')
    (ho : w'.ownsRow lo 24 1 v' (insPs ps (u, a)).length ((insPs ps (u, a)).map (·.1))) : OwnPs lo w'.heap.size w' v' (insPs ps (u, a)) := by
  have hp := insPs_perm ps (u, a)
  refine ⟨ho, fun k hk => (ho.lt k hk).2, fun q hq => ?_, ?_⟩
  · rcases List.mem_cons.1 (hp.mem_iff.1 hq) with rfl | hq
    · exact (hu.later hL).wide (Nat.le_refl _) hL.size
    · exact ((h.ints q hq).later hL).wide (Nat.le_refl _) hL.size
  · refine (hp.pairwise_iff (fun h => h.symm)).2 ?_
    exact List.pairwise_cons.2 ⟨fun q hq => (hne q hq).symm, h.ne⟩
set_option maxRecDepth 20000 in
set_option maxHeartbeats 8000000 in
theorem huPutN_any {lo : Nat} (v u : Value) (a : List Int) (ps : List Pr) (w : World) (hlo : lo ≤ w.heap.size) (hb : ps.length ≤ 1000000) (h : OwnPs lo w.heap.size w v ps) (hu : OwnInts lo w.heap.size w u a) (hne : ∀ p ∈ ps, NePr p (u, a)) :
    Calls Try.prog 58 #[v, u] w fun e w' => ∃ v', e = .returned v' ∧ OwnPs lo w'.heap.size w' v' (putPs ps (u, a)) ∧ Later w w' ∧ (inPs ps a → v' = v) ∧ (¬ inPs ps a → ∀ b, v'.ownBlock = some b → w.heap.size ≤ b) := by
  obtain ⟨i0, hi, hz0, hz1, hz2⟩ := info_parts Try.infoInts
  rcases h.own.2 with ⟨rfl, h0⟩ | ⟨g, cg, cur, rfl, _, hgl, hncg, _⟩
  · have hps : ps = [] := List.eq_nil_of_length_eq_zero h0
    subst hps
    obtain ⟨ua, uc, rfl, huc⟩ := hu.shape
    have HU := hid hu
    have HLO := hid hlo
    have HNI := hid (show ¬ inPs [] a by unfold inPs; simp)
    have HPE := hid (show putPs [] (Value.slice ua a.length uc, a) = [(Value.slice ua a.length uc, a)] by unfold putPs; rw [if_neg HNI.out]; rfl)
    have H := hid h
    clear h hu hne h0 hb hlo
    go_enter Try.func58, Try.ntmps58
    go_wp2_with fail
    go_loopw [5] (fun k wr => k = .int .i64 0 ∧ wr = w) (fun _ _ => 0)
    case atStart => exact ⟨rfl, rfl⟩
    case round =>
      obtain ⟨rfl, rfl⟩ := hrel
      have HO6 : Hid ((wr.alloc (.cells #[] 24)).ownsRow wr.heap.size 24 1 (.slice (some ⟨wr.heap.size, 0, none⟩) 0 0) 0 []) := hid ⟨rfl, .inr ⟨wr.heap.size, 0, #[], rfl, Nat.le_refl _, heap_alloc_new wr _, Nat.le_refl _, by omega, by simp, by simp⟩⟩
      have HL6 := hid (Later.alloc wr (.cells #[] 24))
      have HW6 := hid HL6.out.size
      go_wp2_with fail
      obtain ⟨v6, hv6⟩ : ∃ v : Value, .slice (some ⟨wr.heap.size, 0, none⟩) 0 0 = v := ⟨_, rfl⟩
      rw [hv6] at HO6 ⊢
      generalize wr.alloc (.cells #[] 24) = w6 at HO6 HL6 HW6 ⊢
      clear hv6
      go_region_held3 (fun _ => True) (trivial) (first | (have hh := HW6; clear hh; refine step_append_atH _ (by rfl) _ _ _ (by rfl) wr.heap.size 24 i0 (.slice none 0 0) 1 24 Try.underlying27 hi hz0 hz1 hz2 rfl (by omega) v6 0 [] (by rfl) (by exact (HO6.out.alloc (.cells #[Value.slice ua a.length uc] 24)).drew) _ _ _ [.slice ua a.length uc] (by rfl) (by rfl) (by intro j u hj; rw [World.cell?_drew]; exact World.news_of_block (cs := #[.slice ua a.length uc]) (t := 24) (fr := (0, 0)) (heap_alloc_new w6 _) j u hj) (fun u hu => by simp at hu; subst hu; rfl) (by unfold maxLen; omega) (by omega) (by have := HW6.out; simp; omega) ?_; intro v7 w7 hown7 hgrow7; clear HW6; have HO7 := hid hown7; have HL7 := hid (show Later wr w7 from ((HL6.out.trans (Later.alloc w6 (.cells #[Value.slice ua a.length uc] 24))).trans (Later.drew _)).grown hgrow7 (by have := HL6.out.size; simp; omega) (fun b hb => (HO6.out.lt b hb).1)); obtain ⟨a7, c7, rfl, _⟩ := ownsRow_shape hown7; clear hown7 hgrow7) | (have hh := HO7; clear hh; refine step_append_noneH _ (by rfl) _ _ _ (by rfl) wr.heap.size 24 i0 1 Try.underlying27 hi _ 1 ([] ++ [.slice ua a.length uc]) (by rfl) (by exact HO7.out) (by rfl) ?_))
      go_wp2_with fail
      go_ret
      refine ⟨_, rfl, ?_, HL7.out, fun h => absurd h HNI.out, fun _ b hb => (HO7.out.lt b hb).1⟩
      have e := H.out.insert HU.out (fun p hp => by simp at hp) HL7.out (v' := .slice a7 (0 + 1) c7) (by exact ownsRow_base HO7.out HLO.out)
      rw [HPE.out]
      exact e
  · obtain ⟨ua, uc, rfl, huc⟩ := hu.shape
    have hhd := (ownPs_head h).2.2
    have HOS := hid h
    have HUS := hid hu
    have HNE := hid hne
    have HLO := hid hlo
    have HKL := hid (putKp_lt ps a)
    have HKA := hid (putKp_at ps a)
    have hkl := putKp_le ps a
    have HHD := hid hhd
    have HDEF := hid (show inPs ps a ↔ ((ps.map (·.2)).getD (putKp ps a) [] = a ∧ putKp ps a < ps.length) from Iff.rfl)
    have HINS := hid (show ∀ u, insPs ps (u, a) = ps.take (putKp ps a) ++ (u, a) :: ps.drop (putKp ps a) from fun u => rfl)
    obtain ⟨K, hK⟩ : ∃ K, putKp ps a = K := ⟨_, rfl⟩
    rw [hK] at HKL HKA hkl HDEF HINS
    clear h hu hne hlo hhd hK hgl
    go_enter Try.func58, Try.ntmps58
    go_wp2_with fail
    go_loopw [5] (fun s5 wr => ∃ k : Nat, k ≤ K ∧ s5 = .int .i64 k ∧ Later w wr) (fun s5 _ => K - (intOf s5).toNat)
    case atStart => exact ⟨0, Nat.zero_le _, rfl, Later.refl _⟩
    case round =>
      obtain ⟨k, hk, rfl, hL⟩ := hrel
      have HL := hid hL
      have row : ∀ k, k < ps.length → ∃ ad c, wr.cell? ⟨g, k, none⟩ = some (.slice ad ((ps.map (·.2)).getD k []).length c) ∧ Ints wr (.slice ad ((ps.map (·.2)).getD k []).length c) ((ps.map (·.2)).getD k []) := by
        intro k hk
        have h1 := HHD.out k hk
        have h2 := HOS.out.ints ps[k] (List.getElem_mem hk)
        obtain ⟨ad, c, e, _⟩ := h2.shape
        rw [show ps.getD k (undef, []) = ps[k] by simp [hk]] at h1
        have e2 : (ps.map (·.2)).getD k [] = ps[k].2 := by simp [hk]
        refine ⟨ad, c, ?_, ?_⟩
        · rw [e2, ← e]; exact hL.cell h1
        · rw [e2, ← e]; exact (h2.later hL).ints
      by_cases hlt : k < K
      · obtain ⟨ad, c, hc, hr⟩ := row k (by omega)
        have HB := hid (HKL.out k hlt)
        have hkI : (k : Int) < (ps.length : Int) := by omega
        obtain ⟨l, hl⟩ : ∃ l, (ps.map (·.2)).getD k [] = l := ⟨_, rfl⟩
        rw [hl] at hc hr HB
        have HRI := hid hr
        clear row hr hl hL
        go_wp2_with fail
        refine (huBefore_as HB.out HRI.out (HUS.out.later HL.out).ints).mono ?_
        rintro e w2 ⟨rfl, hD⟩
        have HL2 := hid (HL.out.trans hD.later)
        clear hD
        go_wp2_with fail
        go_roundw
        case rel => exact ⟨k + 1, hlt, by go_num, HL2.out⟩
        case measure => simp [intOf]; omega
      · obtain rfl : k = K := by omega
        clear hk hlt
        by_cases hkn : k < ps.length
        · obtain ⟨ad, c, hc, hr⟩ := row k hkn
          have HB := hid (HKA.out hkn)
          have hkI : (k : Int) < (ps.length : Int) := by omega
          obtain ⟨l, hl⟩ : ∃ l, (ps.map (·.2)).getD k [] = l := ⟨_, rfl⟩
          rw [hl] at hc hr HB HDEF
          have HRI := hid hr
          clear row hr hl hL
          go_wp2_with fail
          refine (huBefore_as HB.out HRI.out (HUS.out.later HL.out).ints).mono ?_
          rintro e w2 ⟨rfl, hD⟩
          have HL2 := hid (HL.out.trans hD.later)
          have HRI2 := hid (HRI.out.later hD.later)
          replace hc := hD.later.cell hc
          clear hD
          by_cases hla : l = a
          · have HEQ := hid (eqL_iff.2 hla)
            have HIN := hid (HDEF.out.2 ⟨hla, hkn⟩)
            clear hla
            go_wp2_with fail
            refine (l1Same_as HEQ.out HRI2.out (HUS.out.later HL2.out).ints).mono ?_
            rintro e w3 ⟨rfl, hD⟩
            have HL3 := hid (HL2.out.trans hD.later)
            clear hD
            go_wp2_with fail
            go_ret
            refine ⟨_, rfl, ?_, HL3.out, fun _ => rfl, fun h => absurd HIN.out h⟩
            unfold putPs
            rw [if_pos HIN.out]
            exact (HOS.out.later HL3.out).wide (Nat.le_refl _) HL3.out.size
          · have HEQ := hid (show eqL l a = false by
              cases he : eqL l a
              · rfl
              · exact absurd (eqL_iff.1 he) hla)
            have HNI := hid (show ¬ inPs ps a from fun h => hla (HDEF.out.1 h).1)
            clear hla
            go_wp2_with fail
            refine (l1Same_as HEQ.out HRI2.out (HUS.out.later HL2.out).ints).mono ?_
            rintro e w3 ⟨rfl, hD⟩
            have HL3 := hid (HL2.out.trans hD.later)
            clear hD hc
            have HOW := hid (show (w3.alloc (.cells #[] 24)).ownsRow w3.heap.size 24 1 (.slice (some ⟨w3.heap.size, 0, none⟩) 0 0) 0 [] from ⟨rfl, .inr ⟨w3.heap.size, 0, #[], rfl, Nat.le_refl _, heap_alloc_new w3 _, Nat.le_refl _, by omega, by simp, by simp⟩⟩)
            have HCL := hid (show ∀ j, j < ps.length → w3.cell? ⟨g, j, none⟩ = some (ps.getD j (undef, [])).1 from fun j hj => HL3.out.cell (HHD.out j hj))
            obtain ⟨XS, hXS⟩ : ∃ XS, (ps.take k).map (·.1) = XS := ⟨_, rfl⟩
            obtain ⟨YS, hYS⟩ : ∃ YS, (ps.drop k).map (·.1) = YS := ⟨_, rfl⟩
            have HXL := hid (show XS.length = k * 1 by rw [← hXS]; simp; omega)
            have HYL := hid (show YS.length = (ps.length - k) * 1 by rw [← hYS]; simp)
            have hsl : ∀ p ∈ ps, p.1.oneCell' = true := fun p hp => by obtain ⟨_, _, e, _⟩ := (HOS.out.ints p hp).shape; rw [e]; rfl
            have HXO := hid (show ∀ u ∈ XS, u.oneCell' = true by intro u hu; rw [← hXS] at hu; obtain ⟨p, hp, rfl⟩ := List.mem_map.1 hu; exact hsl p (List.mem_of_mem_take hp))
            have HYO := hid (show ∀ u ∈ YS, u.oneCell' = true by intro u hu; rw [← hYS] at hu; obtain ⟨p, hp, rfl⟩ := List.mem_map.1 hu; exact hsl p (List.mem_of_mem_drop hp))
            have hat : ∀ j u, (ps.map (·.1))[j]? = some u → w3.cell? ⟨g, j, none⟩ = some u := by
              intro j u hj
              have hj2 : j < ps.length := by
                rcases Nat.lt_or_ge j ps.length with h | h
                · exact h
                · rw [List.getElem?_eq_none (by simpa using h)] at hj; cases hj
              rw [HCL.out j hj2, ← hj]
              simp [hj2]
            have HNX := hid (show ∀ j u, XS[j]? = some u → (w3.alloc (.cells #[] 24)).cell? ((⟨g, 0, none⟩ : Addr).add j) = some u from fun j u hj => by
              rw [addr_add0]
              refine (Later.alloc w3 _).cell (hat j u ?_)
              rw [← hXS, List.map_take, List.getElem?_take] at hj
              split at hj
              · exact hj
              · cases hj)
            have HINL := hid (show (insPs ps (.slice ua a.length uc, a)).length = k + 1 + (ps.length - k) by rw [(insPs_perm ps _).length_eq]; simp; omega)
            have HINM := hid (show (insPs ps (.slice ua a.length uc, a)).map (·.1) = XS ++ [.slice ua a.length uc] ++ YS by rw [HINS.out, ← hXS, ← hYS]; simp)
            have HLW := hid (show lo ≤ w3.heap.size from Nat.le_trans HLO.out HL3.out.size)
            have hkc : (k : Int) ≤ (cg : Int) := by omega
            have hkp : (k : Int) ≤ (ps.length : Int) := by omega
            have hpc : (ps.length : Int) ≤ (cg : Int) := by omega
            have hk0 : (0 : Int) ≤ (k : Int) := by omega
            have hktn : ((k : Int)).toNat = k := by omega
            clear hsl
            go_wp2_with (at_builtin; refine wpList_append_own_at _ (by rfl) _ _ _ (by rfl) w3.heap.size 24 i0 (.slice none 0 0) 1 24 Try.underlying27 hi hz0 hz1 hz2 rfl (by omega) (.slice (some ⟨w3.heap.size, 0, none⟩) 0 0) 0 [] (by rfl) (by exact HOW.out) ⟨g, 0, none⟩ k cg XS (by rfl) (by exact HXL.out) HNX.out (fun u hu => HXO.out u hu) (by unfold maxLen; omega) (by omega) (by simp) ?_)
            intro v6 w6 hown6 hgrow6 _ _
            have HO6 := hid (show w6.ownsRow w3.heap.size 24 1 v6 k XS by simpa using hown6)
            have HL6 := hid (show Later w3 w6 from (Later.alloc w3 (.cells #[] 24)).grown hgrow6 (by simp) (fun b hb => Nat.le_of_eq (Option.some.inj hb)))
            have HW6 := hid HL6.out.size
            clear hown6 hgrow6 HOW HNX
            by_cases hcq : cg = k
            · have HNY := hid (show ∀ t u, YS[t]? = some u → w3.cell? ((⟨g, 0, none⟩ : Addr).add t) = some u from fun t u ht => by
                rw [List.getElem?_eq_none (by have := HYL.out; omega)] at ht; cases ht)
              clear hat hXS hYS
              go_wp2_with fail
              go_region_held3 (fun _ => True) (trivial) (first | (have hh := HW6; clear hh; refine step_append_atH _ (by rfl) _ _ _ (by rfl) w3.heap.size 24 i0 (.slice none 0 0) 1 24 Try.underlying27 hi hz0 hz1 hz2 rfl (by omega) v6 k XS (by rfl) (by exact (HO6.out.alloc (.cells #[Value.slice ua a.length uc] 24)).drew) _ _ _ [.slice ua a.length uc] (by rfl) (by rfl) (by intro j u hj; rw [World.cell?_drew]; exact World.news_of_block (cs := #[.slice ua a.length uc]) (t := 24) (fr := (0, 0)) (heap_alloc_new w6 _) j u hj) (fun u hu => by simp at hu; subst hu; rfl) (by unfold maxLen; omega) (by omega) (by have := HW6.out; simp; omega) ?_; intro v7 w7 hown7 hgrow7; clear HW6; have HO7 := hid hown7; have HL7 := hid (show Later w3 w7 from ((HL6.out.trans (Later.alloc w6 (.cells #[Value.slice ua a.length uc] 24))).trans (Later.drew _)).grown hgrow7 (by have := HL6.out.size; simp; omega) (fun b hb => (HO6.out.lt b hb).1)); clear hown7 hgrow7) | (have hh := HO7; clear hh; refine step_append_atH _ (by rfl) _ _ _ (by rfl) w3.heap.size 24 i0 (.slice none 0 0) 1 24 Try.underlying27 hi hz0 hz1 hz2 rfl (by omega) _ (k + 1) (XS ++ [.slice ua a.length uc]) (by rfl) (by exact HO7.out) ⟨g, 0, none⟩ (ps.length - k) 0 YS (by rfl) (by exact HYL.out) (fun t u ht => HL7.out.cell (HNY.out t u ht)) (fun u hu => HYO.out u hu) (by unfold maxLen; omega) (by omega) (by have := HL7.out.size; omega) ?_; intro v8 w8 hown8 hgrow8; have HO8 := hid hown8; have HL8 := hid (show Later w3 w8 from HL7.out.grown hgrow8 HL7.out.size (fun b hb => (HO7.out.lt b hb).1)); obtain ⟨a8, c8, rfl, _⟩ := ownsRow_shape hown8; clear hown8 hgrow8 HO7 HL7))
              go_wp2_with fail
              go_ret
              refine ⟨_, rfl, ?_, HL3.out.trans HL8.out, fun h => absurd h HNI.out, fun _ b hb => Nat.le_trans HL3.out.size (HO8.out.lt b hb).1⟩
              have e := (show OwnPs lo w3.heap.size w3 _ ps from (HOS.out.later HL3.out).wide (Nat.le_refl _) HL3.out.size).insert ((HUS.out.later HL3.out).wide (Nat.le_refl _) HL3.out.size) HNE.out HL8.out (v' := .slice a8 (k + 1 + (ps.length - k)) c8) (by
                rw [HINL.out, HINM.out]
                exact ownsRow_base HO8.out HLW.out)
              unfold putPs
              rw [if_neg HNI.out]
              exact e
            · have HNY := hid (show ∀ t u, YS[t]? = some u → w3.cell? ((⟨g, k, none⟩ : Addr).add t) = some u from fun t u ht => by
                have h1 := hat (k + t) u (by rw [← hYS] at ht; rw [← ht]; simp)
                rw [← h1]
                congr 1
                unfold Addr.add
                by_cases h0 : t = 0 <;> simp [h0])
              clear hat hXS hYS
              go_wp2_with fail
              go_region_held3 (fun _ => True) (trivial) (first | (have hh := HW6; clear hh; refine step_append_atH _ (by rfl) _ _ _ (by rfl) w3.heap.size 24 i0 (.slice none 0 0) 1 24 Try.underlying27 hi hz0 hz1 hz2 rfl (by omega) v6 k XS (by rfl) (by exact (HO6.out.alloc (.cells #[Value.slice ua a.length uc] 24)).drew) _ _ _ [.slice ua a.length uc] (by rfl) (by rfl) (by intro j u hj; rw [World.cell?_drew]; exact World.news_of_block (cs := #[.slice ua a.length uc]) (t := 24) (fr := (0, 0)) (heap_alloc_new w6 _) j u hj) (fun u hu => by simp at hu; subst hu; rfl) (by unfold maxLen; omega) (by omega) (by have := HW6.out; simp; omega) ?_; intro v7 w7 hown7 hgrow7; clear HW6; have HO7 := hid hown7; have HL7 := hid (show Later w3 w7 from ((HL6.out.trans (Later.alloc w6 (.cells #[Value.slice ua a.length uc] 24))).trans (Later.drew _)).grown hgrow7 (by have := HL6.out.size; simp; omega) (fun b hb => (HO6.out.lt b hb).1)); clear hown7 hgrow7) | (have hh := HO7; clear hh; refine step_append_atH _ (by rfl) _ _ _ (by rfl) w3.heap.size 24 i0 (.slice none 0 0) 1 24 Try.underlying27 hi hz0 hz1 hz2 rfl (by omega) _ (k + 1) (XS ++ [.slice ua a.length uc]) (by rfl) (by exact HO7.out) ⟨g, k, none⟩ (ps.length - k) (cg - k) YS (by rfl) (by exact HYL.out) (fun t u ht => HL7.out.cell (HNY.out t u ht)) (fun u hu => HYO.out u hu) (by unfold maxLen; omega) (by omega) (by have := HL7.out.size; omega) ?_; intro v8 w8 hown8 hgrow8; have HO8 := hid hown8; have HL8 := hid (show Later w3 w8 from HL7.out.grown hgrow8 HL7.out.size (fun b hb => (HO7.out.lt b hb).1)); obtain ⟨a8, c8, rfl, _⟩ := ownsRow_shape hown8; clear hown8 hgrow8 HO7 HL7))
              go_wp2_with fail
              go_ret
              refine ⟨_, rfl, ?_, HL3.out.trans HL8.out, fun h => absurd h HNI.out, fun _ b hb => Nat.le_trans HL3.out.size (HO8.out.lt b hb).1⟩
              have e := (show OwnPs lo w3.heap.size w3 _ ps from (HOS.out.later HL3.out).wide (Nat.le_refl _) HL3.out.size).insert ((HUS.out.later HL3.out).wide (Nat.le_refl _) HL3.out.size) HNE.out HL8.out (v' := .slice a8 (k + 1 + (ps.length - k)) c8) (by
                rw [HINL.out, HINM.out]
                exact ownsRow_base HO8.out HLW.out)
              unfold putPs
              rw [if_neg HNI.out]
              exact e
        · have HNI := hid (show ¬ inPs ps a from fun h => hkn (HDEF.out.1 h).2)
          have hkn2 : ¬ (k : Int) < (ps.length : Int) := by omega
          clear row hL
          have HOW := hid (show (wr.alloc (.cells #[] 24)).ownsRow wr.heap.size 24 1 (.slice (some ⟨wr.heap.size, 0, none⟩) 0 0) 0 [] from ⟨rfl, .inr ⟨wr.heap.size, 0, #[], rfl, Nat.le_refl _, heap_alloc_new wr _, Nat.le_refl _, by omega, by simp, by simp⟩⟩)
          have HCL := hid (show ∀ j, j < ps.length → wr.cell? ⟨g, j, none⟩ = some (ps.getD j (undef, [])).1 from fun j hj => HL.out.cell (HHD.out j hj))
          obtain ⟨XS, hXS⟩ : ∃ XS, (ps.take k).map (·.1) = XS := ⟨_, rfl⟩
          obtain ⟨YS, hYS⟩ : ∃ YS, (ps.drop k).map (·.1) = YS := ⟨_, rfl⟩
          have HXL := hid (show XS.length = k * 1 by rw [← hXS]; simp; omega)
          have HYL := hid (show YS.length = (ps.length - k) * 1 by rw [← hYS]; simp)
          have hsl : ∀ p ∈ ps, p.1.oneCell' = true := fun p hp => by obtain ⟨_, _, e, _⟩ := (HOS.out.ints p hp).shape; rw [e]; rfl
          have HXO := hid (show ∀ u ∈ XS, u.oneCell' = true by intro u hu; rw [← hXS] at hu; obtain ⟨p, hp, rfl⟩ := List.mem_map.1 hu; exact hsl p (List.mem_of_mem_take hp))
          have HYO := hid (show ∀ u ∈ YS, u.oneCell' = true by intro u hu; rw [← hYS] at hu; obtain ⟨p, hp, rfl⟩ := List.mem_map.1 hu; exact hsl p (List.mem_of_mem_drop hp))
          have hat : ∀ j u, (ps.map (·.1))[j]? = some u → wr.cell? ⟨g, j, none⟩ = some u := by
            intro j u hj
            have hj2 : j < ps.length := by
              rcases Nat.lt_or_ge j ps.length with h | h
              · exact h
              · rw [List.getElem?_eq_none (by simpa using h)] at hj; cases hj
            rw [HCL.out j hj2, ← hj]
            simp [hj2]
          have HNX := hid (show ∀ j u, XS[j]? = some u → (wr.alloc (.cells #[] 24)).cell? ((⟨g, 0, none⟩ : Addr).add j) = some u from fun j u hj => by
            rw [addr_add0]
            refine (Later.alloc wr _).cell (hat j u ?_)
            rw [← hXS, List.map_take, List.getElem?_take] at hj
            split at hj
            · exact hj
            · cases hj)
          have HINL := hid (show (insPs ps (.slice ua a.length uc, a)).length = k + 1 + (ps.length - k) by rw [(insPs_perm ps _).length_eq]; simp; omega)
          have HINM := hid (show (insPs ps (.slice ua a.length uc, a)).map (·.1) = XS ++ [.slice ua a.length uc] ++ YS by rw [HINS.out, ← hXS, ← hYS]; simp)
          have HLW := hid (show lo ≤ wr.heap.size from Nat.le_trans HLO.out HL.out.size)
          have hkc : (k : Int) ≤ (cg : Int) := by omega
          have hkp : (k : Int) ≤ (ps.length : Int) := by omega
          have hpc : (ps.length : Int) ≤ (cg : Int) := by omega
          have hk0 : (0 : Int) ≤ (k : Int) := by omega
          have hktn : ((k : Int)).toNat = k := by omega
          clear hsl
          go_wp2_with (at_builtin; refine wpList_append_own_at _ (by rfl) _ _ _ (by rfl) wr.heap.size 24 i0 (.slice none 0 0) 1 24 Try.underlying27 hi hz0 hz1 hz2 rfl (by omega) (.slice (some ⟨wr.heap.size, 0, none⟩) 0 0) 0 [] (by rfl) (by exact HOW.out) ⟨g, 0, none⟩ k cg XS (by rfl) (by exact HXL.out) HNX.out (fun u hu => HXO.out u hu) (by unfold maxLen; omega) (by omega) (by simp) ?_)
          intro v6 w6 hown6 hgrow6 _ _
          have HO6 := hid (show w6.ownsRow wr.heap.size 24 1 v6 k XS by simpa using hown6)
          have HL6 := hid (show Later wr w6 from (Later.alloc wr (.cells #[] 24)).grown hgrow6 (by simp) (fun b hb => Nat.le_of_eq (Option.some.inj hb)))
          have HW6 := hid HL6.out.size
          clear hown6 hgrow6 HOW HNX
          by_cases hcq : cg = k
          · have HNY := hid (show ∀ t u, YS[t]? = some u → wr.cell? ((⟨g, 0, none⟩ : Addr).add t) = some u from fun t u ht => by
              rw [List.getElem?_eq_none (by have := HYL.out; omega)] at ht; cases ht)
            clear hat hXS hYS
            go_wp2_with fail
            go_region_held3 (fun _ => True) (trivial) (first | (have hh := HW6; clear hh; refine step_append_atH _ (by rfl) _ _ _ (by rfl) wr.heap.size 24 i0 (.slice none 0 0) 1 24 Try.underlying27 hi hz0 hz1 hz2 rfl (by omega) v6 k XS (by rfl) (by exact (HO6.out.alloc (.cells #[Value.slice ua a.length uc] 24)).drew) _ _ _ [.slice ua a.length uc] (by rfl) (by rfl) (by intro j u hj; rw [World.cell?_drew]; exact World.news_of_block (cs := #[.slice ua a.length uc]) (t := 24) (fr := (0, 0)) (heap_alloc_new w6 _) j u hj) (fun u hu => by simp at hu; subst hu; rfl) (by unfold maxLen; omega) (by omega) (by have := HW6.out; simp; omega) ?_; intro v7 w7 hown7 hgrow7; clear HW6; have HO7 := hid hown7; have HL7 := hid (show Later wr w7 from ((HL6.out.trans (Later.alloc w6 (.cells #[Value.slice ua a.length uc] 24))).trans (Later.drew _)).grown hgrow7 (by have := HL6.out.size; simp; omega) (fun b hb => (HO6.out.lt b hb).1)); clear hown7 hgrow7) | (have hh := HO7; clear hh; refine step_append_atH _ (by rfl) _ _ _ (by rfl) wr.heap.size 24 i0 (.slice none 0 0) 1 24 Try.underlying27 hi hz0 hz1 hz2 rfl (by omega) _ (k + 1) (XS ++ [.slice ua a.length uc]) (by rfl) (by exact HO7.out) ⟨g, 0, none⟩ (ps.length - k) 0 YS (by rfl) (by exact HYL.out) (fun t u ht => HL7.out.cell (HNY.out t u ht)) (fun u hu => HYO.out u hu) (by unfold maxLen; omega) (by omega) (by have := HL7.out.size; omega) ?_; intro v8 w8 hown8 hgrow8; have HO8 := hid hown8; have HL8 := hid (show Later wr w8 from HL7.out.grown hgrow8 HL7.out.size (fun b hb => (HO7.out.lt b hb).1)); obtain ⟨a8, c8, rfl, _⟩ := ownsRow_shape hown8; clear hown8 hgrow8 HO7 HL7))
            go_wp2_with fail
            go_ret
            refine ⟨_, rfl, ?_, HL.out.trans HL8.out, fun h => absurd h HNI.out, fun _ b hb => Nat.le_trans HL.out.size (HO8.out.lt b hb).1⟩
            have e := (show OwnPs lo wr.heap.size wr _ ps from (HOS.out.later HL.out).wide (Nat.le_refl _) HL.out.size).insert ((HUS.out.later HL.out).wide (Nat.le_refl _) HL.out.size) HNE.out HL8.out (v' := .slice a8 (k + 1 + (ps.length - k)) c8) (by
              rw [HINL.out, HINM.out]
              exact ownsRow_base HO8.out HLW.out)
            unfold putPs
            rw [if_neg HNI.out]
            exact e
          · have HNY := hid (show ∀ t u, YS[t]? = some u → wr.cell? ((⟨g, k, none⟩ : Addr).add t) = some u from fun t u ht => by
              have h1 := hat (k + t) u (by rw [← hYS] at ht; rw [← ht]; simp)
              rw [← h1]
              congr 1
              unfold Addr.add
              by_cases h0 : t = 0 <;> simp [h0])
            clear hat hXS hYS
            go_wp2_with fail
            go_region_held3 (fun _ => True) (trivial) (first | (have hh := HW6; clear hh; refine step_append_atH _ (by rfl) _ _ _ (by rfl) wr.heap.size 24 i0 (.slice none 0 0) 1 24 Try.underlying27 hi hz0 hz1 hz2 rfl (by omega) v6 k XS (by rfl) (by exact (HO6.out.alloc (.cells #[Value.slice ua a.length uc] 24)).drew) _ _ _ [.slice ua a.length uc] (by rfl) (by rfl) (by intro j u hj; rw [World.cell?_drew]; exact World.news_of_block (cs := #[.slice ua a.length uc]) (t := 24) (fr := (0, 0)) (heap_alloc_new w6 _) j u hj) (fun u hu => by simp at hu; subst hu; rfl) (by unfold maxLen; omega) (by omega) (by have := HW6.out; simp; omega) ?_; intro v7 w7 hown7 hgrow7; clear HW6; have HO7 := hid hown7; have HL7 := hid (show Later wr w7 from ((HL6.out.trans (Later.alloc w6 (.cells #[Value.slice ua a.length uc] 24))).trans (Later.drew _)).grown hgrow7 (by have := HL6.out.size; simp; omega) (fun b hb => (HO6.out.lt b hb).1)); clear hown7 hgrow7) | (have hh := HO7; clear hh; refine step_append_atH _ (by rfl) _ _ _ (by rfl) wr.heap.size 24 i0 (.slice none 0 0) 1 24 Try.underlying27 hi hz0 hz1 hz2 rfl (by omega) _ (k + 1) (XS ++ [.slice ua a.length uc]) (by rfl) (by exact HO7.out) ⟨g, k, none⟩ (ps.length - k) (cg - k) YS (by rfl) (by exact HYL.out) (fun t u ht => HL7.out.cell (HNY.out t u ht)) (fun u hu => HYO.out u hu) (by unfold maxLen; omega) (by omega) (by have := HL7.out.size; omega) ?_; intro v8 w8 hown8 hgrow8; have HO8 := hid hown8; have HL8 := hid (show Later wr w8 from HL7.out.grown hgrow8 HL7.out.size (fun b hb => (HO7.out.lt b hb).1)); obtain ⟨a8, c8, rfl, _⟩ := ownsRow_shape hown8; clear hown8 hgrow8 HO7 HL7))
            go_wp2_with fail
            go_ret
            refine ⟨_, rfl, ?_, HL.out.trans HL8.out, fun h => absurd h HNI.out, fun _ b hb => Nat.le_trans HL.out.size (HO8.out.lt b hb).1⟩
            have e := (show OwnPs lo wr.heap.size wr _ ps from (HOS.out.later HL.out).wide (Nat.le_refl _) HL.out.size).insert ((HUS.out.later HL.out).wide (Nat.le_refl _) HL.out.size) HNE.out HL8.out (v' := .slice a8 (k + 1 + (ps.length - k)) c8) (by
              rw [HINL.out, HINM.out]
              exact ownsRow_base HO8.out HLW.out)
            unfold putPs
            rw [if_neg HNI.out]
            exact e
theorem huPut_any {lo : Nat} (v u : Value) (a : List Int) (ps : List Pr) (w : World) (hlo : lo ≤ w.heap.size) (hb : ps.length ≤ 1000000) (h : OwnPs lo w.heap.size w v ps) (hu : OwnInts lo w.heap.size w u a) (hne : ∀ p ∈ ps, NePr p (u, a)) :
    Calls Try.prog 58 #[v, u] w fun e w' => ∃ v', e = .returned v' ∧ OwnPs lo w'.heap.size w' v' (putPs ps (u, a)) ∧ Later w w' ∧ (inPs ps a → v' = v) :=
  (huPutN_any v u a ps w hlo hb h hu hne).mono fun _ _ ⟨v', h1, h2, h3, h4, _⟩ => ⟨v', h1, h2, h3, h4⟩


/-- The branches behind jumps at the first i indices, in order. -/
def upF (a : Int) (zs : List Int) : Nat → List (List Int)
  | 0 => []
  | i + 1 => match jumpL a zs i with
    | none => upF a zs i
    | some ys => if zs.getD i 0 < othL a zs i then putL (upF a zs i) ys else upF a zs i
theorem putL_len (L : List (List Int)) (a : List Int) : (putL L a).length ≤ L.length + 1 := by
  unfold putL
  split
  · omega
  · rw [List.length_append, List.length_cons, List.length_take, List.length_drop]; omega
theorem upF_len (a : Int) (zs : List Int) (i : Nat) : (upF a zs i).length ≤ i := by
  induction i with
  | zero => simp [upF]
  | succ i ih =>
    unfold upF
    split
    · omega
    · split
      · have := putL_len (upF a zs i) ‹_›; omega
      · omega
theorem upF_none {a : Int} {zs : List Int} {i : Nat} (h : jumpL a zs i = none) : upF a zs (i + 1) = upF a zs i := by
  show (match jumpL a zs i with | none => upF a zs i | some ys => if zs.getD i 0 < othL a zs i then putL (upF a zs i) ys else upF a zs i) = _
  rw [h]
theorem upF_some {a : Int} {zs ys : List Int} {i : Nat} (h : jumpL a zs i = some ys) : upF a zs (i + 1) = if zs.getD i 0 < othL a zs i then putL (upF a zs i) ys else upF a zs i := by
  show (match jumpL a zs i with | none => upF a zs i | some ys => if zs.getD i 0 < othL a zs i then putL (upF a zs i) ys else upF a zs i) = _
  rw [h]
theorem OwnInts.neOld {lo hi lo2 hi2 : Nat} {w w2 : World} {u v : Value} {x y : List Int} (h : OwnInts lo hi w u x) (h2 : OwnInts lo2 hi2 w2 v y) (hh : hi ≤ lo2) : NePr (u, x) (v, y) := by
  intro k hk hk2
  have h3 := h.2 k hk
  have h4 := (h2.1.lt k hk2).1
  omega
theorem OwnPs.none_ (lo hi : Nat) (w : World) : OwnPs lo hi w (.slice none 0 0) [] :=
  ⟨World.ownsRow_nil _ _ _ _, fun b hb => by simp [Value.ownBlock] at hb, fun p hp => by simp at hp, List.Pairwise.nil⟩

set_option maxRecDepth 20000 in
set_option maxHeartbeats 1000000 in
theorem huUp_any (v : Value) (zs : List Int) (a b : Int) (w : World) (hS : Sol zs a b) (h : IntsC w v zs) :
    Calls Try.prog 57 #[v, .int .i64 a] w fun e w' => ∃ v' ps, e = .returned v' ∧ OwnPs w.heap.size w'.heap.size w' v' ps ∧ ps.map (·.2) = upF a zs zs.length ∧ Later w w' := by
  have hlen := hS.hl
  obtain ⟨ad, c, rfl, hnc⟩ := h.addr (by omega)
  have H := hid h
  have HS := hid hS
  have HNC := hid hnc
  obtain ⟨_, _, e1, _, hcc⟩ := h.1
  simp only [Value.slice.injEq] at e1
  obtain ⟨rfl, _, rfl⟩ := e1
  have HCC := hid hcc
  have hn4 : zs.length ≤ 4 := by omega
  clear h hS hlen hnc hcc
  go_enter Try.func57, Try.ntmps57
  go_wp2_with fail
  go_loopw [5, 12] (fun o i wr => ∃ (k : Nat) (ps : List Pr), k ≤ zs.length ∧ i = .int .i64 k ∧ OwnPs w.heap.size wr.heap.size wr o ps ∧ ps.map (·.2) = upF a zs k ∧ Later w wr) (fun _ i _ => zs.length - (intOf i).toNat)
  case atStart => exact ⟨0, [], Nat.zero_le _, rfl, OwnPs.none_ _ _ _, rfl, Later.refl _⟩
  case round =>
    obtain ⟨k, ps, hk, rfl, hO, hU, hL⟩ := hrel
    have HO := hid hO
    have HU := hid hU
    have HL := hid hL
    have hpl : ps.length ≤ 4 := by have := upF_len a zs k; rw [← hU, List.length_map] at this; omega
    by_cases hlt : k < zs.length
    · have HK := hid hlt
      have hkz : (k : Int) < (zs.length : Int) := by omega
      obtain ⟨ad', e2, hcell⟩ := HCC.out k HK.out
      simp only [Option.some.injEq] at e2
      subst e2
      replace hcell := hL.cell hcell
      have HI := hid (H.out.later hL)
      obtain ⟨x, hx⟩ : ∃ x, zs.getD k 0 = x := ⟨_, rfl⟩
      have HX := hid hx
      rw [hx] at hcell
      clear hO hU hL hx
      cases hj : jumpL a zs k
      · have HJ := hid hj
        have HST := hid (upF_none hj)
        clear hj
        go_wp2_with fail
        refine (huJump_any zs a b k _ _ HK.out HS.out HI.out).mono ?_
        rintro e w2 ⟨v2, rfl, ho2, hL2⟩
        rw [HJ.out]
        have HO2 := hid ((HO.out.later hL2).wide (Nat.le_refl _) hL2.size)
        have HL2 := hid (HL.out.trans hL2)
        clear ho2 hL2 hcell
        go_wp2_with fail
        go_roundw
        case rel => exact ⟨k + 1, ps, hlt, by go_num, HO2.out, by rw [HST.out]; exact HU.out, HL2.out⟩
        case measure => simp [intOf]; omega
      · rename_i ys
        have HJ := hid hj
        have HST := hid (upF_some hj)
        clear hj
        go_wp2_with fail
        refine (huJump_any zs a b k _ _ HK.out HS.out HI.out).mono ?_
        rintro e w2 ⟨v2, rfl, ho2, hL2⟩
        rw [HJ.out] at ho2 ⊢
        have ho2' : OwnInts wr.heap.size w2.heap.size w2 v2 ys := ho2
        have HNE := hid (fun p (hp : p ∈ ps) => show NePr p (v2, ys) from (HO.out.ints p hp).neOld ho2' (Nat.le_refl _))
        have HV2 := hid (ho2'.wide HL.out.size (Nat.le_refl _))
        have HO2 := hid ((HO.out.later hL2).wide (Nat.le_refl _) hL2.size)
        have HI2 := hid (HI.out.later hL2)
        have HL2 := hid (HL.out.trans hL2)
        clear ho2 ho2' hL2 hcell
        go_wp2_with fail
        refine (huOther_sol zs a b k ad c _ HK.out HNC.out HS.out HI2.out.1).mono ?_
        rintro e w3 ⟨rfl, hL3⟩
        have HO3 := hid ((HO2.out.later hL3).wide (Nat.le_refl _) hL3.size)
        have HV3 := hid ((HV2.out.later hL3).wide (Nat.le_refl _) hL3.size)
        have HL3 := hid (HL2.out.trans hL3)
        obtain ⟨r, hr⟩ : ∃ r, othL a zs k = r := ⟨_, rfl⟩
        rw [HX.out, hr] at HST
        rw [hr]
        clear hL3 hr
        by_cases hxr : x < r
        · have hd : decide (x < r) = true := decide_eq_true hxr
          have HST2 := hid (HST.out.trans (if_pos hxr))
          clear hxr
          go_wp2_with fail
          refine (huPut_any _ v2 ys ps w3 HL3.out.size (by omega) HO3.out HV3.out HNE.out).mono ?_
          rintro e w4 ⟨v4, rfl, ho4, hL4, _⟩
          have HO4 := hid ho4
          have HL4 := hid (HL3.out.trans hL4)
          have HPM := hid (putPs_map ps (v2, ys))
          clear ho4 hL4
          go_wp2_with fail
          go_roundw
          case rel => exact ⟨k + 1, _, hlt, by go_num, HO4.out, by rw [HPM.out, HST2.out, HU.out], HL4.out⟩
          case measure => simp [intOf]; omega
        · have hd : decide (x < r) = false := decide_eq_false hxr
          have HST2 := hid (HST.out.trans (if_neg hxr))
          clear hxr
          go_wp2_with fail
          go_roundw
          case rel => exact ⟨k + 1, ps, hlt, by go_num, HO3.out, by rw [HST2.out]; exact HU.out, HL3.out⟩
          case measure => simp [intOf]; omega
    · have hkn : k = zs.length := by omega
      have HU2 := hid (show ps.map (·.2) = upF a zs zs.length by rw [← hkn]; exact HU.out)
      clear hO hU hL hkn
      go_wp2_with fail
      go_ret
      exact ⟨_, ps, rfl, HO.out, HU2.out, HL.out⟩
def brAns (zs : List Int) (a b : Int) : Option (List (List Int)) := if (givenB a b && solB zs a b) = true then some (upF a zs zs.length) else none
theorem getD_rw (L : List (List Int)) (j : Nat) (h : j < L.length) : L.getD j [] = L[j] := by simp [h]
theorem befL_tot : ∀ xs ys : List Int, befL xs ys = false → xs ≠ ys → befL ys xs = true := by
  intro xs
  induction xs with
  | nil =>
    intro ys h hne
    cases ys with
    | nil => exact absurd rfl hne
    | cons y ys => simp [befL] at h
  | cons x xs ih =>
    intro ys h hne
    cases ys with
    | nil => simp [befL]
    | cons y ys =>
      by_cases e : x = y
      · subst e
        simp only [befL, ne_eq, not_true_eq_false, if_false] at h ⊢
        exact ih ys h (fun h2 => hne (by rw [h2]))
      · have e2 : y ≠ x := fun h => e h.symm
        simp only [befL, ne_eq, e, e2, not_false_eq_true, if_true, decide_eq_false_iff_not, decide_eq_true_eq] at h ⊢
        omega
theorem befL_first : ∀ xs ys : List Int, xs.length = ys.length → befL xs ys = true → ∃ d, d < xs.length ∧ (∀ k, k < d → xs.getD k 0 = ys.getD k 0) ∧ xs.getD d 0 < ys.getD d 0 := by
  intro xs
  induction xs with
  | nil =>
    intro ys hl h
    cases ys with
    | nil => simp [befL] at h
    | cons y ys => simp at hl
  | cons x xs ih =>
    intro ys hl h
    cases ys with
    | nil => simp at hl
    | cons y ys =>
      by_cases e : x = y
      · subst e
        simp only [befL, ne_eq, not_true_eq_false, if_false] at h
        obtain ⟨d, h1, h2, h3⟩ := ih ys (by simpa using hl) h
        refine ⟨d + 1, by simpa using h1, ?_, by simpa using h3⟩
        intro k hk
        cases k with
        | zero => rfl
        | succ k => simpa using h2 k (by omega)
      · simp only [befL, ne_eq, e, not_false_eq_true, if_true, decide_eq_true_eq] at h
        exact ⟨0, by simp, fun k hk => absurd hk (Nat.not_lt_zero k), by simpa using h⟩
theorem putL_mem {L : List (List Int)} {a u : List Int} (h : u ∈ putL L a) : u ∈ L ∨ u = a := by
  unfold putL at h
  split at h
  · exact .inl h
  · rcases List.mem_append.1 h with h | h
    · exact .inl (List.mem_of_mem_take h)
    · rcases List.mem_cons.1 h with h | h
      · exact .inr h
      · exact .inl (List.mem_of_mem_drop h)
theorem putL_sorted {L : List (List Int)} {a : List Int} (h : L.Pairwise fun x y => befL x y = true) : (putL L a).Pairwise fun x y => befL x y = true := by
  have ht : L.take (putK L a) = L.takeWhile fun l => befL l a := by
    unfold putK
    have h4 : L = (L.takeWhile fun l => befL l a) ++ (L.dropWhile fun l => befL l a) := (List.takeWhile_append_dropWhile).symm
    generalize (L.takeWhile fun l => befL l a) = P at h4 ⊢
    rw [h4, List.take_left']
    rfl
  unfold putL
  split
  · exact h
  · next hn =>
    have hall : ∀ u ∈ L.take (putK L a), befL u a = true := by
      rw [ht]
      intro u hu
      exact List.all_eq_true.1 (List.all_takeWhile (l := L) (p := fun l => befL l a)) u hu
    have hdrop : ∀ u ∈ L.drop (putK L a), befL a u = true := by
      by_cases hk : putK L a < L.length
      · have hne : L.getD (putK L a) [] ≠ a := fun e => hn ⟨e, hk⟩
        have hd0 : befL (L.getD (putK L a) []) a = false := by
          have h3 : (L.takeWhile fun l => befL l a).length < L.length := hk
          have h4 : L = (L.takeWhile fun l => befL l a) ++ (L.dropWhile fun l => befL l a) := (List.takeWhile_append_dropWhile).symm
          have e : putK L a = (L.takeWhile fun l => befL l a).length := rfl
          have hh := List.head?_dropWhile_not (fun l => befL l a) L
          cases hdw : L.dropWhile fun l => befL l a with
          | nil => rw [hdw, List.append_nil] at h4; rw [← h4] at h3; omega
          | cons y tl =>
            rw [hdw] at hh h4
            have h5 : befL y a = false := by simpa using hh
            generalize (L.takeWhile fun l => befL l a) = P at h4 e
            have h6 : L.getD (putK L a) [] = y := by rw [e, h4]; simp
            rw [h6, h5]
        have hb := befL_tot _ _ hd0 hne
        intro u hu
        rw [List.drop_eq_getElem_cons hk] at hu
        rcases List.mem_cons.1 hu with hu | hu
        · rw [hu, ← getD_rw _ _ hk]; exact hb
        · have h3 := h.drop (i := putK L a)
          rw [List.drop_eq_getElem_cons hk] at h3
          have h4 := (List.pairwise_cons.1 h3).1 u hu
          rw [getD_rw _ _ hk] at hb
          exact befL_trans hb h4
      · rw [List.drop_eq_nil_of_le (by omega)]
        intro u hu
        cases hu
    refine List.pairwise_append.2 ⟨h.take, List.pairwise_cons.2 ⟨hdrop, h.drop⟩, ?_⟩
    intro x hx y hy
    rcases List.mem_cons.1 hy with hy | hy
    · rw [hy]; exact hall x hx
    · exact befL_trans (hall x hx) (hdrop y hy)
theorem upF_all {zs : List Int} {a b : Int} (hS : Sol zs a b) : ∀ k, k ≤ zs.length → (upF a zs k).Pairwise (fun x y => befL x y = true) ∧ ∀ u ∈ upF a zs k, Sol u a b ∧ sumL zs < sumL u ∧ u.length = zs.length := by
  intro k
  induction k with
  | zero => intro _; exact ⟨List.Pairwise.nil, fun u hu => by cases hu⟩
  | succ k ih =>
    intro hk
    have h1 := ih (by omega)
    cases hj : jumpL a zs k with
    | none => rw [upF_none hj]; exact h1
    | some ys =>
      rw [upF_some hj]
      split
      · next hlt =>
        refine ⟨putL_sorted h1.1, fun u hu => ?_⟩
        rcases putL_mem hu with hu | hu
        · exact h1.2 u hu
        · subst hu
          have hs := jump_sum (by omega) hj
          exact ⟨hS.jump (by omega) hj, by omega, Sol.jump_len hj⟩
      · exact h1
/-- the branches, one by one -/
theorem branch_law (zs : List Int) (a b : Int) (j : Nat) (hj : j < ((brAns zs a b).getD []).length) :
    Sol zs a b ∧ Sol (((brAns zs a b).getD []).getD j []) a b ∧ sumL zs < sumL (((brAns zs a b).getD []).getD j []) ∧
      ∀ i, i + 1 = j → (((brAns zs a b).getD []).getD i []).length = (((brAns zs a b).getD []).getD j []).length ∧ befL (((brAns zs a b).getD []).getD i []) (((brAns zs a b).getD []).getD j []) = true := by
  unfold brAns at hj ⊢
  by_cases hg : (givenB a b && solB zs a b) = true
  · rw [if_pos hg] at hj ⊢
    simp only [Option.getD_some] at hj ⊢
    have hg2 := hg
    rw [Bool.and_eq_true] at hg2
    have hS := Sol.of hg2.1 hg2.2
    obtain ⟨hp, hm⟩ := upF_all hS zs.length (Nat.le_refl _)
    have h1 := hm ((upF a zs zs.length).getD j []) (by rw [getD_rw _ _ hj]; exact List.getElem_mem hj)
    refine ⟨hS, h1.1, h1.2.1, fun i hi => ?_⟩
    subst hi
    have hi : i < (upF a zs zs.length).length := by omega
    have h2 := hm ((upF a zs zs.length).getD i []) (by rw [getD_rw _ _ hi]; exact List.getElem_mem hi)
    refine ⟨by rw [h2.2.2, h1.2.2], ?_⟩
    rw [getD_rw _ _ hi, getD_rw _ _ hj]
    exact List.pairwise_iff_getElem.1 hp i (i + 1) hi hj (by omega)
  · rw [if_neg hg] at hj
    simp at hj
end Go.Proofs.Ytoaopmafokoaoaa
