/- Rows of solutions: Go's library's deletion by a predicate (DeleteFunc). -/
import Derived.Test.YtjnhhjnfdaaaeabHuDl
namespace Go.Proofs.Ytjnhhjnfdaaaeab
open Go.RowKit

theorem filter_none {p : So → Bool} {L : List So} (h : ∀ s ∈ L, p s = false) : L.filter (fun s => !p s) = L := by
  rw [List.filter_eq_self]; intro s hs; rw [h s hs]; rfl
theorem take_snocS (L : List So) (k : Nat) (h : k < L.length) : L.take (k + 1) = L.take k ++ [L.getD k noSo] := by
  rw [List.take_add_one, List.getD_eq_getElem?_getD, List.getElem?_eq_getElem h]; rfl
theorem take_none {p : So → Bool} {L : List So} {k : Nat} (hk : k ≤ L.length) (h : ∀ j, j < k → p (L.getD j noSo) = false) : (L.take k).filter (fun s => !p s) = L.take k := by
  refine filter_none fun s hs => ?_
  obtain ⟨j, hj, rfl⟩ := List.getElem_of_mem hs
  have hj' : j < k := by rw [List.length_take] at hj; omega
  have := h j hj'
  rw [List.getD_eq_getElem?_getD, List.getElem?_eq_getElem (by omega)] at this
  simpa using this
theorem filter_stepS {p : So → Bool} {L : List So} {j : Nat} (h : j < L.length) : (L.take (j + 1)).filter (fun s => !p s) = (L.take j).filter (fun s => !p s) ++ (if p (L.getD j noSo) = true then [] else [L.getD j noSo]) := by
  rw [take_snocS L j h, List.filter_append]
  congr 1
  generalize L.getD j noSo = x
  cases hp : p x <;> simp [hp]
theorem drop_atS {K L : List So} {j : Nat} (h : K.drop j = L.drop j) : K.getD j noSo = L.getD j noSo := by
  have h1 : (K.drop j)[0]? = (L.drop j)[0]? := by rw [h]
  rw [List.getElem?_drop, List.getElem?_drop, Nat.add_zero] at h1
  rw [List.getD_eq_getElem?_getD, List.getD_eq_getElem?_getD, h1]
theorem drop_succS {K L : List So} {j : Nat} (h : K.drop j = L.drop j) : K.drop (j + 1) = L.drop (j + 1) := by
  have : ∀ X : List So, X.drop (j + 1) = (X.drop j).drop 1 := fun X => by rw [List.drop_drop]
  rw [this, this, h]

set_option maxRecDepth 20000 in
set_option maxHeartbeats 4000000 in
theorem deleteFunc_any {lo : Nat} (w0 : World) (g : Nat) (lb : Array Value) (eg : ∀ args w, (callFunc g args).run Try.prog w = .ok (.enter g args) w) (D : So → Prop) (p : So → Bool) (HT : Tests w0 g lb D p)
    (b cap : Nat) (L : List So) (w : World) (hL0 : Later w0 w) (hlo : w0.heap.size ≤ lo) (hD : ∀ s ∈ L, D s) (hb : L.length ≤ 1000000) (h : OwnSols lo w (.slice (some ⟨b, 0, none⟩) L.length cap) L) :
    Calls Try.prog 85 #[.slice (some ⟨b, 0, none⟩) L.length cap, .func (.func g) #[] lb] w fun e w' => e = .returned (.slice (some ⟨b, 0, none⟩) (L.filter fun s => !p s).length cap) ∧ OwnSols lo w' (.slice (some ⟨b, 0, none⟩) (L.filter fun s => !p s).length cap) (L.filter fun s => !p s) ∧ Later w0 w' := by
  have HIF := indexFunc_any w0 g lb eg D p HT b cap L w hL0 hD (by omega) h
  have H := hid h
  have HT' := hid HT
  have HL0 := hid hL0
  have HLO := hid hlo
  have HD := hid hD
  have hcap : L.length ≤ cap := by
    obtain ⟨_, _, e, hle⟩ := h.shape
    simp only [Value.slice.injEq] at e
    rw [e.2.2]; exact hle
  obtain ⟨M, hM⟩ : ∃ M, (L.filter fun s => !p s) = M := ⟨_, rfl⟩
  have HM := hid hM
  rw [hM]
  obtain ⟨n, hn⟩ : ∃ n, L.length = n := ⟨_, rfl⟩
  have HN := hid hn
  rw [hn] at H hb hcap HIF ⊢
  have HIF' := hid HIF
  clear h HT hL0 hlo hD hn hM HIF
  go_enter Try.func85, Try.ntmps85
  go_wp2_with fail
  refine HIF'.out.mono ?_
  rintro e w1 ⟨r, rfl, hr, hL1⟩
  have HL1 := hid (HL0.out.trans hL1)
  have HO1 := hid (H.out.later hL1)
  clear hL1
  rcases hr with ⟨rfl, hall⟩ | ⟨k0, rfl, hk0, hpk, hpre⟩
  · have HE := hid (show M = L by rw [← HM.out]; exact filter_none hall)
    have HEN := hid (show M.length = n by rw [HE.out]; exact HN.out)
    clear hall
    go_wp2_with fail
    go_ret
    exact ⟨by rw [HEN.out]; rfl, by rw [HEN.out, HE.out]; exact HO1.out, HL1.out⟩
  · have hk0n : k0 < n := by rw [← HN.out]; exact hk0
    have hne1 : ((k0 : Int) == -1) = false := beq_eq_false_iff_ne.2 (by omega)
    have HST := hid (show L.take k0 = (L.take (k0 + 1)).filter (fun s => !p s) by rw [filter_stepS hk0, hpk, take_none (by omega) hpre]; simp)
    clear hk0 hpk hpre
    go_wp2_with fail
    go_loopw [5, 6, 7] (fun s5 s6 _ wr => ∃ (i j : Nat) (K : List So), s5 = .int .i64 i ∧ s6 = .int .i64 j ∧ j ≤ n ∧ i < j ∧ K.length = n ∧ K.take i = (L.take j).filter (fun s => !p s) ∧ K.drop j = L.drop j ∧ OwnSols lo wr (.slice (some ⟨b, 0, none⟩) n cap) K ∧ Later w0 wr)
      (fun _ s6 _ _ => n - (intOf s6).toNat)
    case atStart => exact ⟨k0, k0 + 1, L, rfl, by go_num, hk0n, by omega, HN.out, HST.out, rfl, HO1.out, HL1.out⟩
    case round =>
      clear HO1 HL1 HST
      obtain ⟨i, j, K, rfl, rfl, hj, hij, hKl, hKt, hKd, hO, hL⟩ := hrel
      have HO := hid hO
      have HL := hid hL
      have HKL := hid hKl
      have HKT := hid hKt
      have HKD := hid hKd
      clear hKt hKd hKl hL
      by_cases hlt : j < n
      · have hltI : (j : Int) < (n : Int) := by omega
        have hiI : (i : Int) < (n : Int) := by omega
        obtain ⟨c0, c1, c2, c3⟩ := hO.fourAt HKL.out j hlt
        have HFS := hid (filter_stepS (p := p) (L := L) (j := j) (by rw [HN.out]; exact hlt))
        have hm : D (L.getD j noSo) := HD.out _ (by rw [List.getD_eq_getElem?_getD, List.getElem?_eq_getElem (by rw [HN.out]; exact hlt), Option.getD_some]; exact List.getElem_mem _)
        rw [drop_atS HKD.out] at c0 c1 c2 c3
        obtain ⟨s, hs⟩ : ∃ s, L.getD j noSo = s := ⟨_, rfl⟩
        rw [hs] at c0 c1 c2 c3 hm HFS
        obtain ⟨x', y', z', t'⟩ := s
        simp only at c0 c1 c2 c3
        have hA := Later.alloc wr (.cells #[.int .i64 x', .int .i64 y', .int .i64 z', .int .i64 t'] 48)
        have HCALL := hid (fun w' (k : Later wr w') => HT'.out w' (HL.out.trans k) (x', y', z', t') hm)
        have HB := hid (Box4.new wr x' y' z' t')
        clear hm hs hO
        cases hp : p (x', y', z', t')
        · have HPV := hid hp
          have HFS2 := hid (show (L.take (j + 1)).filter (fun s => !p s) = (L.take j).filter (fun s => !p s) ++ [(x', y', z', t')] by rw [HFS.out, hp]; rfl)
          clear hp
          have hB := hid (HB.out)
          obtain ⟨⟨a0, a1, a2, a3⟩, _⟩ := hB.out
          have HOA := hid (HO.out.later hA)
          have HLA := hid (HL.out.trans hA)
          have HCALL2 := hid (HCALL.out _ hA)
          clear hA HCALL
          go_wp2_with (go_at_fn g; refine HCALL2.out.mono ?_; rw [HPV.out]; rintro e w2 ⟨rfl, hL2⟩; have HL2 := hid (HLA.out.trans hL2); have HB2 := hid (HB.out.later hL2); have HO2 := hid (HOA.out.later hL2); obtain ⟨⟨m0, m1, m2, m3, e0, e1, e2, e3⟩, g0, g1, g2, g3⟩ := HO2.out.openAt HKL.out i (by omega); obtain ⟨⟨b0, b1, b2, b3⟩, _⟩ := HB2.out; clear hL2)
          have h1 : OwnSols lo w2 (.slice (some ⟨b, 0, none⟩) K.length cap) K := by rw [HKL.out]; exact HO2.out
          have h2 := h1.put i (by rw [HKL.out]; omega) x' y' z' t'
          rw [HKL.out] at h2
          have HO3 := hid h2
          have HL3 := hid (set4_laterK HL2.out (Nat.le_trans HLO.out (HO2.out.lt b rfl).1) i x' y' z' t')
          clear h1 h2
          go_roundw
          case rel => exact ⟨i + 1, j + 1, K.set i (x', y', z', t'), by go_num, by go_num, hlt, by omega, by rw [List.length_set]; exact HKL.out, by
            rw [HFS2.out, ← HKT.out, List.take_set, take_snocS K i (by rw [HKL.out]; omega)]
            rw [List.set_append_right _ _ (by rw [List.length_take]; omega), List.length_take, Nat.min_eq_left (by rw [HKL.out]; omega)]; simp, by
            rw [List.drop_set_of_lt (by omega)]; exact drop_succS HKD.out, HO3.out, HL3.out⟩
          case measure => simp [intOf]; omega
        · have HPV := hid hp
          have HFS2 := hid (show (L.take (j + 1)).filter (fun s => !p s) = (L.take j).filter (fun s => !p s) by rw [HFS.out, hp]; simp)
          clear hp
          obtain ⟨⟨a0, a1, a2, a3⟩, _⟩ := HB.out
          have HOA := hid (HO.out.later hA)
          have HLA := hid (HL.out.trans hA)
          have HCALL2 := hid (HCALL.out _ hA)
          clear hA HCALL
          go_wp2_with (go_at_fn g; refine HCALL2.out.mono ?_; rw [HPV.out]; rintro e w2 ⟨rfl, hL2⟩; have HL2 := hid (HLA.out.trans hL2); have HO2 := hid (HOA.out.later hL2); clear hL2)
          go_roundw
          case rel => exact ⟨i, j + 1, K, rfl, by go_num, hlt, by omega, HKL.out, by rw [HFS2.out]; exact HKT.out, drop_succS HKD.out, HO2.out, HL2.out⟩
          case measure => simp [intOf]; omega
      · obtain rfl : j = n := by omega
        have HE := hid (show K.take i = M by rw [HKT.out, ← HM.out, List.take_of_length_le (by rw [HN.out]; exact Nat.le_refl _)])
        have HEL := hid (show M.length = i by rw [← HE.out, List.length_take, HKL.out]; omega)
        have ho' : wr.ownsRow lo 48 4 (.slice (some ⟨b, 0, none⟩) j cap) j (soCells K) := by have h := HO.out; unfold OwnSols at h; rw [HKL.out] at h; exact h
        have hcl : ∀ ty, (Builtin.clear_ #[51] ty #[.slice (some ⟨b, i * 4, none⟩) (j - i) (cap - i)]).run Try.prog wr = .ok (.tuple #[]) (wr.setCells b (i * 4) (List.replicate ((j - i) * 4) (.int .i64 0))) := fun ty =>
          run_clear_so wr ty b (i * 4) (j - i) (cap - i) (by omega) (fun t ht => by
            rw [ho'.cellAt (i * 4 + t) (by omega), List.getElem?_eq_getElem (by rw [soCells_len, HKL.out]; omega)]; rfl) (fun t _ => ho'.frozenAt _)
        obtain ⟨ys, hys1, hys2, hys3⟩ := ownsRow_setCells (List.replicate ((j - i) * 4) (Value.int .i64 0)) (i * 4) wr (soCells K) ho'
        have hcut := OwnSols.cut hys1 i (by omega) HEL.out (by
          rw [hys2, ← HE.out]
          have e : soCells K = soCells (K.take i) ++ soCells (K.drop i) := by unfold soCells; rw [← List.flatMap_append, List.take_append_drop]
          rw [e, List.take_append_of_le_length (by rw [soCells_len, List.length_take, HKL.out]; omega), List.take_of_length_le (by rw [soCells_len, List.length_take, HKL.out]; omega)])
        have HCUT := hid hcut
        have HLF := hid (show Later w0 (wr.setCells b (i * 4) (List.replicate ((j - i) * 4) (.int .i64 0))) from HL.out.grown hys3 HL.out.size (fun b' hb' => by have e := Option.some.inj hb'; subst e; exact Nat.le_trans HLO.out (HO.out.lt b rfl).1))
        have hij2 : (i : Int) ≤ (j : Int) := by omega
        have hic : (i : Int) ≤ (cap : Int) := by omega
        have hjc : (j : Int) ≤ (cap : Int) := by omega
        have hnc : ¬ cap = i := by omega
        clear hO ho' hys1 hys2 hys3 hcut
        go_wp2_with fail
        go_ret
        exact ⟨by rw [HEL.out]; rfl, by rw [HEL.out]; exact HCUT.out, HLF.out⟩
end Go.Proofs.Ytjnhhjnfdaaaeab
