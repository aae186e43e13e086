/- The word of a triple, in the program. -/
import Derived.Test.YtmlnpnglafipbaaWordS
import Derived.Laws.IdiomStrings
namespace Go.Proofs.Ytmlnpnglafipbaa
open Go.RowKit

theorem Try.infoByte : (Try.prog.info? 5).map (fun i => (i.zero, i.size, i.bytes)) = some (some (.int .u8 0), 1, 1) := by kernel_rfl
def lettr (p q : Int) : Int := if p = q then 108 else 114
theorem letterBetween_any (ta tb : Addr) (tc td : Nat) (p q : Int) (w : World) (c0 : w.cell? ta = some (.int .i64 p)) (c1 : w.cell? tb = some (.int .i64 q)) :
    Calls Try.prog 62 #[.slice (some ta) 3 tc, .slice (some tb) 3 td] w fun e w' => e = .returned (.int .u8 (lettr p q)) ∧ Later w w' := by
  by_cases h : p = q
  · have hb : (p == q) = true := by simp [h]
    have H := hid (show lettr p q = 108 by unfold lettr; rw [if_pos h])
    clear h
    go_enter Try.func62, Try.ntmps62
    go_wp2_with fail
    go_quiet (fail)
    go_wp2_with fail
    go_ret
    exact ⟨by rw [H.out]; rfl, Later.drewN _ _⟩
  · have hb : (p == q) = false := by simp [h]
    have H := hid (show lettr p q = 114 by unfold lettr; rw [if_neg h])
    clear h
    go_enter Try.func62, Try.ntmps62
    go_wp2_with fail
    go_quiet (fail)
    go_wp2_with fail
    go_ret
    exact ⟨by rw [H.out]; rfl, Later.drewN _ _⟩
theorem wordOf_getD (R : List (List Int)) (i : Nat) (h : i < R.length - 3) (p q : Int) (hp : (R.getD i []).getD 0 0 = p) (hq : (R.getD (i + 1) []).getD 0 0 = q) :
    (((wordOf R).getD (R.length - 4 - i) 0).toNat : Int) = lettr q p := by
  have h1 := wordOf_at R (R.length - 4 - i) (by omega)
  rw [show R.length - 4 - (R.length - 4 - i) = i by omega] at h1
  rw [List.getD_eq_getElem?_getD, h1, Option.getD_some]
  unfold letW lettr
  rw [hp, hq]
  by_cases h : p = q
  · rw [if_pos h, if_pos h.symm]; rfl
  · rw [if_neg h, if_neg (fun e => h e.symm)]; rfl

set_option maxRecDepth 20000 in
set_option maxHeartbeats 4000000 in
theorem implMarkovWord_any (v : Value) (zs : List Int) (w : World) (h : Ints w v zs) :
    Calls Try.prog 33 #[v] w fun e w' => StrAns w (wordAns zs) e w' := by
  have H := hid h
  cases hg : mkGoodW zs
  · have HA := hid (show wordAns zs = none by unfold wordAns; rw [if_neg (by simp [hg])])
    have HP := hid (show pathAns zs = none by unfold pathAns; rw [if_neg (by simp [hg])])
    obtain ⟨a, cap, rfl, hl, _⟩ := id h
    clear hg h
    go_enter Try.func33, Try.ntmps33
    go_wp2_with fail
    refine (implMarkovPath_any _ zs _ H.out).mono ?_
    rintro e w1 ⟨v1, rfl, ho, hL⟩
    rw [HP.out] at ho ⊢
    obtain ⟨a1, c1, rfl, _⟩ := ho.shape
    have HL := hid hL
    clear hL ho
    go_wp2_with fail
    go_ret2
    rw [HA.out]
    exact ⟨rfl, HL.out⟩
  · obtain ⟨x, y, z, rfl, hT⟩ := mkGoodW_T3 hg
    have hrow := hid (fun r => pathG_rows (x := x) (y := y) (z := z) r)
    have hlen : (pathG x y z).length ≤ 1000000001 := pathG_len hT
    have HP := hid (show pathAns [x, y, z] = some (pathG x y z) by unfold pathAns; rw [if_pos hg]; rfl)
    have HA := hid (show wordAns [x, y, z] = if 3 ≤ (pathG x y z).length ∧ (pathG x y z).length ≤ 43 then some (wordOf (pathG x y z)) else none by
      unfold wordAns
      by_cases h43 : 3 ≤ (pathG x y z).length ∧ (pathG x y z).length ≤ 43
      · rw [if_pos h43, if_pos ⟨hg, h43.1, h43.2⟩]; rfl
      · rw [if_neg h43, if_neg (fun hh => h43 hh.2)])
    obtain ⟨R, hR⟩ : ∃ R, pathG x y z = R := ⟨_, rfl⟩
    rw [hR] at hrow hlen HA HP
    obtain ⟨a, cap, rfl, hl, _⟩ := id h
    obtain ⟨i0, hi, hz0, hz1, hz2⟩ := info_parts Try.infoByte
    have HB := hid hz2
    clear hg h hT hR
    go_enter Try.func33, Try.ntmps33
    go_wp2_with fail
    refine (implMarkovPath_any _ [x, y, z] _ H.out).mono ?_
    rintro e w1 ⟨v1, rfl, ho, hL⟩
    rw [HP.out] at ho ⊢
    replace ho : OwnRows w.heap.size w1.heap.size w1 v1 R := ho
    obtain ⟨a1, c1, rfl, _⟩ := ho.shape
    have HL := hid hL
    have HR := hid ho.rows
    clear hL ho
    by_cases h3 : R.length < 3
    · have HN := hid (show wordAns [x, y, z] = none by rw [HA.out, if_neg (by omega)])
      have hd : decide ((R.length : Int) - 3 < 0) = true := decide_eq_true (by omega)
      go_wp2_with fail
      go_ret2
      rw [HN.out]
      exact ⟨rfl, HL.out⟩
    · obtain ⟨M, hM⟩ : ∃ M, R.length = M + 3 := ⟨R.length - 3, by omega⟩
      have hM3 : (R.length : Int) - 3 = (M : Int) := by omega
      by_cases h40 : 40 < M
      · have HN := hid (show wordAns [x, y, z] = none by rw [HA.out, if_neg (by omega)])
        have hd : decide ((40 : Int) < (M : Int)) = true := decide_eq_true (by omega)
        have HM := hid hM
        clear hM h3
        go_wp2_with fail
        go_ret2
        rw [HN.out]
        exact ⟨rfl, HL.out⟩
      · have HN := hid (show wordAns [x, y, z] = some (wordOf R) by rw [HA.out, if_pos (by omega)])
        have hd : decide ((40 : Int) < (M : Int)) = false := decide_eq_false (by omega)
        have HM := hid hM
        clear hM h3
        go_wp2_with (at_make; refine wpList_make_full _ rfl _ _ 62 rfl w1.heap.size 5 i0 (.int .u8 0) 1 Try.underlying62 hi hz0 hz1 _ _ _ _ M rfl rfl rfl rfl ?b2 ?b3 ?b4 ?_)
        case b2 => rw [HB.out]; omega
        case b3 => unfold maxLen; omega
        case b4 => exact Nat.le_refl _
        intro w2 hown hgrow
        have hL2 : Later w1 w2 := (Below.refl _ _).grown hgrow (Nat.le_refl _) (by simp)
        have HO2 := hid hown
        have HL2 := hid hL2
        clear hown hgrow hL2
        go_wp2_with fail
        go_loopw [31] (fun k wr => ∃ (i : Nat) (xs : List Value), i ≤ M ∧ k = .int .i64 i ∧ wr.ownsRow w1.heap.size 5 1 (.slice (some ⟨w1.heap.size, 0, none⟩) M M) M xs ∧ (∀ j, M - i ≤ j → j < M → xs[j]? = some (.int .u8 (((wordOf R).getD j 0).toNat : Nat))) ∧ Later w1 wr)
          (fun k _ => M - (intOf k).toNat)
        case atStart => exact ⟨0, _, Nat.zero_le _, rfl, HO2.out, fun j h1 h2 => by omega, HL2.out⟩
        case round =>
          clear HO2 HL2
          obtain ⟨i, xs, hi, rfl, hxo, hxs, hL⟩ := hrel
          have HX := hid hxs
          have HXO := hid hxo
          have HLr := hid hL
          by_cases hlt : i < M
          · obtain ⟨K, hK⟩ : ∃ K : Nat, (M : Int) - 1 - (i : Int) = (K : Int) := ⟨M - 1 - i, by omega⟩
            have hKe : R.length - 4 - i = K := by have := HM.out; omega
            have hKM : K < M := by omega
            have hiR := hid (show i < R.length - 3 by have := HM.out; omega)
            obtain ⟨ad1, ta1, tc1, rfl, b1, b2⟩ := HR.out.at3 hrow.out i (by have := HM.out; omega)
            obtain ⟨ad2, ta2, tc2, e2, b3, b4⟩ := HR.out.at3 hrow.out (i + 1) (by have := HM.out; omega)
            obtain rfl : ad1 = ad2 := by simpa using e2
            have hblk := hid (show ad1.block < w1.heap.size by have := World.block_lt_of_cell? w1 _ b1; rwa [add_block] at this)
            rw [add_at2] at b3
            replace b1 := hL.cell b1
            replace b2 := hL.cell b2
            replace b3 := hL.cell b3
            replace b4 := hL.cell b4
            have hi2 : (0 : Int) ≤ (i : Int) + 1 := by omega
            obtain ⟨p, hp⟩ : ∃ p, (R.getD i []).getD 0 0 = p := ⟨_, rfl⟩
            obtain ⟨q, hq⟩ : ∃ q, (R.getD (i + 1) []).getD 0 0 = q := ⟨_, rfl⟩
            have HLT := hid (wordOf_getD R i hiR.out p q hp hq)
            rw [hKe] at HLT
            rw [hp] at b2
            rw [hq] at b4
            have hxl : xs.length = M := by have := hxo.1; simpa using this
            obtain ⟨u0, hu0⟩ : ∃ u, xs[K]? = some u := ⟨xs[K]'(by omega), List.getElem?_eq_getElem (by omega)⟩
            have c0 : wr.cell? ⟨w1.heap.size, K, none⟩ = some u0 := (hxo.cellAt K (by omega)).trans hu0
            have f0 : wr.frozen? ⟨w1.heap.size, K, none⟩ = false := hxo.frozenAt K
            have hi0 : (i : Int) < (R.length : Int) := by have := HM.out; omega
            have hi1 : (i : Int) + 1 < (R.length : Int) := by have := HM.out; omega
            have k0 : IntKind.i64.wrap ((i : Int) + 1) = (i : Int) + 1 := by rw [IntWalk.i64_left]; exact IntWalk.wrap64_in _ (by omega)
            have k1 : IntKind.i64.wrap ((M : Int) - 1) = (M : Int) - 1 := by rw [IntWalk.i64_left]; exact IntWalk.wrap64_in _ (by omega)
            have k2 : IntKind.i64.wrap ((M : Int) - 1 - (i : Int)) = (K : Int) := by rw [hK, IntWalk.i64_left]; exact IntWalk.wrap64_in _ (by omega)
            have k3 : ((i : Int) + 1).toNat = i + 1 := by omega
            have hKi : (K : Int) < (M : Int) := by omega
            have HKI := hid hK
            have HKE := hid hKe
            clear hp hq hL e2 hK hKe hu0 hxo hxs
            go_wp2_with fail
            go_region_held3 (fun w' => w'.cell? (ad1.add i) = some (.slice (some ta1) 3 tc1) ∧ w'.cell? ⟨ad1.block, ad1.off + (i + 1), none⟩ = some (.slice (some ta2) 3 tc2)) (first | exact ⟨b1, b3⟩ | exact ⟨d1, d3⟩ | exact ⟨(World.cell?_setCell_other _ _ _ _ (by intro e; have h1 := congrArg Addr.block e; rw [add_block] at h1; change w1.heap.size = ad1.block at h1; have h2 := hblk.out; omega)).trans d1, (World.cell?_setCell_other _ _ _ _ (by intro e; have h1 := congrArg Addr.block e; change w1.heap.size = ad1.block at h1; have h2 := hblk.out; omega)).trans d3⟩) (first | (go_at_call 62; refine (letterBetween_any ta2 ta1 tc2 tc1 q p wr.drew b4 b2).mono ?_; rintro e w5 ⟨rfl, hL5⟩; have d1 := hL5.cell (w := wr.drew) b1; have d3 := hL5.cell (w := wr.drew) b3; have d0 := hL5.cell (w := wr.drew) c0; have g0 := hL5.frozen (w := wr.drew) c0 f0; have HL5 := hid ((Later.drew wr).trans hL5); clear hL5))
            have HXS := hid ((ownsRow_keep3 HXO.out fun b hb => HL5.out.block b (HXO.out.lt b hb).2 : w5.ownsRow w1.heap.size 5 1 (.slice (some ⟨w1.heap.size, 0, none⟩) M M) M xs).stored K (.int .u8 (lettr q p))).1
            have HL6 := hid (show Later w1 (w5.setCell ⟨w1.heap.size, K, none⟩ (.int .u8 (lettr q p))) from Below.setCell (HLr.out.trans HL5.out) (Nat.le_refl _) _)
            go_wp2_with fail
            go_roundw
            case rel => exact ⟨i + 1, xs.set K (.int .u8 (lettr q p)), hlt, by go_num, by simpa using HXS.out, fun j h1 h2 => by
                by_cases hjk : j = K
                · subst hjk
                  rw [HLT.out]; simp [hxl, h2]
                · rw [List.getElem?_set_ne (Ne.symm hjk)]
                  exact HX.out j (by have := HKI.out; omega) h2, HL6.out⟩
            case measure => simp [intOf]; omega
          · have hiM : i = M := by omega
            subst hiM
            have hW : wordOf R = wordOf R := rfl
            have hWl : (wordOf R).length = i := by rw [wordOf_len]; have := HM.out; omega
            have hxl : xs.length = i := by have := hxo.1; simpa using this
            have hconv := run_convert_bytes_back (P := Try.prog) wr 62 9 5 ⟨w1.heap.size, 0, none⟩ i (wordOf R) Try.underlying62 Try.underlying5 Try.underlying9 (fun j hj => by
              rw [addr_add0, hxo.cellAt j (by omega), hxs j (by omega) (by omega)]
              simp [hj])
            rw [hWl] at hconv
            have HLL := hid (HL.out.trans hL)
            clear hxs hxo hL hW
            go_wp2_with fail
            go_ret2
            rw [HN.out]
            exact ⟨rfl, HLL.out⟩
end Go.Proofs.Ytmlnpnglafipbaa
