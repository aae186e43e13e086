/- Generators and words of indices in the program, at any arguments; the product of a word of matrices. -/
import Derived.Test.YtkpnckcfoigceaaCoI
import Derived.Deep.QuietTactic
import Derived.Test.YtkpnckcfoigceaaIdxA
namespace Go.Proofs.Ytkpnckcfoigceaa
open Go.RowKit

/-- A world behind w, with what w had as it was: the class of worlds of a drawn region whose callees draw and lay blocks of their own. -/
structure LaterW (w : World) where
  now : World
  later : Later w now
instance (w : World) : Inhabited (LaterW w) := ⟨⟨w, Later.refl w⟩⟩
theorem wp_region_quiet_later {P : Program} {id : Nat} {Q : Exit → Act → World → Prop} {a : Act} {w : World} {l : List Oper} (hm : P.follows .mixedOrders = true) (hB : Region.lexB .any l.toArray = true)
    (h : wpQuiet P l.toArray (fun w' => ∃ p : LaterW w, w' = p.now) (fun a' => ∀ w', (∃ p : LaterW w, w' = p.now) → Q .normal a' w') l a) : (Code.region id l.toArray true).wp P Q a w :=
  wp_region_quiet (C := fun w' => ∃ p : LaterW w, w' = p.now) hm hB ⟨⟨w.drew, Later.drew w⟩, rfl⟩ (by simpa using h)
theorem Calls.laterW {P : Program} {f : FuncId} {args : Array Value} {w : World} (p : LaterW w) {v : Value} (h : Calls P f args p.now fun e w' => e = .returned v ∧ Later p.now w') :
    Calls P f args p.now fun e w'' => e = .returned v ∧ ∃ q : LaterW w, w'' = q.now :=
  h.mono fun _ w' ⟨he, hL⟩ => ⟨he, ⟨w', p.later.trans hL⟩, rfl⟩

/-- A slice of matrices, read as an argument. -/
def MatsR (w : World) (v : Value) (Z : List (List (List Int))) : Prop :=
  ∃ a cap, v = .slice a Z.length cap ∧ Z.length ≤ 9223372036854775807 ∧ ∀ i, i < Z.length → ∃ ad u, a = some ad ∧ w.cell? (ad.add i) = some u ∧ Rows2 w u (Z.getD i [])
theorem MatsR.later {w w' : World} {v : Value} {Z : List (List (List Int))} (h : MatsR w v Z) (k : Later w w') : MatsR w' v Z := by
  obtain ⟨a, cap, rfl, hl, hc⟩ := h
  refine ⟨a, cap, rfl, hl, fun i hi => ?_⟩
  obtain ⟨ad, u, rfl, hx, hr⟩ := hc i hi
  exact ⟨ad, u, rfl, k.cell hx, hr.later k⟩
theorem MatsR.mats {w : World} {v : Value} {Z : List (List (List Int))} (h : MatsR w v Z) (h1 : 1 ≤ Z.length) (h8 : Z.length ≤ 8) : Mats w v Z := by
  obtain ⟨a, cap, rfl, hl, hc⟩ := h
  obtain ⟨ad, u, rfl, hx, hr⟩ := hc 0 h1
  refine ⟨ad, cap, rfl, h8, fun i hi => ?_⟩
  obtain ⟨ad', u, he, hx, hr⟩ := hc i hi
  cases he
  exact ⟨u, hx, hr⟩
def genP (Z : List (List (List Int))) (g : List (List Int)) : Bool := goodM 1000000 g && decide (g.length = (Z.getD 0 []).length)
def gensOK (Z : List (List (List Int))) : Bool := decide (1 ≤ Z.length) && decide (Z.length ≤ 8) && Z.all (genP Z)
theorem gensOK_true {Z : List (List (List Int))} (h1 : 1 ≤ Z.length) (h8 : Z.length ≤ 8) (h : ∀ i, i < Z.length → genP Z (Z.getD i []) = true) : gensOK Z = true := by
  unfold gensOK
  rw [decide_eq_true h1, decide_eq_true h8, Bool.true_and, Bool.true_and, List.all_eq_true]
  intro g hg
  obtain ⟨i, hi, rfl⟩ := List.getElem_of_mem hg
  have := h i hi
  rw [List.getD_eq_getElem?_getD, List.getElem?_eq_getElem hi, Option.getD_some] at this; exact this
theorem gensOK_false {Z : List (List (List Int))} (i : Nat) (hi : i < Z.length) (h : genP Z (Z.getD i []) = false) : gensOK Z = false := by
  unfold gensOK
  rw [Bool.and_eq_false_iff]
  right
  rw [List.all_eq_false]
  exact ⟨Z.getD i [], by rw [List.getD_eq_getElem?_getD, List.getElem?_eq_getElem hi]; exact List.getElem_mem hi, by rw [h]; simp⟩
theorem gensOK_parts {Z : List (List (List Int))} (h : gensOK Z = true) : 1 ≤ Z.length ∧ Z.length ≤ 8 ∧ ∀ i, i < Z.length → goodM 1000000 (Z.getD i []) = true ∧ (Z.getD i []).length = (Z.getD 0 []).length := by
  unfold gensOK at h
  rw [Bool.and_eq_true, Bool.and_eq_true, List.all_eq_true] at h
  refine ⟨of_decide_eq_true h.1.1, of_decide_eq_true h.1.2, fun i hi => ?_⟩
  have := h.2 (Z.getD i []) (by rw [List.getD_eq_getElem?_getD, List.getElem?_eq_getElem hi]; exact List.getElem_mem hi)
  unfold genP at this
  rw [Bool.and_eq_true] at this
  exact ⟨this.1, of_decide_eq_true this.2⟩

set_option maxRecDepth 20000 in
set_option maxHeartbeats 600000 in
theorem areGenerators_any (v : Value) (Z : List (List (List Int))) (w : World) (h : MatsR w v Z) :
    Calls Try.prog 31 #[v] w fun e w' => BoolRes w (gensOK Z) e w' := by
  obtain ⟨a1, cap, rfl, hZl, hc⟩ := h
  by_cases h18 : 1 ≤ Z.length ∧ Z.length ≤ 8
  · obtain ⟨h1, h8⟩ := h18
    obtain ⟨ad, u0, rfl, hu0, hr0⟩ := hc 0 h1
    obtain ⟨a0, c0, rfl, _⟩ := hr0
    have HU0 := hid (add_zero_at ad w _ hu0)
    have HC := hid hc
    have HGT := hid (fun h => gensOK_true (Z := Z) h1 h8 h)
    have HGF := hid (fun i hi h => gensOK_false (Z := Z) i hi h)
    have HGP := hid (fun g => show genP Z g = (goodM 1000000 g && decide (g.length = (Z.getD 0 []).length)) from rfl)
    obtain ⟨n, hn⟩ : ∃ n, (Z.getD 0 []).length = n := ⟨_, rfl⟩
    rw [hn] at HU0 HGP
    obtain ⟨o, ho⟩ : ∃ o, gensOK Z = o := ⟨_, rfl⟩
    rw [ho] at HGT HGF ⊢
    have hZ0 : (0 : Int) < (Z.length : Int) := by omega
    have hZ1 : 0 < Z.length := h1
    have hZ2 : ¬ Z.length = 0 := by omega
    have hZ3 : ¬ (Z.length : Int) ≤ 0 := by omega
    have hZ4 : ¬ (8 : Int) < (Z.length : Int) := by omega
    have hZ5 : ¬ (Z.length : Int) < 1 := by omega
    clear hc hu0 hn ho
    go_enter Try.func31, Try.ntmps31
    go_wp2_with fail
    go_loopw [15] (fun i wr => ∃ k : Nat, k ≤ Z.length ∧ i = .int .i64 k ∧ (∀ j, j < k → genP Z (Z.getD j []) = true) ∧ Later w wr) (fun i _ => Z.length - (intOf i).toNat)
    case atStart => exact ⟨0, Nat.zero_le _, rfl, fun j hj => absurd hj (Nat.not_lt_zero j), Later.refl _⟩
    case round =>
      obtain ⟨k, hk, rfl, hpre, hL⟩ := hrel
      have HPRE := hid hpre
      have HLr := hid hL
      by_cases hlt : k < Z.length
      · have hltI : (k : Int) < (Z.length : Int) := by omega
        obtain ⟨ad', u, hade, hcell, hr⟩ := HC.out k hlt
        cases hade
        have HFk := hid (HGF.out k hlt)
        have HPk := hid (HGP.out (Z.getD k []))
        have HNX := hid (fun (hp : genP Z (Z.getD k []) = true) j (hj : j < k + 1) => show genP Z (Z.getD j []) = true from if e : j = k then by rw [e]; exact hp else hpre j (by omega))
        obtain ⟨X, hX⟩ : ∃ X, Z.getD k [] = X := ⟨_, rfl⟩
        rw [hX] at hr HFk HPk HNX
        obtain ⟨a, c, rfl, _⟩ := id hr
        replace hcell := hL.cell hcell
        have HRX := hid ((hr.later hL).later (Later.alloc wr (.cells #[Value.slice a X.length c] 27)))
        have cb : (wr.alloc (.cells #[Value.slice a X.length c] 27)).cell? ⟨wr.heap.size, 0, none⟩ = some (.slice a X.length c) := by simp [go_sem]
        have ca := (Later.alloc wr (.cells #[Value.slice a X.length c] 27)).cell (hL.cell HU0.out)
        have HLA := hid (HLr.out.trans (Later.alloc wr (.cells #[Value.slice a X.length c] 27)))
        clear hr hX hL hpre
        cases hg : goodM 1000000 X
        · have HGD := hid hg
          have HOF := hid (HFk.out (by rw [HPk.out, hg]; rfl))
          clear hg
          go_wp2_with fail
          generalize wr.alloc (.cells #[Value.slice a X.length c] 27) = wa at HRX cb ca HLA ⊢
          have kb : ∀ p : LaterW wa, p.now.cell? ⟨wr.heap.size, 0, none⟩ = some (.slice a X.length c) := fun p => p.later.cell cb
          have ka : ∀ p : LaterW wa, p.now.cell? ad = some (.slice a0 n c0) := fun p => p.later.cell ca
          have HIM := hid (fun p : LaterW wa => show Calls Try.prog 48 #[.agg #[.slice a X.length c]] p.now fun e w' => e = .returned (.bool false) ∧ Later p.now w' by have := implIsMatrix_any _ X _ (HRX.out.later p.later); rw [HGD.out] at this; exact this)
          clear cb ca
          refine wp_region_quiet_later (by kernel_rfl) (by kernel_rfl) ?_
          repeat
            with_reducible refine wpQuiet_step (fun K hK => ?_)
            go_simp
            first
              | (with_reducible refine hK _ ?_; clear hK K)
              | (apply Exists.intro
                 refine ⟨fun _ => ?_, hK _ ?_⟩
                 (go_at_call 48; exact Calls.laterW _ (HIM.out _))
                 clear hK K)
          with_reducible refine wpQuiet_nil ?_
          intro _ hw'
          obtain ⟨⟨wq, hLq⟩, hw''⟩ := hw'
          subst hw''
          have HL3 := hid (HLA.out.trans hLq)
          clear hLq
          go_wp2_with fail
          have hof := HOF.out
          subst hof
          go_ret
          exact ⟨rfl, HL3.out⟩
        · have HGD := hid hg
          by_cases hxn : X.length = n
          · have HP2 := hid (HNX.out (by rw [HPk.out, hg, decide_eq_true hxn]; rfl))
            have hne : ((X.length : Int) != (n : Int)) = false := by rw [hxn]; simp
            clear hg hxn
            go_wp2_with fail
            generalize wr.alloc (.cells #[Value.slice a X.length c] 27) = wa at HRX cb ca HLA ⊢
            have kb : ∀ p : LaterW wa, p.now.cell? ⟨wr.heap.size, 0, none⟩ = some (.slice a X.length c) := fun p => p.later.cell cb
            have ka : ∀ p : LaterW wa, p.now.cell? ad = some (.slice a0 n c0) := fun p => p.later.cell ca
            have HIM := hid (fun p : LaterW wa => show Calls Try.prog 48 #[.agg #[.slice a X.length c]] p.now fun e w' => e = .returned (.bool true) ∧ Later p.now w' by have := implIsMatrix_any _ X _ (HRX.out.later p.later); rw [HGD.out] at this; exact this)
            clear cb ca
            refine wp_region_quiet_later (by kernel_rfl) (by kernel_rfl) ?_
            repeat
              with_reducible refine wpQuiet_step (fun K hK => ?_)
              go_simp
              first
                | (with_reducible refine hK _ ?_; clear hK K)
                | (apply Exists.intro
                   refine ⟨fun _ => ?_, hK _ ?_⟩
                   (go_at_call 48; exact Calls.laterW _ (HIM.out _))
                   clear hK K)
            with_reducible refine wpQuiet_nil ?_
            intro _ hw'
            obtain ⟨⟨wq, hLq⟩, hw''⟩ := hw'
            subst hw''
            have HL3 := hid (HLA.out.trans hLq)
            clear hLq
            go_wp2_with fail
            go_roundw
            case rel => exact ⟨k + 1, hlt, by go_num, HP2.out, HL3.out⟩
            case measure => simp [intOf]; omega
          · have HOF := hid (HFk.out (by rw [HPk.out, hg, decide_eq_false hxn]; rfl))
            have hne : ((X.length : Int) != (n : Int)) = true := by simp; omega
            clear hg hxn
            go_wp2_with fail
            generalize wr.alloc (.cells #[Value.slice a X.length c] 27) = wa at HRX cb ca HLA ⊢
            have kb : ∀ p : LaterW wa, p.now.cell? ⟨wr.heap.size, 0, none⟩ = some (.slice a X.length c) := fun p => p.later.cell cb
            have ka : ∀ p : LaterW wa, p.now.cell? ad = some (.slice a0 n c0) := fun p => p.later.cell ca
            have HIM := hid (fun p : LaterW wa => show Calls Try.prog 48 #[.agg #[.slice a X.length c]] p.now fun e w' => e = .returned (.bool true) ∧ Later p.now w' by have := implIsMatrix_any _ X _ (HRX.out.later p.later); rw [HGD.out] at this; exact this)
            clear cb ca
            refine wp_region_quiet_later (by kernel_rfl) (by kernel_rfl) ?_
            repeat
              with_reducible refine wpQuiet_step (fun K hK => ?_)
              go_simp
              first
                | (with_reducible refine hK _ ?_; clear hK K)
                | (apply Exists.intro
                   refine ⟨fun _ => ?_, hK _ ?_⟩
                   (go_at_call 48; exact Calls.laterW _ (HIM.out _))
                   clear hK K)
            with_reducible refine wpQuiet_nil ?_
            intro _ hw'
            obtain ⟨⟨wq, hLq⟩, hw''⟩ := hw'
            subst hw''
            have HL3 := hid (HLA.out.trans hLq)
            clear hLq
            go_wp2_with fail
            have hof := HOF.out
            subst hof
            go_ret
            exact ⟨rfl, HL3.out⟩
      · have HOT := hid (HGT.out (fun i hi => HPRE.out i (by omega)))
        go_wp2_with fail
        have hof := HOT.out
        subst hof
        go_ret
        exact ⟨rfl, HLr.out⟩
  · have HO := hid (show gensOK Z = false by
      unfold gensOK
      rw [← Bool.decide_and, decide_eq_false h18]; rfl)
    rw [HO.out]
    clear hc
    by_cases hb : Z.length < 1
    · have hZ5 : (Z.length : Int) < 1 := by omega
      clear h18 hb
      go_enter Try.func31, Try.ntmps31
      go_wp2_with fail
      go_ret
      exact ⟨rfl, Later.refl _⟩
    · have hZ5 : ¬ (Z.length : Int) < 1 := by omega
      have hZ4 : (8 : Int) < (Z.length : Int) := by omega
      clear h18 hb
      go_enter Try.func31, Try.ntmps31
      go_wp2_with fail
      go_ret
      exact ⟨rfl, Later.refl _⟩

def idxOK (zs : List Int) (n : Nat) : Bool := decide (zs.length ≤ 40) && zs.all fun x => decide (0 ≤ x) && decide (x < (n : Int))
theorem idxOK_true {zs : List Int} {n : Nat} (h : zs.length ≤ 40) (hz : ∀ i, i < zs.length → 0 ≤ zs.getD i 0 ∧ zs.getD i 0 < (n : Int)) : idxOK zs n = true := by
  unfold idxOK
  rw [decide_eq_true h, Bool.true_and, List.all_eq_true]
  intro x hx
  obtain ⟨i, hi, rfl⟩ := List.getElem_of_mem hx
  have h2 := hz i hi
  rw [List.getD_eq_getElem?_getD, List.getElem?_eq_getElem hi, Option.getD_some] at h2
  rw [decide_eq_true h2.1, decide_eq_true h2.2]; rfl
theorem idxOK_false {zs : List Int} {n : Nat} (i : Nat) (hi : i < zs.length) (h : ¬ (0 ≤ zs.getD i 0 ∧ zs.getD i 0 < (n : Int))) : idxOK zs n = false := by
  unfold idxOK
  rw [Bool.and_eq_false_iff]
  right
  rw [List.all_eq_false]
  rw [List.getD_eq_getElem?_getD, List.getElem?_eq_getElem hi, Option.getD_some] at h
  exact ⟨zs[i], List.getElem_mem hi, by rw [← Bool.decide_and, decide_eq_false h]; simp⟩
theorem idxOK_parts {zs : List Int} {n : Nat} (h : idxOK zs n = true) : zs.length ≤ 40 ∧ ∀ i, i < zs.length → 0 ≤ zs.getD i 0 ∧ zs.getD i 0 < (n : Int) := by
  refine ⟨?_, fun i hi => ?_⟩
  · unfold idxOK at h
    rw [Bool.and_eq_true] at h
    exact of_decide_eq_true h.1
  · refine Classical.byContradiction fun hn => ?_
    rw [idxOK_false i hi hn] at h
    cases h

theorem isIndexWord_any (v : Value) (zs : List Int) (n : Nat) (w : World) (h : Ints w v zs) :
    Calls Try.prog 32 #[v, .int .i64 (n : Nat)] w fun e w' => e = .returned (.bool (idxOK zs n)) ∧ w = w' := by
  have hE : idxOK zs n = (decide (zs.length ≤ 40) && zs.all (within 0 ((n : Int) - 1))) := by
    unfold idxOK
    congr 1
    refine congrArg (fun p => zs.all p) (funext fun x => ?_)
    exact within_below.symm
  rw [hE]
  exact isIdx_any v zs n w h
def wmAns (Z : List (List (List Int))) (zs : List Int) : Option (List (List Int)) := if gensOK Z = true ∧ idxOK zs Z.length = true then wordF Z zs (unitM (Z.getD 0 []).length) else none

theorem MatAns.none' {w w' : World} {e : Ending} (he : e = .returned (.tuple #[.agg #[.slice none 0 0], .bool false])) (hL : Later w w') : MatAns w none e w' :=
  ⟨_, he, OwnRows.empty _ _ _, hL⟩
set_option maxRecDepth 20000 in
set_option maxHeartbeats 2000000 in
theorem implWordMatrix_any (v u : Value) (Z : List (List (List Int))) (zs : List Int) (w : World) (h : MatsR w v Z) (hi : Ints w u zs) :
    Calls Try.prog 10 #[v, u] w fun e w' => MatAns w (wmAns Z zs) e w' := by
  cases hg : gensOK Z
  · have HA := hid (show wmAns Z zs = none by unfold wmAns; rw [if_neg (by simp [hg])])
    have hb0 : Box (w.alloc (Obj.cells #[Value.slice none 0 0] 27)) w.heap.size (.slice none 0 0) := ⟨by simp [go_sem], by simp [go_sem]⟩
    have HL0 := hid (Later.alloc w (Obj.cells #[Value.slice none 0 0] 27))
    have HB0 := hid hb0
    have HG := hid (fun w' (k : Later w w') => (show Calls Try.prog 31 #[v] w' fun e w2 => BoolRes w' false e w2 by rw [← hg]; exact areGenerators_any v Z w' (h.later k)))
    rw [HA.out]
    obtain ⟨a1, c1, rfl, _, _⟩ := h
    obtain ⟨a2, c2, rfl, _, _⟩ := hi
    clear hg hb0
    go_enter Try.func10, Try.ntmps10
    go_wp2_with fail
    refine (HG.out _ HL0.out).mono ?_
    rintro e w1 ⟨rfl, hL1⟩
    have HL1 := hid (HL0.out.trans hL1)
    obtain ⟨d1, f1⟩ := HB0.out.later hL1
    clear hL1
    go_wp2_with fail
    refine bodyPost_ret (v := .tuple #[.agg #[.slice none 0 0], .bool false]) (by simp [results, Try.results10, go_sem, d1]) rfl (MatAns.none' rfl (HL1.out.setCell (by simp) _))
  · obtain ⟨h1, h8, hgg⟩ := gensOK_parts hg
    cases hx : idxOK zs Z.length
    · have HA := hid (show wmAns Z zs = none by unfold wmAns; rw [if_neg (by simp [hx])])
      have hb0 : Box (w.alloc (Obj.cells #[Value.slice none 0 0] 27)) w.heap.size (.slice none 0 0) := ⟨by simp [go_sem], by simp [go_sem]⟩
      have HL0 := hid (Later.alloc w (Obj.cells #[Value.slice none 0 0] 27))
      have HB0 := hid hb0
      have HG := hid (fun w' (k : Later w w') => (show Calls Try.prog 31 #[v] w' fun e w2 => BoolRes w' true e w2 by rw [← hg]; exact areGenerators_any v Z w' (h.later k)))
      have HI := hid (fun w' (k : Later w w') => (show Calls Try.prog 32 #[u, .int .i64 (Z.length : Nat)] w' fun e w2 => e = .returned (.bool false) ∧ w' = w2 by rw [← hx]; exact isIndexWord_any u zs Z.length w' (hi.later k)))
      rw [HA.out]
      obtain ⟨a1, c1, rfl, _, _⟩ := h
      obtain ⟨a2, c2, rfl, _, _⟩ := hi
      clear hg hb0 hx hgg h1 h8
      go_enter Try.func10, Try.ntmps10
      go_wp2_with fail
      refine (HG.out _ HL0.out).mono ?_
      rintro e w1 ⟨rfl, hL1⟩
      have HL1 := hid (HL0.out.trans hL1)
      obtain ⟨d1, f1⟩ := HB0.out.later hL1
      clear hL1
      go_wp2_with fail
      refine (HI.out _ HL1.out).mono ?_
      rintro e w2 ⟨rfl, rfl⟩
      go_wp2_with fail
      refine bodyPost_ret (v := .tuple #[.agg #[.slice none 0 0], .bool false]) (by simp [results, Try.results10, go_sem, d1]) rfl (MatAns.none' rfl (HL1.out.setCell (by simp) _))
    · have HA := hid (show wmAns Z zs = wordF Z zs (unitM (Z.getD 0 []).length) by unfold wmAns; rw [if_pos ⟨hg, hx⟩])
      obtain ⟨hl, hz⟩ := idxOK_parts hx
      have hq := goodM_sq (hgg 0 h1).1
      rw [HA.out]
      exact WordMatrix_ok v u Z zs (Z.getD 0 []).length w h1 hq.1 hq.2.1 hl (h.mats h1 h8) hi hgg hz
end Go.Proofs.Ytkpnckcfoigceaa
