/- TouchingPairs (the program). -/
import Derived.Test.YtljikcajfmnnmabCiF
import Derived.Deep.AppendLies
namespace Go.Proofs.Ytljikcajfmnnmab
open Go.RowKit

theorem all_at {L : List Ci4} (h : L.all ciB = true) : ∀ i, i < L.length → ciB (L.getD i c00) = true := by
  rw [List.all_eq_true] at h
  intro i hi
  exact h _ (by rw [show L.getD i c00 = L[i] by simp [hi]]; exact List.getElem_mem hi)
/-- the pairs i < j of circles that touch, j less than m -/
def rowP (L : List Ci4) (i : Nat) : Nat → List (List Int)
  | 0 => []
  | m + 1 => rowP L i m ++ (if i < m ∧ twP L i m = true then [[(i : Int), (m : Int)]] else [])
def allP (L : List Ci4) : Nat → List (List Int)
  | 0 => []
  | k + 1 => allP L k ++ rowP L k L.length
theorem rowP_low (L : List Ci4) (i m : Nat) (h : m ≤ i + 1) : rowP L i m = [] := by
  induction m with
  | zero => rfl
  | succ m ih => unfold rowP; rw [ih (by omega), if_neg (by omega)]; rfl
theorem rowP_step (L : List Ci4) (i m : Nat) (h : i < m) : rowP L i (m + 1) = rowP L i m ++ (if twP L i m = true then [[(i : Int), (m : Int)]] else []) := by
  conv => lhs; unfold rowP
  simp [h]
theorem rowP_len (L : List Ci4) (i m : Nat) : (rowP L i m).length ≤ m := by
  induction m with
  | zero => simp [rowP]
  | succ m ih => unfold rowP; rw [List.length_append]; split <;> simp <;> omega
theorem allP_len (L : List Ci4) (k : Nat) : (allP L k).length ≤ k * L.length := by
  induction k with
  | zero => simp [allP]
  | succ k ih => unfold allP; rw [List.length_append, Nat.succ_mul]; have := rowP_len L k L.length; omega
def pairsAns (L : List Ci4) : Option (List (List Int)) := if L.length ≤ 40 ∧ L.all ciB = true then some (allP L L.length) else none
def CBoxT (w : World) (B : Nat) (a b x y : Int) : Prop := CBox w B a b x y ∧ ∃ cur, w.heap[B]? = some (.cells cur 50 (0, 0))
theorem CBoxT.new (w : World) (a b x y : Int) : CBoxT (w.alloc (.cells #[.int .i64 a, .int .i64 b, .int .i64 x, .int .i64 y] 50)) w.heap.size a b x y :=
  ⟨CBox.new w a b x y _, _, heap_alloc_new w _⟩
theorem CBoxT.later {w w' : World} {B : Nat} {a b x y : Int} (h : CBoxT w B a b x y) (k : Later w w') : CBoxT w' B a b x y := by
  obtain ⟨h1, cur, h2⟩ := h
  refine ⟨h1.later k, cur, ?_⟩
  rw [k.block B (World.block_lt_of_cell? w ⟨B, 0, none⟩ h1.1)]
  exact h2
theorem CBoxT.grown {w w1 : World} {B : Nat} {a b x y : Int} (h : CBoxT w B a b x y) {lo' n : Nat} {v : Value} {us : List Value} (ho : w.ownsRow lo' 39 1 v n us) (hg : w.grownBy w1 v.ownBlock) : CBoxT w1 B a b x y := by
  obtain ⟨h1, cur, h2⟩ := h
  have hb : w1.heap[B]? = w.heap[B]? := hg.block B (World.block_lt_of_cell? w ⟨B, 0, none⟩ h1.1) fun e => by
    obtain ⟨c2, hc2⟩ := ownsRow_block ho e.symm
    rw [h2] at hc2
    simp at hc2
  exact ⟨⟨cell_keep h1.1 hb, cell_keep h1.2.1 hb, cell_keep h1.2.2.1 hb, cell_keep h1.2.2.2 hb⟩, cur, hb.trans h2⟩
theorem OwnRows.none_ (lo hi : Nat) (w : World) : OwnRows lo hi w (.slice none 0 0) [] :=
  ⟨[], rfl, World.ownsRow_nil _ _ _ _, fun b hb => by simp [Value.ownBlock] at hb, fun i hi => absurd hi (Nat.not_lt_zero i), fun i j _ hj => absurd hj (Nat.not_lt_zero j)⟩
theorem OwnRows.parts {lo hi : Nat} {w : World} {v : Value} {L : List (List Int)} (h : OwnRows lo hi w v L) : ∃ us : List Value, us.length = L.length ∧ w.ownsRow lo 39 1 v us.length us ∧ (∀ k, v.ownBlock = some k → k < hi) ∧
    (∀ i, i < L.length → OwnInts lo hi w (us.getD i undef) (L.getD i [])) ∧
    ∀ i j, i < j → j < L.length → ∀ k, (us.getD i undef).ownBlock = some k → (us.getD j undef).ownBlock ≠ some k := h
theorem OwnInts.lit2 (w : World) (a b : Int) : OwnInts w.heap.size (w.alloc (.cells #[.int .i64 a, .int .i64 b] 3)).heap.size (w.alloc (.cells #[.int .i64 a, .int .i64 b] 3)) (.slice (some ⟨w.heap.size, 0, none⟩) 2 2) [a, b] := by
  have h := World.ownsRow_lit (e := 3) (size := 1) w #[.int .i64 a, .int .i64 b] 2 (Nat.le_refl _) (by unfold maxLen; omega) (by simp)
  refine ⟨h, fun k hk => ?_⟩
  simp [Value.ownBlock] at hk ⊢
  omega

set_option maxRecDepth 20000 in
set_option maxHeartbeats 4000000 in
theorem pairsP_any (v : Value) (L : List Ci4) (w : World) (h : Cis w v L) :
    Calls Try.prog 18 #[v] w fun e w' => RowsAns w (pairsAns L) e w' := by
  obtain ⟨a, cap, rfl, hl, hcap, _⟩ := id h
  have H := hid h
  clear h
  by_cases h40 : L.length ≤ 40
  · have hgt : ¬ (40 : Int) < (L.length : Int) := by omega
    cases hall : L.all ciB
    · have HF := hid hall
      have HA := hid (show pairsAns L = none by unfold pairsAns; rw [hall]; simp)
      clear hall
      go_enter Try.func18, Try.ntmps18
      go_wp2_with fail
      refine (areCircles_as _ L false _ H.out HF.out).mono ?_
      rintro e w2 ⟨rfl, hL⟩
      have HL := hid hL
      clear hL
      go_wp2_with fail
      go_ret2
      exact ⟨_, by rw [HA.out]; rfl, by rw [HA.out]; exact OwnRows.none_ _ _ _, HL.out⟩
    · have HF := hid hall
      have HA := hid (show pairsAns L = some (allP L L.length) by unfold pairsAns; rw [hall, if_pos ⟨h40, rfl⟩])
      have HALL := hid (all_at hall)
      have HLEN := hid h40
      clear hall
      go_enter Try.func18, Try.ntmps18
      go_wp2_with fail
      refine (areCircles_as _ L true _ H.out HF.out).mono ?_
      rintro e w2 ⟨rfl, hL⟩
      have HL := hid hL
      clear hL
      go_wp2_with fail
      go_loopw [4, 18] (fun o i wr => ∃ k : Nat, k ≤ L.length ∧ i = .int .i64 k ∧ OwnRows w.heap.size wr.heap.size wr o (allP L k) ∧ Later w wr) (fun _ i _ => L.length - (intOf i).toNat)
      case atStart => exact ⟨0, Nat.zero_le _, rfl, OwnRows.none_ _ _ _, HL.out⟩
      case round =>
        clear HL
        obtain ⟨k, hk, rfl, hO, hL⟩ := hrel
        obtain ⟨o1, o2, rfl, _⟩ := hO.shape
        have HO := hid hO
        have HL := hid hL
        have hkl := allP_len L k
        by_cases hlt : k < L.length
        · obtain ⟨g, rfl, c0, c1, c2, c3⟩ := (H.out.later hL).at k hlt
          have HCk := hid (HALL.out k hlt)
          have HTW := hid (fun j => show twP L k j = (ciTw (L.getD k c00) (L.getD j c00) == -2) from rfl)
          obtain ⟨t, ht⟩ : ∃ t, L.getD k c00 = t := ⟨_, rfl⟩
          rw [ht] at c0 c1 c2 c3 HCk HTW
          obtain ⟨p, q, r, s⟩ := t
          simp only at c0 c1 c2 c3
          have hA := Later.alloc wr (.cells #[.int .i64 p, .int .i64 q, .int .i64 r, .int .i64 s] 50)
          have HLA := hid (HL.out.trans hA)
          have HOA := hid ((HO.out.later hA).wide (Nat.le_refl _) hA.size)
          have HBX := hid (CBoxT.new wr p q r s)
          obtain ⟨B, hB⟩ : ∃ B, wr.heap.size = B := ⟨_, rfl⟩
          clear ht hL hO hA HO HL
          go_wp2_with fail
          generalize wr.alloc (.cells #[.int .i64 p, .int .i64 q, .int .i64 r, .int .i64 s] 50) = wa at HLA HBX HOA ⊢
          rw [hB] at HBX
          clear hB c0 c1 c2 c3
          have HOA2 := hid (show OwnRows w.heap.size wa.heap.size wa (.slice o1 (allP L k).length o2) (allP L k ++ rowP L k (k + 1)) by rw [rowP_low L k (k + 1) (Nat.le_refl _), List.append_nil]; exact HOA.out)
          go_loopw [4, 7] (fun o i wr => ∃ m : Nat, k + 1 ≤ m ∧ m ≤ L.length ∧ i = .int .i64 m ∧ OwnRows w.heap.size wr.heap.size wr o (allP L k ++ rowP L k m) ∧ CBoxT wr B p q r s ∧ Later w wr) (fun _ i _ => L.length - (intOf i).toNat)
          case atStart => exact ⟨k + 1, Nat.le_refl _, hlt, by go_num, HOA2.out, HBX.out, HLA.out⟩
          case round =>
            clear HOA HOA2 HBX HLA
            obtain ⟨m, hmk, hm, rfl, hO, hBX, hLi⟩ := hrel
            have HBX := hid hBX
            clear hBX
            obtain ⟨M, hM⟩ : ∃ M, allP L k ++ rowP L k m = M := ⟨_, rfl⟩
            have HM := hid hM
            have hML : M.length ≤ 40 * 40 + 40 := by
              rw [← hM, List.length_append]
              have h1 := rowP_len L k m
              have h3 : k * L.length ≤ 40 * 40 := Nat.mul_le_mul (by omega) HLEN.out
              have h4 := HLEN.out
              omega
            rw [hM] at hO
            obtain ⟨o3, o4, rfl, _⟩ := hO.shape
            have HO := hid hO
            have HLI := hid hLi
            clear hO hM
            by_cases hml : m < L.length
            · obtain ⟨g', e, d0, d1, d2, d3⟩ := (H.out.later hLi).at m hml
              simp only [Option.some.injEq, Addr.mk.injEq, and_true] at e
              subst e
              obtain ⟨b0, b1, b2, b3⟩ := HBX.out.1
              have HCm := hid (HALL.out m hml)
              have HTm := hid (HTW.out m)
              have hmi : (m : Int) < (L.length : Int) := by omega
              have hki : (k : Int) < (m : Int) := by omega
              obtain ⟨u, hu⟩ : ∃ u, L.getD m c00 = u := ⟨_, rfl⟩
              rw [hu] at d0 d1 d2 d3 HCm HTm
              obtain ⟨p2, q2, r2, s2⟩ := u
              simp only at d0 d1 d2 d3
              have HTT := hid (fun w0 => twiceP_any p q r s p2 q2 r2 s2 w0 (ciB_in HCk.out) (ciB_in HCm.out))
              have hR := rowP_step L k m (by omega)
              obtain ⟨T, hT⟩ : ∃ T, ciTw (p, q, r, s) (p2, q2, r2, s2) = T := ⟨_, rfl⟩
              rw [hT] at HTT HTm
              clear hu hLi hT
              cases ht : twP L k m
              · have hne : (T == -2) = false := by rw [← HTm.out, ht]
                have HR := hid (show rowP L k (m + 1) = rowP L k m by rw [hR, ht]; simp)
                clear ht hR HTm
                go_wp2_with fail
                have kb0 : ∀ u : LaterH wr, u.now.cell? ⟨B, 0, none⟩ = some (.int .i64 p) := fun u => u.later.cell b0
                have kb1 : ∀ u : LaterH wr, u.now.cell? ⟨B, 1, none⟩ = some (.int .i64 q) := fun u => u.later.cell b1
                have kb2 : ∀ u : LaterH wr, u.now.cell? ⟨B, 2, none⟩ = some (.int .i64 r) := fun u => u.later.cell b2
                have kb3 : ∀ u : LaterH wr, u.now.cell? ⟨B, 3, none⟩ = some (.int .i64 s) := fun u => u.later.cell b3
                have kd0 : ∀ u : LaterH wr, u.now.cell? ⟨g, m * 4, none⟩ = some (.int .i64 p2) := fun u => u.later.cell d0
                have kd1 : ∀ u : LaterH wr, u.now.cell? ⟨g, m * 4 + 1, none⟩ = some (.int .i64 q2) := fun u => u.later.cell d1
                have kd2 : ∀ u : LaterH wr, u.now.cell? ⟨g, m * 4 + 2, none⟩ = some (.int .i64 r2) := fun u => u.later.cell d2
                have kd3 : ∀ u : LaterH wr, u.now.cell? ⟨g, m * 4 + 3, none⟩ = some (.int .i64 s2) := fun u => u.later.cell d3
                clear b0 b1 b2 b3 d0 d1 d2 d3
                refine wp_region_quiet_laterH (by kernel_rfl) (by kernel_rfl) ?_
                repeat
                  with_reducible refine wpQuiet_step (fun K hK => ?_)
                  go_simp
                  first
                    | (with_reducible refine hK _ ?_; clear hK K)
                    | (apply Exists.intro
                       refine ⟨fun _ => ?_, hK _ ?_⟩
                       (go_at_call 41; with_reducible exact Calls.laterH _ (HTT.out _))
                       clear hK K)
                with_reducible refine wpQuiet_nil ?_
                intro w2 hw'
                obtain ⟨⟨wq, hLq⟩, hw''⟩ := hw'
                subst hw''
                have HL2 := hid (HLI.out.trans hLq)
                have HO2 := hid (HO.out.later hLq)
                have HB2 := hid (HBX.out.later hLq)
                have HS2 := hid hLq.size
                clear hLq kb0 kb1 kb2 kb3 kd0 kd1 kd2 kd3
                go_wp2_with fail
                go_roundw
                case rel => exact ⟨m + 1, by omega, hml, by go_num, by rw [HR.out, HM.out]; exact HO2.out.wide (Nat.le_refl _) HS2.out, HB2.out, HL2.out⟩
                case measure => simp [intOf]; omega
              · have hne : (T == -2) = true := by rw [← HTm.out, ht]
                have HR := hid (show rowP L k (m + 1) = rowP L k m ++ [[(k : Int), (m : Int)]] by rw [hR, ht]; simp)
                clear ht hR HTm
                go_wp2_with fail
                have kb0 : ∀ u : LaterH wr, u.now.cell? ⟨B, 0, none⟩ = some (.int .i64 p) := fun u => u.later.cell b0
                have kb1 : ∀ u : LaterH wr, u.now.cell? ⟨B, 1, none⟩ = some (.int .i64 q) := fun u => u.later.cell b1
                have kb2 : ∀ u : LaterH wr, u.now.cell? ⟨B, 2, none⟩ = some (.int .i64 r) := fun u => u.later.cell b2
                have kb3 : ∀ u : LaterH wr, u.now.cell? ⟨B, 3, none⟩ = some (.int .i64 s) := fun u => u.later.cell b3
                have kd0 : ∀ u : LaterH wr, u.now.cell? ⟨g, m * 4, none⟩ = some (.int .i64 p2) := fun u => u.later.cell d0
                have kd1 : ∀ u : LaterH wr, u.now.cell? ⟨g, m * 4 + 1, none⟩ = some (.int .i64 q2) := fun u => u.later.cell d1
                have kd2 : ∀ u : LaterH wr, u.now.cell? ⟨g, m * 4 + 2, none⟩ = some (.int .i64 r2) := fun u => u.later.cell d2
                have kd3 : ∀ u : LaterH wr, u.now.cell? ⟨g, m * 4 + 3, none⟩ = some (.int .i64 s2) := fun u => u.later.cell d3
                clear b0 b1 b2 b3 d0 d1 d2 d3
                refine wp_region_quiet_laterH (by kernel_rfl) (by kernel_rfl) ?_
                repeat
                  with_reducible refine wpQuiet_step (fun K hK => ?_)
                  go_simp
                  first
                    | (with_reducible refine hK _ ?_; clear hK K)
                    | (apply Exists.intro
                       refine ⟨fun _ => ?_, hK _ ?_⟩
                       (go_at_call 41; with_reducible exact Calls.laterH _ (HTT.out _))
                       clear hK K)
                with_reducible refine wpQuiet_nil ?_
                intro w2 hw'
                obtain ⟨⟨wq, hLq⟩, hw''⟩ := hw'
                subst hw''
                have HL2 := hid (HLI.out.trans hLq)
                have HO2 := hid (HO.out.later hLq)
                have HB2 := hid (HBX.out.later hLq)
                have HS2 := hid hLq.size
                clear hLq kb0 kb1 kb2 kb3 kd0 kd1 kd2 kd3
                obtain ⟨us, hul, hus, hub, hin, hdis⟩ := HO2.out.parts
                have hA := Later.alloc w2 (.cells #[.int .i64 (k : Int), .int .i64 (m : Int)] 3)
                have HI2 := hid (OwnInts.lit2 w2 (k : Int) (m : Int))
                have HUS := hid (ownsRow_keep hus (fun b hb => hA.block b (hus.lt b hb).2))
                have HIN := hid (fun i hi => (hin i hi).later hA)
                have HDS := hid hdis
                have HL3 := hid (HL2.out.trans hA)
                have HS3 := hid (show wr.heap.size ≤ w2.heap.size from HS2.out)
                have HWS := hid (show w.heap.size ≤ wr.heap.size from HLI.out.size)
                have HB3 := hid (HB2.out.later hA)
                have hul2 : us.length ≤ 5000 := by omega
                have hrow : M.length = us.length := hul.symm
                clear hus hin hdis hA HO2
                obtain ⟨i0, hi, hz0, hz1, hz2⟩ := info_parts Try.infoInts
                have hown4 := hid (HUS.out.alloc (.cells #[.slice (some ⟨w2.heap.size, 0, none⟩) 2 2] 39))
                obtain ⟨D, hD⟩ : ∃ D, w2.heap.size = D := ⟨_, rfl⟩
                have hsz3 : (w2.alloc (.cells #[.int .i64 (k : Int), .int .i64 (m : Int)] 3)).heap.size = D + 1 := by simp [hD]
                rw [hD] at HI2 HS3 hown4
                rw [hrow] at hown4 ⊢
                have HUL := hid hul
                clear hul hrow hML
                go_wp2_with (at_builtin; refine wpList_append_lies _ (by rfl) _ _ _ (by rfl) w.heap.size 39 i0 (.slice none 0 0) 1 24 Try.underlying30 hi hz0 hz1 hz2 rfl (by omega) _ us.length us (by rfl) (by exact hown4.out) ⟨D + 1, 0, none⟩ 1 1 [.slice (some ⟨D, 0, none⟩) 2 2] (by rfl) (by rfl) (World.news_of_block (cs := #[.slice (some ⟨D, 0, none⟩) 2 2]) (t := 39) (fr := (0, 0)) (by rw [← hsz3]; exact heap_alloc_new _ _)) (by simp [Value.oneCell']) (by omega) (by unfold maxLen; omega) (by omega) (by have := HWS.out; have := HS3.out; simp [hD]; omega) (D + 1 + 1) (by simp [hD]) ?_)
                intro g5 cap1 w5 hown5 hgrow hat hglt
                have hA2 := Later.alloc (w2.alloc (.cells #[.int .i64 (k : Int), .int .i64 (m : Int)] 3)) (.cells #[.slice (some ⟨D, 0, none⟩) 2 2] 39)
                have HP := hid (OwnRows.pushed HUL.out (by exact hown4.out) (fun i hi => ((HIN.out i hi).later hA2)) HDS.out (((HI2.out.later hA2)).wide (by exact HS3.out) (by simp)) (by exact HWS.out) (by exact hown5) hgrow)
                have HL5 := hid (show Later w w5 from (HL3.out.trans hA2).grown hgrow (by have := HL2.out.size; simp [hD]; omega) (fun b hb => (hown4.out.lt b hb).1))
                have HB5 := hid ((HB3.out.later hA2).grown hown4.out hgrow)
                clear hown5 hgrow hat hglt hA2
                go_wp2_with fail
                go_roundw
                case rel => exact ⟨m + 1, by omega, hml, by go_num, by rw [HR.out, ← List.append_assoc, HM.out]; simpa using HP.out, HB5.out, HL5.out⟩
                case measure => simp [intOf]; omega
            · obtain rfl : m = L.length := by omega
              have HLW := HLI
              go_wp2_with fail
              go_roundw
              case rel => exact ⟨k + 1, hlt, by go_num, by rw [show allP L (k + 1) = allP L k ++ rowP L k L.length from rfl, HM.out]; exact HO.out, HLW.out⟩
              case measure => simp [intOf]; omega
        · obtain rfl : k = L.length := by omega
          go_wp2_with fail
          go_ret2
          exact ⟨_, by rw [HA.out]; rfl, by rw [HA.out]; exact HO.out, HL.out⟩
  · have hgt : (40 : Int) < (L.length : Int) := by omega
    have HA := hid (show pairsAns L = none by unfold pairsAns; rw [if_neg]; rintro ⟨h, _⟩; exact h40 h)
    go_enter Try.func18, Try.ntmps18
    go_wp2_with fail
    go_ret2
    exact ⟨_, by rw [HA.out]; rfl, by rw [HA.out]; exact OwnRows.none_ _ _ _, Later.refl _⟩
end Go.Proofs.Ytljikcajfmnnmab
