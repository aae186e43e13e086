/- The descent of two squares in the model. -/
import Derived.Test.YtofmmegpadojlaaSqCA
import Derived.Test.YtofmmegpadojlaaSqN
import Derived.BigQuiet
import Derived.Deep.DeepCutAuto
namespace Go.Proofs.Ytofmmegpadojlaa
open Go.RowKit

theorem lit3Q (w : World) (a b c : Int) : OwnInts w.heap.size (w.alloc (.cells #[.int .i64 a, .int .i64 b, .int .i64 c] 3)).heap.size (w.alloc (.cells #[.int .i64 a, .int .i64 b, .int .i64 c] 3)) (.slice (some ⟨w.heap.size, 0, none⟩) 3 3) [a, b, c] := by
  have h := World.ownsRow_lit (e := 3) (size := 1) w #[.int .i64 a, .int .i64 b, .int .i64 c] 3 (Nat.le_refl _) (by unfold maxLen; omega) (by simp)
  refine ⟨h, fun k hk => ?_⟩
  simp [Value.ownBlock] at hk ⊢
  omega
/-- One step: a list of numbers written out, put behind rows that the call owns. -/
theorem wpList_pushL {ops : Array Oper} {rest : List Oper} {o : Oper} {a : Act} {Q : Exit → Act → World → Prop} (hgd : o.guard = none) (s x : Operand)
    (ho : o.op = .call { callee := .builtin .append, args := #[s, x], argTypes := #[25, 25] }) (lo : Nat) (w W : World) (v : Value) (L : List (List Int)) (r : List Int) (n : Nat) (cs : Array Value)
    (hs : a.eval s = v) (hlo : lo ≤ w.heap.size) (hO : OwnRows lo w.heap.size w v L) (hlen : L.length ≤ 1000000) (hr : OwnInts w.heap.size (w.alloc (.cells cs 3)).heap.size (w.alloc (.cells cs 3)) (.slice (some ⟨w.heap.size, 0, none⟩) n n) r) (hx : a.eval x = .slice (some ⟨w.heap.size + 1, 0, none⟩) 1 1)
    (hW : W = (w.alloc (.cells cs 3)).alloc (.cells #[.slice (some ⟨w.heap.size, 0, none⟩) n n] 33))
    (h : ∀ g cap w', OwnRows lo w'.heap.size w' (.slice (some ⟨g, 0, none⟩) (L.length + 1) cap) (L ++ [r]) → w.grownBy w' v.ownBlock → wpList Try.prog ops Q rest (a.put o.dst (.slice (some ⟨g, 0, none⟩) (L.length + 1) cap)) w') :
    wpList Try.prog ops Q (o :: rest) a W := by
  have hl1 := Later.alloc w (.cells cs 3)
  have hsz : (w.alloc (.cells cs 3)).heap.size = w.heap.size + 1 := by simp
  obtain ⟨w4, hw4⟩ : ∃ w4, w.alloc (.cells cs 3) = w4 := ⟨_, rfl⟩
  rw [hw4] at hl1 hr hsz hW
  refine wpList_pushR hgd s x ho lo w.heap.size w4 W v _ _ _ L r hs hlo hl1.size (hO.later hl1) hr hlen (by rw [hsz]; exact hx) hW fun g cap w' h1 h2 _ => h g cap w' h1 (grown_later hl1 h2)
set_option maxRecDepth 20000 in
set_option maxHeartbeats 8000000 in
theorem specTwoRun_any (p : Nat) (w : World) (hp : Sq.Prim p) (hp2 : p ≤ 1000000) (h3 : p % 4 ≠ 3) (hok : primUp p 1000000 = true) (hans : twoAns p = some (twoL p)) :
    Calls Try.prog 10 #[.int .i64 p] w fun e w' => RowsAns w (twoAns p) e w' := by
  obtain ⟨m, hm1, hm2, hD, hmp⟩ := two_start hp h3
  have HM := hid (fun w => sqMinus_any p w ⟨by have := hp.1; omega, hp2⟩)
  have HP := hid hok
  have HA := hid hans
  have hp1 := hp.1
  have HT := hid (show run2 p m (Sq.minusN p : Nat) 1 m = twoL p by unfold twoL; rw [hm2]; rfl)
  obtain ⟨A, hA⟩ : ∃ A : Int, ((Sq.minusN p : Nat) : Int) = A := ⟨_, rfl⟩
  have hab := (hD.bd (by omega) (by omega)).1
  have hr : (p : Int).tmod 4 = ((p % 4 : Nat) : Int) := tmodN _ _
  have hd : (((p % 4 : Nat) : Int) == 3) = false := by rw [beq_eq_false_iff_ne]; omega
  have hq : (A * A + 1).tdiv p = m := by
    rw [← hA, quoI (by rw [← Int.natCast_mul]; omega)]; exact hm2
  rw [hA] at HM HT hab hD
  have hAA := mulBdC (x := A) (y := A) (B := 1000000) (C := 1000000) (by omega) (by omega)
  have z0 : ¬ (p : Int) = 0 := by omega
  have HD := hid hD
  have HO : Hid (OwnRows w.heap.size ((w.alloc (.cells #[.int .i64 A, .int .i64 1, .int .i64 m] 3)).alloc (.cells #[.slice (some ⟨w.heap.size, 0, none⟩) 3 3] 33)).heap.size ((w.alloc (.cells #[.int .i64 A, .int .i64 1, .int .i64 m] 3)).alloc (.cells #[.slice (some ⟨w.heap.size, 0, none⟩) 3 3] 33)) (.slice (some ⟨w.heap.size + 1, 0, none⟩) 1 1) [[A, 1, (m : Int)]]) := hid (by
    have h := OwnRows.oneH (Later.alloc w _).size (lit3Q w A 1 m)
    simpa using h)
  have HL := hid ((Later.alloc w (.cells #[.int .i64 A, .int .i64 1, .int .i64 m] 3)).trans (Later.alloc _ (.cells #[.slice (some ⟨w.heap.size, 0, none⟩) 3 3] 33)))
  rw [hans]
  clear hm1 hm2 hD hA h3 hok hans hp
  go_enter Try.func10, Try.ntmps10
  go_wp2_with (first | (go_at_call 59; refine (sqGiven_as p 1000000 _ _ (by omega) HP.out).mono ?_; rintro e w2 ⟨rfl, rfl⟩) | (go_at_call 60; refine (HM.out _).mono ?_; rintro e w2 ⟨rfl, rfl⟩))
  generalize (w.alloc (.cells #[.int .i64 A, .int .i64 1, .int .i64 m] 3)).alloc (.cells #[.slice (some ⟨w.heap.size, 0, none⟩) 3 3] 33) = w1 at HO HL ⊢
  go_loopw [4, 5, 6, 7] (fun x y z o wr => ∃ (a b : Int) (k f : Nat) (L : List (List Int)), x = .int .i64 a ∧ y = .int .i64 b ∧ z = .int .i64 k ∧ Sq.D2 p a b k ∧ OwnRows w.heap.size wr.heap.size wr o (L ++ [[a, b, (k : Int)]]) ∧ L ++ run2 p f a b k = twoL p ∧ k ≤ f ∧ L.length + k ≤ 1000000 ∧ Later w wr)
    (fun _ _ z _ _ => (intOf z).toNat)
  case atStart => exact ⟨A, 1, m, m, [], rfl, rfl, rfl, HD.out, HO.out, HT.out, Nat.le_refl _, by simp; omega, HL.out⟩
  case round =>
    clear HO HL HT HD HM
    obtain ⟨a, b, k, f, L, rfl, rfl, rfl, hD, hO, hT, hkf, hlk, hL⟩ := hrel
    have HL := hid hL
    have HO := hid hO
    have HT := hid hT
    obtain ⟨o1, o2, rfl, _⟩ := hO.shape
    clear hO hL hT
    by_cases hk1 : (k : Int) > 1
    · obtain ⟨hab, hbb, _, hkb⟩ := hD.bd (by omega) (by omega)
      obtain ⟨r, hDr, hr2, hr0⟩ := hD.step (by omega) (by omega)
      obtain ⟨q, rfl⟩ : ∃ q : Nat, r = (q : Int) := ⟨r.toNat, by omega⟩
      have HT2 := hid (run2_go hk1 (show (k : Int) ≤ f by omega) hDr (by omega))
      have hun := near_bd a k ⟨by omega, by omega⟩
      have hvn := near_bd b k ⟨by omega, by omega⟩
      have HU := hid (fun w => sqNear_any a k w ⟨by omega, by omega⟩ ⟨by omega, by omega⟩)
      have HV := hid (fun w => sqNear_any b k w ⟨by omega, by omega⟩ ⟨by omega, by omega⟩)
      have e1 : (Sq.st2 a b k).1 = Sq.iabs (a * Sq.near a k + b * Sq.near b k) / k := rfl
      have e2 : (Sq.st2 a b k).2 = Sq.iabs (a * Sq.near b k - b * Sq.near a k) / k := rfl
      obtain ⟨u, hu⟩ : ∃ u, Sq.near a k = u := ⟨_, rfl⟩
      obtain ⟨v, hv⟩ : ∃ v, Sq.near b k = v := ⟨_, rfl⟩
      obtain ⟨a', ha'⟩ : ∃ a', (Sq.st2 a b k).1 = a' := ⟨_, rfl⟩
      obtain ⟨b', hb'⟩ : ∃ b', (Sq.st2 a b k).2 = b' := ⟨_, rfl⟩
      rw [ha'] at e1 hDr HT2
      rw [hb'] at e2 hDr HT2
      rw [hu] at HU e1 e2 hun
      rw [hv] at HV e1 e2 hvn
      have m0 := mulBdC (B := 1000000) (C := 1000000) (show -1000000 ≤ a ∧ a ≤ 1000000 by omega) hun
      have m1 := mulBdC (B := 1000000) (C := 1000000) (show -1000000 ≤ a ∧ a ≤ 1000000 by omega) hvn
      have m2 := mulBdC (B := 1000000) (C := 1000000) (show -1000000 ≤ b ∧ b ≤ 1000000 by omega) hun
      have m3 := mulBdC (B := 1000000) (C := 1000000) (show -1000000 ≤ b ∧ b ≤ 1000000 by omega) hvn
      have m4 := mulBdC (x := a') (y := a') (B := 1000000) (C := 1000000) (by have := (hDr.bd (by omega) (by omega)).1; omega) (by have := (hDr.bd (by omega) (by omega)).1; omega)
      have m5 := mulBdC (x := b') (y := b') (B := 1000000) (C := 1000000) (by have := (hDr.bd (by omega) (by omega)).2.1; omega) (by have := (hDr.bd (by omega) (by omega)).2.1; omega)
      have hq2 : (a' * a' + b' * b').tdiv p = q := by rw [hDr.eq]; exact Int.mul_tdiv_cancel _ (by omega)
      have h0 : ∀ z : Int, 0 ≤ Sq.iabs z := fun z => Sq.iabs_nonneg z
      obtain ⟨X, hX⟩ : ∃ X, a * u + b * v = X := ⟨_, rfl⟩
      obtain ⟨Y, hY⟩ : ∃ Y, a * v - b * u = Y := ⟨_, rfl⟩
      have hXb : -2000000000000 ≤ X ∧ X ≤ 2000000000000 := by omega
      have hYb : -2000000000000 ≤ Y ∧ Y ≤ 2000000000000 := by omega
      have HX := hid (fun w => absS_any X w ⟨by omega, by omega⟩)
      have HY := hid (fun w => absS_any Y w ⟨by omega, by omega⟩)
      have w1 : IntKind.i64.wrap (a * u) = a * u := by rw [IntWalk.i64_left]; exact IntWalk.wrap64_in _ (by omega)
      have w2 : IntKind.i64.wrap (b * v) = b * v := by rw [IntWalk.i64_left]; exact IntWalk.wrap64_in _ (by omega)
      have w3 : IntKind.i64.wrap (a * v) = a * v := by rw [IntWalk.i64_left]; exact IntWalk.wrap64_in _ (by omega)
      have w4 : IntKind.i64.wrap (b * u) = b * u := by rw [IntWalk.i64_left]; exact IntWalk.wrap64_in _ (by omega)
      have w5 : IntKind.i64.wrap X = X := by rw [IntWalk.i64_left]; exact IntWalk.wrap64_in _ (by omega)
      have w6 : IntKind.i64.wrap Y = Y := by rw [IntWalk.i64_left]; exact IntWalk.wrap64_in _ (by omega)
      rw [hX] at e1
      rw [hY] at e2
      have q1 : (Sq.iabs X).tdiv k = a' := by rw [quoI (h0 _), e1]
      have q2 : (Sq.iabs Y).tdiv k = b' := by rw [quoI (h0 _), e2]
      have ib1 := iabs_bd hXb
      have ib2 := iabs_bd hYb
      have ab1 := (hDr.bd (by omega) (by omega))
      have w7 : IntKind.i64.wrap a' = a' := by rw [IntWalk.i64_left]; exact IntWalk.wrap64_in _ (by omega)
      have w8 : IntKind.i64.wrap b' = b' := by rw [IntWalk.i64_left]; exact IntWalk.wrap64_in _ (by omega)
      have hz : ¬ (k : Int) = 0 := by omega
      have HDr := hid hDr
      have HLN := hid (show (L ++ [[a, b, (k : Int)]]).length ≤ 1000000 by simp; omega)
      have HW := hid (show w.heap.size ≤ wr.heap.size from HL.out.size)
      have hl : (L ++ [[a, b, (k : Int)]]).length = L.length + 1 := by simp
      have HE := hid (show (L ++ [[a, b, (k : Int)]]) ++ run2 p (f - 1) a' b' q = twoL p by rw [← HT.out, HT2.out]; simp)
      obtain ⟨LL, hLL⟩ : ∃ LL, L ++ [[a, b, (k : Int)]] = LL := ⟨_, rfl⟩
      rw [hLL] at HE hl HLN HO
      rw [hLL]
      have HLl := hid hl
      have M8 := hid (And.intro w1 (And.intro w2 (And.intro w3 (And.intro w4 (And.intro w5 (And.intro w6 (And.intro w7 (And.intro w8 (And.intro q1 (And.intro q2 (And.intro hX hY)))))))))))
      have M9 := hid (And.intro m4 (And.intro m5 hq2))
      clear hDr e1 e2 hu hv ha' hb' HT HT2 h0 hD hLL hl w1 w2 w3 w4 w5 w6 w7 w8 q1 q2 hX hY m0 m1 m2 m3 m4 m5 hq2 hXb hYb ib1 ib2 ab1 hun hvn hab hbb
      go_wp2_with fail
      refine (HU.out _).mono ?_; rintro e w2 ⟨rfl, rfl⟩
      go_wp2_with fail
      refine (HV.out _).mono ?_; rintro e w2 ⟨rfl, rfl⟩
      go_upto_region 8 with fail
      obtain ⟨w1, w2, w3, w4, w5, w6, w7, w8, q1, q2, hX, hY⟩ := M8.out
      clear M8
      go_quiet ((first | (go_at_call 62; exact Calls.quiet_of_same ((HX.out _).mono fun _ _ ⟨a, b⟩ => ⟨a, b.symm⟩)) | (go_at_call 62; exact Calls.quiet_of_same ((HY.out _).mono fun _ _ ⟨a, b⟩ => ⟨a, b.symm⟩))))
      clear w1 w2 w3 w4 w5 w6 w7 w8 q1 q2 hX hY
      have HLq := hid (show Later wr (wr.drewN nq) from Later.drewN wr nq)
      have HOq := hid (show OwnRows w.heap.size (wr.drewN nq).heap.size (wr.drewN nq) (.slice o1 LL.length o2) LL from (HO.out.later HLq.out).wide (Nat.le_refl _) HLq.out.size)
      have HL := hid (HL.out.trans HLq.out)
      generalize wr.drewN nq = wq at HLq HOq HL ⊢
      obtain ⟨m4, m5, hq2⟩ := M9.out
      have HR := hid (lit3Q wq a' b' q)
      have HW9 := hid (show w.heap.size ≤ wq.heap.size from HL.out.size)
      clear M9
      go_upto_region 10 with fail
      clear m4 m5 hq2
      go_wp2_with (at_builtin; refine wpList_pushL (by rfl) _ _ (by rfl) w.heap.size wq _ (.slice o1 LL.length o2) LL [a', b', (q : Int)] 3 #[.int .i64 a', .int .i64 b', .int .i64 q] (by rfl) HW9.out HOq.out HLN.out HR.out (by rfl) rfl ?_)
      intro g8 c8 w8 hO8 hG8
      have HO8 := hid hO8
      have HL8 := hid (show Later w w8 from HL.out.grown hG8 HL.out.size (fun b hb => by
        obtain ⟨us, _, hus, _⟩ := HOq.out.partsH
        exact (hus.lt b hb).1))
      clear hO8 hG8
      go_wp2_with fail
      go_roundw
      case rel => exact ⟨a', b', q, f - 1, LL, rfl, rfl, rfl, HDr.out, by simpa using HO8.out, HE.out, by omega, by have := HLl.out; omega, HL8.out⟩
      case measure => simp [intOf]; omega
    · have HN := (show (L ++ [[a, b, (k : Int)]]) = twoL p by rw [← HT.out, run2_end (by omega)])
      have HOz := hid (show OwnRows w.heap.size wr.heap.size wr (.slice o1 (L.length + 1) o2) (twoL p) by rw [← HN]; have := HO.out; simpa using this)
      clear HN
      go_wp2_with fail
      go_ret2
      exact ⟨_, rfl, HOz.out, HL.out⟩
theorem specTwoDescent_any (p : Int) (w : World) : Calls Try.prog 10 #[.int .i64 p] w fun e w' => RowsAns w (twoAns p) e w' := by
  cases hP : primUp p 1000000
  · have HP := hid hP
    have HA := hid (show twoAns p = none by unfold twoAns rootOk; rw [hP]; rfl)
    clear hP
    go_enter Try.func10, Try.ntmps10
    go_wp2_with (go_at_call 59; refine (sqGiven_as p 1000000 _ _ (by omega) HP.out).mono ?_; rintro e w2 ⟨rfl, rfl⟩)
    go_ret2
    rw [HA.out]
    exact ⟨_, rfl, OwnRows.noneH _ _ _, Later.refl _⟩
  · have HP := hid hP
    obtain ⟨h1, h2, hpr⟩ := primUp_iff.1 hP
    obtain ⟨r, hr⟩ : ∃ r, p.tmod 4 = r := ⟨_, rfl⟩
    have hrb := tmod_in p 4 (by omega)
    rw [hr] at hrb
    have HRO := hid (show rootOk p = decide (r ≠ 3) by unfold rootOk; rw [hP, hr]; rfl)
    by_cases h3 : r = 3
    · have hd : (r == 3) = true := by simp [h3]
      have HA := hid (show twoAns p = none by unfold twoAns; rw [HRO.out, h3]; rfl)
      clear hP
      go_enter Try.func10, Try.ntmps10
      go_wp2_with (go_at_call 59; refine (sqGiven_as p 1000000 _ _ (by omega) HP.out).mono ?_; rintro e w2 ⟨rfl, rfl⟩)
      go_ret2
      rw [HA.out]
      exact ⟨_, rfl, OwnRows.noneH _ _ _, Later.refl _⟩
    · obtain ⟨n, rfl⟩ : ∃ n : Nat, p = (n : Int) := ⟨p.toNat, by omega⟩
      have hr4 : (n : Int).tmod 4 = ((n % 4 : Nat) : Int) := tmodN _ _
      exact specTwoRun_any n w hpr (by omega) (by omega) hP (by unfold twoAns; rw [HRO.out, if_pos (by simp [h3])]; rfl)
end Go.Proofs.Ytofmmegpadojlaa
