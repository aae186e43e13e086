/- The descent of two squares in the program. -/
import Derived.Test.YtofmmegpadojlaaSqCC
import Derived.Test.YtofmmegpadojlaaSqCB
import Derived.Test.YtofmmegpadojlaaSqK
namespace Go.Proofs.Ytofmmegpadojlaa
open Go.RowKit

/-- The block B has cells of type t. -/
def TyB (w : World) (B : Nat) (t : TypeId) : Prop := ∃ cs, w.heap[B]? = some (.cells cs t (0, 0))
theorem TyB.keep {w w' : World} {B : Nat} {t : TypeId} (h : TyB w B t) (k : w'.heap[B]? = w.heap[B]?) : TyB w' B t := by
  obtain ⟨cs, h⟩ := h; exact ⟨cs, k.trans h⟩
theorem TyB.lt {w : World} {B : Nat} {t : TypeId} (h : TyB w B t) : B < w.heap.size := by
  obtain ⟨cs, h⟩ := h; exact (Array.getElem?_eq_some_iff.1 h).1
theorem TyB.later {w w' : World} {B : Nat} {t : TypeId} (h : TyB w B t) (k : Later w w') : TyB w' B t := h.keep (k.block B h.lt)
theorem TyB.set {w : World} {B : Nat} {t : TypeId} (h : TyB w B t) (i : Nat) (u : Value) : TyB (w.setCell ⟨B, i, none⟩ u) B t := by
  obtain ⟨cs, h⟩ := h
  obtain ⟨hlt, he⟩ := Array.getElem?_eq_some_iff.1 h
  refine ⟨cs.setIfInBounds i u, ?_⟩
  show (w.heap.modify B _)[B]? = _
  rw [Array.getElem?_eq_getElem (by rw [Array.size_modify]; exact hlt), Array.getElem_modify_self, he]
  simp
theorem TyB.new (w : World) (cs : Array Value) (t : TypeId) : TyB (w.alloc (.cells cs t)) w.heap.size t := ⟨cs, heap_alloc_new w _⟩
theorem TyB.ne {w : World} {B lo n : Nat} {t e : TypeId} {v : Value} {xs : List Value} (h : TyB w B t) (ho : w.ownsRow lo e 1 v n xs) (hne : e ≠ t) : v.ownBlock ≠ some B := by
  intro hb
  obtain ⟨c, hc⟩ := ownsRow_block ho hb
  obtain ⟨cs, h⟩ := h
  rw [h] at hc
  simp only [Option.some.injEq, Obj.cells.injEq] at hc
  exact hne hc.2.1.symm
theorem OwnRows.setTy {w : World} {B lo hi : Nat} {t : TypeId} {v : Value} {L : List (List Int)} (h : OwnRows lo hi w v L) (hB : TyB w B t) (h1 : 3 ≠ t) (h2 : 33 ≠ t) (i : Nat) (u : Value) : OwnRows lo hi (w.setCell ⟨B, i, none⟩ u) v L := by
  obtain ⟨us, hl, ho, hb, hr, hd⟩ := h
  have hk : ∀ b, b ≠ B → (w.setCell ⟨B, i, none⟩ u).heap[b]? = w.heap[b]? := fun b hb => setN_far w B b i u hb
  refine ⟨us, hl, ownsRow_keep ho fun b hb' => hk b fun e => hB.ne ho h2 (e ▸ hb'), hb, fun j hj => ?_, hd⟩
  exact ⟨ownsRow_keep (hr j hj).1 fun b hb' => hk b fun e => hB.ne (hr j hj).1 h1 (e ▸ hb'), (hr j hj).2⟩
theorem OwnRows.neTy {w : World} {B lo hi : Nat} {t : TypeId} {v : Value} {L : List (List Int)} (h : OwnRows lo hi w v L) (hB : TyB w B t) (h2 : 33 ≠ t) : v.ownBlock ≠ some B := by
  obtain ⟨us, hl, ho, hb, hr, hd⟩ := h
  exact hB.ne ho h2
theorem dot2_any (v : Value) (a b : Int) (w : World) (ha : -1000000 ≤ a ∧ a ≤ 1000000) (hb : -1000000 ≤ b ∧ b ≤ 1000000) (h : Ints w v [a, b]) :
    Calls Try.prog 104 #[v, v] w fun e w' => e = .returned (.int .i64 (a * a + b * b)) ∧ Later w w' := by
  refine (dot_any v v [a, b] [a, b] w (Nat.le_refl _) h h).mono ?_
  rintro e w' ⟨rfl, hL⟩
  refine ⟨?_, hL⟩
  have h1 := mulBdC (x := a) (y := a) ha ha
  have h2 := mulBdC (x := b) (y := b) hb hb
  have hw : ∀ z : Int, -9000000000000000000 ≤ z ∧ z ≤ 9000000000000000000 → wrap64 z = z := fun z hz => IntWalk.wrap64_in _ (by omega)
  unfold dotW
  simp only [List.length_cons, List.length_nil, wsum, List.getD_cons_zero, List.getD_cons_succ]
  rw [hw (a * a) (by omega), hw (b * b) (by omega), hw (0 + a * a) (by omega), hw (0 + a * a + b * b) (by omega), Int.zero_add]
set_option maxRecDepth 20000 in
set_option maxHeartbeats 8000000 in
theorem descentOf2_any (p : Nat) (A C : Int) (m : Nat) (w : World) (hp : 1 ≤ p ∧ p ≤ 1000000) (hD : Sq.D2 p A C m) :
    Calls Try.prog 57 #[.agg #[.int .i64 A, .int .i64 C], .int .i64 p, .func (.func 58) #[] #[]] w fun e w' => MadeRows w (run2 p m A C m) e w' := by
  have HD := hid hD
  have z0 : ¬ (p : Int) = 0 := by omega
  obtain ⟨T, hT⟩ : ∃ T, run2 p m A C m = T := ⟨_, rfl⟩
  have HT := hid hT
  rw [hT]
  have hmp : m ≤ 1000000 := by have := hD.mp; omega
  clear hT hD
  go_enter Try.func57, Try.ntmps57
  go_wp2_with fail
  have HL0 := hid ((Later.alloc w (.cells #[.int .i64 A, .int .i64 C] 42)).trans (Later.alloc _ (.cells #[.int .i64 A, .int .i64 C] 71)))
  have HX0 := hid (NBox.new (w.alloc (.cells #[.int .i64 A, .int .i64 C] 42)) [A, C] #[.int .i64 A, .int .i64 C] 71 rfl)
  have HY0 := hid (TyB.new (w.alloc (.cells #[.int .i64 A, .int .i64 C] 42)) #[.int .i64 A, .int .i64 C] 71)
  simp only [World.size_alloc] at HX0 HY0
  generalize (w.alloc (.cells #[.int .i64 A, .int .i64 C] 42)).alloc (.cells #[.int .i64 A, .int .i64 C] 71) = W0 at HL0 HX0 HY0 ⊢
  go_loopw [7, 8] (fun o q wr => ∃ (a b : Int) (k f B : Nat) (L : List (List Int)), q = .pointer (some ⟨B, 0, none⟩) ∧ Sq.D2 p a b k ∧ OwnRows w.heap.size wr.heap.size wr o L ∧ NBox wr B [a, b] ∧ TyB wr B 71 ∧ w.heap.size ≤ B ∧ L ++ run2 p f a b k = T ∧ k ≤ f ∧ L.length + k ≤ 1000000 ∧ Later w wr)
    (fun o _ _ => T.length - lenOfH o)
  case atStart => exact ⟨A, C, m, m, w.heap.size + 1, [], rfl, HD.out, OwnRows.noneH _ _ _, HX0.out, HY0.out, by omega, HT.out, Nat.le_refl _, by simp; omega, HL0.out⟩
  case round =>
    clear HL0 HX0 HY0 HT HD
    obtain ⟨a, b, k, f, B, L, rfl, hD, hO, hX, hY, hB, hT, hkf, hlk, hL⟩ := hrel
    have HTL := hid (show L.length < T.length by
      rw [← hT, List.length_append]
      have : 1 ≤ (run2 p f a b k).length := by cases f <;> simp [run2]
      omega)
    have HD := hid hD
    have HX := hid hX
    have HY := hid hY
    have HL := hid hL
    have HO := hid hO
    have HT := hid hT
    obtain ⟨o1, o2, rfl, _⟩ := hO.shape
    have HB := hid hB
    have hbd := hD.bd (by omega) (by omega)
    have HLI := hid (fun w => listC2_any a b w)
    have HDOT := hid (fun v w (h : Ints w v [a, b]) => dot2_any v a b w (by omega) (by omega) h)
    have hq : (a * a + b * b).tdiv p = k := by rw [hD.eq]; exact Int.mul_tdiv_cancel _ (by omega)
    have HLN := hid (show L.length ≤ 1000000 by omega)
    clear hD hX hY hL hO hT hB
    have c0 := (HX.out 0 a rfl).1
    have c1 := (HX.out 1 b rfl).1
    go_wp2_with fail
    refine (HLI.out _).mono ?_
    rintro e w2 ⟨v2, rfl, hO2, hL2⟩
    obtain ⟨p2, n2, rfl, _⟩ := hO2.shape
    have HO2 := hid hO2
    have HL2 := hid hL2
    clear hO2 hL2 c0 c1
    go_wp2_with fail
    refine (HDOT.out _ _ HO2.out.ints).mono ?_
    rintro e w3 ⟨rfl, hL3⟩
    have HB2 := hid HO2.out.2
    have HO3 := hid (show OwnInts wr.heap.size w3.heap.size w3 (.slice p2 2 n2) [a, b] from (HO2.out.later hL3).wide (Nat.le_refl _) hL3.size)
    have HL3 := hid (HL2.out.trans hL3)
    have HS3 := hid hL3.size
    clear hL3 HO2 HL2
    go_upto_region 5 with fail
    have HK4 := hid (NBox.new w3 [(k : Int)] #[.int .i64 k] 3 rfl)
    have HL4 := hid (HL3.out.trans (Later.alloc w3 (.cells #[.int .i64 k] 3)))
    have HO4 := hid (show OwnInts wr.heap.size (w3.alloc (.cells #[.int .i64 k] 3)).heap.size (w3.alloc (.cells #[.int .i64 k] 3)) (.slice p2 2 n2) [a, b] from (HO3.out.later (Later.alloc _ _)).wide (Nat.le_refl _) (by simp))
    have HS4 := hid (show w3.heap.size < (w3.alloc (.cells #[.int .i64 k] 3)).heap.size by simp)
    obtain ⟨K, hK⟩ : ∃ K, w3.heap.size = K := ⟨_, rfl⟩
    rw [hK] at HK4 HS4 HS3 ⊢
    have HKr := hid (show wr.heap.size ≤ K from hK ▸ HL3.out.size)
    generalize w3.alloc (.cells #[.int .i64 k] 3) = w4 at HK4 HL4 HO4 HS4 ⊢
    clear HO3 HL3 hK
    have ck := (HK4.out 0 k rfl).1
    go_wp2_with (at_builtin; refine wpList_push1 (by rfl) _ _ (by rfl) wr.heap.size w4 _ (.slice p2 2 n2) [a, b] k (by rfl) HL4.out.size HO4.out (by simp) (by rfl) rfl ?_)
    intro g6 n6 w6 hO6 hG6 _
    have HO6 := hid (show OwnInts wr.heap.size w6.heap.size w6 (.slice (some ⟨g6, 0, none⟩) 3 n6) [a, b, (k : Int)] from hO6)
    have HL6 := hid (show Later wr w6 from HL4.out.grown hG6 HL4.out.size (fun b hb => (HO4.out.1.lt b hb).1))
    have HK6 := hid (show NBox w6 K [(k : Int)] from HK4.out.keep (hG6.block K HS4.out fun e => by have := HB2.out K e.symm; have := HS3.out; omega))
    have HX6 := hid (HX.out.later HL6.out)
    have HY6 := hid (HY.out.later HL6.out)
    have HOL6 := hid (HO.out.later HL6.out)
    have HBr := hid HY.out.lt
    have HOB := hid (HO.out.neTy HY.out (by decide))
    have HOK := hid (show (Value.slice o1 L.length o2).ownBlock ≠ some K from fun e => by
      obtain ⟨us, _, hus, _⟩ := HO.out.partsH
      have := (hus.lt K e).2
      have := HKr.out; omega)
    have HKs := hid (Nat.lt_of_lt_of_le HS4.out hG6.size)
    clear hO6 hG6 ck HK4 HL4 HO4 HX HY
    go_wp2_with (at_builtin; refine wpList_pushR (by rfl) _ _ (by rfl) w.heap.size wr.heap.size w6 _ (.slice o1 L.length o2) _ _ _ L [a, b, (k : Int)] (by rfl) HL.out.size HL6.out.size HOL6.out HO6.out HLN.out (by rfl) rfl ?_)
    intro g8 c8 w8 hO8 hG8 _
    have HO8 := hid hO8
    have HL8 := hid (show Later w w8 from (HL.out.trans HL6.out).grown hG8 (HL.out.trans HL6.out).size (fun b hb => by
      obtain ⟨us, _, hus, _⟩ := HO.out.partsH
      exact (hus.lt b hb).1))
    have HK8 := hid (show NBox w8 K [(k : Int)] from HK6.out.keep (hG8.block K HKs.out fun e => HOK.out e.symm))
    have kB := hG8.block B (Nat.lt_of_lt_of_le HBr.out HL6.out.size) fun e => HOB.out e.symm
    have HX8 := hid (HX6.out.keep kB)
    have HY8 := hid (HY6.out.keep kB)
    have HK8s := hid (Nat.lt_of_lt_of_le HKs.out hG8.size)
    clear hO8 hG8 kB HK6 HX6 HY6 HOL6 HO HL6 HO6 hq
    have ck := (HK8.out 0 k rfl).1
    by_cases hk1 : (k : Int) ≤ 1
    · have HN := hid (show L ++ [[a, b, (k : Int)]] = T by rw [← HT.out, run2_end hk1])
      go_wp2_with fail
      go_ret
      exact ⟨_, rfl, by rw [← HN.out]; simpa using HO8.out, HL8.out⟩
    · obtain ⟨r, hDr, hr2, hr0⟩ := HD.out.step (by omega) (by omega)
      obtain ⟨q, rfl⟩ : ∃ q : Nat, r = (q : Int) := ⟨r.toNat, by omega⟩
      have HT2 := hid (run2_go (show 1 < (k : Int) by omega) (show (k : Int) ≤ f by omega) hDr (by omega))
      have hk2 : decide ((k : Int) ≤ 1) = false := decide_eq_false hk1
      have hkb : 1 ≤ (k : Int) ∧ (k : Int) ≤ 1000000 := by omega
      have hun := near_bd a k hkb
      have hvn := near_bd b k hkb
      have e1 : (Sq.st2 a b k).1 = Sq.iabs (a * Sq.near a k + b * Sq.near b k) / k := rfl
      have e2 : (Sq.st2 a b k).2 = Sq.iabs (a * Sq.near b k - b * Sq.near a k) / k := rfl
      have HC1 := hid (changed2_any a b 106 #[.pointer (some ⟨K, 0, none⟩)] (fun z => Sq.near z k) w8 Try.call106 (fun z w1 hz hL => nearCl2_any z k ⟨K, 0, none⟩ w1 (hL.cell (HK8.out 0 k rfl).1) (by simp at hz; rcases hz with rfl | rfl <;> omega) hkb))
      obtain ⟨u, hu⟩ : ∃ u, Sq.near a k = u := ⟨_, rfl⟩
      obtain ⟨v, hv⟩ : ∃ v, Sq.near b k = v := ⟨_, rfl⟩
      obtain ⟨a', ha'⟩ : ∃ a', (Sq.st2 a b k).1 = a' := ⟨_, rfl⟩
      obtain ⟨b', hb'⟩ : ∃ b', (Sq.st2 a b k).2 = b' := ⟨_, rfl⟩
      rw [ha'] at e1 hDr HT2
      rw [hb'] at e2 hDr HT2
      rw [hu] at e1 e2 hun HC1
      rw [hv] at e1 e2 hvn HC1
      have HM := hid (fun w => mirrored_any a b u v w (by unfold In6; omega) (by unfold In6; omega) (by unfold In6; omega) (by unfold In6; omega))
      have m0 := mulBdC (B := 1000000) (C := 1000000) (show -1000000 ≤ a ∧ a ≤ 1000000 by omega) hun
      have m1 := mulBdC (B := 1000000) (C := 1000000) (show -1000000 ≤ a ∧ a ≤ 1000000 by omega) hvn
      have m2 := mulBdC (B := 1000000) (C := 1000000) (show -1000000 ≤ b ∧ b ≤ 1000000 by omega) hun
      have m3 := mulBdC (B := 1000000) (C := 1000000) (show -1000000 ≤ b ∧ b ≤ 1000000 by omega) hvn
      obtain ⟨X, hX⟩ : ∃ X, a * u + b * v = X := ⟨_, rfl⟩
      obtain ⟨Y, hY⟩ : ∃ Y, a * v - b * u = Y := ⟨_, rfl⟩
      have hXb : -2000000000000 ≤ X ∧ X ≤ 2000000000000 := by omega
      have hYb : -2000000000000 ≤ Y ∧ Y ≤ 2000000000000 := by omega
      rw [hX] at e1 HM
      rw [hY] at e2 HM
      have HC2 := hid (fun w (hc : w.cell? ⟨K, 0, none⟩ = some (.int .i64 k)) => changed2_any X Y 108 #[.pointer (some ⟨K, 0, none⟩)] (fun z => Sq.iabs z / k) w Try.call108 (fun z w1 hz hL => divCl2_any z k ⟨K, 0, none⟩ w1 (hL.cell hc) (by simp at hz; rcases hz with rfl | rfl <;> omega) hkb))
      rw [← e1, ← e2] at HC2
      have HDr := hid hDr
      have HQ := hid (show L.length + 1 + q ≤ 1000000 ∧ q ≤ f - 1 by omega)
      have HE := hid (show (L ++ [[a, b, (k : Int)]]) ++ run2 p (f - 1) a' b' q = T by rw [← HT.out, HT2.out]; simp)
      clear hDr e1 e2 hu hv ha' hb' HT HT2 m0 m1 m2 m3 hX hY hXb hYb hun hvn hbd HD hr0 hr2
      have c0 := (HX8.out 0 a rfl).1
      have c1 := (HX8.out 1 b rfl).1
      go_wp2_with fail
      refine HC1.out.mono ?_
      rintro e w9 ⟨rfl, hL9⟩
      have HX9 := hid ((HX8.out.later hL9).later (Later.alloc w9 (.cells #[.int .i64 u, .int .i64 v] 71)))
      have HN9 := hid (NBox.new w9 [u, v] #[.int .i64 u, .int .i64 v] 71 rfl)
      have HL9 := hid (hL9.trans (Later.alloc w9 (.cells #[.int .i64 u, .int .i64 v] 71)))
      clear c0 c1 ck hL9
      go_upto_region 9 with fail
      obtain ⟨N1, hN1⟩ : ∃ N1, w9.heap.size = N1 := ⟨_, rfl⟩
      rw [hN1] at HN9 ⊢
      clear hN1
      generalize w9.alloc (.cells #[.int .i64 u, .int .i64 v] 71) = w10 at HX9 HN9 HL9 ⊢
      have c0 := (HX9.out 0 a rfl).1
      have c1 := (HX9.out 1 b rfl).1
      have d0 := (HN9.out 0 u rfl).1
      have d1 := (HN9.out 1 v rfl).1
      go_wp2_with fail
      refine (HM.out _).mono ?_
      rintro e w11 ⟨rfl, hL11⟩
      have HX11 := hid ((HX9.out.later hL11).later (Later.alloc w11 (.cells #[.int .i64 X, .int .i64 Y] 71)))
      have HN11 := hid (NBox.new w11 [X, Y] #[.int .i64 X, .int .i64 Y] 71 rfl)
      have HL11 := hid ((HL9.out.trans hL11).trans (Later.alloc w11 (.cells #[.int .i64 X, .int .i64 Y] 71)))
      clear c0 c1 d0 d1 hL11 HN9 HX9
      go_upto_region 10 with fail
      obtain ⟨N2, hN2⟩ : ∃ N2, w11.heap.size = N2 := ⟨_, rfl⟩
      rw [hN2] at HN11 ⊢
      clear hN2
      generalize w11.alloc (.cells #[.int .i64 X, .int .i64 Y] 71) = w12 at HX11 HN11 HL11 ⊢
      have d0 := (HN11.out 0 X rfl).1
      have d1 := (HN11.out 1 Y rfl).1
      go_wp2_with fail
      refine (HC2.out _ (HL11.out.cell (HK8.out 0 k rfl).1)).mono ?_
      rintro e w13 ⟨rfl, hL13⟩
      have HL13 := hid (HL11.out.trans hL13)
      have HX13 := hid (HX11.out.later hL13)
      have HY13 := hid (HY8.out.later HL13.out)
      have HO13 := hid (HO8.out.later HL13.out)
      have HLw := hid (HL8.out.trans HL13.out)
      have HX14 := hid (NBox.all2 HX13.out a' b')
      have HO14 := hid ((HO13.out.setTy HY13.out (by decide) (by decide) 0 (.int .i64 a')).setTy (HY13.out.set 0 (.int .i64 a')) (by decide) (by decide) 1 (.int .i64 b'))
      have HL14 := hid (show Later w ((w13.setCell ⟨B, 0, none⟩ (.int .i64 a')).setCell ⟨B, 1, none⟩ (.int .i64 b')) from (Below.setCell (p := ⟨B, 1, none⟩) (Below.setCell (p := ⟨B, 0, none⟩) HLw.out HB.out _) HB.out _))
      have HS14 := hid (show w8.heap.size ≤ ((w13.setCell ⟨B, 0, none⟩ (.int .i64 a')).setCell ⟨B, 1, none⟩ (.int .i64 b')).heap.size by simpa using HL13.out.size)
      have r0 := (HX13.out 0 a rfl).1
      have f0 := (HX13.out 0 a rfl).2
      have r1 := (HX13.out 1 b rfl).1
      have f1 := (HX13.out 1 b rfl).2
      clear d0 d1 hL13 HN11 HX11 HX13 HO13 HY13
      go_upto_region 11 with fail
      generalize (w13.setCell ⟨B, 0, none⟩ (.int .i64 a')).setCell ⟨B, 1, none⟩ (.int .i64 b') = w14 at HX14 HO14 HL14 HS14 ⊢
      clear r0 f0 r1 f1
      have c0 := (HX14.out 0 a' rfl).1
      have c1 := (HX14.out 1 b' rfl).1
      have hA := Later.alloc w14 (.cells #[.int .i64 a', .int .i64 b'] 71)
      have HX15 := hid (NBox.new w14 [a', b'] #[.int .i64 a', .int .i64 b'] 71 rfl)
      have HY15 := hid (TyB.new w14 #[.int .i64 a', .int .i64 b'] 71)
      have HO15 := hid ((HO14.out.later hA).wide (Nat.le_refl _) (Nat.le_trans HS14.out hA.size))
      have HL15 := hid (HL14.out.trans hA)
      have HB15 := hid HL14.out.size
      clear hA
      go_wp2_with fail
      go_roundw
      case rel => exact ⟨a', b', q, f - 1, w14.heap.size, L ++ [[a, b, (k : Int)]], rfl, HDr.out, by simpa using HO15.out, HX15.out, HY15.out, HB15.out, HE.out, HQ.out.2, by have := HQ.out.1; simp; omega, HL15.out⟩
      case measure => have := HTL.out; simp only [lenOfH]; omega
end Go.Proofs.Ytofmmegpadojlaa
