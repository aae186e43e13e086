/- The descent of four squares in the program. -/
import Derived.Test.YtofmmegpadojlaaSqCC4
import Derived.Test.YtofmmegpadojlaaSqCD
import Derived.Test.YtofmmegpadojlaaSqM
namespace Go.Proofs.Ytofmmegpadojlaa
open Go.RowKit

theorem Sq.D4.bd {p a b c d m : Int} (h : Sq.D4 p ⟨a, b, c, d⟩ m) (hp : 0 < p) (hp2 : p ≤ 2000) : (0 ≤ a ∧ a ≤ 2000) ∧ (0 ≤ b ∧ b ≤ 2000) ∧ (0 ≤ c ∧ c ≤ 2000) ∧ (0 ≤ d ∧ d ≤ 2000) ∧ 0 ≤ m ∧ m ≤ 2000 := by
  obtain ⟨h1, h2, h3, h4, h5⟩ := h.le hp
  have := h.a0; have := h.b0; have := h.c0; have := h.d0; have := h.mp
  simp only at *
  omega
/-- The lists from numbers with a multiple m on. -/
def run4 (p : Int) : Nat → Sq.Q4 → Int → List (List Int)
  | 0, q, m => [[q.a, q.b, q.c, q.d, m]]
  | f + 1, q, m => [q.a, q.b, q.c, q.d, m] :: (if m ≤ 1 then [] else run4 p f (Sq.st4 q m) ((Sq.st4 q m).sum / p))
theorem run4_end {p : Int} {f : Nat} {a b c d m : Int} (h : m ≤ 1) : run4 p f ⟨a, b, c, d⟩ m = [[a, b, c, d, m]] := by
  cases f with
  | zero => rfl
  | succ f => unfold run4; rw [if_pos h]
theorem run4_go {p : Int} {f : Nat} {a b c d m r : Int} (h : 1 < m) (hf : m ≤ f) (hd : Sq.D4 p (Sq.st4 ⟨a, b, c, d⟩ m) r) (hp : 0 < p) : run4 p f ⟨a, b, c, d⟩ m = [a, b, c, d, m] :: run4 p (f - 1) (Sq.st4 ⟨a, b, c, d⟩ m) r := by
  obtain ⟨g, rfl⟩ : ∃ g, f = g + 1 := ⟨f - 1, by omega⟩
  conv => lhs; unfold run4
  rw [if_neg (by omega), hd.eq, Int.mul_ediv_cancel _ (by omega)]; rfl
theorem prim_dvd {p : Nat} (hp : Sq.Prim p) : ∀ d : Int, 1 < d → d < p → ¬ d ∣ (p : Int) := by
  intro d h1 h2 h
  obtain ⟨n, rfl⟩ : ∃ n : Nat, d = (n : Int) := ⟨d.toNat, by omega⟩
  rw [Int.natCast_dvd_natCast] at h
  exact hp.2 n (by omega) (by omega) h
theorem near_bd4 (a m : Int) (hm : 1 ≤ m ∧ m ≤ 2000) : -2000 ≤ Sq.near a m ∧ Sq.near a m ≤ 2000 := by
  have := Sq.near_in a m (by omega); omega
theorem dot4_any (v : Value) (a b c d : Int) (w : World) (ha : -2000 ≤ a ∧ a ≤ 2000) (hb : -2000 ≤ b ∧ b ≤ 2000) (hc : -2000 ≤ c ∧ c ≤ 2000) (hd : -2000 ≤ d ∧ d ≤ 2000) (h : Ints w v [a, b, c, d]) :
    Calls Try.prog 104 #[v, v] w fun e w' => e = .returned (.int .i64 (a * a + b * b + c * c + d * d)) ∧ Later w w' := by
  refine (dot_any v v [a, b, c, d] [a, b, c, d] w (Nat.le_refl _) h h).mono ?_
  rintro e w' ⟨rfl, hL⟩
  refine ⟨?_, hL⟩
  have h1 := mulBdC (x := a) (y := a) ha ha
  have h2 := mulBdC (x := b) (y := b) hb hb
  have h3 := mulBdC (x := c) (y := c) hc hc
  have h4 := mulBdC (x := d) (y := d) hd hd
  have hw : ∀ z : Int, -9000000000000000000 ≤ z ∧ z ≤ 9000000000000000000 → wrap64 z = z := fun z hz => IntWalk.wrap64_in _ (by omega)
  unfold dotW
  simp only [List.length_cons, List.length_nil, wsum, List.getD_cons_zero, List.getD_cons_succ]
  rw [hw (a * a) (by omega), hw (b * b) (by omega), hw (c * c) (by omega), hw (d * d) (by omega), hw (0 + a * a) (by omega), hw (0 + a * a + b * b) (by omega), hw (0 + a * a + b * b + c * c) (by omega), hw (0 + a * a + b * b + c * c + d * d) (by omega), Int.zero_add]
set_option maxRecDepth 20000 in
set_option maxHeartbeats 8000000 in
theorem descentOf4_any (p : Nat) (A1 A2 A3 A4 : Int) (m : Nat) (w : World) (hp : 1 ≤ p ∧ p ≤ 2000) (hpr : ∀ d : Int, 1 < d → d < p → ¬ d ∣ (p : Int)) (hD : Sq.D4 p ⟨A1, A2, A3, A4⟩ m) :
    Calls Try.prog 73 #[.agg #[.int .i64 A1, .int .i64 A2, .int .i64 A3, .int .i64 A4], .int .i64 p, .func (.func 74) #[] #[]] w fun e w' => MadeRows w (run4 p m ⟨A1, A2, A3, A4⟩ m) e w' := by
  have HD := hid hD
  have HPR := hid hpr
  have z0 : ¬ (p : Int) = 0 := by omega
  obtain ⟨T, hT⟩ : ∃ T, run4 p m ⟨A1, A2, A3, A4⟩ m = T := ⟨_, rfl⟩
  have HT := hid hT
  rw [hT]
  have hmp : m ≤ 2000 := by have := hD.mp; omega
  clear hT hD hpr
  go_enter Try.func73, Try.ntmps73
  go_wp2_with fail
  have HL0 := hid ((Later.alloc w (.cells #[.int .i64 A1, .int .i64 A2, .int .i64 A3, .int .i64 A4] 57)).trans (Later.alloc _ (.cells #[.int .i64 A1, .int .i64 A2, .int .i64 A3, .int .i64 A4] 82)))
  have HX0 := hid (NBox.new (w.alloc (.cells #[.int .i64 A1, .int .i64 A2, .int .i64 A3, .int .i64 A4] 57)) [A1, A2, A3, A4] #[.int .i64 A1, .int .i64 A2, .int .i64 A3, .int .i64 A4] 82 rfl)
  have HY0 := hid (TyB.new (w.alloc (.cells #[.int .i64 A1, .int .i64 A2, .int .i64 A3, .int .i64 A4] 57)) #[.int .i64 A1, .int .i64 A2, .int .i64 A3, .int .i64 A4] 82)
  simp only [World.size_alloc] at HX0 HY0
  generalize (w.alloc (.cells #[.int .i64 A1, .int .i64 A2, .int .i64 A3, .int .i64 A4] 57)).alloc (.cells #[.int .i64 A1, .int .i64 A2, .int .i64 A3, .int .i64 A4] 82) = W0 at HL0 HX0 HY0 ⊢
  go_loopw [7, 8] (fun o q wr => ∃ (a b c d : Int) (k f B : Nat) (L : List (List Int)), q = .pointer (some ⟨B, 0, none⟩) ∧ Sq.D4 p ⟨a, b, c, d⟩ k ∧ OwnRows w.heap.size wr.heap.size wr o L ∧ NBox wr B [a, b, c, d] ∧ TyB wr B 82 ∧ w.heap.size ≤ B ∧ L ++ run4 p f ⟨a, b, c, d⟩ k = T ∧ k ≤ f ∧ L.length + k ≤ 1000000 ∧ Later w wr)
    (fun o _ _ => T.length - lenOfH o)
  case atStart => exact ⟨A1, A2, A3, A4, m, m, w.heap.size + 1, [], rfl, HD.out, OwnRows.noneH _ _ _, HX0.out, HY0.out, by omega, HT.out, Nat.le_refl _, by simp; omega, HL0.out⟩
  case round =>
    clear HL0 HX0 HY0 HT HD
    obtain ⟨a, b, c, d, k, f, B, L, rfl, hD, hO, hX, hY, hB, hT, hkf, hlk, hL⟩ := hrel
    have HTL := hid (show L.length < T.length by
      rw [← hT, List.length_append]
      have : 1 ≤ (run4 p f ⟨a, b, c, d⟩ k).length := by cases f <;> simp [run4]
      omega)
    have HD := hid hD
    have HX := hid hX
    have HY := hid hY
    have HL := hid hL
    have HO := hid hO
    have HT := hid hT
    obtain ⟨o1, o2, rfl, _⟩ := hO.shape
    have HB := hid hB
    have hbd := hD.bd (by omega) (by omega)
    have HLI := hid (fun w => listC4_any a b c d w)
    have HDOT := hid (fun v w (h : Ints w v [a, b, c, d]) => dot4_any v a b c d w (by omega) (by omega) (by omega) (by omega) h)
    have hq : (a * a + b * b + c * c + d * d).tdiv p = k := by rw [show a * a + b * b + c * c + d * d = k * p from hD.eq]; exact Int.mul_tdiv_cancel _ (by omega)
    have HLN := hid (show L.length ≤ 1000000 by omega)
    clear hD hX hY hL hO hT hB
    have c0 := (HX.out 0 a rfl).1
    have c1 := (HX.out 1 b rfl).1
    have c2 := (HX.out 2 c rfl).1
    have c3 := (HX.out 3 d rfl).1
    go_wp2_with fail
    refine (HLI.out _).mono ?_
    rintro e w2 ⟨v2, rfl, hO2, hL2⟩
    obtain ⟨p2, n2, rfl, _⟩ := hO2.shape
    have HO2 := hid hO2
    have HL2 := hid hL2
    clear hO2 hL2 c0 c1 c2 c3
    go_wp2_with fail
    refine (HDOT.out _ _ HO2.out.ints).mono ?_
    rintro e w3 ⟨rfl, hL3⟩
    have HB2 := hid HO2.out.2
    have HO3 := hid (show OwnInts wr.heap.size w3.heap.size w3 (.slice p2 4 n2) [a, b, c, d] from (HO2.out.later hL3).wide (Nat.le_refl _) hL3.size)
    have HL3 := hid (HL2.out.trans hL3)
    have HS3 := hid hL3.size
    clear hL3 HO2 HL2
    go_upto_region 5 with fail
    have HK4 := hid (NBox.new w3 [(k : Int)] #[.int .i64 k] 3 rfl)
    have HL4 := hid (HL3.out.trans (Later.alloc w3 (.cells #[.int .i64 k] 3)))
    have HO4 := hid (show OwnInts wr.heap.size (w3.alloc (.cells #[.int .i64 k] 3)).heap.size (w3.alloc (.cells #[.int .i64 k] 3)) (.slice p2 4 n2) [a, b, c, d] from (HO3.out.later (Later.alloc _ _)).wide (Nat.le_refl _) (by simp))
    have HS4 := hid (show w3.heap.size < (w3.alloc (.cells #[.int .i64 k] 3)).heap.size by simp)
    obtain ⟨K, hK⟩ : ∃ K, w3.heap.size = K := ⟨_, rfl⟩
    rw [hK] at HK4 HS4 HS3 ⊢
    have HKr := hid (show wr.heap.size ≤ K from hK ▸ HL3.out.size)
    generalize w3.alloc (.cells #[.int .i64 k] 3) = w4 at HK4 HL4 HO4 HS4 ⊢
    clear HO3 HL3 hK
    have ck := (HK4.out 0 k rfl).1
    go_wp2_with (at_builtin; refine wpList_push1 (by rfl) _ _ (by rfl) wr.heap.size w4 _ (.slice p2 4 n2) [a, b, c, d] k (by rfl) HL4.out.size HO4.out (by simp) (by rfl) rfl ?_)
    intro g6 n6 w6 hO6 hG6 _
    have HO6 := hid (show OwnInts wr.heap.size w6.heap.size w6 (.slice (some ⟨g6, 0, none⟩) 5 n6) [a, b, c, d, (k : Int)] from hO6)
    have HL6 := hid (show Later wr w6 from HL4.out.grown hG6 HL4.out.size (fun b hb => (HO4.out.1.lt b hb).1))
    have HK6 := hid (show NBox w6 K [(k : Int)] from HK4.out.keep (hG6.block K HS4.out fun e => by have := HB2.out K e.symm; have := HS3.out; omega))
    have HX6 := hid (HX.out.later HL6.out)
    have HY6 := hid (HY.out.later HL6.out)
    have HOL6 := hid (HO.out.later HL6.out)
    have HBr := hid HY.out.lt
    have HOB := hid (HO.out.neTy HY.out (by decide))
    have HOK := hid (show (Value.slice o1 L.length o2).ownBlock ≠ some K from fun e => by
      obtain ⟨us, _, hus, _⟩ := HO.out.partsH
      have := (hus.lt K e).2
      have := HKr.out; omega)
    have HKs := hid (Nat.lt_of_lt_of_le HS4.out hG6.size)
    clear hO6 hG6 ck HK4 HL4 HO4 HX HY
    go_wp2_with (at_builtin; refine wpList_pushR (by rfl) _ _ (by rfl) w.heap.size wr.heap.size w6 _ (.slice o1 L.length o2) _ _ _ L [a, b, c, d, (k : Int)] (by rfl) HL.out.size HL6.out.size HOL6.out HO6.out HLN.out (by rfl) rfl ?_)
    intro g8 c8 w8 hO8 hG8 _
    have HO8 := hid hO8
    have HL8 := hid (show Later w w8 from (HL.out.trans HL6.out).grown hG8 (HL.out.trans HL6.out).size (fun b hb => by
      obtain ⟨us, _, hus, _⟩ := HO.out.partsH
      exact (hus.lt b hb).1))
    have HK8 := hid (show NBox w8 K [(k : Int)] from HK6.out.keep (hG8.block K HKs.out fun e => HOK.out e.symm))
    have kB := hG8.block B (Nat.lt_of_lt_of_le HBr.out HL6.out.size) fun e => HOB.out e.symm
    have HX8 := hid (HX6.out.keep kB)
    have HY8 := hid (HY6.out.keep kB)
    clear hO8 hG8 kB HK6 HX6 HY6 HOL6 HO HL6 HO6 hq
    have ck := (HK8.out 0 k rfl).1
    by_cases hk1 : (k : Int) ≤ 1
    · have HN := hid (show L ++ [[a, b, c, d, (k : Int)]] = T by rw [← HT.out, run4_end hk1])
      go_wp2_with fail
      go_ret
      exact ⟨_, rfl, by rw [← HN.out]; simpa using HO8.out, HL8.out⟩
    · obtain ⟨r, hDr, hr2, hr0⟩ := HD.out.step (by omega) (by omega) HPR.out
      obtain ⟨q, rfl⟩ : ∃ q : Nat, r = (q : Int) := ⟨r.toNat, by omega⟩
      have HT2 := hid (run4_go (show 1 < (k : Int) by omega) (show (k : Int) ≤ f by omega) hDr (by omega))
      have hk2 : decide ((k : Int) ≤ 1) = false := decide_eq_false hk1
      have hkb : 1 ≤ (k : Int) ∧ (k : Int) ≤ 2000 := by omega
      have hun := near_bd4 a k hkb
      have hvn := near_bd4 b k hkb
      have hsn := near_bd4 c k hkb
      have htn := near_bd4 d k hkb
      have HC1 := hid (changed4_any a b c d 119 #[.pointer (some ⟨K, 0, none⟩)] (fun z => Sq.near z k) w8 Try.call119 (fun z w1 hz hL => nearCl4_any z k ⟨K, 0, none⟩ w1 (hL.cell (HK8.out 0 k rfl).1) (by simp at hz; rcases hz with rfl | rfl | rfl | rfl <;> omega) (by omega)))
      have HM := hid (fun w => product4_any a b c d (Sq.near a k) (Sq.near b k) (Sq.near c k) (Sq.near d k) w (by unfold In6; omega) (by unfold In6; omega) (by unfold In6; omega) (by unfold In6; omega) (by unfold In6; omega) (by unfold In6; omega) (by unfold In6; omega) (by unfold In6; omega))
      obtain ⟨⟨x1, x2, x3, x4⟩, hmq⟩ : ∃ q, Sq.mul4 ⟨a, b, c, d⟩ ⟨Sq.near a k, Sq.near b k, Sq.near c k, Sq.near d k⟩ = q := ⟨_, rfl⟩
      have hst : Sq.st4 ⟨a, b, c, d⟩ k = ⟨Sq.iabs x1 / k, Sq.iabs x2 / k, Sq.iabs x3 / k, Sq.iabs x4 / k⟩ := by
        show (Sq.mul4 ⟨a, b, c, d⟩ ⟨Sq.near a k, Sq.near b k, Sq.near c k, Sq.near d k⟩).map (fun x => Sq.iabs x / k) = _
        rw [hmq]; rfl
      have hq4 := hmq
      simp only [Sq.mul4, Sq.Q4.mk.injEq] at hq4
      obtain ⟨y1, y2, y3, y4⟩ := hq4
      have bb : ∀ {x y : Int}, (-2000 ≤ x ∧ x ≤ 2000) → (-2000 ≤ y ∧ y ≤ 2000) → -(2000 * 2000) ≤ x * y ∧ x * y ≤ 2000 * 2000 := fun hx hy => mulBdC hx hy
      have ha' : -2000 ≤ a ∧ a ≤ 2000 := by omega
      have hb' : -2000 ≤ b ∧ b ≤ 2000 := by omega
      have hc' : -2000 ≤ c ∧ c ≤ 2000 := by omega
      have hd' : -2000 ≤ d ∧ d ≤ 2000 := by omega
      have n1 := And.intro (bb ha' hun) (And.intro (bb hb' hvn) (And.intro (bb hc' hsn) (bb hd' htn)))
      have n2 := And.intro (bb ha' hvn) (And.intro (bb hb' hun) (And.intro (bb hc' htn) (bb hd' hsn)))
      have n3 := And.intro (bb ha' hsn) (And.intro (bb hc' hun) (And.intro (bb hd' hvn) (bb hb' htn)))
      have n4 := And.intro (bb ha' htn) (And.intro (bb hd' hun) (And.intro (bb hb' hsn) (bb hc' hvn)))
      have X1 : -1000000000 ≤ x1 ∧ x1 ≤ 1000000000 := by clear n2 n3 n4 y2 y3 y4; omega
      have X2 : -1000000000 ≤ x2 ∧ x2 ≤ 1000000000 := by clear n1 n3 n4 y1 y3 y4; omega
      have X3 : -1000000000 ≤ x3 ∧ x3 ≤ 1000000000 := by clear n1 n2 n4 y1 y2 y4; omega
      have X4 : -1000000000 ≤ x4 ∧ x4 ≤ 1000000000 := by clear n1 n2 n3 y1 y2 y3; omega
      rw [y1, y2, y3, y4] at HM
      clear n1 n2 n3 n4 y1 y2 y3 y4 hmq bb
      have HC2 := hid (fun w (hc : w.cell? ⟨K, 0, none⟩ = some (.int .i64 k)) => changed4_any x1 x2 x3 x4 120 #[.pointer (some ⟨K, 0, none⟩)] (fun z => Sq.iabs z / k) w Try.call120 (fun z w1 hz hL => divCl4_any z k ⟨K, 0, none⟩ w1 (hL.cell hc) (by simp at hz; rcases hz with rfl | rfl | rfl | rfl <;> omega) (by omega)))
      rw [hst] at hDr HT2
      obtain ⟨s1, hs1⟩ : ∃ s, Sq.iabs x1 / k = s := ⟨_, rfl⟩
      obtain ⟨s2, hs2⟩ : ∃ s, Sq.iabs x2 / k = s := ⟨_, rfl⟩
      obtain ⟨s3, hs3⟩ : ∃ s, Sq.iabs x3 / k = s := ⟨_, rfl⟩
      obtain ⟨s4, hs4⟩ : ∃ s, Sq.iabs x4 / k = s := ⟨_, rfl⟩
      obtain ⟨u1, hu1⟩ : ∃ s, Sq.near a k = s := ⟨_, rfl⟩
      obtain ⟨u2, hu2⟩ : ∃ s, Sq.near b k = s := ⟨_, rfl⟩
      obtain ⟨u3, hu3⟩ : ∃ s, Sq.near c k = s := ⟨_, rfl⟩
      obtain ⟨u4, hu4⟩ : ∃ s, Sq.near d k = s := ⟨_, rfl⟩
      rw [hs1, hs2, hs3, hs4] at HC2 hDr HT2
      rw [hu1, hu2, hu3, hu4] at HC1 HM
      have HDr := hid hDr
      have HQ := hid (show L.length + 1 + q ≤ 1000000 ∧ q ≤ f - 1 by omega)
      have HE := hid (show (L ++ [[a, b, c, d, (k : Int)]]) ++ run4 p (f - 1) ⟨s1, s2, s3, s4⟩ q = T by rw [← HT.out, HT2.out]; simp)
      clear hDr hst HT HT2 hs1 hs2 hs3 hs4 hu1 hu2 hu3 hu4 X1 X2 X3 X4 ha' hb' hc' hd' hun hvn hsn htn hbd HD hr0 hr2
      have c0 := (HX8.out 0 a rfl).1
      have c1 := (HX8.out 1 b rfl).1
      have c2 := (HX8.out 2 c rfl).1
      have c3 := (HX8.out 3 d rfl).1
      go_wp2_with fail
      refine HC1.out.mono ?_
      rintro e w9 ⟨rfl, hL9⟩
      have HX9 := hid ((HX8.out.later hL9).later (Later.alloc w9 (.cells #[.int .i64 u1, .int .i64 u2, .int .i64 u3, .int .i64 u4] 82)))
      have HN9 := hid (NBox.new w9 [u1, u2, u3, u4] #[.int .i64 u1, .int .i64 u2, .int .i64 u3, .int .i64 u4] 82 rfl)
      have HL9 := hid (hL9.trans (Later.alloc w9 (.cells #[.int .i64 u1, .int .i64 u2, .int .i64 u3, .int .i64 u4] 82)))
      clear c0 c1 c2 c3 ck hL9
      go_upto_region 9 with fail
      obtain ⟨N1, hN1⟩ : ∃ N1, w9.heap.size = N1 := ⟨_, rfl⟩
      rw [hN1] at HN9 ⊢
      clear hN1
      generalize w9.alloc (.cells #[.int .i64 u1, .int .i64 u2, .int .i64 u3, .int .i64 u4] 82) = w10 at HX9 HN9 HL9 ⊢
      have c0 := (HX9.out 0 a rfl).1
      have c1 := (HX9.out 1 b rfl).1
      have c2 := (HX9.out 2 c rfl).1
      have c3 := (HX9.out 3 d rfl).1
      have d0 := (HN9.out 0 u1 rfl).1
      have d1 := (HN9.out 1 u2 rfl).1
      have d2 := (HN9.out 2 u3 rfl).1
      have d3 := (HN9.out 3 u4 rfl).1
      go_wp2_with fail
      refine (HM.out _).mono ?_
      rintro e w11 ⟨rfl, hL11⟩
      have HX11 := hid ((HX9.out.later hL11).later (Later.alloc w11 (.cells #[.int .i64 x1, .int .i64 x2, .int .i64 x3, .int .i64 x4] 82)))
      have HN11 := hid (NBox.new w11 [x1, x2, x3, x4] #[.int .i64 x1, .int .i64 x2, .int .i64 x3, .int .i64 x4] 82 rfl)
      have HL11 := hid ((HL9.out.trans hL11).trans (Later.alloc w11 (.cells #[.int .i64 x1, .int .i64 x2, .int .i64 x3, .int .i64 x4] 82)))
      clear c0 c1 c2 c3 d0 d1 d2 d3 hL11 HN9 HX9
      go_upto_region 10 with fail
      obtain ⟨N2, hN2⟩ : ∃ N2, w11.heap.size = N2 := ⟨_, rfl⟩
      rw [hN2] at HN11 ⊢
      clear hN2
      generalize w11.alloc (.cells #[.int .i64 x1, .int .i64 x2, .int .i64 x3, .int .i64 x4] 82) = w12 at HX11 HN11 HL11 ⊢
      have d0 := (HN11.out 0 x1 rfl).1
      have d1 := (HN11.out 1 x2 rfl).1
      have d2 := (HN11.out 2 x3 rfl).1
      have d3 := (HN11.out 3 x4 rfl).1
      go_wp2_with fail
      refine (HC2.out _ (HL11.out.cell (HK8.out 0 k rfl).1)).mono ?_
      rintro e w13 ⟨rfl, hL13⟩
      have HL13 := hid (HL11.out.trans hL13)
      have HX13 := hid (HX11.out.later hL13)
      have HY13 := hid (HY8.out.later HL13.out)
      have HO13 := hid (HO8.out.later HL13.out)
      have HLw := hid (HL8.out.trans HL13.out)
      have HX14 := hid (NBox.all4 HX13.out s1 s2 s3 s4)
      have HO14 := hid ((((HO13.out.setTy HY13.out (by decide) (by decide) 0 (.int .i64 s1)).setTy (HY13.out.set 0 (.int .i64 s1)) (by decide) (by decide) 1 (.int .i64 s2)).setTy ((HY13.out.set 0 (.int .i64 s1)).set 1 (.int .i64 s2)) (by decide) (by decide) 2 (.int .i64 s3)).setTy (((HY13.out.set 0 (.int .i64 s1)).set 1 (.int .i64 s2)).set 2 (.int .i64 s3)) (by decide) (by decide) 3 (.int .i64 s4))
      have HL14 := hid (show Later w ((((w13.setCell ⟨B, 0, none⟩ (.int .i64 s1)).setCell ⟨B, 1, none⟩ (.int .i64 s2)).setCell ⟨B, 2, none⟩ (.int .i64 s3)).setCell ⟨B, 3, none⟩ (.int .i64 s4)) from (Below.setCell (p := ⟨B, 3, none⟩) (Below.setCell (p := ⟨B, 2, none⟩) (Below.setCell (p := ⟨B, 1, none⟩) (Below.setCell (p := ⟨B, 0, none⟩) HLw.out HB.out _) HB.out _) HB.out _) HB.out _))
      have HS14 := hid (show w8.heap.size ≤ ((((w13.setCell ⟨B, 0, none⟩ (.int .i64 s1)).setCell ⟨B, 1, none⟩ (.int .i64 s2)).setCell ⟨B, 2, none⟩ (.int .i64 s3)).setCell ⟨B, 3, none⟩ (.int .i64 s4)).heap.size by simpa using HL13.out.size)
      have r0 := (HX13.out 0 a rfl).1
      have f0 := (HX13.out 0 a rfl).2
      have r1 := (HX13.out 1 b rfl).1
      have f1 := (HX13.out 1 b rfl).2
      have r2 := (HX13.out 2 c rfl).1
      have f2 := (HX13.out 2 c rfl).2
      have r3 := (HX13.out 3 d rfl).1
      have f3 := (HX13.out 3 d rfl).2
      clear d0 d1 d2 d3 hL13 HN11 HX11 HX13 HO13 HY13
      go_upto_region 11 with fail
      generalize (((w13.setCell ⟨B, 0, none⟩ (.int .i64 s1)).setCell ⟨B, 1, none⟩ (.int .i64 s2)).setCell ⟨B, 2, none⟩ (.int .i64 s3)).setCell ⟨B, 3, none⟩ (.int .i64 s4) = w14 at HX14 HO14 HL14 HS14 ⊢
      clear r0 f0 r1 f1 r2 f2 r3 f3
      have c0 := (HX14.out 0 s1 rfl).1
      have c1 := (HX14.out 1 s2 rfl).1
      have c2 := (HX14.out 2 s3 rfl).1
      have c3 := (HX14.out 3 s4 rfl).1
      have hA := Later.alloc w14 (.cells #[.int .i64 s1, .int .i64 s2, .int .i64 s3, .int .i64 s4] 82)
      have HX15 := hid (NBox.new w14 [s1, s2, s3, s4] #[.int .i64 s1, .int .i64 s2, .int .i64 s3, .int .i64 s4] 82 rfl)
      have HY15 := hid (TyB.new w14 #[.int .i64 s1, .int .i64 s2, .int .i64 s3, .int .i64 s4] 82)
      have HO15 := hid ((HO14.out.later hA).wide (Nat.le_refl _) (Nat.le_trans HS14.out hA.size))
      have HL15 := hid (HL14.out.trans hA)
      have HB15 := hid HL14.out.size
      clear hA
      go_wp2_with fail
      go_roundw
      case rel => exact ⟨s1, s2, s3, s4, q, f - 1, w14.heap.size, L ++ [[a, b, c, d, (k : Int)]], rfl, HDr.out, by simpa using HO15.out, HX15.out, HY15.out, HB15.out, HE.out, HQ.out.2, by have := HQ.out.1; simp; omega, HL15.out⟩
      case measure => have := HTL.out; simp only [lenOfH]; omega
end Go.Proofs.Ytofmmegpadojlaa
