/- Answers as the big laws read them: two numbers, a list, a list and a number, rows, a matrix, a bool; rows at a place. -/
import Derived.Test.YtoaopmafokoaoaaNuA
import Derived.Test.YtoaopmafokoaoaaAns5
import Derived.Test.YtoaopmafokoaoaaRgH
namespace Go.Proofs.Ytoaopmafokoaoaa
open Go.RowKit

theorem wp_region_laterG {P : Program} {id : Nat} {Q : Exit → Act → World → Prop} {a : Act} {w : World} {l : List Oper} (hm : P.follows .mixedOrders = true) (hB : Region.lexB .any l.toArray = true)
    (h : wpQuiet P l.toArray (fun w' => ∃ p : LaterH w, w' = p.now) (fun a' => ∀ w', (∃ p : LaterH w, w' = p.now) → Q .normal a' w') l a) : (Code.region id l.toArray true).wp P Q a w :=
  wp_region_quiet (C := fun w' => ∃ p : LaterH w, w' = p.now) hm hB ⟨⟨w.drew, Later.drew w⟩, rfl⟩ (by simpa using h)
theorem pair_asG {w0 : World} {fn : FuncId} {args : Array Value} {o : Option (Int × Int)} {a b : Int} {t : Bool} (h : Calls Try.prog fn args w0 fun e w' => PairAns w0 o e w') (ha : (o.getD (0, 0)).1 = a) (hb : (o.getD (0, 0)).2 = b) (ht : o.isSome = t) :
    Calls Try.prog fn args w0 fun e w' => e = .returned (.tuple #[.int .i64 a, .int .i64 b, .bool t]) ∧ Later w0 w' :=
  h.mono fun e w' ⟨he, hl⟩ => ⟨by rw [he, ha, hb, ht], hl⟩
theorem ints_asG {w0 : World} {fn : FuncId} {args : Array Value} {o : Option (List Int)} {z : List Int} {t : Bool} (h : Calls Try.prog fn args w0 fun e w' => IntsAns w0 o e w') (hL : o.getD [] = z) (ht : o.isSome = t) :
    Calls Try.prog fn args w0 fun e w' => ∃ a c, e = .returned (.tuple #[.slice a z.length c, .bool t]) ∧ Ints w' (.slice a z.length c) z ∧ z.length ≤ c ∧ Later w0 w' :=
  h.mono fun e w' ⟨v, he, ho, hl⟩ => by
    rw [hL] at ho
    obtain ⟨a, c, rfl, hc⟩ := ho.shape
    exact ⟨a, c, by rw [he, ht], ho.ints, hc, hl⟩
theorem in_asG {w0 : World} {fn : FuncId} {args : Array Value} {o : Option (List Int × Int)} {z : List Int} {k : Int} {t : Bool} (h : Calls Try.prog fn args w0 fun e w' => InAns w0 o e w') (hL : (o.getD ([], 0)).1 = z) (hk : (o.getD ([], 0)).2 = k) (ht : o.isSome = t) :
    Calls Try.prog fn args w0 fun e w' => ∃ a c, e = .returned (.tuple #[.slice a z.length c, .int .i64 k, .bool t]) ∧ Ints w' (.slice a z.length c) z ∧ z.length ≤ c ∧ Later w0 w' :=
  h.mono fun e w' ⟨v, he, ho, hl⟩ => by
    rw [hL] at ho
    obtain ⟨a, c, rfl, hc⟩ := ho.shape
    exact ⟨a, c, by rw [he, hk, ht], ho.ints, hc, hl⟩
/-- rows as a law reads them: with the capacities of the rows -/
def RG (w : World) (a : Option Addr) (c : Nat) (L : List (List Int)) : Prop :=
  Rows2 w (.slice a L.length c) L ∧ ∀ i, i < L.length → ∃ ad a2 c2, a = some ad ∧ w.cell? (ad.add i) = some (.slice a2 (L.getD i []).length c2) ∧ (L.getD i []).length ≤ c2 ∧ Ints w (.slice a2 (L.getD i []).length c2) (L.getD i [])
theorem RG.later {w w' : World} {a : Option Addr} {c : Nat} {L : List (List Int)} (h : RG w a c L) (k : Later w w') : RG w' a c L := by
  refine ⟨h.1.later k, fun i hi => ?_⟩
  obtain ⟨ad, a2, c2, e, h1, h2, h3⟩ := h.2 i hi
  exact ⟨ad, a2, c2, e, k.cell h1, h2, h3.later k⟩
theorem OwnRows.rg {lo hi : Nat} {w : World} {a : Option Addr} {c : Nat} {L : List (List Int)} (ho : OwnRows lo hi w (.slice a L.length c) L) : RG w a c L := by
  refine ⟨ho.rows, fun i hi => ?_⟩
  obtain ⟨g, cap', u, hv', hcu, hu, _⟩ := ho.row hi
  simp only [Value.slice.injEq] at hv'
  obtain ⟨a2, c2, rfl, hle⟩ := hu.shape
  exact ⟨_, a2, c2, hv'.1, hcu, hle, hu.ints⟩
theorem rows_asG {w0 : World} {fn : FuncId} {args : Array Value} {o : Option (List (List Int))} {L : List (List Int)} {t : Bool} (h : Calls Try.prog fn args w0 fun e w' => RowsAns w0 o e w') (hL : o.getD [] = L) (ht : o.isSome = t) :
    Calls Try.prog fn args w0 fun e w' => ∃ a c, e = .returned (.tuple #[.slice a L.length c, .bool t]) ∧ RG w' a c L ∧ Later w0 w' :=
  h.mono fun e w' ⟨v, he, ho, hl⟩ => by
    rw [hL] at ho
    obtain ⟨a, c, rfl, _⟩ := ho.shape
    exact ⟨a, c, by rw [he, ht], ho.rg, hl⟩
theorem mat_asG {w0 : World} {fn : FuncId} {args : Array Value} {o : Option (List (List Int))} {L : List (List Int)} {t : Bool} (h : Calls Try.prog fn args w0 fun e w' => MatAns w0 o e w') (hL : o.getD [] = L) (ht : o.isSome = t) :
    Calls Try.prog fn args w0 fun e w' => ∃ a c, e = .returned (.tuple #[.agg #[.slice a L.length c], .bool t]) ∧ RG w' a c L ∧ Later w0 w' :=
  h.mono fun e w' ⟨v, he, ho, hl⟩ => by
    rw [hL] at ho
    obtain ⟨a, c, rfl, _⟩ := ho.shape
    exact ⟨a, c, by rw [he, ht], ho.rg, hl⟩
theorem res_asG {w0 : World} {fn : FuncId} {args : Array Value} {o t : Bool} (h : Calls Try.prog fn args w0 fun e w' => BoolRes w0 o e w') (ht : o = t) :
    Calls Try.prog fn args w0 fun e w' => e = .returned (.bool t) ∧ Later w0 w' := by subst ht; exact h
/-- three numbers that a slice reads as -/
theorem Ints.threeG {w : World} {a : Option Addr} {n c : Nat} {x y z : Int} (h : Ints w (.slice a n c) [x, y, z]) :
    ∃ ad, a = some ad ∧ n = 3 ∧ w.cell? ad = some (.int .i64 x) ∧ w.cell? ⟨ad.block, ad.off + 1, none⟩ = some (.int .i64 y) ∧ w.cell? ⟨ad.block, ad.off + 2, none⟩ = some (.int .i64 z) := by
  obtain ⟨p, cap, e, hl, hc⟩ := h
  simp only [Value.slice.injEq] at e
  obtain ⟨rfl, e2, rfl⟩ := e
  obtain ⟨ad, rfl, h0⟩ := hc 0 (by simp)
  obtain ⟨ad1, e1, h1⟩ := hc 1 (by simp)
  obtain ⟨ad2, e3, h2⟩ := hc 2 (by simp)
  obtain rfl : ad = ad1 := by simpa using e1
  obtain rfl : ad = ad2 := by simpa using e3
  exact ⟨ad, rfl, by simpa using e2, by simpa [Addr.add] using h0, by simpa [Addr.add] using h1, by simpa [Addr.add] using h2⟩
theorem BytesR.laterG {w w' : World} {v : Value} {bs : List Int} (h : BytesR w v bs) (k : Later w w') : BytesR w' v bs := h.later k
/-- any two lists: whether they are the same -/
theorem same_stepG {xs ys : List Int} {k : Nat} (h : ∀ j, j < k → xs.getD j 0 = ys.getD j 0) (hk : xs.getD k 0 = ys.getD k 0) : ∀ j, j < k + 1 → xs.getD j 0 = ys.getD j 0 := by
  intro j hj
  by_cases e : j = k
  · rw [e]; exact hk
  · exact h j (by omega)
theorem same_allG {xs ys : List Int} (hl : xs.length = ys.length) (h : ∀ j, j < xs.length → xs.getD j 0 = ys.getD j 0) : xs = ys := by
  apply List.ext_getElem hl
  intro i h1 h2
  have := h i h1
  simpa [List.getD_eq_getElem?_getD, h1, h2] using this
theorem ret_boolG {a b : Bool} (h : a = b) : Ending.returned (Value.bool a) = Ending.returned (Value.bool b) := by rw [h]
set_option maxHeartbeats 2000000 in
theorem vSame_anyG (u v : Value) (xs ys : List Int) (t : Bool) (w : World) (hx : Ints w u xs) (hy : Ints w v ys) (ht : decide (xs = ys) = t) :
    Calls Try.prog 24 #[u, v] w fun e w' => e = .returned (.bool t) ∧ ∃ n, w' = w.drewN n := by
  obtain ⟨a, cap, rfl, hl, hc⟩ := hx
  obtain ⟨b, cap2, rfl, hl2, hc2⟩ := hy
  have HC := hid hc
  have HC2 := hid hc2
  have HT := hid ht
  obtain ⟨n, hn⟩ : ∃ n, xs.length = n := ⟨_, rfl⟩
  obtain ⟨m, hm⟩ : ∃ n, ys.length = n := ⟨_, rfl⟩
  have HN := hid hn
  have HM := hid hm
  rw [hn] at hl ⊢
  rw [hm] at hl2 ⊢
  clear hc hc2 ht hn hm
  by_cases h : n = m
  · subst h
    have hne : ((n : Int) != (n : Int)) = false := by simp
    go_enter Try.func24, Try.ntmps24
    go_wp2_with fail
    go_loopw [13] (fun i wr => ∃ k q : Nat, k ≤ n ∧ i = .int .i64 k ∧ wr = w.drewN q ∧ ∀ j, j < k → xs.getD j 0 = ys.getD j 0) (fun i _ => n - (intOf i).toNat)
    case atStart => exact ⟨0, 0, Nat.zero_le _, rfl, rfl, fun j hj => absurd hj (Nat.not_lt_zero j)⟩
    case round =>
      obtain ⟨k, q, hk, rfl, rfl, hs⟩ := hrel
      have HS := hid hs
      clear hs
      by_cases hlt : k < n
      · obtain ⟨ad, rfl, hcell⟩ := HC.out k (by rw [HN.out]; exact hlt)
        obtain ⟨ad2, rfl, hcell2⟩ := HC2.out k (by rw [HM.out]; exact hlt)
        have hi1 : (k : Int) < (n : Int) := by omega
        obtain ⟨z, hz⟩ : ∃ z, xs.getD k 0 = z := ⟨_, rfl⟩
        obtain ⟨y, hy⟩ : ∃ z, ys.getD k 0 = z := ⟨_, rfl⟩
        have HZ := hid hz
        have HY := hid hy
        rw [hz] at hcell
        rw [hy] at hcell2
        clear hz hy
        by_cases hzy : z = y
        · have HE := hid hzy
          have hb : (z != y) = false := by simp [hzy]
          clear hzy
          go_wp2_with fail
          go_quiet (fail)
          go_wp2_with fail
          go_roundw
          case rel => exact ⟨k + 1, q + nq, hlt, by go_num, by simp, same_stepG HS.out (by rw [HZ.out, HY.out, HE.out])⟩
          case measure => simp [intOf]; omega
        · have HE := hid hzy
          have hb : (z != y) = true := by simp [hzy]
          clear hzy
          go_wp2_with fail
          go_quiet (fail)
          go_wp2_with fail
          go_ret
          refine ⟨?_, q + nq, by simp⟩
          exact ret_boolG (by rw [← HT.out, decide_eq_false (fun e => HE.out (by rw [← HZ.out, ← HY.out, e]))])
      · go_wp2_with fail
        go_ret
        refine ⟨?_, q, rfl⟩
        have e : k = n := by omega
        exact ret_boolG (by rw [← HT.out, decide_eq_true (same_allG (by rw [HN.out, HM.out]) (by rw [HN.out, ← e]; exact HS.out))])
  · have hne : ((n : Int) != (m : Int)) = true := by simp; omega
    have HE := hid h
    clear h
    go_enter Try.func24, Try.ntmps24
    go_wp2_with fail
    go_ret
    refine ⟨?_, 0, rfl⟩
    exact ret_boolG (by rw [← HT.out, decide_eq_false (fun e => HE.out (by rw [← HN.out, ← HM.out, e]))])
end Go.Proofs.Ytoaopmafokoaoaa
