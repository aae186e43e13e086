/- Rows of pairs as the laws read them; calls in a drawn region that leave what was there. -/
import Derived.Test.YtdahhcigphhfdaaCuAB
import Derived.Test.YtdahhcigphhfdaaJlA
import Derived.Test.YtdahhcigphhfdaaJpJ
import Derived.Test.YtdahhcigphhfdaaJqC
import Derived.Test.YtdahhcigphhfdaaRgH
namespace Go.Proofs.Ytdahhcigphhfdaa
open Go.RowKit

theorem wp_region_laterJ {P : Program} {id : Nat} {Q : Exit → Act → World → Prop} {a : Act} {w : World} {l : List Oper} (hm : P.follows .mixedOrders = true) (hB : Region.lexB .any l.toArray = true)
    (h : wpQuiet P l.toArray (fun w' => ∃ p : LaterH w, w' = p.now) (fun a' => ∀ w', (∃ p : LaterH w, w' = p.now) → Q .normal a' w') l a) : (Code.region id l.toArray true).wp P Q a w :=
  wp_region_quiet (C := fun w' => ∃ p : LaterH w, w' = p.now) hm hB ⟨⟨w.drew, Later.drew w⟩, rfl⟩ (by simpa using h)
theorem pair_as {w0 : World} {fn : FuncId} {args : Array Value} {o : Option Jp2} {a b : Int} {t : Bool} (h : Calls Try.prog fn args w0 fun e w' => PairAns w0 o e w') (ha : (o.getD (0, 0)).1 = a) (hb : (o.getD (0, 0)).2 = b) (ht : o.isSome = t) :
    Calls Try.prog fn args w0 fun e w' => e = .returned (.tuple #[.int .i64 a, .int .i64 b, .bool t]) ∧ Later w0 w' :=
  h.mono fun e w' ⟨he, hl⟩ => ⟨by rw [he, ha, hb, ht], hl⟩
theorem vPair_any (x y k c : Int) (t : Bool) (w : World) (h : juB x y k c = t) :
    Calls Try.prog 21 #[.int .i64 x, .int .i64 y, .int .i64 k, .int .i64 c] w fun e w' => e = .returned (.bool t) ∧ Later w w' := by
  have HI := hid (fun w0 => implIsJump_any x y k c w0)
  have HT := hid h
  have HA := hid (show ((isjAns x y k c).getD false && (isjAns x y k c).isSome) = t by
    rw [← h]; unfold isjAns juB
    cases juW k c <;> cases juGd x y k c <;> simp)
  clear h
  obtain ⟨b1, h1⟩ : ∃ b, (isjAns x y k c).getD false = b := ⟨_, rfl⟩
  obtain ⟨b2, h2⟩ : ∃ b, (isjAns x y k c).isSome = b := ⟨_, rfl⟩
  rw [h1, h2] at HA
  have HI2 : Hid (∀ w0, Calls Try.prog 89 #[.int .i64 x, .int .i64 y, .int .i64 k, .int .i64 c] w0 fun e w' => e = .returned (.tuple #[.bool b1, .bool b2]) ∧ Later w0 w') :=
    hid (fun w0 => (HI.out w0).mono fun e w' ⟨he, hl⟩ => ⟨by rw [he, h1, h2], hl⟩)
  clear h1 h2 HI
  cases b1 <;> cases b2
  all_goals
    go_enter Try.func21, Try.ntmps21
    go_wp2_with fail
    refine (HI2.out _).mono ?_
    rintro e w1 ⟨rfl, hL⟩
    have HL := hid hL
    clear hL
    go_wp2_with fail
    go_ret
    exact ⟨by rw [← HA.out]; rfl, HL.out⟩
theorem Ints.twoJ {w : World} {v : Value} {a b : Int} (h : Ints w v [a, b]) :
    ∃ ad cap, v = .slice (some ad) 2 cap ∧ w.cell? ad = some (.int .i64 a) ∧ w.cell? ⟨ad.block, ad.off + 1, none⟩ = some (.int .i64 b) := by
  obtain ⟨p, cap, rfl, hl, hc⟩ := h
  obtain ⟨ad, rfl, h0⟩ := hc 0 (by simp)
  obtain ⟨ad1, e1, h1⟩ := hc 1 (by simp)
  obtain rfl : ad = ad1 := by simpa using e1
  exact ⟨ad, cap, rfl, by simpa [Addr.add] using h0, by simpa [Addr.add] using h1⟩
/-- one row: where it lies, and that it reads as its pair -/
theorem rowTwo {w : World} {a : Option Addr} {n cap : Nat} {L : List Jp2} (h : Rows2 w (.slice a n cap) (L.map jpL)) (i : Nat) (hi : i < L.length) :
    ∃ ad ad2 c2, a = some ad ∧ w.cell? (ad.add i) = some (.slice (some ad2) 2 c2) ∧ w.cell? ad2 = some (.int .i64 (atJ L i).1) ∧ w.cell? ⟨ad2.block, ad2.off + 1, none⟩ = some (.int .i64 (atJ L i).2) ∧ Ints w (.slice (some ad2) 2 c2) [(atJ L i).1, (atJ L i).2] := by
  obtain ⟨a', cap', e, hl, hc⟩ := h
  simp only [Value.slice.injEq] at e
  obtain ⟨rfl, _, rfl⟩ := e
  obtain ⟨ad, u, rfl, hcell, hu⟩ := hc i (by simpa using hi)
  have e2 : (L.map jpL).getD i [] = [(atJ L i).1, (atJ L i).2] := by simp [atJ, jpL, hi]
  rw [e2] at hu
  obtain ⟨ad2, c2, rfl, h0, h1⟩ := hu.twoJ
  exact ⟨ad, ad2, c2, rfl, hcell, h0, h1, hu⟩
/-- what a function that answers rows of pairs leaves, as the law reads it -/
theorem rows_of {w0 : World} {fn : FuncId} {args : Array Value} {o : Option (List (List Int))} {L : List Jp2} {t : Bool} (h : Calls Try.prog fn args w0 fun e w' => RowsAns w0 o e w') (hL : o.getD [] = L.map jpL) (ht : o.isSome = t) :
    Calls Try.prog fn args w0 fun e w' => ∃ a c, e = .returned (.tuple #[.slice a L.length c, .bool t]) ∧ Rows2 w' (.slice a L.length c) (L.map jpL) ∧ Later w0 w' :=
  h.mono fun e w' ⟨v, he, ho, hl⟩ => by
    rw [hL] at ho
    obtain ⟨a, c, rfl, _⟩ := ho.shape
    rw [List.length_map] at ho he
    exact ⟨a, c, by rw [he, ht], ho.rows, hl⟩
theorem pair_lit (w : World) (p q : Int) : Ints (w.alloc (.cells #[.int .i64 p, .int .i64 q] 3)) (.slice (some ⟨w.heap.size, 0, none⟩) 2 2) [p, q] := (jm_pair w p q).ints
end Go.Proofs.Ytdahhcigphhfdaa
