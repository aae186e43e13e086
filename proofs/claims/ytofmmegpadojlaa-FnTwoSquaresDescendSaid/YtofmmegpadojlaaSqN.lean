/- All lists of squares with a sum, in the model. -/
import Derived.Test.YtofmmegpadojlaaSqEG
import Derived.Test.YtofmmegpadojlaaRowsKI
import Derived.Deep.AppendLies
import Derived.Laws.AppendOwnNone
import Derived.Deep.RegionHeld3
namespace Go.Proofs.Ytofmmegpadojlaa
open Go.RowKit

theorem grown_later {w W w' : World} {o : Option Nat} (hL : Later w W) (hg : W.grownBy w' o) : w.grownBy w' o :=
  ⟨hg.os.trans hL.os, hg.tape.trans hL.tape, hg.output.trans hL.output, Nat.le_trans hL.size hg.size, fun k hk hne => (hg.block k (Nat.lt_of_lt_of_le hk hL.size) hne).trans (hL.block k hk)⟩
theorem rootN_le {n : Nat} (h : n ≤ 1000000) : rootN n ≤ 1000 := sq_in (rootN_spec n).1 h
theorem Ints.newsN {w : World} {g n c : Nat} {zs : List Int} (h : Ints w (.slice (some ⟨g, 0, none⟩) n c) zs) : ∀ j u, (zs.map (Value.int .i64))[j]? = some u → w.cell? ((⟨g, 0, none⟩ : Addr).add j) = some u := by
  intro j u hj
  obtain ⟨a, cap, hv, _, hc⟩ := h
  simp only [Value.slice.injEq] at hv
  obtain ⟨rfl, _, rfl⟩ := hv
  have hlt : j < zs.length := by
    rcases Nat.lt_or_ge j zs.length with h | h
    · exact h
    · rw [List.getElem?_eq_none (by simpa using h)] at hj; cases hj
  obtain ⟨ad', e, hx⟩ := hc j hlt
  simp only [Option.some.injEq] at e
  subst e
  rw [hx]
  simp [hlt] at hj ⊢
  exact hj
theorem litS9 (w : World) (zs : List Int) (hl : zs.length ≤ 1000) (n : Nat) (hn : n = zs.length) (cs : Array Value) (hc : cs = (zs.map (Value.int .i64)).toArray) : OwnInts w.heap.size (w.alloc (.cells cs 3)).heap.size (w.alloc (.cells cs 3)) (.slice (some ⟨w.heap.size, 0, none⟩) n n) zs := by
  subst hn hc
  have h := World.ownsRow_lit (e := 3) (size := 1) w (zs.map (Value.int .i64)).toArray zs.length (Nat.le_refl _) (by unfold maxLen; omega) (by simp)
  refine ⟨by simpa using h, fun b hb => by simp [Value.ownBlock] at hb ⊢; omega⟩
/-- One step: numbers that are read put behind numbers that the call owns. -/
theorem wpList_catI {ops : Array Oper} {rest : List Oper} {o : Oper} {a : Act} {Q : Exit → Act → World → Prop} (hgd : o.guard = none) (s x : Operand)
    (ho : o.op = .call { callee := .builtin .append, args := #[s, x], argTypes := #[33, 33] }) (lo hi : Nat) (w : World) (v u : Value) (L Z : List Int)
    (hs : a.eval s = v) (hlo : lo ≤ w.heap.size) (hO : OwnInts lo hi w v L) (hlen : L.length + Z.length ≤ 1000000) (hx : a.eval x = u) (hu : OwnInts 0 w.heap.size w u Z)
    (h : ∀ p n c w', OwnInts lo w'.heap.size w' (.slice p n c) (L ++ Z) → w.grownBy w' v.ownBlock → wpList Try.prog ops Q rest (a.put o.dst (.slice p n c)) w') :
    wpList Try.prog ops Q (o :: rest) a w := by
  obtain ⟨i0, hi, hz0, hz1, hz2⟩ := info_parts Try.infoInt
  have hint := hu.ints
  rcases hu.1.2 with ⟨rfl, h0⟩ | ⟨g, cap, cur, rfl, _⟩
  · have hZ : Z = [] := by
      have := hu.1.1; simp at this
      exact List.eq_nil_of_length_eq_zero h0
    subst hZ
    refine wpList_append_own_none hgd s x _ ho lo 3 i0 1 Try.underlying33 hi v _ _ hs hO.1 hx ?_
    obtain ⟨p, c, rfl, _⟩ := ownsRow_shape hO.1
    refine h _ _ _ w ?_ ⟨rfl, rfl, rfl, Nat.le_refl _, fun _ _ _ => rfl⟩
    rw [List.append_nil]
    exact ⟨hO.1, fun b hb => (hO.1.lt b hb).2⟩
  · refine wpList_append_own_at _ hgd s x _ ho lo 3 i0 (.int .i64 0) 1 8 Try.underlying33 hi hz0 hz1 hz2 rfl (by omega) v L.length (L.map (Value.int .i64)) hs hO.1 ⟨g, 0, none⟩ Z.length cap (Z.map (Value.int .i64)) hx (by simp) (hint.newsN) (fun u hu => by obtain ⟨y, _, rfl⟩ := List.mem_map.1 hu; rfl) (by unfold maxLen; omega) (by omega) hlo ?_
    intro v' w' hown hg _ _
    obtain ⟨p, c, rfl, _⟩ := ownsRow_shape hown
    exact h _ _ _ w' (OwnInts.ofH hown (by simp)) hg
theorem ownI_len {lo hi : Nat} {w : World} {p : Option Addr} {n c : Nat} {zs : List Int} (h : OwnInts lo hi w (.slice p n c) zs) : n = zs.length := by
  obtain ⟨q, d, e, _⟩ := ownsRow_shape h.1
  simp only [Value.slice.injEq] at e
  exact e.2.1
/-- One step: a row put behind rows that the call owns. -/
theorem wpList_pushR {ops : Array Oper} {rest : List Oper} {o : Oper} {a : Act} {Q : Exit → Act → World → Prop} (hgd : o.guard = none) (s x : Operand)
    (ho : o.op = .call { callee := .builtin .append, args := #[s, x], argTypes := #[25, 25] }) (lo h0 : Nat) (w W : World) (v : Value) (p : Option Addr) (n c : Nat) (L : List (List Int)) (r : List Int)
    (hs : a.eval s = v) (hlo : lo ≤ h0) (h0w : h0 ≤ w.heap.size) (hO : OwnRows lo h0 w v L) (hu : OwnInts h0 w.heap.size w (.slice p n c) r) (hlen : L.length ≤ 1000000) (hx : a.eval x = .slice (some ⟨w.heap.size, 0, none⟩) 1 1)
    (hW : W = w.alloc (.cells #[.slice p n c] 33))
    (h : ∀ g cap w', OwnRows lo w'.heap.size w' (.slice (some ⟨g, 0, none⟩) (L.length + 1) cap) (L ++ [r]) → w.grownBy w' v.ownBlock → (v.ownBlock = some g ∨ w.heap.size ≤ g) → wpList Try.prog ops Q rest (a.put o.dst (.slice (some ⟨g, 0, none⟩) (L.length + 1) cap)) w') :
    wpList Try.prog ops Q (o :: rest) a W := by
  obtain ⟨i0, hi, hz0, hz1, hz2⟩ := info_parts Try.infoInts
  have hA := Later.alloc w (.cells #[.slice p n c] 33)
  obtain ⟨us, hul, hus, hub, hin, hdis⟩ := hO.partsH
  have hown4 := hus.alloc (.cells #[.slice p n c] 33)
  have hnew := World.news_of_block (cs := #[.slice p n c]) (t := 33) (fr := (0, 0)) (heap_alloc_new w (.cells #[.slice p n c] 33))
  subst hW
  refine wpList_append_lies _ hgd s x _ ho lo 33 i0 (.slice none 0 0) 1 24 Try.underlying25 hi hz0 hz1 hz2 rfl (by omega) v us.length us hs hown4 ⟨w.heap.size, 0, none⟩ 1 1 [.slice p n c] hx rfl hnew (by simp [Value.oneCell']) (by omega) (by unfold maxLen; omega) (by omega) (by simp; omega) (w.heap.size + 1) (by simp) ?_
  intro g' cap1 w7 hown7 hgrow hat hglt
  have HP := OwnRows.pushed hul hown4 (fun i hi => ((hin i hi).later hA)) hdis ((hu.later hA).wide (Nat.le_refl _) (by simp)) hlo hown7 hgrow
  rw [hul] at HP ⊢
  refine h g' cap1 w7 HP (grown_later hA hgrow) ?_
  rcases hat with e | e
  · exact .inl e
  · exact .inr (by omega)

theorem lp_stop {α : Type} {stop : Nat → Bool} {f : Nat → List α} {x : Nat} (h : stop x = true) : Sq.lp stop f x = [] := by
  cases x <;> (unfold Sq.lp; rw [if_pos h])
/-- What is left when the next number is y - 1. -/
def lpY {α : Type} (stop : Nat → Bool) (f : Nat → List α) : Nat → List α
  | 0 => []
  | y + 1 => Sq.lp stop f y
theorem lpY_go {α : Type} {stop : Nat → Bool} {f : Nat → List α} {y : Nat} (h : stop y = false) : lpY stop f (y + 1) = f y ++ lpY stop f y := by
  cases y with
  | zero => show Sq.lp stop f 0 = _; unfold Sq.lp; rw [if_neg (by simp [h])]; simp [lpY]
  | succ y => show Sq.lp stop f (y + 1) = _; unfold Sq.lp; rw [if_neg (by simp [h])]; rfl
def sqStop (k n : Nat) (x : Nat) : Bool := decide ((k + 1) * x * x < n)
def sqF (k n : Nat) (x : Nat) : List (List Int) := (Sq.sqL k (n - x * x) x).map ((x : Int) :: ·)
theorem sqL_succ (k n most : Nat) : Sq.sqL (k + 1) n most = lpY (sqStop k n) (sqF k n) (min most (rootN n) + 1) := rfl
theorem take_step {α : Type} (E f r : List α) (m : Nat) : E ++ f.take (m - E.length) ++ r.take (m - (E ++ f.take (m - E.length)).length) = E ++ (f ++ r).take (m - E.length) := by
  rw [List.append_assoc, List.take_append, List.length_append, List.length_take]
  congr 2
  congr 1
  omega
theorem minI9 (a b : Nat) : leastI (a : Int) (b : Int) = ((min a b : Nat) : Int) := by unfold leastI; split <;> omega
theorem OwnRows.len_le {lo hi : Nat} {w : World} {v : Value} {L : List (List Int)} (h : OwnRows lo hi w v L) : ∃ p c, v = .slice p L.length c := by
  obtain ⟨us, hul, hus, _⟩ := h.partsH
  obtain ⟨p, c, rfl, _⟩ := ownsRow_shape hus
  exact ⟨p, c, by rw [hul]⟩
set_option maxRecDepth 20000 in
set_option maxHeartbeats 4000000 in
theorem sqAll_any : ∀ (k n most many : Nat) (w : World), k ≤ 4 → n ≤ 1000000 → most ≤ 1000000 → 1 ≤ many → many ≤ 1000000 →
    Calls Try.prog 82 #[.int .i64 n, .int .i64 k, .int .i64 most, .int .i64 many] w fun e w' => MadeRows w ((Sq.sqL k n most).take many) e w' := by
  intro k
  induction k with
  | zero =>
    intro n most many w _ hn hm h1 h6
    by_cases h0 : n = 0
    · subst h0
      have HA := hid (show (Sq.sqL 0 0 most).take many = [[]] by
        obtain ⟨m, rfl⟩ : ∃ m, many = m + 1 := ⟨many - 1, by omega⟩
        unfold Sq.sqL; rw [if_pos rfl]; simp)
      have HO := hid (OwnRows.oneH (lo := w.heap.size) (w := w) (u := .slice none 0 0) (r := []) (Nat.le_refl _) ⟨World.ownsRow_nil _ _ _ _, fun b hb => by simp [Value.ownBlock] at hb⟩)
      go_enter Try.func82, Try.ntmps82
      go_wp2_with fail
      go_ret
      rw [HA.out]
      exact ⟨_, rfl, HO.out.wide (Nat.le_refl _) (by simp), Later.alloc _ _⟩
    · have hb : ((n : Int) == 0) = false := by simp [h0]
      have HA := hid (show (Sq.sqL 0 n most).take many = [] by unfold Sq.sqL; rw [if_neg h0]; simp)
      go_enter Try.func82, Try.ntmps82
      go_wp2_with fail
      go_ret
      rw [HA.out]
      exact ⟨_, rfl, OwnRows.noneH _ _ _, Later.refl _⟩
  | succ k ih =>
    intro n most many w hk4 hn hm h1 h6
    obtain ⟨K, hK⟩ : ∃ K : Nat, K = k + 1 := ⟨_, rfl⟩
    rw [sqL_succ]
    obtain ⟨X, hX⟩ : ∃ X, min most (rootN n) = X := ⟨_, rfl⟩
    have hrn := rootN_le hn
    have hX3 : X ≤ 1000 := by omega
    have HXR := hid (show X * X ≤ n by
      have := Nat.mul_le_mul (show X ≤ rootN n by omega) (show X ≤ rootN n by omega)
      have := (rootN_spec n).1; omega)
    have HX := hid hX
    rw [hX, ← hK]
    have HIH := hid (fun m x q w (h1 : m ≤ 1000000) (h2 : x ≤ 1000000) (h3 : 1 ≤ q) (h4 : q ≤ 1000000) => ih m x q w (by omega) h1 h2 h3 h4)
    have hK0 : ((K : Int) == 0) = false := by simp; omega
    have hK1 : (K : Int) - 1 = (k : Int) := by omega
    have hK4 : K ≤ 4 := by omega
    have HK := hid hK
    obtain ⟨T, hT⟩ : ∃ T, (lpY (sqStop k n) (sqF k n) (X + 1)).take many = T := ⟨_, rfl⟩
    rw [hT]
    have HT := hid hT
    clear ih hX hT hK hrn hk4
    go_enter Try.func82, Try.ntmps82
    go_wp2_with (first
      | (go_at_call 123; refine (foRoot_any n _ (by omega)).mono ?_; rintro e w2 ⟨rfl, rfl⟩)
      | (go_at_call 113; refine (l1Least_any most (rootN n) _).mono ?_; rintro e w2 ⟨rfl, rfl⟩; rw [minI9, HX.out]))
    go_loopw [9, 10] (fun o x wr => ∃ (y : Nat) (E : List (List Int)), y ≤ X + 1 ∧ x = .int .i64 ((y : Int) - 1) ∧ OwnRows w.heap.size wr.heap.size wr o E ∧ E ++ (lpY (sqStop k n) (sqF k n) y).take (many - E.length) = T ∧ Later w wr) (fun _ x _ => (intOf x + 1).toNat)
    case atStart => exact ⟨X + 1, [], Nat.le_refl _, by simp, OwnRows.noneH _ _ _, by simpa using HT.out, Later.refl w⟩
    case round =>
      obtain ⟨y, E, hy, rfl, hO, hE, hL⟩ := hrel
      obtain ⟨p, c, rfl⟩ := hO.len_le
      have HO := hid hO
      have HL := hid hL
      have HE := hid hE
      clear hO hE hL
      by_cases h0 : y = 0
      · subst h0
        have HN := hid (show E = T by rw [← HE.out]; simp [lpY])
        go_wp2_with fail
        go_ret
        exact ⟨_, rfl, by rw [← HN.out]; exact HO.out, HL.out⟩
      · obtain ⟨x, rfl⟩ : ∃ x, y = x + 1 := ⟨y - 1, by omega⟩
        rw [show ((x + 1 : Nat) : Int) - 1 = (x : Int) by omega]
        have hxX : x ≤ X := by omega
        have hxx : 0 ≤ (x : Int) * (x : Int) ∧ (x : Int) * (x : Int) ≤ 1000000 := by
          have := Nat.mul_le_mul (show x ≤ 1000 by omega) (show x ≤ 1000 by omega)
          rw [← Int.natCast_mul]; omega
        have hkx : 0 ≤ (K : Int) * (x : Int) ∧ (K : Int) * (x : Int) ≤ 4000 := by
          have := Nat.mul_le_mul hK4 (show x ≤ 1000 by omega)
          rw [← Int.natCast_mul]; omega
        have hkxx : 0 ≤ (K : Int) * (x : Int) * (x : Int) ∧ (K : Int) * (x : Int) * (x : Int) ≤ 4000000 := by
          have := Nat.mul_le_mul (Nat.mul_le_mul hK4 (show x ≤ 1000 by omega)) (show x ≤ 1000 by omega)
          rw [← Int.natCast_mul, ← Int.natCast_mul]; omega
        by_cases hst : (n : Int) ≤ (K : Int) * (x : Int) * (x : Int)
        · have HST := hid (show sqStop k n x = false from decide_eq_false (by
            rw [← Int.natCast_mul, ← Int.natCast_mul] at hst
            rw [← HK.out]; omega))
          by_cases hlm : (E.length : Int) < (many : Int)
          · have hle : x * x ≤ n := by
              have h1 := Nat.mul_le_mul hxX hxX
              have h2 := HXR.out
              omega
            obtain ⟨m, hm⟩ : ∃ m, n - x * x = m := ⟨_, rfl⟩
            have hnx : (n : Int) - (x : Int) * (x : Int) = (m : Int) := by rw [← Int.natCast_mul]; omega
            obtain ⟨q, hq⟩ : ∃ q, many - E.length = q := ⟨_, rfl⟩
            have hmq : (many : Int) - (E.length : Int) = (q : Int) := by omega
            have HC := hid (fun w => HIH.out m x q w (by omega) (by omega) (by omega) (by omega))
            obtain ⟨F, hF⟩ : ∃ F, (Sq.sqL k m x).take q = F := ⟨_, rfl⟩
            have hFq : F.length ≤ q := by rw [← hF, List.length_take]; omega
            have HN := hid (show E ++ F.map ((x : Int) :: ·) ++ (lpY (sqStop k n) (sqF k n) x).take (many - (E ++ F.map ((x : Int) :: ·)).length) = T by
              rw [← HE.out, lpY_go HST.out, ← take_step, hq]
              have : F.map ((x : Int) :: ·) = (sqF k n x).take q := by rw [← hF]; unfold sqF; rw [hm, List.map_take]
              rw [this])
            have HFZ := hid (show ∀ r ∈ F, r.length = k from fun r hr => by rw [← hF] at hr; exact (Sq.sqL_mem k m x r (List.mem_of_mem_take hr)).1)
            have HFk := hid (show k ≤ 4 by omega)
            rw [hF] at HC
            have hEF : E.length + F.length ≤ 1000000 := by omega
            clear hF hm hq hle
            go_wp2_with (go_at_call 82; refine (HC.out _).mono ?_; rintro e w5 ⟨v5, rfl, hO5, hL5⟩; obtain ⟨p5, c5, rfl⟩ := hO5.len_le)
            obtain ⟨lo5, hlo5⟩ : ∃ s, wr.heap.size = s := ⟨_, rfl⟩
            obtain ⟨hi5, hhi5⟩ : ∃ s, w5.heap.size = s := ⟨_, rfl⟩
            have HO6 := hid ((HO.out.later hL5).wide (Nat.le_refl _) hL5.size)
            have HS5 := hid hL5.size
            have HB5 := hid (show ∀ b, (Value.slice p E.length c).ownBlock = some b → b < lo5 from fun b hb => by obtain ⟨us, _, _, hb2, _⟩ := HO.out.partsH; rw [← hlo5]; exact hb2 b hb)
            have HL5 := hid (HL.out.trans hL5)
            rw [hlo5, hhi5] at hO5 HS5
            have HO5 := hid hO5
            have HI5 := hid (show hi5 ≤ w5.heap.size by omega)
            clear hO5 hL5 hlo5 hhi5
            go_loopw [9, 55] (fun o i wj => ∃ j : Nat, j ≤ F.length ∧ i = .int .i64 j ∧ OwnRows w.heap.size wj.heap.size wj o (E ++ (F.take j).map ((x : Int) :: ·)) ∧ OwnRows lo5 hi5 wj (.slice p5 F.length c5) F ∧ (∀ b, o.ownBlock = some b → b < lo5 ∨ hi5 ≤ b) ∧ Later w wj ∧ hi5 ≤ wj.heap.size) (fun _ i _ => F.length - (intOf i).toNat)
            case atStart => exact ⟨0, Nat.zero_le _, rfl, by simpa using HO6.out, HO5.out, fun b hb => .inl (HB5.out b hb), HL5.out, HI5.out⟩
            case round =>
              obtain ⟨j, hj, rfl, hOj, hFj, hbj, hLj, hL5j⟩ := hrel
              have HOj := hid hOj
              have HFj := hid hFj
              have HBj := hid hbj
              have HLj := hid hLj
              clear hOj hFj hbj hLj
              by_cases hlt : (j : Int) < (F.length : Int)
              · have hjF : j < F.length := by omega
                obtain ⟨us, hul, hus, _, hin, _⟩ := HFj.out.partsH
                obtain ⟨p6, c6, e6, _, _, _, hcell⟩ := ownsRow_shape hus
                obtain ⟨g5, e5, hc5⟩ := hcell j (by omega)
                have HU := hid (hin j hjF)
                have hcj : wr.cell? ⟨g5, j, none⟩ = some (us.getD j undef) := by rw [hc5]; simp [hul, hjF]
                simp only [Value.slice.injEq] at e6
                obtain ⟨rfl, e62, rfl⟩ := e6
                clear e62
                obtain rfl := e5
                obtain ⟨r, hr⟩ : ∃ r, F[j] = r := ⟨_, rfl⟩
                have hrl : r.length ≤ 4 := by rw [← hr, HFZ.out _ (List.getElem_mem hjF)]; exact HFk.out
                rw [show F.getD j [] = r by rw [← hr]; simp [hjF]] at HU
                have HTK := hid (show E ++ (F.take (j + 1)).map ((x : Int) :: ·) = E ++ (F.take j).map ((x : Int) :: ·) ++ [(x : Int) :: r] by rw [take_snoc F j hjF, hr]; simp)
                have htl : (E ++ (F.take j).map ((x : Int) :: ·)).length = E.length + j := by simp; omega
                obtain ⟨D, hD⟩ : ∃ D, E ++ (F.take j).map ((x : Int) :: ·) = D := ⟨_, rfl⟩
                rw [hD] at HOj HTK htl
                have HLIT := hid (show OwnInts wr.heap.size (wr.heap.size + 1) (wr.alloc (.cells #[.int .i64 (x : Int)] 3)) (.slice (some ⟨wr.heap.size, 0, none⟩) 1 1) [(x : Int)] by
                  have := litS9 wr [(x : Int)] (by simp) 1 rfl #[.int .i64 (x : Int)] rfl
                  rw [World.size_alloc] at this; exact this)
                have HSA := hid (show wr.heap.size ≤ (wr.alloc (.cells #[.int .i64 (x : Int)] 3)).heap.size by simp)
                obtain ⟨u, hu⟩ : ∃ u, us.getD j undef = u := ⟨_, rfl⟩
                rw [hu] at HU hcj
                have HU2 := hid (show OwnInts 0 (wr.alloc (.cells #[.int .i64 (x : Int)] 3)).heap.size (wr.alloc (.cells #[.int .i64 (x : Int)] 3)) u r from (HU.out.later (Later.alloc _ _)).wide (Nat.zero_le _) (Nat.le_trans hL5j HSA.out))
                have HLR := hid (show [(x : Int)].length + r.length ≤ 1000000 by rw [List.length_singleton]; omega)
                clear hr hin hus hcell hc5 hul hu hD
                obtain ⟨pd, cd, rfl⟩ := HOj.out.len_le
                go_wp2_with (at_builtin; refine wpList_catI (by rfl) _ _ (by rfl) wr.heap.size (wr.heap.size + 1) _ _ u [(x : Int)] r (by rfl) HSA.out HLIT.out HLR.out (by rfl) HU2.out ?_)
                intro p7 n7 c7 w7 hO7 hG7
                have HL7 := hid (show Later wr w7 from (Later.alloc wr _).grown hG7 (Later.alloc wr _).size (fun b hb => by simp [Value.ownBlock] at hb; omega))
                have HO7 := hid hO7
                have HOd := hid (show OwnRows w.heap.size wr.heap.size w7 (.slice pd (E.length + j) cd) D by rw [← htl]; exact HOj.out.later HL7.out)
                have HLD := hid (show D.length ≤ 1000000 by omega)
                clear hO7 hG7
                go_wp2_with (at_builtin; refine wpList_pushR (by rfl) _ _ (by rfl) w.heap.size wr.heap.size w7 _ _ p7 n7 c7 D ((x : Int) :: r) (by rfl) HLj.out.size HL7.out.size HOd.out HO7.out HLD.out (by rfl) rfl ?_)
                intro g8 c8 w8 hO8 hG8 hg8
                have HO8 := hid hO8
                rw [HTK.out.symm] at HO8
                have HB8 := hid (show ∀ b, (Value.slice (some ⟨g8, 0, none⟩) (D.length + 1) c8).ownBlock = some b → b < lo5 ∨ hi5 ≤ b from fun b hb => by
                  have hb' : g8 = b := by simpa [Value.ownBlock] using hb
                  subst hb'
                  rcases hg8 with h | h
                  · exact HBj.out _ (by rw [htl]; exact h)
                  · exact .inr (Nat.le_trans hL5j (Nat.le_trans HL7.out.size h)))
                have HF8 := hid ((HFj.out.later HL7.out).keep (w' := w8) fun b h1 h2 => hG8.block b (Nat.lt_of_lt_of_le h2 (Nat.le_trans hL5j HL7.out.size)) fun e => by
                  rcases HBj.out b (by rw [htl]; exact e.symm) with h | h <;> omega)
                have HL8 := hid (show Later w w8 from (HLj.out.trans HL7.out).grown hG8 (HLj.out.trans HL7.out).size (fun b hb => by
                  obtain ⟨us, _, hus, _⟩ := HOd.out.partsH
                  exact (hus.lt b hb).1))
                have HS8 := hid (Nat.le_trans hL5j (Nat.le_trans HL7.out.size hG8.size))
                clear hO8 hG8 hg8
                go_wp2_with fail
                go_roundw
                case rel =>
                  exact ⟨j + 1, hjF, by go_num, HO8.out, HF8.out, (by first | exact HB8.out | (rw [htl] at HB8; exact HB8.out)), HL8.out, HS8.out⟩
                case measure => simp [intOf]; omega
              · have hje : j = F.length := by omega
                have HOe := hid (show OwnRows w.heap.size wr.heap.size wr _ (E ++ F.map ((x : Int) :: ·)) by rw [← List.take_length (l := F), ← hje]; exact HOj.out)
                go_wp2_with fail
                go_roundw
                case rel => exact ⟨x, E ++ F.map ((x : Int) :: ·), by omega, by go_num, HOe.out, HN.out, HLj.out⟩
                case measure => simp [intOf]
          · have HN := hid (show E = T by rw [← HE.out, show many - E.length = 0 by omega]; simp)
            have hlm' : decide ((E.length : Int) < (many : Int)) = false := decide_eq_false hlm
            go_wp2_with fail
            go_ret
            exact ⟨_, rfl, by rw [← HN.out]; exact HO.out, HL.out⟩
        · have hst' : decide ((n : Int) ≤ (K : Int) * (x : Int) * (x : Int)) = false := decide_eq_false hst
          have HN := hid (show E = T by
            rw [← HE.out]
            have : lpY (sqStop k n) (sqF k n) (x + 1) = [] := lp_stop (decide_eq_true (by
              rw [← Int.natCast_mul, ← Int.natCast_mul] at hst
              rw [← HK.out]; omega))
            rw [this]; simp)
          go_wp2_with fail
          go_ret
          exact ⟨_, rfl, by rw [← HN.out]; exact HO.out, HL.out⟩
end Go.Proofs.Ytofmmegpadojlaa
