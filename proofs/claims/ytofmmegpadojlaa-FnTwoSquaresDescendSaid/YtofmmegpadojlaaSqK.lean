/- The divisors of a number in pairs (the program), and sums over divisors. -/
import Derived.Test.YtofmmegpadojlaaSqEG
import Derived.Test.YtofmmegpadojlaaRowsKI
import Derived.Deep.AppendLies
namespace Go.Proofs.Ytofmmegpadojlaa
open Go.RowKit

/-- One step: a number put behind numbers that the call owns. -/
theorem wpList_push1 {ops : Array Oper} {rest : List Oper} {o : Oper} {a : Act} {Q : Exit → Act → World → Prop} (hgd : o.guard = none) (s x : Operand)
    (ho : o.op = .call { callee := .builtin .append, args := #[s, x], argTypes := #[33, 33] }) (lo : Nat) (w W : World) (v : Value) (L : List Int) (p : Int)
    (hs : a.eval s = v) (hlo : lo ≤ w.heap.size) (hO : OwnInts lo w.heap.size w v L) (hlen : L.length ≤ 1000000) (hx : a.eval x = .slice (some ⟨w.heap.size, 0, none⟩) 1 1)
    (hW : W = w.alloc (.cells #[.int .i64 p] 3))
    (h : ∀ g cap w', OwnInts lo w'.heap.size w' (.slice (some ⟨g, 0, none⟩) (L.length + 1) cap) (L ++ [p]) → w.grownBy w' v.ownBlock → lo ≤ g → wpList Try.prog ops Q rest (a.put o.dst (.slice (some ⟨g, 0, none⟩) (L.length + 1) cap)) w') :
    wpList Try.prog ops Q (o :: rest) a W := by
  obtain ⟨i0, hi, hz0, hz1, hz2⟩ := info_parts Try.infoInt
  have hA := Later.alloc w (.cells #[.int .i64 p] 3)
  have hown4 := hO.1.alloc (.cells #[.int .i64 p] 3)
  have hnew := World.news_of_block (cs := #[.int .i64 p]) (t := 3) (fr := (0, 0)) (heap_alloc_new w (.cells #[.int .i64 p] 3))
  subst hW
  refine wpList_append_lies _ hgd s x _ ho lo 3 i0 (.int .i64 0) 1 8 Try.underlying33 hi hz0 hz1 hz2 rfl (by omega) v L.length (L.map (Value.int .i64)) hs hown4 ⟨w.heap.size, 0, none⟩ 1 1 [.int .i64 p] hx rfl hnew (by simp [Value.oneCell']) (by omega) (by unfold maxLen; omega) (by omega) (by simp; omega) (w.heap.size + 1) (by simp) ?_
  intro g' cap1 w7 hown7 hgrow hat hglt
  have hlg : lo ≤ g' := by
    rcases hat with e | e
    · exact (hown4.lt g' e).1
    · omega
  refine h g' cap1 w7 (OwnInts.ofH hown7 (by simp)) ?_ hlg
  exact ⟨hgrow.os.trans hA.os, hgrow.tape.trans hA.tape, hgrow.output.trans hA.output, Nat.le_trans hA.size hgrow.size, fun k hk hne => (hgrow.block k (Nat.lt_of_lt_of_le hk hA.size) hne).trans (hA.block k hk)⟩
theorem ownInts_nil9 (lo hi : Nat) (w : World) : OwnInts lo hi w (.slice none 0 0) [] := ⟨World.ownsRow_nil _ _ _ _, fun b hb => by simp [Value.ownBlock] at hb⟩
theorem divL_len (n : Nat) : ∀ k, (Sq.divL n k).length ≤ 2 * k := by
  intro k
  induction k with
  | zero => simp [Sq.divL]
  | succ k ih =>
    unfold Sq.divL
    rw [List.length_append]
    split
    · split <;> simp <;> omega
    · simp; omega
theorem divL_no {n k : Nat} (h : ¬ n % (k + 1) = 0) : Sq.divL n (k + 1) = Sq.divL n k := by
  conv => lhs; unfold Sq.divL
  rw [if_neg h, List.append_nil]
theorem divL_one {n k : Nat} (h : n % (k + 1) = 0) (h2 : ¬ (k + 1) * (k + 1) < n) : Sq.divL n (k + 1) = Sq.divL n k ++ [k + 1] := by
  conv => lhs; unfold Sq.divL
  rw [if_pos h, if_neg h2]
theorem divL_two {n k : Nat} (h : n % (k + 1) = 0) (h2 : (k + 1) * (k + 1) < n) : Sq.divL n (k + 1) = Sq.divL n k ++ [k + 1] ++ [n / (k + 1)] := by
  conv => lhs; unfold Sq.divL
  rw [if_pos h, if_pos h2]; simp
theorem ofNats_snoc (l : List Nat) (x : Nat) : ofNats (l ++ [x]) = ofNats l ++ [(x : Int)] := by simp [ofNats]
theorem rootN_le {n : Nat} (h : n ≤ 1000000) : rootN n ≤ 1000 := sq_in (rootN_spec n).1 h
set_option maxRecDepth 20000 in
set_option maxHeartbeats 2000000 in
theorem divisorsOf_any (N : Nat) (w : World) (hN1 : 1 ≤ N) (hN6 : N ≤ 1000000) :
    Calls Try.prog 90 #[.int .i64 N] w fun e w' => MadeInts w (ofNats (Sq.divL N (rootN N))) e w' := by
  obtain ⟨r, hr⟩ : ∃ r, rootN N = r := ⟨_, rfl⟩
  have hr3 : r ≤ 1000 := by rw [← hr]; exact rootN_le hN6
  have HR1 := hid (show r * r ≤ N by rw [← hr]; exact (rootN_spec N).1)
  have HR2 := hid (show N < (r + 1) * (r + 1) by rw [← hr]; exact (rootN_spec N).2)
  rw [hr]
  clear hr
  go_enter Try.func90, Try.ntmps90
  go_wp2_with fail
  go_loopw [3, 4] (fun o i wr => ∃ k : Nat, k ≤ r ∧ i = .int .i64 ((k : Int) + 1) ∧ OwnInts w.heap.size wr.heap.size wr o (ofNats (Sq.divL N k)) ∧ Later w wr) (fun _ i _ => r + 2 - (intOf i).toNat)
  case atStart => exact ⟨0, Nat.zero_le _, rfl, ownInts_nil9 _ _ _, Later.refl w⟩
  case round =>
    obtain ⟨k, hk, rfl, hO, hL⟩ := hrel
    have HO := hid hO
    have HL := hid hL
    have hll : (ofNats (Sq.divL N k)).length ≤ 2 * k := by unfold ofNats; rw [List.length_map]; exact divL_len N k
    clear hO hL
    obtain ⟨d, hd⟩ : ∃ d : Nat, d = k + 1 := ⟨_, rfl⟩
    have hdI : (k : Int) + 1 = (d : Int) := by omega
    rw [hdI]
    have HD := hid hd
    have hdr : d ≤ r + 1 := by omega
    clear hdI
    have hdd : 0 ≤ (d : Int) * (d : Int) ∧ (d : Int) * (d : Int) ≤ 1002001 := by
      have := Nat.mul_le_mul (show d ≤ 1001 by omega) (show d ≤ 1001 by omega)
      rw [← Int.natCast_mul]; omega
    have hz : ¬ (d : Int) = 0 := by omega
    clear hd
    by_cases hle : (d : Int) * (d : Int) ≤ (N : Int)
    · have HLE := hid (show d * d ≤ N by rw [← Int.natCast_mul] at hle; omega)
      have hkr : k < r := by
        have hd := HD.out
        refine Nat.not_le.1 fun h => ?_
        have h1 := Nat.mul_le_mul (show r + 1 ≤ d by omega) (show r + 1 ≤ d by omega)
        have h2 := HR2.out
        have h3 := HLE.out
        omega
      obtain ⟨t, ht⟩ : ∃ t : Nat, N % d = t := ⟨_, rfl⟩
      have q1 := tmodN N d
      rw [ht] at q1
      by_cases h0 : t = 0
      · have hb : ((t : Int) != 0) = false := by simp [h0]
        have HT := hid (show N % (k + 1) = 0 by rw [← HD.out, ht, h0])
        obtain ⟨q, hq⟩ : ∃ q : Nat, N / d = q := ⟨_, rfl⟩
        have q2 := tdivN N d
        rw [hq] at q2
        have q3 : (N : Int) / (d : Int) = (q : Int) := by rw [← hq]; exact (Int.natCast_ediv N d).symm
        have hqN : q ≤ N := by rw [← hq]; exact Nat.div_le_self N d
        have HQ := hid hq
        have hqw : IntKind.i64.wrap (q : Int) = q := by rw [IntWalk.i64_left]; exact IntWalk.wrap64_in _ (by omega)
        have HIN := hid (show IntKind.i64.wrap (d : Int) = d by rw [IntWalk.i64_left]; exact IntWalk.wrap64_in _ (by omega))
        obtain ⟨Z, hZ⟩ : ∃ Z, ofNats (Sq.divL N k) = Z := ⟨_, rfl⟩
        have HZ := hid hZ
        rw [hZ] at HO hll
        have HLN := hid (show Z.length ≤ 1000000 by omega)
        have HLN2 := hid (show (Z ++ [(d : Int)]).length ≤ 1000000 by rw [List.length_append, List.length_singleton]; omega)
        have HLE2 := hid (show (Z ++ [(d : Int)]).length = Z.length + 1 by simp)
        clear ht hq hZ h0
        by_cases hlt : (d : Int) * (d : Int) < (N : Int)
        · have HS := hid (show Z ++ [(d : Int)] ++ [(q : Int)] = ofNats (Sq.divL N (k + 1)) by
            rw [divL_two HT.out (by rw [← HD.out]; rw [← Int.natCast_mul] at hlt; omega), ofNats_snoc, ofNats_snoc, HZ.out, ← HD.out, HQ.out])
          go_wp2_with (at_builtin; refine wpList_push1 (by rfl) _ _ (by rfl) w.heap.size wr _ _ Z d (by rfl) HL.out.size HO.out HLN.out (by rfl) rfl ?_)
          intro g cap w2 hO2 hG2 hg2
          have HO2 := hid hO2
          have HL2 := hid (show Later w w2 from HL.out.grown hG2 HL.out.size (fun b hb => (HO.out.1.lt b hb).1))
          have HG2 := hid hg2
          clear hO2 hG2 hg2
          rw [← HLE2.out] at HO2 ⊢
          go_wp2_with (at_builtin; refine wpList_push1 (by rfl) _ _ (by rfl) w.heap.size w2 _ _ (Z ++ [(d : Int)]) q (by rfl) HL2.out.size HO2.out HLN2.out (by rfl) rfl ?_)
          intro g3 cap3 w3 hO3 hG3 hg3
          have HO3 := hid (show OwnInts w.heap.size w3.heap.size w3 (.slice (some ⟨g3, 0, none⟩) (Z.length + 1 + 1) cap3) (ofNats (Sq.divL N (k + 1))) by rw [← HS.out, List.append_assoc]; exact hO3)
          have HL3 := hid (show Later w w3 from HL2.out.grown hG3 HL2.out.size (fun b hb => (HO2.out.1.lt b hb).1))
          clear hO3 hG3 hg3
          go_wp2_with fail
          go_roundw
          case rel => exact ⟨k + 1, hkr, (by show Value.int .i64 ((d : Int) + 1) = Value.int .i64 (((k + 1 : Nat) : Int) + 1); rw [HD.out]), HO3.out, HL3.out⟩
          case measure => have := HD.out; simp [intOf]; omega
        · have HS := hid (show Z ++ [(d : Int)] = ofNats (Sq.divL N (k + 1)) by
            rw [divL_one HT.out (by rw [← HD.out]; rw [← Int.natCast_mul] at hlt; omega), ofNats_snoc, HZ.out, ← HD.out])
          go_wp2_with (at_builtin; refine wpList_push1 (by rfl) _ _ (by rfl) w.heap.size wr _ _ Z d (by rfl) HL.out.size HO.out HLN.out (by rfl) rfl ?_)
          intro g cap w2 hO2 hG2 hg2
          have HO2 := hid (show OwnInts w.heap.size w2.heap.size w2 (.slice (some ⟨g, 0, none⟩) (Z.length + 1) cap) (ofNats (Sq.divL N (k + 1))) by rw [← HS.out]; exact hO2)
          have HL2 := hid (show Later w w2 from HL.out.grown hG2 HL.out.size (fun b hb => (HO.out.1.lt b hb).1))
          clear hO2 hG2 hg2
          go_wp2_with fail
          go_roundw
          case rel => exact ⟨k + 1, hkr, (by show Value.int .i64 ((d : Int) + 1) = Value.int .i64 (((k + 1 : Nat) : Int) + 1); rw [HD.out]), HO2.out, HL2.out⟩
          case measure => have := HD.out; simp [intOf]; omega
      · have hb : ((t : Int) != 0) = true := by simp [h0]
        have HS := hid (show Sq.divL N k = Sq.divL N (k + 1) from (divL_no (by rw [← HD.out, ht]; exact h0)).symm)
        go_wp2_with fail
        go_roundw
        case rel => exact ⟨k + 1, hkr, (by show Value.int .i64 ((d : Int) + 1) = Value.int .i64 (((k + 1 : Nat) : Int) + 1); rw [HD.out]), by rw [← HS.out]; exact HO.out, HL.out⟩
        case measure => have := HD.out; simp [intOf]; omega
    · have hkr : k = r := by
        have hd := HD.out
        refine Nat.le_antisymm hk (Nat.not_lt.1 fun h => ?_)
        have h1 := Nat.mul_le_mul (show d ≤ r by omega) (show d ≤ r by omega)
        have h2 := HR1.out
        rw [← Int.natCast_mul] at hle
        omega
      go_wp2_with fail
      go_ret
      rw [← hkr]
      exact ⟨_, rfl, HO.out, HL.out⟩
end Go.Proofs.Ytofmmegpadojlaa
