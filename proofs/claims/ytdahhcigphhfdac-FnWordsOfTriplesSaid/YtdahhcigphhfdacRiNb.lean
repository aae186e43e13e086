/- Words of ranks: both functions. -/
import Derived.Test.YtdahhcigphhfdacRiNa
import Derived.Test.YtdahhcigphhfdacRevI
import Derived.Test.YtdahhcigphhfdacRowsKI
import Derived.Deep.AppendLies
namespace Go.Proofs.Ytdahhcigphhfdac
open Go.RowKit

def wrAns (r : Int) : Option (List Int) := if 0 ≤ r ∧ r < 581130733 then some (digF 41 r.toNat).reverse else none
theorem short42 : shortN 42 = 54709494565756179604 := by decide
theorem dig_len {r n : Nat} (h1 : shortN n ≤ r) (h2 : r < shortN (n + 1)) (hn : n ≤ 41) : digF 41 r = lowL n (r - shortN n) := by
  have := dig_low n 41 (r - shortN n) (rank_rest h1 h2) hn
  rw [show shortN n + (r - shortN n) = r by omega] at this
  exact this
theorem rank_n {r : Nat} (hr : r < shortN 42) : ∃ n, n ≤ 41 ∧ shortN n ≤ r ∧ r < shortN (n + 1) := by
  obtain ⟨n, h1, h2⟩ := short_at r
  refine ⟨n, ?_, h1, h2⟩
  apply Nat.le_of_not_gt
  intro h
  have := short_le (show 42 ≤ n by omega)
  omega
theorem dig_long {r : Nat} (hr : r < shortN 42) : (18 < (digF 41 r).length) ↔ 581130733 ≤ r := by
  obtain ⟨n, hn, h1, h2⟩ := rank_n hr
  rw [dig_len h1 h2 hn, lowL_len]
  constructor
  · intro h
    have := short_le (show 19 ≤ n by omega)
    rw [short19] at this
    omega
  · intro h
    apply Nat.lt_of_not_le
    intro hc
    have := short_le (show n + 1 ≤ 19 by omega)
    rw [short19] at this
    omega
theorem digF_zero (f : Nat) : digF f 0 = [] := by cases f <;> simp [digF]
theorem digF_pos (f r : Nat) (h : 0 < r) : digF (f + 1) r = (((r - 1) % 3 : Nat) : Int) :: digF f ((r - 1) / 3) := by
  show (if r = 0 then [] else _) = _
  rw [if_neg (by omega)]

set_option maxHeartbeats 4000000 in
theorem implWordOfRank_any (r : Int) (hr64 : I64 r) (w : World) :
    Calls Try.prog 58 #[.int .i64 r] w fun e w' => IntsAns w (wrAns r) e w' := by
  obtain ⟨i0, hi, hz0, hz1, hz2⟩ := info_parts Try.infoInt
  by_cases h0 : r < 0
  · have HA := hid (show wrAns r = none by unfold wrAns; rw [if_neg (by omega)])
    go_enter Try.func58, Try.ntmps58
    go_wp2_with fail
    go_ret2
    rw [HA.out]
    exact ⟨_, rfl, ⟨World.ownsRow_nil _ _ _ _, fun b hb => by simp [Value.ownBlock] at hb⟩, Later.refl _⟩
  · obtain ⟨R, rfl⟩ : ∃ R : Nat, r = (R : Int) := ⟨r.toNat, by omega⟩
    have hR : R < shortN 42 := by rw [short42]; have := hr64.2; omega
    have HLONG := hid (dig_long hR)
    have HA := hid (show wrAns (R : Int) = if (digF 41 R).length ≤ 18 then some (digF 41 R).reverse else none by
      unfold wrAns
      rw [Int.toNat_natCast]
      have := dig_long hR
      by_cases hl : (digF 41 R).length ≤ 18
      · rw [if_pos hl, if_pos (by omega)]
      · rw [if_neg hl, if_neg (by omega)])
    obtain ⟨L, hL⟩ : ∃ L, digF 41 R = L := ⟨_, rfl⟩
    rw [hL] at HA HLONG
    have HL := hid hL
    have HR := hid hR
    have hR64 := hr64.2
    clear hL hR hr64
    go_enter Try.func58, Try.ntmps58
    go_wp2_with fail
    go_loopw [0, 4] (fun o0 o4 wr => ∃ (q f : Nat) (pre : List Int), o0 = .int .i64 q ∧ q ≤ 9223372036854775807 ∧ q < shortN (f + 1) ∧ pre ++ digF f q = L ∧ pre.length + f = 41 ∧ wr.ownsRow w.heap.size 3 1 o4 pre.length (pre.map (Value.int .i64)) ∧ Later w wr) (fun o0 _ _ => (intOf o0).toNat)
    case atStart => exact ⟨R, 41, [], rfl, by omega, HR.out, HL.out, rfl, World.ownsRow_nil _ _ _ _, Later.refl w⟩
    case round =>
      obtain ⟨q, f, pre, rfl, hq64, hqf, hpre, hlen, hown, hL⟩ := hrel
      obtain ⟨a4, cap4, rfl, _⟩ := ownsRow_shape hown
      have HO := hid hown
      have HLr := hid hL
      have HPRE := hid hpre
      clear hown hL hpre
      by_cases hq : 0 < q
      · obtain ⟨g, rfl⟩ : ∃ g, f = g + 1 := by
          cases f with
          | zero => simp [shortN] at hqf; omega
          | succ g => exact ⟨g, rfl⟩
        have HP2 := hid (show (pre ++ [(((q - 1) % 3 : Nat) : Int)]) ++ digF g ((q - 1) / 3) = L by rw [← HPRE.out, digF_pos g q hq, List.append_assoc]; rfl)
        have HQ2 := hid (show (q - 1) / 3 < shortN (g + 1) by simp only [shortN] at hqf ⊢; omega)
        obtain ⟨z, hz⟩ : ∃ z : Nat, (q - 1) % 3 = z := ⟨_, rfl⟩
        obtain ⟨u, hu⟩ : ∃ u : Nat, (q - 1) / 3 = u := ⟨_, rfl⟩
        rw [hz, hu] at HP2
        rw [hu] at HQ2
        have e1 : ((q : Int) - 1).tmod 3 = (z : Int) := by rw [Int.tmod_eq_emod_of_nonneg (by omega)]; omega
        have e2 : ((q : Int) - 1).tdiv 3 = (u : Int) := by rw [Int.tdiv_eq_ediv_of_nonneg (by omega)]; omega
        have hzb : z ≤ 2 := by omega
        have hub : u < q := by omega
        have hpl : pre.length ≤ 40 := by omega
        have HLEN := hid hlen
        have hAr := Later.alloc wr (.cells #[.int .i64 (z : Nat)] 3)
        have HOA := hid (show (wr.alloc (.cells #[.int .i64 (z : Nat)] 3)).ownsRow w.heap.size 3 1 (.slice a4 pre.length cap4) pre.length (pre.map (Value.int .i64)) from ownsRow_keep HO.out fun bk hbk => hAr.block bk (HO.out.lt bk hbk).2)
        have HLA := hid (HLr.out.trans hAr)
        have hls := HLr.out.size
        clear hAr hz hu hqf hlen
        go_wp2_with (at_builtin; refine wpList_append_lies _ (by rfl) _ _ _ (by rfl) w.heap.size 3 i0 (.int .i64 0) 1 8 Try.underlying26 hi hz0 hz1 hz2 rfl (by omega) _ pre.length (pre.map (Value.int .i64)) (by rfl) (by exact HOA.out) ⟨wr.heap.size, 0, none⟩ 1 1 [.int .i64 (z : Nat)] (by rfl) (by rfl) (World.news_of_block (cs := #[.int .i64 (z : Nat)]) (t := 3) (fr := (0, 0)) (heap_alloc_new wr _)) (by simp [Value.oneCell']) (by omega) (by unfold maxLen; omega) (by omega) (by simp; omega) (wr.heap.size + 1) (by simp) ?_; intro g9 cap9 w9 hown9 hgrow hgn hglt; have HO9 := hid hown9; have HG9 := hid hgrow; clear hown9 hgrow hgn hglt)
        have HL9 := hid (show Later w w9 from HLA.out.grown HG9.out (by simp; omega) (fun b' hb' => (HOA.out.lt b' hb').1))
        go_roundw
        case rel => exact ⟨u, g, pre ++ [(z : Int)], by first | rfl | go_num, by omega, HQ2.out, HP2.out, by rw [List.length_append]; have := HLEN.out; simp; omega, by rw [List.length_append, List.map_append]; exact HO9.out, HL9.out⟩
        case measure => simp [intOf]; omega
      · obtain rfl : q = 0 := by omega
        have hpl : pre = L := by rw [← HPRE.out, digF_zero, List.append_nil]
        subst hpl
        have HLEN := hid hlen
        have HI := hid (OwnInts.ofH HO.out (zs := pre) rfl)
        by_cases hl : pre.length ≤ 18
        · have hl2 : ¬ (18 : Int) < (pre.length : Int) := by omega
          have HA2 := hid (show wrAns (R : Int) = some pre.reverse by rw [HA.out, if_pos hl])
          clear hqf hlen
          go_wp2_with fail
          refine (revI_any w.heap.size _ _ pre wr (by omega) HI.out).mono ?_
          rintro e w9 ⟨rfl, hO9, hL9, hsz9⟩
          have HO9 := hid hO9
          have HL9 := hid (hL9 w HLr.out (Nat.le_refl _))
          have HS9 := hid hsz9
          clear hO9 hL9 hsz9
          go_wp2_with fail
          go_ret2
          rw [HA2.out]
          exact ⟨_, rfl, HO9.out.wide (Nat.le_refl _) HS9.out, HL9.out⟩
        · have hl2 : (18 : Int) < (pre.length : Int) := by omega
          have HA2 := hid (show wrAns (R : Int) = none by rw [HA.out, if_neg hl])
          clear hqf hlen
          go_wp2_with fail
          go_ret2
          rw [HA2.out]
          exact ⟨_, rfl, ⟨World.ownsRow_nil _ _ _ _, fun b hb => by simp [Value.ownBlock] at hb⟩, HLr.out⟩
end Go.Proofs.Ytdahhcigphhfdac
