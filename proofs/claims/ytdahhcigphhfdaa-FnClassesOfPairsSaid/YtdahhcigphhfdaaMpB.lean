/- Insertion of a number into a rising row (the model). -/
import Derived.Test.YtdahhcigphhfdaaBasA
import Derived.Deep.AppendLies
import Derived.Maps.AppendAt
import Derived.Laws.AppendOwnNone
import Derived.Laws.OwnMore
import Derived.Deep.Onto
namespace Go.Proofs.Ytdahhcigphhfdaa
open Go.RowKit

def putZk (L : List Int) (x : Int) : Nat := (L.takeWhile fun y => decide (y < x)).length
def putZ (L : List Int) (x : Int) : List Int := if L.getD (putZk L x) 0 = x ∧ putZk L x < L.length then L else L.take (putZk L x) ++ x :: L.drop (putZk L x)
theorem putZk_le (L : List Int) (x : Int) : putZk L x ≤ L.length := (List.takeWhile_sublist _).length_le
theorem putZk_lt {L : List Int} {x : Int} : ∀ k, k < putZk L x → L.getD k 0 < x := by
  induction L with
  | nil => intro k h; simp [putZk] at h
  | cons y L ih =>
    intro k h
    by_cases hy : y < x
    · cases k with
      | zero => simpa using hy
      | succ k =>
        have h2 : k < putZk L x := by simpa [putZk, hy] using h
        simpa using ih k h2
    · simp [putZk, hy] at h
theorem putZk_at {L : List Int} {x : Int} (h : putZk L x < L.length) : ¬ L.getD (putZk L x) 0 < x := by
  induction L with
  | nil => simp at h
  | cons y L ih =>
    by_cases hy : y < x
    · have e : putZk (y :: L) x = putZk L x + 1 := by simp [putZk, hy]
      rw [e] at h ⊢
      simpa using ih (by simpa using h)
    · have e : putZk (y :: L) x = 0 := by simp [putZk, hy]
      rw [e]
      simpa using hy
theorem putZ_nil (x : Int) : putZ [] x = [x] := by simp [putZ, putZk]
/-- what the model's insertion hands back -/
def PutRes (lo : Nat) (w : World) (L : List Int) (x : Int) (e : Ending) (w' : World) : Prop :=
  ∃ u, e = .returned u ∧ w'.ownsRow lo 3 1 u (putZ L x).length ((putZ L x).map (Value.int .i64)) ∧ Later w w'
set_option maxRecDepth 20000 in
set_option maxHeartbeats 4000000 in
theorem l1PutNil_any (lo : Nat) (x : Int) (w : World) (hlo : lo ≤ w.heap.size) :
    Calls Try.prog 82 #[.slice none 0 0, .int .i64 x] w fun e w' => PutRes lo w [] x e w' := by
  obtain ⟨i0, hi, hz0, hz1, hz2⟩ := info_parts Try.infoInt
  have HLO := hid hlo
  clear hlo
  have HOW := hid (show (w.alloc (.cells #[] 3)).ownsRow w.heap.size 3 1 (.slice (some ⟨w.heap.size, 0, none⟩) 0 0) 0 [] from ⟨rfl, .inr ⟨w.heap.size, 0, #[], rfl, Nat.le_refl _, heap_alloc_new w _, Nat.le_refl _, by omega, by simp, by simp⟩⟩)
  have HL1 := hid (Later.alloc w (.cells #[] 3))
  have HNW := hid (show ∀ (j : Nat) (u : Value), [Value.int .i64 x][j]? = some u → ((w.alloc (.cells #[] 3)).alloc (.cells #[.int .i64 x] 3)).cell? ((⟨w.heap.size + 1, 0, none⟩ : Addr).add j) = some u by
    intro j u hj
    have h := cell_one_new (w.alloc (.cells #[] 3)) (.int .i64 x) 3 j u hj
    simpa using h)
  go_enter Try.func82, Try.ntmps82
  go_wp2_with fail
  go_loopw [5] (fun k wr => k = .int .i64 0 ∧ wr = w) (fun _ _ => 0)
  case atStart => exact ⟨rfl, rfl⟩
  case round =>
    obtain ⟨rfl, rfl⟩ := hrel
    go_wp2_with (first
      | (at_builtin; refine wpList_append_own_none (by rfl) _ _ _ (by rfl) wr.heap.size 3 i0 1 Try.underlying32 hi (.slice (some ⟨wr.heap.size, 0, none⟩) 0 0) 0 [] (by rfl) (by exact HOW.out) (by rfl) ?_)
      | (at_builtin; refine wpList_append_own_at _ (by rfl) _ _ _ (by rfl) wr.heap.size 3 i0 (.int .i64 0) 1 8 Try.underlying32 hi hz0 hz1 hz2 rfl (by omega) (.slice (some ⟨wr.heap.size, 0, none⟩) 0 0) 0 [] (by rfl) (by exact HOW.out.alloc (.cells #[.int .i64 x] 3)) ⟨wr.heap.size + 1, 0, none⟩ 1 1 [.int .i64 x] (by rfl) (by rfl) (by exact HNW.out) (by simp [Value.oneCell']) (by unfold maxLen; omega) (by omega) (by simp; omega) ?_; intro v6 w6 hown6 hgrow6 _ _; have HO6 := hid hown6; have HG6 := hid hgrow6; clear hown6 hgrow6)
      | (at_builtin; refine wpList_append_own_none (by rfl) _ _ _ (by rfl) wr.heap.size 3 i0 1 Try.underlying32 hi v6 _ _ (by rfl) HO6.out (by rfl) ?_)
      | go_in)
    go_ret
    refine ⟨_, rfl, ?_, ?_⟩
    · rw [putZ_nil]
      exact World.ownsRow.mono HO6.out HLO.out
    · exact Below.grown (HL1.out.trans (Later.alloc _ _)) HG6.out (by simp; omega) (fun k e => Nat.le_of_eq (Option.some.inj e))
set_option maxRecDepth 20000 in
set_option maxHeartbeats 8000000 in
theorem l1Put_any (lo : Nat) (v : Value) (L : List Int) (x : Int) (w : World) (hlo : lo ≤ w.heap.size) (hb : L.length ≤ 1000000) (h : w.ownsRow lo 3 1 v L.length (L.map (Value.int .i64))) :
    Calls Try.prog 82 #[v, .int .i64 x] w fun e w' => PutRes lo w L x e w' := by
  obtain ⟨i0, hi, hz0, hz1, hz2⟩ := info_parts Try.infoInt
  rcases id h.2 with ⟨rfl, h0⟩ | ⟨g, cg, cur, rfl, _, hgl, hncg, _⟩
  · have hL : L = [] := List.eq_nil_of_length_eq_zero h0
    subst hL
    exact l1PutNil_any lo x w hlo
  · obtain ⟨n, hn⟩ : ∃ n, L.length = n := ⟨_, rfl⟩
    rw [hn] at h hncg hb ⊢
    have HN := hid hn
    have HLO := hid hlo
    have HOW := hid h
    have HC := hid (show ∀ j, j < n → w.cell? ⟨g, j, none⟩ = some (.int .i64 (L.getD j 0)) from fun j hj => by
      rw [World.ownsRow.cellAt h j (by omega)]
      have : j < L.length := by omega
      simp [this])
    have HKL := hid (fun k (hk : k < putZk L x) => putZk_lt (L := L) (x := x) k hk)
    have HKA := hid (fun (hk : putZk L x < n) => putZk_at (L := L) (x := x) (by omega))
    have hkl : putZk L x ≤ n := by have := putZk_le L x; omega
    have HPZ := hid (show putZ L x = if L.getD (putZk L x) 0 = x ∧ putZk L x < n then L else L.take (putZk L x) ++ x :: L.drop (putZk L x) by unfold putZ; rw [hn])
    obtain ⟨K, hK⟩ : ∃ K, putZk L x = K := ⟨_, rfl⟩
    rw [hK] at HKL HKA hkl HPZ
    clear h hlo hn hK hgl
    go_enter Try.func82, Try.ntmps82
    go_wp2_with fail
    go_loopw [5] (fun s5 wr => ∃ k : Nat, k ≤ K ∧ s5 = .int .i64 k ∧ wr = w) (fun s5 _ => K - (intOf s5).toNat)
    case atStart => exact ⟨0, Nat.zero_le _, rfl, rfl⟩
    case round =>
      obtain ⟨k, hk, rfl, rfl⟩ := hrel
      by_cases hlt : k < K
      · have hkI : (k : Int) < (n : Int) := by omega
        have hcell := HC.out k (by omega)
        have hb2 := HKL.out k hlt
        obtain ⟨y, hy⟩ : ∃ y, L.getD k 0 = y := ⟨_, rfl⟩
        rw [hy] at hcell hb2
        clear hy
        go_wp2_with fail
        go_roundw
        case rel => exact ⟨k + 1, hlt, by go_num, trivial⟩
        case measure => simp [intOf]; omega
      · obtain rfl : k = K := by omega
        clear hk hlt
        by_cases hkn : k < n
        · have hkI : (k : Int) < (n : Int) := by omega
          have hcell := HC.out k hkn
          have hb2 := HKA.out hkn
          obtain ⟨y, hy⟩ : ∃ y, L.getD k 0 = y := ⟨_, rfl⟩
          rw [hy] at hcell hb2 HPZ
          clear hy
          by_cases hyx : y = x
          · have hbeq : (y == x) = true := by simp [hyx]
            have HE := hid (show putZ L x = L from HPZ.out.trans (if_pos ⟨hyx, hkn⟩))
            clear hyx
            go_wp2_with fail
            go_ret
            refine ⟨_, rfl, ?_, Later.refl _⟩
            rw [HE.out, HN.out]
            exact HOW.out
          · have hbeq : (y == x) = false := by simp [hyx]
            have HE := hid (show putZ L x = L.take k ++ x :: L.drop k from HPZ.out.trans (if_neg (fun hh => hyx hh.1)))
            clear hyx
            have HO1 := hid (show (wr.alloc (.cells #[] 3)).ownsRow wr.heap.size 3 1 (.slice (some ⟨wr.heap.size, 0, none⟩) 0 0) 0 [] from ⟨rfl, .inr ⟨wr.heap.size, 0, #[], rfl, Nat.le_refl _, heap_alloc_new wr _, Nat.le_refl _, by omega, by simp, by simp⟩⟩)
            have HL1 := hid (Later.alloc wr (.cells #[] 3))
            obtain ⟨XS, hXS⟩ : ∃ XS, (L.take k).map (Value.int .i64) = XS := ⟨_, rfl⟩
            obtain ⟨YS, hYS⟩ : ∃ YS, (L.drop k).map (Value.int .i64) = YS := ⟨_, rfl⟩
            have HXL := hid (show XS.length = k * 1 by rw [← hXS, List.length_map, List.length_take, HN.out]; omega)
            have HYL := hid (show YS.length = (n - k) * 1 by rw [← hYS, List.length_map, List.length_drop, HN.out]; omega)
            have HXO := hid (show ∀ u ∈ XS, u.oneCell' = true by intro u hu; rw [← hXS] at hu; obtain ⟨p, _, rfl⟩ := List.mem_map.1 hu; rfl)
            have HYO := hid (show ∀ u ∈ YS, u.oneCell' = true by intro u hu; rw [← hYS] at hu; obtain ⟨p, _, rfl⟩ := List.mem_map.1 hu; rfl)
            have hat : ∀ (j : Nat) (u : Value), (L.map (Value.int .i64))[j]? = some u → wr.cell? ⟨g, j, none⟩ = some u := by
              intro j u hj
              have hj2 : j < L.length := by
                rcases Nat.lt_or_ge j L.length with h | h
                · exact h
                · rw [List.getElem?_eq_none (by simpa using h)] at hj; cases hj
              rw [HC.out j (by rw [← HN.out]; exact hj2), ← hj]
              simp [hj2]
            have HNX := hid (show ∀ (j : Nat) (u : Value), XS[j]? = some u → (wr.alloc (.cells #[] 3)).cell? ((⟨g, 0, none⟩ : Addr).add j) = some u from fun j u hj => by
              rw [addr_add0]
              refine (Later.alloc wr _).cell (hat j u ?_)
              rw [← hXS, List.map_take, List.getElem?_take] at hj
              split at hj
              · exact hj
              · cases hj)
            have HFIN := hid (show (putZ L x).map (Value.int .i64) = XS ++ [.int .i64 x] ++ YS by rw [HE.out, ← hXS, ← hYS]; simp)
            have HFL := hid (show (putZ L x).length = k + 1 + (n - k) by rw [HE.out, List.length_append, List.length_cons, List.length_take, List.length_drop, HN.out]; omega)
            have hkc : (k : Int) ≤ (cg : Int) := by omega
            have hkp : (k : Int) ≤ (n : Int) := by omega
            have hpc : (n : Int) ≤ (cg : Int) := by omega
            have hk0 : (0 : Int) ≤ (k : Int) := by omega
            have hktn : ((k : Int)).toNat = k := by omega
            have HBN := hid hb
            by_cases hcq : cg = k
            · exact absurd hcq (by omega)
            · have HNY := hid (show ∀ (t : Nat) (u : Value), YS[t]? = some u → wr.cell? ((⟨g, k, none⟩ : Addr).add t) = some u from fun t u ht => by
                have h1 := hat (k + t) u (by rw [← hYS] at ht; rw [← ht]; simp)
                rw [← h1]
                congr 1
                unfold Addr.add
                by_cases h0 : t = 0 <;> simp [h0])
              clear hat hXS hYS
              go_wp2_with (first
                | (at_builtin; refine wpList_append_own_at _ (by rfl) _ _ _ (by rfl) wr.heap.size 3 i0 (.int .i64 0) 1 8 Try.underlying32 hi hz0 hz1 hz2 rfl (by omega) (.slice (some ⟨wr.heap.size, 0, none⟩) 0 0) 0 [] (by rfl) (by exact HO1.out) ⟨g, 0, none⟩ k cg XS (by rfl) (by exact HXL.out) HNX.out (fun u hu => HXO.out u hu) (by have := HBN.out; unfold maxLen; omega) (by have := HBN.out; omega) (by simp) ?_; intro v6 w6 hown6 hgrow6 _ _
                   ; have HO6 := hid (show w6.ownsRow wr.heap.size 3 1 v6 k XS by simpa using hown6); have HL6 := hid (show Later wr w6 from Below.grown HL1.out hgrow6 (by simp) (fun k e => Nat.le_of_eq (Option.some.inj e))); clear hown6 hgrow6)
                | (at_builtin; refine wpList_append_own_at _ (by rfl) _ _ _ (by rfl) wr.heap.size 3 i0 (.int .i64 0) 1 8 Try.underlying32 hi hz0 hz1 hz2 rfl (by omega) v6 k XS (by rfl) (by exact HO6.out.alloc (.cells #[.int .i64 x] 3)) ⟨w6.heap.size, 0, none⟩ 1 1 [.int .i64 x] (by rfl) (by rfl) (cell_one_new _ _ _) (by simp [Value.oneCell']) (by have := HBN.out; unfold maxLen; omega) (by have := HBN.out; omega) (by have := HL6.out.size; simp; omega) ?_; intro v7 w7 hown7 hgrow7 _ _
                   ; have HO7 := hid hown7; have HL7 := hid (show Later wr w7 from Below.grown (HL6.out.trans (Later.alloc w6 (.cells #[.int .i64 x] 3))) hgrow7 (by have := HL6.out.size; simp; omega) (fun k e => (HO6.out.lt k e).1)); clear hown7 hgrow7)
                | (at_builtin; refine wpList_append_own_at _ (by rfl) _ _ _ (by rfl) wr.heap.size 3 i0 (.int .i64 0) 1 8 Try.underlying32 hi hz0 hz1 hz2 rfl (by omega) v7 (k + 1) (XS ++ [.int .i64 x]) (by rfl) (by exact HO7.out) ⟨g, k, none⟩ (n - k) (cg - k) YS (by rfl) (by exact HYL.out) (fun t u ht => HL7.out.cell (HNY.out t u ht)) (fun u hu => HYO.out u hu) (by have := HBN.out; unfold maxLen; omega) (by have := HBN.out; omega) HL7.out.size ?_; intro v8 w8 hown8 hgrow8 _ _
                   ; have HO8 := hid hown8; have HL8 := hid (show Later wr w8 from Below.grown HL7.out hgrow8 HL7.out.size (fun k e => (HO7.out.lt k e).1)); clear hown8 hgrow8)
                | go_in)
              go_ret
              refine ⟨_, rfl, ?_, HL8.out⟩
              rw [HFL.out, HFIN.out]
              exact World.ownsRow.mono HO8.out HLO.out
        · have hkI : ¬ (k : Int) < (n : Int) := by omega
          have HE := hid (show putZ L x = L.take k ++ x :: L.drop k from HPZ.out.trans (if_neg (fun hh => absurd hh.2 (by omega))))
          have HO1 := hid (show (wr.alloc (.cells #[] 3)).ownsRow wr.heap.size 3 1 (.slice (some ⟨wr.heap.size, 0, none⟩) 0 0) 0 [] from ⟨rfl, .inr ⟨wr.heap.size, 0, #[], rfl, Nat.le_refl _, heap_alloc_new wr _, Nat.le_refl _, by omega, by simp, by simp⟩⟩)
          have HL1 := hid (Later.alloc wr (.cells #[] 3))
          obtain ⟨XS, hXS⟩ : ∃ XS, (L.take k).map (Value.int .i64) = XS := ⟨_, rfl⟩
          obtain ⟨YS, hYS⟩ : ∃ YS, (L.drop k).map (Value.int .i64) = YS := ⟨_, rfl⟩
          have HXL := hid (show XS.length = k * 1 by rw [← hXS, List.length_map, List.length_take, HN.out]; omega)
          have HYL := hid (show YS.length = (n - k) * 1 by rw [← hYS, List.length_map, List.length_drop, HN.out]; omega)
          have HXO := hid (show ∀ u ∈ XS, u.oneCell' = true by intro u hu; rw [← hXS] at hu; obtain ⟨p, _, rfl⟩ := List.mem_map.1 hu; rfl)
          have HYO := hid (show ∀ u ∈ YS, u.oneCell' = true by intro u hu; rw [← hYS] at hu; obtain ⟨p, _, rfl⟩ := List.mem_map.1 hu; rfl)
          have hat : ∀ (j : Nat) (u : Value), (L.map (Value.int .i64))[j]? = some u → wr.cell? ⟨g, j, none⟩ = some u := by
            intro j u hj
            have hj2 : j < L.length := by
              rcases Nat.lt_or_ge j L.length with h | h
              · exact h
              · rw [List.getElem?_eq_none (by simpa using h)] at hj; cases hj
            rw [HC.out j (by rw [← HN.out]; exact hj2), ← hj]
            simp [hj2]
          have HNX := hid (show ∀ (j : Nat) (u : Value), XS[j]? = some u → (wr.alloc (.cells #[] 3)).cell? ((⟨g, 0, none⟩ : Addr).add j) = some u from fun j u hj => by
            rw [addr_add0]
            refine (Later.alloc wr _).cell (hat j u ?_)
            rw [← hXS, List.map_take, List.getElem?_take] at hj
            split at hj
            · exact hj
            · cases hj)
          have HFIN := hid (show (putZ L x).map (Value.int .i64) = XS ++ [.int .i64 x] ++ YS by rw [HE.out, ← hXS, ← hYS]; simp)
          have HFL := hid (show (putZ L x).length = k + 1 + (n - k) by rw [HE.out, List.length_append, List.length_cons, List.length_take, List.length_drop, HN.out]; omega)
          have hkc : (k : Int) ≤ (cg : Int) := by omega
          have hkp : (k : Int) ≤ (n : Int) := by omega
          have hpc : (n : Int) ≤ (cg : Int) := by omega
          have hk0 : (0 : Int) ≤ (k : Int) := by omega
          have hktn : ((k : Int)).toNat = k := by omega
          have HBN := hid hb
          by_cases hcq : cg = k
          · have HNY := hid (show ∀ (t : Nat) (u : Value), YS[t]? = some u → wr.cell? ((⟨g, 0, none⟩ : Addr).add t) = some u from fun t u ht => by
              rw [List.getElem?_eq_none (by have := HYL.out; omega)] at ht; cases ht)
            clear hat hXS hYS
            subst hcq
            have HN0 := hid (show n - cg = 0 by omega)
            have HY0 := hid (show YS = [] from List.eq_nil_of_length_eq_zero (by have := HYL.out; omega))
            go_wp2_with (first
              | (at_builtin; refine wpList_append_own_at _ (by rfl) _ _ _ (by rfl) wr.heap.size 3 i0 (.int .i64 0) 1 8 Try.underlying32 hi hz0 hz1 hz2 rfl (by omega) (.slice (some ⟨wr.heap.size, 0, none⟩) 0 0) 0 [] (by rfl) (by exact HO1.out) ⟨g, 0, none⟩ cg cg XS (by rfl) (by exact HXL.out) HNX.out (fun u hu => HXO.out u hu) (by have := HBN.out; unfold maxLen; omega) (by have := HBN.out; omega) (by simp) ?_; intro v6 w6 hown6 hgrow6 _ _
                 ; have HO6 := hid (show w6.ownsRow wr.heap.size 3 1 v6 cg XS by simpa using hown6); have HL6 := hid (show Later wr w6 from Below.grown HL1.out hgrow6 (by simp) (fun k e => Nat.le_of_eq (Option.some.inj e))); clear hown6 hgrow6)
              | (at_builtin; refine wpList_append_own_at _ (by rfl) _ _ _ (by rfl) wr.heap.size 3 i0 (.int .i64 0) 1 8 Try.underlying32 hi hz0 hz1 hz2 rfl (by omega) v6 cg XS (by rfl) (by exact HO6.out.alloc (.cells #[.int .i64 x] 3)) ⟨w6.heap.size, 0, none⟩ 1 1 [.int .i64 x] (by rfl) (by rfl) (cell_one_new _ _ _) (by simp [Value.oneCell']) (by have := HBN.out; unfold maxLen; omega) (by have := HBN.out; omega) (by have := HL6.out.size; simp; omega) ?_; intro v7 w7 hown7 hgrow7 _ _
                 ; have HO7 := hid hown7; have HL7 := hid (show Later wr w7 from Below.grown (HL6.out.trans (Later.alloc w6 (.cells #[.int .i64 x] 3))) hgrow7 (by have := HL6.out.size; simp; omega) (fun k e => (HO6.out.lt k e).1)); clear hown7 hgrow7)
              | (at_builtin; refine wpList_append_own_at _ (by rfl) _ _ _ (by rfl) wr.heap.size 3 i0 (.int .i64 0) 1 8 Try.underlying32 hi hz0 hz1 hz2 rfl (by omega) v7 (cg + 1) (XS ++ [.int .i64 x]) (by rfl) (by exact HO7.out) ⟨g, 0, none⟩ 0 _ [] (by rfl) (by rfl) (fun t u ht => by simp at ht) (fun u hu => by simp at hu) (by have := HBN.out; unfold maxLen; omega) (by have := HBN.out; omega) HL7.out.size ?_; intro v8 w8 hown8 hgrow8 _ _
                 ; have HO8 := hid hown8; have HL8 := hid (show Later wr w8 from Below.grown HL7.out hgrow8 HL7.out.size (fun k e => (HO7.out.lt k e).1)); clear hown8 hgrow8)
              | go_in)
            go_ret
            refine ⟨_, rfl, ?_, HL8.out⟩
            rw [HFL.out, HFIN.out, HN0.out, HY0.out]
            exact World.ownsRow.mono HO8.out HLO.out
          · have HNY := hid (show ∀ (t : Nat) (u : Value), YS[t]? = some u → wr.cell? ((⟨g, k, none⟩ : Addr).add t) = some u from fun t u ht => by
              have h1 := hat (k + t) u (by rw [← hYS] at ht; rw [← ht]; simp)
              rw [← h1]
              congr 1
              unfold Addr.add
              by_cases h0 : t = 0 <;> simp [h0])
            clear hat hXS hYS
            go_wp2_with (first
              | (at_builtin; refine wpList_append_own_at _ (by rfl) _ _ _ (by rfl) wr.heap.size 3 i0 (.int .i64 0) 1 8 Try.underlying32 hi hz0 hz1 hz2 rfl (by omega) (.slice (some ⟨wr.heap.size, 0, none⟩) 0 0) 0 [] (by rfl) (by exact HO1.out) ⟨g, 0, none⟩ k cg XS (by rfl) (by exact HXL.out) HNX.out (fun u hu => HXO.out u hu) (by have := HBN.out; unfold maxLen; omega) (by have := HBN.out; omega) (by simp) ?_; intro v6 w6 hown6 hgrow6 _ _
                 ; have HO6 := hid (show w6.ownsRow wr.heap.size 3 1 v6 k XS by simpa using hown6); have HL6 := hid (show Later wr w6 from Below.grown HL1.out hgrow6 (by simp) (fun k e => Nat.le_of_eq (Option.some.inj e))); clear hown6 hgrow6)
              | (at_builtin; refine wpList_append_own_at _ (by rfl) _ _ _ (by rfl) wr.heap.size 3 i0 (.int .i64 0) 1 8 Try.underlying32 hi hz0 hz1 hz2 rfl (by omega) v6 k XS (by rfl) (by exact HO6.out.alloc (.cells #[.int .i64 x] 3)) ⟨w6.heap.size, 0, none⟩ 1 1 [.int .i64 x] (by rfl) (by rfl) (cell_one_new _ _ _) (by simp [Value.oneCell']) (by have := HBN.out; unfold maxLen; omega) (by have := HBN.out; omega) (by have := HL6.out.size; simp; omega) ?_; intro v7 w7 hown7 hgrow7 _ _
                 ; have HO7 := hid hown7; have HL7 := hid (show Later wr w7 from Below.grown (HL6.out.trans (Later.alloc w6 (.cells #[.int .i64 x] 3))) hgrow7 (by have := HL6.out.size; simp; omega) (fun k e => (HO6.out.lt k e).1)); clear hown7 hgrow7)
              | (at_builtin; refine wpList_append_own_at _ (by rfl) _ _ _ (by rfl) wr.heap.size 3 i0 (.int .i64 0) 1 8 Try.underlying32 hi hz0 hz1 hz2 rfl (by omega) v7 (k + 1) (XS ++ [.int .i64 x]) (by rfl) (by exact HO7.out) ⟨g, k, none⟩ (n - k) (cg - k) YS (by rfl) (by exact HYL.out) (fun t u ht => HL7.out.cell (HNY.out t u ht)) (fun u hu => HYO.out u hu) (by have := HBN.out; unfold maxLen; omega) (by have := HBN.out; omega) HL7.out.size ?_; intro v8 w8 hown8 hgrow8 _ _
                 ; have HO8 := hid hown8; have HL8 := hid (show Later wr w8 from Below.grown HL7.out hgrow8 HL7.out.size (fun k e => (HO7.out.lt k e).1)); clear hown8 hgrow8)
              | go_in)
            go_ret
            refine ⟨_, rfl, ?_, HL8.out⟩
            rw [HFL.out, HFIN.out]
            exact World.ownsRow.mono HO8.out HLO.out
end Go.Proofs.Ytdahhcigphhfdaa
