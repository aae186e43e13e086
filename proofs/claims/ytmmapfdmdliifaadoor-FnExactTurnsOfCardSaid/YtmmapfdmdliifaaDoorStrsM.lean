/- Marks of a list of texts. -/
import Derived.Test.YtmmapfdmdliifaaDoorStrs
import Derived.Laws.Concat
import Derived.Deep.RegionHeld3
namespace Go.Proofs.YtmmapfdmdliifaaDoor
open Go.RowKit

set_option maxRecDepth 20000 in
set_option maxHeartbeats 2000000 in
theorem markText_any (k : Nat) (w : World) (hk : k ≤ 4611686018427387904) : Calls Tryd.prog 53 #[.int .i64 (k : Nat)] w fun e w' => e = .returned (strV (textM k)) ∧ Later w w' := by
  by_cases h0 : k = 0
  · subst h0
    go_enter Tryd.func53, Tryd.ntmps53
    go_wp2_with fail
    go_ret
    exact ⟨rfl, Later.refl _⟩
  · have HT := hid (show textM k = 109 :: digW k [] by unfold textM; rw [if_neg h0])
    have hk0 : ¬ (k : Int) ≤ 0 := by omega
    obtain ⟨W, hW⟩ : ∃ W, digW k [] = W := ⟨_, rfl⟩
    rw [hW] at HT
    have HW := hid hW
    rw [HT.out]
    clear hW
    go_enter Tryd.func53, Tryd.ntmps53
    go_wp2_with fail
    go_loopw [0, 3] (fun t o wr => ∃ (K : Nat) (acc : List UInt8), K ≤ k ∧ t = .int .i64 K ∧ o = .string ⟨acc.toArray⟩ ∧ digW K acc = W ∧ acc.length + K ≤ k ∧ Later w wr) (fun t _ _ => (intOf t).toNat)
    case atStart => exact ⟨k, [], Nat.le_refl _, rfl, rfl, HW.out, by simp, Later.refl _⟩
    case round =>
      obtain ⟨K, acc, hK, rfl, rfl, hd, hac, hL⟩ := hrel
      have HD := hid hd
      have HLr := hid hL
      clear hd hL
      by_cases hz : K = 0
      · have HE := hid (show acc = W by rw [← HD.out, hz, digW_zero])
        have hWl : W.length ≤ 4611686018427387904 := by rw [← HE.out]; omega
        rw [hz, HE.out]
        clear hz hac
        go_wp2_with fail
        go_ret
        exact ⟨by simp [strV, ByteArray.ext_iff], HLr.out⟩
      · have hKI : (0 : Int) < (K : Int) := by omega
        have HS := hid (digW_step K acc hz)
        obtain ⟨d, hdd⟩ : ∃ d, K % 10 = d := ⟨_, rfl⟩
        obtain ⟨q, hq⟩ : ∃ q, K / 10 = q := ⟨_, rfl⟩
        have hd10 : d < 10 := by omega
        have hqK : q < K := by omega
        have e1 : (K : Int) % 10 = (d : Int) := by omega
        have e2 : (K : Int) / 10 = (q : Int) := by omega
        rw [hdd, hq] at HS
        have hconv : (convert 76 9 (.slice (some ⟨wr.heap.size, 0, none⟩) 1 1)).run Tryd.prog (wr.alloc (.cells #[Value.int .u8 (48 + (d : Int))] 5)) = .ok (.string ⟨#[UInt8.ofNat (48 + d)]⟩) (wr.alloc (.cells #[Value.int .u8 (48 + (d : Int))] 5)) :=
          run_convert_bytes_back (P := Tryd.prog) (wr.alloc (.cells #[Value.int .u8 (48 + (d : Int))] 5)) 76 9 5 ⟨wr.heap.size, 0, none⟩ 1 [UInt8.ofNat (48 + d)] Tryd.underlying76 Tryd.underlying5 Tryd.underlying9 (fun j hj => by
            obtain rfl : j = 0 := by simpa using hj
            simp [go_sem]; omega)
        have HLA := hid (HLr.out.trans (Later.alloc wr (.cells #[Value.int .u8 (48 + (d : Int))] 5)))
        clear hdd hq hz
        go_wp2_with fail
        go_roundw
        case rel => exact ⟨q, UInt8.ofNat (48 + d) :: acc, by omega, by go_num, by simp [ByteArray.ext_iff], by rw [← HS.out]; exact HD.out, by simp; omega, HLA.out⟩
        case measure => simp [intOf]; omega
theorem markText_at (k : Nat) (x : Int) (w : World) (hx : x = (k : Int)) (hk : k ≤ 4611686018427387904) : Calls Tryd.prog 53 #[.int .i64 x] w fun e w' => e = .returned (strV (textM k)) ∧ Later w w' := by
  subst hx; exact markText_any k w hk

/-- Of what was there only blocks that B tells may have turned; more may have been laid. -/
structure Turned (B : Nat → Prop) (w w' : World) : Prop where
  os : w'.os = w.os
  tape : w'.tape = w.tape
  output : w'.output = w.output
  size : w.heap.size ≤ w'.heap.size
  block : ∀ k, k < w.heap.size → ¬ B k → w'.heap[k]? = w.heap[k]?
theorem Turned.refl (B : Nat → Prop) (w : World) : Turned B w w := ⟨rfl, rfl, rfl, Nat.le_refl _, fun _ _ _ => rfl⟩
theorem Turned.later {B : Nat → Prop} {a b c : World} (h : Turned B a b) (k : Later b c) : Turned B a c :=
  ⟨k.os.trans h.os, k.tape.trans h.tape, k.output.trans h.output, Nat.le_trans h.size k.size, fun i hi hb => (k.block i (Nat.lt_of_lt_of_le hi h.size)).trans (h.block i hi hb)⟩
theorem Turned.setCell {B : Nat → Prop} {a b : World} (h : Turned B a b) (ad : Addr) (u : Value) (hB : B ad.block) : Turned B a (b.setCell ad u) :=
  ⟨h.os, h.tape, h.output, by simpa [World.setCell] using h.size, fun k hk hb => (heap_setCell_other b ad k u (fun e => hb (by rw [e]; exact hB))).trans (h.block k hk hb)⟩
theorem Turned.below {B : Nat → Prop} {n : Nat} {a b c : World} (h : Below n a b) (k : Turned B b c) (hB : ∀ i, B i → n ≤ i) (hn : n ≤ b.heap.size) : Below n a c :=
  h.trans ⟨k.os, k.tape, k.output, k.size, fun i hi => k.block i (Nat.lt_of_lt_of_le hi hn) fun hb => by have := hB i hb; omega⟩

def marksT (k n : Nat) : List (List UInt8) := (List.range n).map fun i => textM (k + i)
theorem marksT_length (k n : Nat) : (marksT k n).length = n := by simp [marksT]
theorem marksT_at (k n i : Nat) (h : i < n) : (marksT k n)[i]? = some (textM (k + i)) := by simp [marksT, h]

set_option maxRecDepth 20000 in
set_option maxHeartbeats 2000000 in
theorem markStringS_any (lo hi : Nat) (v : Value) (L : List (List UInt8)) (k : Nat) (w : World) (hk : k + L.length ≤ 4611686018427387904) (h : OwnStrs lo hi w v L) :
    Calls Tryd.prog 26 #[v, .int .i64 (k : Nat)] w fun e w' => e = .returned (.int .i64 ((k + L.length : Nat) : Int)) ∧ OwnStrs lo hi w' v (marksT k L.length) ∧ Turned (fun b => v.ownBlock = some b) w w' := by
  rcases h.form with ⟨rfl, rfl⟩ | ⟨g, cap, rfl⟩
  · have H := hid h
    clear h hk
    go_enter Tryd.func26, Tryd.ntmps26
    go_wp2
    refine wp_loop_rounds 1 ?_; rw [rounds_succ]
    go_wp2
    go_ret
    exact ⟨rfl, H.out, Turned.refl _ _⟩
  · have ho := h.1
    have hb := h.2 g (by simp [Value.ownBlock])
    have hF : Filled lo 9 w (.slice (some ⟨g, 0, none⟩) L.length cap) L.length 0 ((marksT k L.length).map strV) := ⟨_, ho, by simp⟩
    have HF0 := hid hF
    have HGB := hid hb
    obtain ⟨n, hn⟩ : ∃ n, L.length = n := ⟨_, rfl⟩
    rw [hn] at HF0 hk ⊢
    clear ho h hF hb hn
    have HTX := hid (fun j x w (hx : x = ((k + j : Nat) : Int)) (hj : j ≤ n) => markText_at (k + j) x w hx (by omega))
    go_enter Tryd.func26, Tryd.ntmps26
    go_wp2_with fail
    go_loopw [1, 5] (fun x i wr => ∃ j : Nat, j ≤ n ∧ i = .int .i64 j ∧ x = .int .i64 ((k : Int) + (j : Int)) ∧ Filled lo 9 wr (.slice (some ⟨g, 0, none⟩) n cap) n j ((marksT k n).map strV) ∧ Turned (fun b => b = g) w wr)
      (fun _ i _ => n - (intOf i).toNat)
    case atStart => exact ⟨0, Nat.zero_le _, rfl, by simp, HF0.out, Turned.refl _ _⟩
    case round =>
      clear HF0
      obtain ⟨j, hj, rfl, rfl, hFj, hW⟩ := hrel
      have HFj := hid hFj
      have HW := hid hW
      clear hFj hW
      by_cases hlt : j < n
      · have hltI : (j : Int) < (n : Int) := by omega
        go_wp2_with fail
        refine (HTX.out j _ _ (by simp) (by omega)).mono ?_
        rintro e w3 ⟨rfl, hL⟩
        have hF3 : Filled lo 9 w3 (.slice (some ⟨g, 0, none⟩) n cap) n j ((marksT k n).map strV) := by
          obtain ⟨xs, hx1, hx2⟩ := HFj.out
          exact ⟨xs, ownsRow_keep hx1 fun b hb => hL.block b (hx1.lt b hb).2, hx2⟩
        obtain ⟨⟨u0, hu0⟩, hfr⟩ := hF3.at hlt
        have HF := hid (hF3.step hlt (u := strV (textM (k + j))) (by rw [List.getElem?_map, marksT_at k n j hlt]; rfl))
        have HW3 := hid ((HW.out.later hL).setCell ⟨g, j, none⟩ (strV (textM (k + j))) rfl)
        obtain ⟨t, ht⟩ : ∃ t : ByteArray, (⟨(textM (k + j)).toArray⟩ : ByteArray) = t := ⟨_, rfl⟩
        have hst : strV (textM (k + j)) = .string t := by rw [← ht]; rfl
        rw [hst] at HF HW3 ⊢
        clear hF3 hL ht hst
        go_wp2_with fail
        go_roundw
        case rel => exact ⟨j + 1, hlt, by go_num, by go_num, HF.out, HW3.out⟩
        case measure => simp [intOf]; omega
      · have hjn : j = n := by omega
        subst hjn
        have ho := HFj.out.full (by simp [marksT_length])
        go_wp2_with fail
        go_ret
        refine ⟨rfl, ⟨by rw [marksT_length]; exact ho, fun b hb => by simp [Value.ownBlock] at hb; subst hb; exact HGB.out⟩, ?_⟩
        have := HW.out
        exact ⟨this.os, this.tape, this.output, this.size, fun i hi hb => this.block i hi (fun e => hb (by subst e; rfl))⟩

set_option maxRecDepth 20000 in
set_option maxHeartbeats 2000000 in
theorem heldStringS_any (v : Value) (n k : Nat) (w : World) (hk : k + n ≤ 4611686018427387904) (h : Strs w v (marksT k n)) :
    Calls Tryd.prog 27 #[v, .int .i64 (k : Nat)] w fun e w' => e = .returned (.int .i64 ((k + n : Nat) : Int)) ∧ Later w w' := by
  obtain ⟨a, cap, rfl, _, hc⟩ := h
  rw [marksT_length] at hc
  rw [marksT_length]
  have HC := hid (fun i (hi : i < n) => by
    have := hc i hi
    rw [List.getD_eq_getElem?_getD, marksT_at k n i hi, Option.getD_some] at this
    exact this); clear hc
  have HTX := hid (fun j x w (hx : x = ((k + j : Nat) : Int)) (hj : j ≤ n) => markText_at (k + j) x w hx (by omega))
  go_enter Tryd.func27, Tryd.ntmps27
  go_wp2_with fail
  go_loopw [1, 5] (fun x i wr => ∃ j : Nat, j ≤ n ∧ i = .int .i64 j ∧ x = .int .i64 ((k : Int) + (j : Int)) ∧ Later w wr) (fun _ i _ => n - (intOf i).toNat)
  case atStart => exact ⟨0, Nat.zero_le _, rfl, by simp, Later.refl _⟩
  case round =>
    obtain ⟨j, hj, rfl, rfl, hL⟩ := hrel
    have HL := hid hL
    by_cases hlt : j < n
    · have hltI : (j : Int) < (n : Int) := by omega
      obtain ⟨ad, rfl, hcell⟩ := HC.out j hlt
      replace hcell := hL.cell hcell
      obtain ⟨t, ht⟩ : ∃ t : ByteArray, (⟨(textM (k + j)).toArray⟩ : ByteArray) = t := ⟨_, rfl⟩
      have hst : strV (textM (k + j)) = .string t := by rw [← ht]; rfl
      have HTj := hid (fun x w hx => HTX.out j x w hx hj)
      rw [hst] at hcell HTj
      have hbb : (t.toList == t.toList) = true := by simp
      clear ht hst hL
      go_wp2_with fail
      go_region_held3 (fun w' => w'.cell? (ad.add j) = some (.string t)) (first | exact hcell | exact hcd) (first | (go_at_call 53; refine (HTj.out _ _ (by simp)).mono ?_; rintro e w3 ⟨rfl, hL3⟩; have hcd := hL3.cell (w := wr.drew) hcell; have HL3 := hid (HL.out.trans ((Later.drew wr).trans hL3)); clear hL3))
      go_wp2_with fail
      go_roundw
      case rel => exact ⟨j + 1, hlt, by go_num, by go_num, HL3.out⟩
      case measure => simp [intOf]; omega
    · have hjn : j = n := by omega
      subst hjn
      go_wp2_with fail
      go_ret
      exact ⟨rfl, HL.out⟩
theorem markStringS_one (lo hi : Nat) (v : Value) (L : List (List UInt8)) (w : World) (hk : L.length ≤ 1000000000000) (h : OwnStrs lo hi w v L) :
    Calls Tryd.prog 26 #[v, .int .i64 1] w fun e w' => e = .returned (.int .i64 (1 + (L.length : Int))) ∧ OwnStrs lo hi w' v (marksT 1 L.length) ∧ Turned (fun b => v.ownBlock = some b) w w' :=
  (markStringS_any lo hi v L 1 w (by omega) h).mono fun e w' ⟨h1, h2, h3⟩ => ⟨by rw [h1, Int.natCast_add]; rfl, h2, h3⟩
theorem heldStringS_one (v : Value) (n : Nat) (w : World) (hk : n ≤ 1000000000000) (h : Strs w v (marksT 1 n)) :
    Calls Tryd.prog 27 #[v, .int .i64 1] w fun e w' => e = .returned (.int .i64 (1 + (n : Int))) ∧ Later w w' :=
  (heldStringS_any v n 1 w (by omega) h).mono fun e w' ⟨h1, h2⟩ => ⟨by rw [h1, Int.natCast_add]; rfl, h2⟩
end Go.Proofs.YtmmapfdmdliifaaDoor
