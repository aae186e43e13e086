/- Runs of pairs (the program): run, descentFrom, behindJump. -/
import Derived.Test.YthejafejmbpepaaJpF
import Derived.Test.YthejafejmbpepaaJpL
namespace Go.Proofs.Ythejafejmbpepaa
open Go.RowKit

def JpRun (w : World) (L : List Jp2) (e : Ending) (w' : World) : Prop := ∃ v, e = .returned v ∧ OwnJps w.heap.size w' v L ∧ Later w w'
theorem OwnJps.lt {lo : Nat} {w : World} {v : Value} {L : List Jp2} (h : OwnJps lo w v L) (b : Nat) (hb : v.ownBlock = some b) : lo ≤ b ∧ b < w.heap.size := World.ownsRow.lt h b hb
theorem OwnJps.setJ {lo : Nat} {w : World} {v : Value} {L : List Jp2} (h : OwnJps lo w v L) {B : Nat} (hB : B < lo) (p q : Value) : OwnJps lo ((w.setCell ⟨B, 0, none⟩ p).setCell ⟨B, 1, none⟩ q) v L :=
  ownsRow_keepJ h fun b hb => setJ_far _ _ _ _ _ (by have := (h.lt b hb).1; omega)
set_option maxRecDepth 20000 in
set_option maxHeartbeats 4000000 in
theorem run_any (g : Nat) (eg : ∀ args w, (callFunc g args).run Try.prog w = .ok (.enter g args) w) (f : Jp2 → Option Jp2) (ev : Value) (hf : ∀ p q, jpN p → f p = some q → jpN q)
    (hc : ∀ (p : Jp2) (w0 : World), jpN p → Calls Try.prog g #[.agg #[.int .i64 p.1, .int .i64 p.2], ev] w0 fun e w' => JpAns w0 (f p) e w')
    (x y : Int) (n : Nat) (hm : n ≤ 2000) (w : World) (hN : jpN (x, y)) :
    Calls Try.prog 65 #[.agg #[.int .i64 x, .int .i64 y], ev, .func (.func g) #[] #[], .int .i64 n] w fun e w' => JpRun w (runJ f n (x, y)) e w' := by
  obtain ⟨i0, hi, hz0, hz1, hz2⟩ := info_parts Try.infoJp
  have HL := hid (Later.alloc w (.cells #[.int .i64 x, .int .i64 y] 61))
  have HB := hid (JBox.new w x y 61)
  have HS := hid (show w.heap.size + 1 ≤ (w.alloc (.cells #[.int .i64 x, .int .i64 y] 61)).heap.size by simp)
  have HF := hid hf
  have HC := hid hc
  have HN := hid hN
  obtain ⟨R, hR⟩ : ∃ R, runJ f n (x, y) = R := ⟨_, rfl⟩
  have HR := hid hR
  rw [hR]
  clear hf hc hN hR
  go_enter Try.func65, Try.ntmps65
  go_upto_region 3 with fail
  generalize w.alloc (.cells #[.int .i64 x, .int .i64 y] 61) = w1 at HL HB HS ⊢
  obtain ⟨B, hB⟩ : ∃ B, w.heap.size = B := ⟨_, rfl⟩
  have HBW := hid (show w.heap.size ≤ B by omega)
  rw [hB] at HB HS ⊢
  clear hB
  go_loopw [9, 10] (fun r o wr => ∃ (L : List Jp2) (p : Jp2) (b : Bool), o = .bool b ∧ JBox wr B p.1 p.2 ∧ OwnJps (B + 1) wr r L ∧ L.length ≤ n ∧ (b = true → jpN p ∧ L ++ runJ f (n - L.length) p = R) ∧ (b = false → L = R) ∧ Later w wr ∧ B + 1 ≤ wr.heap.size)
    (fun r _ _ => n - lenOfH r)
  case atStart => exact ⟨[], (x, y), true, rfl, HB.out, OwnJps.nil _ _, Nat.zero_le _, fun _ => ⟨HN.out, by simpa using HR.out⟩, (fun h => by cases h), HL.out, HS.out⟩
  case round =>
    clear HB HL HS
    obtain ⟨L, p, b, rfl, hBx, hO, hle, ht, hff, hL, hBS⟩ := hrel
    obtain ⟨a, c⟩ := p
    have HB := hid hBx
    have HO := hid hO
    have HL := hid hL
    have HS := hid hBS
    have HT := hid ht
    have HFF := hid hff
    obtain ⟨o1, o2, rfl, _⟩ := hO.shape
    clear hBx hO hL ht hff
    cases b
    · have HE := hid (HFF.out rfl)
      have HOB := hid (HO.out.base (lo' := w.heap.size) (by have := HBW.out; have := HB.out.lt; omega))
      clear hle
      go_wp2_with fail
      go_ret
      rw [← HE.out]
      exact ⟨_, rfl, HOB.out, HL.out⟩
    · obtain ⟨hNa, hRn⟩ := HT.out rfl
      have HRN := hid hRn
      have HNA := hid hNa
      clear hRn hNa
      by_cases hlt : L.length < n
      · have hltI : (L.length : Int) < (n : Int) := by omega
        obtain ⟨c0, c1, f0, f1⟩ := HB.out
        have hA := Later.alloc wr (.cells #[.int .i64 a, .int .i64 c] 61)
        have HB8 := hid (HB.out.later hA)
        have HO8 := hid (HO.out.later hA)
        have HL8 := hid (HL.out.trans hA)
        have hCs : B + 1 ≤ wr.heap.size := HS.out
        have hll : L.length ≤ 2000 := by omega
        clear hA
        go_wp2_with (at_builtin; refine wpList_append_lies _ (by rfl) _ _ _ (by rfl) (B + 1) 61 i0 (.agg #[.int .i64 0, .int .i64 0]) 2 16 Try.underlying87 hi hz0 hz1 hz2 rfl (by omega) _ L.length (jpCells L) (by rfl) (by exact HO8.out) ⟨wr.heap.size, 0, none⟩ 1 1 [.int .i64 a, .int .i64 c] (by rfl) (by rfl) (World.news_of_block (cs := #[.int .i64 a, .int .i64 c]) (t := 61) (fr := (0, 0)) (heap_alloc_new wr _)) (by simp [Value.oneCell']) (by omega) (by unfold maxLen; omega) (by omega) (by simp; omega) (wr.heap.size + 1) (by simp) ?_)
        intro g' cap1 w9 hown9 hgrow hat hglt
        have HO9 := hid (show OwnJps (B + 1) w9 (.slice (some ⟨g', 0, none⟩) (L.length + 1) cap1) (L ++ [(a, c)]) by
          unfold OwnJps; rw [jpCells_snoc, List.length_append]; exact hown9)
        have HB9 := hid (HB8.out.keep (hgrow.block B (by simp; omega) (fun e => by have := (HO8.out.lt B e.symm).1; omega)))
        have HL9 := hid (show Later w w9 from HL8.out.grown hgrow (by have := HL.out.size; simp; omega) (fun b' hb' => by have := (HO8.out.lt b' hb').1; have := HBW.out; omega))
        have HS9 := hid (show B + 1 ≤ w9.heap.size by have := hgrow.size; simp at this; omega)
        obtain ⟨d0, d1, g0, g1⟩ := HB9.out
        clear hown9 hgrow hat c0 c1 f0 f1 hCs
        go_wp2_with fail
        refine (HC.out (a, c) _ HNA.out).mono ?_
        rintro e w3 ⟨rfl, hL3⟩
        have HO3 := hid (HO9.out.later hL3)
        have HB3 := hid (HB9.out.later hL3)
        have HL3 := hid (HL9.out.trans hL3)
        have HS3 := hid (Nat.le_trans HS9.out hL3.size)
        clear hL3 d0 d1 g0 g1
        obtain ⟨d0, d1, g0, g1⟩ := HB3.out
        have HLEN := hid (show n - L.length = (n - (L ++ [(a, c)]).length) + 1 by simp; omega)
        cases hfa : f (a, c) with
        | none =>
          have HE := hid (show L ++ [(a, c)] = R by have h := HRN.out; rw [HLEN.out, runJ_none hfa] at h; exact h)
          clear hfa
          unfold jpA
          simp only [Option.getD_none, Option.isSome_none]
          go_wp2_with fail
          have HO4 := hid (HO3.out.setJ (B := B) (by omega) (.int .i64 0) (.int .i64 0))
          go_roundw
          case rel => exact ⟨L ++ [(a, c)], (0, 0), false, rfl, HB3.out.set 0 0, by simpa using HO4.out, by simp; omega, (fun h => by cases h), fun _ => HE.out, setJ_later HL3.out HBW.out _ _, by simpa using HS3.out⟩
          case measure => simp only [lenOfH]; omega
        | some q =>
          obtain ⟨qa, qc⟩ := q
          have HE := hid (show L ++ [(a, c)] ++ runJ f (n - (L ++ [(a, c)]).length) (qa, qc) = R by have h := HRN.out; rw [HLEN.out, runJ_some hfa] at h; rw [List.append_assoc]; exact h)
          have HQ := hid (HF.out _ _ HNA.out hfa)
          clear hfa
          unfold jpA
          simp only [Option.getD_some, Option.isSome_some]
          go_wp2_with fail
          have HO4 := hid (HO3.out.setJ (B := B) (by omega) (.int .i64 qa) (.int .i64 qc))
          go_roundw
          case rel => exact ⟨L ++ [(a, c)], (qa, qc), true, rfl, HB3.out.set qa qc, by simpa using HO4.out, by simp; omega, (fun _ => ⟨HQ.out, HE.out⟩), (fun h => by cases h), setJ_later HL3.out HBW.out _ _, by simpa using HS3.out⟩
          case measure => simp only [lenOfH]; omega
      · have hLn : L.length = n := by omega
        have HE := hid (show L = R by have h := HRN.out; rw [hLn, Nat.sub_self] at h; simpa [runJ] using h)
        have HOB := hid (HO.out.base (lo' := w.heap.size) (by have := HBW.out; omega))
        have hltI : ¬ (L.length : Int) < (n : Int) := by omega
        clear hLn
        go_wp2_with fail
        go_ret
        rw [← HE.out]
        exact ⟨_, rfl, HOB.out, HL.out⟩
end Go.Proofs.Ythejafejmbpepaa
