/- Texts whose letters are told one by one by a function value: spelling.text. -/
import Derived.Test.YtmmapfdmdliifaaGreatDoorWdS
import Derived.Laws.IdiomStrings
import Derived.Laws.EntriesVeiled
namespace Go.Proofs.YtmmapfdmdliifaaGreatDoor
open Go.RowKit

theorem Tryz.infoByte8 : (Tryz.prog.info? 5).map (fun i => (i.zero, i.size, i.bytes)) = some (some (.int .u8 0), 1, 1) := by kernel_rfl
theorem ownsRow_keep4 {w w' : World} {lo : Nat} {e : TypeId} {v : Value} {n : Nat} {xs : List Value} (h : w.ownsRow lo e 1 v n xs)
    (k : ∀ b, v.ownBlock = some b → w'.heap[b]? = w.heap[b]?) : w'.ownsRow lo e 1 v n xs := ownsRow_keep h k

set_option maxRecDepth 20000 in
set_option maxHeartbeats 2000000 in
theorem text_any (l : List UInt8) (F : Nat) (caps : Array Value) (w : World) (hn : l.length ≤ 1048576)
    (eg : ∀ args w, (callFunc F args).run Tryz.prog w = .ok (.enter F args) w)
    (hF : ∀ i w1, i < l.length → Later w w1 → Calls Tryz.prog F (#[.int .i64 (i : Nat)] ++ caps) w1 fun e w2 => e = .returned (.int .u8 ((l.getD i 0).toNat : Nat)) ∧ Later w1 w2) :
    Calls Tryz.prog 62 #[.agg #[.int .i64 (l.length : Nat), .func (.func F) #[] caps]] w fun e w' => e = .returned (.string ⟨l.toArray⟩) ∧ Later w w' := by
  have HF := hid hF
  clear hF
  obtain ⟨n, hln⟩ : ∃ n, l.length = n := ⟨_, rfl⟩
  rw [hln] at HF hn ⊢
  have HLN := hid hln
  clear hln
  obtain ⟨i0, hi, hz0, hz1, hz2⟩ := info_parts Tryz.infoByte8
  have HB := hid hz2
  have HC1 := hid (show (w.alloc (.cells #[Value.int .i64 (n : Nat), Value.func (.func F) #[] caps] 77)).cell? ⟨w.heap.size, 1, none⟩ = some (.func (.func F) #[] caps) by simp [go_sem])
  have HLW := hid (Later.alloc w (.cells #[Value.int .i64 (n : Nat), Value.func (.func F) #[] caps] 77))
  have HSZ := hid (show w.heap.size < (w.alloc (.cells #[Value.int .i64 (n : Nat), Value.func (.func F) #[] caps] 77)).heap.size by simp)
  go_enter Tryz.func62, Tryz.ntmps62
  go_wp2_with (at_make; generalize w.alloc (.cells #[Value.int .i64 (n : Nat), Value.func (.func F) #[] caps] 77) = W1 at HC1 HLW HSZ ⊢; refine wpList_make_full _ rfl _ _ 80 rfl W1.heap.size 5 i0 (.int .u8 0) 1 Tryz.underlying80 hi hz0 hz1 _ _ _ _ n rfl rfl rfl rfl ?b2 ?b3 ?b4 ?_)
  case b2 => rw [HB.out]; omega
  case b3 => unfold maxLen; omega
  case b4 => exact Nat.le_refl _
  intro w2 hown hgrow
  have hL2 : Later W1 w2 := (Below.refl _ _).grown hgrow (Nat.le_refl _) (by simp)
  have HO2 := hid hown
  have HL2 := hid hL2
  clear hown hgrow hL2
  go_wp2_with fail
  go_loopw [10] (fun k wr => ∃ (i : Nat) (xs : List Value), i ≤ n ∧ k = .int .i64 i ∧ wr.ownsRow W1.heap.size 5 1 (.slice (some ⟨W1.heap.size, 0, none⟩) n n) n xs ∧ (∀ j, j < i → xs[j]? = some (.int .u8 ((l.getD j 0).toNat : Nat))) ∧ Later W1 wr)
    (fun k _ => n - (intOf k).toNat)
  case atStart => exact ⟨0, _, Nat.zero_le _, rfl, HO2.out, fun j h1 => by omega, HL2.out⟩
  case round =>
    clear HO2 HL2
    obtain ⟨i, xs, hi, rfl, hxo, hxs, hL⟩ := hrel
    have HX := hid hxs
    have HXO := hid hxo
    have HLr := hid hL
    by_cases hlt : i < n
    · have hltI : (i : Int) < (n : Int) := by omega
      have hcf := hL.cell HC1.out
      have HCALL := hid (HF.out i wr hlt (HLW.out.trans hL))
      have hxl : xs.length = n := by have := hxo.1; simpa using this
      clear hxs hxo hL
      go_wp2_with fail
      refine HCALL.out.mono ?_
      rintro e w3 ⟨rfl, hL3⟩
      have hxo3 : w3.ownsRow W1.heap.size 5 1 (.slice (some ⟨W1.heap.size, 0, none⟩) n n) n xs := ownsRow_keep HXO.out fun b hb => hL3.block b (HXO.out.lt b hb).2
      have hL4 : Later W1 w3 := HLr.out.trans hL3
      obtain ⟨b, hb⟩ : ∃ b : Int, ((l.getD i 0).toNat : Int) = b := ⟨_, rfl⟩
      have HBE := hid hb
      rw [hb]
      clear hb
      obtain ⟨u0, hu0⟩ : ∃ u, xs[i]? = some u := ⟨xs[i]'(by omega), List.getElem?_eq_getElem (by omega)⟩
      have c0 : w3.cell? ⟨W1.heap.size, i, none⟩ = some u0 := (hxo3.cellAt i (by omega)).trans hu0
      have f0 : w3.frozen? ⟨W1.heap.size, i, none⟩ = false := hxo3.frozenAt i
      have HXS := hid (hxo3.stored i (.int .u8 b)).1
      have HL5 := hid (show Later W1 (w3.setCell ⟨W1.heap.size, i, none⟩ (.int .u8 b)) from Below.setCell hL4 (Nat.le_refl _) _)
      clear hxo3 hL4 hL3 hu0
      go_wp2_with fail
      go_roundw
      case rel => exact ⟨i + 1, xs.set i (.int .u8 b), hlt, by go_num, by simpa using HXS.out, fun j h1 => by
          by_cases hji : j = i
          · subst hji
            rw [← HBE.out]; simp [hxl, hlt]
          · rw [List.getElem?_set_ne (Ne.symm hji)]
            exact HX.out j (by omega), HL5.out⟩
      case measure => simp [intOf]; omega
    · have hin : i = n := by omega
      subst hin
      have hxl : xs.length = i := by have := hxo.1; simpa using this
      have hconv := run_convert_bytes_back (P := Tryz.prog) wr 80 9 5 ⟨W1.heap.size, 0, none⟩ i l Tryz.underlying80 Tryz.underlying5 Tryz.underlying9 (fun j hj => by
        rw [HLN.out] at hj
        rw [addr_add0, hxo.cellAt j (by omega), hxs j (by omega)]
        simp [HLN.out, hj])
      rw [HLN.out] at hconv
      have HLL := hid (HLW.out.trans hL)
      clear hxs hxo hL
      go_wp2_with fail
      go_ret
      exact ⟨rfl, HLL.out⟩
end Go.Proofs.YtmmapfdmdliifaaGreatDoor
