/- Contracts of the transposes. -/
import Derived.Test.YtmlnpnglafipbabSq
namespace Go.Proofs.Ytmlnpnglafipbab
open Go.RowKit

def transM (n : Nat) (m : List (List Int)) : List (List Int) := mk n fun i j => ent m j i

set_option maxHeartbeats 400000 in
theorem transposedEntry_any (n : Nat) (m : List (List Int)) (hq : Sq n m) (b : Nat) (v : Value) (i j : Nat) (w : World) (hi : i < n) (hj : j < n) (hb : w.cell? ⟨b, 0, none⟩ = some v) (h : Rows2 w v m) :
    Calls Try.prog 115 #[.int .i64 i, .int .i64 j, .pointer (some ⟨b, 0, none⟩)] w fun e w' => e = .returned (.int .i64 (ent m j i)) ∧ w = w' := by
  obtain ⟨ad, cap, a2, c2, rfl, hc, _, hx⟩ := h.ent hq j hj
  obtain ⟨ad2, rfl, hcx⟩ := hx i hi
  go_enter Try.func115, Try.ntmps115
  go_wp2_with fail
  go_ret
  exact ⟨rfl, rfl⟩

set_option maxHeartbeats 400000 in
theorem transposed_any (n : Nat) (m : List (List Int)) (hq : Sq n m) (v : Value) (w : World) (hn : n ≤ 1048576) (h : Rows2 w v m) :
    Calls Try.prog 72 #[v] w fun e w' => MadeRows w (transM n m) e w' := by
  obtain ⟨a, cap, rfl, hl⟩ := h.sqForm hq
  have hb : (w.alloc (.cells #[Value.slice a n cap] 79)).cell? ⟨w.heap.size, 0, none⟩ = some (.slice a n cap) := by simp [go_sem]
  have HR := hid (h.later (Later.alloc w (.cells #[Value.slice a n cap] 79)))
  have HL := hid (Later.alloc w (.cells #[Value.slice a n cap] 79))
  clear h
  go_enter Try.func72, Try.ntmps72
  go_wp2_with fail
  have HB := hid hb
  clear hb
  refine (gridOf_pure n 115 #[.pointer (some ⟨w.heap.size, 0, none⟩)] (fun i j => ent m j i) _ hn Try.call115 (fun i j w1 hi hj hL => (transposedEntry_any n m hq w.heap.size _ i j w1 hi hj (hL.cell HB.out) (HR.out.later hL)).mono fun e w2 ⟨he, hw⟩ => ⟨he, by subst hw; exact Later.refl _⟩)).mono ?_
  rintro e w1 ⟨v1, rfl, ho, hL⟩
  have HO := hid ho
  have HL1 := hid (HL.out.trans hL)
  clear ho hL
  go_wp2_with fail
  go_ret
  exact ⟨_, rfl, HO.out.wide (by simp) (Nat.le_refl _), HL1.out⟩

/-- entries that the model has laid: rows below i, and of row i those below j -/
def trState (m : List (List Int)) (i j : Nat) : Nat → Nat → Int := fun a b => if b < i ∨ (b = i ∧ a < j) then ent m b a else 0
theorem trState_step (m : List (List Int)) (i j : Nat) : upd (trState m i j) j i (ent m i j) = trState m i (j + 1) := by
  funext a b
  unfold upd trState
  by_cases h1 : a = j ∧ b = i
  · obtain ⟨rfl, rfl⟩ := h1; simp
  · rw [if_neg h1]
    have : (b < i ∨ b = i ∧ a < j) ↔ (b < i ∨ b = i ∧ a < j + 1) := by omega
    simp only [this]
theorem trState_next (n : Nat) (m : List (List Int)) (i : Nat) : mk n (trState m i n) = mk n (trState m (i + 1) 0) := by
  refine mk_congr n _ _ fun a b ha hb => ?_
  unfold trState
  have : (b < i ∨ b = i ∧ a < n) ↔ (b < i + 1 ∨ b = i + 1 ∧ a < 0) := by omega
  simp only [this]
theorem trState_zero (n : Nat) (m : List (List Int)) : mk n (trState m 0 0) = zeroM n n := by
  apply List.ext_getElem
  · simp [mk, zeroM]
  · intro a h1 h2
    simp [mk, zeroM, trState]
    exact (List.map_const' ..).symm ▸ by simp
theorem trState_full (n : Nat) (m : List (List Int)) : mk n (trState m n 0) = transM n m := by
  refine mk_congr n _ _ fun a b ha hb => ?_
  unfold trState
  rw [if_pos (Or.inl hb)]

set_option maxHeartbeats 2000000 in
theorem foTranspose_any (n : Nat) (m : List (List Int)) (hq : Sq n m) (v : Value) (w : World) (hn : n ≤ 1048576) (h : Rows2 w v m) :
    Calls Try.prog 68 #[.agg #[v]] w fun e w' => MadeMat w (transM n m) e w' := by
  obtain ⟨a, cap, rfl, hl⟩ := h.sqForm hq
  have hA := (Later.alloc w (.cells #[Value.slice a n cap] 42)).trans (Later.alloc _ (.cells #[Value.slice none 0 0] 42))
  have hb0 : Box ((w.alloc (.cells #[Value.slice a n cap] 42)).alloc (.cells #[Value.slice none 0 0] 42)) w.heap.size (.slice a n cap) := ⟨by simp [go_sem], by simp [go_sem]⟩
  have hb1 : Box ((w.alloc (.cells #[Value.slice a n cap] 42)).alloc (.cells #[Value.slice none 0 0] 42)) (w.heap.size + 1) (.slice none 0 0) := ⟨by simp [go_sem], by simp [go_sem]⟩
  have hs : w.heap.size + 2 ≤ ((w.alloc (.cells #[Value.slice a n cap] 42)).alloc (.cells #[Value.slice none 0 0] 42)).heap.size := by simp
  have HR := hid (h.later hA)
  have HL := hid hA
  clear h hA
  go_enter Try.func68, Try.ntmps68
  go_wp2_with fail
  generalize (w.alloc (.cells #[Value.slice a n cap] 42)).alloc (.cells #[Value.slice none 0 0] 42) = w1 at hb0 hb1 hs HR HL ⊢
  refine (foZero_any n _ hn).mono ?_
  rintro e w2 ⟨v2, rfl, ho, hL⟩
  obtain ⟨a2, cap2, hv2, _⟩ := ho.shape
  rw [show (zeroM n n).length = n by simp [zeroM]] at hv2
  subst hv2
  have hL2 := hL.trans (Later.alloc w2 (.cells #[Value.slice a2 n cap2] 42))
  have hb2 : Box (w2.alloc (.cells #[Value.slice a2 n cap2] 42)) w2.heap.size (.slice a2 n cap2) := ⟨by simp [go_sem], by simp [go_sem]⟩
  have hc0 := (hb0.later hL2).1
  have HB0 := hid (hb0.later hL2)
  have HB1 := hid (hb1.later hL2)
  have HO := hid (ho.later (Later.alloc w2 (.cells #[Value.slice a2 n cap2] 42)))
  have HL13 := hid hL2
  have hs2 : w.heap.size + 2 ≤ w2.heap.size := by have := hL.size; omega
  have hss := hL.size
  clear hL hL2 ho hb0 hb1
  go_wp2_with fail
  have hsz2 : w2.heap.size < (w2.alloc (.cells #[Value.slice a2 n cap2] 42)).heap.size := by simp
  generalize w2.alloc (.cells #[Value.slice a2 n cap2] 42) = w3 at hb2 hc0 HB0 HB1 HO HL13 hsz2 ⊢
  generalize w2.heap.size = B at hb2 HO hs2 hss hsz2 ⊢
  have HB2 := hid hb2
  clear hc0 hb2 w2
  go_loopw [15] (fun x wr => ∃ i : Nat, i ≤ n ∧ x = .int .i64 i ∧ OwnRows w1.heap.size B wr (.slice a2 n cap2) (mk n (trState m i 0)) ∧ Wrote (fun b => w1.heap.size ≤ b ∧ b < B) w3 wr) (fun x _ => n - (intOf x).toNat)
  case atStart => exact ⟨0, Nat.zero_le _, rfl, by rw [trState_zero]; exact HO.out, Wrote.refl _ _⟩
  case round =>
    obtain ⟨i, hi, rfl, hO, hW⟩ := hrel
    have hLr : Later w1 wr := Wrote.below HL13.out hW (fun b hb => hb.1)
    by_cases hlt : i < n
    · obtain ⟨ad, cap', ar, cr, hv, hcr, _, hx⟩ := HR.out.ent hq i hlt
      simp only [Value.slice.injEq, true_and] at hv
      obtain ⟨rfl, rfl⟩ := hv
      have hcr2 := hLr.cell hcr
      have HX := hid hx
      have HOi := hid hO
      have HWi := hid hW
      clear hx hO hW hLr hcr
      go_wp2_with fail
      go_loopw [22] (fun y wq => ∃ j : Nat, j ≤ n ∧ y = .int .i64 j ∧ OwnRows w1.heap.size B wq (.slice a2 n cap2) (mk n (trState m i j)) ∧ Wrote (fun b => w1.heap.size ≤ b ∧ b < B) w3 wq) (fun y _ => n - (intOf y).toNat)
      case atStart => exact ⟨0, Nat.zero_le _, rfl, HOi.out, HWi.out⟩
      case round =>
        obtain ⟨j, hj, rfl, hO, hW⟩ := hrel
        have hLr : Later w1 wr := Wrote.below HL13.out hW (fun b hb => hb.1)
        by_cases hjt : j < n
        · obtain ⟨ad2, rfl, hcx⟩ := HX.out j hjt
          have hcx2 := hLr.cell hcx
          obtain ⟨g, cg, gu, cu, hv, h1, h2, hcg, hcu, hfu, hset⟩ := hO.at2 j i hjt hlt
          simp only [Value.slice.injEq, true_and] at hv
          obtain ⟨rfl, rfl⟩ := hv
          have hbx := (HB2.out.keep (hW.block B (by omega))).1
          have hst := hset (ent m i j)
          rw [trState_step] at hst
          have HST := hid (And.intro hst.1 (hW.trans hst.2))
          clear hst hset hO hW hLr hcx hcr2
          go_wp2_with fail
          go_roundw
          case rel => exact ⟨j + 1, hjt, by go_num, HST.out.1, HST.out.2⟩
          case measure => simp [intOf]; omega
        · have hjn : j = n := by omega
          subst hjn
          have HO2 := hid hO
          have HW2 := hid hW
          clear hO hW hLr hcr2
          go_wp2_with fail
          go_roundw
          case rel => exact ⟨i + 1, hlt, by go_num, by rw [← trState_next]; exact HO2.out, HW2.out⟩
          case measure => simp [intOf]; omega
    · have hin : i = n := by omega
      subst hin
      rw [trState_full] at hO
      obtain ⟨hcb2, _⟩ := HB2.out.keep (hW.block B (by omega))
      obtain ⟨hcb1, hfb1⟩ := HB1.out.keep (hW.block _ (by omega))
      have HO2 := hid hO
      have HL4 := hid (HL.out.trans hLr)
      have hss3 : B < wr.heap.size := by have := hW.size; omega
      clear hO hW hLr
      go_wp2_with fail
      refine bodyPost_ret (v := .agg #[.slice a2 i cap2]) (by simp [results, Try.results68, go_sem, hcb1]) rfl ⟨_, rfl, ?_, ?_⟩
      · exact (HO2.out.setCell (a := ⟨w.heap.size + 1, 0, none⟩) (by simp; omega) _).wide (by omega) (by simp [World.setCell]; omega)
      · exact HL4.out.setCell (by simp) _
end Go.Proofs.Ytmlnpnglafipbab
