/- Contracts of the marks: markIntS .., heldIntS ..: what is marked is held. -/
import Derived.Test.YtcgdegmhajfbaacEq
namespace Go.Proofs.Ytcgdegmhajfbaac
open Go.RowKit

def iota (k : Int) (n : Nat) : List Int := (List.range n).map fun i : Nat => k + (i : Int)
theorem iota_length (k : Int) (n : Nat) : (iota k n).length = n := by simp [iota]
theorem iota_at (k : Int) (n i : Nat) (h : i < n) : (iota k n).getD i 0 = k + i := by simp [iota, h]
/-- how many cells lie before row j -/
def off (zss : List (List Int)) (j : Nat) : Nat := ((zss.take j).map List.length).sum
theorem off_zero (zss : List (List Int)) : off zss 0 = 0 := by simp [off]
theorem off_succ (zss : List (List Int)) (j : Nat) (h : j < zss.length) : off zss (j + 1) = off zss j + (zss.getD j []).length := by
  unfold off; rw [take_snoc zss j h, List.map_append, List.sum_append]; simp [h]
theorem off_mono (zss : List (List Int)) (d j : Nat) : off zss j ≤ off zss (j + d) := by
  induction d with
  | zero => exact Nat.le_refl _
  | succ d ih =>
    by_cases h : j + d < zss.length
    · have := off_succ zss (j + d) h; rw [← Nat.add_assoc]; omega
    · have : off zss (j + (d + 1)) = off zss (j + d) := by
        unfold off; rw [List.take_of_length_le (by omega), List.take_of_length_le (show zss.length ≤ j + d by omega)]
      omega
theorem off_le (zss : List (List Int)) (j m : Nat) (h : j ≤ m) : off zss j ≤ off zss m := by
  have := off_mono zss (m - j) j; rwa [show j + (m - j) = m by omega] at this
theorem off_bound (zss : List (List Int)) (M n : Nat) (h : ∀ i, i < zss.length → (zss.getD i []).length ≤ M) (hn : n ≤ zss.length) : off zss n ≤ n * M := by
  induction n with
  | zero => simp [off_zero]
  | succ n ih =>
    have h1 := off_succ zss n (by omega)
    have h2 := h n (by omega)
    have h3 := ih (by omega)
    rw [Nat.add_mul]; omega
theorem off_args (zss : List (List Int)) (h : ∀ i, i < zss.length → (zss.getD i []).length ≤ 1048576) (hn : zss.length ≤ 1048576) : off zss zss.length ≤ 1099511627776 := by
  have h1 := off_bound zss 1048576 zss.length h (Nat.le_refl _)
  have h2 := Nat.mul_le_mul_right 1048576 hn
  omega
def marks (k : Int) (zss : List (List Int)) : List (List Int) := (List.range zss.length).map fun j => iota (k + off zss j) (zss.getD j []).length
theorem marks_length (k : Int) (zss : List (List Int)) : (marks k zss).length = zss.length := by simp [marks]
theorem marks_at (k : Int) (zss : List (List Int)) (j : Nat) (h : j < zss.length) : (marks k zss).getD j [] = iota (k + off zss j) (zss.getD j []).length := by simp [marks, h]

/-- Only blocks that B tells may have turned. -/
structure Wrote (B : Nat → Prop) (w w' : World) : Prop where
  os : w'.os = w.os
  tape : w'.tape = w.tape
  output : w'.output = w.output
  size : w'.heap.size = w.heap.size
  block : ∀ k, ¬ B k → w'.heap[k]? = w.heap[k]?
theorem Wrote.refl (B : Nat → Prop) (w : World) : Wrote B w w := ⟨rfl, rfl, rfl, rfl, fun _ _ => rfl⟩
theorem Wrote.trans {B : Nat → Prop} {a b c : World} (h : Wrote B a b) (k : Wrote B b c) : Wrote B a c :=
  ⟨k.os.trans h.os, k.tape.trans h.tape, k.output.trans h.output, k.size.trans h.size, fun i hi => (k.block i hi).trans (h.block i hi)⟩
theorem Wrote.mono {B C : Nat → Prop} {a b : World} (h : Wrote B a b) (k : ∀ i, B i → C i) : Wrote C a b :=
  ⟨h.os, h.tape, h.output, h.size, fun i hi => h.block i fun hb => hi (k i hb)⟩
theorem Wrote.setCell {B : Nat → Prop} (w : World) (a : Addr) (u : Value) (h : B a.block) : Wrote B w (w.setCell a u) :=
  ⟨rfl, rfl, rfl, by simp [World.setCell], fun k hk => heap_setCell_other w a k u (fun e => hk (by rw [e]; exact h))⟩
/-- A call that made what it wrote. -/
theorem Wrote.below {B : Nat → Prop} {n : Nat} {a b c : World} (h : Below n a b) (k : Wrote B b c) (hB : ∀ i, B i → n ≤ i) : Below n a c :=
  h.trans ⟨k.os, k.tape, k.output, Nat.le_of_eq k.size.symm, fun i hi => k.block i fun hb => by have := hB i hb; omega⟩

def MarkRes1 (lo hi : Nat) (w : World) (v : Value) (n : Nat) (k : Int) (e : Ending) (w' : World) : Prop :=
  e = .returned (.int .i64 (k + n)) ∧ OwnInts lo hi w' v (iota k n) ∧ Wrote (fun b => v.ownBlock = some b) w w'

theorem OwnInts.form {lo hi : Nat} {w : World} {v : Value} {zs : List Int} (h : OwnInts lo hi w v zs) : (v = .slice none 0 0 ∧ zs = []) ∨ ∃ g cap, v = .slice (some ⟨g, 0, none⟩) zs.length cap := by
  rcases h.1.2 with ⟨rfl, h0⟩ | ⟨g, cap, cur, rfl, _⟩
  · exact .inl ⟨rfl, List.eq_nil_of_length_eq_zero h0⟩
  · exact .inr ⟨g, cap, rfl⟩

set_option maxHeartbeats 400000 in
theorem markIntS_any (lo hi : Nat) (v : Value) (zs : List Int) (k : Int) (w : World) (hk : 0 ≤ k ∧ k + zs.length ≤ 4611686018427387904) (h : OwnInts lo hi w v zs) :
    Calls Try.prog 18 #[v, .int .i64 k] w fun e w' => MarkRes1 lo hi w v zs.length k e w' := by
  obtain ⟨hk0, hk1⟩ := hk
  have HI := hid h.2
  rcases h.form with ⟨rfl, rfl⟩ | ⟨g, cap, rfl⟩
  · have H := hid h
    clear h hk1
    go_enter Try.func18, Try.ntmps18
    go_wp2
    refine wp_loop_rounds 1 ?_; rw [rounds_succ]
    go_wp2
    go_ret
    exact ⟨ret_int (by simp), by simpa [iota] using H.out, Wrote.refl _ _⟩
  · have ho := h.1
    have hF : Filled lo 3 w (.slice (some ⟨g, 0, none⟩) zs.length cap) zs.length 0 ((iota k zs.length).map (Value.int .i64)) := ⟨_, ho, by simp⟩
    have HF0 := hid hF
    clear ho h hF
    go_enter Try.func18, Try.ntmps18
    go_wp2
    go_loopw [1, 5] (fun x i wr => ∃ j : Nat, j ≤ zs.length ∧ i = .int .i64 j ∧ x = .int .i64 (k + j) ∧ Filled lo 3 wr (.slice (some ⟨g, 0, none⟩) zs.length cap) zs.length j ((iota k zs.length).map (Value.int .i64)) ∧ Wrote (fun b => b = g) w wr)
      (fun _ i _ => zs.length - (intOf i).toNat)
    case atStart => exact ⟨0, Nat.zero_le _, rfl, by simp, HF0.out, Wrote.refl _ _⟩
    case round =>
      obtain ⟨j, hj, rfl, rfl, hFj, hW⟩ := hrel
      by_cases hlt : j < zs.length
      · obtain ⟨⟨u0, hu0⟩, hfr⟩ := hFj.at hlt
        have HF := hid (hFj.step hlt (u := .int .i64 (k + j)) (by simp [iota, hlt]))
        have HW := hid (hW.trans (Wrote.setCell wr ⟨g, j, none⟩ (.int .i64 (k + j)) rfl))
        clear hFj hW
        go_wp2
        go_roundw
        case rel => exact ⟨j + 1, hlt, by go_num, by go_num, HF.out, HW.out⟩
        case measure => simp [intOf]; omega
      · go_wp2
        go_ret
        have : j = zs.length := by omega
        subst this
        have ho := hFj.full (by simp [iota])
        refine ⟨rfl, ⟨by rw [iota_length]; exact ho, HI.out⟩, hW.mono fun i hi => by subst hi; rfl⟩

theorem OwnRows.row {w : World} {lo hi i : Nat} {v : Value} {zss : List (List Int)} (h : OwnRows lo hi w v zss) (hi' : i < zss.length) :
    ∃ g cap u, v = .slice (some ⟨g, 0, none⟩) zss.length cap ∧ w.cell? ((⟨g, 0, none⟩ : Addr).add i) = some u ∧ OwnInts lo hi w u (zss.getD i []) ∧
      ∀ w2 zs', OwnInts lo hi w2 u zs' → Wrote (fun b => u.ownBlock = some b) w w2 → OwnRows lo hi w2 v (zss.set i zs') := by
  obtain ⟨us, hl, ho, hb, hr, hd⟩ := h
  have hne : us.length ≠ 0 := by omega
  have ho' := ho
  rcases ho.2 with ⟨_, h0⟩ | ⟨g, cap, cur, rfl, hg⟩
  · exact absurd h0 hne
  · rw [hl]
    rw [hl] at ho'
    obtain ⟨cur', hcur⟩ := ownsRow_head ho'
    refine ⟨g, cap, us.getD i undef, rfl, ?_, hr i hi', fun w2 zs' h2 hW => ?_⟩
    · rw [addr_add0, ho'.cellAt i (by omega)]; simp [hl, hi']
    · have hnb : (us.getD i undef).ownBlock ≠ some g := (hr i hi').ne hcur
      refine ⟨us, by simp [hl], ?_, hb, ?_, ?_⟩
      · rw [hl]
        refine ownsRow_keep ho' fun b hbb => hW.block b ?_
        simp [Value.ownBlock] at hbb
        subst hbb; exact hnb
      · intro j hj
        simp only [List.length_set] at hj
        by_cases hij : i = j
        · subst hij
          rw [show (zss.set i zs').getD i [] = zs' by simp [hj]]
          exact h2
        · rw [show (zss.set i zs').getD j [] = zss.getD j [] by simp [List.getElem?_set_ne hij]]
          have h3 := hr j hj
          refine ⟨ownsRow_keep h3.1 fun b hbb => hW.block b fun hc => ?_, h3.2⟩
          rcases Nat.lt_or_gt_of_ne hij with hlt | hlt
          · exact hd i j hlt hj b hc hbb
          · exact hd j i hlt hi' b hbb hc
      · intro a b hab hbl; simp only [List.length_set] at hbl; exact hd a b hab hbl

theorem OwnInts.blk {w : World} {lo hi b : Nat} {v : Value} {zs : List Int} (h : OwnInts lo hi w v zs) (hb : v.ownBlock = some b) : lo ≤ b ∧ b < hi := ⟨(h.1.lt b hb).1, h.2 b hb⟩

def MarkRes2 (lo hi : Nat) (w : World) (v : Value) (zss : List (List Int)) (k : Int) (e : Ending) (w' : World) : Prop :=
  e = .returned (.int .i64 (k + (off zss zss.length : Nat))) ∧ OwnRows lo hi w' v (marks k zss) ∧ Wrote (fun b => lo ≤ b ∧ b < hi) w w'

/-- the first j rows are marked -/
def Marked (lo hi : Nat) (w0 w : World) (v : Value) (zss : List (List Int)) (k : Int) (j : Nat) : Prop :=
  ∃ L, L.length = zss.length ∧ L.take j = (marks k zss).take j ∧ L.drop j = zss.drop j ∧ OwnRows lo hi w v L ∧ Wrote (fun b => lo ≤ b ∧ b < hi) w0 w
theorem Marked.row {lo hi : Nat} {w0 w : World} {v : Value} {zss : List (List Int)} {k : Int} {j : Nat} (h : Marked lo hi w0 w v zss k j) (hj : j < zss.length) :
    ∃ g cap u, v = .slice (some ⟨g, 0, none⟩) zss.length cap ∧ w.cell? ((⟨g, 0, none⟩ : Addr).add j) = some u ∧ OwnInts lo hi w u (zss.getD j []) ∧
      ∀ w2, OwnInts lo hi w2 u (iota (k + off zss j) (zss.getD j []).length) → Wrote (fun b => u.ownBlock = some b) w w2 → Marked lo hi w0 w2 v zss k (j + 1) := by
  obtain ⟨L, hl, ht, hd, ho, hW⟩ := h
  have hLj : L.getD j [] = zss.getD j [] := by
    have h1 : (L.drop j).head? = (zss.drop j).head? := by rw [hd]
    simp only [List.head?_drop] at h1
    simp [List.getD_eq_getElem?_getD, h1]
  obtain ⟨g, cap, u, hv, hc, hu, hstep⟩ := ho.row (i := j) (by omega)
  rw [hLj] at hu
  refine ⟨g, cap, u, by rw [hv, hl], hc, hu, fun w2 h2 hW2 => ⟨L.set j (iota (k + off zss j) (zss.getD j []).length), by simp [hl], ?_, ?_, hstep w2 _ h2 hW2, hW.trans (hW2.mono fun b hb => hu.blk hb)⟩⟩
  · rw [List.take_succ_eq_append_getElem (by simp; omega), List.take_set_of_le (Nat.le_refl _), ht, take_snoc (marks k zss) j (by rw [marks_length]; exact hj)]
    have h5 := marks_at k zss j hj
    simp only [List.getD_eq_getElem?_getD, List.getElem?_eq_getElem (show j < (marks k zss).length by rw [marks_length]; exact hj), Option.getD_some] at h5
    rw [h5]; simp
  · rw [List.drop_set_of_lt (by omega), ← List.drop_drop, hd, List.drop_drop]

set_option maxHeartbeats 400000 in
theorem markIntSS_any (lo hi : Nat) (v : Value) (zss : List (List Int)) (k : Int) (w : World) (hk : 0 ≤ k ∧ k + (off zss zss.length : Nat) ≤ 4611686018427387904) (h : OwnRows lo hi w v zss) :
    Calls Try.prog 10 #[v, .int .i64 k] w fun e w' => MarkRes2 lo hi w v zss k e w' := by
  obtain ⟨hk0, hk1⟩ := hk
  obtain ⟨a, cap, rfl, _⟩ := h.shape
  have hl := (h.rows).choose_spec.choose_spec.2.1
  have HM := hid (show Marked lo hi w w (.slice a zss.length cap) zss k 0 from ⟨zss, rfl, by simp, by simp, h, Wrote.refl _ _⟩)
  clear h
  go_enter Try.func10, Try.ntmps10
  go_wp2
  go_loopw [1, 5] (fun x i wr => ∃ j : Nat, j ≤ zss.length ∧ i = .int .i64 j ∧ x = .int .i64 (k + (off zss j : Nat)) ∧ Marked lo hi w wr (.slice a zss.length cap) zss k j)
    (fun _ i _ => zss.length - (intOf i).toNat)
  case atStart => exact ⟨0, Nat.zero_le _, rfl, by simp [off_zero], HM.out⟩
  case round =>
    obtain ⟨j, hj, rfl, rfl, hMj⟩ := hrel
    by_cases hlt : j < zss.length
    · obtain ⟨g, cap', u, hv, hcell, hu, hstep⟩ := hMj.row hlt
      simp only [Value.slice.injEq, true_and] at hv
      obtain ⟨rfl, rfl⟩ := hv
      rw [addr_add0] at hcell
      have ho1 := off_succ zss j hlt
      have ho2 := off_le zss (j + 1) zss.length hlt
      have HS := hid hstep
      have HU := hid hu
      have HE := hid ho1
      clear hMj hstep hu
      go_wp2_with fail
      refine (markIntS_any lo hi u (zss.getD j []) _ _ ⟨by omega, by omega⟩ HU.out).mono ?_
      rintro e w2 ⟨rfl, h1, h2⟩
      have HN := hid (HS.out w2 h1 h2)
      clear h1 h2
      generalize (zss.getD j []).length = m at HE ho1 ⊢
      go_wp2_with fail
      go_roundw
      case rel => exact ⟨j + 1, hlt, by go_num, by rw [HE.out]; go_num, HN.out⟩
      case measure => simp [intOf]; omega
    · go_wp2
      go_ret
      have : j = zss.length := by omega
      subst this
      obtain ⟨L, hl, ht, hd, ho, hW⟩ := hMj
      rw [List.take_of_length_le (by omega), List.take_of_length_le (by rw [marks_length]; exact Nat.le_refl _)] at ht
      subst ht
      exact ⟨rfl, ho, hW⟩

/-! ### held -/

set_option maxHeartbeats 400000 in
theorem heldIntS_any (v : Value) (n : Nat) (k : Int) (w : World) (hk : 0 ≤ k ∧ k + n ≤ 4611686018427387904) (h : Ints w v (iota k n)) :
    Calls Try.prog 19 #[v, .int .i64 k] w fun e w' => e = .returned (.int .i64 (k + n)) ∧ w = w' := by
  obtain ⟨hk0, hk1⟩ := hk
  obtain ⟨a, cap, rfl, _, hc⟩ := h
  rw [iota_length] at hc
  rw [iota_length]
  have HC := hid hc; clear hc
  go_enter Try.func19, Try.ntmps19
  go_wp2
  go_loop [1, 5] (fun x i => ∃ j : Nat, j ≤ n ∧ i = .int .i64 j ∧ x = .int .i64 (k + j)) (fun _ i => n - (intOf i).toNat)
  case atStart => exact ⟨0, Nat.zero_le _, rfl, by simp⟩
  case round =>
    obtain ⟨j, hj, rfl, rfl⟩ := hrel
    by_cases hlt : j < n
    · obtain ⟨ad, rfl, hcell⟩ := HC.out j hlt
      rw [iota_at k n j hlt] at hcell
      have hb : ((k + (j : Int)) != (k + (j : Int))) = false := by simp
      go_wp2
      go_round
      case rel => exact ⟨j + 1, hlt, by go_num, by go_num⟩
      case measure => simp [intOf]; omega
    · go_wp2
      go_ret
      have : j = n := by omega
      subst this
      exact ⟨rfl, rfl⟩

set_option maxHeartbeats 400000 in
theorem heldIntSS_any (v : Value) (zss : List (List Int)) (k : Int) (w : World) (hk : 0 ≤ k ∧ k + (off zss zss.length : Nat) ≤ 4611686018427387904) (h : Rows2 w v (marks k zss)) :
    Calls Try.prog 11 #[v, .int .i64 k] w fun e w' => e = .returned (.int .i64 (k + (off zss zss.length : Nat))) ∧ w = w' := by
  obtain ⟨hk0, hk1⟩ := hk
  obtain ⟨a, cap, rfl, hl, hc⟩ := h
  rw [marks_length] at hc hl
  rw [marks_length]
  have HC := hid hc; clear hc
  go_enter Try.func11, Try.ntmps11
  go_wp2
  go_loop [1, 5] (fun x i => ∃ j : Nat, j ≤ zss.length ∧ i = .int .i64 j ∧ x = .int .i64 (k + (off zss j : Nat))) (fun _ i => zss.length - (intOf i).toNat)
  case atStart => exact ⟨0, Nat.zero_le _, rfl, by simp [off_zero]⟩
  case round =>
    obtain ⟨j, hj, rfl, rfl⟩ := hrel
    by_cases hlt : j < zss.length
    · obtain ⟨ad, u, rfl, hcell, hu⟩ := HC.out j hlt
      rw [marks_at k zss j hlt] at hu
      have ho1 := off_succ zss j hlt
      have ho2 := off_le zss (j + 1) zss.length hlt
      generalize (zss.getD j []).length = m at hu ho1
      have HU := hid hu
      have HE := hid ho1
      have hnn : ¬ k + (off zss j : Int) + (m : Int) < 0 := by omega
      go_wp2_with fail
      refine (heldIntS_any u m _ _ ⟨by omega, by omega⟩ HU.out).mono ?_
      rintro e w2 ⟨rfl, rfl⟩
      clear ho1
      go_wp2_with fail
      go_round
      case rel => exact ⟨j + 1, hlt, by go_num, by rw [HE.out]; go_num⟩
      case measure => simp [intOf]; omega
    · go_wp2
      go_ret
      have : j = zss.length := by omega
      subst this
      exact ⟨rfl, rfl⟩

end Go.Proofs.Ytcgdegmhajfbaac
