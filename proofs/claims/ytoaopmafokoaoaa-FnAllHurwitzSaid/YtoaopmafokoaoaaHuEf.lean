/- Equations of Hurwitz: all numbers that do not rise are visited (the program's eachFalling). -/
import Derived.Test.YtoaopmafokoaoaaHuDlx
import Derived.Test.YtoaopmafokoaoaaHuY
import Derived.Test.YtoaopmafokoaoaaHuFa
namespace Go.Proofs.Ytoaopmafokoaoaa
open Go.RowKit

/-- A function value that visits solutions: what holds behind those that were visited, beside blocks P that it leaves alone. -/
structure Visitor (g : Nat) (lb : Array Value) (D : So → Prop) (Inv : (Nat → Prop) → List So → World → Prop) : Prop where
  call : ∀ P done s w, Inv P done w → D s → done.length ≤ 2560000 → Calls Try.prog g (#[soA s] ++ lb) w fun e w' => e = .returned (.tuple #[]) ∧ Inv P (done ++ [s]) w' ∧ ∀ b, P b → w'.heap[b]? = w.heap[b]?
  new : ∀ P done w o, Inv P done w → Inv (fun b => P b ∨ b = w.heap.size) done (w.alloc o)
  set : ∀ P done w b k v, Inv P done w → P b → Inv P done (w.setCell ⟨b, k, none⟩ v)
  weak : ∀ P P' done w, Inv P' done w → (∀ b, P b → P' b) → Inv P done w
theorem visP_mem (m : Nat) : ∀ (pre : List Int) (most : Nat) (l : List Int), l ∈ visP m pre most → ∃ suf, l = pre ++ suf ∧ suf.length = m ∧ fallB most suf = true := by
  induction m with
  | zero => intro pre most l h; simp [visP] at h; exact ⟨[], by simp [h], rfl, rfl⟩
  | succ m ih =>
    intro pre most l h
    unfold visP at h
    obtain ⟨x, hx, hl⟩ := List.mem_flatMap.1 h
    rw [List.mem_range] at hx
    obtain ⟨suf, e, hs, hf⟩ := ih _ _ _ hl
    refine ⟨((x + 1 : Nat) : Int) :: suf, by rw [e]; simp, by simp [hs], ?_⟩
    unfold fallB
    rw [hf, decide_eq_true (by omega), decide_eq_true (by omega)]
    rfl
theorem fallB_mono {m n : Int} (hmn : m ≤ n) : ∀ {zs : List Int}, fallB m zs = true → fallB n zs = true := by
  intro zs h
  cases zs with
  | nil => rfl
  | cons z zs =>
    unfold fallB at h ⊢
    rw [Bool.and_eq_true, Bool.and_eq_true, decide_eq_true_eq, decide_eq_true_eq] at h
    rw [h.2, decide_eq_true h.1.1, decide_eq_true (by omega)]
    rfl
theorem toSo_arr {pre : List Int} {x y z t : Int} (h : [x, y, z, t].take pre.length = pre) (hp : pre.length = 3 ∨ pre.length = 4) (h3 : pre.length = 3 → t = 0) : toSo pre = (x, y, z, t) := by
  rcases hp with h1 | h1
  · have ht := h3 h1
    rw [h1] at h
    rw [← h, ht]; rfl
  · rw [h1] at h
    rw [← h]; rfl
def visK (m : Nat) (pre : List Int) (k : Nat) : List (List Int) := (List.range k).flatMap fun x => visP m (pre ++ [((x + 1 : Nat) : Int)]) (x + 1)
theorem visK_succ (m : Nat) (pre : List Int) (k : Nat) : visK m pre (k + 1) = visK m pre k ++ visP m (pre ++ [((k + 1 : Nat) : Int)]) (k + 1) := by
  unfold visK; rw [List.range_succ, List.flatMap_append]; simp
theorem visP_succ (m : Nat) (pre : List Int) (most : Nat) : visP (m + 1) pre most = visK m pre most := rfl
theorem visK_le (m : Nat) (pre : List Int) {k n : Nat} (h : k ≤ n) : (visK m pre k).length ≤ (visK m pre n).length := by
  induction n with
  | zero => have : k = 0 := by omega
            rw [this]; exact Nat.le_refl _
  | succ n ih =>
    by_cases hk : k = n + 1
    · rw [hk]; exact Nat.le_refl _
    · rw [visK_succ, List.length_append]; have := ih (by omega); omega

/-- What the search's own variables hold. -/
structure Fill (w : World) (B3 B5 B6 B7 g : Nat) (lb : Array Value) (parts : Nat) (pre : List Int) : Prop where
  c3 : w.cell? ⟨B3, 0, none⟩ = some (.int .i64 parts)
  c5 : w.cell? ⟨B5, 0, none⟩ = some (.func (.func g) #[] lb)
  c7 : w.cell? ⟨B7, 0, none⟩ = some (.func (.func 116) #[] #[.pointer (some ⟨B3, 0, none⟩), .pointer (some ⟨B5, 0, none⟩), .pointer (some ⟨B6, 0, none⟩), .pointer (some ⟨B7, 0, none⟩)])
  box : ∃ x y z t, Box4 w B6 x y z t ∧ [x, y, z, t].take pre.length = pre ∧ (parts = 3 → t = 0)
theorem Fill.keep {w w' : World} {B3 B5 B6 B7 g : Nat} {lb : Array Value} {parts : Nat} {pre : List Int} (h : Fill w B3 B5 B6 B7 g lb parts pre) (k3 : w'.heap[B3]? = w.heap[B3]?) (k5 : w'.heap[B5]? = w.heap[B5]?) (k6 : w'.heap[B6]? = w.heap[B6]?) (k7 : w'.heap[B7]? = w.heap[B7]?) : Fill w' B3 B5 B6 B7 g lb parts pre := by
  obtain ⟨x, y, z, t, hb, h1, h2⟩ := h.box
  exact ⟨cell_keep h.c3 k3, cell_keep h.c5 k5, cell_keep h.c7 k7, x, y, z, t, hb.keep k6, h1, h2⟩

set_option maxRecDepth 20000 in
set_option maxHeartbeats 2000000 in
theorem fillC_any {g : Nat} {lb : Array Value} {D : So → Prop} {Inv : (Nat → Prop) → List So → World → Prop} (eg : ∀ args w, (callFunc g args).run Try.prog w = .ok (.enter g args) w) (V : Visitor g lb D Inv) (parts : Nat) (hparts : parts = 3 ∨ parts = 4)
    (B3 B5 B6 B7 : Nat) (h36 : B3 ≠ B6) (h56 : B5 ≠ B6) (h76 : B7 ≠ B6) (P : Nat → Prop) (p3 : P B3) (p5 : P B5) (p6 : P B6) (p7 : P B7) (m : Nat) :
    ∀ (pre : List Int) (most : Nat) (done : List So) (w : World), pre.length + m = parts → most ≤ 40 → (∀ l ∈ visP m pre most, D (toSo l)) → done.length + (visP m pre most).length ≤ 2560000 → Inv P done w → Fill w B3 B5 B6 B7 g lb parts pre →
    Calls Try.prog 116 #[.int .i64 pre.length, .int .i64 most, .pointer (some ⟨B3, 0, none⟩), .pointer (some ⟨B5, 0, none⟩), .pointer (some ⟨B6, 0, none⟩), .pointer (some ⟨B7, 0, none⟩)] w fun e w' =>
      e = .returned (.tuple #[]) ∧ Inv P (done ++ (visP m pre most).map toSo) w' ∧ Fill w' B3 B5 B6 B7 g lb parts pre ∧ ∀ b, P b → b ≠ B6 → w'.heap[b]? = w.heap[b]? := by
  induction m with
  | zero =>
    intro pre most done w hpm hmo hD hdl hI hF
    have HI := hid hI
    have HF := hid hF
    obtain ⟨c3, c5, c7, x, y, z, t, hb, ht1, ht2⟩ := hF
    obtain ⟨⟨d0, d1, d2, d3⟩, _⟩ := hb
    have hpl : pre.length = parts := by omega
    have HE := hid (show toSo pre = (x, y, z, t) from toSo_arr ht1 (by rw [hpl]; exact hparts) (fun h => ht2 (by rw [← hpl]; exact h)))
    have HD := hid (hD pre (by simp [visP]))
    have HV := hid (V.call P done (x, y, z, t) w HI.out (by rw [← HE.out]; exact HD.out) (by simp [visP] at hdl; omega))
    have heq : ((pre.length : Int) == (parts : Int)) = true := by rw [hpl]; simp
    clear hI hD hdl ht1 ht2 hpl
    go_enter Try.func116, Try.ntmps116
    go_wp2_with (go_at_fn g; refine HV.out.mono ?_; rintro e w2 ⟨rfl, hI2, hk2⟩; have HI2 := hid hI2; have HK2 := hid hk2; clear hI2 hk2)
    refine bodyPost_ret (v := .tuple #[]) (by simp [results, Try.results116, go_sem]) rfl ?_
    refine ⟨rfl, ?_, HF.out.keep (HK2.out _ p3) (HK2.out _ p5) (HK2.out _ p6) (HK2.out _ p7), fun b hb _ => HK2.out b hb⟩
    have := HI2.out
    rw [← HE.out] at this
    exact this
  | succ m ih =>
    intro pre most done w hpm hmo hD hdl hI hF
    have HIH := hid (fun pre most done w h1 h2 h3 h4 h5 h6 => ih pre most done w h1 h2 h3 h4 h5 h6)
    have HI := hid hI
    have HF := hid hF
    have HVK := hid (visK_succ m pre)
    have HVL := hid (fun k (hk : k ≤ most) => Nat.le_trans (Nat.add_le_add_left (visK_le m pre hk) done.length) hdl)
    have HDD := hid (fun k (hk : k < most) l (hl : l ∈ visP m (pre ++ [((k + 1 : Nat) : Int)]) (k + 1)) => hD l (by rw [visP_succ]; exact List.mem_flatMap.2 ⟨k, List.mem_range.2 hk, hl⟩))
    have hne : ((pre.length : Int) == (parts : Int)) = false := beq_eq_false_iff_ne.2 (by omega)
    have hp4 : (pre.length : Int) < 4 := by omega
    have hp0 : (0 : Int) ≤ (pre.length : Int) := by omega
    obtain ⟨c3, _, _, _⟩ := hF
    rw [visP_succ]
    clear hI hD hdl ih
    go_enter Try.func116, Try.ntmps116
    go_wp2_with fail
    go_loopw [8] (fun i wr => ∃ k : Nat, k ≤ most ∧ i = .int .i64 ((k : Int) + 1) ∧ Inv P (done ++ (visK m pre k).map toSo) wr ∧ Fill wr B3 B5 B6 B7 g lb parts pre ∧ ∀ b, P b → b ≠ B6 → wr.heap[b]? = w.heap[b]?) (fun i _ => most + 1 - (intOf i).toNat)
    case atStart => exact ⟨0, Nat.zero_le _, by simp, by simpa [visK] using HI.out, HF.out, fun _ _ _ => rfl⟩
    case round =>
      obtain ⟨k, hk, rfl, hI, hF, hK⟩ := hrel
      have HIk := hid hI
      have HFk := hid hF
      have HKk := hid hK
      by_cases hlt : k < most
      · have hkI : (k : Int) + 1 ≤ (most : Int) := by omega
        obtain ⟨c3', c5, c7, x, y, z, t, hb, ht1, ht2⟩ := hF
        have HT1 := hid ht1
        have HT2 := hid ht2
        have HB := hid hb
        obtain ⟨⟨d0, d1, d2, d3⟩, f0, f1, f2, f3⟩ := hb
        have hpl4 : pre.length < 4 := by omega
        have dat := HB.out.arr.at pre.length hpl4
        have fat : wr.frozen? ⟨B6, pre.length, none⟩ = false := by
          have h4 : pre.length = 0 ∨ pre.length = 1 ∨ pre.length = 2 ∨ pre.length = 3 := by omega
          rcases h4 with h | h | h | h <;> rw [h] <;> assumption
        clear hI hK ht1 ht2
        go_wp2_with fail
        obtain ⟨x', y', z', t', hA, he⟩ := HB.out.arr.setAt pre.length hpl4 ((k : Int) + 1)
        have hF2 := HB.out.frz.set ⟨B6, pre.length, none⟩ (.int .i64 ((k : Int) + 1))
        have HI2 := hid (V.set P _ wr B6 pre.length (.int .i64 ((k : Int) + 1)) HIk.out p6)
        have HK2 := hid (fun b (hb : b ≠ B6) => heap_setCell_other wr ⟨B6, pre.length, none⟩ b (.int .i64 ((k : Int) + 1)) hb)
        have HFL := hid (show Fill (wr.setCell ⟨B6, pre.length, none⟩ (.int .i64 ((k : Int) + 1))) B3 B5 B6 B7 g lb parts (pre ++ [((k + 1 : Nat) : Int)]) from by
          refine ⟨cell_keep c3' (HK2.out B3 h36), cell_keep c5 (HK2.out B5 h56), cell_keep c7 (HK2.out B7 h76), x', y', z', t', ⟨hA, hF2⟩, ?_, fun h3 => ?_⟩
          · rw [he, List.length_append, List.length_singleton, List.take_set, take_snoc [x, y, z, t] pre.length (by simpa using hpl4), HT1.out, List.set_append_right _ _ (Nat.le_refl _), Nat.sub_self]
            simp
          · have h4 : pre.length = 0 ∨ pre.length = 1 ∨ pre.length = 2 := by omega
            have := HT2.out h3
            rcases h4 with h | h | h <;> rw [h] at he <;> simp at he <;> omega)
        have HC := hid (HIH.out (pre ++ [((k + 1 : Nat) : Int)]) (k + 1) (done ++ (visK m pre k).map toSo) _ (by simp; omega) (by omega) (HDD.out k hlt) (by
          have := HVL.out (k + 1) hlt
          rw [HVK.out, List.length_append] at this
          rw [List.length_append, List.length_map]; omega) HI2.out HFL.out)
        rw [show (((pre ++ [((k + 1 : Nat) : Int)]).length : Nat) : Int) = (pre.length : Int) + 1 by simp, show ((k + 1 : Nat) : Int) = (k : Int) + 1 by omega] at HC
        refine HC.out.mono ?_
        rintro e w3 ⟨rfl, hI3, hF3, hK3⟩
        have HI3 := hid (show Inv P (done ++ (visK m pre (k + 1)).map toSo) w3 by
          rw [HVK.out, List.map_append, ← List.append_assoc, show ((k + 1 : Nat) : Int) = (k : Int) + 1 by omega]; exact hI3)
        have HF3 := hid (show Fill w3 B3 B5 B6 B7 g lb parts pre from by
          obtain ⟨q3, q5, q7, x2, y2, z2, t2, hb2, u1, u2⟩ := hF3
          refine ⟨q3, q5, q7, x2, y2, z2, t2, hb2, ?_, u2⟩
          have e2 : ([x2, y2, z2, t2].take (pre ++ [(k : Int) + 1]).length).take pre.length = pre := by rw [u1]; simp
          rw [List.take_take, Nat.min_eq_left (by simp)] at e2
          exact e2)
        have HK3 := hid (show ∀ b, P b → b ≠ B6 → w3.heap[b]? = w.heap[b]? from fun b hb hb6 => (hK3 b hb hb6).trans ((HK2.out b hb6).trans (HKk.out b hb hb6)))
        clear hI3 hF3 hK3 hA he hF2 d0 d1 d2 d3 f0 f1 f2 f3 dat fat
        go_wp2_with fail
        go_roundw
        case rel => exact ⟨k + 1, hlt, by go_num, HI3.out, HF3.out, HK3.out⟩
        case measure => simp [intOf]; omega
      · obtain rfl : k = most := by omega
        clear hI hF hK
        go_wp2_with fail
        refine bodyPost_end (v := .tuple #[]) ?_ rfl ?_
        · simp [results, Try.results116, go_sem]
        · exact ⟨rfl, HIk.out, HFk.out, HKk.out⟩

set_option maxRecDepth 20000 in
set_option maxHeartbeats 2000000 in
/-- All numbers that do not rise are visited, in order. -/
theorem eachFalling_any {g : Nat} {lb : Array Value} {D : So → Prop} {Inv : (Nat → Prop) → List So → World → Prop} (eg : ∀ args w, (callFunc g args).run Try.prog w = .ok (.enter g args) w) (V : Visitor g lb D Inv) (parts : Nat) (hparts : parts = 3 ∨ parts = 4)
    (most : Nat) (w : World) (hmo : most ≤ 40) (hD : ∀ l ∈ visP parts [] most, D (toSo l)) (P : Nat → Prop) (hI : Inv P [] w) :
    Calls Try.prog 72 #[.int .i64 parts, .int .i64 most, .func (.func g) #[] lb] w fun e w' => e = .returned (.tuple #[]) ∧ Inv P ((visP parts [] most).map toSo) w' ∧ ∀ b, P b → b < w.heap.size → w'.heap[b]? = w.heap[b]? := by
  have hvl : (visP parts [] most).length ≤ 2560000 := Nat.le_trans (visP_len _ _ _ hmo) (pow40 _ (by omega))
  have HI := hid hI
  have HD := hid hD
  have HV := hid V
  have HVL := hid hvl
  clear hI hD V hvl
  have hcell : ((((w.alloc (.cells #[.int .i64 parts] 3)).alloc (.cells #[.func (.func g) #[] lb] 96)).alloc (.cells #[.int .i64 0, .int .i64 0, .int .i64 0, .int .i64 0] 69)).alloc (.cells #[Value.nilFunc] 127)).cell? ⟨w.heap.size + 1 + 1 + 1, 0, none⟩ = some Value.nilFunc := by simp [go_sem]
  have hfrz : ((((w.alloc (.cells #[.int .i64 parts] 3)).alloc (.cells #[.func (.func g) #[] lb] 96)).alloc (.cells #[.int .i64 0, .int .i64 0, .int .i64 0, .int .i64 0] 69)).alloc (.cells #[Value.nilFunc] 127)).frozen? ⟨w.heap.size + 1 + 1 + 1, 0, none⟩ = false := by simp [go_sem]
  have hst : Sem.run Try.prog (store ⟨w.heap.size + 1 + 1 + 1, 0, none⟩ (.func (.func 116) #[] #[.pointer (some ⟨w.heap.size, 0, none⟩), .pointer (some ⟨w.heap.size + 1, 0, none⟩), .pointer (some ⟨w.heap.size + 1 + 1, 0, none⟩), .pointer (some ⟨w.heap.size + 1 + 1 + 1, 0, none⟩)])) ((((w.alloc (.cells #[.int .i64 parts] 3)).alloc (.cells #[.func (.func g) #[] lb] 96)).alloc (.cells #[.int .i64 0, .int .i64 0, .int .i64 0, .int .i64 0] 69)).alloc (.cells #[Value.nilFunc] 127)) = .ok () (((((w.alloc (.cells #[.int .i64 parts] 3)).alloc (.cells #[.func (.func g) #[] lb] 96)).alloc (.cells #[.int .i64 0, .int .i64 0, .int .i64 0, .int .i64 0] 69)).alloc (.cells #[Value.nilFunc] 127)).setCell ⟨w.heap.size + 1 + 1 + 1, 0, none⟩ (.func (.func 116) #[] #[.pointer (some ⟨w.heap.size, 0, none⟩), .pointer (some ⟨w.heap.size + 1, 0, none⟩), .pointer (some ⟨w.heap.size + 1 + 1, 0, none⟩), .pointer (some ⟨w.heap.size + 1 + 1 + 1, 0, none⟩)])) := by
    rw [run_store _ _ _ _ _ rfl]
    rw [hcell, hfrz]
    rfl
  have h1 := HV.out.new P [] w (.cells #[.int .i64 parts] 3) HI.out
  have h2 := HV.out.new _ [] _ (.cells #[.func (.func g) #[] lb] 96) h1
  have h3 := HV.out.new _ [] _ (.cells #[.int .i64 0, .int .i64 0, .int .i64 0, .int .i64 0] 69) h2
  have h4 := HV.out.new _ [] _ (.cells #[(.func (.func 116) #[] #[.pointer (some ⟨w.heap.size, 0, none⟩), .pointer (some ⟨w.heap.size + 1, 0, none⟩), .pointer (some ⟨w.heap.size + 1 + 1, 0, none⟩), .pointer (some ⟨w.heap.size + 1 + 1 + 1, 0, none⟩)])] 127) h3
  have e1 : (w.alloc (.cells #[.int .i64 parts] 3)).heap.size = w.heap.size + 1 := by simp
  have e2 : ((w.alloc (.cells #[.int .i64 parts] 3)).alloc (.cells #[.func (.func g) #[] lb] 96)).heap.size = w.heap.size + 1 + 1 := by simp
  have e3 : (((w.alloc (.cells #[.int .i64 parts] 3)).alloc (.cells #[.func (.func g) #[] lb] 96)).alloc (.cells #[.int .i64 0, .int .i64 0, .int .i64 0, .int .i64 0] 69)).heap.size = w.heap.size + 1 + 1 + 1 := by simp
  rw [e1, e2, e3] at h4
  have hfill : Fill ((((w.alloc (.cells #[.int .i64 parts] 3)).alloc (.cells #[.func (.func g) #[] lb] 96)).alloc (.cells #[.int .i64 0, .int .i64 0, .int .i64 0, .int .i64 0] 69)).alloc (.cells #[(.func (.func 116) #[] #[.pointer (some ⟨w.heap.size, 0, none⟩), .pointer (some ⟨w.heap.size + 1, 0, none⟩), .pointer (some ⟨w.heap.size + 1 + 1, 0, none⟩), .pointer (some ⟨w.heap.size + 1 + 1 + 1, 0, none⟩)])] 127)) w.heap.size (w.heap.size + 1) (w.heap.size + 1 + 1) (w.heap.size + 1 + 1 + 1) g lb parts [] := by
    refine ⟨by simp [go_sem], by simp [go_sem], by simp [go_sem], 0, 0, 0, 0, ⟨⟨by simp [go_sem], by simp [go_sem], by simp [go_sem], by simp [go_sem]⟩, ⟨by simp [go_sem], by simp [go_sem], by simp [go_sem], by simp [go_sem]⟩⟩, rfl, fun _ => rfl⟩
  have hold : ∀ b, b < w.heap.size → ((((w.alloc (.cells #[.int .i64 parts] 3)).alloc (.cells #[.func (.func g) #[] lb] 96)).alloc (.cells #[.int .i64 0, .int .i64 0, .int .i64 0, .int .i64 0] 69)).alloc (.cells #[(.func (.func 116) #[] #[.pointer (some ⟨w.heap.size, 0, none⟩), .pointer (some ⟨w.heap.size + 1, 0, none⟩), .pointer (some ⟨w.heap.size + 1 + 1, 0, none⟩), .pointer (some ⟨w.heap.size + 1 + 1 + 1, 0, none⟩)])] 127)).heap[b]? = w.heap[b]? := by
    intro b hb
    have hl := (((Later.alloc w (.cells #[.int .i64 parts] 3)).trans (Later.alloc _ (.cells #[.func (.func g) #[] lb] 96))).trans (Later.alloc _ (.cells #[.int .i64 0, .int .i64 0, .int .i64 0, .int .i64 0] 69))).trans (Later.alloc _ (.cells #[(.func (.func 116) #[] #[.pointer (some ⟨w.heap.size, 0, none⟩), .pointer (some ⟨w.heap.size + 1, 0, none⟩), .pointer (some ⟨w.heap.size + 1 + 1, 0, none⟩), .pointer (some ⟨w.heap.size + 1 + 1 + 1, 0, none⟩)])] 127))
    exact hl.block b hb
  have H5 := hid h4
  have HFI := hid hfill
  have HOLD := hid hold
  have HST := hid hst
  clear h1 h2 h3 h4 hfill hold e1 e2 e3 hcell hfrz hst
  have hst := HST.out
  go_enter Try.func72, Try.ntmps72
  go_wp2_with fail
  generalize ((((w.alloc (.cells #[.int .i64 parts] 3)).alloc (.cells #[.func (.func g) #[] lb] 96)).alloc (.cells #[.int .i64 0, .int .i64 0, .int .i64 0, .int .i64 0] 69)).alloc (.cells #[(.func (.func 116) #[] #[.pointer (some ⟨w.heap.size, 0, none⟩), .pointer (some ⟨w.heap.size + 1, 0, none⟩), .pointer (some ⟨w.heap.size + 1 + 1, 0, none⟩), .pointer (some ⟨w.heap.size + 1 + 1 + 1, 0, none⟩)])] 127)) = w5 at H5 HFI HOLD ⊢
  have HC := fillC_any eg HV.out parts hparts w.heap.size (w.heap.size + 1) (w.heap.size + 1 + 1) (w.heap.size + 1 + 1 + 1) (by omega) (by omega) (by omega) _ (.inl (.inl (.inl (.inr rfl)))) (.inl (.inl (.inr rfl))) (.inl (.inr rfl)) (.inr rfl) parts [] most [] w5 (by simp) hmo HD.out (by simpa using HVL.out) H5.out HFI.out
  rw [show (((([] : List Int).length : Nat)) : Int) = 0 from rfl] at HC
  refine HC.mono ?_
  rintro e w6 ⟨rfl, hI6, _, hK6⟩
  have HI6 := hid (HV.out.weak P _ _ _ hI6 (fun b hb => .inl (.inl (.inl (.inl hb)))))
  have HK6 := hid (fun b (hb : P b) (hbw : b < w.heap.size) => (hK6 b (.inl (.inl (.inl (.inl hb)))) (by omega)).trans (HOLD.out b hbw))
  clear hI6 hK6 HC
  go_wp2_with fail
  refine bodyPost_end (v := .tuple #[]) ?_ rfl ?_
  · simp [results, Try.results72, go_sem]
  · exact ⟨rfl, by simpa using HI6.out, HK6.out⟩
end Go.Proofs.Ytoaopmafokoaoaa
