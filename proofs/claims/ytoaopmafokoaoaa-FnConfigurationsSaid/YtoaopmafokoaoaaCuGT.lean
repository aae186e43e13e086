/- CuG, TsG: in one text. -/
import Derived.Test.YtoaopmafokoaoaaCuAB
import Derived.Test.YtoaopmafokoaoaaWrQ
import Derived.Test.YtoaopmafokoaoaaBasB
namespace Go.Proofs.Ytoaopmafokoaoaa
open Go.RowKit


theorem Cur.newG (w : World) (v : Value) (bs : List Int) (h : BytesR w v bs) (ty : TypeId) : Cur w (w.alloc (.cells #[v, .int .i64 0, .int .u64 0] ty)) w.heap.size v bs 0 :=
  ⟨Later.alloc w _, Nat.le_refl _, h, by simp [go_sem], ⟨0, 0, by simp [go_sem], Nat.le_refl _, by simp [go_sem], by omega, by omega⟩, by simp [go_sem], by simp [go_sem]⟩
theorem Cur.ltG {base w : World} {B : Nat} {v : Value} {bs : List Int} {m : Nat} (h : Cur base w B v bs m) : B < w.heap.size := World.block_lt_of_cell? w ⟨B, 0, none⟩ h.code
theorem Cur.allocG {base w : World} {B : Nat} {v : Value} {bs : List Int} {m : Nat} (h : Cur base w B v bs m) (o : Obj) : Cur base (w.alloc o) B v bs m := h.keep (Later.alloc w o)
theorem lit_cellsG (w : World) (zs : List Int) : ∀ i, i < zs.length → (w.alloc (.cells (zs.map (Value.int .i64)).toArray 3)).cell? ⟨w.heap.size, i, none⟩ = some (.int .i64 (zs.getD i 0)) := by
  intro i hi
  simp [go_sem, hi]
def OneNumG (base : World) (e : Ending) (w' : World) : Prop := ∃ a : Int, e = .returned (.int .i64 a) ∧ Later base w'
/-- one list of numbers, whichever they are -/
def OneListG (base : World) (e : Ending) (w' : World) : Prop := ∃ u zs, e = .returned u ∧ OwnInts base.heap.size w'.heap.size w' u zs ∧ zs.length ≤ 1000 ∧ Later base w'
theorem Cur.keepG {base w w' : World} {B : Nat} {v : Value} {bs : List Int} {m : Nat} (h : Cur base w B v bs m) (k : w'.heap[B]? = w.heap[B]?) (hl : Later base w') : Cur base w' B v bs m := by
  obtain ⟨_, h2, h3, h4, ⟨a, s, r1, r2, r3, r4⟩, h6, h7⟩ := h
  exact ⟨hl, h2, h3, cell_keep h4 k, ⟨a, s, cell_keep r1 k, r2, cell_keep r3 k, r4⟩, (World.frozen?_of_block k).trans h6, (World.frozen?_of_block k).trans h7⟩
/-- a list of one's own behind the cursor's block is left by what the cursor does -/
theorem OwnInts.keepG {lo : Nat} {w w' : World} {B : Nat} {v : Value} {zs : List Int} (h : OwnInts lo w.heap.size w v zs) (hB : B < lo) (hG : w.grownBy w' (some B)) : OwnInts lo w'.heap.size w' v zs :=
  (h.keep fun b h1 h2 => hG.block b h2 (fun e => by injection e with e; omega)).wide (Nat.le_refl _) hG.size
/-- the cursor is left by what changes a list behind it -/
theorem Cur.besideG {base w w' : World} {B lo : Nat} {u v : Value} {bs : List Int} {m : Nat} (h : Cur base w B v bs m) (hB : B < lo) (hb : ∀ b, u.ownBlock = some b → lo ≤ b) (hG : w.grownBy w' u.ownBlock) : Cur base w' B v bs m :=
  h.keepG (hG.block B h.ltG (fun e => by have := hb B e.symm; omega)) (h.later.grown hG h.later.size (fun b e => by have := hb b e; have := h.behind; omega))
theorem OwnInts.storeG {lo hi : Nat} {w : World} {g c : Nat} {zs : List Int} (h : OwnInts lo hi w (.slice (some ⟨g, 0, none⟩) zs.length c) zs) (k : Nat) (x : Int) :
    OwnInts lo hi (w.setCell ⟨g, k, none⟩ (.int .i64 x)) (.slice (some ⟨g, 0, none⟩) zs.length c) (zs.set k x) := by
  have h1 := (h.1.stored k (.int .i64 x)).1
  refine ⟨?_, h.2⟩
  rw [List.length_set, List.map_set]
  exact h1
theorem ownInts_nilG (lo hi : Nat) (w : World) : OwnInts lo hi w (.slice none 0 0) [] := ⟨World.ownsRow_nil _ _ _ _, fun b hb => by simp [Value.ownBlock] at hb⟩
/-- a list that was written out -/
theorem ownInts_litG (w : World) (lo : Nat) (hlo : lo ≤ w.heap.size) (zs : List Int) (hz : zs.length ≤ 1000) : OwnInts lo (w.alloc (.cells (zs.map (Value.int .i64)).toArray 3)).heap.size (w.alloc (.cells (zs.map (Value.int .i64)).toArray 3)) (.slice (some ⟨w.heap.size, 0, none⟩) zs.length zs.length) zs := by
  have h := World.ownsRow_lit (e := 3) (size := 1) w (zs.map (Value.int .i64)).toArray zs.length hlo (by unfold maxLen; omega) (by simp)
  refine ⟨by simpa using h, fun k hk => ?_⟩
  simp [Value.ownBlock] at hk ⊢
  omega
theorem mulBdG {x y B C : Int} (hx : -B ≤ x ∧ x ≤ B) (hy : -C ≤ y ∧ y ≤ C) : -(B * C) ≤ x * y ∧ x * y ≤ B * C := by
  constructor
  · have h1 := Int.mul_nonneg (show 0 ≤ B + x by omega) (show 0 ≤ C + y by omega)
    have h2 := Int.mul_nonneg (show 0 ≤ B - x by omega) (show 0 ≤ C - y by omega)
    grind
  · have h1 := Int.mul_nonneg (show 0 ≤ B + x by omega) (show 0 ≤ C - y by omega)
    have h2 := Int.mul_nonneg (show 0 ≤ B - x by omega) (show 0 ≤ C + y by omega)
    grind
theorem wpList_pushG {ops : Array Oper} {rest : List Oper} {o : Oper} {a : Act} {Q : Exit → Act → World → Prop} (hgd : o.guard = none) (s x : Operand)
    (ho : o.op = .call { callee := .builtin .append, args := #[s, x], argTypes := #[24, 24] }) (lo : Nat) (w W : World) (v : Value) (L : List Int) (p : Int)
    (hs : a.eval s = v) (hlo : lo ≤ w.heap.size) (hO : OwnInts lo w.heap.size w v L) (hlen : L.length ≤ 1000000) (hx : a.eval x = .slice (some ⟨w.heap.size, 0, none⟩) 1 1)
    (hW : W = w.alloc (.cells #[.int .i64 p] 3))
    (h : ∀ g cap w', OwnInts lo w'.heap.size w' (.slice (some ⟨g, 0, none⟩) (L.length + 1) cap) (L ++ [p]) → w.grownBy w' v.ownBlock → lo ≤ g → wpList Try.prog ops Q rest (a.put o.dst (.slice (some ⟨g, 0, none⟩) (L.length + 1) cap)) w') :
    wpList Try.prog ops Q (o :: rest) a W := by
  obtain ⟨i0, hi, hz0, hz1, hz2⟩ := info_parts Try.infoInt
  have hA := Later.alloc w (.cells #[.int .i64 p] 3)
  have hown4 := hO.1.alloc (.cells #[.int .i64 p] 3)
  have hnew := World.news_of_block (cs := #[.int .i64 p]) (t := 3) (fr := (0, 0)) (heap_alloc_new w (.cells #[.int .i64 p] 3))
  subst hW
  refine wpList_append_lies _ hgd s x _ ho lo 3 i0 (.int .i64 0) 1 8 Try.underlying24 hi hz0 hz1 hz2 rfl (by omega) v L.length (L.map (Value.int .i64)) hs hown4 ⟨w.heap.size, 0, none⟩ 1 1 [.int .i64 p] hx rfl hnew (by simp [Value.oneCell']) (by omega) (by unfold maxLen; omega) (by omega) (by simp; omega) (w.heap.size + 1) (by simp) ?_
  intro g' cap1 w7 hown7 hgrow hat hglt
  have hlg : lo ≤ g' := by
    rcases hat with e | e
    · exact (hown4.lt g' e).1
    · omega
  refine h g' cap1 w7 (OwnInts.ofH hown7 (by simp)) ?_ hlg
  exact ⟨hgrow.os.trans hA.os, hgrow.tape.trans hA.tape, hgrow.output.trans hA.output, Nat.le_trans hA.size hgrow.size, fun k hk hne => (hgrow.block k (Nat.lt_of_lt_of_le hk hA.size) hne).trans (hA.block k hk)⟩
theorem OwnInts.ownG {lo hi : Nat} {w : World} {v : Value} {zs : List Int} (h : OwnInts lo hi w v zs) : ∀ b, v.ownBlock = some b → lo ≤ b := fun b hb => (h.1.lt b hb).1
/-- one number of a list that is laid for it -/
theorem curLitG_any (base w : World) (B : Nat) (v : Value) (bs : List Int) (m : Nat) (zs : List Int) (hm : m ≤ 900000000) (hz : 0 < zs.length) (hz2 : zs.length ≤ 1000) (h : Cur base w B v bs m) :
    Calls Try.prog 46 #[.pointer (some ⟨B, 0, none⟩), .slice (some ⟨w.heap.size, 0, none⟩) zs.length zs.length] (w.alloc (.cells (zs.map (Value.int .i64)).toArray 3)) fun e w' =>
      ∃ x : Int, e = .returned (.int .i64 x) ∧ x ∈ zs ∧ Cur base w' B v bs (m + 2) ∧ w.grownBy w' (some B) := by
  have hB := h.ltG
  refine (curAmong_any base _ B v bs m w.heap.size zs.length zs hm hz hz2 (by omega) (h.allocG _) (lit_cellsG w zs)).mono ?_
  rintro e w' ⟨x, rfl, hx, hC, hG⟩
  exact ⟨x, rfl, hx, hC, grown_trans (grown_of_later (Later.alloc w _) B) hG⟩
theorem curOneG_any (base w : World) (B : Nat) (v : Value) (bs : List Int) (m : Nat) (n : Int) (hm : m ≤ 900000000) (hn : n ≤ 9223372036854775807) (h : Cur base w B v bs m) :
    Calls Try.prog 45 #[.pointer (some ⟨B, 0, none⟩), .int .i64 n] w fun e w' => ∃ b : Bool, e = .returned (.bool b) ∧ Cur base w' B v bs (m + 2) ∧ w.grownBy w' (some B) := by
  have H := hid h
  clear h
  go_enter Try.func45, Try.ntmps45
  go_wp2_with fail
  refine (curPick_any base w B v bs m n hm hn H.out).mono ?_
  rintro e w1 ⟨x, rfl, _, _, hC, hG⟩
  have HC := hid hC
  have HG := hid hG
  clear hC hG
  go_wp2_with fail
  go_ret
  exact ⟨_, rfl, HC.out, HG.out⟩
/-- a number is stored into a list of one's own behind the cursor -/
theorem storeG {base w : World} {B lo g c k : Nat} {v : Value} {bs : List Int} {m : Nat} {zs : List Int} (hC : Cur base w B v bs m) (hO : OwnInts lo w.heap.size w (.slice (some ⟨g, 0, none⟩) zs.length c) zs) (hB : B < lo) (x : Int) :
    Cur base (w.setCell ⟨g, k, none⟩ (.int .i64 x)) B v bs m ∧ OwnInts lo (w.setCell ⟨g, k, none⟩ (.int .i64 x)).heap.size (w.setCell ⟨g, k, none⟩ (.int .i64 x)) (.slice (some ⟨g, 0, none⟩) zs.length c) (zs.set k x) := by
  have hg := hO.ownG g rfl
  have hb := hC.behind
  refine ⟨hC.keepG (heap_setCell_other w ⟨g, k, none⟩ B (.int .i64 x) (by simp only; omega)) (hC.later.setCell (by simp only; omega) (.int .i64 x)), ?_⟩
  rw [World.size_setCell]
  exact hO.storeG k x


/-- a list that a method of the cursor draws -/
def CurListM (base : World) (B : Nat) (v : Value) (bs : List Int) (m : Nat) (e : Ending) (w' : World) : Prop :=
  ∃ u zs, e = .returned u ∧ OwnInts (B + 1) w'.heap.size w' u zs ∧ zs.length ≤ 1000 ∧ Cur base w' B v bs m
def ListNumM (base : World) (e : Ending) (w' : World) : Prop := ∃ u zs, ∃ k : Int, e = .returned (.tuple #[u, .int .i64 k]) ∧ OwnInts base.heap.size w'.heap.size w' u zs ∧ zs.length ≤ 1000 ∧ Later base w'
theorem rowGrownM {lo B : Nat} {w2 w3 : World} {v : Value} {L : List (List Int)} (h : OwnRows lo w2.heap.size w2 v L) (hB : B < lo) (hG : w2.grownBy w3 (some B)) {i : Nat} (hi : i < L.length) :
    ∃ g cap u, v = .slice (some ⟨g, 0, none⟩) L.length cap ∧ w3.cell? ⟨g, i, none⟩ = some u ∧ OwnInts lo w3.heap.size w3 u (L.getD i []) := by
  obtain ⟨g, cap', u, hv, hcu, hu, _⟩ := h.row hi
  subst hv
  obtain ⟨us, _, h2, h3, _⟩ := h
  have hg := (h2.lt g rfl).1
  have e : ((⟨g, 0, none⟩ : Addr).add i) = ⟨g, i, none⟩ := by cases i <;> simp [Addr.add]
  rw [e] at hcu
  refine ⟨g, cap', u, rfl, cell_keep hcu (hG.block g (h3 g rfl) (fun e => by injection e with e; omega)), ?_⟩
  exact hu.keepG hB hG
/-- a cursor and a list of one's own of some numbers behind it -/
structure TsM (base : World) (B : Nat) (v : Value) (bs : List Int) (m g c : Nat) (zs : List Int) (w : World) : Prop where
  cur : Cur base w B v bs m
  own : OwnInts (B + 1) w.heap.size w (.slice (some ⟨g, 0, none⟩) zs.length c) zs
theorem TsM.later {base w w' : World} {B : Nat} {v : Value} {bs : List Int} {m g c : Nat} {zs : List Int} (h : TsM base B v bs m g c zs w) (k : Later w w') : TsM base B v bs m g c zs w' :=
  ⟨h.cur.keep k, (h.own.later k).wide (Nat.le_refl _) k.size⟩
theorem TsM.cell {base w : World} {B : Nat} {v : Value} {bs : List Int} {m g c : Nat} {zs : List Int} (h : TsM base B v bs m g c zs w) {i : Nat} (hi : i < zs.length) : w.cell? ⟨g, i, none⟩ = some (.int .i64 (zs.getD i 0)) := by
  have := h.own.1.cellAt i (by omega)
  rw [this]
  simp [hi]
theorem TsM.frozen {base w : World} {B : Nat} {v : Value} {bs : List Int} {m g c : Nat} {zs : List Int} (h : TsM base B v bs m g c zs w) (i : Nat) : w.frozen? ⟨g, i, none⟩ = false := h.own.1.frozenAt i
def LitM (B D : Nat) (zs : List Int) (w : World) : Prop := D ≠ B ∧ D < w.heap.size ∧ ∀ i, i < zs.length → w.cell? ⟨D, i, none⟩ = some (.int .i64 (zs.getD i 0))
theorem LitM.grown {B D : Nat} {zs : List Int} {w w' : World} (h : LitM B D zs w) (k : w.grownBy w' (some B)) : LitM B D zs w' :=
  ⟨h.1, Nat.lt_of_lt_of_le h.2.1 k.size, fun i hi => cell_keep (h.2.2 i hi) (k.block D h.2.1 (fun e => h.1 (by injection e)))⟩
theorem LitM.new {B : Nat} {w : World} {zs : List Int} (hB : B < w.heap.size) : LitM B w.heap.size zs (w.alloc (.cells (zs.map (Value.int .i64)).toArray 3)) :=
  ⟨by omega, by simp, lit_cellsG w zs⟩
theorem pickTsM {base w : World} {B : Nat} {v : Value} {bs : List Int} {m g c : Nat} {zs : List Int} (hm : m ≤ 900000000) (n : Nat) (hn : 1 ≤ n ∧ n ≤ 1000) (h : TsM base B v bs m g c zs w) :
    Calls Try.prog 44 #[.pointer (some ⟨B, 0, none⟩), .int .i64 n] w fun e w' => ∃ i : Nat, e = .returned (.int .i64 i) ∧ i < n ∧ TsM base B v bs (m + 2) g c zs w' ∧ w.grownBy w' (some B) := by
  refine (curPick_any base w B v bs m n hm (by omega) h.cur).mono ?_
  rintro e w' ⟨x, rfl, x0, x1, hC, hG⟩
  obtain ⟨i, rfl⟩ : ∃ i : Nat, x = i := ⟨x.toNat, by omega⟩
  exact ⟨i, rfl, by split at x1 <;> omega, ⟨hC, h.own.keepG (Nat.lt_succ_self B) hG⟩, hG⟩
theorem amongTsM {base w : World} {B D : Nat} {v : Value} {bs : List Int} {m g c : Nat} {zs ys : List Int} (hm : m ≤ 900000000) (hy : 0 < ys.length ∧ ys.length ≤ 1000) (h : TsM base B v bs m g c zs w) (hD : LitM B D ys w) :
    Calls Try.prog 46 #[.pointer (some ⟨B, 0, none⟩), .slice (some ⟨D, 0, none⟩) ys.length ys.length] w fun e w' => ∃ x : Int, e = .returned (.int .i64 x) ∧ x ∈ ys ∧ TsM base B v bs (m + 2) g c zs w' ∧ w.grownBy w' (some B) := by
  refine (curAmong_any base w B v bs m D _ ys hm hy.1 hy.2 hD.1 h.cur hD.2.2).mono ?_
  rintro e w' ⟨x, rfl, hx, hC, hG⟩
  exact ⟨x, rfl, hx, ⟨hC, h.own.keepG (Nat.lt_succ_self B) hG⟩, hG⟩
end Go.Proofs.Ytoaopmafokoaoaa
