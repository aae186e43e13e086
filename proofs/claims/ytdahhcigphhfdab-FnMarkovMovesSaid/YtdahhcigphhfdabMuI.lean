/- The triples behind moves up, in the program. -/
import Derived.Test.YtdahhcigphhfdabPathI
import Derived.Test.YtdahhcigphhfdabMuS
import Derived.Deep.QuietTactic
namespace Go.Proofs.Ytdahhcigphhfdab
open Go.RowKit

/-- Some world behind w. -/
structure LaterM (w : World) where
  now : World
  later : Later w now
instance (w : World) : Inhabited (LaterM w) := ⟨⟨w, Later.refl w⟩⟩
theorem wp_region_quiet_laterM {P : Program} {id : Nat} {Q : Exit → Act → World → Prop} {a : Act} {w : World} {l : List Oper} (hm : P.follows .mixedOrders = true) (hB : Region.lexB .any l.toArray = true)
    (h : wpQuiet P l.toArray (fun w' => ∃ p : LaterM w, w' = p.now) (fun a' => ∀ w', (∃ p : LaterM w, w' = p.now) → Q .normal a' w') l a) : (Code.region id l.toArray true).wp P Q a w :=
  wp_region_quiet (C := fun w' => ∃ p : LaterM w, w' = p.now) hm hB ⟨⟨w.drew, Later.drew w⟩, rfl⟩ (by simpa using h)
theorem Calls.laterM {P : Program} {f : FuncId} {args : Array Value} {w : World} (p : LaterM w) {v : Value} (h : Calls P f args p.now fun e w' => e = .returned v ∧ Later p.now w') :
    Calls P f args p.now fun e w'' => e = .returned v ∧ ∃ q : LaterM w, w'' = q.now :=
  h.mono fun _ w' ⟨he, hL⟩ => ⟨he, ⟨w', p.later.trans hL⟩, rfl⟩
def trOf (l : List Int) : Tr := (l.getD 0 0, l.getD 1 0, l.getD 2 0)
def hi3 (l : List Int) : Int := high3 (l.getD 0 0) (l.getD 1 0) (l.getD 2 0)
def upT (x y z most : Int) : Nat → List Tr
  | 0 => []
  | i + 1 => upT x y z most i ++ (if high3 x y z < hi3 (moveL x y z i) ∧ hi3 (moveL x y z i) ≤ most then [trOf (moveL x y z i)] else [])
theorem upT_len (x y z most : Int) (i : Nat) : (upT x y z most i).length ≤ i := by
  induction i with
  | zero => simp [upT]
  | succ i ih => unfold upT; rw [List.length_append]; split <;> simp <;> omega

theorem ownsRow_base3 {w : World} {lo lo' : Nat} {e : TypeId} {v : Value} {n k : Nat} {xs : List Value} (h : w.ownsRow lo e k v n xs) (hl : lo' ≤ lo) : w.ownsRow lo' e k v n xs := by
  refine ⟨h.1, ?_⟩
  rcases h.2 with hn | ⟨g, cap, cur, rfl, hb, rest⟩
  · exact .inl hn
  · exact .inr ⟨g, cap, cur, rfl, Nat.le_trans hl hb, rest⟩

set_option maxRecDepth 20000 in
set_option maxHeartbeats 2000000 in
theorem upsWithin_any (x y z most : Int) (w : World) (hx : Cnt0 x) (hy : Cnt0 y) (hz : Cnt0 z) :
    Calls Try.prog 112 #[.agg #[.int .i64 x, .int .i64 y, .int .i64 z], .int .i64 most] w fun e w' => ∃ v, e = .returned v ∧ OwnTris w.heap.size w' v (upT x y z most 3) ∧ Later w w' := by
  obtain ⟨i0, hi, hz0, hz1, hz2⟩ := info_parts Try.infoTri
  have hb0 : (w.alloc (.cells #[.int .i64 x, .int .i64 y, .int .i64 z] 106)).cell? ⟨w.heap.size, 0, none⟩ = some (.int .i64 x) := by simp [go_sem]
  have hb1 : (w.alloc (.cells #[.int .i64 x, .int .i64 y, .int .i64 z] 106)).cell? ⟨w.heap.size, 1, none⟩ = some (.int .i64 y) := by simp [go_sem]
  have hb2 : (w.alloc (.cells #[.int .i64 x, .int .i64 y, .int .i64 z] 106)).cell? ⟨w.heap.size, 2, none⟩ = some (.int .i64 z) := by simp [go_sem]
  have HB := hid (And.intro hb0 (And.intro hb1 hb2))
  have HL := hid (Later.alloc w (.cells #[.int .i64 x, .int .i64 y, .int .i64 z] 106))
  have HX := hid (And.intro hx (And.intro hy hz))
  have HUL := hid (upT_len x y z most)
  have HUS := hid (fun i => show upT x y z most (i + 1) = upT x y z most i ++ (if high3 x y z < hi3 (moveL x y z i) ∧ hi3 (moveL x y z i) ≤ most then [trOf (moveL x y z i)] else []) from rfl)
  obtain ⟨H, hH⟩ : ∃ H, high3 x y z = H := ⟨_, rfl⟩
  have HH := hid hH
  rw [hH] at HUS
  clear hx hy hz hb0 hb1 hb2 hH
  go_enter Try.func112, Try.ntmps112
  go_wp2_with fail
  generalize w.alloc (.cells #[.int .i64 x, .int .i64 y, .int .i64 z] 106) = w1 at HB HL ⊢
  obtain ⟨B, hB⟩ : ∃ B, w.heap.size = B := ⟨_, rfl⟩
  have HBW := hid hB
  rw [hB] at HB ⊢
  clear hB
  go_loopw [5, 8] (fun o i wr => ∃ (k : Nat), k ≤ 3 ∧ i = .int .i64 k ∧ OwnTris w1.heap.size wr o (upT x y z most k) ∧ Later w1 wr) (fun _ i _ => 3 - (intOf i).toNat)
  case atStart => exact ⟨0, by omega, rfl, World.ownsRow_nil _ _ _ _, Later.refl _⟩
  case round =>
    obtain ⟨k, hk, rfl, hO, hL⟩ := hrel
    have HO := hid hO
    have HLr := hid hL
    by_cases hlt : k < 3
    · have hkI : (k : Int) < 3 := by omega
      obtain ⟨c0, c1, c2⟩ := HB.out
      replace c0 := hL.cell c0
      replace c1 := hL.cell c1
      replace c2 := hL.cell c2
      have HST := hid (HUS.out k)
      have hul := HUL.out k
      obtain ⟨a5, c5, rfl, _⟩ := hO.shape
      have HMV := hid (moved_any x y z k (by omega) wr HX.out.1 HX.out.2.1 HX.out.2.2)
      clear hO hL
      go_wp2_with fail
      refine HMV.out.mono ?_
      rintro e w2 ⟨p, q, r, hm, rfl, hL2⟩
      rw [hm] at HST
      have HTR := hid (show trOf [p, q, r] = (p, q, r) from rfl)
      have HHI := hid (show hi3 [p, q, r] = high3 p q r from rfl)
      rw [HTR.out, HHI.out] at HST
      obtain ⟨G, hG⟩ : ∃ G, high3 p q r = G := ⟨_, rfl⟩
      have HG := hid hG
      rw [hG] at HST
      have hA := Later.alloc w2 (.cells #[.int .i64 p, .int .i64 q, .int .i64 r] 106)
      have d0 : (w2.alloc (.cells #[.int .i64 p, .int .i64 q, .int .i64 r] 106)).cell? ⟨w2.heap.size, 0, none⟩ = some (.int .i64 p) := by simp [go_sem]
      have d1 : (w2.alloc (.cells #[.int .i64 p, .int .i64 q, .int .i64 r] 106)).cell? ⟨w2.heap.size, 1, none⟩ = some (.int .i64 q) := by simp [go_sem]
      have d2 : (w2.alloc (.cells #[.int .i64 p, .int .i64 q, .int .i64 r] 106)).cell? ⟨w2.heap.size, 2, none⟩ = some (.int .i64 r) := by simp [go_sem]
      have HO2 := hid ((HO.out.later hL2).later hA)
      have HL2 := hid ((HLr.out.trans hL2).trans hA)
      replace c0 := hA.cell (hL2.cell c0)
      replace c1 := hA.cell (hL2.cell c1)
      replace c2 := hA.cell (hL2.cell c2)
      clear hm hL2 hA hG
      go_upto_region 6 with fail
      generalize hwa : w2.alloc (.cells #[.int .i64 p, .int .i64 q, .int .i64 r] 106) = wa at HO2 HL2 c0 c1 c2 d0 d1 d2 ⊢
      have ka0 : ∀ p : LaterM wa, p.now.cell? ⟨B, 0, none⟩ = some (.int .i64 x) := fun p => p.later.cell c0
      have ka1 : ∀ p : LaterM wa, p.now.cell? ⟨B, 1, none⟩ = some (.int .i64 y) := fun p => p.later.cell c1
      have ka2 : ∀ p : LaterM wa, p.now.cell? ⟨B, 2, none⟩ = some (.int .i64 z) := fun p => p.later.cell c2
      have kb0 : ∀ u : LaterM wa, u.now.cell? ⟨w2.heap.size, 0, none⟩ = some (.int .i64 p) := fun u => u.later.cell d0
      have kb1 : ∀ u : LaterM wa, u.now.cell? ⟨w2.heap.size, 1, none⟩ = some (.int .i64 q) := fun u => u.later.cell d1
      have kb2 : ∀ u : LaterM wa, u.now.cell? ⟨w2.heap.size, 2, none⟩ = some (.int .i64 r) := fun u => u.later.cell d2
      have HG1 := hid (fun u : LaterM wa => show Calls Try.prog 106 #[.agg #[.int .i64 p, .int .i64 q, .int .i64 r]] u.now fun e w' => e = .returned (.int .i64 G) ∧ Later u.now w' by have := greatest_any p q r u.now; rw [HG.out] at this; exact this)
      have HG2 := hid (fun u : LaterM wa => show Calls Try.prog 106 #[.agg #[.int .i64 x, .int .i64 y, .int .i64 z]] u.now fun e w' => e = .returned (.int .i64 H) ∧ Later u.now w' by have := greatest_any x y z u.now; rw [HH.out] at this; exact this)
      obtain ⟨w2s, hw2s⟩ : ∃ n, w2.heap.size = n := ⟨_, rfl⟩
      rw [hw2s] at kb0 kb1 kb2 ⊢
      clear c0 c1 c2 d0 d1 d2 hwa hw2s
      by_cases hHG : H < G
      · by_cases hGM : G ≤ most
        · have HS2 := hid (HST.out.trans (by rw [if_pos ⟨hHG, hGM⟩]))
          refine wp_region_quiet_laterM (by kernel_rfl) (by kernel_rfl) ?_
          repeat
            with_reducible refine wpQuiet_step (fun K hK => ?_)
            go_simp
            first
              | (with_reducible refine hK _ ?_; clear hK K)
              | (apply Exists.intro
                 refine ⟨fun _ => ?_, hK _ ?_⟩
                 (go_at_call 106; first | (with_reducible exact Calls.laterM _ (HG1.out _)) | (with_reducible exact Calls.laterM _ (HG2.out _)) | (trace_state; fail))
                 clear hK K)
          with_reducible refine wpQuiet_nil ?_
          intro wq hw'
          obtain ⟨⟨_, hLq⟩, hw''⟩ := hw'
          subst hw''
          have HL3 := hid (HL2.out.trans hLq)
          have HO3 := hid (HO2.out.later hLq)
          have e0 := hLq.cell (kb0 ⟨wa, Later.refl wa⟩)
          have e1 := hLq.cell (kb1 ⟨wa, Later.refl wa⟩)
          have e2 := hLq.cell (kb2 ⟨wa, Later.refl wa⟩)
          clear hLq ka0 ka1 ka2 kb0 kb1 kb2
          have hA := Later.alloc wq (.cells #[.int .i64 p, .int .i64 q, .int .i64 r] 106)
          have HO4 := hid (HO3.out.later hA)
          have HL4 := hid (HL3.out.trans hA)
          have hsz := HL3.out.size
          clear hA
          go_wp2_with (at_builtin; refine wpList_append_lies _ (by rfl) _ _ _ (by rfl) w1.heap.size 106 i0 (.agg #[.int .i64 0, .int .i64 0, .int .i64 0]) 3 24 Try.underlying108 hi hz0 hz1 hz2 rfl (by omega) _ (upT x y z most k).length (trCells (upT x y z most k)) (by rfl) (by exact HO4.out) ⟨wq.heap.size, 0, none⟩ 1 1 [.int .i64 p, .int .i64 q, .int .i64 r] (by rfl) (by rfl) (World.news_of_block (cs := #[.int .i64 p, .int .i64 q, .int .i64 r]) (t := 106) (fr := (0, 0)) (heap_alloc_new wq _)) (by simp [Value.oneCell']) (by omega) (by unfold maxLen; omega) (by omega) (by simp; omega) (wq.heap.size + 1) (by simp) ?_)
          intro g cap1 w7 hown7 hgrow hat hglt
          have HO7 := hid (show OwnTris w1.heap.size w7 (.slice (some ⟨g, 0, none⟩) ((upT x y z most k).length + 1) cap1) (upT x y z most k ++ [(p, q, r)]) by
            unfold OwnTris; rw [trCells_snoc, List.length_append]; exact hown7)
          have HL7 := hid (show Later w1 w7 from HL4.out.grown hgrow (by simp; omega) (fun b' hb' => by have := (HO4.out.lt b' hb').1; omega))
          clear hown7 hgrow hat
          go_wp2_with fail
          go_roundw
          case rel => exact ⟨k + 1, by omega, by go_num, by rw [HS2.out]; exact HO7.out, HL7.out⟩
          case measure => simp [intOf]; omega
        · have HS2 := hid (HST.out.trans (by rw [if_neg (fun h => hGM h.2), List.append_nil]))
          refine wp_region_quiet_laterM (by kernel_rfl) (by kernel_rfl) ?_
          repeat
            with_reducible refine wpQuiet_step (fun K hK => ?_)
            go_simp
            first
              | (with_reducible refine hK _ ?_; clear hK K)
              | (apply Exists.intro
                 refine ⟨fun _ => ?_, hK _ ?_⟩
                 (go_at_call 106; first | (with_reducible exact Calls.laterM _ (HG1.out _)) | (with_reducible exact Calls.laterM _ (HG2.out _)) | (trace_state; fail))
                 clear hK K)
          with_reducible refine wpQuiet_nil ?_
          intro wq hw'
          obtain ⟨⟨_, hLq⟩, hw''⟩ := hw'
          subst hw''
          have HL3 := hid (HL2.out.trans hLq)
          have HO3 := hid (HO2.out.later hLq)
          clear hLq ka0 ka1 ka2 kb0 kb1 kb2
          go_wp2_with fail
          go_roundw
          case rel => exact ⟨k + 1, by omega, by go_num, by rw [HS2.out]; exact HO3.out, HL3.out⟩
          case measure => simp [intOf]; omega
      · have HS2 := hid (HST.out.trans (by rw [if_neg (fun h => hHG h.1), List.append_nil]))
        refine wp_region_quiet_laterM (by kernel_rfl) (by kernel_rfl) ?_
        repeat
          with_reducible refine wpQuiet_step (fun K hK => ?_)
          go_simp
          first
            | (with_reducible refine hK _ ?_; clear hK K)
            | (apply Exists.intro
               refine ⟨fun _ => ?_, hK _ ?_⟩
               (go_at_call 106; first | (with_reducible exact Calls.laterM _ (HG1.out _)) | (with_reducible exact Calls.laterM _ (HG2.out _)) | (trace_state; fail))
               clear hK K)
        with_reducible refine wpQuiet_nil ?_
        intro wq hw'
        obtain ⟨⟨_, hLq⟩, hw''⟩ := hw'
        subst hw''
        have HL3 := hid (HL2.out.trans hLq)
        have HO3 := hid (HO2.out.later hLq)
        clear hLq ka0 ka1 ka2 kb0 kb1 kb2
        go_wp2_with fail
        go_roundw
        case rel => exact ⟨k + 1, by omega, by go_num, by rw [HS2.out]; exact HO3.out, HL3.out⟩
        case measure => simp [intOf]; omega
    · obtain rfl : k = 3 := by omega
      have HLf := hid (HL.out.trans hL)
      clear hO hL
      go_wp2_with fail
      go_ret
      exact ⟨_, rfl, ownsRow_base3 HO.out HL.out.size, HLf.out⟩
end Go.Proofs.Ytdahhcigphhfdab
