/- Right triples in the program: parents and words in both trees. -/
import Derived.Test.YtdahhcigphhfdacRiW
import Derived.Test.YtdahhcigphhfdacAns5
namespace Go.Proofs.Ytdahhcigphhfdac
open Go.RowKit

set_option maxRecDepth 20000 in
theorem implBergParent_any (v : Value) (zs : List Int) (w : World) (h : Ints w v zs) : Calls Try.prog 30 #[v] w fun e w' => InAns w (parentAns bergU zs) e w' := by
  have H := hid h
  obtain ⟨V, hV⟩ : ∃ V, Value.agg (tree3 (bergT 0) (bergT 1) (bergT 2)).toArray = V := ⟨_, rfl⟩
  have HT := hid (fun w0 => bergTree_any w0)
  have HP := hid (fun w0 h0 => parentOf_any treeBerg v zs w0 h0)
  rw [hV] at HT HP
  clear h hV
  go_enter Try.func30, Try.ntmps30
  go_wp2_with fail
  refine (HT.out _).mono ?_
  rintro e w1 ⟨rfl, hL1⟩
  have HL1 := hid hL1
  have H1 := hid (H.out.later hL1)
  clear hL1
  go_wp2_with fail
  refine (HP.out _ H1.out).mono ?_
  rintro e w2 ⟨v2, rfl, ho, hL⟩
  have HO2 := hid ho
  have HL2 := hid (HL1.out.trans hL)
  clear ho hL
  go_wp2_with fail
  go_ret3
  exact ⟨_, rfl, HO2.out.wide HL1.out.size (Nat.le_refl _), HL2.out⟩
set_option maxRecDepth 20000 in
theorem implBergWord_any (v : Value) (zs : List Int) (w : World) (h : Ints w v zs) : Calls Try.prog 31 #[v] w fun e w' => IntsAns w (wordAns bergU zs) e w' := by
  have H := hid h
  obtain ⟨V, hV⟩ : ∃ V, Value.agg (tree3 (bergT 0) (bergT 1) (bergT 2)).toArray = V := ⟨_, rfl⟩
  have HT := hid (fun w0 => bergTree_any w0)
  have HP := hid (fun w0 h0 => wordOf_any treeBerg v zs w0 h0)
  rw [hV] at HT HP
  clear h hV
  go_enter Try.func31, Try.ntmps31
  go_wp2_with fail
  refine (HT.out _).mono ?_
  rintro e w1 ⟨rfl, hL1⟩
  have HL1 := hid hL1
  have H1 := hid (H.out.later hL1)
  clear hL1
  go_wp2_with fail
  refine (HP.out _ H1.out).mono ?_
  rintro e w2 ⟨v2, rfl, ho, hL⟩
  have HO2 := hid ho
  have HL2 := hid (HL1.out.trans hL)
  clear ho hL
  go_wp2_with fail
  go_ret2
  exact ⟨_, rfl, HO2.out.wide HL1.out.size (Nat.le_refl _), HL2.out⟩

set_option maxRecDepth 20000 in
theorem implPriceParent_any (v : Value) (zs : List Int) (w : World) (h : Ints w v zs) : Calls Try.prog 42 #[v] w fun e w' => InAns w (parentAns priceU zs) e w' := by
  have H := hid h
  obtain ⟨V, hV⟩ : ∃ V, Value.agg (tree3 (priceT 0) (priceT 1) (priceT 2)).toArray = V := ⟨_, rfl⟩
  have HT := hid (fun w0 => priceTree_any w0)
  have HP := hid (fun w0 h0 => parentOf_any treePrice v zs w0 h0)
  rw [hV] at HT HP
  clear h hV
  go_enter Try.func42, Try.ntmps42
  go_wp2_with fail
  refine (HT.out _).mono ?_
  rintro e w1 ⟨rfl, hL1⟩
  have HL1 := hid hL1
  have H1 := hid (H.out.later hL1)
  clear hL1
  go_wp2_with fail
  refine (HP.out _ H1.out).mono ?_
  rintro e w2 ⟨v2, rfl, ho, hL⟩
  have HO2 := hid ho
  have HL2 := hid (HL1.out.trans hL)
  clear ho hL
  go_wp2_with fail
  go_ret3
  exact ⟨_, rfl, HO2.out.wide HL1.out.size (Nat.le_refl _), HL2.out⟩
set_option maxRecDepth 20000 in
theorem implPriceWord_any (v : Value) (zs : List Int) (w : World) (h : Ints w v zs) : Calls Try.prog 50 #[v] w fun e w' => IntsAns w (wordAns priceU zs) e w' := by
  have H := hid h
  obtain ⟨V, hV⟩ : ∃ V, Value.agg (tree3 (priceT 0) (priceT 1) (priceT 2)).toArray = V := ⟨_, rfl⟩
  have HT := hid (fun w0 => priceTree_any w0)
  have HP := hid (fun w0 h0 => wordOf_any treePrice v zs w0 h0)
  rw [hV] at HT HP
  clear h hV
  go_enter Try.func50, Try.ntmps50
  go_wp2_with fail
  refine (HT.out _).mono ?_
  rintro e w1 ⟨rfl, hL1⟩
  have HL1 := hid hL1
  have H1 := hid (H.out.later hL1)
  clear hL1
  go_wp2_with fail
  refine (HP.out _ H1.out).mono ?_
  rintro e w2 ⟨v2, rfl, ho, hL⟩
  have HO2 := hid ho
  have HL2 := hid (HL1.out.trans hL)
  clear ho hL
  go_wp2_with fail
  go_ret2
  exact ⟨_, rfl, HO2.out.wide HL1.out.size (Nat.le_refl _), HL2.out⟩
end Go.Proofs.Ytdahhcigphhfdac
