/- Answers of pairs are small. -/
import Derived.Test.YtdngocjhblpkkabJuS
import Derived.Test.YtdngocjhblpkkabJqA
namespace Go.Proofs.Ytdngocjhblpkkab
open Go.RowKit

theorem off_pairsJ (L : List Jp2) (hl : L.length ≤ 100000) : off (L.map jpL) (L.map jpL).length ≤ 1000000000000 := by
  have h1 := off_bound (L.map jpL) 2 (L.map jpL).length (fun i hi => by
    rw [List.getD_eq_getElem?_getD, List.getElem?_eq_getElem hi]
    simp [jpL]) (Nat.le_refl _)
  rw [List.length_map] at h1 ⊢
  omega
theorem off_someJ (L : List Jp2) (hl : L.length ≤ 100000) : off ((some (L.map jpL)).getD []) ((some (L.map jpL)).getD []).length ≤ 1000000000000 := off_pairsJ L hl
theorem off_noneJ : off ((none : Option (List (List Int))).getD []) ((none : Option (List (List Int))).getD []).length ≤ 1000000000000 := by simp [off]
theorem toldJ_off (L : List Jp2) : off ((toldJ L).getD []) ((toldJ L).getD []).length ≤ 1000000000000 := by
  unfold toldJ
  split
  · exact off_someJ L (by omega)
  · exact off_noneJ
theorem descAns_off (x y k c : Int) : off ((descAns x y k c).getD []) ((descAns x y k c).getD []).length ≤ 1000000000000 := by
  unfold descAns
  split
  · exact toldJ_off _
  · exact off_noneJ
theorem ascAns_off (x y k c s : Int) : off ((ascAns x y k c s).getD []) ((ascAns x y k c s).getD []).length ≤ 1000000000000 := by
  unfold ascAns
  split
  · rename_i h
    refine off_someJ _ ?_
    have := runJ_len (upJ k) (s.toNat + 1) (x, y)
    unfold upRun
    omega
  · exact off_noneJ
theorem qrAns_off (a b : Int) : off ((qrAns a b).getD []) ((qrAns a b).getD []).length ≤ 1000000000000 := by
  unfold qrAns
  split
  · exact off_noneJ
  · exact toldJ_off _
theorem qpAns_off (q c : Int) : off ((qpAns q c).getD []) ((qpAns q c).getD []).length ≤ 1000000000000 := by
  unfold qpAns
  split
  · rename_i h
    refine off_someJ _ ?_
    have := runJ_len (upJ (q * q)) c.toNat (q, 0)
    unfold upRun
    omega
  · exact off_noneJ
end Go.Proofs.Ytdngocjhblpkkab
