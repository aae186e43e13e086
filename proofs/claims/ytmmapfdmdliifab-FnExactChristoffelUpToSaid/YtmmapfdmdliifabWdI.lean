/- Letters and their counts, the program's; the model's count. -/
import Derived.Test.YtmmapfdmdliifabWdS
namespace Go.Proofs.Ytmmapfdmdliifab
open Go.RowKit

theorem bytes_empty {s : ByteArray} (h : s.size = 0) : s = ⟨#[]⟩ := ByteArray.ext (Array.eq_empty_of_size_eq_zero h)
theorem toList_empty_iff (s : ByteArray) : s.toList = [] ↔ s.size = 0 := by
  rw [Lib.toList_data, size_list, List.length_eq_zero_iff]
theorem neq_empty (s : ByteArray) (h : ¬ s.size = 0) : s.toList.isEmpty = false := by
  rw [List.isEmpty_eq_false_iff]; exact fun e => h ((toList_empty_iff s).1 e)

end Go.Proofs.Ytmmapfdmdliifab
