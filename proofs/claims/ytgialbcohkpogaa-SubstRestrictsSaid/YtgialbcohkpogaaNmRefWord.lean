/-
  Contract of the reference's word.
-/
import Derived.Test.YtgialbcohkpogaaNmWord
namespace Go.Proofs.Ytgialbcohkpogaa
open Go.RowKit

theorem word_of_all {s : ByteArray} (ha : ∀ c ∈ s.data.toList.take s.size, inB c = true) : wordB s.data.toList = (decide (1 ≤ s.size) && decide (s.size ≤ 40)) := by
  rw [Bool.eq_iff_iff, wordB_iff, len_str]
  simp only [Bool.and_eq_true, decide_eq_true_eq]
  refine ⟨fun h => ⟨h.1, h.2.1⟩, fun h => ⟨h.1, h.2, fun c hc => ha c ?_⟩⟩
  rw [List.take_of_length_le (by rw [len_str]; omega)]
  exact hc

end Go.Proofs.Ytgialbcohkpogaa
