/-
  Contracts of the functions that tell the kinds of bytes and words: isLower, isUpper, isDigit, isWord, Operator, Reserved, Right and Variable of the program, and the reference's own.
  Contracts of isWord, Operator, Reserved, Right and Variable of the program, and of the reference's own.
  Contract of the reference's word.
  Contracts of Operator and Reserved of the program, and of the reference's own.
  Contracts of Right and Variable of the program, and of the reference's own.
-/
import Derived.Test.YtpnjjahimhhjkaaProg
import Derived.Test.YtpnjjahimhhjkaaVxPlain
import Derived.WalkKit
import Derived.Below
import Derived.Lib.Hide
import Derived.Outline
namespace Go.Proofs.Ytpnjjahimhhjkaa
open Go.RowKit

theorem ret_bool {a b : Bool} (h : a = b) : Ending.returned (.bool a) = .returned (.bool b) := by rw [h]
theorem len_str (s : ByteArray) : s.data.toList.length = s.size := Array.length_toList

end Go.Proofs.Ytpnjjahimhhjkaa
namespace Go.Proofs.Ytpnjjahimhhjkaa
open Go.RowKit

theorem take_next {s : ByteArray} {k : Nat} (h : k < s.size) : s.data.toList.take (k + 1) = s.data.toList.take k ++ [s[k]] := by
  rw [List.take_succ_eq_append_getElem (by simpa using h)]; rfl
theorem all_next {s : ByteArray} {k : Nat} (h : k < s.size) (ha : ∀ c ∈ s.data.toList.take k, inB c = true) (hc : inB s[k] = true) : ∀ c ∈ s.data.toList.take (k + 1), inB c = true := by
  intro c hm
  rw [take_next h] at hm
  rcases List.mem_append.1 hm with h1 | h1
  · exact ha c h1
  · obtain rfl := List.mem_singleton.1 h1
    exact hc
theorem word_stop {s : ByteArray} {k : Nat} (h : k < s.size) (hc : inB s[k] = false) : wordB s.data.toList = false := by
  cases hw : wordB s.data.toList
  · rfl
  · have := ((wordB_iff _).1 hw).2.2 s[k] (List.getElem_mem (l := s.data.toList) (n := k) (by simpa using h))
    rw [this] at hc
    cases hc
theorem word_end {s : ByteArray} (h1 : 1 ≤ s.size) (h2 : s.size ≤ 40) (ha : ∀ c ∈ s.data.toList.take s.size, inB c = true) : wordB s.data.toList = true := by
  rw [wordB_iff, len_str]
  refine ⟨h1, h2, fun c hc => ha c ?_⟩
  rw [List.take_of_length_le (by rw [len_str]; omega)]
  exact hc
theorem word_short {s : ByteArray} (h : s.size < 1) : wordB s.data.toList = false := by
  cases hw : wordB s.data.toList
  · rfl
  · have := ((wordB_iff _).1 hw).1
    rw [len_str] at this
    omega
theorem word_long {s : ByteArray} (h : 40 < s.size) : wordB s.data.toList = false := by
  cases hw : wordB s.data.toList
  · rfl
  · have := ((wordB_iff _).1 hw).2.1
    rw [len_str] at this
    omega
theorem byte_u8 (x : UInt8) : x.toNat < 256 := x.toNat_lt

end Go.Proofs.Ytpnjjahimhhjkaa
namespace Go.Proofs.Ytpnjjahimhhjkaa
open Go.RowKit

theorem word_of_all {s : ByteArray} (ha : ∀ c ∈ s.data.toList.take s.size, inB c = true) : wordB s.data.toList = (decide (1 ≤ s.size) && decide (s.size ≤ 40)) := by
  rw [Bool.eq_iff_iff, wordB_iff, len_str]
  simp only [Bool.and_eq_true, decide_eq_true_eq]
  refine ⟨fun h => ⟨h.1, h.2.1⟩, fun h => ⟨h.1, h.2, fun c hc => ha c ?_⟩⟩
  rw [List.take_of_length_le (by rw [len_str]; omega)]
  exact hc

end Go.Proofs.Ytpnjjahimhhjkaa
namespace Go.Proofs.Ytpnjjahimhhjkaa
open Go.RowKit

theorem raw_list (s : ByteArray) : s.toList = s.data.toList := ByteArray.toList_eq s
theorem str_of {s : ByteArray} {l : List UInt8} (h : s.data.toList = l) : s = ⟨l.toArray⟩ := by
  subst h
  rfl
theorem raw_ne {s : ByteArray} {l : List UInt8} (h : s.data.toList ≠ l) : (s.toList == l) = false := by
  rw [raw_list]
  simpa using h

end Go.Proofs.Ytpnjjahimhhjkaa
namespace Go.Proofs.Ytpnjjahimhhjkaa
open Go.RowKit

theorem head_at {s : ByteArray} (h : 0 < s.size) : s.data.toList.getD 0 0 = s[0] := by
  rw [List.getD_eq_getElem?_getD, List.getElem?_eq_getElem (by rw [len_str]; exact h)]
  rfl
theorem word_size {s : ByteArray} (h : wordB s.data.toList = true) : 0 < s.size := by
  have := ((wordB_iff _).1 h).1
  rw [len_str] at this
  omega

end Go.Proofs.Ytpnjjahimhhjkaa
