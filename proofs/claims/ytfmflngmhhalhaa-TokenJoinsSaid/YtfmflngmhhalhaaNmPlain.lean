/-
  Plain facts of names: the kinds of words, decimal numerals, labels of variables.
-/
import Derived.Lib.Strings
namespace Go.Proofs.Ytfmflngmhhalhaa
open Go

/-! ### Bytes and words -/
def lowB (c : UInt8) : Bool := decide (97 ≤ c.toNat ∧ c.toNat ≤ 122)
def uppB (c : UInt8) : Bool := decide (65 ≤ c.toNat ∧ c.toNat ≤ 90)
def digB (c : UInt8) : Bool := decide (48 ≤ c.toNat ∧ c.toNat ≤ 57)
def undB (c : UInt8) : Bool := decide (c.toNat = 95)
def inB (c : UInt8) : Bool := lowB c || uppB c || digB c || undB c
def wordB (l : List UInt8) : Bool := decide (1 ≤ l.length) && (decide (l.length ≤ 40) && l.all inB)
def reserved : List (List UInt8) := [[99, 111, 110, 115, 116, 114, 97, 105, 110, 116], [116, 114, 117, 101], [102, 97, 105, 108], [105, 115], [105, 110, 116], [103, 114, 111, 117, 110, 100]]
def operators : List (List UInt8) := [[43], [45], [42], [47], [37]]
def resB (l : List UInt8) : Bool := decide (l ∈ reserved)
def opB (l : List UInt8) : Bool := decide (l ∈ operators)
def rightB (l : List UInt8) : Bool := wordB l && (lowB (l.getD 0 0) && !resB l)
def varB (l : List UInt8) : Bool := wordB l && (uppB (l.getD 0 0) || undB (l.getD 0 0))

theorem wordB_iff (l : List UInt8) : wordB l = true ↔ 1 ≤ l.length ∧ l.length ≤ 40 ∧ ∀ c ∈ l, inB c = true := by
  simp [wordB]
theorem low_upp {c : UInt8} (h : lowB c = true) : uppB c = false ∧ undB c = false := by
  simp only [lowB, uppB, undB, decide_eq_true_eq, decide_eq_false_iff_not] at *
  omega
theorem head_in {l : List UInt8} (h : wordB l = true) : inB (l.getD 0 0) = true := by
  obtain ⟨h1, _, h3⟩ := (wordB_iff l).1 h
  refine h3 _ ?_
  rcases l with _ | ⟨c, r⟩
  · simp at h1
  · simp
theorem right_var {l : List UInt8} (h : rightB l = true) : varB l = false := by
  simp only [rightB, varB, Bool.and_eq_true] at *
  obtain ⟨h1, h2, h3⟩ := h
  obtain ⟨e1, e2⟩ := low_upp h2
  rw [h1, e1, e2]
  rfl
theorem right_res {l : List UInt8} (h : rightB l = true) : resB l = false := by
  simp only [rightB, Bool.and_eq_true, Bool.not_eq_true'] at h
  exact h.2.2
theorem op_word {l : List UInt8} (h : opB l = true) : wordB l = false ∧ resB l = false := by
  simp only [opB, operators, List.mem_cons, List.not_mem_nil, or_false, decide_eq_true_eq] at h
  rcases h with rfl | rfl | rfl | rfl | rfl <;> decide
theorem op_right {l : List UInt8} (h : opB l = true) : rightB l = false ∧ varB l = false ∧ resB l = false := by
  obtain ⟨h1, h2⟩ := op_word h
  simp [rightB, varB, h1, h2]
theorem res_var {l : List UInt8} (h : resB l = true) : varB l = false ∧ opB l = false ∧ rightB l = false := by
  simp only [resB, reserved, List.mem_cons, List.not_mem_nil, or_false, decide_eq_true_eq] at h
  rcases h with rfl | rfl | rfl | rfl | rfl | rfl <;> decide
theorem right_op {l : List UInt8} (h : rightB l = true) : opB l = false := by
  cases ho : opB l
  · rfl
  · rw [(op_right ho).1] at h; cases h
theorem var_right {l : List UInt8} (h : varB l = true) : rightB l = false := by
  cases ho : rightB l
  · rfl
  · rw [right_var ho] at h; cases h
theorem var_op {l : List UInt8} (h : varB l = true) : opB l = false := by
  cases ho : opB l
  · rfl
  · rw [(op_right ho).2.1] at h; cases h
theorem var_res {l : List UInt8} (h : varB l = true) : resB l = false := by
  cases ho : resB l
  · rfl
  · rw [(res_var ho).1] at h; cases h

end Go.Proofs.Ytfmflngmhhalhaa
