/-
  Tokens plainly, with offsets: what Next, Scan and Symbol answer; what is left of a text from an offset on.
-/
import Derived.Test.YtfmflngmhhalhaaTkGap
namespace Go.Proofs.Ytfmflngmhhalhaa
open Go

/-- The string of bytes. -/
abbrev S (l : List UInt8) : ByteArray := ⟨l.toArray⟩
theorem S_of {s : ByteArray} {l : List UInt8} (h : s.data.toList = l) : s = S l := by
  obtain ⟨⟨a⟩⟩ := s
  subst h
  rfl
def rest (s : ByteArray) (p : Nat) : List UInt8 := s.data.toList.drop p
theorem rest_len (s : ByteArray) (p : Nat) : (rest s p).length = s.size - p := by rw [rest, List.length_drop, Array.length_toList]; rfl
theorem rest_cons {s : ByteArray} {p : Nat} (h : p < s.size) : rest s p = s[p] :: rest s (p + 1) := by
  have hl : p < s.data.toList.length := by rw [Array.length_toList]; exact h
  unfold rest
  rw [List.drop_eq_getElem_cons hl]
  rfl
theorem rest_end {s : ByteArray} {p : Nat} (h : s.size ≤ p) : rest s p = [] := by
  have := rest_len s p
  exact List.length_eq_zero_iff.1 (by omega)
theorem rest_drop (s : ByteArray) (p k : Nat) : rest s (p + k) = (rest s p).drop k := by simp [rest, List.drop_drop]
theorem rest_zero (s : ByteArray) : rest s 0 = s.data.toList := rfl
theorem extract_list (s : ByteArray) (a b : Nat) : (s.extract a b).data.toList = (rest s a).take (b - a) := by
  rw [ByteArray.data_extract, Array.toList_extract, List.extract_eq_take_drop]; rfl
theorem rest_of_extract (s : ByteArray) (p : Nat) : (s.extract p s.size).data.toList = rest s p := by
  rw [extract_list, List.take_of_length_le (by rw [rest_len]; exact Nat.le_refl _)]
/-- A suffix of what is left is what is left from where it begins. -/
theorem rest_suffix {s : ByteArray} {p : Nat} {g : List UInt8} (hp : p ≤ s.size) (h : g <:+ rest s p) : p ≤ s.size - g.length ∧ g = rest s (s.size - g.length) := by
  have h1 := h.length_le
  rw [rest_len] at h1
  obtain ⟨k, hk⟩ : ∃ k, s.size - g.length = p + k := ⟨s.size - g.length - p, by omega⟩
  refine ⟨by omega, ?_⟩
  rw [hk, rest_drop]
  have h2 := List.suffix_iff_eq_drop.1 h
  rw [rest_len] at h2
  rw [show k = s.size - p - g.length by omega]
  exact h2

/-! ### Gaps -/
/-- The offset behind white space and comments. -/
def skipP (s : ByteArray) (p : Nat) : Nat := s.size - (gap false (rest s p)).length
theorem skipP_facts {s : ByteArray} {p : Nat} (hp : p ≤ s.size) : p ≤ skipP s p ∧ skipP s p ≤ s.size ∧ rest s (skipP s p) = gap false (rest s p) := by
  obtain ⟨h1, h2⟩ := rest_suffix hp (gap_suffix false (rest s p))
  exact ⟨h1, by unfold skipP; omega, h2.symm⟩
theorem skipP_same {s : ByteArray} {p q : Nat} (h : gap false (rest s q) = gap false (rest s p)) : skipP s q = skipP s p := by unfold skipP; rw [h]
theorem skipP_stop {s : ByteArray} {q : Nat} (hq : q ≤ s.size) (h : gap false (rest s q) = rest s q) : skipP s q = q := by
  unfold skipP; rw [h, rest_len]; omega
theorem gap_cons_spc {s : ByteArray} {q : Nat} (hq : q < s.size) (h : spcB s[q] = true) : gap false (rest s q) = gap false (rest s (q + 1)) := by
  rw [rest_cons hq, gap_spc h]
theorem gap_cons_note {s : ByteArray} {q : Nat} (hq : q < s.size) (h : s[q] = 35) : gap false (rest s q) = gap true (rest s (q + 1)) := by
  rw [rest_cons hq, h]; rfl
/-- At the sign of a comment, too, one may be within it. -/
theorem gap_note_at {s : ByteArray} {q : Nat} (hq : q < s.size) (h : s[q] = 35) : gap false (rest s q) = gap true (rest s q) := by
  rw [rest_cons hq, h]; rfl
theorem gap_note_next {s : ByteArray} {q : Nat} (hq : q < s.size) (h : s[q] ≠ 10) : gap true (rest s q) = gap true (rest s (q + 1)) := by
  rw [rest_cons hq, gap, if_neg h]
theorem gap_note_end {s : ByteArray} {q : Nat} (hq : q < s.size) (h : s[q] = 10) : gap true (rest s q) = gap false (rest s q) := by
  rw [rest_cons hq, h]; rfl
theorem gap_nil (b : Bool) : gap b [] = [] := by cases b <;> rfl
theorem gap_note_out {s : ByteArray} {q : Nat} (hq : s.size ≤ q) : gap true (rest s q) = gap false (rest s q) := by
  rw [rest_end hq]; rfl
theorem gap_cons_stop {s : ByteArray} {q : Nat} (hq : q < s.size) (h1 : spcB s[q] = false) (h2 : s[q] ≠ 35) : gap false (rest s q) = rest s q := by
  rw [rest_cons hq, gap_stop h1 h2]
theorem gap_at_end {s : ByteArray} {q : Nat} (hq : s.size ≤ q) : gap false (rest s q) = rest s q := by rw [rest_end hq]; rfl
theorem gap_rest (s : ByteArray) (p : Nat) : gap false (gap false (rest s p)) = gap false (rest s p) := gap_gap _ _

/-! ### Next, Scan, Symbol -/
abbrev Tk := Int × Nat × List UInt8
/-- The token at or after an offset of the text (kind, offset, text), the offset behind it, the error. -/
def tokAt (s : ByteArray) (p : Nat) : Tk × Nat × Int :=
  if (tokL (gap false (rest s p))).2.2 ≠ 0 then ((0, 0, []), skipP s p, (tokL (gap false (rest s p))).2.2)
  else (((tokL (gap false (rest s p))).1, skipP s p, (tokL (gap false (rest s p))).2.1), skipP s p + (tokL (gap false (rest s p))).2.1.length, 0)
def nextP (s : ByteArray) (a : Int) : Tk × Nat × Int :=
  if a < 0 ∨ (s.size : Int) < a then ((0, 0, []), 0, 2) else if 16384 < s.size then ((0, 0, []), 0, 6) else tokAt s a.toNat
def tokC (t : Tk) : List Value := [.int .i64 t.1, .int .i64 (t.2.1 : Int), .string (S t.2.2)]
abbrev tokV (t : Tk) : Value := .agg #[.int .i64 t.1, .int .i64 (t.2.1 : Int), .string (S t.2.2)]
abbrev nextV (x : Tk × Nat × Int) : Value := .tuple #[tokV x.1, .int .i64 (x.2.1 : Int), .int .i64 x.2.2]
/-- The tokens from an offset on. -/
def toksAt (s : ByteArray) : Nat → Nat → List Tk × Nat × Int
  | 0, _ => ([], 0, 0)
  | n + 1, p =>
    if (tokAt s p).2.2 ≠ 0 then ([], (tokAt s p).2.1, (tokAt s p).2.2)
    else if (tokAt s p).1.1 = 0 then ([(tokAt s p).1], 0, 0)
    else if (toksAt s n (tokAt s p).2.1).2.2 ≠ 0 then toksAt s n (tokAt s p).2.1
    else ((tokAt s p).1 :: (toksAt s n (tokAt s p).2.1).1, 0, 0)
def scanP (s : ByteArray) : List Tk × Nat × Int := if 16384 < s.size then ([], 0, 6) else toksAt s (s.size + 1) 0
def symAt (s : ByteArray) (a : Int) : List UInt8 := if a < 0 ∨ (s.size : Int) < a then [] else symP (rest s a.toNat)

theorem tokAt_err {s : ByteArray} {p q : Nat} {t : List UInt8} {k e : Int} (hq : skipP s p = q) (ht : tokL (gap false (rest s p)) = (k, t, e)) (he : e ≠ 0) : tokAt s p = ((0, 0, []), q, e) := by
  unfold tokAt
  rw [ht, hq, if_pos he]
theorem tokAt_ok {s : ByteArray} {p q : Nat} {t : List UInt8} {k : Int} (hq : skipP s p = q) (ht : tokL (gap false (rest s p)) = (k, t, 0)) : tokAt s p = ((k, q, t), q + t.length, 0) := by
  unfold tokAt
  rw [ht, hq, if_neg (by simp)]

/-! ### The token at the head, by its first byte -/
def wordyB (c : UInt8) : Bool := lowB c || (uppB c || undB c)
theorem tok_word {c : UInt8} {l : List UInt8} (h : wordyB c = true) : tokL (c :: l) = if 40 < ((c :: l).takeWhile inB).length then (0, [], 7) else (if lowB c = true then 1 else 2, (c :: l).takeWhile inB, 0) := by
  unfold tokL
  simp only
  rw [if_pos (show (lowB c || (uppB c || undB c)) = true from h)]
theorem tok_dig {c : UInt8} {l : List UInt8} (h : wordyB c = false) (hd : digB c = true) : tokL (c :: l) = if 2147483648 < valD ((c :: l).takeWhile digB) then (0, [], 5) else (3, (c :: l).takeWhile digB, 0) := by
  unfold tokL
  simp only
  rw [if_neg (by rw [show (lowB c || (uppB c || undB c)) = false from h]; decide), if_pos hd]
theorem tok_sym {c : UInt8} {l : List UInt8} (h : wordyB c = false) (hd : digB c = false) : tokL (c :: l) = if symP (c :: l) = [] then (0, [], 16) else (4, symP (c :: l), 0) := by
  unfold tokL
  simp only
  rw [if_neg (by rw [show (lowB c || (uppB c || undB c)) = false from h]; decide), if_neg (by rw [hd]; decide)]
theorem tok_nil : tokL [] = (0, [], 0) := rfl

/-! ### Bytes of one kind -/
/-- How many bytes of a kind stand from an offset on. -/
def runP (k : UInt8 → Bool) (s : ByteArray) (q : Nat) : Nat := ((rest s q).takeWhile k).length
theorem runP_next {k : UInt8 → Bool} {s : ByteArray} {q : Nat} (h : q < s.size) (hk : k s[q] = true) : runP k s q = runP k s (q + 1) + 1 := by
  unfold runP
  rw [rest_cons h, List.takeWhile_cons_of_pos hk, List.length_cons]
theorem runP_stop {k : UInt8 → Bool} {s : ByteArray} {q : Nat} (h : ∀ _ : q < s.size, k s[q] = false) : runP k s q = 0 := by
  unfold runP
  by_cases hq : q < s.size
  · rw [rest_cons hq, List.takeWhile_cons_of_neg (by rw [h hq]; decide)]; rfl
  · rw [rest_end (by omega)]; rfl
theorem runP_le {k : UInt8 → Bool} {s : ByteArray} {q : Nat} (h : q ≤ s.size) : q + runP k s q ≤ s.size := by
  have := (List.takeWhile_prefix (p := k) (l := rest s q)).length_le
  rw [rest_len] at this
  unfold runP
  omega
theorem runP_text (k : UInt8 → Bool) (s : ByteArray) (q : Nat) : s.extract q (q + runP k s q) = S ((rest s q).takeWhile k) := by
  refine S_of ?_
  rw [extract_list, Nat.add_sub_cancel_left]
  exact (List.prefix_iff_eq_take.1 (List.takeWhile_prefix (p := k) (l := rest s q))).symm
theorem symP_text (s : ByteArray) (q : Nat) : s.extract q (q + (symP (rest s q)).length) = S (symP (rest s q)) := by
  refine S_of ?_
  rw [extract_list, Nat.add_sub_cancel_left]
  exact (List.prefix_iff_eq_take.1 (symP_facts (rest s q)).2.1).symm
theorem symP_le {s : ByteArray} {q : Nat} (h : q ≤ s.size) : q + (symP (rest s q)).length ≤ s.size := by
  have := (symP_facts (rest s q)).2.1.length_le
  rw [rest_len] at this
  omega
end Go.Proofs.Ytfmflngmhhalhaa
