/-
  The tokens of a text, joined again: with offsets.
-/
import Derived.Test.YtfmflngmhhalhaaTkCover
import Derived.Test.YtfmflngmhhalhaaTkLaw
namespace Go.Proofs.Ytfmflngmhhalhaa
open Go.RowKit

/-- The tokens with their offsets are those of the text alone. -/
theorem toks_words (s : ByteArray) : ∀ (n p : Nat), p ≤ s.size → words (toksAt s n p).1 = words (scanL n (rest s p)).1 ∧ (toksAt s n p).2.2 = (scanL n (rest s p)).2.2
  | 0, _, _ => ⟨rfl, rfl⟩
  | n + 1, p, hp => by
    obtain ⟨f1, f2, f3⟩ := skipP_facts hp
    rcases ht : tokL (gap false (rest s p)) with ⟨k, t, er⟩
    by_cases he : er = 0
    · subst he
      have e := tokAt_ok rfl ht
      obtain ⟨h1, h2, h3⟩ := tok_head ht
      by_cases hk : k = 0
      · subst hk
        obtain ⟨_, rfl⟩ := h3 rfl
        rw [toks_end (by rw [e]) (by rw [e]), e]
        unfold scanL
        simp [ht, words]
      · rw [toks_next (by rw [e]) (by rw [e]; exact hk), e]
        have hle : skipP s p + t.length ≤ s.size := by
          have := tokAt_in hp
          rw [e] at this
          exact this
        obtain ⟨i1, i2⟩ := toks_words s n (skipP s p + t.length) hle
        have hr : rest s (skipP s p + t.length) = (gap false (rest s p)).drop t.length := by rw [rest_drop, f3]
        rw [hr] at i1 i2
        simp only
        conv => rhs; rhs; unfold scanL
        conv => lhs; rhs; unfold scanL
        simp only [ht, hk, ne_eq, not_true_eq_false, if_false]
        by_cases h4 : (toksAt s n (skipP s p + t.length)).2.2 = 0
        · rw [if_neg (fun h => h h4), if_neg (fun h => h (i2 ▸ h4))]
          exact ⟨by simp only [words, List.map_cons] at i1 ⊢; rw [i1], rfl⟩
        · rw [if_pos h4, if_pos (i2 ▸ h4)]
          exact ⟨i1, i2⟩
    · have e := tokAt_err rfl ht he
      rw [toks_err (by rw [e]; exact he), e]
      unfold scanL
      simp [ht, he, words]
theorem words_len (l : List (Int × Nat × List UInt8)) : (words l).length = l.length := by simp [words]
theorem words_get (l : List Tk) {i : Nat} (hi : i < l.length) : (words l)[i]? = some ((l.getD i default).1, (l.getD i default).2.2) := by
  simp only [words, List.getElem?_map, List.getElem?_eq_getElem hi, List.getD_eq_getElem?_getD, Option.map_some, Option.getD_some]
theorem words_same {l m : List Tk} {i : Nat} (h : (words l)[i]? = (words m)[i]?) (hl : i < l.length) (hm : i < m.length) : (l.getD i default).1 = (m.getD i default).1 ∧ (l.getD i default).2.2 = (m.getD i default).2.2 := by
  rw [words_get l hl, words_get m hm] at h
  simpa using h
theorem join_words (sep : List UInt8) {l m : List Tk} (h : words l = words m) : joinT sep l = joinT sep m := by
  have e : ∀ l : List Tk, joinT sep l = (words l).flatMap fun t => t.2 ++ sep := fun l => by simp [joinT, words, List.flatMap_map]
  rw [e, e, h]
theorem join_append (sep : List UInt8) (l m : List Tk) : joinT sep (l ++ m) = joinT sep l ++ joinT sep m := by simp [joinT]
theorem join_next (sep : List UInt8) {l : List Tk} {i : Nat} (hi : i < l.length) : joinT sep (l.take (i + 1)) = joinT sep (l.take i) ++ ((l.getD i default).2.2 ++ sep) := by
  rw [List.take_succ_eq_append_getElem hi, join_append, List.getD_eq_getElem?_getD, List.getElem?_eq_getElem hi]
  simp [joinT]
theorem join_len (sep : List UInt8) (l : List Tk) : (joinT sep l).length = (joinT [] l).length + l.length * sep.length := by
  induction l with
  | nil => simp [joinT]
  | cons t r ih =>
    simp only [joinT, List.flatMap_cons, List.length_append, List.length_cons, List.length_nil, Nat.add_zero] at *
    rw [ih, Nat.add_mul]
    omega
theorem join_take_le (sep : List UInt8) (l : List Tk) (i : Nat) : (joinT sep (l.take i)).length ≤ (joinT sep l).length := by
  conv => rhs; rw [← List.take_append_drop i l, join_append, List.length_append]
  omega
/-- The texts are no longer than what they were found in. -/
theorem toks_sum (s : ByteArray) : ∀ (n p : Nat), p ≤ s.size → (joinT [] (toksAt s n p).1).length + p ≤ s.size ∧ (toksAt s n p).1.length ≤ s.size - p + 1
  | 0, p, hp => by simp [toksAt, joinT]; omega
  | n + 1, p, hp => by
    by_cases he : (tokAt s p).2.2 = 0
    · obtain ⟨t1, t2, t3, t4, t5, t6, _⟩ := tokAt_facts hp he
      by_cases hk : (tokAt s p).1.1 = 0
      · rw [toks_end he hk]
        simp only [joinT, List.flatMap_cons, List.flatMap_nil, List.append_nil, List.length_cons, List.length_nil]
        omega
      · rw [toks_next he hk]
        obtain ⟨i1, i2⟩ := toks_sum s n (tokAt s p).2.1 t4
        have := t5 hk
        split
        · omega
        · simp only [joinT, List.flatMap_cons, List.append_nil, List.length_append, List.length_cons] at i1 i2 ⊢
          omega
    · rw [toks_err he]
      simp [joinT]; omega
theorem scan_small {s : ByteArray} (h : s.size ≤ 16384) : scanP s = toksAt s (s.size + 1) 0 := by unfold scanP; rw [if_neg (by omega)]
/-- All that the statement asks of the two joined texts. -/
structure Joined (l : List Tk) (note : List UInt8) : Prop where
  one : ∀ x : ByteArray, x.data.toList = joinT [32] l → (scanP x).2.2 = 0 ∧ words (scanP x).1 = words l
  two : ∀ x : ByteArray, x.data.toList = 35 :: (note ++ [10]) ++ joinT (9 :: 35 :: (note ++ [10])) (l.take 300) → (scanP x).2.2 = 0 ∧ (l.length ≤ 300 → (scanP x).1.length = l.length) ∧ ∀ i, i < 300 → i < l.length → i < (scanP x).1.length ∧ (words (scanP x).1)[i]? = (words l)[i]?
theorem joined_of (s : ByteArray) (note : List UInt8) (hs : s.size ≤ 2000) (hn : note.length ≤ 20) (h10 : 10 ∉ note) (he : (scanP s).2.2 = 0) : Joined (scanP s).1 note ∧ (joinT [] (scanP s).1).length ≤ 2000 ∧ (scanP s).1.length ≤ 2001 := by
  have e := scan_small (s := s) (by omega)
  rw [e] at he ⊢
  obtain ⟨s1, s2⟩ := toks_sum s (s.size + 1) 0 (Nat.zero_le _)
  obtain ⟨w1, w2⟩ := toks_words s (s.size + 1) 0 (Nat.zero_le _)
  have hl : (rest s 0).length < s.size + 1 := by rw [rest_len]; omega
  obtain ⟨ts, hts, hk⟩ := scan_ended (s.size + 1) (rest s 0) hl (by rw [← w2]; exact he)
  have hT := scan_toks (s.size + 1) (rest s 0)
  rw [hts] at w1 hT
  generalize (toksAt s (s.size + 1) 0).1 = l at *
  have hTs : Toks ts := by
    clear hts hk w1
    induction ts with
    | nil => trivial
    | cons t r ih => exact ⟨hT.1, hT.2.1, ih hT.2.2⟩
  have hlen : l.length = ts.length + 1 := by
    have := congrArg List.length w1
    rw [words_len, words_len] at this
    simpa using this
  refine ⟨⟨fun x hx => ?_, fun x hx => ?_⟩, by omega, by omega⟩
  · have hxs : x.size = (joinT [32] l).length := by rw [← hx, Array.length_toList]; rfl
    have hjl := join_len [32] l
    simp only [List.length_cons, List.length_nil] at hjl
    have ex := scan_small (s := x) (by omega)
    obtain ⟨v1, v2⟩ := toks_words x (x.size + 1) 0 (Nat.zero_le _)
    have hj : joinT [32] l = joinT [32] ts ++ [32] := by rw [join_words [32] w1, join_append]; rfl
    obtain ⟨j1, j2⟩ := scan_join sep_one (z := [32]) rfl ts hTs hk (rest x 0) (by rw [rest_zero, hx, hj]) (x.size + 1) (by omega)
    rw [ex, v2]
    refine ⟨j1, ?_⟩
    rw [v1, j2, w1]
    simp [words]
  · have hxs : x.size = (35 :: (note ++ [10]) ++ joinT (9 :: 35 :: (note ++ [10])) (l.take 300)).length := by rw [← hx, Array.length_toList]; rfl
    have hjl := join_len (9 :: 35 :: (note ++ [10])) (l.take 300)
    have hjt := join_take_le [] l 300
    have hmul : (l.take 300).length * (9 :: 35 :: (note ++ [10])).length ≤ 300 * 23 := Nat.mul_le_mul (by rw [List.length_take]; omega) (by simp; omega)
    have ht3 : (l.take 300).length = min 300 l.length := List.length_take
    have hmul1 : (l.take 300).length ≤ (l.take 300).length * (9 :: 35 :: (note ++ [10])).length := Nat.le_mul_of_pos_right _ (by simp)
    simp only [List.length_append, List.length_cons, List.length_nil] at hxs
    have ex := scan_small (s := x) (by omega)
    obtain ⟨v1, v2⟩ := toks_words x (x.size + 1) 0 (Nat.zero_le _)
    have hgap : ∀ y, gap false (35 :: (note ++ [10]) ++ y) = gap false y := fun y => by
      rw [List.cons_append, gap, if_neg (by decide), if_pos rfl, List.append_assoc]
      exact gap_note note y h10
    have hz : gap false (9 :: 35 :: (note ++ [10])) = [] := by
      have := hgap []
      rw [List.append_nil] at this
      rw [gap_spc (by decide), this]; rfl
    have hw3 : words (l.take 300) = (words (ts ++ [(0, 0, [])])).take 300 := by rw [← w1]; simp [words, List.map_take]
    rcases Nat.lt_or_ge ts.length 300 with h3 | h3
    · have h4 : l.take 300 = l := List.take_of_length_le (by omega)
      have hj : joinT (9 :: 35 :: (note ++ [10])) (l.take 300) = joinT (9 :: 35 :: (note ++ [10])) ts ++ (9 :: 35 :: (note ++ [10])) := by rw [h4, join_words _ w1, join_append]; simp [joinT]
      obtain ⟨j1, j2⟩ := scan_join (sep_note h10) hz ts hTs hk (rest x 0) (by rw [rest_zero, hx, hgap, hj]) (x.size + 1) (by omega)
      have hW : words (scanP x).1 = words l := by
        rw [ex, v1, j2, w1]
        simp [words]
      refine ⟨by rw [ex, v2]; exact j1, fun _ => ?_, fun i hi hil => ⟨?_, by rw [hW]⟩⟩
      · have := congrArg List.length hW
        rwa [words_len, words_len] at this
      · have := congrArg List.length hW
        rw [words_len, words_len] at this
        omega
    · have h4 : words (l.take 300) = words (ts.take 300) := by
        rw [hw3]
        simp only [words, List.map_append, List.map_take]
        rw [List.take_append_of_le_length (by simpa using h3)]
      have hTt : Toks (ts.take 300) := by
        have : ∀ (n : Nat) (r : List (Int × Nat × List UInt8)), Toks r → Toks (r.take n) := by
          intro n
          induction n with
          | zero => intro r _; trivial
          | succ n ih =>
            intro r h
            cases r with
            | nil => trivial
            | cons t r => exact ⟨h.1, h.2.1, ih r h.2.2⟩
        exact this 300 ts hTs
      obtain ⟨j1, j2⟩ := scan_join (sep_note h10) (z := []) rfl (ts.take 300) hTt (fun t ht => hk t (List.mem_of_mem_take ht)) (rest x 0) (by rw [rest_zero, hx, hgap, join_words _ h4, List.append_nil]) (x.size + 1) (by rw [List.length_take]; omega)
      have hW : words (scanP x).1 = words (l.take 300) ++ [(0, [])] := by rw [ex, v1, j2, h4]
      have hWl := congrArg List.length hW
      rw [words_len, List.length_append, words_len, List.length_take] at hWl
      simp only [List.length_cons, List.length_nil] at hWl
      refine ⟨by rw [ex, v2]; exact j1, fun h => by omega, fun i hi hil => ⟨by omega, ?_⟩⟩
      rw [hW, List.getElem?_append_left (by rw [words_len, List.length_take]; omega)]
      simp [words, hi]

theorem take_min_len {l : List Tk} {n : Nat} (h : l.length = n) {k : Nat} : l.take (min n k) = l.take k := by
  rcases Nat.le_total k n with h1 | h1
  · rw [Nat.min_eq_right h1]
  · rw [Nat.min_eq_left h1, List.take_of_length_le (by omega), List.take_of_length_le (by omega)]
/-! ### The two texts as the statement builds them -/
theorem built_small {l : List Tk} {i : Nat} {x y a : ByteArray} (hx : x.data.toList = joinT [32] (l.take i)) (hy : y.data.toList = 35 :: (a.data.toList ++ [10]) ++ joinT (9 :: 35 :: (a.data.toList ++ [10])) (l.take (min i 300))) (hj : (joinT [] l).length ≤ 2000) (hl : l.length ≤ 2001) (ha : a.size ≤ 20) : x.size ≤ 5000 ∧ y.size ≤ 10000 := by
  have hxs : x.size = (joinT [32] (l.take i)).length := by rw [← hx, Array.length_toList]; rfl
  have hys : y.size = (35 :: (a.data.toList ++ [10]) ++ joinT (9 :: 35 :: (a.data.toList ++ [10])) (l.take (min i 300))).length := by rw [← hy, Array.length_toList]; rfl
  have h1 := join_len [32] l
  have h2 := join_take_le [32] l i
  have h3 := join_len (9 :: 35 :: (a.data.toList ++ [10])) (l.take (min i 300))
  have h4 := join_take_le [] l (min i 300)
  have hal := len_str a
  have hmul : (l.take (min i 300)).length * (9 :: 35 :: (a.data.toList ++ [10])).length ≤ 300 * 23 := Nat.mul_le_mul (by rw [List.length_take]; omega) (by simp only [List.length_cons, List.length_append, List.length_nil]; omega)
  simp only [List.length_append, List.length_cons, List.length_nil] at hys h1
  exact ⟨by omega, by omega⟩
theorem text_small {l : List Tk} {i : Nat} (hj : (joinT [] l).length ≤ 2000) (hi : i < l.length) : (S (l.getD i default).2.2).size ≤ 2000 := by
  have h1 := join_take_le [] l (i + 1)
  rw [join_next [] hi] at h1
  simp only [List.length_append, List.append_nil] at h1
  show (l.getD i default).2.2.toArray.size ≤ 2000
  rw [List.size_toArray]
  omega
theorem built_next {l : List Tk} {i : Nat} {x z : ByteArray} (hx : x.data.toList = joinT [32] (l.take i)) (hi : i < l.length) (hz : z = S (l.getD i default).2.2) : (x ++ z ++ ⟨#[32]⟩ : ByteArray).data.toList = joinT [32] (l.take (i + 1)) := by
  rw [join_next [32] hi, ← hx, hz]
  simp
theorem built_next2 {l : List Tk} {i : Nat} {y z a : ByteArray} (hy : y.data.toList = 35 :: (a.data.toList ++ [10]) ++ joinT (9 :: 35 :: (a.data.toList ++ [10])) (l.take (min i 300))) (hi : i < l.length) (h : i < 300) (hz : z = S (l.getD i default).2.2) :
    (y ++ z ++ ⟨#[9, 35]⟩ ++ a ++ ⟨#[10]⟩ : ByteArray).data.toList = 35 :: (a.data.toList ++ [10]) ++ joinT (9 :: 35 :: (a.data.toList ++ [10])) (l.take (min (i + 1) 300)) := by
  rw [Nat.min_eq_left (by omega)] at hy
  rw [Nat.min_eq_left (by omega), join_next _ hi, ← List.append_assoc, ← hy, hz]
  simp
theorem built_over {l : List Tk} {i : Nat} {y : ByteArray} {h d : List UInt8} (hy : y.data.toList = h ++ joinT d (l.take (min i 300))) (h3 : ¬ i < 300) : y.data.toList = h ++ joinT d (l.take (min (i + 1) 300)) := by
  rw [hy, Nat.min_eq_right (by omega), Nat.min_eq_right (by omega)]
end Go.Proofs.Ytfmflngmhhalhaa
