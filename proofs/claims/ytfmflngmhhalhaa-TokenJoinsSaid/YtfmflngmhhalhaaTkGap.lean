/-
  What stands between tokens.
-/
import Derived.Test.YtfmflngmhhalhaaTkJoin
namespace Go.Proofs.Ytfmflngmhhalhaa
open Go

/-- What was skipped is a gap of its own. -/
theorem gap_take : ∀ (b : Bool) (l : List UInt8), gap b (l.take (l.length - (gap b l).length)) = []
  | b, [] => by cases b <;> simp [gap]
  | false, c :: r => by
    have h1 := (gap_suffix false r).length_le
    have h2 := (gap_suffix true r).length_le
    by_cases hs : spcB c = true
    · have e : gap false (c :: r) = gap false r := by simp [gap, hs]
      rw [e, List.length_cons, show r.length + 1 - (gap false r).length = (r.length - (gap false r).length) + 1 by omega, List.take_succ_cons, gap_spc hs]
      exact gap_take false r
    · by_cases hc : c = 35
      · subst hc
        have e : ∀ s, gap false (35 :: s) = gap true s := fun s => by simp [gap, hs]
        rw [e, List.length_cons, show r.length + 1 - (gap true r).length = (r.length - (gap true r).length) + 1 by omega, List.take_succ_cons, e]
        exact gap_take true r
      · have e : gap false (c :: r) = c :: r := by simp [gap, hs, hc]
        rw [e]; simp [gap]
  | true, c :: r => by
    have h1 := (gap_suffix false r).length_le
    have h2 := (gap_suffix true r).length_le
    by_cases hc : c = 10
    · subst hc
      have e : ∀ s, gap true (10 :: s) = gap false s := fun s => by simp [gap]
      rw [e, List.length_cons, show r.length + 1 - (gap false r).length = (r.length - (gap false r).length) + 1 by omega, List.take_succ_cons, e]
      exact gap_take false r
    · have e : ∀ s, gap true (c :: s) = gap true s := fun s => by simp [gap, hc]
      rw [e, List.length_cons, show r.length + 1 - (gap true r).length = (r.length - (gap true r).length) + 1 by omega, List.take_succ_cons, e]
      exact gap_take true r
/-- At a gap's end stands no gap. -/
theorem gap_gap (l : List UInt8) : ∀ b : Bool, gap false (gap b l) = gap b l := by
  induction l with
  | nil => intro b; cases b <;> rfl
  | cons c r ih =>
    intro b
    cases b with
    | false =>
      by_cases hs : spcB c = true
      · rw [gap_spc hs]; exact ih false
      · by_cases hc : c = 35
        · subst hc
          have e : gap false (35 :: r) = gap true r := by simp [gap, hs]
          rw [e]; exact ih true
        · have e : gap false (c :: r) = c :: r := by simp [gap, hs, hc]
          rw [e, e]
    | true =>
      by_cases hc : c = 10
      · have e : gap true (c :: r) = gap false r := by simp [gap, hc]
        rw [e]; exact ih false
      · have e : gap true (c :: r) = gap true r := by simp [gap, hc]
        rw [e]; exact ih true
/-- A symbol at an offset is the token there. -/
theorem sym_token {l : List UInt8} (h : symP l ≠ []) : gap false l = l ∧ tokL l = (4, symP l, 0) := by
  obtain ⟨h1, h2, _⟩ := symP_facts l
  have hm := h1.resolve_left h
  obtain ⟨x, s, e⟩ : ∃ x s, symP l = x :: s := by
    cases he : symP l with
    | nil => exact absurd he h
    | cons x s => exact ⟨x, s, rfl⟩
  obtain ⟨b1, b2, b3, b4, b5, b6⟩ := sym_bytes _ hm x (by rw [e]; simp)
  obtain ⟨r, hr⟩ := h2
  rw [e] at hr
  have hl : l = x :: (s ++ r) := by rw [← hr]; rfl
  refine ⟨by rw [hl]; exact gap_stop b1 b2, ?_⟩
  have h3 : ∀ m : List UInt8, m = x :: (s ++ r) → symP m ≠ [] → tokL m = (4, symP m, 0) := by
    rintro m rfl hm2
    unfold tokL
    simp only
    rw [if_neg (by rw [b3, b4, b5]; decide), if_neg (by rw [b6]; decide), if_neg hm2]
  exact h3 l hl h
end Go.Proofs.Ytfmflngmhhalhaa
