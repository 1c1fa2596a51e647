/-
  Contracts of Right and rightArgs of the reference.
-/
import Derived.Test.YtgialbcohkpogaaTmForm
namespace Go.Proofs.Ytgialbcohkpogaa
open Go.RowKit Go.Sort

theorem rights_all (l : List Tm) : (l.all Tm.right && decide (sizeL l ≤ 200)) = rightL l := by
  have key : ∀ m : List Tm, sizeL m ≤ 200 → m.all Tm.right = (formL m && decide (depthL m ≤ 20)) := by
    intro m
    induction m with
    | nil => intro _; rfl
    | cons t r ih =>
      intro h
      simp only [sizeL] at h
      rw [List.all_cons, ih (by omega), Bool.eq_iff_iff]
      have e : depthL (t :: r) = max t.depth (depthL r) := by simp [depthL]
      simp only [Tm.right, formL, Bool.and_eq_true, decide_eq_true_eq]
      constructor
      · rintro ⟨⟨h1, h2, h3⟩, h4, h5⟩
        exact ⟨⟨h1, h4⟩, by omega⟩
      · rintro ⟨⟨h1, h4⟩, h5⟩
        exact ⟨⟨h1, by omega, by omega⟩, h4, by omega⟩
  unfold rightL
  by_cases h : sizeL l ≤ 200
  · rw [key l h]; simp [h]
  · simp [h]
theorem rights_next {l : List Tm} {k : Nat} (h : k < l.length) : (l.take (k + 1)).all Tm.right = ((l.take k).all Tm.right && (l.getD k default).right) := by
  rw [ttake_next h]; simp
theorem rights_false {l : List Tm} {k : Nat} (h : (l.take k).all Tm.right = false) : rightL l = false := by
  rw [← rights_all]
  have e : l.all Tm.right = ((l.take k).all Tm.right && (l.drop k).all Tm.right) := by rw [← List.all_append, List.take_append_drop]
  rw [e, h]; rfl

end Go.Proofs.Ytgialbcohkpogaa
