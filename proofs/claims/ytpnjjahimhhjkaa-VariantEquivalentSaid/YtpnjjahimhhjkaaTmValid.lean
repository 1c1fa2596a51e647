/-
  Contracts of the program's functions that tell whether a term is valid: isPlain, isFunctor, rightWithin, rightAllWithin, Right, rightTogether.
  Contracts of rightWithin, rightAllWithin, Right and rightTogether of the program.
  Contracts of Right and rightTogether of the program, and of form, Right and rightArgs of the reference.
  Contracts of Right and rightArgs of the reference.
-/
import Derived.Test.YtpnjjahimhhjkaaNmAll
import Derived.Test.YtpnjjahimhhjkaaTmBase
import Derived.Outline
import Derived.WalkLawsBesides
import Derived.Deep.RegionHeld3
import Derived.BigQuiet
import Derived.Lib.QuietBelow
import Derived.Test.YtpnjjahimhhjkaaTmVarAll
namespace Go.Proofs.Ytpnjjahimhhjkaa
open Go.RowKit

theorem ret_int {k : IntKind} {a b : Int} (h : a = b) : Ending.returned (.int k a) = .returned (.int k b) := by rw [h]
theorem empty_iff (s : ByteArray) : s.toList.isEmpty = decide (s.size = 0) := by
  rw [raw_list, Bool.eq_iff_iff, List.isEmpty_iff, decide_eq_true_eq, ← List.length_eq_zero_iff, len_str]

end Go.Proofs.Ytpnjjahimhhjkaa
namespace Go.Proofs.Ytpnjjahimhhjkaa
open Go.RowKit Go.Sort

/-- A struct of four cells that was laid, in each world of the class. -/
theorem boxed4 (w : World) (v0 v1 v2 v3 : Value) (T : TypeId) :
    (∀ d os, (grow (redrawn (w.alloc (.cells #[v0, v1, v2, v3] T)) d) os).cell? ⟨w.heap.size, 0, none⟩ = some v0) ∧ (∀ d os, (grow (redrawn (w.alloc (.cells #[v0, v1, v2, v3] T)) d) os).cell? ⟨w.heap.size, 1, none⟩ = some v1) ∧
    (∀ d os, (grow (redrawn (w.alloc (.cells #[v0, v1, v2, v3] T)) d) os).cell? ⟨w.heap.size, 2, none⟩ = some v2) ∧ (∀ d os, (grow (redrawn (w.alloc (.cells #[v0, v1, v2, v3] T)) d) os).cell? ⟨w.heap.size, 3, none⟩ = some v3) := by
  have h : ∀ j v, (#[v0, v1, v2, v3] : Array Value)[j]? = some v → (w.alloc (.cells #[v0, v1, v2, v3] T)).cell? ⟨w.heap.size, j, none⟩ = some v := fun j v hv => by rw [World.cell?_alloc_at _ _ _ _ rfl, hv]
  exact ⟨cell_regrown (h 0 v0 rfl), cell_regrown (h 1 v1 rfl), cell_regrown (h 2 v2 rfl), cell_regrown (h 3 v3 rfl)⟩

theorem ret_fit {a b : Int × Bool} (h : a = b) : Ending.returned (.tuple #[.int .i64 a.1, .bool a.2]) = .returned (.tuple #[.int .i64 b.1, .bool b.2]) := by rw [h]

theorem tuple_fit (z : Int) (b : Bool) (p : Int × Bool) (h : p = (z, b)) : Ending.returned (.tuple #[.int .i64 z, .bool b]) = .returned (.tuple #[.int .i64 p.1, .bool p.2]) := by rw [h]

end Go.Proofs.Ytpnjjahimhhjkaa
namespace Go.Proofs.Ytpnjjahimhhjkaa
open Go.RowKit Go.Sort

/-- A list of terms that is valid together. -/
def rightL (l : List Tm) : Bool := formL l && (decide (sizeL l ≤ 200) && decide (depthL l ≤ 20))
end Go.Proofs.Ytpnjjahimhhjkaa
namespace Go.Proofs.Ytpnjjahimhhjkaa
open Go.RowKit Go.Sort

theorem rights_all (l : List Tm) : (l.all Tm.right && decide (sizeL l ≤ 200)) = rightL l := by
  have key : ∀ m : List Tm, sizeL m ≤ 200 → m.all Tm.right = (formL m && decide (depthL m ≤ 20)) := by
    intro m
    induction m with
    | nil => intro _; rfl
    | cons t r ih =>
      intro h
      simp only [sizeL] at h
      rw [List.all_cons, ih (by omega), Bool.eq_iff_iff]
      have e : depthL (t :: r) = max t.depth (depthL r) := by simp [depthL]
      simp only [Tm.right, formL, Bool.and_eq_true, decide_eq_true_eq]
      constructor
      · rintro ⟨⟨h1, h2, h3⟩, h4, h5⟩
        exact ⟨⟨h1, h4⟩, by omega⟩
      · rintro ⟨⟨h1, h4⟩, h5⟩
        exact ⟨⟨h1, by omega, by omega⟩, h4, by omega⟩
  unfold rightL
  by_cases h : sizeL l ≤ 200
  · rw [key l h]; simp [h]
  · simp [h]
theorem rights_next {l : List Tm} {k : Nat} (h : k < l.length) : (l.take (k + 1)).all Tm.right = ((l.take k).all Tm.right && (l.getD k default).right) := by
  rw [ttake_next h]; simp
theorem rights_false {l : List Tm} {k : Nat} (h : (l.take k).all Tm.right = false) : rightL l = false := by
  rw [← rights_all]
  have e : l.all Tm.right = ((l.take k).all Tm.right && (l.drop k).all Tm.right) := by rw [← List.all_append, List.take_append_drop]
  rw [e, h]; rfl

end Go.Proofs.Ytpnjjahimhhjkaa
