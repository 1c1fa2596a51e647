/-
  A row of bindings of the call's own.
-/
import Derived.Test.YtpnjjahimhhjkaaSuFind
import Derived.Test.YtpnjjahimhhjkaaVxPlain
namespace Go.Proofs.Ytpnjjahimhhjkaa
open Go.RowKit

/-- A row of bindings of the call's own: block g holds them, and may be written. -/
def Row5 (w : World) (g : Nat) (l : List Bd) : Prop := g < w.heap.size ∧ (∀ j, w.frozen? ⟨g, j, none⟩ = false) ∧ ∀ i j u, i < l.length → (l.getD i default).cells[j]? = some u → w.cell? ⟨g, i * 5 + j, none⟩ = some u
theorem bcells_length (x : Bd) : x.cells.length = 5 := rfl
theorem bcells_lt {x : Bd} {j : Nat} {u : Value} (h : x.cells[j]? = some u) : j < 5 := by
  have := (List.getElem?_eq_some_iff.1 h).1
  simpa [Bd.cells] using this
end Go.Proofs.Ytpnjjahimhhjkaa
