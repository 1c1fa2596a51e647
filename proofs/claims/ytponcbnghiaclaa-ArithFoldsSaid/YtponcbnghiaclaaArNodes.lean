/-
  A folded term has no more nodes.
-/
import Derived.Test.YtponcbnghiaclaaArPlain
namespace Go.Proofs.Ytponcbnghiaclaa
open Go

theorem nodes_strip : (∀ t : Tm, t.strip.nodes = t.nodes) ∧ (∀ l, nodesL (stripL l) = nodesL l) := by
  refine Tm.induct2 (fun k n s A c a ih => ?_) rfl (fun t r h1 h2 => ?_)
  · simp only [Tm.strip, Tm.nodes, ih]
  · simp only [stripL, nodesL, h1, h2]
theorem nodes_same {t u : Tm} (h : t.strip = u.strip) : t.nodes = u.nodes := by rw [← nodes_strip.1 t, h, nodes_strip.1]
theorem nodes_fin (t : Tm) : (fin t).nodes ≤ t.nodes := by
  unfold fin
  split
  · have h : 1 ≤ t.nodes := by cases t; simp [Tm.nodes]
    simpa [numT, Tm.nodes, nodesL] using h
  · exact Nat.le_refl _
theorem nodes_fold : (∀ t : Tm, t.fold.nodes ≤ t.nodes) ∧ (∀ l, nodesL (foldL l) ≤ nodesL l) := by
  refine Tm.induct2 (fun k n s A c a ih => ?_) (Nat.le_refl _) (fun t r h1 h2 => ?_)
  · simp only [Tm.fold]
    split
    · refine Nat.le_trans (nodes_fin _) ?_
      simp only [Tm.nodes]; omega
    · exact nodes_fin _
  · simp only [foldL, nodesL]; omega
end Go.Proofs.Ytponcbnghiaclaa
