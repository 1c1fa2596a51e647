/-
  Regions whose calls make memory: the class of worlds in which what was there is as it was; what was laid, behind a call.
-/
import Derived.Test.YtgialbcohkpogaaGreatTmMem
import Derived.BigQuiet
import Derived.Lib.QuietBelow
namespace Go.Proofs.YtgialbcohkpogaaGreat
open Go.RowKit Go.Sort

theorem regrown_below {W w1 : World} (h : ∃ p : Regrown, w1 = grow (redrawn W p.d) p.os) : Below W.heap.size W w1 := by
  obtain ⟨p, rfl⟩ := h
  exact below_regrown _ _ _
theorem withBelow {P : Program} {f : FuncId} {args : Array Value} {w : World} {v : Value} (h : Calls P f args w fun e w' => e = .returned v ∧ w = w') : Calls P f args w fun e w' => e = .returned v ∧ Below w.heap.size w w' :=
  h.mono fun _ _ ⟨he, hw⟩ => ⟨he, by rw [← hw]; exact Below.refl _ _⟩
/-- What was laid, in each world of the class, and behind a call. -/
theorem boxedN (w : World) (cs : Array Value) (T : TypeId) (j : Nat) (v : Value) (h : cs[j]? = some v) : ∀ d os, (grow (redrawn (w.alloc (.cells cs T)) d) os).cell? ⟨w.heap.size, j, none⟩ = some v :=
  cell_regrown (by rw [World.cell?_alloc_at _ _ _ _ rfl, h])
theorem boxN {w w' : World} {cs : Array Value} {T : TypeId} (hb : Below (w.alloc (.cells cs T)).heap.size (w.alloc (.cells cs T)) w') (j : Nat) (v : Value) (h : cs[j]? = some v) : w'.cell? ⟨w.heap.size, j, none⟩ = some v := by
  rw [hb.cell (p := ⟨w.heap.size, j, none⟩) (by simp), World.cell?_alloc_at _ _ _ _ rfl, h]
theorem below1 (w : World) (o : Obj) : Below w.heap.size w (w.alloc o) := (Below.refl _ _).alloc (Nat.le_refl _) _
end Go.Proofs.YtgialbcohkpogaaGreat
