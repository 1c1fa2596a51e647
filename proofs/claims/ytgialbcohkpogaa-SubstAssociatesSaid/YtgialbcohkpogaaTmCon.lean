/-
  Contracts of what the program and the reference say of constraints and of goals: CompareAtom, SameAtom, AtomVars, SameGoal, GoalVars; and Vars of a term.
-/
import Derived.Test.YtgialbcohkpogaaTmOpen
import Derived.Test.YtgialbcohkpogaaTmVarsP
import Derived.Test.YtgialbcohkpogaaTmAtom
namespace Go.Proofs.Ytgialbcohkpogaa
open Go.ChangeShapes Go.WideShapes Go.ChangeAt Go.RowKit
set_option linter.unusedVariables false

/-- The order of constraints. -/
def cmpA (a b : Am) : Int := lex (texts a.name.data.toList b.name.data.toList) (lex (ints a.args.length b.args.length) (cmpL a.args b.args))
def sameG (g h : Gl) : Bool := decide (g.op = h.op) && (decide (g.name = h.name) && (cmpL g.args h.args == 0))

theorem vars_call (t : Tm) (w : World) (ht : t.At w) (hz : t.size ≤ 1000000) : Calls Try.prog 51 #[t.val] w (Grows w (addAll [] t.occ)) := by
  have Q := Lib.hid (fun (W : World) (b : Nat) (hb : b = W.heap.size) (h : Below w.heap.size w W) => first_at [t] (some ⟨b, 0, none⟩) 1 _ (Lst.of_row (hb ▸ row_one t (ht.below h)) (by simp)) (by simpa [sizeL] using hz))
  have e : occL [t] = t.occ := by simp [occL]
  rw [e] at Q
  generalize t.occ = os at *
  clear ht hz e
  obtain ⟨k, n, s, A, c, a⟩ := t
  show Calls Try.prog 51 #[.agg #[.int .i64 k, .int .i64 n, .string s, .slice A a.length c]] w _
  go_enter Try.func51, Try.ntmps51
  go_wp2_with fail
  refine (Q.out _ _ (by simp) (below1 _ _)).mono ?_
  rintro e w1 ⟨v, rfl, ho, hb⟩
  go_wp2_with fail
  go_ret
  exact Grows.mk rfl (ho.mono (by simp; omega)) ((below2 _ _ _).trans (hb.mono (by simp; omega)))

theorem same_ne {l m : List Tm} (h : l.length ≠ m.length) : (cmpL l m == 0) = false := by
  induction l generalizing m with
  | nil => cases m with
    | nil => simp at h
    | cons y q => rfl
  | cons x r ih => cases m with
    | nil => rfl
    | cons y q =>
      have := ih (m := q) (by simpa using h)
      simp only [cmpL, lex]
      split
      · exact this
      · simpa using ‹¬ _›

end Go.Proofs.Ytgialbcohkpogaa
