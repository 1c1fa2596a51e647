/-
  Contracts of Right and rightTogether of the program, and of form, Right and rightArgs of the reference.
-/
import Derived.Test.YtgialbcohkpogaaTmFit
import Derived.Test.YtgialbcohkpogaaTmSize
namespace Go.Proofs.Ytgialbcohkpogaa
open Go.RowKit Go.Sort

theorem right_tm_at (t : Tm) (w : World) (ht : t.At w) {r : Bool} (hr : t.right = r) :
    Calls Try.prog 26 #[t.val] w fun e w' => e = .returned (.bool r) ∧ Below w.heap.size w w' := by
  have Q := Lib.hid (fun W (h : Below w.heap.size w W) => fit_at t 200 20 W (ht.below h) (by omega) (by omega))
  have HR := Lib.hid (show (t.fit ((200 : Nat) : Int) ((20 : Nat) : Int)).2 = r from (fit_right t).trans hr)
  generalize t.fit ((200 : Nat) : Int) ((20 : Nat) : Int) = p at *
  clear hr
  obtain ⟨z, b⟩ := p
  obtain ⟨k, n, s, A, c, a⟩ := t
  show Calls Try.prog 26 #[.agg #[.int .i64 k, .int .i64 n, .string s, .slice A a.length c]] w _
  go_enter Try.func26, Try.ntmps26
  go_wp2_with fail
  refine (Q.out _ ((Below.refl _ _).alloc (Nat.le_refl _) _)).mono ?_
  rintro e w1 ⟨rfl, hb⟩
  go_wp2_with fail
  go_ret
  exact ⟨by rw [← HR.out]; rfl, ((Below.refl _ _).alloc (Nat.le_refl _) _).trans (hb.mono (by simp))⟩

/-- A list of terms that is valid together. -/
def rightL (l : List Tm) : Bool := formL l && (decide (sizeL l ≤ 200) && decide (depthL l ≤ 20))
end Go.Proofs.Ytgialbcohkpogaa
