/-
  The walk of ArithEvals.
-/
import Derived.Test.YtponcbnghiaclaaArAwake
import Derived.Test.YtponcbnghiaclaaArRefEval
import Derived.Test.YtponcbnghiaclaaArRefExpr
import Derived.Test.YtponcbnghiaclaaArLeft
import Derived.Test.YtponcbnghiaclaaArTwo
namespace Go.Proofs.Ytponcbnghiaclaa.arithEvals
open Go.ChangeShapes Go.WideShapes Go.ChangeAt Go.RowKit Go.Sort
set_option linter.unusedVariables false

set_option maxHeartbeats 8000000 in
theorem walk (a0 : Tm) (w : World) (w0 : a0.At w) :
    Calls Try.prog 5 #[a0.val] w fun e w' => e = .returned (.bool true) ∧ Below w.heap.size w w' := by
  obtain ⟨g, hg⟩ : ∃ g, decide (0 ≤ a0.lft 1000 100) = g := ⟨_, rfl⟩
  have QG := Lib.hid (fun (W : World) (h : Below w.heap.size w W) => small_at a0 W (w0.below h) hg)
  clear hg
  cases g
  · obtain ⟨k, n, s, A, c, a⟩ := a0
    clear w0
    show Calls Try.prog 5 #[.agg #[.int .i64 k, .int .i64 n, .string s, .slice A a.length c]] w _
    go_enter Try.func5, Try.ntmps5
    go_wp2_with fail
    refine (QG.out _ (below1 _ _)).mono ?_
    rintro e w1 ⟨rfl, hb⟩
    go_wp2_with fail
    refine (awake_at _).mono ?_
    rintro e w2 ⟨rfl, hb2⟩
    go_wp2_with fail
    go_ret
    exact ⟨rfl, ((below1 _ _).trans (hb.mono (by simp))).trans (hb2.mono (Nat.le_trans (below1 _ _).size hb.size))⟩
  · have Q1 := Lib.hid (fun (W : World) (h : Below w.heap.size w W) => eval_at a0 W (w0.below h))
    have Q2 := Lib.hid (fun (W : World) (h : Below w.heap.size w W) => ref_eval_at a0 W (w0.below h))
    have Q3 := Lib.hid (fun (W : World) (h : Below w.heap.size w W) => expr_at a0 W (w0.below h))
    have Q4 := Lib.hid (fun (W : World) (h : Below w.heap.size w W) => ref_expr_at a0 W (w0.below h))
    generalize a0.eval = p at *
    generalize a0.expr = x at *
    obtain ⟨p1, p2⟩ := p
    clear w0
    obtain ⟨k, n, s, A, c, a⟩ := a0
    show Calls Try.prog 5 #[.agg #[.int .i64 k, .int .i64 n, .string s, .slice A a.length c]] w _
    go_enter Try.func5, Try.ntmps5
    go_wp2_with fail
    refine (QG.out _ (below1 _ _)).mono ?_
    rintro e w1 ⟨rfl, hb⟩
    obtain ⟨d0, d1, d2, d3, hb1⟩ := box4 hb
    go_wp2_with fail
    refine (Q1.out _ hb1).mono ?_
    rintro e w2 ⟨rfl, hb2⟩
    replace d0 := keepc hb2 d0
    replace d1 := keepc hb2 d1
    replace d2 := keepc hb2 d2
    replace d3 := keepc hb2 d3
    replace hb1 := hb1.trans (hb2.mono hb1.size)
    clear hb hb2
    go_wp2_with fail
    refine (Q2.out _ hb1).mono ?_
    rintro e w3 ⟨rfl, hb2⟩
    replace d0 := keepc hb2 d0
    replace d1 := keepc hb2 d1
    replace d2 := keepc hb2 d2
    replace d3 := keepc hb2 d3
    replace hb1 := hb1.trans (hb2.mono hb1.size)
    clear hb2
    have kb0 := cell_regrown d0
    have kb1 := cell_regrown d1
    have kb2 := cell_regrown d2
    have kb3 := cell_regrown d3
    go_wp2_with fail
    refine wp_region_quiet_below (by kernel_rfl) (by kernel_rfl) ?_
    repeat (go_big_quiet_step (first | (go_at_call 15; exact Calls.regrown_of (Q3.out _ (hb1.trans ((below_regrown _ _ _).mono hb1.size)))) | (go_at_call 16; exact Calls.regrown_of (Q4.out _ (hb1.trans ((below_regrown _ _ _).mono hb1.size)))) | (go_at_call 9; exact Calls.regrown_of (awake_at _))))
    refine wpQuiet_nil ?_
    intro w4 hw'
    replace hb1 := hb1.trans ((regrown_below hw').mono hb1.size)
    clear kb0 kb1 kb2 kb3 hw'
    go_wp2_with fail
    go_ret
    exact ⟨by simp, hb1⟩
end Go.Proofs.Ytponcbnghiaclaa.arithEvals
