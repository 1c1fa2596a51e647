/-
  The walk of ArithApplies.
-/
import Derived.Test.YtponcbnghiaclaaArAwake
import Derived.Test.YtponcbnghiaclaaArRef
import Derived.Test.YtponcbnghiaclaaArTwo
namespace Go.Proofs.Ytponcbnghiaclaa.arithApplies
open Go.ChangeShapes Go.WideShapes Go.ChangeAt Go.RowKit Go.Sort
set_option linter.unusedVariables false

set_option maxHeartbeats 4000000 in
theorem walk (a0 : ByteArray) (a1 : Int) (a2 : Int) (w : World) (w0 : a0.size ≤ maxLen) (w1 : (Lit.int .i64 a1).wf = true) (w2 : (Lit.int .i64 a2).wf = true) :
    Calls Try.prog 3 #[.string a0, .int .i64 a1, .int .i64 a2] w fun e w' => e = .returned (.bool true) ∧ Below w.heap.size w w' := by
  unfold maxLen at w0
  by_cases h : 100 < a0.size
  · have h' : (100 : Int) < a0.size := by omega
    clear w1 w2
    go_enter Try.func3, Try.ntmps3
    go_wp2_with fail
    refine (awake_at _).mono ?_
    rintro e w1 ⟨rfl, hb⟩
    go_wp2_with fail
    go_ret
    exact ⟨rfl, hb⟩
  · have h' : (a0.size : Int) ≤ 100 := by omega
    have Q1 := Lib.hid (fun W => apply_at a0 a1 a2 W)
    have Q2 := Lib.hid (fun W => ref_apply_at a0 a1 a2 W)
    generalize app a0.data.toList a1 a2 = p at *
    obtain ⟨p1, p2⟩ := p
    clear w1 w2
    go_enter Try.func3, Try.ntmps3
    go_wp2_with fail
    refine (Q1.out _).mono ?_
    rintro e w1 ⟨rfl, rfl⟩
    go_wp2_with fail
    refine (Q2.out _).mono ?_
    rintro e w1 ⟨rfl, rfl⟩
    go_wp2_with fail
    refine (awake_at _).mono ?_
    rintro e w1 ⟨rfl, hb⟩
    go_wp2_with fail
    go_ret
    exact ⟨by simp, hb⟩
end Go.Proofs.Ytponcbnghiaclaa.arithApplies
