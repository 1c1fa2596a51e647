/-
  The walk of ArithDivides.
-/
import Derived.Test.YtponcbnghiaclaaArAwake
import Derived.Test.YtponcbnghiaclaaArRef
import Derived.Test.YtponcbnghiaclaaArTwo
import Derived.Test.YtponcbnghiaclaaArDiv
namespace Go.Proofs.Ytponcbnghiaclaa.arithDivides
open Go.ChangeShapes Go.WideShapes Go.ChangeAt Go.RowKit Go.Sort
set_option linter.unusedVariables false

set_option maxHeartbeats 4000000 in
theorem walk (a0 : Int) (a1 : Int) (w : World) (w0 : (Lit.int .i64 a0).wf = true) (w1 : (Lit.int .i64 a1).wf = true) :
    Calls Try.prog 4 #[.int .i64 a0, .int .i64 a1] w fun e w' => e = .returned (.bool true) ∧ Below w.heap.size w w' := by
  have Q1 := Lib.hid (show ∀ W, Calls Try.prog 10 #[.string ⟨#[47]⟩, .int .i64 a0, .int .i64 a1] W fun e w' => e = .returned (pairV (app [47] a0 a1)) ∧ W = w' from fun W => apply_at _ a0 a1 W)
  have Q2 := Lib.hid (show ∀ W, Calls Try.prog 10 #[.string ⟨#[37]⟩, .int .i64 a0, .int .i64 a1] W fun e w' => e = .returned (pairV (app [37] a0 a1)) ∧ W = w' from fun W => apply_at _ a0 a1 W)
  clear w0 w1
  rcases divide a0 a1 with ⟨c, hc, e1, e2⟩ | ⟨q, r, e1, e2, hq1, hq2, hqb1, hqb2, hr1, hr2, hb1, hb2, ha1, ha2, heq, hpos, hneg, hb0⟩
  · rw [e1] at Q1
    rw [e2] at Q2
    have m1 : (c != 0) = true := by simpa using hc
    have m2 : (c == 0) = false := by simpa using hc
    clear hc e1 e2
    go_enter Try.func4, Try.ntmps4
    go_wp2_with fail
    refine (Q1.out _).mono ?_
    rintro e w1 ⟨rfl, rfl⟩
    go_wp2_with fail
    refine (Q2.out _).mono ?_
    rintro e w1 ⟨rfl, rfl⟩
    go_wp2_with fail
    go_ret
    exact ⟨rfl, Below.refl _ _⟩
  · rw [e1] at Q1
    rw [e2] at Q2
    have s4 : (0 < a1 ∧ 0 ≤ r ∧ r < a1) ∨ (a1 < 0 ∧ r ≤ 0 ∧ a1 < r) := by
      rcases Int.lt_or_gt_of_ne hb0 with h | h
      · exact .inr ⟨h, hneg h⟩
      · exact .inl ⟨h, hpos h⟩
    have b1 : -2147483648 ≤ q * a1 + r := by omega
    have b2 : q * a1 + r ≤ 2147483648 := by omega
    have k1 : (q * a1 + r == a0) = true := by rw [heq]; simp
    clear e1 e2 hpos hneg hb0 heq
    obtain ⟨z, hz⟩ : ∃ z, (r == 0) = z := ⟨_, rfl⟩
    have HZ := Lib.hid (show z = false → r ≠ 0 from fun h => by rw [h] at hz; simpa using hz)
    rcases s4 with ⟨s1, s2, s3⟩ | ⟨s1, s2, s3⟩
    · cases z
      · have n2 := HZ.out rfl
        have n3 : 0 < r := by omega
        clear HZ n2
        go_enter Try.func4, Try.ntmps4
        go_wp2_with fail
        ((with_reducible refine (Q1.out _).mono ?_); rintro e w1 ⟨rfl, rfl⟩)
        go_wp2_with fail
        ((with_reducible refine (Q2.out _).mono ?_); rintro e w1 ⟨rfl, rfl⟩)
        go_wp2_with fail
        all_goals (refine (awake_at _).mono ?_)
        all_goals rintro e w1 ⟨rfl, hb⟩
        all_goals go_wp2_with fail
        all_goals go_ret
        all_goals exact ⟨by simp, hb⟩
      · clear HZ
        go_enter Try.func4, Try.ntmps4
        go_wp2_with fail
        ((with_reducible refine (Q1.out _).mono ?_); rintro e w1 ⟨rfl, rfl⟩)
        go_wp2_with fail
        ((with_reducible refine (Q2.out _).mono ?_); rintro e w1 ⟨rfl, rfl⟩)
        go_wp2_with fail
        all_goals (refine (awake_at _).mono ?_)
        all_goals rintro e w1 ⟨rfl, hb⟩
        all_goals go_wp2_with fail
        all_goals go_ret
        all_goals exact ⟨by simp, hb⟩
    · cases z
      · have n2 := HZ.out rfl
        have n3 : r < 0 := by omega
        clear HZ n2
        go_enter Try.func4, Try.ntmps4
        go_wp2_with fail
        ((with_reducible refine (Q1.out _).mono ?_); rintro e w1 ⟨rfl, rfl⟩)
        go_wp2_with fail
        ((with_reducible refine (Q2.out _).mono ?_); rintro e w1 ⟨rfl, rfl⟩)
        go_wp2_with fail
        all_goals (refine (awake_at _).mono ?_)
        all_goals rintro e w1 ⟨rfl, hb⟩
        all_goals go_wp2_with fail
        all_goals go_ret
        all_goals exact ⟨by simp, hb⟩
      · clear HZ
        go_enter Try.func4, Try.ntmps4
        go_wp2_with fail
        ((with_reducible refine (Q1.out _).mono ?_); rintro e w1 ⟨rfl, rfl⟩)
        go_wp2_with fail
        ((with_reducible refine (Q2.out _).mono ?_); rintro e w1 ⟨rfl, rfl⟩)
        go_wp2_with fail
        all_goals (refine (awake_at _).mono ?_)
        all_goals rintro e w1 ⟨rfl, hb⟩
        all_goals go_wp2_with fail
        all_goals go_ret
        all_goals exact ⟨by simp, hb⟩
end Go.Proofs.Ytponcbnghiaclaa.arithDivides
