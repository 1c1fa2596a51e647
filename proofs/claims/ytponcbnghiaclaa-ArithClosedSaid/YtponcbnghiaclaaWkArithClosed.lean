/-
  The walk of ArithClosed.
-/
import Derived.Test.YtponcbnghiaclaaArAwake
import Derived.Test.YtponcbnghiaclaaArLeft
import Derived.Test.YtponcbnghiaclaaArTwo
import Derived.Test.YtponcbnghiaclaaArExpr
namespace Go.Proofs.Ytponcbnghiaclaa.arithClosed
open Go.ChangeShapes Go.WideShapes Go.ChangeAt Go.RowKit Go.Sort
set_option linter.unusedVariables false

set_option maxHeartbeats 8000000 in
theorem walk (a0 : Tm) (w : World) (w0 : a0.At w) :
    Calls Try.prog 8 #[a0.val] w fun e w' => e = .returned (.bool true) ∧ Below w.heap.size w w' := by
  obtain ⟨g, hg⟩ : ∃ g, decide (0 ≤ a0.lft 1000 100) = g := ⟨_, rfl⟩
  have QG := Lib.hid (fun (W : World) (h : Below w.heap.size w W) => small_at a0 W (w0.below h) hg)
  clear hg
  cases g
  · obtain ⟨k, n, s, A, c, a⟩ := a0
    clear w0
    show Calls Try.prog 8 #[.agg #[.int .i64 k, .int .i64 n, .string s, .slice A a.length c]] w _
    go_enter Try.func8, Try.ntmps8
    go_wp2_with fail
    refine (QG.out _ (below1 _ _)).mono ?_
    rintro e w1 ⟨rfl, hb⟩
    go_wp2_with fail
    refine (awake_at _).mono ?_
    rintro e w2 ⟨rfl, hb2⟩
    go_wp2_with fail
    go_ret
    exact ⟨rfl, ((below1 _ _).trans (hb.mono (by simp))).trans (hb2.mono (Nat.le_trans (below1 _ _).size hb.size))⟩
  · have QX := Lib.hid (fun (W : World) (h : Below w.heap.size w W) => expr_at a0 W (w0.below h))
    have Q1 := Lib.hid (fun (W : World) (h : Below w.heap.size w W) => eval_at a0 W (w0.below h))
    have Q2 := Lib.hid (fun (W : World) (h : Below w.heap.size w W) => variable_at a0 W (w0.below h))
    have HC := Lib.hid (closed.1 a0)
    have HK := Lib.hid (eval_codes.1 a0)
    generalize a0.eval = p at *
    generalize a0.expr = x at *
    generalize a0.vary = v at *
    obtain ⟨p1, p2⟩ := p
    clear w0
    obtain ⟨k, n, s, A, c, a⟩ := a0
    show Calls Try.prog 8 #[.agg #[.int .i64 k, .int .i64 n, .string s, .slice A a.length c]] w _
    cases x
    · clear HC HK
      go_enter Try.func8, Try.ntmps8
      go_wp2_with fail
      refine (QG.out _ (below1 _ _)).mono ?_
      rintro e w1 ⟨rfl, hb⟩
      obtain ⟨d0, d1, d2, d3, hb1⟩ := box4 hb
      go_wp2_with fail
      refine (QX.out _ hb1).mono ?_
      rintro e w2 ⟨rfl, hb2⟩
      replace hb1 := hb1.trans (hb2.mono hb1.size)
      clear hb hb2
      go_wp2_with fail
      refine (awake_at _).mono ?_
      rintro e w3 ⟨rfl, hb2⟩
      go_wp2_with fail
      go_ret
      exact ⟨rfl, hb1.trans (hb2.mono hb1.size)⟩
    · obtain ⟨h11, h17⟩ := HC.out rfl
      have HK2 := Lib.hid (show p2 = 0 ∨ (p1 = 0 ∧ (p2 = 17 ∧ v = true)) ∨ (p1 = 0 ∧ p2 = 12) ∨ (p1 = 0 ∧ p2 = 5) by
        rcases HK.out with h | ⟨h0, h | h | h | h⟩
        · exact .inl h.1
        · exact .inr (.inr (.inr ⟨h0, h⟩))
        · exact absurd h h11
        · exact .inr (.inr (.inl ⟨h0, h⟩))
        · exact .inr (.inl ⟨h0, h, h17 h⟩))
      clear h11 h17 HC HK
      rcases HK2.out with rfl | ⟨rfl, rfl, rfl⟩ | ⟨rfl, rfl⟩ | ⟨rfl, rfl⟩
      all_goals clear HK2
      all_goals
        go_enter Try.func8, Try.ntmps8
        go_wp2_with fail
        refine (QG.out _ (below1 _ _)).mono ?_
        rintro e w1 ⟨rfl, hb⟩
        obtain ⟨d0, d1, d2, d3, hb1⟩ := box4 hb
        go_wp2_with fail
        refine (QX.out _ hb1).mono ?_
        rintro e w2 ⟨rfl, hb2⟩
        replace d0 := keepc hb2 d0
        replace d1 := keepc hb2 d1
        replace d2 := keepc hb2 d2
        replace d3 := keepc hb2 d3
        replace hb1 := hb1.trans (hb2.mono hb1.size)
        clear hb hb2
        go_wp2_with fail
        refine (Q1.out _ hb1).mono ?_
        rintro e w3 ⟨rfl, hb2⟩
        replace d0 := keepc hb2 d0
        replace d1 := keepc hb2 d1
        replace d2 := keepc hb2 d2
        replace d3 := keepc hb2 d3
        replace hb1 := hb1.trans (hb2.mono hb1.size)
        clear hb2
        go_wp2_with fail
        first
          | (refine (Q2.out _ hb1).mono ?_; rintro e w4 ⟨rfl, hb2⟩; replace hb1 := hb1.trans (hb2.mono hb1.size); clear hb2; go_wp2_with fail; refine (awake_at _).mono ?_; rintro e w5 ⟨rfl, hb2⟩; go_wp2_with fail; go_ret; exact ⟨rfl, hb1.trans (hb2.mono hb1.size)⟩)
          | (refine (awake_at _).mono ?_; rintro e w5 ⟨rfl, hb2⟩; go_wp2_with fail; go_ret; exact ⟨rfl, hb1.trans (hb2.mono hb1.size)⟩)
end Go.Proofs.Ytponcbnghiaclaa.arithClosed
