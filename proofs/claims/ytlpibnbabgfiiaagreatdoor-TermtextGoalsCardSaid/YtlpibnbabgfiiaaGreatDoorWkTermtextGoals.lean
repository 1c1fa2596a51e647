/-
  The walk of TermtextGoals.
-/
import Derived.Test.YtlpibnbabgfiiaaGreatDoorTtExH
import Derived.Test.YtlpibnbabgfiiaaGreatDoorTrGoal
import Derived.Test.YtlpibnbabgfiiaaGreatDoorTmOpen
import Derived.Test.YtlpibnbabgfiiaaGreatDoorTmGreat1
import Derived.BigRegion
namespace Go.Proofs.YtlpibnbabgfiiaaGreatDoor.termtextGoals
open Go.ChangeShapes Go.WideShapes Go.ChangeAt Go.RowKit Go.Sort
set_option linter.unusedVariables false

theorem eq_self (X : List UInt8) : ((S X).toList == (S X).toList) = true := by simp
set_option maxHeartbeats 4000000 in
set_option maxRecDepth 10000 in
theorem walk (a0 : Gl) (w : World) (w0 : a0.At w) (hL : Laid w) :
    Calls Tryz.prog 4 #[a0.val] w fun e w' => e = .returned (.bool true) ∧ Below w.heap.size w w' := by
  obtain ⟨g, hg⟩ : ∃ g, decide (weighN a0.name a0.args 500 < 0) = g := ⟨_, rfl⟩
  have QG := Lib.hid (fun (W : World) (b : Nat) (hb : b = W.heap.size) (h : Below w.heap.size w W) => great_goals_one a0 W b hb (w0.below h) hg)
  have QE := Lib.hid (fun W (h : Below w.heap.size w W) => example_at W (hL.below h))
  have hlen := w0.2.2.len
  cases g
  · have hn := weighN_bound hg
    have hs := size_nodes.2 a0.args
    have hsz : sizeL a0.args ≤ 1000000 := by omega
    have Q1 := Lib.hid (fun W (h : Below w.heap.size w W) => tt_goal a0 W (w0.below h) (hL.below h))
    have Q2 := Lib.hid (fun W (h : Below w.heap.size w W) => tr_goal a0 W (w0.below h) hsz)
    have Q3 := Lib.hid (fun W (h : Below w.heap.size w W) => tt_atom ⟨a0.name, a0.at_, a0.cap, a0.args⟩ W ⟨w0.2.1, w0.2.2.below h⟩ (hL.below h))
    have Q4 := Lib.hid (fun W (h : Below w.heap.size w W) => tr_atom ⟨a0.name, a0.at_, a0.cap, a0.args⟩ W ⟨w0.2.1, w0.2.2.below h⟩ hsz)
    obtain ⟨X, hX⟩ : ∃ X, goalT a0.op a0.name a0.args = X := ⟨_, rfl⟩
    obtain ⟨Y, hY⟩ : ∃ Y, atomT a0.name a0.args = Y := ⟨_, rfl⟩
    rw [hX] at Q1 Q2
    simp only [hY] at Q3 Q4
    clear hg hn hs w0 hL hX hY hsz
    obtain ⟨op, s, A, c, l⟩ := a0
    simp only at hlen
    show Calls Tryz.prog 4 #[.agg #[.int .i64 op, .string s, .slice A l.length c]] w _
    go_enter Tryz.func4, Tryz.ntmps4
    go_wp2_with fail
    refine (QG.out (w.alloc (.cells #[.int .i64 op, .string s, .slice A l.length c] 30)) _ (by simp) (below1 _ _)).mono ?_
    rintro e w1 ⟨rfl, n1, rfl⟩
    have hb2 : Below (w.alloc (.cells #[.int .i64 op, .string s, .slice A l.length c] 30)).heap.size (w.alloc (.cells #[.int .i64 op, .string s, .slice A l.length c] 30)) (((w.alloc (.cells #[.int .i64 op, .string s, .slice A l.length c] 30)).alloc (.cells #[.int .i64 op, .string s, .slice A l.length c] 30)).drewN n1) := below_drewN ((Below.refl _ _).alloc (Nat.le_refl _) (.cells #[.int .i64 op, .string s, .slice A l.length c] 30)) n1
    have HW1 := Lib.hid hb2
    generalize (((w.alloc (.cells #[.int .i64 op, .string s, .slice A l.length c] 30)).alloc (.cells #[.int .i64 op, .string s, .slice A l.length c] 30)).drewN n1) = W1 at *
    obtain ⟨c0, c1, c2⟩ := held3_p HW1.out
    have HB := Lib.hid ((below1 w (.cells #[.int .i64 op, .string s, .slice A l.length c] 30)).trans (HW1.out.mono (by simp)))
    clear hb2 QG
    go_wp2_with fail
    have hb3 := al HB.out (.cells #[.string s, .slice A l.length c] 34)
    have HB3 := Lib.hid hb3
    obtain ⟨d0, d1⟩ := held2_p (Below.refl (W1.alloc (.cells #[.string s, .slice A l.length c] 34)).heap.size (W1.alloc (.cells #[.string s, .slice A l.length c] 34)))
    obtain ⟨e0, e1, e2⟩ := held3_p (HW1.out.alloc HW1.out.size (.cells #[.string s, .slice A l.length c] 34))
    have k0 := cell_regrown e0
    have k1 := cell_regrown e1
    have k2 := cell_regrown e2
    have k3 := cell_regrown d0
    have k4 := cell_regrown d1
    have Q1' := Lib.hid (show ∀ W, Below w.heap.size w W → Calls Tryz.prog 14 #[.agg #[.int .i64 op, .string s, .slice A l.length c]] W fun e w' => e = .returned (.string (S X)) ∧ Below W.heap.size W w' from Q1.out)
    have Q2' := Lib.hid (show ∀ W, Below w.heap.size w W → Calls Tryz.prog 15 #[.agg #[.int .i64 op, .string s, .slice A l.length c]] W fun e w' => e = .returned (.string (S X)) ∧ Below W.heap.size W w' from Q2.out)
    have Q3' := Lib.hid (show ∀ W, Below w.heap.size w W → Calls Tryz.prog 16 #[.agg #[.string s, .slice A l.length c]] W fun e w' => e = .returned (.string (S Y)) ∧ Below W.heap.size W w' from Q3.out)
    have Q4' := Lib.hid (show ∀ W, Below w.heap.size w W → Calls Tryz.prog 17 #[.agg #[.string s, .slice A l.length c]] W fun e w' => e = .returned (.string (S Y)) ∧ Below W.heap.size W w' from Q4.out)
    clear hb3 Q1 Q2 Q3 Q4 c0 c1 c2 d0 d1 e0 e1 e2
    refine wp_region_quiet_below (by kernel_rfl) (by kernel_rfl) ?_
    repeat (go_big_quiet_step (first | (go_at_call 14; exact Calls.regrown_of (Q1'.out _ (HB3.out.trans ((below_regrown _ _ _).mono HB3.out.size)))) | (go_at_call 15; exact Calls.regrown_of (Q2'.out _ (HB3.out.trans ((below_regrown _ _ _).mono HB3.out.size)))) | (go_at_call 16; exact Calls.regrown_of (Q3'.out _ (HB3.out.trans ((below_regrown _ _ _).mono HB3.out.size)))) | (go_at_call 17; exact Calls.regrown_of (Q4'.out _ (HB3.out.trans ((below_regrown _ _ _).mono HB3.out.size)))) | (go_at_call 10; exact Calls.regrown_of (QE.out _ (HB3.out.trans ((below_regrown _ _ _).mono HB3.out.size))))))
    refine wpQuiet_nil ?_
    intro w9 hw'
    have hb9 := HB3.out.trans ((regrown_below hw').mono HB3.out.size)
    go_wp2_with fail
    go_ret
    exact ⟨rfl, hb9⟩
  · clear hg w0 hL
    obtain ⟨op, s, A, c, l⟩ := a0
    simp only at hlen
    show Calls Tryz.prog 4 #[.agg #[.int .i64 op, .string s, .slice A l.length c]] w _
    go_enter Tryz.func4, Tryz.ntmps4
    go_wp2_with fail
    refine (QG.out (w.alloc (.cells #[.int .i64 op, .string s, .slice A l.length c] 30)) _ (by simp) (below1 _ _)).mono ?_
    rintro e w1 ⟨rfl, n1, rfl⟩
    have hb2 : Below w.heap.size w (((w.alloc (.cells #[.int .i64 op, .string s, .slice A l.length c] 30)).alloc (.cells #[.int .i64 op, .string s, .slice A l.length c] 30)).drewN n1) := below_drewN (((Below.refl _ _).alloc (Nat.le_refl _) (.cells #[.int .i64 op, .string s, .slice A l.length c] 30)).alloc (by simp) (.cells #[.int .i64 op, .string s, .slice A l.length c] 30)) n1
    have HB2 := Lib.hid hb2
    clear hb2
    generalize (((w.alloc (.cells #[.int .i64 op, .string s, .slice A l.length c] 30)).alloc (.cells #[.int .i64 op, .string s, .slice A l.length c] 30)).drewN n1) = W1 at *
    go_wp2_with fail
    refine (QE.out _ HB2.out).mono ?_
    rintro e w2 ⟨rfl, hb3⟩
    have HB := Lib.hid (nx HB2.out hb3)
    clear hb3
    go_wp2_with fail
    go_ret
    exact ⟨rfl, HB.out⟩
end Go.Proofs.YtlpibnbabgfiiaaGreatDoor.termtextGoals
