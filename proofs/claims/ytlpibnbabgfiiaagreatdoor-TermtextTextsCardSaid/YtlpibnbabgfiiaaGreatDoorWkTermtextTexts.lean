/-
  The walk of TermtextTexts.
-/
import Derived.Test.YtlpibnbabgfiiaaGreatDoorTtExH
import Derived.Test.YtlpibnbabgfiiaaGreatDoorTrGoal
import Derived.Test.YtlpibnbabgfiiaaGreatDoorTmOpen
import Derived.BigRegion
namespace Go.Proofs.YtlpibnbabgfiiaaGreatDoor.termtextTexts
open Go.ChangeShapes Go.WideShapes Go.ChangeAt Go.RowKit Go.Sort
set_option linter.unusedVariables false

set_option maxHeartbeats 4000000 in
set_option maxRecDepth 10000 in
theorem walk (a0 : Tm) (w : World) (w0 : a0.At w) (hL : Laid w) :
    Calls Tryz.prog 3 #[a0.val] w fun e w' => e = .returned (.bool true) ∧ Below w.heap.size w w' := by
  obtain ⟨g, hg⟩ : ∃ g, decide (weigh [a0] 500 64 < 0) = g := ⟨_, rfl⟩
  have QG := Lib.hid (fun (W W' : World) (b : Nat) (hb : b = W.heap.size) (h : Below w.heap.size w W) h' => great_one a0 500 W W' b hb (w0.below h) h' (by omega) (by omega) hg)
  have QE := Lib.hid (fun W (h : Below w.heap.size w W) => example_at W (hL.below h))
  cases g
  · have hn := not_great hg
    have hs := (size_nodes.1 a0).1
    have hsz : a0.size ≤ 1000000 := by simp only [nodesL] at hn; omega
    have Q1 := Lib.hid (fun W (h : Below w.heap.size w W) => tt_text a0 W (w0.below h) (hL.below h))
    have Q2 := Lib.hid (fun W (h : Below w.heap.size w W) => tr_text a0 W (w0.below h) hsz)
    obtain ⟨X, hX⟩ : ∃ X, termT a0 = X := ⟨_, rfl⟩
    rw [hX] at Q1 Q2
    clear hg hn hs w0 hL hX hsz
    obtain ⟨k, n, s, A, c, a⟩ := a0
    show Calls Tryz.prog 3 #[.agg #[.int .i64 k, .int .i64 n, .string s, .slice A a.length c]] w _
    go_enter Tryz.func3, Tryz.ntmps3
    go_wp2_with fail
    refine (QG.out (w.alloc (.cells #[.int .i64 k, .int .i64 n, .string s, .slice A a.length c] 24)) _ _ (by simp) (below1 _ _) (Below.refl _ _)).mono ?_
    rintro e w1 ⟨rfl, hb1⟩
    have hb2 := ((Below.refl _ _).alloc (Nat.le_refl _) (.cells #[.int .i64 k, .int .i64 n, .string s, .slice A a.length c] 24)).trans (hb1.mono (by simp))
    obtain ⟨c0, c1, c2, c3, _⟩ := box4 hb2
    have HB := Lib.hid ((below1 w _).trans (hb2.mono (by simp)))
    have k0 := cell_regrown c0
    have k1 := cell_regrown c1
    have k2 := cell_regrown c2
    have k3 := cell_regrown c3
    have Q1' := Lib.hid (show ∀ W, Below w.heap.size w W → Calls Tryz.prog 11 #[.agg #[.int .i64 k, .int .i64 n, .string s, .slice A a.length c]] W fun e w' => e = .returned (.string (S X)) ∧ Below W.heap.size W w' from Q1.out)
    have Q2' := Lib.hid (show ∀ W, Below w.heap.size w W → Calls Tryz.prog 12 #[.agg #[.int .i64 k, .int .i64 n, .string s, .slice A a.length c]] W fun e w' => e = .returned (.string (S X)) ∧ Below W.heap.size W w' from Q2.out)
    clear hb1 hb2 Q1 Q2 QG
    go_wp2_with fail
    refine wp_region_quiet_below (by kernel_rfl) (by kernel_rfl) ?_
    repeat (go_big_quiet_step (first | (go_at_call 11; exact Calls.regrown_of (Q1'.out _ (HB.out.trans ((below_regrown _ _ _).mono HB.out.size)))) | (go_at_call 12; exact Calls.regrown_of (Q2'.out _ (HB.out.trans ((below_regrown _ _ _).mono HB.out.size)))) | (go_at_call 10; exact Calls.regrown_of (QE.out _ (HB.out.trans ((below_regrown _ _ _).mono HB.out.size))))))
    refine wpQuiet_nil ?_
    intro w9 hw'
    have hb9 := HB.out.trans ((regrown_below hw').mono HB.out.size)
    go_wp2_with fail
    go_ret
    exact ⟨rfl, hb9⟩
  · clear hg w0 hL
    obtain ⟨k, n, s, A, c, a⟩ := a0
    show Calls Tryz.prog 3 #[.agg #[.int .i64 k, .int .i64 n, .string s, .slice A a.length c]] w _
    go_enter Tryz.func3, Tryz.ntmps3
    go_wp2_with fail
    refine (QG.out (w.alloc (.cells #[.int .i64 k, .int .i64 n, .string s, .slice A a.length c] 24)) _ _ (by simp) (below1 _ _) (Below.refl _ _)).mono ?_
    rintro e w1 ⟨rfl, hb1⟩
    have hb2 := (below1 w (.cells #[.int .i64 k, .int .i64 n, .string s, .slice A a.length c] 24)).trans (((Below.refl _ _).alloc (Nat.le_refl _) (.cells #[.int .i64 k, .int .i64 n, .string s, .slice A a.length c] 24) |>.trans (hb1.mono (by simp))).mono (by simp))
    clear hb1
    go_wp2_with fail
    refine (QE.out _ hb2).mono ?_
    rintro e w2 ⟨rfl, hb3⟩
    have HB := Lib.hid (hb2.trans (hb3.mono hb2.size))
    clear hb2 hb3
    go_wp2_with fail
    go_ret
    exact ⟨rfl, HB.out⟩
end Go.Proofs.YtlpibnbabgfiiaaGreatDoor.termtextTexts
