/-
  The walk of TermCompares.
-/
import Derived.Test.YtclhmdgiffemlaaTmTwo
import Derived.BigQuiet
import Derived.Lib.QuietBelow
namespace Go.Proofs.Ytclhmdgiffemlaa.termCompares
open Go.ChangeShapes Go.WideShapes Go.ChangeAt Go.RowKit Go.Sort
set_option linter.unusedVariables false

set_option maxHeartbeats 4000000 in
theorem walk (a0 : Tm) (a1 : Tm) (w : World) (w0 : a0.At w) (w1 : a1.At w) :
    Calls Try.prog 5 #[a0.val, a1.val] w fun e w' => e = .returned (.bool true) ∧ Below w.heap.size w w' := by
  obtain ⟨g, hg⟩ : ∃ g, decide (weigh [a0, a1] 600 64 < 0) = g := ⟨_, rfl⟩
  have QG := Lib.hid (fun (W : World) (b : Nat) (hb : b = W.heap.size) (h : Below w.heap.size w W) => great_two a0 a1 600 W b hb (w0.below h) (w1.below h) (by omega) (by omega) hg)
  have Q1 := Lib.hid (fun W (h : Below w.heap.size w W) => compare_at a0 a1 W (w0.below h) (w1.below h))
  have Q2 := Lib.hid (fun W (h : Below w.heap.size w W) => ref_compare_at a0 a1 W (w0.below h) (w1.below h))
  obtain ⟨r, hr⟩ : ∃ r, (cmpT a0 a1 == 0) = r := ⟨_, rfl⟩
  have Q3 := Lib.hid (fun W (h : Below w.heap.size w W) => same_at a0 a1 W (w0.below h) (w1.below h) hr)
  have Q4 := Lib.hid (fun W (h : Below w.heap.size w W) => ref_same_at a0 a1 W (w0.below h) (w1.below h) hr)
  clear hr hg
  generalize cmpT a0 a1 = z at *
  clear w0 w1
  obtain ⟨k, n, s, A, c, a⟩ := a0
  obtain ⟨k', n', s', A', c', a'⟩ := a1
  show Calls Try.prog 5 #[.agg #[.int .i64 k, .int .i64 n, .string s, .slice A a.length c], .agg #[.int .i64 k', .int .i64 n', .string s', .slice A' a'.length c']] w _
  go_enter Try.func5, Try.ntmps5
  go_wp2_with fail
  refine (QG.out _ _ (by simp) (below2 _ _ _)).mono ?_
  rintro e w1 ⟨rfl, hb⟩
  obtain ⟨⟨d0, d1, d2, d3⟩, ⟨g0, g1, g2, g3⟩, hb1⟩ := box8 hb
  clear hb QG
  cases g
  · go_wp2_with fail
    have P1 := Lib.hid (fun W (h : Below w1.heap.size w1 W) => Q1.out W (hb1.trans (h.mono hb1.size)))
    have P2 := Lib.hid (fun W (h : Below w1.heap.size w1 W) => Q2.out W (hb1.trans (h.mono hb1.size)))
    have P3 := Lib.hid (fun W (h : Below w1.heap.size w1 W) => Q3.out W (hb1.trans (h.mono hb1.size)))
    have P4 := Lib.hid (fun W (h : Below w1.heap.size w1 W) => Q4.out W (hb1.trans (h.mono hb1.size)))
    have PL := Lib.hid (fun W => live_at W)
    clear Q1 Q2 Q3 Q4
    have kb0 := cell_regrown d0; have kb1 := cell_regrown d1; have kb2 := cell_regrown d2; have kb3 := cell_regrown d3
    have kc0 := cell_regrown g0; have kc1 := cell_regrown g1; have kc2 := cell_regrown g2; have kc3 := cell_regrown g3
    refine wp_region_quiet_below (by kernel_rfl) (by kernel_rfl) ?_
    repeat (go_big_quiet_step (first | (go_at_call 25; exact Calls.regrown_of (P1.out _ (below_regrown _ _ _))) | (go_at_call 26; exact Calls.regrown_of (P2.out _ (below_regrown _ _ _))) | (go_at_call 27; exact Calls.regrown_of (P3.out _ (below_regrown _ _ _))) | (go_at_call 28; exact Calls.regrown_of (P4.out _ (below_regrown _ _ _))) | (go_at_call 13; exact Calls.regrown_of (PL.out _))))
    refine wpQuiet_nil ?_
    intro w2 hw'
    have hb2 := hb1.trans ((regrown_below hw').mono hb1.size)
    clear kb0 kb1 kb2 kb3 kc0 kc1 kc2 kc3 hw'
    go_wp2_with fail
    all_goals go_ret
    all_goals exact ⟨by simp, hb2⟩
  · go_wp2_with fail
    go_ret
    exact ⟨rfl, hb1⟩
end Go.Proofs.Ytclhmdgiffemlaa.termCompares
