/-
  The walk of UnifyLists.
-/
import Derived.Test.YtdjbigfobodecaaMk22
namespace Go.Proofs.Ytdjbigfobodecaa.unifyLists
open Go.ChangeShapes Go.WideShapes Go.ChangeAt Go.RowKit Go.Sort
set_option linter.unusedVariables false

set_option maxHeartbeats 16000000 in
set_option maxRecDepth 100000 in
theorem walk (A0 : Option Addr) (a0 : List Tm) (c0 : Nat) (A1 : Option Addr) (a1 : List Tm) (c1 : Nat) (w : World) (w0 : Lst w A0 a0 c0) (w1 : Lst w A1 a1 c1) :
    Calls Try.prog 4 #[.slice A0 a0.length c0, .slice A1 a1.length c1] w fun e w' => e = .returned (.bool true) ∧ Below w.heap.size w w' := by
  have X0 := Lib.hid (Ext.refl w)
  obtain ⟨q0, hq0⟩ : ∃ r, fewB a0 = r := ⟨_, rfl⟩
  obtain ⟨q1, hq1⟩ : ∃ r, fewB a1 = r := ⟨_, rfl⟩
  have Q0 := Lib.hid (fun (W : World) (h : Ext w W) => show Calls Try.prog 15 #[.slice A0 a0.length c0] W (fun e w' => e = .returned (.bool q0) ∧ Ext W w') from few_at a0 A0 c0 W (w0.below h) hq0)
  have Q1 := Lib.hid (fun (W : World) (h : Ext w W) => show Calls Try.prog 15 #[.slice A1 a1.length c1] W (fun e w' => e = .returned (.bool q1) ∧ Ext W w') from few_at a1 A1 c1 W (w1.below h) hq1)
  have AW := Lib.hid awake_at
  have W0 := Lib.hid w0
  have W1 := Lib.hid w1
  have n0 : a0.length ≤ 9223372036854775807 := by have := w0.1; have := w0.2.1; unfold maxLen at *; omega
  have n1 : a1.length ≤ 9223372036854775807 := by have := w1.1; have := w1.2.1; unfold maxLen at *; omega
  clear w0 w1
  cases q0 with
  | false =>
    clear Q1 hq0 hq1
    go_enter Try.func4, Try.ntmps4
    go_wp2_with (first
      | (go_at_call 15; have hF := Q0.out _ X0.out; (with_reducible refine hF.mono ?_); rintro e v1 ⟨rfl, h1⟩; have X1 := Lib.hid (X0.out.trans h1); clear h1 hF)
      | (go_at_call 9; refine (AW.out _).mono ?_; rintro e v9 ⟨rfl, h1⟩; have X9 := Lib.hid (X1.out.trans h1); clear h1))
    go_ret
    exact ⟨rfl, X9.out⟩
  | true =>
  cases q1 with
  | false =>
    clear hq0 hq1
    go_enter Try.func4, Try.ntmps4
    go_wp2_with (first
      | (go_at_call 15; have hF := Q0.out _ X0.out; (with_reducible refine hF.mono ?_); rintro e v1 ⟨rfl, h1⟩; have X1 := Lib.hid (X0.out.trans h1); clear h1 hF)
      | (go_at_call 15; have hF := Q1.out _ X1.out; (with_reducible refine hF.mono ?_); rintro e v2 ⟨rfl, h1⟩; have X2 := Lib.hid (X1.out.trans h1); clear h1 hF)
      | (go_at_call 9; refine (AW.out _).mono ?_; rintro e v9 ⟨rfl, h1⟩; have X9 := Lib.hid (X2.out.trans h1); clear h1))
    go_ret
    exact ⟨rfl, X9.out⟩
  | true =>
  have HN := Lib.hid (show nodesL a0 + nodesL a1 ≤ 1000000 by have := few_nodes hq0; have := few_nodes hq1; omega)
  have HS0 := Lib.hid (few_sizes hq0)
  have HS1 := Lib.hid (few_sizes hq1)
  clear hq0 hq1
  have U0 := Lib.hid (fun (W : World) (h : Ext w W) => (all_at a0 a1 A0 A1 c0 c1 W (W0.out.below h) (W1.out.below h) (fun _ _ => HN.out)).mono fun _ _ h => allr_form h)
  have U1 := Lib.hid (fun (W : World) (h : Ext w W) => rall_at rsolves a0 a1 A0 A1 c0 c1 W (W0.out.below h) (W1.out.below h) HS0.out HS1.out (fun _ => HN.out))
  go_enter Try.func4, Try.ntmps4
  go_wp2_with (first
      | (go_at_call 15; have hF := Q0.out _ X0.out; (with_reducible refine hF.mono ?_); rintro e v1 ⟨rfl, h1⟩; have X1 := Lib.hid (X0.out.trans h1); clear h1 hF)
      | (go_at_call 15; have hF := Q1.out _ X1.out; (with_reducible refine hF.mono ?_); rintro e v2 ⟨rfl, h1⟩; have X2 := Lib.hid (X1.out.trans h1); clear h1 hF)
      | (go_at_call 16; have hF := U0.out _ X2.out; (with_reducible refine hF.mono ?_); rintro e v3 ⟨A5, c5, l5, er5, rfl, o5, b5, h1⟩; have X3 := Lib.hid (X2.out.trans h1); have O5 := Lib.hid o5; have B5 := Lib.hid b5; clear h1 hF o5 b5)
      | (go_at_call 17; have hF := U1.out _ X3.out; (with_reducible refine hF.mono ?_); rintro e v4 ⟨A6, c6, l6, er6, rfl, o6, b6, h1⟩; have X4 := Lib.hid (X3.out.trans h1); have O6 := Lib.hid (O5.out.unique o6); have B6 := Lib.hid (And.intro (B5.out.below h1) b6); obtain rfl : er5 = er6 := O6.out.2; clear h1 hF o6 b6)
      | (go_at_call 12; have hF := same_b O6.out.1 B6.out.1 B6.out.2; (with_reducible refine hF.mono ?_); rintro e v5 ⟨rfl, h1⟩; have X5 := Lib.hid (X4.out.trans h1); clear h1 hF)
      | (go_at_call 9; refine (AW.out _).mono ?_; rintro e v9 ⟨rfl, h1⟩; have X9 := Lib.hid (X5.out.trans h1); clear h1))
  go_ret
  exact ⟨by simp, X9.out⟩
end Go.Proofs.Ytdjbigfobodecaa.unifyLists
