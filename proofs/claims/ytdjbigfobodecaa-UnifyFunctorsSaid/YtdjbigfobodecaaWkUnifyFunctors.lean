/-
  The walk of UnifyFunctors.
-/
import Derived.Test.YtdjbigfobodecaaMh17
namespace Go.Proofs.Ytdjbigfobodecaa.unifyFunctors
open Go.ChangeShapes Go.WideShapes Go.ChangeAt Go.RowKit Go.Sort
set_option linter.unusedVariables false

set_option maxHeartbeats 16000000 in
set_option maxRecDepth 100000 in
theorem walk (A0 : Option Addr) (a0 : List Tm) (c0 : Nat) (A1 : Option Addr) (a1 : List Tm) (c1 : Nat) (w : World) (w0 : Lst w A0 a0 c0) (w1 : Lst w A1 a1 c1) :
    Calls Try.prog 7 #[.slice A0 a0.length c0, .slice A1 a1.length c1] w fun e w' => e = .returned (.bool true) ∧ Below w.heap.size w w' := by
  have X0 := Lib.hid (Ext.refl w)
  obtain ⟨q0, hq0⟩ : ∃ r, fewB a0 = r := ⟨_, rfl⟩
  obtain ⟨q1, hq1⟩ : ∃ r, fewB a1 = r := ⟨_, rfl⟩
  have Q0 := Lib.hid (fun (W : World) (h : Ext w W) => show Calls Try.prog 15 #[.slice A0 a0.length c0] W (fun e w' => e = .returned (.bool q0) ∧ Ext W w') from few_at a0 A0 c0 W (w0.below h) hq0)
  have Q1 := Lib.hid (fun (W : World) (h : Ext w W) => show Calls Try.prog 15 #[.slice A1 a1.length c1] W (fun e w' => e = .returned (.bool q1) ∧ Ext W w') from few_at a1 A1 c1 W (w1.below h) hq1)
  have AW := Lib.hid awake_at
  have W0 := Lib.hid w0
  have W1 := Lib.hid w1
  have n0 : a0.length ≤ 9223372036854775807 := by have := w0.1; have := w0.2.1; unfold maxLen at *; omega
  have n1 : a1.length ≤ 9223372036854775807 := by have := w1.1; have := w1.2.1; unfold maxLen at *; omega
  clear w0 w1
  cases q0 with
  | false =>
    clear Q1 hq0 hq1
    go_enter Try.func7, Try.ntmps7
    go_wp2_with (first
      | (go_at_call 15; have hF := Q0.out _ X0.out; (with_reducible refine hF.mono ?_); rintro e v1 ⟨rfl, h1⟩; have X1 := Lib.hid (X0.out.trans h1); clear h1 hF)
      | (go_at_call 9; refine (AW.out _).mono ?_; rintro e v9 ⟨rfl, h1⟩; have X9 := Lib.hid (X1.out.trans h1); clear h1))
    go_ret
    exact ⟨rfl, X9.out⟩
  | true =>
  cases q1 with
  | false =>
    clear hq0 hq1
    go_enter Try.func7, Try.ntmps7
    go_wp2_with (first
      | (go_at_call 15; have hF := Q0.out _ X0.out; (with_reducible refine hF.mono ?_); rintro e v1 ⟨rfl, h1⟩; have X1 := Lib.hid (X0.out.trans h1); clear h1 hF)
      | (go_at_call 15; have hF := Q1.out _ X1.out; (with_reducible refine hF.mono ?_); rintro e v2 ⟨rfl, h1⟩; have X2 := Lib.hid (X1.out.trans h1); clear h1 hF)
      | (go_at_call 9; refine (AW.out _).mono ?_; rintro e v9 ⟨rfl, h1⟩; have X9 := Lib.hid (X2.out.trans h1); clear h1))
    go_ret
    exact ⟨rfl, X9.out⟩
  | true =>
  by_cases hl : a0.length = a1.length
  · by_cases h6 : a0.length ≤ 6
    · have HQ0 := Lib.hid hq0
      have HQ1 := Lib.hid hq1
      have HL := Lib.hid hl
      have d1 : ((a0.length : Int) != (a1.length : Int)) = false := by simp [hl]
      have d2 : decide ((6 : Int) < (a0.length : Int)) = false := by simp; omega
      obtain ⟨r0, hr0⟩ : ∃ r, Tm.right (.mk 2 0 ⟨#[102]⟩ A0 c0 a0) = r := ⟨_, rfl⟩
      obtain ⟨r1, hr1⟩ : ∃ r, Tm.right (.mk 2 0 ⟨#[102]⟩ A1 c1 a1) = r := ⟨_, rfl⟩
      have R0 := Lib.hid (fun (W : World) (h : Ext w W) => show Calls Try.prog 21 #[.agg #[.int .i64 2, .int .i64 0, .string ⟨#[102]⟩, .slice A0 a0.length c0]] W (fun e w' => e = .returned (.bool r0) ∧ Ext W w') from ref_right_tm_at (.mk 2 0 ⟨#[102]⟩ A0 c0 a0) W (fn_at (W0.out.below h)) (fn_size hq0) hr0)
      have R1 := Lib.hid (fun (W : World) (h : Ext w W) => show Calls Try.prog 21 #[.agg #[.int .i64 2, .int .i64 0, .string ⟨#[102]⟩, .slice A1 a1.length c1]] W (fun e w' => e = .returned (.bool r1) ∧ Ext W w') from ref_right_tm_at (.mk 2 0 ⟨#[102]⟩ A1 c1 a1) W (fn_at (W1.out.below h)) (fn_size hq1) hr1)
      have XB := Lib.hid (fun (W : World) (h : Ext w W) => (h.trans (Ext.al W (.cells #[.int .i64 2, .int .i64 0, .string ⟨#[102]⟩, .slice A0 a0.length c0] 24))).trans (Ext.al _ (.cells #[.int .i64 2, .int .i64 0, .string ⟨#[102]⟩, .slice A1 a1.length c1] 24)))
      have HR0 := Lib.hid hr0
      have HR1 := Lib.hid hr1
      clear hr0 hr1 hq0 hq1 hl
      cases r0 with
      | false =>
        go_enter Try.func7, Try.ntmps7
        go_wp2_with (first
      | (go_at_call 15; have hF := Q0.out _ X0.out; (with_reducible refine hF.mono ?_); rintro e v1 ⟨rfl, h1⟩; have X1 := Lib.hid (X0.out.trans h1); clear h1 hF)
      | (go_at_call 15; have hF := Q1.out _ X1.out; (with_reducible refine hF.mono ?_); rintro e v2 ⟨rfl, h1⟩; have X2 := Lib.hid (X1.out.trans h1); clear h1 hF)
      | (go_at_call 21; have hF := R0.out _ (XB.out _ X2.out); (with_reducible refine hF.mono ?_); rintro e v3 ⟨rfl, h1⟩; have X3 := Lib.hid (((XB.out _ X2.out).trans h1)); have G3 := Lib.hid h1; obtain ⟨⟨x0, x1, x2, x3⟩, y0, y1, y2, y3⟩ := boxes_two G3.out; clear h1 hF)
      | (go_at_call 9; refine (AW.out _).mono ?_; rintro e v9 ⟨rfl, h1⟩; have X9 := Lib.hid (X3.out.trans h1); clear h1))
        go_ret
        exact ⟨rfl, X9.out⟩
      | true =>
      cases r1 with
      | false =>
        go_enter Try.func7, Try.ntmps7
        go_wp2_with (first
      | (go_at_call 15; have hF := Q0.out _ X0.out; (with_reducible refine hF.mono ?_); rintro e v1 ⟨rfl, h1⟩; have X1 := Lib.hid (X0.out.trans h1); clear h1 hF)
      | (go_at_call 15; have hF := Q1.out _ X1.out; (with_reducible refine hF.mono ?_); rintro e v2 ⟨rfl, h1⟩; have X2 := Lib.hid (X1.out.trans h1); clear h1 hF)
      | (go_at_call 21; have hF := R0.out _ (XB.out _ X2.out); (with_reducible refine hF.mono ?_); rintro e v3 ⟨rfl, h1⟩; have X3 := Lib.hid (((XB.out _ X2.out).trans h1)); have G3 := Lib.hid h1; obtain ⟨⟨x0, x1, x2, x3⟩, y0, y1, y2, y3⟩ := boxes_two G3.out; clear h1 hF)
      | (go_at_call 21; have hF := R1.out _ X3.out; (with_reducible refine hF.mono ?_); rintro e v4 ⟨rfl, h1⟩; have X4 := Lib.hid (X3.out.trans h1); have G4 := Lib.hid (G3.out.trans h1); clear x0 x1 x2 x3 y0 y1 y2 y3; obtain ⟨⟨x0, x1, x2, x3⟩, y0, y1, y2, y3⟩ := boxes_two G4.out; clear h1 hF)
      | (go_at_call 9; refine (AW.out _).mono ?_; rintro e v9 ⟨rfl, h1⟩; have X9 := Lib.hid (X4.out.trans h1); clear h1))
        go_ret
        exact ⟨rfl, X9.out⟩
      | true =>
        have U0 := Lib.hid (fun (W : World) (h : Ext w W) => show Calls Try.prog 10 #[.agg #[.int .i64 2, .int .i64 0, .string ⟨#[102]⟩, .slice A0 a0.length c0], .agg #[.int .i64 2, .int .i64 0, .string ⟨#[102]⟩, .slice A1 a1.length c1]] W (AnsR [.mk 2 0 ⟨#[102]⟩ A0 c0 a0] [.mk 2 0 ⟨#[102]⟩ A1 c1 a1] W) from (unify_at (.mk 2 0 ⟨#[102]⟩ A0 c0 a0) (.mk 2 0 ⟨#[102]⟩ A1 c1 a1) W (fn_at (W0.out.below h)) (fn_at (W1.out.below h))).mono fun _ _ h => allr_form h)
        have U1 := Lib.hid (fun (W : World) (h : Ext w W) => (all_at a0 a1 A0 A1 c0 c1 W (W0.out.below h) (W1.out.below h) (fun _ _ => by have := few_nodes HQ0.out; have := few_nodes HQ1.out; omega)).mono fun _ _ h => allr_form h)
        have HO := Lib.hid (fun m e n h (o1 : AllOut [.mk 2 0 ⟨#[102]⟩ A0 c0 a0] [.mk 2 0 ⟨#[102]⟩ A1 c1 a1] m e) (o2 : AllOut a0 a1 n h) => (functors_out HR0.out HR1.out HL.out o1).unique o2)
        go_enter Try.func7, Try.ntmps7
        go_wp2_with (first
      | (go_at_call 15; have hF := Q0.out _ X0.out; (with_reducible refine hF.mono ?_); rintro e v1 ⟨rfl, h1⟩; have X1 := Lib.hid (X0.out.trans h1); clear h1 hF)
      | (go_at_call 15; have hF := Q1.out _ X1.out; (with_reducible refine hF.mono ?_); rintro e v2 ⟨rfl, h1⟩; have X2 := Lib.hid (X1.out.trans h1); clear h1 hF)
      | (go_at_call 21; have hF := R0.out _ (XB.out _ X2.out); (with_reducible refine hF.mono ?_); rintro e v3 ⟨rfl, h1⟩; have X3 := Lib.hid (((XB.out _ X2.out).trans h1)); have G3 := Lib.hid h1; obtain ⟨⟨x0, x1, x2, x3⟩, y0, y1, y2, y3⟩ := boxes_two G3.out; clear h1 hF)
      | (go_at_call 21; have hF := R1.out _ X3.out; (with_reducible refine hF.mono ?_); rintro e v4 ⟨rfl, h1⟩; have X4 := Lib.hid (X3.out.trans h1); have G4 := Lib.hid (G3.out.trans h1); clear x0 x1 x2 x3 y0 y1 y2 y3; obtain ⟨⟨x0, x1, x2, x3⟩, y0, y1, y2, y3⟩ := boxes_two G4.out; clear h1 hF)
      | (go_at_call 10; have hF := U0.out _ X4.out; (with_reducible refine hF.mono ?_); rintro e v5 ⟨A5, c5, l5, er5, rfl, o5, b5, h1⟩; have X5 := Lib.hid (X4.out.trans h1); have O5 := Lib.hid o5; have B5 := Lib.hid b5; clear h1 hF o5 b5)
      | (go_at_call 16; have hF := U1.out _ X5.out; (with_reducible refine hF.mono ?_); rintro e v6 ⟨A6, c6, l6, er6, rfl, o6, b6, h1⟩; have X6 := Lib.hid (X5.out.trans h1); have O6 := Lib.hid (HO.out _ _ _ _ O5.out o6); have B6 := Lib.hid (And.intro (B5.out.below h1) b6); obtain rfl : er5 = er6 := O6.out.2; clear h1 hF o6 b6)
      | (go_at_call 12; have hF := same_b O6.out.1 B6.out.1 B6.out.2; (with_reducible refine hF.mono ?_); rintro e v7 ⟨rfl, h1⟩; have X7 := Lib.hid (X6.out.trans h1); clear h1 hF)
      | (go_at_call 9; refine (AW.out _).mono ?_; rintro e v9 ⟨rfl, h1⟩; have X9 := Lib.hid (X7.out.trans h1); clear h1))
        go_ret
        exact ⟨by simp, X9.out⟩
    · have d1 : ((a0.length : Int) != (a1.length : Int)) = false := by simp [hl]
      have d2 : decide ((6 : Int) < (a0.length : Int)) = true := by simp; omega
      clear hq0 hq1 hl
      go_enter Try.func7, Try.ntmps7
      go_wp2_with (first
      | (go_at_call 15; have hF := Q0.out _ X0.out; (with_reducible refine hF.mono ?_); rintro e v1 ⟨rfl, h1⟩; have X1 := Lib.hid (X0.out.trans h1); clear h1 hF)
      | (go_at_call 15; have hF := Q1.out _ X1.out; (with_reducible refine hF.mono ?_); rintro e v2 ⟨rfl, h1⟩; have X2 := Lib.hid (X1.out.trans h1); clear h1 hF)
      | (go_at_call 9; refine (AW.out _).mono ?_; rintro e v9 ⟨rfl, h1⟩; have X9 := Lib.hid (X2.out.trans h1); clear h1))
      go_ret
      exact ⟨rfl, X9.out⟩
  · have d1 : ((a0.length : Int) != (a1.length : Int)) = true := by simp; omega
    clear hq0 hq1 hl
    go_enter Try.func7, Try.ntmps7
    go_wp2_with (first
      | (go_at_call 15; have hF := Q0.out _ X0.out; (with_reducible refine hF.mono ?_); rintro e v1 ⟨rfl, h1⟩; have X1 := Lib.hid (X0.out.trans h1); clear h1 hF)
      | (go_at_call 15; have hF := Q1.out _ X1.out; (with_reducible refine hF.mono ?_); rintro e v2 ⟨rfl, h1⟩; have X2 := Lib.hid (X1.out.trans h1); clear h1 hF)
      | (go_at_call 9; refine (AW.out _).mono ?_; rintro e v9 ⟨rfl, h1⟩; have X9 := Lib.hid (X2.out.trans h1); clear h1))
    go_ret
    exact ⟨rfl, X9.out⟩
end Go.Proofs.Ytdjbigfobodecaa.unifyFunctors
