/-
  The walk of UnifyMakes.
-/
import Derived.Test.YtdjbigfobodecaaMh17
namespace Go.Proofs.Ytdjbigfobodecaa.unifyMakes
open Go.ChangeShapes Go.WideShapes Go.ChangeAt Go.RowKit Go.Sort
set_option linter.unusedVariables false

set_option maxHeartbeats 16000000 in
set_option maxRecDepth 100000 in
theorem walk (a0 : Tm) (a1 : Tm) (w : World) (w0 : a0.At w) (w1 : a1.At w) :
    Calls Try.prog 5 #[a0.val, a1.val] w fun e w' => e = .returned (.bool true) ∧ Below w.heap.size w w' := by
  have G0 := Lib.hid (Ext.refl ((w.alloc (.cells #[.int .i64 a0.kind, .int .i64 a0.num, .string a0.name, .slice a0.at_ a0.args.length a0.cap] 24)).alloc (.cells #[.int .i64 a1.kind, .int .i64 a1.num, .string a1.name, .slice a1.at_ a1.args.length a1.cap] 24)))
  obtain ⟨q0, hq0⟩ : ∃ r, smallB a0 = r := ⟨_, rfl⟩
  obtain ⟨q1, hq1⟩ : ∃ r, smallB a1 = r := ⟨_, rfl⟩
  have Q0 := Lib.hid (fun (W : World) (h : Ext ((w.alloc (.cells #[.int .i64 a0.kind, .int .i64 a0.num, .string a0.name, .slice a0.at_ a0.args.length a0.cap] 24)).alloc (.cells #[.int .i64 a1.kind, .int .i64 a1.num, .string a1.name, .slice a1.at_ a1.args.length a1.cap] 24)) W) => show Calls Try.prog 8 #[.agg #[.int .i64 a0.kind, .int .i64 a0.num, .string a0.name, .slice a0.at_ a0.args.length a0.cap]] W (fun e w' => e = .returned (.bool q0) ∧ Ext W w') from small_at a0 W (w0.below (base_ext h)) hq0)
  have Q1 := Lib.hid (fun (W : World) (h : Ext ((w.alloc (.cells #[.int .i64 a0.kind, .int .i64 a0.num, .string a0.name, .slice a0.at_ a0.args.length a0.cap] 24)).alloc (.cells #[.int .i64 a1.kind, .int .i64 a1.num, .string a1.name, .slice a1.at_ a1.args.length a1.cap] 24)) W) => show Calls Try.prog 8 #[.agg #[.int .i64 a1.kind, .int .i64 a1.num, .string a1.name, .slice a1.at_ a1.args.length a1.cap]] W (fun e w' => e = .returned (.bool q1) ∧ Ext W w') from small_at a1 W (w1.below (base_ext h)) hq1)
  have AW := Lib.hid awake_at
  have W0 := Lib.hid w0
  have W1 := Lib.hid w1
  clear w0 w1
  obtain ⟨⟨x0, x1, x2, x3⟩, y0, y1, y2, y3⟩ := boxes_two G0.out
  cases q0 with
  | false =>
    clear Q1 hq0 hq1
    go_enter Try.func5, Try.ntmps5
    go_wp2_with (first
      | (go_at_call 8; have hF := Q0.out _ G0.out; (with_reducible refine hF.mono ?_); rintro e v1 ⟨rfl, h1⟩; have G1 := Lib.hid (G0.out.trans h1); clear x0 x1 x2 x3 y0 y1 y2 y3; obtain ⟨⟨x0, x1, x2, x3⟩, y0, y1, y2, y3⟩ := boxes_two G1.out; clear h1 hF)
      | (go_at_call 9; refine (AW.out _).mono ?_; rintro e v9 ⟨rfl, h1⟩; have X9 := Lib.hid (base_ext (G1.out.trans h1)); clear h1))
    go_ret
    exact ⟨rfl, X9.out⟩
  | true =>
  cases q1 with
  | false =>
    clear hq0 hq1
    go_enter Try.func5, Try.ntmps5
    go_wp2_with (first
      | (go_at_call 8; have hF := Q0.out _ G0.out; (with_reducible refine hF.mono ?_); rintro e v1 ⟨rfl, h1⟩; have G1 := Lib.hid (G0.out.trans h1); clear x0 x1 x2 x3 y0 y1 y2 y3; obtain ⟨⟨x0, x1, x2, x3⟩, y0, y1, y2, y3⟩ := boxes_two G1.out; clear h1 hF)
      | (go_at_call 8; have hF := Q1.out _ G1.out; (with_reducible refine hF.mono ?_); rintro e v2 ⟨rfl, h1⟩; have G2 := Lib.hid (G1.out.trans h1); clear x0 x1 x2 x3 y0 y1 y2 y3; obtain ⟨⟨x0, x1, x2, x3⟩, y0, y1, y2, y3⟩ := boxes_two G2.out; clear h1 hF)
      | (go_at_call 9; refine (AW.out _).mono ?_; rintro e v9 ⟨rfl, h1⟩; have X9 := Lib.hid (base_ext (G2.out.trans h1)); clear h1))
    go_ret
    exact ⟨rfl, X9.out⟩
  | true =>
  have N0 := Lib.hid (show a0.nodes ≤ 1000000 by have := small_le hq0; omega)
  have N1 := Lib.hid (show a1.nodes ≤ 1000000 by have := small_le hq1; omega)
  clear hq0 hq1
  have U0 := Lib.hid (fun (W : World) (h : Ext ((w.alloc (.cells #[.int .i64 a0.kind, .int .i64 a0.num, .string a0.name, .slice a0.at_ a0.args.length a0.cap] 24)).alloc (.cells #[.int .i64 a1.kind, .int .i64 a1.num, .string a1.name, .slice a1.at_ a1.args.length a1.cap] 24)) W) => show Calls Try.prog 10 #[.agg #[.int .i64 a0.kind, .int .i64 a0.num, .string a0.name, .slice a0.at_ a0.args.length a0.cap], .agg #[.int .i64 a1.kind, .int .i64 a1.num, .string a1.name, .slice a1.at_ a1.args.length a1.cap]] W (AnsR [a0] [a1] W) from (unify_at a0 a1 W (W0.out.below (base_ext h)) (W1.out.below (base_ext h))).mono fun _ _ h => allr_form h)
  have U1 := Lib.hid (fun (W : World) (h : Ext ((w.alloc (.cells #[.int .i64 a0.kind, .int .i64 a0.num, .string a0.name, .slice a0.at_ a0.args.length a0.cap] 24)).alloc (.cells #[.int .i64 a1.kind, .int .i64 a1.num, .string a1.name, .slice a1.at_ a1.args.length a1.cap] 24)) W) => show Calls Try.prog 10 #[.agg #[.int .i64 a1.kind, .int .i64 a1.num, .string a1.name, .slice a1.at_ a1.args.length a1.cap], .agg #[.int .i64 a0.kind, .int .i64 a0.num, .string a0.name, .slice a0.at_ a0.args.length a0.cap]] W (AnsR [a1] [a0] W) from (unify_at a1 a0 W (W1.out.below (base_ext h)) (W0.out.below (base_ext h))).mono fun _ _ h => allr_form h)
  go_enter Try.func5, Try.ntmps5
  go_upto_region 7 with (first
      | (go_at_call 8; have hF := Q0.out _ G0.out; (with_reducible refine hF.mono ?_); rintro e v1 ⟨rfl, h1⟩; have G1 := Lib.hid (G0.out.trans h1); clear x0 x1 x2 x3 y0 y1 y2 y3; obtain ⟨⟨x0, x1, x2, x3⟩, y0, y1, y2, y3⟩ := boxes_two G1.out; clear h1 hF)
      | (go_at_call 8; have hF := Q1.out _ G1.out; (with_reducible refine hF.mono ?_); rintro e v2 ⟨rfl, h1⟩; have G2 := Lib.hid (G1.out.trans h1); clear x0 x1 x2 x3 y0 y1 y2 y3; obtain ⟨⟨x0, x1, x2, x3⟩, y0, y1, y2, y3⟩ := boxes_two G2.out; clear h1 hF)
      | (go_at_call 10; have hF := U0.out _ G2.out; (with_reducible refine hF.mono ?_); rintro e v3 ⟨A5, c5, l5, er5, rfl, o5, b5, h1⟩; have G3 := Lib.hid (G2.out.trans h1); clear x0 x1 x2 x3 y0 y1 y2 y3; obtain ⟨⟨x0, x1, x2, x3⟩, y0, y1, y2, y3⟩ := boxes_two G3.out; have O5 := Lib.hid o5; have B5 := Lib.hid b5; clear h1 hF o5 b5)
      | (go_at_call 10; have hF := U1.out _ G3.out; (with_reducible refine hF.mono ?_); rintro e v4 ⟨A6, c6, l6, er6, rfl, o6, b6, h1⟩; have G4 := Lib.hid (G3.out.trans h1); clear x0 x1 x2 x3 y0 y1 y2 y3; obtain ⟨⟨x0, x1, x2, x3⟩, y0, y1, y2, y3⟩ := boxes_two G4.out; have O6 := Lib.hid (O5.out.symm.unique o6); have B6 := Lib.hid (And.intro (B5.out.below h1) b6); obtain rfl : er5 = er6 := O6.out.2; clear h1 hF o6 b6)
      | (go_at_call 12; have hF := same_b O6.out.1 B6.out.1 B6.out.2; (with_reducible refine hF.mono ?_); rintro e v5 ⟨rfl, h1⟩; have G5 := Lib.hid (G4.out.trans h1); clear x0 x1 x2 x3 y0 y1 y2 y3; obtain ⟨⟨x0, x1, x2, x3⟩, y0, y1, y2, y3⟩ := boxes_two G5.out; have B7 := Lib.hid (B6.out.1.below h1); clear h1 hF))
  by_cases he : er5 = 0
  · subst he
    obtain ⟨p1, p2⟩ := makes_right O5.out
    have M1 := Lib.hid p2
    have HR := Lib.hid (show Calls Try.prog 18 #[.slice A5 l5.length c5] v5.drew (fun e w' => e = .returned (.bool true) ∧ Ext v5 w') from by
      have h := ref_right_s_at l5 A5 c5 v5.drew (B7.out.below (Ext.drew _)) (right_sizes p1)
      rw [p1] at h
      exact h.mono fun _ _ h => ⟨h.1, (show Ext v5.drew _ from h.2).undrew⟩)
    clear p1 p2 Q0 Q1 U0 U1
    go_wp2_with fail
    go_region_held3 (fun W => ((W.cell? ⟨w.heap.size, 0, none⟩ = some (.int .i64 a0.kind) ∧ W.cell? ⟨w.heap.size, 1, none⟩ = some (.int .i64 a0.num) ∧ W.cell? ⟨w.heap.size, 2, none⟩ = some (.string a0.name) ∧ W.cell? ⟨w.heap.size, 3, none⟩ = some (.slice a0.at_ a0.args.length a0.cap)) ∧ W.cell? ⟨w.heap.size + 1, 0, none⟩ = some (.int .i64 a1.kind) ∧ W.cell? ⟨w.heap.size + 1, 1, none⟩ = some (.int .i64 a1.num) ∧ W.cell? ⟨w.heap.size + 1, 2, none⟩ = some (.string a1.name) ∧ W.cell? ⟨w.heap.size + 1, 3, none⟩ = some (.slice a1.at_ a1.args.length a1.cap)) ∧ Ext ((w.alloc (.cells #[.int .i64 a0.kind, .int .i64 a0.num, .string a0.name, .slice a0.at_ a0.args.length a0.cap] 24)).alloc (.cells #[.int .i64 a1.kind, .int .i64 a1.num, .string a1.name, .slice a1.at_ a1.args.length a1.cap] 24)) W) (first | exact ⟨⟨⟨x0, x1, x2, x3⟩, y0, y1, y2, y3⟩, G5.out⟩ | exact ⟨⟨⟨x0, x1, x2, x3⟩, y0, y1, y2, y3⟩, G5.out.trans (Ext.drew _)⟩ | exact ⟨K10, G10.out⟩ | exact ⟨K11, G11.out⟩ | exact ⟨K12, G12.out⟩ | exact ⟨K13, G13.out⟩ | exact ⟨K14, G14.out⟩ | fail) (first
      | (go_at_call 18; refine (HR.out).mono ?_; rintro e v10 ⟨rfl, h1⟩; have G10 := Lib.hid (G5.out.trans h1); have K10 := boxes_two G10.out; have B10 := Lib.hid (B7.out.below h1); clear h1)
      | (go_at_call 20; have hF := rapply_at B10.out (W0.out.below (base_ext G10.out)) N0.out; (with_reducible refine hF.mono ?_); rintro e v11 ⟨u1, rfl, t1, t2, h1⟩; have G11 := Lib.hid (G10.out.trans h1); have K11 := boxes_two G11.out; have T1 := Lib.hid t1; have T2 := Lib.hid t2; have B11 := Lib.hid (B10.out.below h1); clear h1 hF t1 t2)
      | (go_at_call 20; have hF := rapply_at B11.out (W1.out.below (base_ext G11.out)) N1.out; (with_reducible refine hF.mono ?_); rintro e v12 ⟨u2, rfl, t1, t2, h1⟩; have G12 := Lib.hid (G11.out.trans h1); have K12 := boxes_two G12.out; have T3 := Lib.hid (T2.out.below h1); have T4 := Lib.hid t1; have T5 := Lib.hid t2; clear h1 hF t1 t2)
      | (go_at_call 19; have hF := same_t (cmp_strips M1.out T1.out T4.out) T3.out T5.out; (with_reducible refine hF.mono ?_); rintro e v13 ⟨rfl, h1⟩; have G13 := Lib.hid (G12.out.trans h1); have K13 := boxes_two G13.out; clear h1 hF)
      | (go_at_call 9; refine (AW.out _).mono ?_; rintro e v14 ⟨rfl, h1⟩; have G14 := Lib.hid (G13.out.trans h1); have K14 := boxes_two G14.out; clear h1))
    go_wp2_with fail
    go_ret
    exact ⟨rfl, base_ext G14.out⟩
  · have he1 : (er5 != 0) = true := by simpa using he
    have HNIL := makes_none O5.out he
    subst HNIL
    go_wp2_with (first | (go_at_call 9; refine (AW.out _).mono ?_; rintro e v9 ⟨rfl, h1⟩; have X9 := Lib.hid (base_ext (G5.out.trans h1)); clear h1))
    go_ret
    exact ⟨rfl, X9.out⟩
end Go.Proofs.Ytdjbigfobodecaa.unifyMakes
