/-
  The walk of UnifySolves.
-/
import Derived.Test.YtdjbigfobodecaaMk22
namespace Go.Proofs.Ytdjbigfobodecaa.unifySolves
open Go.ChangeShapes Go.WideShapes Go.ChangeAt Go.RowKit Go.Sort
set_option linter.unusedVariables false

set_option maxHeartbeats 16000000 in
set_option maxRecDepth 100000 in
theorem walk (a0 : Tm) (a1 : Tm) (w : World) (w0 : a0.At w) (w1 : a1.At w) :
    Calls Try.prog 3 #[a0.val, a1.val] w fun e w' => e = .returned (.bool true) ∧ Below w.heap.size w w' := by
  have G0 := Lib.hid (Ext.refl ((w.alloc (.cells #[.int .i64 a0.kind, .int .i64 a0.num, .string a0.name, .slice a0.at_ a0.args.length a0.cap] 24)).alloc (.cells #[.int .i64 a1.kind, .int .i64 a1.num, .string a1.name, .slice a1.at_ a1.args.length a1.cap] 24)))
  obtain ⟨q0, hq0⟩ : ∃ r, smallB a0 = r := ⟨_, rfl⟩
  obtain ⟨q1, hq1⟩ : ∃ r, smallB a1 = r := ⟨_, rfl⟩
  have Q0 := Lib.hid (fun (W : World) (h : Ext ((w.alloc (.cells #[.int .i64 a0.kind, .int .i64 a0.num, .string a0.name, .slice a0.at_ a0.args.length a0.cap] 24)).alloc (.cells #[.int .i64 a1.kind, .int .i64 a1.num, .string a1.name, .slice a1.at_ a1.args.length a1.cap] 24)) W) => show Calls Try.prog 8 #[.agg #[.int .i64 a0.kind, .int .i64 a0.num, .string a0.name, .slice a0.at_ a0.args.length a0.cap]] W (fun e w' => e = .returned (.bool q0) ∧ Ext W w') from small_at a0 W (w0.below (base_ext h)) hq0)
  have Q1 := Lib.hid (fun (W : World) (h : Ext ((w.alloc (.cells #[.int .i64 a0.kind, .int .i64 a0.num, .string a0.name, .slice a0.at_ a0.args.length a0.cap] 24)).alloc (.cells #[.int .i64 a1.kind, .int .i64 a1.num, .string a1.name, .slice a1.at_ a1.args.length a1.cap] 24)) W) => show Calls Try.prog 8 #[.agg #[.int .i64 a1.kind, .int .i64 a1.num, .string a1.name, .slice a1.at_ a1.args.length a1.cap]] W (fun e w' => e = .returned (.bool q1) ∧ Ext W w') from small_at a1 W (w1.below (base_ext h)) hq1)
  have AW := Lib.hid awake_at
  have W0 := Lib.hid w0
  have W1 := Lib.hid w1
  clear w0 w1
  obtain ⟨⟨x0, x1, x2, x3⟩, y0, y1, y2, y3⟩ := boxes_two G0.out
  cases q0 with
  | false =>
    clear Q1 hq0 hq1
    go_enter Try.func3, Try.ntmps3
    go_wp2_with (first
      | (go_at_call 8; have hF := Q0.out _ G0.out; (with_reducible refine hF.mono ?_); rintro e v1 ⟨rfl, h1⟩; have G1 := Lib.hid (G0.out.trans h1); clear x0 x1 x2 x3 y0 y1 y2 y3; obtain ⟨⟨x0, x1, x2, x3⟩, y0, y1, y2, y3⟩ := boxes_two G1.out; clear h1 hF)
      | (go_at_call 9; refine (AW.out _).mono ?_; rintro e v9 ⟨rfl, h1⟩; have X9 := Lib.hid (base_ext (G1.out.trans h1)); clear h1))
    go_ret
    exact ⟨rfl, X9.out⟩
  | true =>
  cases q1 with
  | false =>
    clear hq0 hq1
    go_enter Try.func3, Try.ntmps3
    go_wp2_with (first
      | (go_at_call 8; have hF := Q0.out _ G0.out; (with_reducible refine hF.mono ?_); rintro e v1 ⟨rfl, h1⟩; have G1 := Lib.hid (G0.out.trans h1); clear x0 x1 x2 x3 y0 y1 y2 y3; obtain ⟨⟨x0, x1, x2, x3⟩, y0, y1, y2, y3⟩ := boxes_two G1.out; clear h1 hF)
      | (go_at_call 8; have hF := Q1.out _ G1.out; (with_reducible refine hF.mono ?_); rintro e v2 ⟨rfl, h1⟩; have G2 := Lib.hid (G1.out.trans h1); clear x0 x1 x2 x3 y0 y1 y2 y3; obtain ⟨⟨x0, x1, x2, x3⟩, y0, y1, y2, y3⟩ := boxes_two G2.out; clear h1 hF)
      | (go_at_call 9; refine (AW.out _).mono ?_; rintro e v9 ⟨rfl, h1⟩; have X9 := Lib.hid (base_ext (G2.out.trans h1)); clear h1))
    go_ret
    exact ⟨rfl, X9.out⟩
  | true =>
  have N0 := Lib.hid (small_size hq0)
  have N1 := Lib.hid (small_size hq1)
  clear hq0 hq1
  have U0 := Lib.hid (fun (W : World) (h : Ext ((w.alloc (.cells #[.int .i64 a0.kind, .int .i64 a0.num, .string a0.name, .slice a0.at_ a0.args.length a0.cap] 24)).alloc (.cells #[.int .i64 a1.kind, .int .i64 a1.num, .string a1.name, .slice a1.at_ a1.args.length a1.cap] 24)) W) => show Calls Try.prog 10 #[.agg #[.int .i64 a0.kind, .int .i64 a0.num, .string a0.name, .slice a0.at_ a0.args.length a0.cap], .agg #[.int .i64 a1.kind, .int .i64 a1.num, .string a1.name, .slice a1.at_ a1.args.length a1.cap]] W (AnsR [a0] [a1] W) from (unify_at a0 a1 W (W0.out.below (base_ext h)) (W1.out.below (base_ext h))).mono fun _ _ h => allr_form h)
  have U1 := Lib.hid (fun (W : World) (h : Ext ((w.alloc (.cells #[.int .i64 a0.kind, .int .i64 a0.num, .string a0.name, .slice a0.at_ a0.args.length a0.cap] 24)).alloc (.cells #[.int .i64 a1.kind, .int .i64 a1.num, .string a1.name, .slice a1.at_ a1.args.length a1.cap] 24)) W) => show Calls Try.prog 11 #[.agg #[.int .i64 a0.kind, .int .i64 a0.num, .string a0.name, .slice a0.at_ a0.args.length a0.cap], .agg #[.int .i64 a1.kind, .int .i64 a1.num, .string a1.name, .slice a1.at_ a1.args.length a1.cap]] W (RAllO [a0] [a1] W) from runify_at rsolves a0 a1 W (W0.out.below (base_ext h)) (W1.out.below (base_ext h)) N0.out N1.out)
  have C0 := Lib.hid (fun (W : World) (h : Ext ((w.alloc (.cells #[.int .i64 a0.kind, .int .i64 a0.num, .string a0.name, .slice a0.at_ a0.args.length a0.cap] 24)).alloc (.cells #[.int .i64 a1.kind, .int .i64 a1.num, .string a1.name, .slice a1.at_ a1.args.length a1.cap] 24)) W) => show Calls Try.prog 13 #[.agg #[.int .i64 a0.kind, .int .i64 a0.num, .string a0.name, .slice a0.at_ a0.args.length a0.cap], .agg #[.int .i64 a1.kind, .int .i64 a1.num, .string a1.name, .slice a1.at_ a1.args.length a1.cap]] W (fun e w' => ∃ r, e = .returned (.bool r) ∧ CanR a0 a1 r ∧ Ext W w') from unifiable_at a0 a1 W (W0.out.below (base_ext h)) (W1.out.below (base_ext h)))
  have C1 := Lib.hid (fun (W : World) (h : Ext ((w.alloc (.cells #[.int .i64 a0.kind, .int .i64 a0.num, .string a0.name, .slice a0.at_ a0.args.length a0.cap] 24)).alloc (.cells #[.int .i64 a1.kind, .int .i64 a1.num, .string a1.name, .slice a1.at_ a1.args.length a1.cap] 24)) W) => show Calls Try.prog 14 #[.agg #[.int .i64 a0.kind, .int .i64 a0.num, .string a0.name, .slice a0.at_ a0.args.length a0.cap], .agg #[.int .i64 a1.kind, .int .i64 a1.num, .string a1.name, .slice a1.at_ a1.args.length a1.cap]] W (fun e w' => ∃ r, e = .returned (.bool r) ∧ CanR a0 a1 r ∧ Ext W w') from runifiable_at rsolves a0 a1 W (W0.out.below (base_ext h)) (W1.out.below (base_ext h)) N0.out N1.out)
  go_enter Try.func3, Try.ntmps3
  go_upto_region 5 with (first
      | (go_at_call 8; have hF := Q0.out _ G0.out; (with_reducible refine hF.mono ?_); rintro e v1 ⟨rfl, h1⟩; have G1 := Lib.hid (G0.out.trans h1); clear x0 x1 x2 x3 y0 y1 y2 y3; obtain ⟨⟨x0, x1, x2, x3⟩, y0, y1, y2, y3⟩ := boxes_two G1.out; clear h1 hF)
      | (go_at_call 8; have hF := Q1.out _ G1.out; (with_reducible refine hF.mono ?_); rintro e v2 ⟨rfl, h1⟩; have G2 := Lib.hid (G1.out.trans h1); clear x0 x1 x2 x3 y0 y1 y2 y3; obtain ⟨⟨x0, x1, x2, x3⟩, y0, y1, y2, y3⟩ := boxes_two G2.out; clear h1 hF)
      | (go_at_call 10; have hF := U0.out _ G2.out; (with_reducible refine hF.mono ?_); rintro e v3 ⟨A5, c5, l5, er5, rfl, o5, b5, h1⟩; have G3 := Lib.hid (G2.out.trans h1); clear x0 x1 x2 x3 y0 y1 y2 y3; obtain ⟨⟨x0, x1, x2, x3⟩, y0, y1, y2, y3⟩ := boxes_two G3.out; have O5 := Lib.hid o5; have B5 := Lib.hid b5; clear h1 hF o5 b5)
      | (go_at_call 11; have hF := U1.out _ G3.out; (with_reducible refine hF.mono ?_); rintro e v4 ⟨A6, c6, l6, er6, rfl, o6, b6, h1⟩; have G4 := Lib.hid (G3.out.trans h1); clear x0 x1 x2 x3 y0 y1 y2 y3; obtain ⟨⟨x0, x1, x2, x3⟩, y0, y1, y2, y3⟩ := boxes_two G4.out; have O6 := Lib.hid (O5.out.unique o6); have B6 := Lib.hid (And.intro (B5.out.below h1) b6); obtain rfl : er5 = er6 := O6.out.2; clear h1 hF o6 b6))
  have HS := Lib.hid (show Calls Try.prog 12 #[.slice A5 l5.length c5, .slice A6 l6.length c6] v4.drew (fun e w' => e = .returned (.bool true) ∧ Ext v4 w') from (same_b O6.out.1 (B6.out.1.below (Ext.drew _)) (B6.out.2.below (Ext.drew _))).mono fun _ _ h => ⟨h.1, (show Ext v4.drew _ from h.2).undrew⟩)
  clear Q0 Q1 U0 U1
  go_region_held3 (fun W => ((W.cell? ⟨w.heap.size, 0, none⟩ = some (.int .i64 a0.kind) ∧ W.cell? ⟨w.heap.size, 1, none⟩ = some (.int .i64 a0.num) ∧ W.cell? ⟨w.heap.size, 2, none⟩ = some (.string a0.name) ∧ W.cell? ⟨w.heap.size, 3, none⟩ = some (.slice a0.at_ a0.args.length a0.cap)) ∧ W.cell? ⟨w.heap.size + 1, 0, none⟩ = some (.int .i64 a1.kind) ∧ W.cell? ⟨w.heap.size + 1, 1, none⟩ = some (.int .i64 a1.num) ∧ W.cell? ⟨w.heap.size + 1, 2, none⟩ = some (.string a1.name) ∧ W.cell? ⟨w.heap.size + 1, 3, none⟩ = some (.slice a1.at_ a1.args.length a1.cap)) ∧ Ext ((w.alloc (.cells #[.int .i64 a0.kind, .int .i64 a0.num, .string a0.name, .slice a0.at_ a0.args.length a0.cap] 24)).alloc (.cells #[.int .i64 a1.kind, .int .i64 a1.num, .string a1.name, .slice a1.at_ a1.args.length a1.cap] 24)) W) (first | exact ⟨⟨⟨x0, x1, x2, x3⟩, y0, y1, y2, y3⟩, G4.out⟩ | exact ⟨⟨⟨x0, x1, x2, x3⟩, y0, y1, y2, y3⟩, G4.out.trans (Ext.drew _)⟩ | exact ⟨K10, G10.out⟩ | exact ⟨K11, G11.out⟩ | exact ⟨K12, G12.out⟩ | exact ⟨K13, G13.out⟩ | fail) (first
      | (go_at_call 12; refine (HS.out).mono ?_; rintro e v10 ⟨rfl, h1⟩; have G10 := Lib.hid (G4.out.trans h1); have K10 := boxes_two G10.out; clear h1)
      | (go_at_call 13; have hF := C0.out _ G10.out; (with_reducible refine hF.mono ?_); rintro e v11 ⟨r5, rfl, t1, h1⟩; have G11 := Lib.hid (G10.out.trans h1); have K11 := boxes_two G11.out; have T1 := Lib.hid t1; clear h1 hF t1)
      | (go_at_call 14; have hF := C1.out _ G11.out; (with_reducible refine hF.mono ?_); rintro e v12 ⟨r6, rfl, t1, h1⟩; have G12 := Lib.hid (G11.out.trans h1); have K12 := boxes_two G12.out; obtain rfl : r5 = r6 := can_unique T1.out t1; clear h1 hF t1)
      | (go_at_call 9; refine (AW.out _).mono ?_; rintro e v13 ⟨rfl, h1⟩; have G13 := Lib.hid (G12.out.trans h1); have K13 := boxes_two G13.out; clear h1))
  go_wp2_with fail
  go_ret
  exact ⟨by simp, base_ext G13.out⟩
end Go.Proofs.Ytdjbigfobodecaa.unifySolves
