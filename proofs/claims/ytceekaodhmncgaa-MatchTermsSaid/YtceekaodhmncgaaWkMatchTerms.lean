/-
  The walk of MatchTerms.
-/
import Derived.Test.YtceekaodhmncgaaMl8x15
import Derived.Test.YtceekaodhmncgaaMl8x12
import Derived.Test.YtceekaodhmncgaaMl8x16
namespace Go.Proofs.Ytceekaodhmncgaa.matchTerms
open Go.ChangeShapes Go.WideShapes Go.ChangeAt Go.RowKit Go.Sort
set_option linter.unusedVariables false

set_option maxHeartbeats 16000000 in
set_option maxRecDepth 100000 in
theorem walk (A0 : Option Addr) (a0 : List Bd) (c0 : Nat) (x0 y0 : Tm) (w : World) (w0 : BLst w A0 a0 c0 ∧ x0.At w ∧ y0.At w) :
    Calls Try.prog 3 #[.agg #[.slice A0 a0.length c0, .int .i64 x0.kind, .int .i64 x0.num, .string x0.name, .slice x0.at_ x0.args.length x0.cap, .int .i64 y0.kind, .int .i64 y0.num, .string y0.name, .slice y0.at_ y0.args.length y0.cap]] w fun e w' => e = .returned (.bool true) ∧ Below w.heap.size w w' := by
  have w00 := w0.1
  have w01 := w0.2.1
  have w02 := w0.2.2
  clear w0
  have base8 : ∀ (W : World), Ext (w.alloc (.cells #[.slice A0 a0.length c0, .int .i64 x0.kind, .int .i64 x0.num, .string x0.name, .slice x0.at_ x0.args.length x0.cap, .int .i64 y0.kind, .int .i64 y0.num, .string y0.name, .slice y0.at_ y0.args.length y0.cap] 27)) W → Below w.heap.size w W := fun _ h => (Ext.al _ _).trans h
  have B8 := Lib.hid base8
  have G0 := Lib.hid (Ext.refl (w.alloc (.cells #[.slice A0 a0.length c0, .int .i64 x0.kind, .int .i64 x0.num, .string x0.name, .slice x0.at_ x0.args.length x0.cap, .int .i64 y0.kind, .int .i64 y0.num, .string y0.name, .slice y0.at_ y0.args.length y0.cap] 27)))
  obtain ⟨q0, hq0⟩ : ∃ r, largeB a0 = r := ⟨_, rfl⟩
  obtain ⟨q1, hq1⟩ : ∃ r, decide (weigh [x0, y0] 150 64 < 0) = r := ⟨_, rfl⟩
  have QL := Lib.hid (fun (W : World) (h : Ext (w.alloc (.cells #[.slice A0 a0.length c0, .int .i64 x0.kind, .int .i64 x0.num, .string x0.name, .slice x0.at_ x0.args.length x0.cap, .int .i64 y0.kind, .int .i64 y0.num, .string y0.name, .slice y0.at_ y0.args.length y0.cap] 27)) W) => show Calls Try.prog 9 #[.slice A0 a0.length c0] W (fun e w' => e = .returned (.bool q0) ∧ Ext W w') from by rw [← hq0]; exact large_at a0 A0 c0 W (w00.below (base8 _ h)))
  have QG := Lib.hid (fun (W : World) (h : Ext (w.alloc (.cells #[.slice A0 a0.length c0, .int .i64 x0.kind, .int .i64 x0.num, .string x0.name, .slice x0.at_ x0.args.length x0.cap, .int .i64 y0.kind, .int .i64 y0.num, .string y0.name, .slice y0.at_ y0.args.length y0.cap] 27)) W) => show Calls Try.prog 10 #[.slice (some ⟨W.heap.size, 0, none⟩) 2 2, .int .i64 150] (W.alloc (.cells #[.int .i64 x0.kind, .int .i64 x0.num, .string x0.name, .slice x0.at_ x0.args.length x0.cap, .int .i64 y0.kind, .int .i64 y0.num, .string y0.name, .slice y0.at_ y0.args.length y0.cap] 25)) (fun e w' => e = .returned (.bool q1) ∧ Ext W w') from great_two x0 y0 150 W W.heap.size rfl (w01.below (base8 _ h)) (w02.below (base8 _ h)) (by omega) (by omega) hq1)
  have AW := Lib.hid example_at
  cases q0 with
  | true =>
    clear QG hq0 hq1 w00 w01 w02 base8
    have z0 := ext_row G0.out 0 rfl
    have z1 := ext_row G0.out 1 rfl
    have z2 := ext_row G0.out 2 rfl
    have z3 := ext_row G0.out 3 rfl
    have z4 := ext_row G0.out 4 rfl
    have z5 := ext_row G0.out 5 rfl
    have z6 := ext_row G0.out 6 rfl
    have z7 := ext_row G0.out 7 rfl
    have z8 := ext_row G0.out 8 rfl
    go_enter Try.func3, Try.ntmps3
    go_wp2_with (first
      | (go_at_call 9; have hF := QL.out _ G0.out; (with_reducible refine hF.mono ?_); rintro e v1 ⟨rfl, h1⟩; have G1 := Lib.hid (G0.out.trans h1); clear z0 z1 z2 z3 z4 z5 z6 z7 z8; have z0 := ext_row G1.out 0 rfl; have z1 := ext_row G1.out 1 rfl; have z2 := ext_row G1.out 2 rfl; have z3 := ext_row G1.out 3 rfl; have z4 := ext_row G1.out 4 rfl; have z5 := ext_row G1.out 5 rfl; have z6 := ext_row G1.out 6 rfl; have z7 := ext_row G1.out 7 rfl; have z8 := ext_row G1.out 8 rfl; clear h1 hF)
      | (go_at_call 11; have hF := AW.out v1; (with_reducible refine hF.mono ?_); rintro e v2 ⟨rfl, h1⟩; have G2 := Lib.hid (G1.out.trans h1); clear h1 hF)
      | fail)
    go_ret
    exact ⟨rfl, B8.out _ G2.out⟩
  | false =>
  cases q1 with
  | true =>
    clear hq0 hq1 w00 w01 w02 base8
    have z0 := ext_row G0.out 0 rfl
    have z1 := ext_row G0.out 1 rfl
    have z2 := ext_row G0.out 2 rfl
    have z3 := ext_row G0.out 3 rfl
    have z4 := ext_row G0.out 4 rfl
    have z5 := ext_row G0.out 5 rfl
    have z6 := ext_row G0.out 6 rfl
    have z7 := ext_row G0.out 7 rfl
    have z8 := ext_row G0.out 8 rfl
    go_enter Try.func3, Try.ntmps3
    go_wp2_with (first
      | (go_at_call 9; have hF := QL.out _ G0.out; (with_reducible refine hF.mono ?_); rintro e v1 ⟨rfl, h1⟩; have G1 := Lib.hid (G0.out.trans h1); clear z0 z1 z2 z3 z4 z5 z6 z7 z8; have z0 := ext_row G1.out 0 rfl; have z1 := ext_row G1.out 1 rfl; have z2 := ext_row G1.out 2 rfl; have z3 := ext_row G1.out 3 rfl; have z4 := ext_row G1.out 4 rfl; have z5 := ext_row G1.out 5 rfl; have z6 := ext_row G1.out 6 rfl; have z7 := ext_row G1.out 7 rfl; have z8 := ext_row G1.out 8 rfl; clear h1 hF)
      | (go_at_call 10; have hF := QG.out _ G1.out; (with_reducible refine hF.mono ?_); rintro e v2 ⟨rfl, h1⟩; have G2 := Lib.hid (G1.out.trans h1); clear z0 z1 z2 z3 z4 z5 z6 z7 z8; have z0 := ext_row G2.out 0 rfl; have z1 := ext_row G2.out 1 rfl; have z2 := ext_row G2.out 2 rfl; have z3 := ext_row G2.out 3 rfl; have z4 := ext_row G2.out 4 rfl; have z5 := ext_row G2.out 5 rfl; have z6 := ext_row G2.out 6 rfl; have z7 := ext_row G2.out 7 rfl; have z8 := ext_row G2.out 8 rfl; clear h1 hF)
      | (go_at_call 11; have hF := AW.out v2; (with_reducible refine hF.mono ?_); rintro e v3 ⟨rfl, h1⟩; have G3 := Lib.hid (G2.out.trans h1); clear h1 hF)
      | fail)
    go_ret
    exact ⟨rfl, B8.out _ G3.out⟩
  | false =>
    obtain ⟨hle, hne⟩ := small_env hq0
    have hnn := not_great_two hq1
    obtain ⟨r, hr⟩ : ∃ r, matT a0 x0 y0 = r := ⟨_, rfl⟩
    have QT := Lib.hid (fun (W : World) (h : Ext (w.alloc (.cells #[.slice A0 a0.length c0, .int .i64 x0.kind, .int .i64 x0.num, .string x0.name, .slice x0.at_ x0.args.length x0.cap, .int .i64 y0.kind, .int .i64 y0.num, .string y0.name, .slice y0.at_ y0.args.length y0.cap] 27)) W) => show Calls Try.prog 12 #[.slice A0 a0.length c0, .agg #[.int .i64 x0.kind, .int .i64 x0.num, .string x0.name, .slice x0.at_ x0.args.length x0.cap], .agg #[.int .i64 y0.kind, .int .i64 y0.num, .string y0.name, .slice y0.at_ y0.args.length y0.cap]] W (fun e w' => ∃ A q, ∃ l : List Bd, e = .returned (.tuple #[.slice A l.length q, .bool r.isSome]) ∧ stripB l = stripB (r.getD []) ∧ BLst w' A l q ∧ Ext W w') from by rw [← hr]; exact match_term_at a0 A0 c0 x0 y0 W (w00.below (base8 _ h)) (by omega) (fun x hx => by have := hne x hx; omega) (w01.below (base8 _ h)) (w02.below (base8 _ h)) (by omega) (by omega))
    have QR := Lib.hid (fun (W : World) (h : Ext (w.alloc (.cells #[.slice A0 a0.length c0, .int .i64 x0.kind, .int .i64 x0.num, .string x0.name, .slice x0.at_ x0.args.length x0.cap, .int .i64 y0.kind, .int .i64 y0.num, .string y0.name, .slice y0.at_ y0.args.length y0.cap] 27)) W) => show Calls Try.prog 13 #[.slice A0 a0.length c0, .agg #[.int .i64 x0.kind, .int .i64 x0.num, .string x0.name, .slice x0.at_ x0.args.length x0.cap], .agg #[.int .i64 y0.kind, .int .i64 y0.num, .string y0.name, .slice y0.at_ y0.args.length y0.cap]] W (fun e w' => ∃ A q, e = .returned (.tuple #[.slice A (r.getD []).length q, .bool r.isSome]) ∧ BLst w' A (r.getD []) q ∧ Ext W w') from by rw [← hr]; exact ref_mat_at x0 a0 A0 c0 y0 W (w00.below (base8 _ h)) (w01.below (base8 _ h)) (w02.below (base8 _ h)) (by omega))
    generalize r.isSome = ok at *
    generalize r.getD [] = m at *
    clear hq0 hq1 w00 w01 w02 base8 hle hne hnn hr
    have z0 := ext_row G0.out 0 rfl
    have z1 := ext_row G0.out 1 rfl
    have z2 := ext_row G0.out 2 rfl
    have z3 := ext_row G0.out 3 rfl
    have z4 := ext_row G0.out 4 rfl
    have z5 := ext_row G0.out 5 rfl
    have z6 := ext_row G0.out 6 rfl
    have z7 := ext_row G0.out 7 rfl
    have z8 := ext_row G0.out 8 rfl
    go_enter Try.func3, Try.ntmps3
    go_wp2_with (first
      | (go_at_call 9; have hF := QL.out _ G0.out; (with_reducible refine hF.mono ?_); rintro e v1 ⟨rfl, h1⟩; have G1 := Lib.hid (G0.out.trans h1); clear z0 z1 z2 z3 z4 z5 z6 z7 z8; have z0 := ext_row G1.out 0 rfl; have z1 := ext_row G1.out 1 rfl; have z2 := ext_row G1.out 2 rfl; have z3 := ext_row G1.out 3 rfl; have z4 := ext_row G1.out 4 rfl; have z5 := ext_row G1.out 5 rfl; have z6 := ext_row G1.out 6 rfl; have z7 := ext_row G1.out 7 rfl; have z8 := ext_row G1.out 8 rfl; clear h1 hF)
      | (go_at_call 10; have hF := QG.out _ G1.out; (with_reducible refine hF.mono ?_); rintro e v2 ⟨rfl, h1⟩; have G2 := Lib.hid (G1.out.trans h1); clear z0 z1 z2 z3 z4 z5 z6 z7 z8; have z0 := ext_row G2.out 0 rfl; have z1 := ext_row G2.out 1 rfl; have z2 := ext_row G2.out 2 rfl; have z3 := ext_row G2.out 3 rfl; have z4 := ext_row G2.out 4 rfl; have z5 := ext_row G2.out 5 rfl; have z6 := ext_row G2.out 6 rfl; have z7 := ext_row G2.out 7 rfl; have z8 := ext_row G2.out 8 rfl; clear h1 hF)
      | (go_at_call 12; have hF := QT.out _ G2.out; (with_reducible refine hF.mono ?_); rintro e v3 ⟨A5, q5, l5, rfl, s5, b5, h1⟩; have G3 := Lib.hid (G2.out.trans h1); clear z0 z1 z2 z3 z4 z5 z6 z7 z8; have z0 := ext_row G3.out 0 rfl; have z1 := ext_row G3.out 1 rfl; have z2 := ext_row G3.out 2 rfl; have z3 := ext_row G3.out 3 rfl; have z4 := ext_row G3.out 4 rfl; have z5 := ext_row G3.out 5 rfl; have z6 := ext_row G3.out 6 rfl; have z7 := ext_row G3.out 7 rfl; have z8 := ext_row G3.out 8 rfl; have S5 := Lib.hid s5; have B5 := Lib.hid b5; clear h1 hF s5 b5)
      | (go_at_call 13; have hF := QR.out _ G3.out; (with_reducible refine hF.mono ?_); rintro e v4 ⟨A6, q6, rfl, b6, h1⟩; have G4 := Lib.hid (G3.out.trans h1); clear z0 z1 z2 z3 z4 z5 z6 z7 z8; have z0 := ext_row G4.out 0 rfl; have z1 := ext_row G4.out 1 rfl; have z2 := ext_row G4.out 2 rfl; have z3 := ext_row G4.out 3 rfl; have z4 := ext_row G4.out 4 rfl; have z5 := ext_row G4.out 5 rfl; have z6 := ext_row G4.out 6 rfl; have z7 := ext_row G4.out 7 rfl; have z8 := ext_row G4.out 8 rfl; have B6 := Lib.hid b6; have B54 := Lib.hid (B5.out.below h1); clear h1 hF b6)
      | (go_at_call 14; have hF := eq_any v4 B54.out B6.out S5.out; (with_reducible refine hF.mono ?_); rintro e v5 ⟨rfl, h1⟩; have G5 := Lib.hid (G4.out.trans h1); clear h1 hF)
      | (go_at_call 11; have hF := AW.out v5; (with_reducible refine hF.mono ?_); rintro e v6 ⟨rfl, h1⟩; have G6 := Lib.hid (G5.out.trans h1); clear h1 hF)
      | fail)
    go_ret
    exact ⟨rfl, B8.out _ G6.out⟩
end Go.Proofs.Ytceekaodhmncgaa.matchTerms
