/-
  The walk of MatchAtoms.
-/
import Derived.Test.YtceekaodhmncgaaMl8x15
import Derived.Test.YtceekaodhmncgaaMl8x12
import Derived.Test.YtceekaodhmncgaaMl8x16
namespace Go.Proofs.Ytceekaodhmncgaa.matchAtoms
open Go.ChangeShapes Go.WideShapes Go.ChangeAt Go.RowKit Go.Sort
set_option linter.unusedVariables false

set_option maxHeartbeats 16000000 in
set_option maxRecDepth 100000 in
theorem walk (A0 : Option Addr) (a0 : List Bd) (c0 : Nat) (a1 : Am) (a2 : Am) (w : World) (w0 : BLst w A0 a0 c0) (w1 : a1.At w) (w2 : a2.At w) :
    Calls Try.prog 4 #[.slice A0 a0.length c0, a1.val, a2.val] w fun e w' => e = .returned (.bool true) ∧ Below w.heap.size w w' := by
  have base8 : ∀ (W : World), Ext ((w.alloc (.cells #[.string a1.name, .slice a1.at_ a1.args.length a1.cap] 36)).alloc (.cells #[.string a2.name, .slice a2.at_ a2.args.length a2.cap] 36)) W → Below w.heap.size w W := fun _ h => (Ext.al2 _ _ _).trans h
  have B8 := Lib.hid base8
  have G0 := Lib.hid (Ext.refl ((w.alloc (.cells #[.string a1.name, .slice a1.at_ a1.args.length a1.cap] 36)).alloc (.cells #[.string a2.name, .slice a2.at_ a2.args.length a2.cap] 36)))
  obtain ⟨q0, hq0⟩ : ∃ r, largeB a0 = r := ⟨_, rfl⟩
  obtain ⟨q1, hq1⟩ : ∃ r, decide (weighN a2.name a2.args (weighN a1.name a1.args 150) < 0) = r := ⟨_, rfl⟩
  have QL := Lib.hid (fun (W : World) (h : Ext ((w.alloc (.cells #[.string a1.name, .slice a1.at_ a1.args.length a1.cap] 36)).alloc (.cells #[.string a2.name, .slice a2.at_ a2.args.length a2.cap] 36)) W) => show Calls Try.prog 9 #[.slice A0 a0.length c0] W (fun e w' => e = .returned (.bool q0) ∧ Ext W w') from by rw [← hq0]; exact large_at a0 A0 c0 W (w0.below (base8 _ h)))
  have QG := Lib.hid (fun (W : World) (h : Ext ((w.alloc (.cells #[.string a1.name, .slice a1.at_ a1.args.length a1.cap] 36)).alloc (.cells #[.string a2.name, .slice a2.at_ a2.args.length a2.cap] 36)) W) => show Calls Try.prog 15 #[.slice (some ⟨W.heap.size, 0, none⟩) 2 2, .int .i64 150] (W.alloc (.cells #[.string a1.name, .slice a1.at_ a1.args.length a1.cap, .string a2.name, .slice a2.at_ a2.args.length a2.cap] 36)) (fun e w' => e = .returned (.bool q1) ∧ Ext W w') from great_atoms_150 a1 a2 W W.heap.size rfl (w1.below (base8 _ h)) (w2.below (base8 _ h)) hq1)
  have AW := Lib.hid example_at
  cases q0 with
  | true =>
    clear QG hq0 hq1 w0 w1 w2 base8
    have z0 := ext_row1 G0.out 0 rfl
    have z1 := ext_row1 G0.out 1 rfl
    have y0 := ext_row2 G0.out 0 rfl
    have y1 := ext_row2 G0.out 1 rfl
    go_enter Try.func4, Try.ntmps4
    go_wp2_with (first
      | (go_at_call 9; have hF := QL.out _ G0.out; (with_reducible refine hF.mono ?_); rintro e v1 ⟨rfl, h1⟩; have G1 := Lib.hid (G0.out.trans h1); clear z0 z1 y0 y1; have z0 := ext_row1 G1.out 0 rfl; have y0 := ext_row2 G1.out 0 rfl; have z1 := ext_row1 G1.out 1 rfl; have y1 := ext_row2 G1.out 1 rfl; clear h1 hF)
      | (go_at_call 11; have hF := AW.out v1; (with_reducible refine hF.mono ?_); rintro e v2 ⟨rfl, h1⟩; have G2 := Lib.hid (G1.out.trans h1); clear h1 hF)
      | fail)
    go_ret
    exact ⟨rfl, B8.out _ G2.out⟩
  | false =>
  cases q1 with
  | true =>
    clear hq0 hq1 w0 w1 w2 base8
    have z0 := ext_row1 G0.out 0 rfl
    have z1 := ext_row1 G0.out 1 rfl
    have y0 := ext_row2 G0.out 0 rfl
    have y1 := ext_row2 G0.out 1 rfl
    go_enter Try.func4, Try.ntmps4
    go_wp2_with (first
      | (go_at_call 9; have hF := QL.out _ G0.out; (with_reducible refine hF.mono ?_); rintro e v1 ⟨rfl, h1⟩; have G1 := Lib.hid (G0.out.trans h1); clear z0 z1 y0 y1; have z0 := ext_row1 G1.out 0 rfl; have y0 := ext_row2 G1.out 0 rfl; have z1 := ext_row1 G1.out 1 rfl; have y1 := ext_row2 G1.out 1 rfl; clear h1 hF)
      | (go_at_call 15; have hF := QG.out _ G1.out; (with_reducible refine hF.mono ?_); rintro e v2 ⟨rfl, h1⟩; have G2 := Lib.hid (G1.out.trans h1); clear z0 z1 y0 y1; have z0 := ext_row1 G2.out 0 rfl; have y0 := ext_row2 G2.out 0 rfl; have z1 := ext_row1 G2.out 1 rfl; have y1 := ext_row2 G2.out 1 rfl; clear h1 hF)
      | (go_at_call 11; have hF := AW.out v2; (with_reducible refine hF.mono ?_); rintro e v3 ⟨rfl, h1⟩; have G3 := Lib.hid (G2.out.trans h1); clear h1 hF)
      | fail)
    go_ret
    exact ⟨rfl, B8.out _ G3.out⟩
  | false =>
    obtain ⟨hle, hne⟩ := small_env hq0
    obtain ⟨hn1, hn2⟩ := not_great_atoms hq1
    obtain ⟨r, hr⟩ : ∃ r, (if a1.name = a2.name then matL a0 a1.args a2.args else none) = r := ⟨_, rfl⟩
    have QT := Lib.hid (fun (W : World) (h : Ext ((w.alloc (.cells #[.string a1.name, .slice a1.at_ a1.args.length a1.cap] 36)).alloc (.cells #[.string a2.name, .slice a2.at_ a2.args.length a2.cap] 36)) W) => show Calls Try.prog 16 #[.slice A0 a0.length c0, .agg #[.string a1.name, .slice a1.at_ a1.args.length a1.cap], .agg #[.string a2.name, .slice a2.at_ a2.args.length a2.cap]] W (fun e w' => ∃ A q, ∃ l : List Bd, e = .returned (.tuple #[.slice A l.length q, .bool r.isSome]) ∧ stripB l = stripB (r.getD []) ∧ BLst w' A l q ∧ Ext W w') from by rw [← hr]; exact match_atom_at a0 A0 c0 a1 a2 W (w0.below (base8 _ h)) (by omega) (fun x hx => by have := hne x hx; omega) (am_below w1 (base8 _ h)) (am_below w2 (base8 _ h)) (by omega) (by omega))
    have QR := Lib.hid (fun (W : World) (h : Ext ((w.alloc (.cells #[.string a1.name, .slice a1.at_ a1.args.length a1.cap] 36)).alloc (.cells #[.string a2.name, .slice a2.at_ a2.args.length a2.cap] 36)) W) => show Calls Try.prog 17 #[.slice A0 a0.length c0, .agg #[.string a1.name, .slice a1.at_ a1.args.length a1.cap], .agg #[.string a2.name, .slice a2.at_ a2.args.length a2.cap]] W (fun e w' => ∃ A q, e = .returned (.tuple #[.slice A (r.getD []).length q, .bool r.isSome]) ∧ BLst w' A (r.getD []) q ∧ Ext W w') from by rw [← hr]; exact ref_atom_at a0 A0 c0 a1 a2 W (w0.below (base8 _ h)) (am_below w1 (base8 _ h)) (am_below w2 (base8 _ h)) (by omega))
    generalize r.isSome = ok at *
    generalize r.getD [] = m at *
    clear hq0 hq1 w0 w1 w2 base8 hle hne hn1 hn2 hr
    have z0 := ext_row1 G0.out 0 rfl
    have z1 := ext_row1 G0.out 1 rfl
    have y0 := ext_row2 G0.out 0 rfl
    have y1 := ext_row2 G0.out 1 rfl
    go_enter Try.func4, Try.ntmps4
    go_wp2_with (first
      | (go_at_call 9; have hF := QL.out _ G0.out; (with_reducible refine hF.mono ?_); rintro e v1 ⟨rfl, h1⟩; have G1 := Lib.hid (G0.out.trans h1); clear z0 z1 y0 y1; have z0 := ext_row1 G1.out 0 rfl; have y0 := ext_row2 G1.out 0 rfl; have z1 := ext_row1 G1.out 1 rfl; have y1 := ext_row2 G1.out 1 rfl; clear h1 hF)
      | (go_at_call 15; have hF := QG.out _ G1.out; (with_reducible refine hF.mono ?_); rintro e v2 ⟨rfl, h1⟩; have G2 := Lib.hid (G1.out.trans h1); clear z0 z1 y0 y1; have z0 := ext_row1 G2.out 0 rfl; have y0 := ext_row2 G2.out 0 rfl; have z1 := ext_row1 G2.out 1 rfl; have y1 := ext_row2 G2.out 1 rfl; clear h1 hF)
      | (go_at_call 16; have hF := QT.out _ G2.out; (with_reducible refine hF.mono ?_); rintro e v3 ⟨A5, q5, l5, rfl, s5, b5, h1⟩; have G3 := Lib.hid (G2.out.trans h1); clear z0 z1 y0 y1; have z0 := ext_row1 G3.out 0 rfl; have y0 := ext_row2 G3.out 0 rfl; have z1 := ext_row1 G3.out 1 rfl; have y1 := ext_row2 G3.out 1 rfl; have S5 := Lib.hid s5; have B5 := Lib.hid b5; clear h1 hF s5 b5)
      | (go_at_call 17; have hF := QR.out _ G3.out; (with_reducible refine hF.mono ?_); rintro e v4 ⟨A6, q6, rfl, b6, h1⟩; have G4 := Lib.hid (G3.out.trans h1); clear z0 z1 y0 y1; have z0 := ext_row1 G4.out 0 rfl; have y0 := ext_row2 G4.out 0 rfl; have z1 := ext_row1 G4.out 1 rfl; have y1 := ext_row2 G4.out 1 rfl; have B6 := Lib.hid b6; have B54 := Lib.hid (B5.out.below h1); clear h1 hF b6)
      | (go_at_call 14; have hF := eq_any v4 B54.out B6.out S5.out; (with_reducible refine hF.mono ?_); rintro e v5 ⟨rfl, h1⟩; have G5 := Lib.hid (G4.out.trans h1); clear h1 hF)
      | (go_at_call 11; have hF := AW.out v5; (with_reducible refine hF.mono ?_); rintro e v6 ⟨rfl, h1⟩; have G6 := Lib.hid (G5.out.trans h1); clear h1 hF)
      | fail)
    go_ret
    exact ⟨rfl, B8.out _ G6.out⟩
end Go.Proofs.Ytceekaodhmncgaa.matchAtoms
