/-
  The walk of MatchKeeps.
-/
import Derived.Test.YtceekaodhmncgaaMl8x15
import Derived.Test.YtceekaodhmncgaaMl8x12
import Derived.Test.YtceekaodhmncgaaMl8x16
import Derived.Test.YtceekaodhmncgaaMl8x17
namespace Go.Proofs.Ytceekaodhmncgaa.matchKeeps
open Go.ChangeShapes Go.WideShapes Go.ChangeAt Go.RowKit Go.Sort
set_option linter.unusedVariables false

set_option maxHeartbeats 16000000 in
set_option maxRecDepth 100000 in
theorem walk (A0 : Option Addr) (a0 : List Bd) (c0 : Nat) (x0 y0 : Tm) (w : World) (w0 : BLst w A0 a0 c0 ∧ x0.At w ∧ y0.At w) :
    Calls Try.prog 8 #[.agg #[.slice A0 a0.length c0, .int .i64 x0.kind, .int .i64 x0.num, .string x0.name, .slice x0.at_ x0.args.length x0.cap, .int .i64 y0.kind, .int .i64 y0.num, .string y0.name, .slice y0.at_ y0.args.length y0.cap]] w fun e w' => e = .returned (.bool true) ∧ Below w.heap.size w w' := by
  have w00 := w0.1
  have w01 := w0.2.1
  have w02 := w0.2.2
  clear w0
  have base8 : ∀ (W : World), Ext (w.alloc (.cells #[.slice A0 a0.length c0, .int .i64 x0.kind, .int .i64 x0.num, .string x0.name, .slice x0.at_ x0.args.length x0.cap, .int .i64 y0.kind, .int .i64 y0.num, .string y0.name, .slice y0.at_ y0.args.length y0.cap] 27)) W → Below w.heap.size w W := fun _ h => (Ext.al _ _).trans h
  have B8 := Lib.hid base8
  have G0 := Lib.hid (Ext.refl (w.alloc (.cells #[.slice A0 a0.length c0, .int .i64 x0.kind, .int .i64 x0.num, .string x0.name, .slice x0.at_ x0.args.length x0.cap, .int .i64 y0.kind, .int .i64 y0.num, .string y0.name, .slice y0.at_ y0.args.length y0.cap] 27)))
  obtain ⟨q0, hq0⟩ : ∃ r, largeB a0 = r := ⟨_, rfl⟩
  obtain ⟨q2, hq2⟩ : ∃ r, ascB a0 = r := ⟨_, rfl⟩
  obtain ⟨q1, hq1⟩ : ∃ r, decide (weigh [x0, y0] 150 64 < 0) = r := ⟨_, rfl⟩
  have QL := Lib.hid (fun (W : World) (h : Ext (w.alloc (.cells #[.slice A0 a0.length c0, .int .i64 x0.kind, .int .i64 x0.num, .string x0.name, .slice x0.at_ x0.args.length x0.cap, .int .i64 y0.kind, .int .i64 y0.num, .string y0.name, .slice y0.at_ y0.args.length y0.cap] 27)) W) => show Calls Try.prog 9 #[.slice A0 a0.length c0] W (fun e w' => e = .returned (.bool q0) ∧ Ext W w') from by rw [← hq0]; exact large_at a0 A0 c0 W (w00.below (base8 _ h)))
  have QG := Lib.hid (fun (W : World) (h : Ext (w.alloc (.cells #[.slice A0 a0.length c0, .int .i64 x0.kind, .int .i64 x0.num, .string x0.name, .slice x0.at_ x0.args.length x0.cap, .int .i64 y0.kind, .int .i64 y0.num, .string y0.name, .slice y0.at_ y0.args.length y0.cap] 27)) W) => show Calls Try.prog 10 #[.slice (some ⟨W.heap.size, 0, none⟩) 2 2, .int .i64 150] (W.alloc (.cells #[.int .i64 x0.kind, .int .i64 x0.num, .string x0.name, .slice x0.at_ x0.args.length x0.cap, .int .i64 y0.kind, .int .i64 y0.num, .string y0.name, .slice y0.at_ y0.args.length y0.cap] 25)) (fun e w' => e = .returned (.bool q1) ∧ Ext W w') from great_two x0 y0 150 W W.heap.size rfl (w01.below (base8 _ h)) (w02.below (base8 _ h)) (by omega) (by omega) hq1)
  have AW := Lib.hid example_at
  cases q0 with
  | true =>
    clear QG hq0 hq1 hq2 w00 w01 w02 base8
    have z0 := ext_row G0.out 0 rfl
    have z1 := ext_row G0.out 1 rfl
    have z2 := ext_row G0.out 2 rfl
    have z3 := ext_row G0.out 3 rfl
    have z4 := ext_row G0.out 4 rfl
    have z5 := ext_row G0.out 5 rfl
    have z6 := ext_row G0.out 6 rfl
    have z7 := ext_row G0.out 7 rfl
    have z8 := ext_row G0.out 8 rfl
    go_enter Try.func8, Try.ntmps8
    go_wp2_with (first
      | (go_at_call 9; have hF := QL.out _ G0.out; (with_reducible refine hF.mono ?_); rintro e v1 ⟨rfl, h1⟩; have G1 := Lib.hid (G0.out.trans h1); clear z0 z1 z2 z3 z4 z5 z6 z7 z8; have z0 := ext_row G1.out 0 rfl; have z1 := ext_row G1.out 1 rfl; have z2 := ext_row G1.out 2 rfl; have z3 := ext_row G1.out 3 rfl; have z4 := ext_row G1.out 4 rfl; have z5 := ext_row G1.out 5 rfl; have z6 := ext_row G1.out 6 rfl; have z7 := ext_row G1.out 7 rfl; have z8 := ext_row G1.out 8 rfl; clear h1 hF)
      | (go_at_call 11; have hF := AW.out v1; (with_reducible refine hF.mono ?_); rintro e v2 ⟨rfl, h1⟩; have G2 := Lib.hid (G1.out.trans h1); clear h1 hF)
      | fail)
    go_ret
    exact ⟨rfl, B8.out _ G2.out⟩
  | false =>
    have QA := Lib.hid (fun (W : World) (h : Ext (w.alloc (.cells #[.slice A0 a0.length c0, .int .i64 x0.kind, .int .i64 x0.num, .string x0.name, .slice x0.at_ x0.args.length x0.cap, .int .i64 y0.kind, .int .i64 y0.num, .string y0.name, .slice y0.at_ y0.args.length y0.cap] 27)) W) => show Calls Try.prog 29 #[.slice A0 a0.length c0] W (fun e w' => e = .returned (.bool q2) ∧ Ext W w') from by rw [← hq2]; exact ascending_at a0 A0 c0 W (w00.below (base8 _ h)) (by have := (small_env hq0).1; omega))
    cases q2 with
    | false =>
      clear QG hq0 hq1 hq2 w00 w01 w02 base8
      have z0 := ext_row G0.out 0 rfl
      have z1 := ext_row G0.out 1 rfl
      have z2 := ext_row G0.out 2 rfl
      have z3 := ext_row G0.out 3 rfl
      have z4 := ext_row G0.out 4 rfl
      have z5 := ext_row G0.out 5 rfl
      have z6 := ext_row G0.out 6 rfl
      have z7 := ext_row G0.out 7 rfl
      have z8 := ext_row G0.out 8 rfl
      go_enter Try.func8, Try.ntmps8
      go_wp2_with (first
        | (go_at_call 9; have hF := QL.out _ G0.out; (with_reducible refine hF.mono ?_); rintro e v1 ⟨rfl, h1⟩; have G1 := Lib.hid (G0.out.trans h1); clear z0 z1 z2 z3 z4 z5 z6 z7 z8; have z0 := ext_row G1.out 0 rfl; have z1 := ext_row G1.out 1 rfl; have z2 := ext_row G1.out 2 rfl; have z3 := ext_row G1.out 3 rfl; have z4 := ext_row G1.out 4 rfl; have z5 := ext_row G1.out 5 rfl; have z6 := ext_row G1.out 6 rfl; have z7 := ext_row G1.out 7 rfl; have z8 := ext_row G1.out 8 rfl; clear h1 hF)
        | (go_at_call 29; have hF := QA.out _ G1.out; (with_reducible refine hF.mono ?_); rintro e v2 ⟨rfl, h1⟩; have G2 := Lib.hid (G1.out.trans h1); clear z0 z1 z2 z3 z4 z5 z6 z7 z8; have z0 := ext_row G2.out 0 rfl; have z1 := ext_row G2.out 1 rfl; have z2 := ext_row G2.out 2 rfl; have z3 := ext_row G2.out 3 rfl; have z4 := ext_row G2.out 4 rfl; have z5 := ext_row G2.out 5 rfl; have z6 := ext_row G2.out 6 rfl; have z7 := ext_row G2.out 7 rfl; have z8 := ext_row G2.out 8 rfl; clear h1 hF)
        | (go_at_call 11; have hF := AW.out v2; (with_reducible refine hF.mono ?_); rintro e v3 ⟨rfl, h1⟩; have G3 := Lib.hid (G2.out.trans h1); clear h1 hF)
        | fail)
      go_ret
      exact ⟨rfl, B8.out _ G3.out⟩
    | true =>
    cases q1 with
    | true =>
      clear hq0 hq1 hq2 w00 w01 w02 base8
      have z0 := ext_row G0.out 0 rfl
      have z1 := ext_row G0.out 1 rfl
      have z2 := ext_row G0.out 2 rfl
      have z3 := ext_row G0.out 3 rfl
      have z4 := ext_row G0.out 4 rfl
      have z5 := ext_row G0.out 5 rfl
      have z6 := ext_row G0.out 6 rfl
      have z7 := ext_row G0.out 7 rfl
      have z8 := ext_row G0.out 8 rfl
      go_enter Try.func8, Try.ntmps8
      go_wp2_with (first
        | (go_at_call 9; have hF := QL.out _ G0.out; (with_reducible refine hF.mono ?_); rintro e v1 ⟨rfl, h1⟩; have G1 := Lib.hid (G0.out.trans h1); clear z0 z1 z2 z3 z4 z5 z6 z7 z8; have z0 := ext_row G1.out 0 rfl; have z1 := ext_row G1.out 1 rfl; have z2 := ext_row G1.out 2 rfl; have z3 := ext_row G1.out 3 rfl; have z4 := ext_row G1.out 4 rfl; have z5 := ext_row G1.out 5 rfl; have z6 := ext_row G1.out 6 rfl; have z7 := ext_row G1.out 7 rfl; have z8 := ext_row G1.out 8 rfl; clear h1 hF)
        | (go_at_call 29; have hF := QA.out _ G1.out; (with_reducible refine hF.mono ?_); rintro e v2 ⟨rfl, h1⟩; have G2 := Lib.hid (G1.out.trans h1); clear z0 z1 z2 z3 z4 z5 z6 z7 z8; have z0 := ext_row G2.out 0 rfl; have z1 := ext_row G2.out 1 rfl; have z2 := ext_row G2.out 2 rfl; have z3 := ext_row G2.out 3 rfl; have z4 := ext_row G2.out 4 rfl; have z5 := ext_row G2.out 5 rfl; have z6 := ext_row G2.out 6 rfl; have z7 := ext_row G2.out 7 rfl; have z8 := ext_row G2.out 8 rfl; clear h1 hF)
        | (go_at_call 10; have hF := QG.out _ G2.out; (with_reducible refine hF.mono ?_); rintro e v3 ⟨rfl, h1⟩; have G3 := Lib.hid (G2.out.trans h1); clear z0 z1 z2 z3 z4 z5 z6 z7 z8; have z0 := ext_row G3.out 0 rfl; have z1 := ext_row G3.out 1 rfl; have z2 := ext_row G3.out 2 rfl; have z3 := ext_row G3.out 3 rfl; have z4 := ext_row G3.out 4 rfl; have z5 := ext_row G3.out 5 rfl; have z6 := ext_row G3.out 6 rfl; have z7 := ext_row G3.out 7 rfl; have z8 := ext_row G3.out 8 rfl; clear h1 hF)
        | (go_at_call 11; have hF := AW.out v3; (with_reducible refine hF.mono ?_); rintro e v4 ⟨rfl, h1⟩; have G4 := Lib.hid (G3.out.trans h1); clear h1 hF)
        | fail)
      go_ret
      exact ⟨rfl, B8.out _ G4.out⟩
    | false =>
      obtain ⟨hle, hne⟩ := small_env hq0
      have hnn := not_great_two hq1
      have hasc := ascB_iff.1 hq2
      obtain ⟨r, hr⟩ : ∃ r, matT a0 x0 y0 = r := ⟨_, rfl⟩
      have QT := Lib.hid (fun (W : World) (h : Ext (w.alloc (.cells #[.slice A0 a0.length c0, .int .i64 x0.kind, .int .i64 x0.num, .string x0.name, .slice x0.at_ x0.args.length x0.cap, .int .i64 y0.kind, .int .i64 y0.num, .string y0.name, .slice y0.at_ y0.args.length y0.cap] 27)) W) => show Calls Try.prog 12 #[.slice A0 a0.length c0, .agg #[.int .i64 x0.kind, .int .i64 x0.num, .string x0.name, .slice x0.at_ x0.args.length x0.cap], .agg #[.int .i64 y0.kind, .int .i64 y0.num, .string y0.name, .slice y0.at_ y0.args.length y0.cap]] W (fun e w' => ∃ A q, ∃ l : List Bd, e = .returned (.tuple #[.slice A l.length q, .bool r.isSome]) ∧ stripB l = stripB (r.getD []) ∧ BLst w' A l q ∧ Ext W w') from by rw [← hr]; exact match_term_at a0 A0 c0 x0 y0 W (w00.below (base8 _ h)) (by omega) (fun x hx => by have := hne x hx; omega) (w01.below (base8 _ h)) (w02.below (base8 _ h)) (by omega) (by omega))
      cases r with
      | none =>
        simp only [Option.isSome_none, Option.getD_none] at QT
        clear hq0 hq1 hq2 w00 w01 w02 base8 hle hne hnn hasc hr
        have z0 := ext_row G0.out 0 rfl
        have z1 := ext_row G0.out 1 rfl
        have z2 := ext_row G0.out 2 rfl
        have z3 := ext_row G0.out 3 rfl
        have z4 := ext_row G0.out 4 rfl
        have z5 := ext_row G0.out 5 rfl
        have z6 := ext_row G0.out 6 rfl
        have z7 := ext_row G0.out 7 rfl
        have z8 := ext_row G0.out 8 rfl
        go_enter Try.func8, Try.ntmps8
        go_wp2_with (first
          | (go_at_call 9; have hF := QL.out _ G0.out; (with_reducible refine hF.mono ?_); rintro e v1 ⟨rfl, h1⟩; have G1 := Lib.hid (G0.out.trans h1); clear z0 z1 z2 z3 z4 z5 z6 z7 z8; have z0 := ext_row G1.out 0 rfl; have z1 := ext_row G1.out 1 rfl; have z2 := ext_row G1.out 2 rfl; have z3 := ext_row G1.out 3 rfl; have z4 := ext_row G1.out 4 rfl; have z5 := ext_row G1.out 5 rfl; have z6 := ext_row G1.out 6 rfl; have z7 := ext_row G1.out 7 rfl; have z8 := ext_row G1.out 8 rfl; clear h1 hF)
          | (go_at_call 29; have hF := QA.out _ G1.out; (with_reducible refine hF.mono ?_); rintro e v2 ⟨rfl, h1⟩; have G2 := Lib.hid (G1.out.trans h1); clear z0 z1 z2 z3 z4 z5 z6 z7 z8; have z0 := ext_row G2.out 0 rfl; have z1 := ext_row G2.out 1 rfl; have z2 := ext_row G2.out 2 rfl; have z3 := ext_row G2.out 3 rfl; have z4 := ext_row G2.out 4 rfl; have z5 := ext_row G2.out 5 rfl; have z6 := ext_row G2.out 6 rfl; have z7 := ext_row G2.out 7 rfl; have z8 := ext_row G2.out 8 rfl; clear h1 hF)
          | (go_at_call 10; have hF := QG.out _ G2.out; (with_reducible refine hF.mono ?_); rintro e v3 ⟨rfl, h1⟩; have G3 := Lib.hid (G2.out.trans h1); clear z0 z1 z2 z3 z4 z5 z6 z7 z8; have z0 := ext_row G3.out 0 rfl; have z1 := ext_row G3.out 1 rfl; have z2 := ext_row G3.out 2 rfl; have z3 := ext_row G3.out 3 rfl; have z4 := ext_row G3.out 4 rfl; have z5 := ext_row G3.out 5 rfl; have z6 := ext_row G3.out 6 rfl; have z7 := ext_row G3.out 7 rfl; have z8 := ext_row G3.out 8 rfl; clear h1 hF)
          | (go_at_call 12; have hF := QT.out _ G3.out; (with_reducible refine hF.mono ?_); rintro e v4 ⟨A5, q5, l5, rfl, s5, b5, h1⟩; have G4 := Lib.hid (G3.out.trans h1); clear z0 z1 z2 z3 z4 z5 z6 z7 z8; have z0 := ext_row G4.out 0 rfl; have z1 := ext_row G4.out 1 rfl; have z2 := ext_row G4.out 2 rfl; have z3 := ext_row G4.out 3 rfl; have z4 := ext_row G4.out 4 rfl; have z5 := ext_row G4.out 5 rfl; have z6 := ext_row G4.out 6 rfl; have z7 := ext_row G4.out 7 rfl; have z8 := ext_row G4.out 8 rfl; have S5 := Lib.hid s5; have B5 := Lib.hid b5; clear h1 hF s5 b5)
          | (go_at_call 11; have hF := AW.out v4; (with_reducible refine hF.mono ?_); rintro e v5 ⟨rfl, h1⟩; have G5 := Lib.hid (G4.out.trans h1); clear h1 hF)
          | fail)
        go_ret
        exact ⟨rfl, B8.out _ G5.out⟩
      | some e0 =>
        simp only [Option.isSome_some, Option.getD_some] at QT
        obtain ⟨k1, k2, _⟩ := keeps_law hasc hr
        have hgl := mat_grow.1 _ _ _ _ hr
        have hnd : ∀ x ∈ e0, x.tm.nodes ≤ 1000000 := fun x hx => by
          rcases mat_nodes.1 _ _ _ _ hr x hx with h | h
          · have := hne x h; omega
          · omega
        have hle0 : e0.length ≤ 1000000 := by omega
        have HA := Lib.hid (fun (W : World) (h : Ext (w.alloc (.cells #[.slice A0 a0.length c0, .int .i64 x0.kind, .int .i64 x0.num, .string x0.name, .slice x0.at_ x0.args.length x0.cap, .int .i64 y0.kind, .int .i64 y0.num, .string y0.name, .slice y0.at_ y0.args.length y0.cap] 27)) W) => show BLst W A0 a0 c0 from w00.below (base8 _ h))
        have HIN := Lib.hid k2
        have QW := Lib.hid (fun (W : World) (A : Option Addr) (q : Nat) (l : List Bd) (hb : BLst W A l q) (hst : stripB l = stripB e0) (h : Ext (w.alloc (.cells #[.slice A0 a0.length c0, .int .i64 x0.kind, .int .i64 x0.num, .string x0.name, .slice x0.at_ x0.args.length x0.cap, .int .i64 y0.kind, .int .i64 y0.num, .string y0.name, .slice y0.at_ y0.args.length y0.cap] 27)) W) => show Calls Try.prog 12 #[.slice A l.length q, .agg #[.int .i64 x0.kind, .int .i64 x0.num, .string x0.name, .slice x0.at_ x0.args.length x0.cap], .agg #[.int .i64 y0.kind, .int .i64 y0.num, .string y0.name, .slice y0.at_ y0.args.length y0.cap]] W (fun e w' => ∃ A' q', ∃ m : List Bd, e = .returned (.tuple #[.slice A' m.length q', .bool true]) ∧ sameB l m = true ∧ BLst w' A' m q' ∧ Ext W w') from by
          obtain ⟨e2, m1, m2⟩ := mat_twice hasc hr hst
          have := match_term_at l A q x0 y0 W hb (by rw [strip_len hst]; exact hle0) (strip_nodes hst hnd) (w01.below (base8 _ h)) (w02.below (base8 _ h)) (by omega) (by omega)
          rw [m1] at this
          exact this.mono fun e w' ⟨A', q', m, n1, n2, n3, n4⟩ => ⟨A', q', m, n1, sameB_sameE.2 (sameE_symm (sameE_trans (strip_sameE n2) m2)), n3, n4⟩)
        have QB := Lib.hid (fun (W : World) (A : Option Addr) (q : Nat) (l : List Bd) (hb : BLst W A l q) (hst : stripB l = stripB e0) => show Calls Try.prog 29 #[.slice A l.length q] W (fun e w' => e = .returned (.bool true) ∧ Ext W w') from by
          have := ascending_at l A q W hb (by rw [strip_len hst]; exact hle0)
          rwa [ascB_iff.2 (strip_asc hst k1)] at this)
        have QE := Lib.hid (fun (W : World) (A A' : Option Addr) (q q' : Nat) (l m : List Bd) (hb : BLst W A l q) (hm : BLst W A' m q') (hs : sameB l m = true) => show Calls Try.prog 14 #[.slice A l.length q, .slice A' m.length q'] W (fun e w' => e = .returned (.bool true) ∧ Ext W w') from by
          have := ref_equal_at l m A A' q q' W hb hm
          rwa [hs] at this)
        have HL0 := Lib.hid hle0
        clear hq0 hq1 hq2 w00 w01 w02 base8 hne hnn hasc hr k1 k2 hgl hnd hle0
        have z0 := ext_row G0.out 0 rfl
        have z1 := ext_row G0.out 1 rfl
        have z2 := ext_row G0.out 2 rfl
        have z3 := ext_row G0.out 3 rfl
        have z4 := ext_row G0.out 4 rfl
        have z5 := ext_row G0.out 5 rfl
        have z6 := ext_row G0.out 6 rfl
        have z7 := ext_row G0.out 7 rfl
        have z8 := ext_row G0.out 8 rfl
        go_enter Try.func8, Try.ntmps8
        go_wp2_with (first
          | (go_at_call 9; have hF := QL.out _ G0.out; (with_reducible refine hF.mono ?_); rintro e v1 ⟨rfl, h1⟩; have G1 := Lib.hid (G0.out.trans h1); clear z0 z1 z2 z3 z4 z5 z6 z7 z8; have z0 := ext_row G1.out 0 rfl; have z1 := ext_row G1.out 1 rfl; have z2 := ext_row G1.out 2 rfl; have z3 := ext_row G1.out 3 rfl; have z4 := ext_row G1.out 4 rfl; have z5 := ext_row G1.out 5 rfl; have z6 := ext_row G1.out 6 rfl; have z7 := ext_row G1.out 7 rfl; have z8 := ext_row G1.out 8 rfl; clear h1 hF)
          | (go_at_call 29; have hF := QA.out _ G1.out; (with_reducible refine hF.mono ?_); rintro e v2 ⟨rfl, h1⟩; have G2 := Lib.hid (G1.out.trans h1); clear z0 z1 z2 z3 z4 z5 z6 z7 z8; have z0 := ext_row G2.out 0 rfl; have z1 := ext_row G2.out 1 rfl; have z2 := ext_row G2.out 2 rfl; have z3 := ext_row G2.out 3 rfl; have z4 := ext_row G2.out 4 rfl; have z5 := ext_row G2.out 5 rfl; have z6 := ext_row G2.out 6 rfl; have z7 := ext_row G2.out 7 rfl; have z8 := ext_row G2.out 8 rfl; clear h1 hF)
          | (go_at_call 10; have hF := QG.out _ G2.out; (with_reducible refine hF.mono ?_); rintro e v3 ⟨rfl, h1⟩; have G3 := Lib.hid (G2.out.trans h1); clear z0 z1 z2 z3 z4 z5 z6 z7 z8; have z0 := ext_row G3.out 0 rfl; have z1 := ext_row G3.out 1 rfl; have z2 := ext_row G3.out 2 rfl; have z3 := ext_row G3.out 3 rfl; have z4 := ext_row G3.out 4 rfl; have z5 := ext_row G3.out 5 rfl; have z6 := ext_row G3.out 6 rfl; have z7 := ext_row G3.out 7 rfl; have z8 := ext_row G3.out 8 rfl; clear h1 hF)
          | (go_at_call 12; have hF := QT.out _ G3.out; (with_reducible refine hF.mono ?_); rintro e v4 ⟨A5, q5, l5, rfl, s5, b5, h1⟩; have G4 := Lib.hid (G3.out.trans h1); clear z0 z1 z2 z3 z4 z5 z6 z7 z8; have z0 := ext_row G4.out 0 rfl; have z1 := ext_row G4.out 1 rfl; have z2 := ext_row G4.out 2 rfl; have z3 := ext_row G4.out 3 rfl; have z4 := ext_row G4.out 4 rfl; have z5 := ext_row G4.out 5 rfl; have z6 := ext_row G4.out 6 rfl; have z7 := ext_row G4.out 7 rfl; have z8 := ext_row G4.out 8 rfl; have S5 := Lib.hid s5; have B5 := Lib.hid b5; clear h1 hF s5 b5)
          | fail)
        have hl5 : l5.length ≤ 1000000 := by rw [strip_len S5.out]; exact HL0.out
        go_loopw [5] (fun i wr => ∃ j : Nat, j ≤ a0.length ∧ i = .int .i64 j ∧ Hid (Ext v4 wr)) (fun i _ => a0.length - (intOf i).toNat)
        case atStart => exact ⟨0, Nat.zero_le _, rfl, Lib.hid (Ext.refl _)⟩
        case round =>
          clear z0 z1 z2 z3 z4 z5 z6 z7 z8
          obtain ⟨j, hj, rfl, HF⟩ := hrel
          have GR := Lib.hid (G4.out.trans HF.out)
          have z0 := ext_row GR.out 0 rfl
          have z1 := ext_row GR.out 1 rfl
          have z2 := ext_row GR.out 2 rfl
          have z3 := ext_row GR.out 3 rfl
          have z4 := ext_row GR.out 4 rfl
          have z5 := ext_row GR.out 5 rfl
          have z6 := ext_row GR.out 6 rfl
          have z7 := ext_row GR.out 7 rfl
          have z8 := ext_row GR.out 8 rfl
          by_cases hlt : j < a0.length
          · obtain ⟨b0, o, rfl, ⟨d0, d1, d2, d3, d4⟩, _, hy⟩ := (HA.out _ GR.out).get hlt
            have jlt : decide ((j : Int) < (a0.length : Int)) = true := decide_eq_true (by omega)
            obtain ⟨y, hyy⟩ : ∃ y, a0.getD j default = y := ⟨_, rfl⟩
            have HANY := Lib.hid (show l5.any (fun x => decide (x.var = y.var) && (cmpT x.tm y.tm == 0)) = true from by
              have hm := HIN.out y (by rw [← hyy]; exact bgetD_mem hlt)
              have hs : y.strip ∈ stripB l5 := by rw [S5.out]; exact List.mem_map_of_mem hm
              obtain ⟨x, hx, ex⟩ := List.mem_map.1 hs
              refine List.any_eq_true.2 ⟨x, hx, ?_⟩
              have e1 : x.var = y.var := (congrArg Bd.var ex : x.strip.var = y.strip.var)
              have e2 : x.tm.strip = y.tm.strip := (congrArg Bd.tm ex : x.strip.tm = y.strip.tm)
              rw [e1, same_strip e2]
              simp)
            have HY := Lib.hid (fun (W : World) (h : Ext wr W) => hy.below h)
            have HYY := Lib.hid hyy
            rw [hyy] at d0 d1 d2 d3 d4 HY
            clear hyy hy
            obtain ⟨yv, yt⟩ := y
            simp only at HANY HY d0 d1 d2 d3 d4
            obtain ⟨yk, yn, ys, yA, yc, ya⟩ := yt
            simp only [Tm.kind, Tm.num, Tm.name, Tm.at_, Tm.args, Tm.cap] at d1 d2 d3 d4
            have HD := Lib.hid (fun (W : World) (h : Ext wr W) => (⟨keepv h d0, keepv h d1, keepv h d2, keepv h d3, keepv h d4⟩ : W.cell? ⟨b0, o + j * 5, none⟩ = some (.int .i64 yv) ∧ W.cell? ⟨b0, o + j * 5 + 1, none⟩ = some (.int .i64 yk) ∧ W.cell? ⟨b0, o + j * 5 + 2, none⟩ = some (.int .i64 yn) ∧ W.cell? ⟨b0, o + j * 5 + 3, none⟩ = some (.string ys) ∧ W.cell? ⟨b0, o + j * 5 + 4, none⟩ = some (.slice yA ya.length yc)))
            go_wp2_with fail
            go_loopw [6, 7] (fun f k W' => ∃ kk : Nat, kk ≤ l5.length ∧ k = .int .i64 kk ∧ f = .bool ((l5.take kk).any (fun x => decide (x.var = yv) && (cmpT x.tm (.mk yk yn ys yA yc ya) == 0))) ∧ Hid (Ext wr W')) (fun _ k _ => l5.length - (intOf k).toNat)
            case atStart => exact ⟨0, Nat.zero_le _, rfl, rfl, Lib.hid (Ext.refl _)⟩
            case round =>
              clear z0 z1 z2 z3 z4 z5 z6 z7 z8 d0 d1 d2 d3 d4
              rename World => wb
              obtain ⟨kk, hkk, rfl, rfl, HG⟩ := hrel
              have GB := Lib.hid (GR.out.trans HG.out)
              by_cases hkt : kk < l5.length
              · have klt : decide ((kk : Int) < (l5.length : Int)) = true := decide_eq_true (by omega)
                have HNX := Lib.hid (any_take_next hkt (fun x => decide (x.var = yv) && (cmpT x.tm (.mk yk yn ys yA yc ya) == 0)))
                obtain ⟨b5, o5, rfl, ⟨u0, u1, u2, u3, u4⟩, _, hx⟩ := (B5.out.below ((HF.out.trans HG.out))).get hkt
                obtain ⟨x, hxx⟩ : ∃ x, l5.getD kk default = x := ⟨_, rfl⟩
                rw [hxx] at u0 u1 u2 u3 u4 hx HNX
                have QS := Lib.hid (fun (W : World) (h : Ext wb W) => ref_same_at x.tm (.mk yk yn ys yA yc ya) W (hx.below h) (HY.out W (HG.out.trans h)) rfl)
                clear hxx hx
                obtain ⟨xv, xt⟩ := x
                simp only at HNX QS u0 u1 u2 u3 u4
                obtain ⟨F, hF0⟩ : ∃ F, (l5.take kk).any (fun x => decide (x.var = yv) && (cmpT x.tm (.mk yk yn ys yA yc ya) == 0)) = F := ⟨_, rfl⟩
                obtain ⟨r, hr0⟩ : ∃ r, (cmpT xt (.mk yk yn ys yA yc ya) == 0) = r := ⟨_, rfl⟩
                simp only [hF0, hr0] at HNX QS ⊢
                clear hF0 hr0
                obtain ⟨xk, xn, xs, xA, xc, xa⟩ := xt
                simp only [Tm.kind, Tm.num, Tm.name, Tm.at_, Tm.args, Tm.cap] at u1 u2 u3 u4
                obtain ⟨d0, d1, d2, d3, d4⟩ := HD.out wb HG.out
                have z0 := ext_row GB.out 0 rfl
                have z1 := ext_row GB.out 1 rfl
                have z2 := ext_row GB.out 2 rfl
                have z3 := ext_row GB.out 3 rfl
                have z4 := ext_row GB.out 4 rfl
                have z5 := ext_row GB.out 5 rfl
                have z6 := ext_row GB.out 6 rfl
                have z7 := ext_row GB.out 7 rfl
                have z8 := ext_row GB.out 8 rfl
                cases F with
                | true =>
                  have HV := Lib.hid (show (l5.take (kk + 1)).any (fun x => decide (x.var = yv) && (cmpT x.tm (.mk yk yn ys yA yc ya) == 0)) = true from by rw [HNX.out]; rfl)
                  go_wp2_with fail
                  have hS : (fun _ : World => True) wb.drew := trivial
                  refine held_start 30 rfl (fun _ => True) rfl ?_
                  refine held_take (i := 0) (dst := some 54) (v := ?_) rfl rfl (by kernel_rfl) (by kernel_rfl) (by kernel_rfl) rfl hS ?_ ?_; rotate_left
                  · rintro w' _; go_simp; with_reducible rfl
                  go_frame
                  refine held_take (i := 1) (dst := some 55) (v := ?_) rfl rfl (by kernel_rfl) (by kernel_rfl) (by kernel_rfl) rfl hS ?_ ?_; rotate_left
                  · rintro w' _; go_simp; with_reducible rfl
                  go_frame
                  refine held_pass (i := 2) (dst := some 56) rfl rfl (by kernel_rfl) (by kernel_rfl) (by kernel_rfl) rfl hS ?_
                  go_frame
                  refine held_pass (i := 3) (dst := some 57) rfl rfl (by kernel_rfl) (by kernel_rfl) (by kernel_rfl) rfl hS ?_
                  go_frame
                  refine held_pass (i := 4) (dst := some 58) rfl rfl (by kernel_rfl) (by kernel_rfl) (by kernel_rfl) rfl hS ?_
                  go_frame
                  refine held_pass (i := 5) (dst := some 59) rfl rfl (by kernel_rfl) (by kernel_rfl) (by kernel_rfl) rfl hS ?_
                  go_frame
                  refine held_pass (i := 6) (dst := some 60) rfl rfl (by kernel_rfl) (by kernel_rfl) (by kernel_rfl) rfl hS ?_
                  go_frame
                  refine held_pass (i := 7) (dst := some 61) rfl rfl (by kernel_rfl) (by kernel_rfl) (by kernel_rfl) rfl hS ?_
                  go_frame
                  refine held_pass (i := 8) (dst := some 62) rfl rfl (by kernel_rfl) (by kernel_rfl) (by kernel_rfl) rfl hS ?_
                  go_frame
                  refine held_pass (i := 9) (dst := some 63) rfl rfl (by kernel_rfl) (by kernel_rfl) (by kernel_rfl) rfl hS ?_
                  go_frame
                  refine held_pass (i := 10) (dst := some 64) rfl rfl (by kernel_rfl) (by kernel_rfl) (by kernel_rfl) rfl hS ?_
                  go_frame
                  refine held_pass (i := 11) (dst := some 65) rfl rfl (by kernel_rfl) (by kernel_rfl) (by kernel_rfl) rfl hS ?_
                  go_frame
                  refine held_pass (i := 12) (dst := some 66) rfl rfl (by kernel_rfl) (by kernel_rfl) (by kernel_rfl) rfl hS ?_
                  go_frame
                  refine held_pass (i := 13) (dst := some 67) rfl rfl (by kernel_rfl) (by kernel_rfl) (by kernel_rfl) rfl hS ?_
                  go_frame
                  refine held_pass (i := 14) (dst := some 68) rfl rfl (by kernel_rfl) (by kernel_rfl) (by kernel_rfl) rfl hS ?_
                  go_frame
                  refine held_pass (i := 15) (dst := some 69) rfl rfl (by kernel_rfl) (by kernel_rfl) (by kernel_rfl) rfl hS ?_
                  go_frame
                  refine held_pass (i := 16) (dst := some 70) rfl rfl (by kernel_rfl) (by kernel_rfl) (by kernel_rfl) rfl hS ?_
                  go_frame
                  refine held_pass (i := 17) (dst := some 71) rfl rfl (by kernel_rfl) (by kernel_rfl) (by kernel_rfl) rfl hS ?_
                  go_frame
                  refine held_pass (i := 18) (dst := some 72) rfl rfl (by kernel_rfl) (by kernel_rfl) (by kernel_rfl) rfl hS ?_
                  go_frame
                  refine held_pass (i := 19) (dst := some 73) rfl rfl (by kernel_rfl) (by kernel_rfl) (by kernel_rfl) rfl hS ?_
                  go_frame
                  refine held_pass (i := 20) (dst := some 74) rfl rfl (by kernel_rfl) (by kernel_rfl) (by kernel_rfl) rfl hS ?_
                  go_frame
                  refine held_pass (i := 21) (dst := some 75) rfl rfl (by kernel_rfl) (by kernel_rfl) (by kernel_rfl) rfl hS ?_
                  go_frame
                  refine held_pass (i := 22) (dst := some 76) rfl rfl (by kernel_rfl) (by kernel_rfl) (by kernel_rfl) rfl hS ?_
                  go_frame
                  refine held_pass (i := 23) (dst := some 77) rfl rfl (by kernel_rfl) (by kernel_rfl) (by kernel_rfl) rfl hS ?_
                  go_frame
                  refine held_pass (i := 24) (dst := some 78) rfl rfl (by kernel_rfl) (by kernel_rfl) (by kernel_rfl) rfl hS ?_
                  go_frame
                  refine held_pass (i := 25) (dst := some 79) rfl rfl (by kernel_rfl) (by kernel_rfl) (by kernel_rfl) rfl hS ?_
                  go_frame
                  refine held_pass (i := 26) (dst := some 80) rfl rfl (by kernel_rfl) (by kernel_rfl) (by kernel_rfl) rfl hS ?_
                  go_frame
                  refine held_pass (i := 27) (dst := some 81) rfl rfl (by kernel_rfl) (by kernel_rfl) (by kernel_rfl) rfl hS ?_
                  go_frame
                  refine held_take (i := 28) (dst := some 82) (v := ?_) rfl rfl (by kernel_rfl) (by kernel_rfl) (by kernel_rfl) rfl hS ?_ ?_; rotate_left
                  · rintro w' _; go_simp; with_reducible rfl
                  go_frame
                  refine held_take (i := 29) (dst := some 6) (v := ?_) rfl rfl (by kernel_rfl) (by kernel_rfl) (by kernel_rfl) rfl hS ?_ ?_; rotate_left
                  · rintro w' _; go_simp; with_reducible rfl
                  go_frame
                  refine round_end (by kernel_rfl) ?_
                  go_wp2_with fail
                  go_roundw
                  case rel => exact ⟨kk + 1, by omega, by go_num, by rw [HV.out], Lib.hid (HG.out.trans (Ext.drew _))⟩
                  case measure => simp [intOf]; omega
                | false =>
                  have hS5 : (fun W => (W.cell? ⟨b5, o5 + kk * 5, none⟩ = some (.int .i64 xv) ∧ W.cell? ⟨b5, o5 + kk * 5 + 1, none⟩ = some (.int .i64 xk) ∧ W.cell? ⟨b5, o5 + kk * 5 + 2, none⟩ = some (.int .i64 xn) ∧ W.cell? ⟨b5, o5 + kk * 5 + 3, none⟩ = some (.string xs) ∧ W.cell? ⟨b5, o5 + kk * 5 + 4, none⟩ = some (.slice xA xa.length xc)) ∧ (W.cell? ⟨b0, o + j * 5, none⟩ = some (.int .i64 yv) ∧ W.cell? ⟨b0, o + j * 5 + 1, none⟩ = some (.int .i64 yk) ∧ W.cell? ⟨b0, o + j * 5 + 2, none⟩ = some (.int .i64 yn) ∧ W.cell? ⟨b0, o + j * 5 + 3, none⟩ = some (.string ys) ∧ W.cell? ⟨b0, o + j * 5 + 4, none⟩ = some (.slice yA ya.length yc)) ∧ W.cell? ⟨w.heap.size, 0, none⟩ = some (.slice (some ⟨b0, o, none⟩) a0.length c0)) wb := ⟨⟨u0, u1, u2, u3, u4⟩, ⟨d0, d1, d2, d3, d4⟩, z0⟩
                  have QSE := Lib.hid (show ∀ (W : World) (_ : Ext wb W), Calls Try.prog 19 #[.agg #[.int .i64 xk, .int .i64 xn, .string xs, .slice xA xa.length xc], .agg #[.int .i64 yk, .int .i64 yn, .string ys, .slice yA ya.length yc]] W (fun e w' => e = .returned (.bool r) ∧ Ext W w') from QS.out)
                  clear QS
                  have HS := Lib.hid (fun W (h : Ext wb W) => (⟨⟨keepv h u0, keepv h u1, keepv h u2, keepv h u3, keepv h u4⟩, ⟨keepv h d0, keepv h d1, keepv h d2, keepv h d3, keepv h d4⟩, keepv h z0⟩ : (fun W => (W.cell? ⟨b5, o5 + kk * 5, none⟩ = some (.int .i64 xv) ∧ W.cell? ⟨b5, o5 + kk * 5 + 1, none⟩ = some (.int .i64 xk) ∧ W.cell? ⟨b5, o5 + kk * 5 + 2, none⟩ = some (.int .i64 xn) ∧ W.cell? ⟨b5, o5 + kk * 5 + 3, none⟩ = some (.string xs) ∧ W.cell? ⟨b5, o5 + kk * 5 + 4, none⟩ = some (.slice xA xa.length xc)) ∧ (W.cell? ⟨b0, o + j * 5, none⟩ = some (.int .i64 yv) ∧ W.cell? ⟨b0, o + j * 5 + 1, none⟩ = some (.int .i64 yk) ∧ W.cell? ⟨b0, o + j * 5 + 2, none⟩ = some (.int .i64 yn) ∧ W.cell? ⟨b0, o + j * 5 + 3, none⟩ = some (.string ys) ∧ W.cell? ⟨b0, o + j * 5 + 4, none⟩ = some (.slice yA ya.length yc)) ∧ W.cell? ⟨w.heap.size, 0, none⟩ = some (.slice (some ⟨b0, o, none⟩) a0.length c0)) W))
                  clear hS5
                  by_cases hv : xv = yv
                  · have hv' : (xv == yv) = true := by simpa using hv
                    have HV := Lib.hid (show (l5.take (kk + 1)).any (fun x => decide (x.var = yv) && (cmpT x.tm (.mk yk yn ys yA yc ya) == 0)) = r from by rw [HNX.out]; simp [hv])
                    clear hv
                    go_wp2_with fail
                    clear z0 z1 z2 z3 z4 z5 z6 z7 z8 u0 u1 u2 u3 u4 d0 d1 d2 d3 d4
                    go_region_held3 (fun W => (W.cell? ⟨b5, o5 + kk * 5, none⟩ = some (.int .i64 xv) ∧ W.cell? ⟨b5, o5 + kk * 5 + 1, none⟩ = some (.int .i64 xk) ∧ W.cell? ⟨b5, o5 + kk * 5 + 2, none⟩ = some (.int .i64 xn) ∧ W.cell? ⟨b5, o5 + kk * 5 + 3, none⟩ = some (.string xs) ∧ W.cell? ⟨b5, o5 + kk * 5 + 4, none⟩ = some (.slice xA xa.length xc)) ∧ (W.cell? ⟨b0, o + j * 5, none⟩ = some (.int .i64 yv) ∧ W.cell? ⟨b0, o + j * 5 + 1, none⟩ = some (.int .i64 yk) ∧ W.cell? ⟨b0, o + j * 5 + 2, none⟩ = some (.int .i64 yn) ∧ W.cell? ⟨b0, o + j * 5 + 3, none⟩ = some (.string ys) ∧ W.cell? ⟨b0, o + j * 5 + 4, none⟩ = some (.slice yA ya.length yc)) ∧ W.cell? ⟨w.heap.size, 0, none⟩ = some (.slice (some ⟨b0, o, none⟩) a0.length c0)) (first | (with_reducible exact HS.out _ H9.out) | (with_reducible exact HS.out _ (Ext.drew _)) | fail) (first | (go_at_call 19; have hF := QSE.out (wb).drew (Ext.drew _); (with_reducible refine hF.mono ?_); rintro e v9 ⟨rfl, h1⟩; have H9 := Lib.hid (Ext.trans (Ext.drew _) h1); clear h1 hF) | fail)
                    go_wp2_with fail
                    go_roundw
                    case rel => exact ⟨kk + 1, by omega, by go_num, by rw [HV.out], Lib.hid (HG.out.trans H9.out)⟩
                    case measure => simp [intOf]; omega
                  · have hv' : (xv == yv) = false := by simpa using hv
                    have HV := Lib.hid (show (l5.take (kk + 1)).any (fun x => decide (x.var = yv) && (cmpT x.tm (.mk yk yn ys yA yc ya) == 0)) = false from by rw [HNX.out]; simp [hv])
                    clear hv
                    go_wp2_with fail
                    clear z0 z1 z2 z3 z4 z5 z6 z7 z8 u0 u1 u2 u3 u4 d0 d1 d2 d3 d4
                    have hS : (fun W => (W.cell? ⟨b5, o5 + kk * 5, none⟩ = some (.int .i64 xv) ∧ W.cell? ⟨b5, o5 + kk * 5 + 1, none⟩ = some (.int .i64 xk) ∧ W.cell? ⟨b5, o5 + kk * 5 + 2, none⟩ = some (.int .i64 xn) ∧ W.cell? ⟨b5, o5 + kk * 5 + 3, none⟩ = some (.string xs) ∧ W.cell? ⟨b5, o5 + kk * 5 + 4, none⟩ = some (.slice xA xa.length xc)) ∧ (W.cell? ⟨b0, o + j * 5, none⟩ = some (.int .i64 yv) ∧ W.cell? ⟨b0, o + j * 5 + 1, none⟩ = some (.int .i64 yk) ∧ W.cell? ⟨b0, o + j * 5 + 2, none⟩ = some (.int .i64 yn) ∧ W.cell? ⟨b0, o + j * 5 + 3, none⟩ = some (.string ys) ∧ W.cell? ⟨b0, o + j * 5 + 4, none⟩ = some (.slice yA ya.length yc)) ∧ W.cell? ⟨w.heap.size, 0, none⟩ = some (.slice (some ⟨b0, o, none⟩) a0.length c0)) wb.drew := HS.out _ (Ext.drew _)
                    refine held_start 30 rfl (fun W => (W.cell? ⟨b5, o5 + kk * 5, none⟩ = some (.int .i64 xv) ∧ W.cell? ⟨b5, o5 + kk * 5 + 1, none⟩ = some (.int .i64 xk) ∧ W.cell? ⟨b5, o5 + kk * 5 + 2, none⟩ = some (.int .i64 xn) ∧ W.cell? ⟨b5, o5 + kk * 5 + 3, none⟩ = some (.string xs) ∧ W.cell? ⟨b5, o5 + kk * 5 + 4, none⟩ = some (.slice xA xa.length xc)) ∧ (W.cell? ⟨b0, o + j * 5, none⟩ = some (.int .i64 yv) ∧ W.cell? ⟨b0, o + j * 5 + 1, none⟩ = some (.int .i64 yk) ∧ W.cell? ⟨b0, o + j * 5 + 2, none⟩ = some (.int .i64 yn) ∧ W.cell? ⟨b0, o + j * 5 + 3, none⟩ = some (.string ys) ∧ W.cell? ⟨b0, o + j * 5 + 4, none⟩ = some (.slice yA ya.length yc)) ∧ W.cell? ⟨w.heap.size, 0, none⟩ = some (.slice (some ⟨b0, o, none⟩) a0.length c0)) rfl ?_
                    refine held_take (i := 0) (dst := some 54) (v := ?_) rfl rfl (by kernel_rfl) (by kernel_rfl) (by kernel_rfl) rfl hS ?_ ?_; rotate_left
                    · rintro w' ⟨⟨l0, l1, l2, l3, l4⟩, ⟨m0, m1, m2, m3, m4⟩, n0⟩; go_simp; with_reducible rfl
                    go_frame
                    refine held_take (i := 1) (dst := some 55) (v := ?_) rfl rfl (by kernel_rfl) (by kernel_rfl) (by kernel_rfl) rfl hS ?_ ?_; rotate_left
                    · rintro w' ⟨⟨l0, l1, l2, l3, l4⟩, ⟨m0, m1, m2, m3, m4⟩, n0⟩; go_simp; with_reducible rfl
                    go_frame
                    refine held_take (i := 2) (dst := some 56) (v := ?_) rfl rfl (by kernel_rfl) (by kernel_rfl) (by kernel_rfl) rfl hS ?_ ?_; rotate_left
                    · rintro w' ⟨⟨l0, l1, l2, l3, l4⟩, ⟨m0, m1, m2, m3, m4⟩, n0⟩; go_simp; with_reducible rfl
                    go_frame
                    refine held_take (i := 3) (dst := some 57) (v := ?_) rfl rfl (by kernel_rfl) (by kernel_rfl) (by kernel_rfl) rfl hS ?_ ?_; rotate_left
                    · rintro w' ⟨⟨l0, l1, l2, l3, l4⟩, ⟨m0, m1, m2, m3, m4⟩, n0⟩; go_simp; with_reducible rfl
                    go_frame
                    refine held_take (i := 4) (dst := some 58) (v := ?_) rfl rfl (by kernel_rfl) (by kernel_rfl) (by kernel_rfl) rfl hS ?_ ?_; rotate_left
                    · rintro w' ⟨⟨l0, l1, l2, l3, l4⟩, ⟨m0, m1, m2, m3, m4⟩, n0⟩; go_simp; with_reducible rfl
                    go_frame
                    refine held_take (i := 5) (dst := some 59) (v := ?_) rfl rfl (by kernel_rfl) (by kernel_rfl) (by kernel_rfl) rfl hS ?_ ?_; rotate_left
                    · rintro w' ⟨⟨l0, l1, l2, l3, l4⟩, ⟨m0, m1, m2, m3, m4⟩, n0⟩; go_simp; with_reducible rfl
                    go_frame
                    refine held_take (i := 6) (dst := some 60) (v := ?_) rfl rfl (by kernel_rfl) (by kernel_rfl) (by kernel_rfl) rfl hS ?_ ?_; rotate_left
                    · rintro w' ⟨⟨l0, l1, l2, l3, l4⟩, ⟨m0, m1, m2, m3, m4⟩, n0⟩; go_simp; with_reducible rfl
                    go_frame
                    refine held_take (i := 7) (dst := some 61) (v := ?_) rfl rfl (by kernel_rfl) (by kernel_rfl) (by kernel_rfl) rfl hS ?_ ?_; rotate_left
                    · rintro w' ⟨⟨l0, l1, l2, l3, l4⟩, ⟨m0, m1, m2, m3, m4⟩, n0⟩; go_simp; with_reducible rfl
                    go_frame
                    refine held_take (i := 8) (dst := some 62) (v := ?_) rfl rfl (by kernel_rfl) (by kernel_rfl) (by kernel_rfl) rfl hS ?_ ?_; rotate_left
                    · rintro w' ⟨⟨l0, l1, l2, l3, l4⟩, ⟨m0, m1, m2, m3, m4⟩, n0⟩; go_simp; with_reducible rfl
                    go_frame
                    refine held_take (i := 9) (dst := some 63) (v := ?_) rfl rfl (by kernel_rfl) (by kernel_rfl) (by kernel_rfl) rfl hS ?_ ?_; rotate_left
                    · rintro w' ⟨⟨l0, l1, l2, l3, l4⟩, ⟨m0, m1, m2, m3, m4⟩, n0⟩; go_simp; with_reducible rfl
                    go_frame
                    refine held_take (i := 10) (dst := some 64) (v := ?_) rfl rfl (by kernel_rfl) (by kernel_rfl) (by kernel_rfl) rfl hS ?_ ?_; rotate_left
                    · rintro w' ⟨⟨l0, l1, l2, l3, l4⟩, ⟨m0, m1, m2, m3, m4⟩, n0⟩; go_simp; with_reducible rfl
                    go_frame
                    refine held_take (i := 11) (dst := some 65) (v := ?_) rfl rfl (by kernel_rfl) (by kernel_rfl) (by kernel_rfl) rfl hS ?_ ?_; rotate_left
                    · rintro w' ⟨⟨l0, l1, l2, l3, l4⟩, ⟨m0, m1, m2, m3, m4⟩, n0⟩; go_simp; with_reducible rfl
                    go_frame
                    refine held_take (i := 12) (dst := some 66) (v := ?_) rfl rfl (by kernel_rfl) (by kernel_rfl) (by kernel_rfl) rfl hS ?_ ?_; rotate_left
                    · rintro w' ⟨⟨l0, l1, l2, l3, l4⟩, ⟨m0, m1, m2, m3, m4⟩, n0⟩; go_simp; with_reducible rfl
                    go_frame
                    refine held_take (i := 13) (dst := some 67) (v := ?_) rfl rfl (by kernel_rfl) (by kernel_rfl) (by kernel_rfl) rfl hS ?_ ?_; rotate_left
                    · rintro w' ⟨⟨l0, l1, l2, l3, l4⟩, ⟨m0, m1, m2, m3, m4⟩, n0⟩; go_simp; with_reducible rfl
                    go_frame
                    refine held_take (i := 14) (dst := some 68) (v := ?_) rfl rfl (by kernel_rfl) (by kernel_rfl) (by kernel_rfl) rfl hS ?_ ?_; rotate_left
                    · rintro w' ⟨⟨l0, l1, l2, l3, l4⟩, ⟨m0, m1, m2, m3, m4⟩, n0⟩; go_simp; with_reducible rfl
                    go_frame
                    refine held_pass (i := 15) (dst := some 69) rfl rfl (by kernel_rfl) (by kernel_rfl) (by kernel_rfl) rfl hS ?_
                    go_frame
                    refine held_pass (i := 16) (dst := some 70) rfl rfl (by kernel_rfl) (by kernel_rfl) (by kernel_rfl) rfl hS ?_
                    go_frame
                    refine held_pass (i := 17) (dst := some 71) rfl rfl (by kernel_rfl) (by kernel_rfl) (by kernel_rfl) rfl hS ?_
                    go_frame
                    refine held_pass (i := 18) (dst := some 72) rfl rfl (by kernel_rfl) (by kernel_rfl) (by kernel_rfl) rfl hS ?_
                    go_frame
                    refine held_pass (i := 19) (dst := some 73) rfl rfl (by kernel_rfl) (by kernel_rfl) (by kernel_rfl) rfl hS ?_
                    go_frame
                    refine held_pass (i := 20) (dst := some 74) rfl rfl (by kernel_rfl) (by kernel_rfl) (by kernel_rfl) rfl hS ?_
                    go_frame
                    refine held_pass (i := 21) (dst := some 75) rfl rfl (by kernel_rfl) (by kernel_rfl) (by kernel_rfl) rfl hS ?_
                    go_frame
                    refine held_pass (i := 22) (dst := some 76) rfl rfl (by kernel_rfl) (by kernel_rfl) (by kernel_rfl) rfl hS ?_
                    go_frame
                    refine held_pass (i := 23) (dst := some 77) rfl rfl (by kernel_rfl) (by kernel_rfl) (by kernel_rfl) rfl hS ?_
                    go_frame
                    refine held_pass (i := 24) (dst := some 78) rfl rfl (by kernel_rfl) (by kernel_rfl) (by kernel_rfl) rfl hS ?_
                    go_frame
                    refine held_pass (i := 25) (dst := some 79) rfl rfl (by kernel_rfl) (by kernel_rfl) (by kernel_rfl) rfl hS ?_
                    go_frame
                    refine held_pass (i := 26) (dst := some 80) rfl rfl (by kernel_rfl) (by kernel_rfl) (by kernel_rfl) rfl hS ?_
                    go_frame
                    refine held_take (i := 27) (dst := some 81) (v := ?_) rfl rfl (by kernel_rfl) (by kernel_rfl) (by kernel_rfl) rfl hS ?_ ?_; rotate_left
                    · rintro w' ⟨⟨l0, l1, l2, l3, l4⟩, ⟨m0, m1, m2, m3, m4⟩, n0⟩; go_simp; with_reducible rfl
                    go_frame
                    refine held_take (i := 28) (dst := some 82) (v := ?_) rfl rfl (by kernel_rfl) (by kernel_rfl) (by kernel_rfl) rfl hS ?_ ?_; rotate_left
                    · rintro w' ⟨⟨l0, l1, l2, l3, l4⟩, ⟨m0, m1, m2, m3, m4⟩, n0⟩; go_simp; with_reducible rfl
                    go_frame
                    refine held_take (i := 29) (dst := some 6) (v := ?_) rfl rfl (by kernel_rfl) (by kernel_rfl) (by kernel_rfl) rfl hS ?_ ?_; rotate_left
                    · rintro w' ⟨⟨l0, l1, l2, l3, l4⟩, ⟨m0, m1, m2, m3, m4⟩, n0⟩; go_simp; with_reducible rfl
                    go_frame
                    refine round_end (by kernel_rfl) ?_
                    go_wp2_with fail
                    go_roundw
                    case rel => exact ⟨kk + 1, by omega, by go_num, by rw [HV.out], Lib.hid (HG.out.trans (Ext.drew _))⟩
                    case measure => simp [intOf]; omega
              · obtain rfl : kk = l5.length := by omega
                have klt : decide ((l5.length : Int) < (l5.length : Int)) = false := by simp
                have HT : (l5.take l5.length).any (fun x => decide (x.var = yv) && (cmpT x.tm (.mk yk yn ys yA yc ya) == 0)) = true := by rw [List.take_length]; exact HANY.out
                rw [HT]
                clear HT
                go_wp2_with fail
                go_roundw
                case rel => exact ⟨j + 1, by omega, by go_num, Lib.hid (HF.out.trans HG.out)⟩
                case measure => simp [intOf]; omega
          · obtain rfl : j = a0.length := by omega
            have jlt : decide ((a0.length : Int) < (a0.length : Int)) = false := by simp
            go_wp2_with (first
              | (go_at_call 12; have hF := QW.out wr A5 q5 l5 (B5.out.below HF.out) S5.out GR.out; (with_reducible refine hF.mono ?_); rintro e v9 ⟨A6, q6, l6, rfl, s6, b6, h1⟩; have G9 := Lib.hid (GR.out.trans h1); have S6 := Lib.hid s6; have B6 := Lib.hid b6; have B5x := Lib.hid (B5.out.below (HF.out.trans h1)); clear h1 hF s6 b6)
              | (go_at_call 29; have hF := QB.out v9 A5 q5 l5 B5x.out S5.out; (with_reducible refine hF.mono ?_); rintro e v10 ⟨rfl, h1⟩; have G10 := Lib.hid (G9.out.trans h1); have B5y := Lib.hid (B5x.out.below h1); have B6y := Lib.hid (B6.out.below h1); clear h1 hF)
              | (go_at_call 14; have hF := QE.out v10 A5 A6 q5 q6 l5 l6 B5y.out B6y.out S6.out; (with_reducible refine hF.mono ?_); rintro e v11 ⟨rfl, h1⟩; have G11 := Lib.hid (G10.out.trans h1); clear h1 hF)
              | (go_at_call 11; have hF := AW.out v11; (with_reducible refine hF.mono ?_); rintro e v12 ⟨rfl, h1⟩; have G12 := Lib.hid (G11.out.trans h1); clear h1 hF)
              | fail)
            go_ret
            exact ⟨rfl, B8.out _ G12.out⟩
end Go.Proofs.Ytceekaodhmncgaa.matchKeeps
