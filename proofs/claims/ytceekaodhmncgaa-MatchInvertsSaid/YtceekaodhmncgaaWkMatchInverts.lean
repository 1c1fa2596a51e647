/-
  The walk of MatchInverts.
-/
import Derived.Test.YtceekaodhmncgaaMl8x15
import Derived.Test.YtceekaodhmncgaaMl8x12
import Derived.Test.YtceekaodhmncgaaMl8x16
import Derived.Test.YtceekaodhmncgaaMl8x17
namespace Go.Proofs.Ytceekaodhmncgaa.matchInverts
open Go.ChangeShapes Go.WideShapes Go.ChangeAt Go.RowKit Go.Sort
set_option linter.unusedVariables false

set_option maxHeartbeats 16000000 in
set_option maxRecDepth 100000 in
theorem walk (A0 : Option Addr) (a0 : List Bd) (c0 : Nat) (a1 : Tm) (w : World) (w0 : BLst w A0 a0 c0) (w1 : a1.At w) :
    Calls Try.prog 7 #[.slice A0 a0.length c0, a1.val] w fun e w' => e = .returned (.bool true) ∧ Below w.heap.size w w' := by
  have base8 : ∀ (W : World), Ext (w.alloc (.cells #[.int .i64 a1.kind, .int .i64 a1.num, .string a1.name, .slice a1.at_ a1.args.length a1.cap] 25)) W → Below w.heap.size w W := fun _ h => (Ext.al _ _).trans h
  have B8 := Lib.hid base8
  have G0 := Lib.hid (Ext.refl (w.alloc (.cells #[.int .i64 a1.kind, .int .i64 a1.num, .string a1.name, .slice a1.at_ a1.args.length a1.cap] 25)))
  obtain ⟨q0, hq0⟩ : ∃ r, largeB a0 = r := ⟨_, rfl⟩
  obtain ⟨q1, hq1⟩ : ∃ r, ascB a0 = r := ⟨_, rfl⟩
  obtain ⟨q2, hq2⟩ : ∃ r, decide (weigh [a1] 60 64 < 0) = r := ⟨_, rfl⟩
  obtain ⟨q3, hq3⟩ : ∃ r, coversB a0 a1 = r := ⟨_, rfl⟩
  have QL := Lib.hid (fun (W : World) (h : Ext (w.alloc (.cells #[.int .i64 a1.kind, .int .i64 a1.num, .string a1.name, .slice a1.at_ a1.args.length a1.cap] 25)) W) => show Calls Try.prog 9 #[.slice A0 a0.length c0] W (fun e w' => e = .returned (.bool q0) ∧ Ext W w') from by rw [← hq0]; exact large_at a0 A0 c0 W (w0.below (base8 _ h)))
  have QG := Lib.hid (fun (W : World) (h : Ext (w.alloc (.cells #[.int .i64 a1.kind, .int .i64 a1.num, .string a1.name, .slice a1.at_ a1.args.length a1.cap] 25)) W) => show Calls Try.prog 10 #[.slice (some ⟨W.heap.size, 0, none⟩) 1 1, .int .i64 60] (W.alloc (.cells #[.int .i64 a1.kind, .int .i64 a1.num, .string a1.name, .slice a1.at_ a1.args.length a1.cap] 25)) (fun e w' => e = .returned (.bool q2) ∧ Ext W w') from great_single a1 60 W W.heap.size rfl (w1.below (base8 _ h)) (by omega) (by omega) hq2)
  have AW := Lib.hid example_at
  cases q0 with
  | true =>
    clear QG hq0 hq1 hq2 hq3 w0 w1 base8
    have z0 := ext_row G0.out 0 rfl
    have z1 := ext_row G0.out 1 rfl
    have z2 := ext_row G0.out 2 rfl
    have z3 := ext_row G0.out 3 rfl
    go_enter Try.func7, Try.ntmps7
    go_wp2_with (first
      | (go_at_call 9; have hF := QL.out _ G0.out; (with_reducible refine hF.mono ?_); rintro e v1 ⟨rfl, h1⟩; have G1 := Lib.hid (G0.out.trans h1); clear z0 z1 z2 z3; have z0 := ext_row G1.out 0 rfl; have z1 := ext_row G1.out 1 rfl; have z2 := ext_row G1.out 2 rfl; have z3 := ext_row G1.out 3 rfl; clear h1 hF)
      | (go_at_call 11; have hF := AW.out v1; (with_reducible refine hF.mono ?_); rintro e v2 ⟨rfl, h1⟩; have G2 := Lib.hid (G1.out.trans h1); clear h1 hF)
      | fail)
    go_ret
    exact ⟨rfl, B8.out _ G2.out⟩
  | false =>
    have QA := Lib.hid (fun (W : World) (h : Ext (w.alloc (.cells #[.int .i64 a1.kind, .int .i64 a1.num, .string a1.name, .slice a1.at_ a1.args.length a1.cap] 25)) W) => show Calls Try.prog 29 #[.slice A0 a0.length c0] W (fun e w' => e = .returned (.bool q1) ∧ Ext W w') from by rw [← hq1]; exact ascending_at a0 A0 c0 W (w0.below (base8 _ h)) (by have := (small_env hq0).1; omega))
    cases q1 with
    | false =>
      clear QG hq0 hq1 hq2 hq3 w0 w1 base8
      have z0 := ext_row G0.out 0 rfl
      have z1 := ext_row G0.out 1 rfl
      have z2 := ext_row G0.out 2 rfl
      have z3 := ext_row G0.out 3 rfl
      go_enter Try.func7, Try.ntmps7
      go_wp2_with (first
        | (go_at_call 9; have hF := QL.out _ G0.out; (with_reducible refine hF.mono ?_); rintro e v1 ⟨rfl, h1⟩; have G1 := Lib.hid (G0.out.trans h1); clear z0 z1 z2 z3; have z0 := ext_row G1.out 0 rfl; have z1 := ext_row G1.out 1 rfl; have z2 := ext_row G1.out 2 rfl; have z3 := ext_row G1.out 3 rfl; clear h1 hF)
        | (go_at_call 29; have hF := QA.out _ G1.out; (with_reducible refine hF.mono ?_); rintro e v2 ⟨rfl, h1⟩; have G2 := Lib.hid (G1.out.trans h1); clear z0 z1 z2 z3; have z0 := ext_row G2.out 0 rfl; have z1 := ext_row G2.out 1 rfl; have z2 := ext_row G2.out 2 rfl; have z3 := ext_row G2.out 3 rfl; clear h1 hF)
        | (go_at_call 11; have hF := AW.out v2; (with_reducible refine hF.mono ?_); rintro e v3 ⟨rfl, h1⟩; have G3 := Lib.hid (G2.out.trans h1); clear h1 hF)
        | fail)
      go_ret
      exact ⟨rfl, B8.out _ G3.out⟩
    | true =>
      cases q2 with
      | true =>
        clear hq0 hq1 hq2 hq3 w0 w1 base8
        have z0 := ext_row G0.out 0 rfl
        have z1 := ext_row G0.out 1 rfl
        have z2 := ext_row G0.out 2 rfl
        have z3 := ext_row G0.out 3 rfl
        go_enter Try.func7, Try.ntmps7
        go_wp2_with (first
          | (go_at_call 9; have hF := QL.out _ G0.out; (with_reducible refine hF.mono ?_); rintro e v1 ⟨rfl, h1⟩; have G1 := Lib.hid (G0.out.trans h1); clear z0 z1 z2 z3; have z0 := ext_row G1.out 0 rfl; have z1 := ext_row G1.out 1 rfl; have z2 := ext_row G1.out 2 rfl; have z3 := ext_row G1.out 3 rfl; clear h1 hF)
          | (go_at_call 29; have hF := QA.out _ G1.out; (with_reducible refine hF.mono ?_); rintro e v2 ⟨rfl, h1⟩; have G2 := Lib.hid (G1.out.trans h1); clear z0 z1 z2 z3; have z0 := ext_row G2.out 0 rfl; have z1 := ext_row G2.out 1 rfl; have z2 := ext_row G2.out 2 rfl; have z3 := ext_row G2.out 3 rfl; clear h1 hF)
          | (go_at_call 10; have hF := QG.out _ G2.out; (with_reducible refine hF.mono ?_); rintro e v3 ⟨rfl, h1⟩; have G3 := Lib.hid (G2.out.trans h1); clear z0 z1 z2 z3; have z0 := ext_row G3.out 0 rfl; have z1 := ext_row G3.out 1 rfl; have z2 := ext_row G3.out 2 rfl; have z3 := ext_row G3.out 3 rfl; clear h1 hF)
          | (go_at_call 11; have hF := AW.out v3; (with_reducible refine hF.mono ?_); rintro e v4 ⟨rfl, h1⟩; have G4 := Lib.hid (G3.out.trans h1); clear h1 hF)
          | fail)
        go_ret
        exact ⟨rfl, B8.out _ G4.out⟩
      | false =>
        have hn2 : a1.nodes ≤ 60 := by have := not_great hq2; simp only [nodesL] at this; omega
        have QC := Lib.hid (fun (W : World) (h : Ext (w.alloc (.cells #[.int .i64 a1.kind, .int .i64 a1.num, .string a1.name, .slice a1.at_ a1.args.length a1.cap] 25)) W) => show Calls Try.prog 30 #[.slice A0 a0.length c0, .agg #[.int .i64 a1.kind, .int .i64 a1.num, .string a1.name, .slice a1.at_ a1.args.length a1.cap]] W (fun e w' => e = .returned (.bool q3) ∧ Ext W w') from by rw [← hq3]; exact covers_at a0 A0 c0 a1 W (w0.below (base8 _ h)) (by have := (small_env hq0).1; omega) (w1.below (base8 _ h)) (by have := (size_nodes.1 a1).1; omega))
        cases q3 with
        | false =>
          clear hq0 hq1 hq2 hq3 w0 w1 base8 hn2
          have z0 := ext_row G0.out 0 rfl
          have z1 := ext_row G0.out 1 rfl
          have z2 := ext_row G0.out 2 rfl
          have z3 := ext_row G0.out 3 rfl
          go_enter Try.func7, Try.ntmps7
          go_wp2_with (first
            | (go_at_call 9; have hF := QL.out _ G0.out; (with_reducible refine hF.mono ?_); rintro e v1 ⟨rfl, h1⟩; have G1 := Lib.hid (G0.out.trans h1); clear z0 z1 z2 z3; have z0 := ext_row G1.out 0 rfl; have z1 := ext_row G1.out 1 rfl; have z2 := ext_row G1.out 2 rfl; have z3 := ext_row G1.out 3 rfl; clear h1 hF)
            | (go_at_call 29; have hF := QA.out _ G1.out; (with_reducible refine hF.mono ?_); rintro e v2 ⟨rfl, h1⟩; have G2 := Lib.hid (G1.out.trans h1); clear z0 z1 z2 z3; have z0 := ext_row G2.out 0 rfl; have z1 := ext_row G2.out 1 rfl; have z2 := ext_row G2.out 2 rfl; have z3 := ext_row G2.out 3 rfl; clear h1 hF)
            | (go_at_call 10; have hF := QG.out _ G2.out; (with_reducible refine hF.mono ?_); rintro e v3 ⟨rfl, h1⟩; have G3 := Lib.hid (G2.out.trans h1); clear z0 z1 z2 z3; have z0 := ext_row G3.out 0 rfl; have z1 := ext_row G3.out 1 rfl; have z2 := ext_row G3.out 2 rfl; have z3 := ext_row G3.out 3 rfl; clear h1 hF)
            | (go_at_call 30; have hF := QC.out _ G3.out; (with_reducible refine hF.mono ?_); rintro e v4 ⟨rfl, h1⟩; have G4 := Lib.hid (G3.out.trans h1); clear z0 z1 z2 z3; have z0 := ext_row G4.out 0 rfl; have z1 := ext_row G4.out 1 rfl; have z2 := ext_row G4.out 2 rfl; have z3 := ext_row G4.out 3 rfl; clear h1 hF)
            | (go_at_call 11; have hF := AW.out v4; (with_reducible refine hF.mono ?_); rintro e v5 ⟨rfl, h1⟩; have G5 := Lib.hid (G4.out.trans h1); clear h1 hF)
            | fail)
          go_ret
          exact ⟨rfl, B8.out _ G5.out⟩
        | true =>
          obtain ⟨hle, hne⟩ := small_env hq0
          have hinv := inverts_law (ascB_iff.1 hq1) hq3 0
          have hmi := (inst_nodes (b := a0) (N := 60) 0 hne).1 a1
          have hni : (a1.inst a0 0).nodes ≤ 1000000 := by omega
          have QI := Lib.hid (fun (W : World) (h : Ext (w.alloc (.cells #[.int .i64 a1.kind, .int .i64 a1.num, .string a1.name, .slice a1.at_ a1.args.length a1.cap] 25)) W) => show Calls Try.prog 20 #[.slice A0 a0.length c0, .int .i64 0, .agg #[.int .i64 a1.kind, .int .i64 a1.num, .string a1.name, .slice a1.at_ a1.args.length a1.cap]] W (fun e w' => ∃ u : Tm, e = .returned u.val ∧ u.strip = (a1.inst a0 0).strip ∧ u.At w' ∧ Ext W w') from
            (inst_term_at a0 0 (by unfold Fits; omega) A0 c0 a1 W (w1.below (base8 _ h)) (by omega) fun W' h' => in_order_any a0 A0 c0 W' ((w0.below (base8 _ h)).below h') (by omega) (fun x hx => by have := hne x hx; omega)).mono fun e w' ⟨u, k1, k2, k3, k4⟩ => ⟨u, k1, k2, k3.at trivial, k4⟩)
          have QT := Lib.hid (fun (W : World) (u : Tm) (hu : u.At W) (hst : u.strip = (a1.inst a0 0).strip) (h : Ext (w.alloc (.cells #[.int .i64 a1.kind, .int .i64 a1.num, .string a1.name, .slice a1.at_ a1.args.length a1.cap] 25)) W) => show Calls Try.prog 12 #[.slice none 0 0, .agg #[.int .i64 a1.kind, .int .i64 a1.num, .string a1.name, .slice a1.at_ a1.args.length a1.cap], u.val] W (fun e w' => ∃ A q, ∃ l : List Bd, e = .returned (.tuple #[.slice A l.length q, .bool true]) ∧ sameB l a0 = true ∧ BLst w' A l q ∧ Ext W w') from by
            obtain ⟨e2, k1, k2⟩ := mat_like hinv hst
            have := match_term_at [] none 0 a1 u W (BLst.nil W) (by simp) (fun x hx => by cases hx) (w1.below (base8 _ h)) hu (by omega) (by rw [nodes_same hst]; exact hni)
            rw [k1] at this
            exact this.mono fun e w' ⟨A, q, l, m1, m2, m3, m4⟩ => ⟨A, q, l, m1, sameB_of m2 k2, m3, m4⟩)
          have QE := Lib.hid (fun (W : World) (A : Option Addr) (q : Nat) (l : List Bd) (hb : BLst W A l q) (hs : sameB l a0 = true) (h : Ext (w.alloc (.cells #[.int .i64 a1.kind, .int .i64 a1.num, .string a1.name, .slice a1.at_ a1.args.length a1.cap] 25)) W) => show Calls Try.prog 14 #[.slice A l.length q, .slice A0 a0.length c0] W (fun e w' => e = .returned (.bool true) ∧ Ext W w') from by
            have := ref_equal_at l a0 A A0 q c0 W hb (w0.below (base8 _ h))
            rwa [hs] at this)
          clear hq0 hq1 hq2 hq3 w0 w1 base8 hn2 hle hne hinv hmi hni
          have z0 := ext_row G0.out 0 rfl
          have z1 := ext_row G0.out 1 rfl
          have z2 := ext_row G0.out 2 rfl
          have z3 := ext_row G0.out 3 rfl
          go_enter Try.func7, Try.ntmps7
          go_upto_region 3 with (first
            | (go_at_call 9; have hF := QL.out _ G0.out; (with_reducible refine hF.mono ?_); rintro e v1 ⟨rfl, h1⟩; have G1 := Lib.hid (G0.out.trans h1); clear z0 z1 z2 z3; have z0 := ext_row G1.out 0 rfl; have z1 := ext_row G1.out 1 rfl; have z2 := ext_row G1.out 2 rfl; have z3 := ext_row G1.out 3 rfl; clear h1 hF)
            | (go_at_call 29; have hF := QA.out _ G1.out; (with_reducible refine hF.mono ?_); rintro e v2 ⟨rfl, h1⟩; have G2 := Lib.hid (G1.out.trans h1); clear z0 z1 z2 z3; have z0 := ext_row G2.out 0 rfl; have z1 := ext_row G2.out 1 rfl; have z2 := ext_row G2.out 2 rfl; have z3 := ext_row G2.out 3 rfl; clear h1 hF)
            | (go_at_call 10; have hF := QG.out _ G2.out; (with_reducible refine hF.mono ?_); rintro e v3 ⟨rfl, h1⟩; have G3 := Lib.hid (G2.out.trans h1); clear z0 z1 z2 z3; have z0 := ext_row G3.out 0 rfl; have z1 := ext_row G3.out 1 rfl; have z2 := ext_row G3.out 2 rfl; have z3 := ext_row G3.out 3 rfl; clear h1 hF)
            | (go_at_call 30; have hF := QC.out _ G3.out; (with_reducible refine hF.mono ?_); rintro e v4 ⟨rfl, h1⟩; have G4 := Lib.hid (G3.out.trans h1); clear z0 z1 z2 z3; have z0 := ext_row G4.out 0 rfl; have z1 := ext_row G4.out 1 rfl; have z2 := ext_row G4.out 2 rfl; have z3 := ext_row G4.out 3 rfl; clear h1 hF)
            | fail)
          have HS := Lib.hid (fun W (h : Ext (w.alloc (.cells #[.int .i64 a1.kind, .int .i64 a1.num, .string a1.name, .slice a1.at_ a1.args.length a1.cap] 25)) W) => (⟨ext_row h 0 rfl, ext_row h 1 rfl, ext_row h 2 rfl, ext_row h 3 rfl⟩ : (fun W => W.cell? ⟨w.heap.size, 0, none⟩ = some (.int .i64 a1.kind) ∧ W.cell? ⟨w.heap.size, 1, none⟩ = some (.int .i64 a1.num) ∧ W.cell? ⟨w.heap.size, 2, none⟩ = some (.string a1.name) ∧ W.cell? ⟨w.heap.size, 3, none⟩ = some (.slice a1.at_ a1.args.length a1.cap)) W))
          clear z0 z1 z2 z3
          go_region_held3 (fun W => W.cell? ⟨w.heap.size, 0, none⟩ = some (.int .i64 a1.kind) ∧ W.cell? ⟨w.heap.size, 1, none⟩ = some (.int .i64 a1.num) ∧ W.cell? ⟨w.heap.size, 2, none⟩ = some (.string a1.name) ∧ W.cell? ⟨w.heap.size, 3, none⟩ = some (.slice a1.at_ a1.args.length a1.cap)) (first | (with_reducible exact HS.out _ G4.out) | (with_reducible exact HS.out _ (G4.out.trans (Ext.drew _))) | (with_reducible exact HS.out _ G5.out) | (with_reducible exact HS.out _ (G5.out.trans (Ext.drew _))) | (with_reducible exact HS.out _ G6.out) | (with_reducible exact HS.out _ (G6.out.trans (Ext.drew _))) | fail) (first
            | (go_at_call 20; have hF := QI.out (v4).drew (G4.out.trans (Ext.drew _)); (with_reducible refine hF.mono ?_); rintro e v5 ⟨u, rfl, st, hu, h1⟩; have G5 := Lib.hid (G4.out.trans (Ext.trans (Ext.drew _) h1)); have ST := Lib.hid st; have HU := Lib.hid hu; clear h1 hF st hu)
            | (go_at_call 12; have hF := QT.out v5 u HU.out ST.out G5.out; (with_reducible refine hF.mono ?_); rintro e v6 ⟨A5, q5, l5, rfl, s5, b5, h1⟩; have G6 := Lib.hid (G5.out.trans h1); have S5 := Lib.hid s5; have B5 := Lib.hid b5; clear h1 hF s5 b5)
            | fail)
          go_wp2_with (first
            | (go_at_call 14; have hF := QE.out v6 A5 q5 l5 B5.out S5.out G6.out; (with_reducible refine hF.mono ?_); rintro e v7 ⟨rfl, h1⟩; have G7 := Lib.hid (G6.out.trans h1); clear h1 hF)
            | (go_at_call 11; have hF := AW.out v7; (with_reducible refine hF.mono ?_); rintro e v8 ⟨rfl, h1⟩; have G8 := Lib.hid (G7.out.trans h1); clear h1 hF)
            | fail)
          go_ret
          exact ⟨rfl, B8.out _ G8.out⟩
end Go.Proofs.Ytceekaodhmncgaa.matchInverts
