/-
  The walk of MatchInstances.
-/
import Derived.Test.YtceekaodhmncgaaMl8x15
import Derived.Test.YtceekaodhmncgaaMl8x12
import Derived.Test.YtceekaodhmncgaaMl8x16
import Derived.Test.YtceekaodhmncgaaMl8x17
namespace Go.Proofs.Ytceekaodhmncgaa.matchInstances
open Go.ChangeShapes Go.WideShapes Go.ChangeAt Go.RowKit Go.Sort
set_option linter.unusedVariables false

set_option maxHeartbeats 16000000 in
set_option maxRecDepth 100000 in
theorem walk (A0 : Option Addr) (a0 : List Bd) (c0 : Nat) (a1 : Int) (a2 : Gl) (w : World) (w0 : BLst w A0 a0 c0) (w1 : (Lit.int .i64 a1).wf = true) (w2 : a2.At w) :
    Calls Try.prog 5 #[.slice A0 a0.length c0, .int .i64 a1, a2.val] w fun e w' => e = .returned (.bool true) ∧ Below w.heap.size w w' := by
  obtain ⟨o1, s1, A1, c1, l1⟩ := a2
  have hf : Fits a1 := int_fits w1
  have w22 : (⟨o1, s1, A1, c1, l1⟩ : Gl).At w := w2
  have w23 : Lst w A1 l1 c1 := w2.2.2
  have w24 : (⟨s1, A1, c1, l1⟩ : Am).At w := ⟨w2.2.1, w2.2.2⟩
  clear w1 w2
  show Calls Try.prog 5 #[.slice A0 a0.length c0, .int .i64 a1, .agg #[.int .i64 o1, .string s1, .slice A1 l1.length c1]] w _
  have base8 : ∀ (W : World), Ext (w.alloc (.cells #[.int .i64 o1, .string s1, .slice A1 l1.length c1] 42)) W → Below w.heap.size w W := fun _ h => (Ext.al _ _).trans h
  have B8 := Lib.hid base8
  have G0 := Lib.hid (Ext.refl (w.alloc (.cells #[.int .i64 o1, .string s1, .slice A1 l1.length c1] 42)))
  obtain ⟨q0, hq0⟩ : ∃ r, largeB a0 = r := ⟨_, rfl⟩
  obtain ⟨q1, hq1⟩ : ∃ r, decide (weighN s1 l1 100 < 0) = r := ⟨_, rfl⟩
  have QL := Lib.hid (fun (W : World) (h : Ext (w.alloc (.cells #[.int .i64 o1, .string s1, .slice A1 l1.length c1] 42)) W) => show Calls Try.prog 9 #[.slice A0 a0.length c0] W (fun e w' => e = .returned (.bool q0) ∧ Ext W w') from by rw [← hq0]; exact large_at a0 A0 c0 W (w0.below (base8 _ h)))
  have QG := Lib.hid (fun (W : World) (h : Ext (w.alloc (.cells #[.int .i64 o1, .string s1, .slice A1 l1.length c1] 42)) W) => show Calls Try.prog 18 #[.slice (some ⟨W.heap.size, 0, none⟩) 1 1, .int .i64 100] (W.alloc (.cells #[.int .i64 o1, .string s1, .slice A1 l1.length c1] 42)) (fun e w' => e = .returned (.bool q1) ∧ Ext W w') from (great_goals_100 ⟨o1, s1, A1, c1, l1⟩ W W.heap.size rfl (gl_below w22 (base8 _ h)) hq1).mono (by rintro e w' ⟨h1, n, rfl⟩; exact ⟨h1, below_drewN (below1 _ _) n⟩))
  have AW := Lib.hid example_at
  cases q0 with
  | true =>
    clear QG hq0 hq1 w0 w22 w23 w24 base8 hf
    have z0 := ext_row G0.out 0 rfl
    have z1 := ext_row G0.out 1 rfl
    have z2 := ext_row G0.out 2 rfl
    go_enter Try.func5, Try.ntmps5
    go_wp2_with (first
      | (go_at_call 9; have hF := QL.out _ G0.out; (with_reducible refine hF.mono ?_); rintro e v1 ⟨rfl, h1⟩; have G1 := Lib.hid (G0.out.trans h1); clear z0 z1 z2; have z0 := ext_row G1.out 0 rfl; have z1 := ext_row G1.out 1 rfl; have z2 := ext_row G1.out 2 rfl; clear h1 hF)
      | (go_at_call 11; have hF := AW.out v1; (with_reducible refine hF.mono ?_); rintro e v2 ⟨rfl, h1⟩; have G2 := Lib.hid (G1.out.trans h1); clear h1 hF)
      | fail)
    go_ret
    exact ⟨rfl, B8.out _ G2.out⟩
  | false =>
  cases q1 with
  | true =>
    clear hq0 hq1 w0 w22 w23 w24 base8 hf
    have z0 := ext_row G0.out 0 rfl
    have z1 := ext_row G0.out 1 rfl
    have z2 := ext_row G0.out 2 rfl
    go_enter Try.func5, Try.ntmps5
    go_wp2_with (first
      | (go_at_call 9; have hF := QL.out _ G0.out; (with_reducible refine hF.mono ?_); rintro e v1 ⟨rfl, h1⟩; have G1 := Lib.hid (G0.out.trans h1); clear z0 z1 z2; have z0 := ext_row G1.out 0 rfl; have z1 := ext_row G1.out 1 rfl; have z2 := ext_row G1.out 2 rfl; clear h1 hF)
      | (go_at_call 18; have hF := QG.out _ G1.out; (with_reducible refine hF.mono ?_); rintro e v2 ⟨rfl, h1⟩; have G2 := Lib.hid (G1.out.trans h1); clear z0 z1 z2; have z0 := ext_row G2.out 0 rfl; have z1 := ext_row G2.out 1 rfl; have z2 := ext_row G2.out 2 rfl; clear h1 hF)
      | (go_at_call 11; have hF := AW.out v2; (with_reducible refine hF.mono ?_); rintro e v3 ⟨rfl, h1⟩; have G3 := Lib.hid (G2.out.trans h1); clear h1 hF)
      | fail)
    go_ret
    exact ⟨rfl, B8.out _ G3.out⟩
  | false =>
    obtain ⟨hle, hne⟩ := small_env hq0
    have hn : nodesL l1 ≤ 100 := by
      have h1 : 0 ≤ weighN s1 l1 100 := Int.not_lt.1 (by simpa using hq1)
      have := weighN_size h1
      omega
    have hll : l1.length ≤ 100 := by have := length_le_nodes l1; omega
    have hio : ∀ (W : World), Ext (w.alloc (.cells #[.int .i64 o1, .string s1, .slice A1 l1.length c1] 42)) W → ∀ W', Below W.heap.size W W' → Calls Try.prog 39 #[.slice A0 a0.length c0] W' (InOrd a0 W') := fun W h W' h' => in_order_any a0 A0 c0 W' ((w0.below (base8 _ h)).below h') (by omega) (fun x hx => by have := hne x hx; omega)
    have QI := Lib.hid (fun (W : World) (h : Ext (w.alloc (.cells #[.int .i64 o1, .string s1, .slice A1 l1.length c1] 42)) W) (x : Tm) (hx : x.At W) (hxn : x.nodes ≤ 1000000) => show Calls Try.prog 20 #[.slice A0 a0.length c0, .int .i64 a1, x.val] W (fun e w' => ∃ u : Tm, e = .returned u.val ∧ u.strip = (x.inst a0 a1).strip ∧ u.At w' ∧ Ext W w') from
      (inst_term_at a0 a1 hf A0 c0 x W hx hxn (hio W h)).mono fun e w' ⟨u, k1, k2, k3, k4⟩ => ⟨u, k1, k2, k3.at trivial, k4⟩)
    have QR := Lib.hid (fun (W : World) (h : Ext (w.alloc (.cells #[.int .i64 o1, .string s1, .slice A1 l1.length c1] 42)) W) (x : Tm) (hx : x.At W) (hxn : x.nodes ≤ 1000000) => show Calls Try.prog 21 #[.slice A0 a0.length c0, .int .i64 a1, x.val] W (fun e w' => ∃ u : Tm, e = .returned u.val ∧ u.strip = (x.inst a0 a1).strip ∧ u.At w' ∧ Ext W w') from
      (ref_instance_at W a0 a1 hf A0 c0 (w0.below (base8 _ h)) (by omega) x hx hxn W (Below.refl _ _)).mono fun e w' ⟨u, k1, k2, k3, k4⟩ => ⟨u, k1, k2, k3.at k4, k4⟩)
    have QU := Lib.hid (fun (W : World) (u u' : Tm) (t : Tm) (hu : u.At W) (hu' : u'.At W) (e1 : u.strip = t.strip) (e2 : u'.strip = t.strip) => show Calls Try.prog 19 #[u.val, u'.val] W (fun e w' => e = .returned (.bool true) ∧ Ext W w') from ref_same_at u u' W hu hu' (same_strip (e1.trans e2.symm)))
    have QIG := Lib.hid (fun (W : World) (h : Ext (w.alloc (.cells #[.int .i64 o1, .string s1, .slice A1 l1.length c1] 42)) W) => show Calls Try.prog 23 #[.slice A0 a0.length c0, .int .i64 a1, .agg #[.int .i64 o1, .string s1, .slice A1 l1.length c1]] W (fun e w' => ∃ u : Gl, e = .returned u.val ∧ (u.op = o1 ∧ u.name = s1) ∧ stripL u.args = stripL (instL a0 a1 l1) ∧ u.At w' ∧ Ext W w') from
      inst_goal_at a0 a1 hf A0 c0 ⟨o1, s1, A1, c1, l1⟩ W (gl_below w22 (base8 _ h)) (by show nodesL l1 ≤ _; omega) (hio W h))
    have QRG := Lib.hid (fun (W : World) (h : Ext (w.alloc (.cells #[.int .i64 o1, .string s1, .slice A1 l1.length c1] 42)) W) => show Calls Try.prog 24 #[.slice A0 a0.length c0, .int .i64 a1, .agg #[.int .i64 o1, .string s1, .slice A1 l1.length c1]] W (fun e w' => ∃ u : Gl, e = .returned u.val ∧ (u.op = o1 ∧ u.name = s1) ∧ stripL u.args = stripL (instL a0 a1 l1) ∧ u.At w' ∧ Ext W w') from
      ref_inst_goal_at W a0 a1 hf A0 c0 (w0.below (base8 _ h)) (by omega) ⟨o1, s1, A1, c1, l1⟩ (gl_below w22 (base8 _ h)) (by show nodesL l1 ≤ _; omega) W (Below.refl _ _))
    have QSG := Lib.hid (fun (W : World) (u u' : Gl) (hu : u.At W) (hu' : u'.At W) (e1 : u.op = o1 ∧ u.name = s1) (e2 : stripL u.args = stripL (instL a0 a1 l1)) (e3 : u'.op = o1 ∧ u'.name = s1) (e4 : stripL u'.args = stripL (instL a0 a1 l1)) => show Calls Try.prog 22 #[u.val, u'.val] W (fun e w' => e = .returned (.bool true) ∧ Ext W w') from
      ref_same_goal_at u u' W hu hu' (same_gl (e1.1.trans e3.1.symm) (e1.2.trans e3.2.symm) (e2.trans e4.symm)))
    have QIA := Lib.hid (fun (W : World) (h : Ext (w.alloc (.cells #[.int .i64 o1, .string s1, .slice A1 l1.length c1] 42)) W) => show Calls Try.prog 26 #[.slice A0 a0.length c0, .int .i64 a1, .agg #[.string s1, .slice A1 l1.length c1]] W (fun e w' => ∃ u : Am, e = .returned u.val ∧ u.name = s1 ∧ stripL u.args = stripL (instL a0 a1 l1) ∧ u.At w' ∧ Ext W w') from
      inst_atom_at a0 a1 hf A0 c0 ⟨s1, A1, c1, l1⟩ W (am_below w24 (base8 _ h)) (by show nodesL l1 ≤ _; omega) (hio W h))
    have QRA := Lib.hid (fun (W : World) (h : Ext (w.alloc (.cells #[.int .i64 o1, .string s1, .slice A1 l1.length c1] 42)) W) => show Calls Try.prog 27 #[.slice A0 a0.length c0, .int .i64 a1, .agg #[.string s1, .slice A1 l1.length c1]] W (fun e w' => ∃ u : Am, e = .returned u.val ∧ u.name = s1 ∧ stripL u.args = stripL (instL a0 a1 l1) ∧ u.At w' ∧ Ext W w') from
      ref_inst_atom_at W a0 a1 hf A0 c0 (w0.below (base8 _ h)) (by omega) ⟨s1, A1, c1, l1⟩ (am_below w24 (base8 _ h)) (by show nodesL l1 ≤ _; omega) W (Below.refl _ _))
    have QSA := Lib.hid (fun (W : World) (u u' : Am) (hu : u.At W) (hu' : u'.At W) (e1 : u.name = s1) (e2 : stripL u.args = stripL (instL a0 a1 l1)) (e3 : u'.name = s1) (e4 : stripL u'.args = stripL (instL a0 a1 l1)) => show Calls Try.prog 25 #[u.val, u'.val] W (fun e w' => e = .returned (.bool true) ∧ Ext W w') from
      ref_same_atom_at u u' W hu hu' (same_am (e1.trans e3.symm) (e2.trans e4.symm)))
    have HL := Lib.hid (fun (W : World) (h : Ext (w.alloc (.cells #[.int .i64 o1, .string s1, .slice A1 l1.length c1] 42)) W) => show Lst W A1 l1 c1 from w23.below (base8 _ h))
    have HN := Lib.hid hn
    clear hq0 hq1 w0 w22 w23 w24 base8 hf hle hne hn hio
    have z0 := ext_row G0.out 0 rfl
    have z1 := ext_row G0.out 1 rfl
    have z2 := ext_row G0.out 2 rfl
    go_enter Try.func5, Try.ntmps5
    go_wp2_with (first
      | (go_at_call 9; have hF := QL.out _ G0.out; (with_reducible refine hF.mono ?_); rintro e v1 ⟨rfl, h1⟩; have G1 := Lib.hid (G0.out.trans h1); clear z0 z1 z2; have z0 := ext_row G1.out 0 rfl; have z1 := ext_row G1.out 1 rfl; have z2 := ext_row G1.out 2 rfl; clear h1 hF)
      | (go_at_call 18; have hF := QG.out _ G1.out; (with_reducible refine hF.mono ?_); rintro e v2 ⟨rfl, h1⟩; have G2 := Lib.hid (G1.out.trans h1); clear z0 z1 z2; have z0 := ext_row G2.out 0 rfl; have z1 := ext_row G2.out 1 rfl; have z2 := ext_row G2.out 2 rfl; clear h1 hF)
      | fail)
    go_loopw [7] (fun i wr => ∃ j : Nat, j ≤ l1.length ∧ i = .int .i64 j ∧ Hid (Ext v2 wr)) (fun i _ => l1.length - (intOf i).toNat)
    case atStart => exact ⟨0, Nat.zero_le _, rfl, Lib.hid (Ext.refl _)⟩
    case round =>
      clear z0 z1 z2
      obtain ⟨j, hj, rfl, HF⟩ := hrel
      have GR := Lib.hid (G2.out.trans HF.out)
      have z0 := ext_row GR.out 0 rfl
      have z1 := ext_row GR.out 1 rfl
      have z2 := ext_row GR.out 2 rfl
      by_cases hlt : j < l1.length
      · obtain ⟨b0, o, rfl, ⟨d0, d1, d2, d3⟩, hx⟩ := (HL.out _ GR.out).get hlt
        have jlt : decide ((j : Int) < (l1.length : Int)) = true := decide_eq_true (by omega)
        have hxn : (l1.getD j default).nodes ≤ 1000000 := by have := nodes_mem (getD_mem hlt); have := HN.out; omega
        generalize l1.getD j default = x at *
        have QX := Lib.hid (fun (W : World) (h : Ext wr W) => QI.out W (GR.out.trans h) x (hx.below h) hxn)
        have QY := Lib.hid (fun (W : World) (h : Ext wr W) => QR.out W (GR.out.trans h) x (hx.below h) hxn)
        clear hx hxn
        obtain ⟨X, hX⟩ : ∃ X, x.inst a0 a1 = X := ⟨_, rfl⟩
        rw [hX] at QX QY
        clear hX
        obtain ⟨xk, xn, xs, xA, xc, xa⟩ := x
        simp only [Tm.kind, Tm.num, Tm.name, Tm.at_, Tm.args, Tm.cap] at d0 d1 d2 d3
        have PX := Lib.hid (show ∀ (W : World) (_ : Ext wr W), Calls Try.prog 20 #[.slice A0 a0.length c0, .int .i64 a1, .agg #[.int .i64 xk, .int .i64 xn, .string xs, .slice xA xa.length xc]] W (fun e w' => ∃ u : Tm, e = .returned u.val ∧ u.strip = (X).strip ∧ u.At w' ∧ Ext W w') from QX.out)
        have PY := Lib.hid (show ∀ (W : World) (_ : Ext wr W), Calls Try.prog 21 #[.slice A0 a0.length c0, .int .i64 a1, .agg #[.int .i64 xk, .int .i64 xn, .string xs, .slice xA xa.length xc]] W (fun e w' => ∃ u : Tm, e = .returned u.val ∧ u.strip = (X).strip ∧ u.At w' ∧ Ext W w') from QY.out)
        have HS := Lib.hid (fun W (h : Ext wr W) => (⟨⟨keepv h d0, keepv h d1, keepv h d2, keepv h d3⟩, keepv h z2⟩ : (fun W => (W.cell? ⟨b0, o + j * 4, none⟩ = some (.int .i64 xk) ∧ W.cell? ⟨b0, o + j * 4 + 1, none⟩ = some (.int .i64 xn) ∧ W.cell? ⟨b0, o + j * 4 + 2, none⟩ = some (.string xs) ∧ W.cell? ⟨b0, o + j * 4 + 3, none⟩ = some (.slice xA xa.length xc)) ∧ W.cell? ⟨w.heap.size, 2, none⟩ = some (.slice (some ⟨b0, o, none⟩) l1.length c1)) W))
        clear QX QY
        go_wp2_with fail
        clear z0 z1 z2 d0 d1 d2 d3
        go_region_held3 (fun W => (W.cell? ⟨b0, o + j * 4, none⟩ = some (.int .i64 xk) ∧ W.cell? ⟨b0, o + j * 4 + 1, none⟩ = some (.int .i64 xn) ∧ W.cell? ⟨b0, o + j * 4 + 2, none⟩ = some (.string xs) ∧ W.cell? ⟨b0, o + j * 4 + 3, none⟩ = some (.slice xA xa.length xc)) ∧ W.cell? ⟨w.heap.size, 2, none⟩ = some (.slice (some ⟨b0, o, none⟩) l1.length c1)) (first | (with_reducible exact HS.out _ G3.out) | (with_reducible exact HS.out _ (G3.out.trans (Ext.drew _))) | (with_reducible exact HS.out _ G4.out) | (with_reducible exact HS.out _ (G4.out.trans (Ext.drew _))) | (with_reducible exact HS.out _ G5.out) | (with_reducible exact HS.out _ (G5.out.trans (Ext.drew _))) | (with_reducible exact HS.out _ (Ext.drew _)) | fail) (first
          | (go_at_call 20; have hF := PX.out (wr).drew (Ext.drew _); (with_reducible refine hF.mono ?_); rintro e v3 ⟨u, rfl, st, hu, h1⟩; have G3 := Lib.hid (Ext.trans (Ext.drew _) h1); have S3 := Lib.hid st; have U3 := Lib.hid hu; clear h1 hF st hu)
          | (go_at_call 21; have hF := PY.out v3 G3.out; (with_reducible refine hF.mono ?_); rintro e v4 ⟨u', rfl, st, hu, h1⟩; have G4 := Lib.hid (G3.out.trans h1); have S4 := Lib.hid st; have U4 := Lib.hid hu; have U34 := Lib.hid (U3.out.below h1); clear h1 hF st hu)
          | (go_at_call 19; have hF := QU.out v4 u u' X U34.out U4.out S3.out S4.out; (with_reducible refine hF.mono ?_); rintro e v5 ⟨rfl, h1⟩; have G5 := Lib.hid (G4.out.trans h1); clear h1 hF)
          | fail)
        go_wp2_with fail
        go_roundw
        case rel => exact ⟨j + 1, by omega, by go_num, Lib.hid (HF.out.trans G5.out)⟩
        case measure => simp [intOf]; omega
      · obtain rfl : j = l1.length := by omega
        have jlt : decide ((l1.length : Int) < (l1.length : Int)) = false := by simp
        have GA := Lib.hid (GR.out.trans (Ext.al wr (.cells #[.string s1, .slice A1 l1.length c1] 36)))
        have HS := Lib.hid (fun W (h : Ext (wr.alloc (.cells #[.string s1, .slice A1 l1.length c1] 36)) W) => (⟨⟨keepv ((Ext.al _ _).trans h) z0, keepv ((Ext.al _ _).trans h) z1, keepv ((Ext.al _ _).trans h) z2⟩, ext_row h 0 rfl, ext_row h 1 rfl⟩ : (fun W => (W.cell? ⟨w.heap.size, 0, none⟩ = some (.int .i64 o1) ∧ W.cell? ⟨w.heap.size, 1, none⟩ = some (.string s1) ∧ W.cell? ⟨w.heap.size, 2, none⟩ = some (.slice A1 l1.length c1)) ∧ W.cell? ⟨wr.heap.size, 0, none⟩ = some (.string s1) ∧ W.cell? ⟨wr.heap.size, 1, none⟩ = some (.slice A1 l1.length c1)) W))
        clear QL QG QI QR QU HL HN
        go_wp2_with fail
        clear z0 z1 z2
        go_region_held3 (fun W => (W.cell? ⟨w.heap.size, 0, none⟩ = some (.int .i64 o1) ∧ W.cell? ⟨w.heap.size, 1, none⟩ = some (.string s1) ∧ W.cell? ⟨w.heap.size, 2, none⟩ = some (.slice A1 l1.length c1)) ∧ W.cell? ⟨wr.heap.size, 0, none⟩ = some (.string s1) ∧ W.cell? ⟨wr.heap.size, 1, none⟩ = some (.slice A1 l1.length c1)) (first | (with_reducible exact HS.out _ G3.out) | (with_reducible exact HS.out _ (G3.out.trans (Ext.drew _))) | (with_reducible exact HS.out _ G4.out) | (with_reducible exact HS.out _ (G4.out.trans (Ext.drew _))) | (with_reducible exact HS.out _ G5.out) | (with_reducible exact HS.out _ (G5.out.trans (Ext.drew _))) | (with_reducible exact HS.out _ G6.out) | (with_reducible exact HS.out _ (G6.out.trans (Ext.drew _))) | (with_reducible exact HS.out _ G7.out) | (with_reducible exact HS.out _ (G7.out.trans (Ext.drew _))) | (with_reducible exact HS.out _ G8.out) | (with_reducible exact HS.out _ (G8.out.trans (Ext.drew _))) | (with_reducible exact HS.out _ G9.out) | (with_reducible exact HS.out _ (G9.out.trans (Ext.drew _))) | (with_reducible exact HS.out _ (Ext.drew _)) | fail) (first
          | (go_at_call 23; have hF := QIG.out (wr.alloc (.cells #[.string s1, .slice A1 l1.length c1] 36)).drew (GA.out.trans (Ext.drew _)); (with_reducible refine hF.mono ?_); rintro e v3 ⟨u, rfl, st, sl, hu, h1⟩; have G3 := Lib.hid (Ext.trans (Ext.drew _) h1); have S3 := Lib.hid st; have L3 := Lib.hid sl; have U3 := Lib.hid hu; clear h1 hF st sl hu)
          | (go_at_call 24; have hF := QRG.out v3 (GA.out.trans G3.out); (with_reducible refine hF.mono ?_); rintro e v4 ⟨u', rfl, st, sl, hu, h1⟩; have G4 := Lib.hid (G3.out.trans h1); have S4 := Lib.hid st; have L4 := Lib.hid sl; have U4 := Lib.hid hu; have U34 := Lib.hid (gl_below U3.out h1); clear h1 hF st sl hu)
          | (go_at_call 22; have hF := QSG.out v4 u u' U34.out U4.out S3.out L3.out S4.out L4.out; (with_reducible refine hF.mono ?_); rintro e v5 ⟨rfl, h1⟩; have G5 := Lib.hid (G4.out.trans h1); clear h1 hF)
          | (go_at_call 26; have hF := QIA.out v5 (GA.out.trans G5.out); (with_reducible refine hF.mono ?_); rintro e v6 ⟨t, rfl, st, sl, hu, h1⟩; have G6 := Lib.hid (G5.out.trans h1); have S6 := Lib.hid st; have L6 := Lib.hid sl; have U6 := Lib.hid hu; clear h1 hF st sl hu)
          | (go_at_call 27; have hF := QRA.out v6 (GA.out.trans G6.out); (with_reducible refine hF.mono ?_); rintro e v7 ⟨t', rfl, st, sl, hu, h1⟩; have G7 := Lib.hid (G6.out.trans h1); have S7 := Lib.hid st; have L7 := Lib.hid sl; have U7 := Lib.hid hu; have U67 := Lib.hid (am_below U6.out h1); clear h1 hF st sl hu)
          | (go_at_call 25; have hF := QSA.out v7 t t' U67.out U7.out S6.out L6.out S7.out L7.out; (with_reducible refine hF.mono ?_); rintro e v8 ⟨rfl, h1⟩; have G8 := Lib.hid (G7.out.trans h1); clear h1 hF)
          | (go_at_call 11; have hF := AW.out v8; (with_reducible refine hF.mono ?_); rintro e v9 ⟨rfl, h1⟩; have G9 := Lib.hid (G8.out.trans h1); clear h1 hF)
          | fail)
        go_wp2_with fail
        go_ret
        exact ⟨rfl, B8.out _ (GA.out.trans G9.out)⟩
end Go.Proofs.Ytceekaodhmncgaa.matchInstances
