/-
  The walk of TermBuilds where Ground of the first term is true and Right of what is built is false.
-/
import Derived.Test.YtclhmdgiffemlaaTmTwo
import Derived.Test.YtclhmdgiffemlaaTmCon
import Derived.Test.YtclhmdgiffemlaaTmPair
import Derived.Test.YtclhmdgiffemlaaTmBuild
import Derived.Test.YtclhmdgiffemlaaTmGround
import Derived.Test.YtclhmdgiffemlaaTmSize
import Derived.Test.YtclhmdgiffemlaaTmVarsOf
import Derived.BigQuiet
import Derived.Lib.QuietBelow
import Derived.Deep.RegionHeld3
import Derived.Deep.RegionWith
namespace Go.Proofs.Ytclhmdgiffemlaa.termBuilds
open Go.ChangeShapes Go.WideShapes Go.ChangeAt Go.RowKit Go.Sort
set_option linter.unusedVariables false
set_option linter.unusedSimpArgs false

set_option maxHeartbeats 16000000 in
theorem walk_true_false (a0 : ByteArray) (a1 a2 : Tm) (w : World) (w0 : a0.size ≤ maxLen) (w1 : a1.At w) (w2 : a2.At w) (QG : Hid (∀ (W : World) (b : Nat), b = W.heap.size → Below w.heap.size w W → Calls Try.prog 10 #[.slice (some ⟨b, 0, none⟩) 2 2, .int .i64 500] (W.alloc (.cells #[.int .i64 a1.kind, .int .i64 a1.num, .string a1.name, .slice a1.at_ a1.args.length a1.cap, .int .i64 a2.kind, .int .i64 a2.num, .string a2.name, .slice a2.at_ a2.args.length a2.cap] 24)) fun e w' => e = .returned (.bool false) ∧ Below W.heap.size W w')) (hsz : a0.size ≤ 9223372036854775807) (hl' : decide ((400 : Int) < (a0.size : Int)) = false) (hl'' : ¬((400 : Int) < (a0.size : Int))) (hz1 : a1.size ≤ 1000) (hz2 : a2.size ≤ 1000) (hz3 : a1.size + a2.size ≤ 1000) (hga : decide (a1.occ = []) = true) (hr : (Tm.mk 2 0 a0 none 2 [a1, a2]).right = false) :
    Calls Try.prog 7 #[.string a0, a1.val, a2.val] w fun e w' => e = .returned (.bool true) ∧ Below w.heap.size w w' := by
    have QF := Lib.hid (fun (W : World) (b : Nat) (hb : b = W.heap.size) (h : Below w.heap.size w W) => fun_two a0 w0 a1 a2 W b hb (w1.below h) (w2.below h))
    have QF2 := Lib.hid (fun (W : World) (b : Nat) (hb : b = W.heap.size) (h : Below w.heap.size w W) => fun_two ⟨#[102]⟩ (by unfold maxLen; simp [ByteArray.size]) a1 a2 W b hb (w1.below h) (w2.below h))
    have QS1 := Lib.hid (fun W (h : Below w.heap.size w W) => same_at a1 a1 W (w1.below h) (w1.below h) (r := true) (by rw [cmp_self.1]; rfl))
    have QS2 := Lib.hid (fun W (h : Below w.heap.size w W) => same_at a2 a2 W (w2.below h) (w2.below h) (r := true) (by rw [cmp_self.1]; rfl))
    have fd1 := depth_size.1 a1
    have fd2 := depth_size.1 a2
    have QZ1 := Lib.hid (fun W (h : Below w.heap.size w W) => size_at a1 W (w1.below h) (by omega))
    have QZ2 := Lib.hid (fun W (h : Below w.heap.size w W) => size_at a2 W (w2.below h) (by omega))
    have QD1 := Lib.hid (fun W (h : Below w.heap.size w W) => depth_at a1 W (w1.below h) (by omega))
    have QD2 := Lib.hid (fun W (h : Below w.heap.size w W) => depth_at a2 W (w2.below h) (by omega))
    have QO1 := Lib.hid (fun W (h : Below w.heap.size w W) => ground_at a1 W (w1.below h) rfl)
    have QO2 := Lib.hid (fun W (h : Below w.heap.size w W) => ground_at a2 W (w2.below h) rfl)
    have QR1 := Lib.hid (fun W (h : Below w.heap.size w W) => right_tm_at a1 W (w1.below h) rfl)
    have QR2 := Lib.hid (fun W (h : Below w.heap.size w W) => right_tm_at a2 W (w2.below h) rfl)
    have QT := Lib.hid (fun (s : ByteArray) (X : World) (b o : Nat) (ha : (Tm.mk 2 0 s (some ⟨b, o, none⟩) 2 [a1, a2]).At X) => built_contracts s a1 a2 X b o hz1 hz2 hz3 ha)
    have hvl : (addAll [] (occL [a1, a2])).length ≤ 9223372036854775807 := by
      have h1 := addAll_length [] (occL [a1, a2])
      have h2 := occ_length.2 [a1, a2]
      simp only [List.length_nil, sizeL] at h1 h2
      omega
    have PI := Lib.hid (fun (B1 B2 : Option Addr) (c1 c2 : Nat) (W : World) (h1 : Ints W B1 (addAll [] (occL [a1, a2]))) (h2 : Ints W B2 (addAll [] (occL [a1, a2]))) => same_ints_same B1 B2 _ c1 c2 W h1 h2 hvl)
    have QW := Lib.hid (fun (W : World) (b : Nat) (hb : b = W.heap.size) (h : Below w.heap.size w W) => ref_vars_of_two a1 a2 W b hb (w1.below h) (w2.below h) (by omega))
    have HP := Lib.hid (fun s A => @right_parts s A a1 a2)
    have HF := Lib.hid (fun A => right_f A a1 a2)
    have hda : a1.depth ≤ 1000 := by omega
    have hdb : a2.depth ≤ 1000 := by omega
    clear w0 w1 w2 fd1 fd2 hvl
    obtain ⟨rt, hrt⟩ : ∃ f : ByteArray → Option Addr → Bool, (fun s A => (Tm.mk 2 0 s A 2 [a1, a2]).right) = f := ⟨_, rfl⟩
    have hrt' : ∀ s A, (Tm.mk 2 0 s A 2 [a1, a2]).right = rt s A := fun s A => congrFun (congrFun hrt s) A
    have hra : ∀ A, (Tm.mk 2 0 a0 A 2 [a1, a2]).right = (Tm.mk 2 0 a0 none 2 [a1, a2]).right := fun A => by simp only [Tm.right, Tm.form, Tm.size, Tm.depth]
    simp only [hrt'] at QT HP HF hr hra
    have HRO := Lib.hid (fun A => (hra A).trans hr)
    clear hr hra
    have hts : ∀ s A, (Tm.mk 2 0 s A 2 [a1, a2]).size = 1 + a1.size + a2.size := fun s A => built_size s A a1 a2
    have htd : ∀ s A, (Tm.mk 2 0 s A 2 [a1, a2]).depth = 1 + max a1.depth a2.depth := fun s A => built_depth s A a1 a2
    simp only [hts, htd] at HF
    have HF2 := Lib.hid (fun A => (show rt ⟨#[102]⟩ A = ((a1.right && a2.right) && (decide (1 + (a1.size : Int) + (a2.size : Int) ≤ 200) && decide (1 + max (a1.depth : Int) (a2.depth : Int) ≤ 20))) by
      rw [HF.out A, decide_eq_decide.2 (show (1 + a1.size + a2.size ≤ 200) ↔ (1 + (a1.size : Int) + (a2.size : Int) ≤ 200) by omega), decide_eq_decide.2 (show (1 + max a1.depth a2.depth ≤ 20) ↔ (1 + max (a1.depth : Int) (a2.depth : Int) ≤ 20) by omega)]))
    have hmx : (if (a1.depth : Int) < (a2.depth : Int) then (a2.depth : Int) else (a1.depth : Int)) = max (a1.depth : Int) (a2.depth : Int) := by split <;> omega
    have hw1 : IntKind.i64.wrap (1 + (a1.size : Int)) = 1 + (a1.size : Int) := IntWalk.i64_in _ (by omega)
    have hw2 : IntKind.i64.wrap (1 + (a1.size : Int) + (a2.size : Int)) = 1 + (a1.size : Int) + (a2.size : Int) := IntWalk.i64_in _ (by omega)
    have hw3 : IntKind.i64.wrap (1 + max (a1.depth : Int) (a2.depth : Int)) = 1 + max (a1.depth : Int) (a2.depth : Int) := IntWalk.i64_in _ (by omega)
    clear hrt hrt' hts htd HF hz1 hz2 hz3 hda hdb
    generalize addAll [] (occL [a1, a2]) = xs at *
    generalize decide (a1.occ = []) = ga at *
    subst hga
    generalize decide (a2.occ = []) = gb at *
    generalize a1.right = ra at *
    generalize a2.right = rb at *
    generalize (a1.size : Int) = za at *
    generalize (a2.size : Int) = zb at *
    generalize max (a1.depth : Int) (a2.depth : Int) = mx at *
    generalize (a1.depth : Int) = xa at *
    generalize (a2.depth : Int) = xb at *
    obtain ⟨k, n, s, A, c, a⟩ := a1
    obtain ⟨k', n', s', A', c', a'⟩ := a2
    show Calls Try.prog 7 #[.string a0, .agg #[.int .i64 k, .int .i64 n, .string s, .slice A a.length c], .agg #[.int .i64 k', .int .i64 n', .string s', .slice A' a'.length c']] w _
    go_enter Try.func7, Try.ntmps7
    go_wp2_with fail
    refine (live_at _).mono ?_
    rintro e w4 ⟨rfl, hb⟩
    obtain ⟨⟨d0, d1, d2, d3⟩, ⟨g0, g1, g2, g3⟩, hb4⟩ := box8 hb
    clear hb
    go_wp2_with fail
    refine (QG.out _ _ rfl hb4).mono ?_
    rintro e w5 ⟨rfl, hb⟩
    have hb5 := hb4.trans (hb.mono hb4.size)
    replace d0 := keepc hb d0; replace d1 := keepc hb d1; replace d2 := keepc hb d2; replace d3 := keepc hb d3; replace g0 := keepc hb g0; replace g1 := keepc hb g1; replace g2 := keepc hb g2; replace g3 := keepc hb g3
    clear hb QG hb4
    go_wp2_with fail
    refine (QF.out _ _ rfl hb5).mono ?_
    rintro e w6 ⟨bb, oo, rfl, hat, hb⟩
    have hb6 := hb5.trans (hb.mono hb5.size)
    replace d0 := keepc hb d0; replace d1 := keepc hb d1; replace d2 := keepc hb d2; replace d3 := keepc hb d3; replace g0 := keepc hb g0; replace g1 := keepc hb g1; replace g2 := keepc hb g2; replace g3 := keepc hb g3
    clear hb QF hb5
    obtain ⟨⟨x0, x1, x2, x3⟩, ⟨y0, y1, y2, y3⟩⟩ := built_cells hat
    simp only [Tm.kind, Tm.num, Tm.name, Tm.at_, Tm.args, Tm.cap] at x0 x1 x2 x3 y0 y1 y2 y3
    obtain ⟨⟨PZ, PD, PO, PR⟩, PV⟩ := QT.out _ _ _ _ hat
    have PVh := Lib.hid PV
    clear PV
    go_wp2_with fail
    obtain ⟨X, hX⟩ : ∃ X, (w6.alloc (.cells #[.int .i64 2, .int .i64 0, .string a0, .slice (some ⟨bb, oo, none⟩) 2 2] 24)) = X := ⟨_, rfl⟩
    have hX6 : Below w6.heap.size w6 X := by rw [← hX]; exact below1 _ _
    have m0 : X.cell? ⟨w6.heap.size, 0, none⟩ = some (.int .i64 2) := by rw [← hX, World.cell?_alloc_at _ _ _ _ rfl]; rfl
    have m1 : X.cell? ⟨w6.heap.size, 1, none⟩ = some (.int .i64 0) := by rw [← hX, World.cell?_alloc_at _ _ _ _ rfl]; rfl
    have m2 : X.cell? ⟨w6.heap.size, 2, none⟩ = some (.string a0) := by rw [← hX, World.cell?_alloc_at _ _ _ _ rfl]; rfl
    have m3 : X.cell? ⟨w6.heap.size, 3, none⟩ = some (.slice (some ⟨bb, oo, none⟩) 2 2) := by rw [← hX, World.cell?_alloc_at _ _ _ _ rfl]; rfl
    rw [hX]
    have hbX := hb6.trans (hX6.mono hb6.size)
    replace d0 := keepc hX6 d0; replace d1 := keepc hX6 d1; replace d2 := keepc hX6 d2; replace d3 := keepc hX6 d3; replace g0 := keepc hX6 g0; replace g1 := keepc hX6 g1; replace g2 := keepc hX6 g2; replace g3 := keepc hX6 g3; replace x0 := keepc hX6 x0; replace x1 := keepc hX6 x1; replace x2 := keepc hX6 x2; replace x3 := keepc hX6 x3; replace y0 := keepc hX6 y0; replace y1 := keepc hX6 y1; replace y2 := keepc hX6 y2; replace y3 := keepc hX6 y3
    clear hX
    have S1 := Lib.hid (show ∀ W, Below X.heap.size X W → Calls Try.prog 27 #[.agg #[.int .i64 k, .int .i64 n, .string s, .slice A a.length c], .agg #[.int .i64 k, .int .i64 n, .string s, .slice A a.length c]] W fun e w' => e = .returned (.bool true) ∧ Below W.heap.size W w' from fun W h => QS1.out W (hbX.trans (h.mono hbX.size)))
    have S2 := Lib.hid (show ∀ W, Below X.heap.size X W → Calls Try.prog 27 #[.agg #[.int .i64 k', .int .i64 n', .string s', .slice A' a'.length c'], .agg #[.int .i64 k', .int .i64 n', .string s', .slice A' a'.length c']] W fun e w' => e = .returned (.bool true) ∧ Below W.heap.size W w' from fun W h => QS2.out W (hbX.trans (h.mono hbX.size)))
    clear QS1 QS2
    have kd0 := cell_regrown d0; have kd1 := cell_regrown d1; have kd2 := cell_regrown d2; have kd3 := cell_regrown d3; have kg0 := cell_regrown g0; have kg1 := cell_regrown g1; have kg2 := cell_regrown g2; have kg3 := cell_regrown g3; have km0 := cell_regrown m0; have km1 := cell_regrown m1; have km2 := cell_regrown m2; have km3 := cell_regrown m3; have kx0 := cell_regrown x0; have kx1 := cell_regrown x1; have kx2 := cell_regrown x2; have kx3 := cell_regrown x3; have ky0 := cell_regrown y0; have ky1 := cell_regrown y1; have ky2 := cell_regrown y2; have ky3 := cell_regrown y3
    refine wp_region_quiet_below (by kernel_rfl) (by kernel_rfl) ?_
    repeat (go_big_quiet_step (first | (go_at_call 27; first | (with_reducible exact Calls.regrown_of (S1.out _ (below_regrown _ _ _))) | (with_reducible exact Calls.regrown_of (S2.out _ (below_regrown _ _ _))))))
    refine wpQuiet_nil ?_
    intro w7 hw'
    have hq := regrown_below hw'
    have h7 := hX6.trans (hq.mono hX6.size)
    have hb7 := hbX.trans (hq.mono hbX.size)
    clear hw' kd0 kd1 kd2 kd3 kg0 kg1 kg2 kg3 km0 km1 km2 km3 kx0 kx1 kx2 kx3 ky0 ky1 ky2 ky3
    replace d0 := keepc hq d0; replace d1 := keepc hq d1; replace d2 := keepc hq d2; replace d3 := keepc hq d3; replace g0 := keepc hq g0; replace g1 := keepc hq g1; replace g2 := keepc hq g2; replace g3 := keepc hq g3; replace m0 := keepc hq m0; replace m1 := keepc hq m1; replace m2 := keepc hq m2; replace m3 := keepc hq m3
    clear x0 x1 x2 x3 y0 y1 y2 y3 hq hX6
    clear S1 S2 hbX hb6
    go_wp2_with fail
    have Z0 := Lib.hid (show ∀ W, Below w7.heap.size w7 W → Calls Try.prog 14 #[.agg #[.int .i64 2, .int .i64 0, .string a0, .slice (some ⟨bb, oo, none⟩) 2 2]] W fun e w' => e = .returned (.int .i64 (1 + za + zb)) ∧ Below W.heap.size W w' from fun W h => PZ.out W (h7.trans (h.mono h7.size)))
    have Z1 := Lib.hid (show ∀ W, Below w7.heap.size w7 W → Calls Try.prog 14 #[.agg #[.int .i64 k, .int .i64 n, .string s, .slice A a.length c]] W fun e w' => e = .returned (.int .i64 za) ∧ Below W.heap.size W w' from fun W h => QZ1.out W (hb7.trans (h.mono hb7.size)))
    have Z2 := Lib.hid (show ∀ W, Below w7.heap.size w7 W → Calls Try.prog 14 #[.agg #[.int .i64 k', .int .i64 n', .string s', .slice A' a'.length c']] W fun e w' => e = .returned (.int .i64 zb) ∧ Below W.heap.size W w' from fun W h => QZ2.out W (hb7.trans (h.mono hb7.size)))
    have E0 := Lib.hid (show ∀ W, Below w7.heap.size w7 W → Calls Try.prog 16 #[.agg #[.int .i64 2, .int .i64 0, .string a0, .slice (some ⟨bb, oo, none⟩) 2 2]] W fun e w' => e = .returned (.int .i64 (1 + mx)) ∧ Below W.heap.size W w' from fun W h => PD.out W (h7.trans (h.mono h7.size)))
    have E1 := Lib.hid (show ∀ W, Below w7.heap.size w7 W → Calls Try.prog 16 #[.agg #[.int .i64 k, .int .i64 n, .string s, .slice A a.length c]] W fun e w' => e = .returned (.int .i64 xa) ∧ Below W.heap.size W w' from fun W h => QD1.out W (hb7.trans (h.mono hb7.size)))
    have E2 := Lib.hid (show ∀ W, Below w7.heap.size w7 W → Calls Try.prog 16 #[.agg #[.int .i64 k', .int .i64 n', .string s', .slice A' a'.length c']] W fun e w' => e = .returned (.int .i64 xb) ∧ Below W.heap.size W w' from fun W h => QD2.out W (hb7.trans (h.mono hb7.size)))
    have O0 := Lib.hid (show ∀ W, Below w7.heap.size w7 W → Calls Try.prog 21 #[.agg #[.int .i64 2, .int .i64 0, .string a0, .slice (some ⟨bb, oo, none⟩) 2 2]] W fun e w' => e = .returned (.bool (true && gb)) ∧ Below W.heap.size W w' from fun W h => PO.out W (h7.trans (h.mono h7.size)))
    have O1 := Lib.hid (show ∀ W, Below w7.heap.size w7 W → Calls Try.prog 21 #[.agg #[.int .i64 k, .int .i64 n, .string s, .slice A a.length c]] W fun e w' => e = .returned (.bool true) ∧ Below W.heap.size W w' from fun W h => QO1.out W (hb7.trans (h.mono hb7.size)))
    have O2 := Lib.hid (show ∀ W, Below w7.heap.size w7 W → Calls Try.prog 21 #[.agg #[.int .i64 k', .int .i64 n', .string s', .slice A' a'.length c']] W fun e w' => e = .returned (.bool gb) ∧ Below W.heap.size W w' from fun W h => QO2.out W (hb7.trans (h.mono hb7.size)))
    clear PZ PD PO QZ1 QZ2 QD1 QD2 QO1 QO2
    have HM : Hid (Calls Try.prog 7 #[] w fun _ _ => True) ∨ True := .inr trivial
    clear HM
    have kd0 := cell_regrown d0; have kd1 := cell_regrown d1; have kd2 := cell_regrown d2; have kd3 := cell_regrown d3; have kg0 := cell_regrown g0; have kg1 := cell_regrown g1; have kg2 := cell_regrown g2; have kg3 := cell_regrown g3; have km0 := cell_regrown m0; have km1 := cell_regrown m1; have km2 := cell_regrown m2; have km3 := cell_regrown m3
    refine wp_region_quiet_below (by kernel_rfl) (by kernel_rfl) ?_
    repeat (go_big_quiet_step (first | (go_at_call 14; first | (with_reducible exact Calls.regrown_of (Z0.out _ (below_regrown _ _ _))) | (with_reducible exact Calls.regrown_of (Z1.out _ (below_regrown _ _ _))) | (with_reducible exact Calls.regrown_of (Z2.out _ (below_regrown _ _ _)))) | (go_at_call 16; first | (with_reducible exact Calls.regrown_of (E0.out _ (below_regrown _ _ _))) | (with_reducible exact Calls.regrown_of (E1.out _ (below_regrown _ _ _))) | (with_reducible exact Calls.regrown_of (E2.out _ (below_regrown _ _ _)))) | (go_at_call 21; first | (with_reducible exact Calls.regrown_of (O0.out _ (below_regrown _ _ _))) | (with_reducible exact Calls.regrown_of (O1.out _ (below_regrown _ _ _))) | (with_reducible exact Calls.regrown_of (O2.out _ (below_regrown _ _ _))))))
    refine wpQuiet_nil ?_
    intro w8 hw'
    have hq := regrown_below hw'
    have hb8 := hb7.trans (hq.mono hb7.size)
    have h8 := h7.trans (hq.mono h7.size)
    clear hw' kd0 kd1 kd2 kd3 kg0 kg1 kg2 kg3 km0 km1 km2 km3
    replace d0 := keepc hq d0; replace d1 := keepc hq d1; replace d2 := keepc hq d2; replace d3 := keepc hq d3; replace g0 := keepc hq g0; replace g1 := keepc hq g1; replace g2 := keepc hq g2; replace g3 := keepc hq g3; replace m0 := keepc hq m0; replace m1 := keepc hq m1; replace m2 := keepc hq m2; replace m3 := keepc hq m3
    clear hq hb7
    clear Z0 Z1 Z2 E0 E1 E2 O0 O1 O2 h7
    go_wp2_with fail
    have R0 := Lib.hid (show ∀ W, Below w8.heap.size w8 W → Calls Try.prog 11 #[.agg #[.int .i64 2, .int .i64 0, .string a0, .slice (some ⟨bb, oo, none⟩) 2 2]] W fun e w' => e = .returned (.bool (rt a0 (some ⟨bb, oo, none⟩))) ∧ Below W.heap.size W w' from fun W h => PR.out W (h8.trans (h.mono h8.size)))
    have R1 := Lib.hid (show ∀ W, Below w8.heap.size w8 W → Calls Try.prog 11 #[.agg #[.int .i64 k, .int .i64 n, .string s, .slice A a.length c]] W fun e w' => e = .returned (.bool ra) ∧ Below W.heap.size W w' from fun W h => QR1.out W (hb8.trans (h.mono hb8.size)))
    have R2 := Lib.hid (show ∀ W, Below w8.heap.size w8 W → Calls Try.prog 11 #[.agg #[.int .i64 k', .int .i64 n', .string s', .slice A' a'.length c']] W fun e w' => e = .returned (.bool rb) ∧ Below W.heap.size W w' from fun W h => QR2.out W (hb8.trans (h.mono hb8.size)))
    have PV := Lib.hid (fun W (h : Below w8.heap.size w8 W) => PVh.out W (h8.trans (h.mono h8.size)))
    have HK := Lib.hid (fun W (h : Below w8.heap.size w8 W) => (⟨keepc h d0, keepc h d1, keepc h d2, keepc h d3, keepc h g0, keepc h g1, keepc h g2, keepc h g3, keepc h m0, keepc h m1, keepc h m2, keepc h m3, h⟩ : (fun W => W.cell? ⟨w.heap.size, 0, none⟩ = some (.int .i64 k) ∧ W.cell? ⟨w.heap.size, 1, none⟩ = some (.int .i64 n) ∧ W.cell? ⟨w.heap.size, 2, none⟩ = some (.string s) ∧ W.cell? ⟨w.heap.size, 3, none⟩ = some (.slice A a.length c) ∧ W.cell? ⟨w.heap.size + 1, 0, none⟩ = some (.int .i64 k') ∧ W.cell? ⟨w.heap.size + 1, 1, none⟩ = some (.int .i64 n') ∧ W.cell? ⟨w.heap.size + 1, 2, none⟩ = some (.string s') ∧ W.cell? ⟨w.heap.size + 1, 3, none⟩ = some (.slice A' a'.length c') ∧ W.cell? ⟨w6.heap.size, 0, none⟩ = some (.int .i64 2) ∧ W.cell? ⟨w6.heap.size, 1, none⟩ = some (.int .i64 0) ∧ W.cell? ⟨w6.heap.size, 2, none⟩ = some (.string a0) ∧ W.cell? ⟨w6.heap.size, 3, none⟩ = some (.slice (some ⟨bb, oo, none⟩) 2 2) ∧ Below w8.heap.size w8 W) W))
    have HG := Lib.hid (fun W (h : Below w8.heap.size w8 W) => hb8.trans (h.mono hb8.size))
    simp only [HRO.out] at R0
    clear PVh PR h8 HRO d0 d1 d2 d3 g0 g1 g2 g3 m0 m1 m2 m3
    clear R1 R2 HP
    refine wp_region_held_drew (S := (fun W => W.cell? ⟨w.heap.size, 0, none⟩ = some (.int .i64 k) ∧ W.cell? ⟨w.heap.size, 1, none⟩ = some (.int .i64 n) ∧ W.cell? ⟨w.heap.size, 2, none⟩ = some (.string s) ∧ W.cell? ⟨w.heap.size, 3, none⟩ = some (.slice A a.length c) ∧ W.cell? ⟨w.heap.size + 1, 0, none⟩ = some (.int .i64 k') ∧ W.cell? ⟨w.heap.size + 1, 1, none⟩ = some (.int .i64 n') ∧ W.cell? ⟨w.heap.size + 1, 2, none⟩ = some (.string s') ∧ W.cell? ⟨w.heap.size + 1, 3, none⟩ = some (.slice A' a'.length c') ∧ W.cell? ⟨w6.heap.size, 0, none⟩ = some (.int .i64 2) ∧ W.cell? ⟨w6.heap.size, 1, none⟩ = some (.int .i64 0) ∧ W.cell? ⟨w6.heap.size, 2, none⟩ = some (.string a0) ∧ W.cell? ⟨w6.heap.size, 3, none⟩ = some (.slice (some ⟨bb, oo, none⟩) 2 2) ∧ Below w8.heap.size w8 W)) (by kernel_rfl) (HK.out _ ((Below.refl _ _).drew)) (fun hHeld => ?_)
    refine wpAnyH_take (i := 0) (v := ?_) rfl (by kernel_rfl) (by kernel_rfl) (by kernel_rfl) (fun _ _ _ h => h) (Or.inl ⟨by rfl, fun w hSw => by (try dsimp only at hSw); go_simp; (try with_reducible rfl)⟩) (by assumption) ?_
    (try simp only [Act.put, List.getElem_toArray, List.getElem_cons_zero, List.getElem_cons_succ, List.setIfInBounds_toArray, List.set_cons_zero, List.set_cons_succ])
    refine wpAnyH_take (i := 2) (v := ?_) rfl (by kernel_rfl) (by kernel_rfl) (by kernel_rfl) (fun _ _ _ h => h) (Or.inl ⟨by rfl, fun w hSw => by (try dsimp only at hSw); go_simp; (try with_reducible rfl)⟩) (by assumption) ?_
    (try simp only [Act.put, List.getElem_toArray, List.getElem_cons_zero, List.getElem_cons_succ, List.setIfInBounds_toArray, List.set_cons_zero, List.set_cons_succ])
    refine wpAnyH_take (i := 3) (v := ?_) rfl (by kernel_rfl) (by kernel_rfl) (by kernel_rfl) (fun _ _ _ h => h) (Or.inl ⟨by rfl, fun w hSw => by (try dsimp only at hSw); go_simp; (try with_reducible rfl)⟩) (by assumption) ?_
    (try simp only [Act.put, List.getElem_toArray, List.getElem_cons_zero, List.getElem_cons_succ, List.setIfInBounds_toArray, List.set_cons_zero, List.set_cons_succ])
    refine wpAnyH_ready (rs := [1, 4]) (by kernel_rfl) (by simp) ?_
    refine AllReadyH.cons rfl (fun K hK => ?_) ?_
    · go_simp
      have hH := hHeld.2.2.2.2.2.2.2.2.2.2.2.2
      refine (PV.out _ hH).mono ?_
      rintro e w2 ⟨v, rfl, ho, hb1⟩
      obtain ⟨B1, c1, rfl, hiP, _⟩ := ho.form
      have hI := hH.trans (hb1.mono hH.size)
      have hV := hI
      have hbV := hb1
      clear hb1 hH ho
      go_wp2_with fail
      refine hK.out _ _ (HK.out _ (by first | exact hI | exact hHeld.2.2.2.2.2.2.2.2.2.2.2.2.alloc hHeld.2.2.2.2.2.2.2.2.2.2.2.2.size _)) (fun hHeld => ?_)
      clear hK K
      (try simp only [Act.put, List.getElem_toArray, List.getElem_cons_zero, List.getElem_cons_succ, List.setIfInBounds_toArray, List.set_cons_zero, List.set_cons_succ])
      refine wpAnyH_ready (rs := [4]) (by kernel_rfl) (by simp) ?_
      refine AllReadyH.cons rfl (fun K hK => ?_) AllReadyH.nil
      go_simp
      refine hK.out _ _ (HK.out _ (by first | exact hI | exact hHeld.2.2.2.2.2.2.2.2.2.2.2.2.alloc hHeld.2.2.2.2.2.2.2.2.2.2.2.2.size _)) (fun hHeld => ?_)
      clear hK K
      (try simp only [Act.put, List.getElem_toArray, List.getElem_cons_zero, List.getElem_cons_succ, List.setIfInBounds_toArray, List.set_cons_zero, List.set_cons_succ])
      refine wpAnyH_ready (rs := [5]) (by kernel_rfl) (by simp) ?_
      refine AllReadyH.cons rfl (fun K hK => ?_) AllReadyH.nil
      go_simp
      have hH := hHeld.2.2.2.2.2.2.2.2.2.2.2.2
      first | (refine (QW.out _ _ (by simp) (HG.out _ hV) _ (Below.refl _ _)).mono ?_) | (refine (QW.out _ _ (by simp) (HG.out _ ((Below.refl _ _).drew)) _ hbV).mono ?_)
      rintro e w3 ⟨v, rfl, ho, hb1⟩
      obtain ⟨B2, c2, rfl, hiR, _⟩ := ho.form
      have hI := hH.trans (hb1.mono hH.size)
      first | replace hiP := hiP.below hb1 | replace hiP := (hiP.below (below1 _ _)).below hb1
      clear hb1 hH ho hV hbV
      go_wp2_with fail
      refine hK.out _ _ (HK.out _ (by first | exact hI | exact hHeld.2.2.2.2.2.2.2.2.2.2.2.2.alloc hHeld.2.2.2.2.2.2.2.2.2.2.2.2.size _)) (fun hHeld => ?_)
      clear hK K
      (try simp only [Act.put, List.getElem_toArray, List.getElem_cons_zero, List.getElem_cons_succ, List.setIfInBounds_toArray, List.set_cons_zero, List.set_cons_succ])
      refine wpAnyH_ready (rs := [6]) (by kernel_rfl) (by simp) ?_
      refine AllReadyH.cons rfl (fun K hK => ?_) AllReadyH.nil
      go_simp
      have hH := hHeld.2.2.2.2.2.2.2.2.2.2.2.2
      refine (PI.out _ _ _ _ _ hiP hiR).mono ?_
      rintro e w2 ⟨rfl, hb1⟩
      have hI := hH.trans (hb1.mono hH.size)
      clear hb1 hH hiP hiR
      go_wp2_with fail
      refine hK.out _ _ (HK.out _ (by first | exact hI | exact hHeld.2.2.2.2.2.2.2.2.2.2.2.2.alloc hHeld.2.2.2.2.2.2.2.2.2.2.2.2.size _)) (fun hHeld => ?_)
      clear hK K
      (try simp only [Act.put, List.getElem_toArray, List.getElem_cons_zero, List.getElem_cons_succ, List.setIfInBounds_toArray, List.set_cons_zero, List.set_cons_succ])
      refine wpAnyH_take (i := 7) (v := ?_) rfl (by kernel_rfl) (by kernel_rfl) (by kernel_rfl) (fun _ _ _ h => h) (Or.inl ⟨by rfl, fun w hSw => by (try dsimp only at hSw); go_simp; (try with_reducible rfl)⟩) (by assumption) ?_
      (try simp only [Act.put, List.getElem_toArray, List.getElem_cons_zero, List.getElem_cons_succ, List.setIfInBounds_toArray, List.set_cons_zero, List.set_cons_succ])
      refine wpAnyH_take (i := 8) (v := ?_) rfl (by kernel_rfl) (by kernel_rfl) (by kernel_rfl) (fun _ _ _ h => h) (Or.inl ⟨by rfl, fun w hSw => by (try dsimp only at hSw); go_simp; (try with_reducible rfl)⟩) (by assumption) ?_
      (try simp only [Act.put, List.getElem_toArray, List.getElem_cons_zero, List.getElem_cons_succ, List.setIfInBounds_toArray, List.set_cons_zero, List.set_cons_succ])
      refine wpAnyH_take (i := 9) (v := ?_) rfl (by kernel_rfl) (by kernel_rfl) (by kernel_rfl) (fun _ _ _ h => h) (Or.inl ⟨by rfl, fun w hSw => by (try dsimp only at hSw); go_simp; (try with_reducible rfl)⟩) (by assumption) ?_
      (try simp only [Act.put, List.getElem_toArray, List.getElem_cons_zero, List.getElem_cons_succ, List.setIfInBounds_toArray, List.set_cons_zero, List.set_cons_succ])
      refine wpAnyH_ready (rs := [10]) (by kernel_rfl) (by simp) ?_
      refine AllReadyH.cons rfl (fun K hK => ?_) AllReadyH.nil
      go_simp
      have hH := hHeld.2.2.2.2.2.2.2.2.2.2.2.2
      first | (with_reducible refine (R0.out _ hH).mono ?_)
      rintro e w2 ⟨rfl, hb1⟩
      have hI := hH.trans (hb1.mono hH.size)
      clear hb1 hH
      go_wp2_with fail
      refine hK.out _ _ (HK.out _ (by first | exact hI | exact hHeld.2.2.2.2.2.2.2.2.2.2.2.2.alloc hHeld.2.2.2.2.2.2.2.2.2.2.2.2.size _)) (fun hHeld => ?_)
      clear hK K
      (try simp only [Act.put, List.getElem_toArray, List.getElem_cons_zero, List.getElem_cons_succ, List.setIfInBounds_toArray, List.set_cons_zero, List.set_cons_succ])
      refine wpAnyH_take (i := 11) (v := ?_) rfl (by kernel_rfl) (by kernel_rfl) (by kernel_rfl) (fun _ _ _ h => h) (Or.inl ⟨by rfl, fun w hSw => by (try dsimp only at hSw); go_simp; (try with_reducible rfl)⟩) (by assumption) ?_
      (try simp only [Act.put, List.getElem_toArray, List.getElem_cons_zero, List.getElem_cons_succ, List.setIfInBounds_toArray, List.set_cons_zero, List.set_cons_succ])
      refine wpAnyH_take (i := 12) (v := undef) rfl (by kernel_rfl) (by kernel_rfl) (by kernel_rfl) (fun _ _ _ h => h) (Or.inr ⟨by kernel_rfl, rfl⟩) (by assumption) ?_
      (try simp only [Act.put, List.getElem_toArray, List.getElem_cons_zero, List.getElem_cons_succ, List.setIfInBounds_toArray, List.set_cons_zero, List.set_cons_succ])
      refine wpAnyH_take (i := 13) (v := undef) rfl (by kernel_rfl) (by kernel_rfl) (by kernel_rfl) (fun _ _ _ h => h) (Or.inr ⟨by kernel_rfl, rfl⟩) (by assumption) ?_
      (try simp only [Act.put, List.getElem_toArray, List.getElem_cons_zero, List.getElem_cons_succ, List.setIfInBounds_toArray, List.set_cons_zero, List.set_cons_succ])
      refine wpAnyH_take (i := 14) (v := undef) rfl (by kernel_rfl) (by kernel_rfl) (by kernel_rfl) (fun _ _ _ h => h) (Or.inr ⟨by kernel_rfl, rfl⟩) (by assumption) ?_
      (try simp only [Act.put, List.getElem_toArray, List.getElem_cons_zero, List.getElem_cons_succ, List.setIfInBounds_toArray, List.set_cons_zero, List.set_cons_succ])
      refine wpAnyH_take (i := 15) (v := undef) rfl (by kernel_rfl) (by kernel_rfl) (by kernel_rfl) (fun _ _ _ h => h) (Or.inr ⟨by kernel_rfl, rfl⟩) (by assumption) ?_
      (try simp only [Act.put, List.getElem_toArray, List.getElem_cons_zero, List.getElem_cons_succ, List.setIfInBounds_toArray, List.set_cons_zero, List.set_cons_succ])
      refine wpAnyH_take (i := 16) (v := undef) rfl (by kernel_rfl) (by kernel_rfl) (by kernel_rfl) (fun _ _ _ h => h) (Or.inr ⟨by kernel_rfl, rfl⟩) (by assumption) ?_
      (try simp only [Act.put, List.getElem_toArray, List.getElem_cons_zero, List.getElem_cons_succ, List.setIfInBounds_toArray, List.set_cons_zero, List.set_cons_succ])
      refine wpAnyH_take (i := 17) (v := undef) rfl (by kernel_rfl) (by kernel_rfl) (by kernel_rfl) (fun _ _ _ h => h) (Or.inr ⟨by kernel_rfl, rfl⟩) (by assumption) ?_
      (try simp only [Act.put, List.getElem_toArray, List.getElem_cons_zero, List.getElem_cons_succ, List.setIfInBounds_toArray, List.set_cons_zero, List.set_cons_succ])
      refine wpAnyH_take (i := 18) (v := undef) rfl (by kernel_rfl) (by kernel_rfl) (by kernel_rfl) (fun _ _ _ h => h) (Or.inr ⟨by kernel_rfl, rfl⟩) (by assumption) ?_
      (try simp only [Act.put, List.getElem_toArray, List.getElem_cons_zero, List.getElem_cons_succ, List.setIfInBounds_toArray, List.set_cons_zero, List.set_cons_succ])
      refine wpAnyH_take (i := 19) (v := undef) rfl (by kernel_rfl) (by kernel_rfl) (by kernel_rfl) (fun _ _ _ h => h) (Or.inr ⟨by kernel_rfl, rfl⟩) (by assumption) ?_
      (try simp only [Act.put, List.getElem_toArray, List.getElem_cons_zero, List.getElem_cons_succ, List.setIfInBounds_toArray, List.set_cons_zero, List.set_cons_succ])
      refine wpAnyH_take (i := 20) (v := .bool false) rfl (by kernel_rfl) (by kernel_rfl) (by kernel_rfl) (fun _ _ _ h => h) (Or.inl ⟨by kernel_rfl, fun w _ => by kernel_rfl⟩) (by assumption) ?_
      (try simp only [Act.put, List.getElem_toArray, List.getElem_cons_zero, List.getElem_cons_succ, List.setIfInBounds_toArray, List.set_cons_zero, List.set_cons_succ])
      refine wpAnyH_take (i := 21) (v := .bool false) rfl (by kernel_rfl) (by kernel_rfl) (by kernel_rfl) (fun _ _ _ h => h) (Or.inl ⟨by kernel_rfl, fun w _ => by kernel_rfl⟩) (by assumption) ?_
      (try simp only [Act.put, List.getElem_toArray, List.getElem_cons_zero, List.getElem_cons_succ, List.setIfInBounds_toArray, List.set_cons_zero, List.set_cons_succ])
      refine wpAnyH_done (by kernel_rfl) ?_ _
      have hS := (‹_ ∧ _ ∧ _ ∧ _ ∧ _ ∧ _ ∧ _ ∧ _ ∧ _ ∧ _ ∧ _ ∧ _ ∧ Below _ _ _›)
      obtain ⟨d0, d1, d2, d3, g0, g1, g2, g3, _, _, _, _, hbW⟩ := hS
      have hbv := HG.out _ hbW
      go_wp2_with fail
      refine (QF2.out _ _ rfl hbv).mono ?_
      rintro e wf ⟨b2, o2, rfl, hat2, hb⟩
      have hbf := hbv.trans (hb.mono hbv.size)
      replace d0 := keepc hb d0; replace d1 := keepc hb d1; replace d2 := keepc hb d2; replace d3 := keepc hb d3; replace g0 := keepc hb g0; replace g1 := keepc hb g1; replace g2 := keepc hb g2; replace g3 := keepc hb g3
      clear hb hbv hbW HK
      obtain ⟨⟨FZ, FD, _, FR⟩, _⟩ := QT.out _ _ _ _ hat2
      obtain ⟨bs, hbs⟩ : ∃ b, decide (1 + za + zb ≤ 200) = b := ⟨_, rfl⟩
      simp only [HF2.out, hbs] at FR
      go_wp2_with fail
      obtain ⟨Y, hY⟩ : ∃ Y, (wf.alloc (.cells #[.int .i64 2, .int .i64 0, .string ⟨#[102]⟩, .slice (some ⟨b2, o2, none⟩) 2 2] 24)) = Y := ⟨_, rfl⟩
      have hYf : Below wf.heap.size wf Y := by rw [← hY]; exact below1 _ _
      have n0 : Y.cell? ⟨wf.heap.size, 0, none⟩ = some (.int .i64 2) := by rw [← hY, World.cell?_alloc_at _ _ _ _ rfl]; rfl
      have n1 : Y.cell? ⟨wf.heap.size, 1, none⟩ = some (.int .i64 0) := by rw [← hY, World.cell?_alloc_at _ _ _ _ rfl]; rfl
      have n2 : Y.cell? ⟨wf.heap.size, 2, none⟩ = some (.string ⟨#[102]⟩) := by rw [← hY, World.cell?_alloc_at _ _ _ _ rfl]; rfl
      have n3 : Y.cell? ⟨wf.heap.size, 3, none⟩ = some (.slice (some ⟨b2, o2, none⟩) 2 2) := by rw [← hY, World.cell?_alloc_at _ _ _ _ rfl]; rfl
      rw [hY]
      have hbY := hbf.trans (hYf.mono hbf.size)
      replace d0 := keepc hYf d0; replace d1 := keepc hYf d1; replace d2 := keepc hYf d2; replace d3 := keepc hYf d3; replace g0 := keepc hYf g0; replace g1 := keepc hYf g1; replace g2 := keepc hYf g2; replace g3 := keepc hYf g3
      clear hY hbf
      have F1 := Lib.hid (show ∀ W, Below Y.heap.size Y W → Calls Try.prog 11 #[.agg #[.int .i64 2, .int .i64 0, .string ⟨#[102]⟩, .slice (some ⟨b2, o2, none⟩) 2 2]] W fun e w' => e = .returned (.bool ((ra && rb) && (bs && decide (1 + mx ≤ 20)))) ∧ Below W.heap.size W w' from fun W h => FR.out W (hYf.trans (h.mono hYf.size)))
      have F2 := Lib.hid (show ∀ W, Below Y.heap.size Y W → Calls Try.prog 14 #[.agg #[.int .i64 2, .int .i64 0, .string ⟨#[102]⟩, .slice (some ⟨b2, o2, none⟩) 2 2]] W fun e w' => e = .returned (.int .i64 (1 + za + zb)) ∧ Below W.heap.size W w' from fun W h => FZ.out W (hYf.trans (h.mono hYf.size)))
      have F3 := Lib.hid (show ∀ W, Below Y.heap.size Y W → Calls Try.prog 16 #[.agg #[.int .i64 2, .int .i64 0, .string ⟨#[102]⟩, .slice (some ⟨b2, o2, none⟩) 2 2]] W fun e w' => e = .returned (.int .i64 (1 + mx)) ∧ Below W.heap.size W w' from fun W h => FD.out W (hYf.trans (h.mono hYf.size)))
      have F4 := Lib.hid (show ∀ W, Below Y.heap.size Y W → Calls Try.prog 11 #[.agg #[.int .i64 k, .int .i64 n, .string s, .slice A a.length c]] W fun e w' => e = .returned (.bool ra) ∧ Below W.heap.size W w' from fun W h => QR1.out W (hbY.trans (h.mono hbY.size)))
      have F5 := Lib.hid (show ∀ W, Below Y.heap.size Y W → Calls Try.prog 11 #[.agg #[.int .i64 k', .int .i64 n', .string s', .slice A' a'.length c']] W fun e w' => e = .returned (.bool rb) ∧ Below W.heap.size W w' from fun W h => QR2.out W (hbY.trans (h.mono hbY.size)))
      have kd0 := cell_regrown d0; have kd1 := cell_regrown d1; have kd2 := cell_regrown d2; have kd3 := cell_regrown d3; have kg0 := cell_regrown g0; have kg1 := cell_regrown g1; have kg2 := cell_regrown g2; have kg3 := cell_regrown g3; have kn0 := cell_regrown n0; have kn1 := cell_regrown n1; have kn2 := cell_regrown n2; have kn3 := cell_regrown n3
      clear FR FZ FD QR1 QR2 hat2 QT QF2 HF2 HG hYf d0 d1 d2 d3 g0 g1 g2 g3 n0 n1 n2 n3
      cases ra
      · refine wp_region_quiet_below (by kernel_rfl) (by kernel_rfl) ?_
        repeat (go_big_quiet_step (first | (go_at_call 11; first | (with_reducible exact Calls.regrown_of (F1.out _ (below_regrown _ _ _))) | (with_reducible exact Calls.regrown_of (F4.out _ (below_regrown _ _ _))) | (with_reducible exact Calls.regrown_of (F5.out _ (below_regrown _ _ _)))) | (go_at_call 14; first | (with_reducible exact Calls.regrown_of (F2.out _ (below_regrown _ _ _)))) | (go_at_call 16; first | (with_reducible exact Calls.regrown_of (F3.out _ (below_regrown _ _ _))))))
        refine wpQuiet_nil ?_
        intro w9 hw'
        have hq := regrown_below hw'
        clear hw'
        go_wp2_with fail
        go_ret
        exact ⟨by simp, hbY.trans (hq.mono hbY.size)⟩
      · cases rb
        · refine wp_region_quiet_below (by kernel_rfl) (by kernel_rfl) ?_
          repeat (go_big_quiet_step (first | (go_at_call 11; first | (with_reducible exact Calls.regrown_of (F1.out _ (below_regrown _ _ _))) | (with_reducible exact Calls.regrown_of (F4.out _ (below_regrown _ _ _))) | (with_reducible exact Calls.regrown_of (F5.out _ (below_regrown _ _ _)))) | (go_at_call 14; first | (with_reducible exact Calls.regrown_of (F2.out _ (below_regrown _ _ _)))) | (go_at_call 16; first | (with_reducible exact Calls.regrown_of (F3.out _ (below_regrown _ _ _))))))
          refine wpQuiet_nil ?_
          intro w9 hw'
          have hq := regrown_below hw'
          clear hw'
          go_wp2_with fail
          go_ret
          exact ⟨by simp, hbY.trans (hq.mono hbY.size)⟩
        · cases bs
          · refine wp_region_quiet_below (by kernel_rfl) (by kernel_rfl) ?_
            repeat (go_big_quiet_step (first | (go_at_call 11; first | (with_reducible exact Calls.regrown_of (F1.out _ (below_regrown _ _ _))) | (with_reducible exact Calls.regrown_of (F4.out _ (below_regrown _ _ _))) | (with_reducible exact Calls.regrown_of (F5.out _ (below_regrown _ _ _)))) | (go_at_call 14; first | (with_reducible exact Calls.regrown_of (F2.out _ (below_regrown _ _ _)))) | (go_at_call 16; first | (with_reducible exact Calls.regrown_of (F3.out _ (below_regrown _ _ _))))))
            refine wpQuiet_nil ?_
            intro w9 hw'
            have hq := regrown_below hw'
            clear hw'
            go_wp2_with fail
            go_ret
            exact ⟨by simp, hbY.trans (hq.mono hbY.size)⟩
          · refine wp_region_quiet_below (by kernel_rfl) (by kernel_rfl) ?_
            repeat (go_big_quiet_step (first | (go_at_call 11; first | (with_reducible exact Calls.regrown_of (F1.out _ (below_regrown _ _ _))) | (with_reducible exact Calls.regrown_of (F4.out _ (below_regrown _ _ _))) | (with_reducible exact Calls.regrown_of (F5.out _ (below_regrown _ _ _)))) | (go_at_call 14; first | (with_reducible exact Calls.regrown_of (F2.out _ (below_regrown _ _ _)))) | (go_at_call 16; first | (with_reducible exact Calls.regrown_of (F3.out _ (below_regrown _ _ _))))))
            refine wpQuiet_nil ?_
            intro w9 hw'
            have hq := regrown_below hw'
            clear hw'
            go_wp2_with fail
            go_ret
            exact ⟨by simp, hbY.trans (hq.mono hbY.size)⟩
    · refine AllReadyH.cons rfl (fun K hK => ?_) AllReadyH.nil
      go_simp
      refine hK.out _ _ (HK.out _ (by first | exact hI | exact hHeld.2.2.2.2.2.2.2.2.2.2.2.2.alloc hHeld.2.2.2.2.2.2.2.2.2.2.2.2.size _)) (fun hHeld => ?_)
      clear hK K
      (try simp only [Act.put, List.getElem_toArray, List.getElem_cons_zero, List.getElem_cons_succ, List.setIfInBounds_toArray, List.set_cons_zero, List.set_cons_succ])
      refine wpAnyH_ready (rs := [1]) (by kernel_rfl) (by simp) ?_
      refine AllReadyH.cons rfl (fun K hK => ?_) AllReadyH.nil
      go_simp
      have hH := hHeld.2.2.2.2.2.2.2.2.2.2.2.2
      refine (PV.out _ hH).mono ?_
      rintro e w2 ⟨v, rfl, ho, hb1⟩
      obtain ⟨B1, c1, rfl, hiP, _⟩ := ho.form
      have hI := hH.trans (hb1.mono hH.size)
      have hV := hI
      have hbV := hb1
      clear hb1 hH ho
      go_wp2_with fail
      refine hK.out _ _ (HK.out _ (by first | exact hI | exact hHeld.2.2.2.2.2.2.2.2.2.2.2.2.alloc hHeld.2.2.2.2.2.2.2.2.2.2.2.2.size _)) (fun hHeld => ?_)
      clear hK K
      (try simp only [Act.put, List.getElem_toArray, List.getElem_cons_zero, List.getElem_cons_succ, List.setIfInBounds_toArray, List.set_cons_zero, List.set_cons_succ])
      refine wpAnyH_ready (rs := [5]) (by kernel_rfl) (by simp) ?_
      refine AllReadyH.cons rfl (fun K hK => ?_) AllReadyH.nil
      go_simp
      have hH := hHeld.2.2.2.2.2.2.2.2.2.2.2.2
      first | (refine (QW.out _ _ (by simp) (HG.out _ hV) _ (Below.refl _ _)).mono ?_) | (refine (QW.out _ _ (by simp) (HG.out _ ((Below.refl _ _).drew)) _ hbV).mono ?_)
      rintro e w3 ⟨v, rfl, ho, hb1⟩
      obtain ⟨B2, c2, rfl, hiR, _⟩ := ho.form
      have hI := hH.trans (hb1.mono hH.size)
      first | replace hiP := hiP.below hb1 | replace hiP := (hiP.below (below1 _ _)).below hb1
      clear hb1 hH ho hV hbV
      go_wp2_with fail
      refine hK.out _ _ (HK.out _ (by first | exact hI | exact hHeld.2.2.2.2.2.2.2.2.2.2.2.2.alloc hHeld.2.2.2.2.2.2.2.2.2.2.2.2.size _)) (fun hHeld => ?_)
      clear hK K
      (try simp only [Act.put, List.getElem_toArray, List.getElem_cons_zero, List.getElem_cons_succ, List.setIfInBounds_toArray, List.set_cons_zero, List.set_cons_succ])
      refine wpAnyH_ready (rs := [6]) (by kernel_rfl) (by simp) ?_
      refine AllReadyH.cons rfl (fun K hK => ?_) AllReadyH.nil
      go_simp
      have hH := hHeld.2.2.2.2.2.2.2.2.2.2.2.2
      refine (PI.out _ _ _ _ _ hiP hiR).mono ?_
      rintro e w2 ⟨rfl, hb1⟩
      have hI := hH.trans (hb1.mono hH.size)
      clear hb1 hH hiP hiR
      go_wp2_with fail
      refine hK.out _ _ (HK.out _ (by first | exact hI | exact hHeld.2.2.2.2.2.2.2.2.2.2.2.2.alloc hHeld.2.2.2.2.2.2.2.2.2.2.2.2.size _)) (fun hHeld => ?_)
      clear hK K
      (try simp only [Act.put, List.getElem_toArray, List.getElem_cons_zero, List.getElem_cons_succ, List.setIfInBounds_toArray, List.set_cons_zero, List.set_cons_succ])
      refine wpAnyH_take (i := 7) (v := ?_) rfl (by kernel_rfl) (by kernel_rfl) (by kernel_rfl) (fun _ _ _ h => h) (Or.inl ⟨by rfl, fun w hSw => by (try dsimp only at hSw); go_simp; (try with_reducible rfl)⟩) (by assumption) ?_
      (try simp only [Act.put, List.getElem_toArray, List.getElem_cons_zero, List.getElem_cons_succ, List.setIfInBounds_toArray, List.set_cons_zero, List.set_cons_succ])
      refine wpAnyH_take (i := 8) (v := ?_) rfl (by kernel_rfl) (by kernel_rfl) (by kernel_rfl) (fun _ _ _ h => h) (Or.inl ⟨by rfl, fun w hSw => by (try dsimp only at hSw); go_simp; (try with_reducible rfl)⟩) (by assumption) ?_
      (try simp only [Act.put, List.getElem_toArray, List.getElem_cons_zero, List.getElem_cons_succ, List.setIfInBounds_toArray, List.set_cons_zero, List.set_cons_succ])
      refine wpAnyH_take (i := 9) (v := ?_) rfl (by kernel_rfl) (by kernel_rfl) (by kernel_rfl) (fun _ _ _ h => h) (Or.inl ⟨by rfl, fun w hSw => by (try dsimp only at hSw); go_simp; (try with_reducible rfl)⟩) (by assumption) ?_
      (try simp only [Act.put, List.getElem_toArray, List.getElem_cons_zero, List.getElem_cons_succ, List.setIfInBounds_toArray, List.set_cons_zero, List.set_cons_succ])
      refine wpAnyH_ready (rs := [10]) (by kernel_rfl) (by simp) ?_
      refine AllReadyH.cons rfl (fun K hK => ?_) AllReadyH.nil
      go_simp
      have hH := hHeld.2.2.2.2.2.2.2.2.2.2.2.2
      first | (with_reducible refine (R0.out _ hH).mono ?_)
      rintro e w2 ⟨rfl, hb1⟩
      have hI := hH.trans (hb1.mono hH.size)
      clear hb1 hH
      go_wp2_with fail
      refine hK.out _ _ (HK.out _ (by first | exact hI | exact hHeld.2.2.2.2.2.2.2.2.2.2.2.2.alloc hHeld.2.2.2.2.2.2.2.2.2.2.2.2.size _)) (fun hHeld => ?_)
      clear hK K
      (try simp only [Act.put, List.getElem_toArray, List.getElem_cons_zero, List.getElem_cons_succ, List.setIfInBounds_toArray, List.set_cons_zero, List.set_cons_succ])
      refine wpAnyH_take (i := 11) (v := ?_) rfl (by kernel_rfl) (by kernel_rfl) (by kernel_rfl) (fun _ _ _ h => h) (Or.inl ⟨by rfl, fun w hSw => by (try dsimp only at hSw); go_simp; (try with_reducible rfl)⟩) (by assumption) ?_
      (try simp only [Act.put, List.getElem_toArray, List.getElem_cons_zero, List.getElem_cons_succ, List.setIfInBounds_toArray, List.set_cons_zero, List.set_cons_succ])
      refine wpAnyH_take (i := 12) (v := undef) rfl (by kernel_rfl) (by kernel_rfl) (by kernel_rfl) (fun _ _ _ h => h) (Or.inr ⟨by kernel_rfl, rfl⟩) (by assumption) ?_
      (try simp only [Act.put, List.getElem_toArray, List.getElem_cons_zero, List.getElem_cons_succ, List.setIfInBounds_toArray, List.set_cons_zero, List.set_cons_succ])
      refine wpAnyH_take (i := 13) (v := undef) rfl (by kernel_rfl) (by kernel_rfl) (by kernel_rfl) (fun _ _ _ h => h) (Or.inr ⟨by kernel_rfl, rfl⟩) (by assumption) ?_
      (try simp only [Act.put, List.getElem_toArray, List.getElem_cons_zero, List.getElem_cons_succ, List.setIfInBounds_toArray, List.set_cons_zero, List.set_cons_succ])
      refine wpAnyH_take (i := 14) (v := undef) rfl (by kernel_rfl) (by kernel_rfl) (by kernel_rfl) (fun _ _ _ h => h) (Or.inr ⟨by kernel_rfl, rfl⟩) (by assumption) ?_
      (try simp only [Act.put, List.getElem_toArray, List.getElem_cons_zero, List.getElem_cons_succ, List.setIfInBounds_toArray, List.set_cons_zero, List.set_cons_succ])
      refine wpAnyH_take (i := 15) (v := undef) rfl (by kernel_rfl) (by kernel_rfl) (by kernel_rfl) (fun _ _ _ h => h) (Or.inr ⟨by kernel_rfl, rfl⟩) (by assumption) ?_
      (try simp only [Act.put, List.getElem_toArray, List.getElem_cons_zero, List.getElem_cons_succ, List.setIfInBounds_toArray, List.set_cons_zero, List.set_cons_succ])
      refine wpAnyH_take (i := 16) (v := undef) rfl (by kernel_rfl) (by kernel_rfl) (by kernel_rfl) (fun _ _ _ h => h) (Or.inr ⟨by kernel_rfl, rfl⟩) (by assumption) ?_
      (try simp only [Act.put, List.getElem_toArray, List.getElem_cons_zero, List.getElem_cons_succ, List.setIfInBounds_toArray, List.set_cons_zero, List.set_cons_succ])
      refine wpAnyH_take (i := 17) (v := undef) rfl (by kernel_rfl) (by kernel_rfl) (by kernel_rfl) (fun _ _ _ h => h) (Or.inr ⟨by kernel_rfl, rfl⟩) (by assumption) ?_
      (try simp only [Act.put, List.getElem_toArray, List.getElem_cons_zero, List.getElem_cons_succ, List.setIfInBounds_toArray, List.set_cons_zero, List.set_cons_succ])
      refine wpAnyH_take (i := 18) (v := undef) rfl (by kernel_rfl) (by kernel_rfl) (by kernel_rfl) (fun _ _ _ h => h) (Or.inr ⟨by kernel_rfl, rfl⟩) (by assumption) ?_
      (try simp only [Act.put, List.getElem_toArray, List.getElem_cons_zero, List.getElem_cons_succ, List.setIfInBounds_toArray, List.set_cons_zero, List.set_cons_succ])
      refine wpAnyH_take (i := 19) (v := undef) rfl (by kernel_rfl) (by kernel_rfl) (by kernel_rfl) (fun _ _ _ h => h) (Or.inr ⟨by kernel_rfl, rfl⟩) (by assumption) ?_
      (try simp only [Act.put, List.getElem_toArray, List.getElem_cons_zero, List.getElem_cons_succ, List.setIfInBounds_toArray, List.set_cons_zero, List.set_cons_succ])
      refine wpAnyH_take (i := 20) (v := .bool false) rfl (by kernel_rfl) (by kernel_rfl) (by kernel_rfl) (fun _ _ _ h => h) (Or.inl ⟨by kernel_rfl, fun w _ => by kernel_rfl⟩) (by assumption) ?_
      (try simp only [Act.put, List.getElem_toArray, List.getElem_cons_zero, List.getElem_cons_succ, List.setIfInBounds_toArray, List.set_cons_zero, List.set_cons_succ])
      refine wpAnyH_take (i := 21) (v := .bool false) rfl (by kernel_rfl) (by kernel_rfl) (by kernel_rfl) (fun _ _ _ h => h) (Or.inl ⟨by kernel_rfl, fun w _ => by kernel_rfl⟩) (by assumption) ?_
      (try simp only [Act.put, List.getElem_toArray, List.getElem_cons_zero, List.getElem_cons_succ, List.setIfInBounds_toArray, List.set_cons_zero, List.set_cons_succ])
      refine wpAnyH_done (by kernel_rfl) ?_ _
      have hS := (‹_ ∧ _ ∧ _ ∧ _ ∧ _ ∧ _ ∧ _ ∧ _ ∧ _ ∧ _ ∧ _ ∧ _ ∧ Below _ _ _›)
      obtain ⟨d0, d1, d2, d3, g0, g1, g2, g3, _, _, _, _, hbW⟩ := hS
      have hbv := HG.out _ hbW
      go_wp2_with fail
      refine (QF2.out _ _ rfl hbv).mono ?_
      rintro e wf ⟨b2, o2, rfl, hat2, hb⟩
      have hbf := hbv.trans (hb.mono hbv.size)
      replace d0 := keepc hb d0; replace d1 := keepc hb d1; replace d2 := keepc hb d2; replace d3 := keepc hb d3; replace g0 := keepc hb g0; replace g1 := keepc hb g1; replace g2 := keepc hb g2; replace g3 := keepc hb g3
      clear hb hbv hbW HK
      obtain ⟨⟨FZ, FD, _, FR⟩, _⟩ := QT.out _ _ _ _ hat2
      obtain ⟨bs, hbs⟩ : ∃ b, decide (1 + za + zb ≤ 200) = b := ⟨_, rfl⟩
      simp only [HF2.out, hbs] at FR
      go_wp2_with fail
      obtain ⟨Y, hY⟩ : ∃ Y, (wf.alloc (.cells #[.int .i64 2, .int .i64 0, .string ⟨#[102]⟩, .slice (some ⟨b2, o2, none⟩) 2 2] 24)) = Y := ⟨_, rfl⟩
      have hYf : Below wf.heap.size wf Y := by rw [← hY]; exact below1 _ _
      have n0 : Y.cell? ⟨wf.heap.size, 0, none⟩ = some (.int .i64 2) := by rw [← hY, World.cell?_alloc_at _ _ _ _ rfl]; rfl
      have n1 : Y.cell? ⟨wf.heap.size, 1, none⟩ = some (.int .i64 0) := by rw [← hY, World.cell?_alloc_at _ _ _ _ rfl]; rfl
      have n2 : Y.cell? ⟨wf.heap.size, 2, none⟩ = some (.string ⟨#[102]⟩) := by rw [← hY, World.cell?_alloc_at _ _ _ _ rfl]; rfl
      have n3 : Y.cell? ⟨wf.heap.size, 3, none⟩ = some (.slice (some ⟨b2, o2, none⟩) 2 2) := by rw [← hY, World.cell?_alloc_at _ _ _ _ rfl]; rfl
      rw [hY]
      have hbY := hbf.trans (hYf.mono hbf.size)
      replace d0 := keepc hYf d0; replace d1 := keepc hYf d1; replace d2 := keepc hYf d2; replace d3 := keepc hYf d3; replace g0 := keepc hYf g0; replace g1 := keepc hYf g1; replace g2 := keepc hYf g2; replace g3 := keepc hYf g3
      clear hY hbf
      have F1 := Lib.hid (show ∀ W, Below Y.heap.size Y W → Calls Try.prog 11 #[.agg #[.int .i64 2, .int .i64 0, .string ⟨#[102]⟩, .slice (some ⟨b2, o2, none⟩) 2 2]] W fun e w' => e = .returned (.bool ((ra && rb) && (bs && decide (1 + mx ≤ 20)))) ∧ Below W.heap.size W w' from fun W h => FR.out W (hYf.trans (h.mono hYf.size)))
      have F2 := Lib.hid (show ∀ W, Below Y.heap.size Y W → Calls Try.prog 14 #[.agg #[.int .i64 2, .int .i64 0, .string ⟨#[102]⟩, .slice (some ⟨b2, o2, none⟩) 2 2]] W fun e w' => e = .returned (.int .i64 (1 + za + zb)) ∧ Below W.heap.size W w' from fun W h => FZ.out W (hYf.trans (h.mono hYf.size)))
      have F3 := Lib.hid (show ∀ W, Below Y.heap.size Y W → Calls Try.prog 16 #[.agg #[.int .i64 2, .int .i64 0, .string ⟨#[102]⟩, .slice (some ⟨b2, o2, none⟩) 2 2]] W fun e w' => e = .returned (.int .i64 (1 + mx)) ∧ Below W.heap.size W w' from fun W h => FD.out W (hYf.trans (h.mono hYf.size)))
      have F4 := Lib.hid (show ∀ W, Below Y.heap.size Y W → Calls Try.prog 11 #[.agg #[.int .i64 k, .int .i64 n, .string s, .slice A a.length c]] W fun e w' => e = .returned (.bool ra) ∧ Below W.heap.size W w' from fun W h => QR1.out W (hbY.trans (h.mono hbY.size)))
      have F5 := Lib.hid (show ∀ W, Below Y.heap.size Y W → Calls Try.prog 11 #[.agg #[.int .i64 k', .int .i64 n', .string s', .slice A' a'.length c']] W fun e w' => e = .returned (.bool rb) ∧ Below W.heap.size W w' from fun W h => QR2.out W (hbY.trans (h.mono hbY.size)))
      have kd0 := cell_regrown d0; have kd1 := cell_regrown d1; have kd2 := cell_regrown d2; have kd3 := cell_regrown d3; have kg0 := cell_regrown g0; have kg1 := cell_regrown g1; have kg2 := cell_regrown g2; have kg3 := cell_regrown g3; have kn0 := cell_regrown n0; have kn1 := cell_regrown n1; have kn2 := cell_regrown n2; have kn3 := cell_regrown n3
      clear FR FZ FD QR1 QR2 hat2 QT QF2 HF2 HG hYf d0 d1 d2 d3 g0 g1 g2 g3 n0 n1 n2 n3
      cases ra
      · refine wp_region_quiet_below (by kernel_rfl) (by kernel_rfl) ?_
        repeat (go_big_quiet_step (first | (go_at_call 11; first | (with_reducible exact Calls.regrown_of (F1.out _ (below_regrown _ _ _))) | (with_reducible exact Calls.regrown_of (F4.out _ (below_regrown _ _ _))) | (with_reducible exact Calls.regrown_of (F5.out _ (below_regrown _ _ _)))) | (go_at_call 14; first | (with_reducible exact Calls.regrown_of (F2.out _ (below_regrown _ _ _)))) | (go_at_call 16; first | (with_reducible exact Calls.regrown_of (F3.out _ (below_regrown _ _ _))))))
        refine wpQuiet_nil ?_
        intro w9 hw'
        have hq := regrown_below hw'
        clear hw'
        go_wp2_with fail
        go_ret
        exact ⟨by simp, hbY.trans (hq.mono hbY.size)⟩
      · cases rb
        · refine wp_region_quiet_below (by kernel_rfl) (by kernel_rfl) ?_
          repeat (go_big_quiet_step (first | (go_at_call 11; first | (with_reducible exact Calls.regrown_of (F1.out _ (below_regrown _ _ _))) | (with_reducible exact Calls.regrown_of (F4.out _ (below_regrown _ _ _))) | (with_reducible exact Calls.regrown_of (F5.out _ (below_regrown _ _ _)))) | (go_at_call 14; first | (with_reducible exact Calls.regrown_of (F2.out _ (below_regrown _ _ _)))) | (go_at_call 16; first | (with_reducible exact Calls.regrown_of (F3.out _ (below_regrown _ _ _))))))
          refine wpQuiet_nil ?_
          intro w9 hw'
          have hq := regrown_below hw'
          clear hw'
          go_wp2_with fail
          go_ret
          exact ⟨by simp, hbY.trans (hq.mono hbY.size)⟩
        · cases bs
          · refine wp_region_quiet_below (by kernel_rfl) (by kernel_rfl) ?_
            repeat (go_big_quiet_step (first | (go_at_call 11; first | (with_reducible exact Calls.regrown_of (F1.out _ (below_regrown _ _ _))) | (with_reducible exact Calls.regrown_of (F4.out _ (below_regrown _ _ _))) | (with_reducible exact Calls.regrown_of (F5.out _ (below_regrown _ _ _)))) | (go_at_call 14; first | (with_reducible exact Calls.regrown_of (F2.out _ (below_regrown _ _ _)))) | (go_at_call 16; first | (with_reducible exact Calls.regrown_of (F3.out _ (below_regrown _ _ _))))))
            refine wpQuiet_nil ?_
            intro w9 hw'
            have hq := regrown_below hw'
            clear hw'
            go_wp2_with fail
            go_ret
            exact ⟨by simp, hbY.trans (hq.mono hbY.size)⟩
          · refine wp_region_quiet_below (by kernel_rfl) (by kernel_rfl) ?_
            repeat (go_big_quiet_step (first | (go_at_call 11; first | (with_reducible exact Calls.regrown_of (F1.out _ (below_regrown _ _ _))) | (with_reducible exact Calls.regrown_of (F4.out _ (below_regrown _ _ _))) | (with_reducible exact Calls.regrown_of (F5.out _ (below_regrown _ _ _)))) | (go_at_call 14; first | (with_reducible exact Calls.regrown_of (F2.out _ (below_regrown _ _ _)))) | (go_at_call 16; first | (with_reducible exact Calls.regrown_of (F3.out _ (below_regrown _ _ _))))))
            refine wpQuiet_nil ?_
            intro w9 hw'
            have hq := regrown_below hw'
            clear hw'
            go_wp2_with fail
            go_ret
            exact ⟨by simp, hbY.trans (hq.mono hbY.size)⟩
end Go.Proofs.Ytclhmdgiffemlaa.termBuilds
