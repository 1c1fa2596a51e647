/-
  AkEg.
-/
import Derived.Test.YtgpglgehlnfggaaGreatMe20
namespace Go.Proofs.YtgpglgehlnfggaaGreat
open Go.RowKit
set_option linter.unusedVariables false
structure Eg (w : World) (p1 p2 p3 pb pk g0 : Nat) (W : World) : Prop where
  x0 : BX p1 (vr 0) W
  x1 : BX p2 (vr 1) W
  x5 : BX p3 (akI 5) W
  b : BLst W (some ⟨pb, 0, none⟩) akB 1
  k : GlLst W (some ⟨pk, 0, none⟩) [twoG 7 g0 (vr 0) (vr 1)] 1
  k0 : W.cell? ⟨pk, 0, none⟩ = some (.int .i64 7)
  k1 : W.cell? ⟨pk, 1, none⟩ = some (.string ⟨#[]⟩)
  k2 : W.cell? ⟨pk, 2, none⟩ = some (.slice (some ⟨g0, 0, none⟩) 2 2)
  ex : Below w.heap.size w W
theorem Eg.ext {w W W' : World} {p1 p2 p3 pb pk g0 : Nat} (h : Eg w p1 p2 p3 pb pk g0 W) (e : Below W.heap.size W W') : Eg w p1 p2 p3 pb pk g0 W' :=
  ⟨h.x0.ext e, h.x1.ext e, h.x5.ext e, h.b.below e, h.k.below e, keepv e h.k0, keepv e h.k1, keepv e h.k2, h.ex.trans (e.mono h.ex.size)⟩
theorem fits_small {n : Int} (h : 0 ≤ n ∧ n ≤ 100) : Fits n := by unfold Fits; omega
theorem ak_occurs2 {can : Tm → Tm → Bool} (hc : Cans can) (g c : Nat) : testV can 5 ByteArray.empty [vr 0, .mk 2 0 ⟨#[102]⟩ (some ⟨g, 0, none⟩) c [vr 0]] = 2 := by
  exact (testV_like hc (l := [vr 0, .mk 2 0 ⟨#[102]⟩ (some ⟨g, 0, none⟩) c [vr 0]]) (m := [vr 0, akF none 0 [vr 0] ⟨#[102]⟩]) rfl).trans (ak_occurs hc)
theorem ak_can2 {can : Tm → Tm → Bool} (hc : Cans can) (g c : Nat) : testV can 5 ByteArray.empty [vr 0, .mk 2 0 ⟨#[97]⟩ (some ⟨g, 0, none⟩) c []] = 0 := by
  exact (testV_like hc (l := [vr 0, .mk 2 0 ⟨#[97]⟩ (some ⟨g, 0, none⟩) c []]) (m := [vr 0, akF none 0 [] ⟨#[97]⟩]) rfl).trans (ak_can hc)
theorem a_at {ga ca : Nat} (W : World) (h : ca ≤ maxLen) : (Tm.mk 2 0 ⟨#[97]⟩ (some ⟨ga, 0, none⟩) ca []).At W := (At_iff _ _).2 ⟨⟨by simp only [Tm.kind]; unfold Fits; omega, by simp only [Tm.num]; unfold Fits; omega, by unfold maxLen; simp [Tm.name, ByteArray.size]⟩, Nat.zero_le _, h, fun h => absurd h (Nat.lt_irrefl 0)⟩
theorem bd_oneE {W : World} {g : Nat} (h : W.cell? ⟨g, 0, none⟩ = some (.int .i64 1) ∧ W.cell? ⟨g, 1, none⟩ = some (.int .i64 0) ∧ W.cell? ⟨g, 2, none⟩ = some (.int .i64 5) ∧ W.cell? ⟨g, 3, none⟩ = some (.string ⟨#[]⟩) ∧ W.cell? ⟨g, 4, none⟩ = some (.slice none 0 0)) : BLst W (some ⟨g, 0, none⟩) akB 1 := by
  refine ⟨Nat.le_refl _, by unfold maxLen; simp, fun _ => ⟨g, 0, rfl, fun i hi => ?_⟩⟩
  obtain rfl : i = 0 := by simp [akB] at hi; omega
  refine ⟨fun j u hu => ?_, fits_small (show 0 ≤ (1 : Int) ∧ (1 : Int) ≤ 100 by omega), akI_at W (fits_small (by omega))⟩
  have hj : j < 5 := by
    apply Classical.byContradiction; intro hc
    rw [List.getElem?_eq_none (by simp [Bd.cells]; omega)] at hu; cases hu
  rw [show 0 + 0 * 5 + j = j by omega]
  match j, hj with
  | 0, _ => exact h.1.trans hu
  | 1, _ => exact h.2.1.trans hu
  | 2, _ => exact h.2.2.1.trans hu
  | 3, _ => exact h.2.2.2.1.trans hu
  | 4, _ => exact h.2.2.2.2.trans hu
theorem gl_oneE {W : World} {g g0 : Nat} (h : W.cell? ⟨g, 0, none⟩ = some (.int .i64 7) ∧ W.cell? ⟨g, 1, none⟩ = some (.string ⟨#[]⟩) ∧ W.cell? ⟨g, 2, none⟩ = some (.slice (some ⟨g0, 0, none⟩) 2 2)) (hat : (twoG 7 g0 (vr 0) (vr 1)).At W) : GlLst W (some ⟨g, 0, none⟩) [twoG 7 g0 (vr 0) (vr 1)] 1 := by
  refine ⟨Nat.le_refl _, by unfold maxLen; simp, fun _ => ⟨g, 0, rfl, fun i hi => ?_⟩⟩
  obtain rfl : i = 0 := by simp at hi; omega
  refine ⟨fun j u hu => ?_, hat⟩
  have hj := Gl.cells_lt hu
  rw [show 0 + 0 * 3 + j = j by omega]
  match j, hj with
  | 0, _ => exact h.1.trans hu
  | 1, _ => exact h.2.1.trans hu
  | 2, _ => exact h.2.2.trans hu
set_option maxHeartbeats 16000000 in
set_option maxRecDepth 100000 in
theorem example_at (w : World) : Calls Tryz.prog 9 #[] w fun e w' => e = .returned (.bool true) ∧ Below w.heap.size w w' := by
  obtain ⟨can, hc⟩ := cans
  have VV := Lib.hid (fun n W => ref_var_at3 n W)
  have II := Lib.hid (fun n W => ref_int_at n W)
  have T01 := Lib.hid (show ∀ op W, Calls Tryz.prog 23 #[.int .i64 op, .agg #[.int .i64 1, .int .i64 0, .string ⟨#[]⟩, .slice none 0 0], .agg #[.int .i64 1, .int .i64 1, .string ⟨#[]⟩, .slice none 0 0]] W (TwoR op (vr 0) (vr 1) W) from fun op W => test_two_at op (vr 0) (vr 1) W)
  go_enter Tryz.func9, Tryz.ntmps9
  go_wp2_with (first
    | (go_at_call 25; (with_reducible refine (VV.out 0 _).mono ?_); rintro e w1 ⟨rfl, h1⟩; have E1 := Lib.hid h1; clear h1)
    | (go_at_call 25; (with_reducible refine (VV.out 1 _).mono ?_); rintro e w2 ⟨rfl, h1⟩; have E2 := Lib.hid (E1.out.trans (h1.mono E1.out.size)); clear h1)
    | (go_at_call 26; (with_reducible refine (II.out 5 _).mono ?_); rintro e w3 ⟨rfl, h1⟩; have E3 := Lib.hid (E2.out.trans (h1.mono E2.out.size)); clear h1)
    | (go_at_call 23; (with_reducible refine (T01.out 7 _).mono ?_); rintro e w4 ⟨g0, rfl, hg, hr, h1⟩; have E4 := Lib.hid h1; have R4 := Lib.hid hr; clear h1 hr hg))
  obtain ⟨W1, h1⟩ : ∃ W1, w3.alloc (.cells #[.int .i64 1, .int .i64 0, .string ⟨#[]⟩, .slice none 0 0] 40) = W1 := ⟨_, rfl⟩
  obtain ⟨W2, h2⟩ : ∃ W2, W1.alloc (.cells #[.int .i64 1, .int .i64 1, .string ⟨#[]⟩, .slice none 0 0] 40) = W2 := ⟨_, rfl⟩
  obtain ⟨W3, h3⟩ : ∃ W3, W2.alloc (.cells #[.int .i64 0, .int .i64 5, .string ⟨#[]⟩, .slice none 0 0] 40) = W3 := ⟨_, rfl⟩
  obtain ⟨W4, h4⟩ : ∃ W4, W3.alloc (.cells #[.int .i64 1, .int .i64 0, .int .i64 5, .string ⟨#[]⟩, .slice none 0 0] 47) = W4 := ⟨_, rfl⟩
  obtain ⟨X, hX⟩ : ∃ X, w4.alloc (.cells #[.int .i64 7, .string ⟨#[]⟩, .slice (some ⟨g0, 0, none⟩) 2 2] 24) = X := ⟨_, rfl⟩
  have e4 := E4.out
  rw [h1, h2, h3, h4] at e4
  have s1 : W1.heap.size = w3.heap.size + 1 := by rw [← h1]; simp
  have s2 : W2.heap.size = w3.heap.size + 1 + 1 := by rw [← h2]; simp [s1]
  have s3 : W3.heap.size = w3.heap.size + 1 + 1 + 1 := by rw [← h3]; simp [s2]
  have z1 : BX w3.heap.size (vr 0) W1 := by rw [← h1]; exact BX.new (vr_at w3 (fits_small (by omega))) _
  have z2 : BX (w3.heap.size + 1) (vr 1) W2 := by rw [← s1, ← h2]; exact BX.new (vr_at W1 (fits_small (by omega))) _
  have z3 : BX (w3.heap.size + 1 + 1) (akI 5) W3 := by rw [← s2, ← h3]; exact BX.new (akI_at W2 (fits_small (by omega))) _
  have q1 : Below w3.heap.size w3 W1 := by rw [← h1]; exact below1 _ _
  have q2 : Below W1.heap.size W1 W2 := by rw [← h2]; exact below1 _ _
  have q3 : Below W2.heap.size W2 W3 := by rw [← h3]; exact below1 _ _
  have q4 : Below W3.heap.size W3 W4 := by rw [← h4]; exact below1 _ _
  have q5 : Below w4.heap.size w4 X := by rw [← hX]; exact below1 _ _
  have r4 : Below W4.heap.size W4 X := e4.trans (q5.mono e4.size)
  have r3 : Below W3.heap.size W3 X := q4.trans (r4.mono q4.size)
  have r2 : Below W2.heap.size W2 X := q3.trans (r3.mono q3.size)
  have r1 : Below W1.heap.size W1 X := q2.trans (r2.mono q2.size)
  have r0 : Below w3.heap.size w3 X := q1.trans (r1.mono q1.size)
  have KE := Lib.hid (show Eg w w3.heap.size (w3.heap.size + 1) (w3.heap.size + 1 + 1) (w3.heap.size + 1 + 1 + 1) w4.heap.size g0 X from by
    have c : ∀ j v, (#[.int .i64 7, .string ⟨#[]⟩, .slice (some ⟨g0, 0, none⟩) 2 2] : Array Value)[j]? = some v → X.cell? ⟨w4.heap.size, j, none⟩ = some v := fun j v e => by
      rw [← hX, World.cell?_alloc_at _ _ _ _ rfl]; exact e
    have d : ∀ j v, (#[.int .i64 1, .int .i64 0, .int .i64 5, .string ⟨#[]⟩, .slice none 0 0] : Array Value)[j]? = some v → X.cell? ⟨w3.heap.size + 1 + 1 + 1, j, none⟩ = some v := fun j v e => keepv r4 (by
      rw [← s3, ← h4, World.cell?_alloc_at _ _ _ _ rfl]; exact e)
    refine ⟨z1.ext r1, z2.ext r2, z3.ext r3, bd_oneE ⟨d 0 _ rfl, d 1 _ rfl, d 2 _ rfl, d 3 _ rfl, d 4 _ rfl⟩, gl_oneE ⟨c 0 _ rfl, c 1 _ rfl, c 2 _ rfl⟩ ?_, c 0 _ rfl, c 1 _ rfl, c 2 _ rfl, E3.out.trans (r0.mono E3.out.size)⟩
    exact two_lies (fits_small (by omega)) R4.out (q5.block _ R4.out.1) (vr_at X (fits_small (by omega))) (vr_at X (fits_small (by omega))))
  rw [hX]
  clear e4 s1 s2 s3 z1 z2 z3 q1 q2 q3 q4 q5 r0 r1 r2 r3 r4 h1 h2 h3 h4 hX E1 E2 E3 E4 R4 T01 VV
  have HS := Lib.hid (fun W (h : Below X.heap.size X W) => (⟨⟨(KE.out.ext h).x0.c0, (KE.out.ext h).x0.c1, (KE.out.ext h).x0.c2, (KE.out.ext h).x0.c3⟩, ⟨(KE.out.ext h).x1.c0, (KE.out.ext h).x1.c1, (KE.out.ext h).x1.c2, (KE.out.ext h).x1.c3⟩, ⟨(KE.out.ext h).x5.c0, (KE.out.ext h).x5.c1, (KE.out.ext h).x5.c2, (KE.out.ext h).x5.c3⟩, (KE.out.ext h).k0, (KE.out.ext h).k1, (KE.out.ext h).k2⟩ : (fun W => (W.cell? ⟨w3.heap.size, 0, none⟩ = some (.int .i64 1) ∧ W.cell? ⟨w3.heap.size, 1, none⟩ = some (.int .i64 0) ∧ W.cell? ⟨w3.heap.size, 2, none⟩ = some (.string ⟨#[]⟩) ∧ W.cell? ⟨w3.heap.size, 3, none⟩ = some (.slice none 0 0)) ∧ (W.cell? ⟨(w3.heap.size + 1), 0, none⟩ = some (.int .i64 1) ∧ W.cell? ⟨(w3.heap.size + 1), 1, none⟩ = some (.int .i64 1) ∧ W.cell? ⟨(w3.heap.size + 1), 2, none⟩ = some (.string ⟨#[]⟩) ∧ W.cell? ⟨(w3.heap.size + 1), 3, none⟩ = some (.slice none 0 0)) ∧ (W.cell? ⟨(w3.heap.size + 1 + 1), 0, none⟩ = some (.int .i64 0) ∧ W.cell? ⟨(w3.heap.size + 1 + 1), 1, none⟩ = some (.int .i64 5) ∧ W.cell? ⟨(w3.heap.size + 1 + 1), 2, none⟩ = some (.string ⟨#[]⟩) ∧ W.cell? ⟨(w3.heap.size + 1 + 1), 3, none⟩ = some (.slice none 0 0)) ∧ W.cell? ⟨w4.heap.size, 0, none⟩ = some (.int .i64 7) ∧ W.cell? ⟨w4.heap.size, 1, none⟩ = some (.string ⟨#[]⟩) ∧ W.cell? ⟨w4.heap.size, 2, none⟩ = some (.slice (some ⟨g0, 0, none⟩) 2 2)) W))
  simp only [List.append_eq, List.cons_append, List.nil_append]
  go_region_held3 (fun W => (W.cell? ⟨w3.heap.size, 0, none⟩ = some (.int .i64 1) ∧ W.cell? ⟨w3.heap.size, 1, none⟩ = some (.int .i64 0) ∧ W.cell? ⟨w3.heap.size, 2, none⟩ = some (.string ⟨#[]⟩) ∧ W.cell? ⟨w3.heap.size, 3, none⟩ = some (.slice none 0 0)) ∧ (W.cell? ⟨(w3.heap.size + 1), 0, none⟩ = some (.int .i64 1) ∧ W.cell? ⟨(w3.heap.size + 1), 1, none⟩ = some (.int .i64 1) ∧ W.cell? ⟨(w3.heap.size + 1), 2, none⟩ = some (.string ⟨#[]⟩) ∧ W.cell? ⟨(w3.heap.size + 1), 3, none⟩ = some (.slice none 0 0)) ∧ (W.cell? ⟨(w3.heap.size + 1 + 1), 0, none⟩ = some (.int .i64 0) ∧ W.cell? ⟨(w3.heap.size + 1 + 1), 1, none⟩ = some (.int .i64 5) ∧ W.cell? ⟨(w3.heap.size + 1 + 1), 2, none⟩ = some (.string ⟨#[]⟩) ∧ W.cell? ⟨(w3.heap.size + 1 + 1), 3, none⟩ = some (.slice none 0 0)) ∧ W.cell? ⟨w4.heap.size, 0, none⟩ = some (.int .i64 7) ∧ W.cell? ⟨w4.heap.size, 1, none⟩ = some (.string ⟨#[]⟩) ∧ W.cell? ⟨w4.heap.size, 2, none⟩ = some (.slice (some ⟨g0, 0, none⟩) 2 2)) (first | (with_reducible exact HS.out _ F20.out) | (with_reducible exact HS.out _ F19.out) | (with_reducible exact HS.out _ F18.out) | (with_reducible exact HS.out _ F17.out) | (with_reducible exact HS.out _ F16.out) | (with_reducible exact HS.out _ F15.out) | (with_reducible exact HS.out _ F14.out) | (with_reducible exact HS.out _ F13.out) | (with_reducible exact HS.out _ F12.out) | (with_reducible exact HS.out _ F11.out) | (with_reducible exact HS.out _ F10.out) | (with_reducible exact HS.out _ F9.out) | (with_reducible exact HS.out _ F8.out) | (with_reducible exact HS.out _ F7.out) | (with_reducible exact HS.out _ F6.out) | (with_reducible exact HS.out _ F5.out) | (with_reducible exact HS.out _ (F5.out.trans ((below1 _ _).mono F5.out.size))) | (with_reducible exact HS.out _ F4.out) | (with_reducible exact HS.out _ F3.out) | (with_reducible exact HS.out _ F2.out) | (with_reducible exact HS.out _ F1.out) | (with_reducible exact HS.out _ (Below.refl _ _).drew) | fail) (first
    | (go_at_call 26; have hF := II.out 3 X.drew; (with_reducible refine hF.mono ?_); rintro e y1 ⟨rfl, h1⟩; have F1 := Lib.hid (show Below X.heap.size X y1 from undrew h1); clear hF h1)
    | (go_at_call 23; have hF := (show Calls Tryz.prog 23 #[.int .i64 7, .agg #[.int .i64 0, .int .i64 3, .string ⟨#[]⟩, .slice none 0 0], .agg #[.int .i64 0, .int .i64 5, .string ⟨#[]⟩, .slice none 0 0]] y1 (TwoR 7 (akI 3) (akI 5) y1) from test_two_at 7 (akI 3) (akI 5) y1); (with_reducible refine hF.mono ?_); rintro e y2 ⟨t1, rfl, hg, hr, h1⟩; have F2 := Lib.hid (show Below X.heap.size X y2 from F1.out.trans (h1.mono F1.out.size)); have R2 := Lib.hid hr; clear hF h1 hr hg)
    | (go_at_call 10; have hF := ex_test hc (op := 7) (fits_small (by omega)) (x := (akI 3)) (y := (akI 5)) R2.out (akI_at _ (fits_small (by omega))) (akI_at _ (fits_small (by omega))) (ak_less can); (with_reducible refine hF.mono ?_); rintro e y3 ⟨rfl, h1⟩; have F3 := Lib.hid (show Below X.heap.size X y3 from F2.out.trans (h1.mono F2.out.size)); clear hF h1)
    | (go_at_call 23; have hF := (show Calls Tryz.prog 23 #[.int .i64 6, .agg #[.int .i64 1, .int .i64 0, .string ⟨#[]⟩, .slice none 0 0], .agg #[.int .i64 1, .int .i64 0, .string ⟨#[]⟩, .slice none 0 0]] y3 (TwoR 6 (vr 0) (vr 0) y3) from test_two_at 6 (vr 0) (vr 0) y3); (with_reducible refine hF.mono ?_); rintro e y4 ⟨t2, rfl, hg, hr, h1⟩; have F4 := Lib.hid (show Below X.heap.size X y4 from F3.out.trans (h1.mono F3.out.size)); have R4 := Lib.hid hr; clear hF h1 hr hg)
    | (go_at_call 10; have hF := ex_test hc (op := 6) (fits_small (by omega)) (x := (vr 0)) (y := (vr 0)) R4.out (vr_at _ (fits_small (by omega))) (vr_at _ (fits_small (by omega))) (ak_apart can); (with_reducible refine hF.mono ?_); rintro e y5 ⟨rfl, h1⟩; have F5 := Lib.hid (show Below X.heap.size X y5 from F4.out.trans (h1.mono F4.out.size)); clear hF h1)
    | (go_at_call 27; have hF := (show Calls Tryz.prog 27 #[.string ⟨#[102]⟩, .slice (some ⟨y5.heap.size, 0, none⟩) 1 1] (y5.alloc (.cells #[.int .i64 1, .int .i64 0, .string ⟨#[]⟩, .slice none 0 0] 40)) (BuiltR (y5.alloc (.cells #[.int .i64 1, .int .i64 0, .string ⟨#[]⟩, .slice none 0 0] 40)) ⟨#[102]⟩ [vr 0]) from ref_fun_at ⟨#[102]⟩ [vr 0] y5.heap.size 0 1 (y5.alloc (.cells #[.int .i64 1, .int .i64 0, .string ⟨#[]⟩, .slice none 0 0] 40)) (by simp) (row_one (vr 0) (vr_at _ (fits_small (by omega)))) (by simp) (by unfold maxLen; simp [ByteArray.size])); (with_reducible refine hF.mono ?_); rintro e y6 ⟨gf, cf, rfl, hat, h1⟩; have F6 := Lib.hid (show Below X.heap.size X y6 from (F5.out.trans ((below1 _ _).mono F5.out.size)).trans (h1.mono (Nat.le_trans F5.out.size (below1 _ _).size))); have A6 := Lib.hid hat; clear hF h1 hat)
    | (go_at_call 23; have hF := (show Calls Tryz.prog 23 #[.int .i64 5, .agg #[.int .i64 1, .int .i64 0, .string ⟨#[]⟩, .slice none 0 0], .agg #[.int .i64 2, .int .i64 0, .string ⟨#[102]⟩, .slice (some ⟨gf, 0, none⟩) 1 cf]] y6 (TwoR 5 (vr 0) (.mk 2 0 ⟨#[102]⟩ (some ⟨gf, 0, none⟩) cf [vr 0]) y6) from test_two_at 5 (vr 0) (.mk 2 0 ⟨#[102]⟩ (some ⟨gf, 0, none⟩) cf [vr 0]) y6); (with_reducible refine hF.mono ?_); rintro e y7 ⟨t3, rfl, hg, hr, h1⟩; have F7 := Lib.hid (show Below X.heap.size X y7 from F6.out.trans (h1.mono F6.out.size)); have R7 := Lib.hid hr; have F6x := Lib.hid (show Below y6.heap.size y6 y7 from h1); clear hF h1 hr hg)
    | (go_at_call 10; have hF := ex_test hc (op := 5) (fits_small (by omega)) (x := (vr 0)) (y := (.mk 2 0 ⟨#[102]⟩ (some ⟨gf, 0, none⟩) cf [vr 0])) R7.out (vr_at _ (fits_small (by omega))) (A6.out.below F6x.out) (ak_occurs2 hc gf cf); (with_reducible refine hF.mono ?_); rintro e y8 ⟨rfl, h1⟩; have F8 := Lib.hid (show Below X.heap.size X y8 from F7.out.trans (h1.mono F7.out.size)); clear hF h1)
    | (go_at_call 27; have hF := fun_none_at ⟨#[97]⟩ y8; (with_reducible refine hF.mono ?_); rintro e y9 ⟨ga, ca, rfl, hca, h1⟩; have F9 := Lib.hid (show Below X.heap.size X y9 from F8.out.trans (h1.mono F8.out.size)); have A9 := Lib.hid hca; clear hF h1 hca)
    | (go_at_call 23; have hF := (show Calls Tryz.prog 23 #[.int .i64 5, .agg #[.int .i64 1, .int .i64 0, .string ⟨#[]⟩, .slice none 0 0], .agg #[.int .i64 2, .int .i64 0, .string ⟨#[97]⟩, .slice (some ⟨ga, 0, none⟩) 0 ca]] y9 (TwoR 5 (vr 0) (.mk 2 0 ⟨#[97]⟩ (some ⟨ga, 0, none⟩) ca []) y9) from test_two_at 5 (vr 0) (.mk 2 0 ⟨#[97]⟩ (some ⟨ga, 0, none⟩) ca []) y9); (with_reducible refine hF.mono ?_); rintro e y10 ⟨t4, rfl, hg, hr, h1⟩; have F10 := Lib.hid (show Below X.heap.size X y10 from F9.out.trans (h1.mono F9.out.size)); have R10 := Lib.hid hr; clear hF h1 hr hg)
    | (go_at_call 10; have hF := ex_test hc (op := 5) (fits_small (by omega)) (x := (vr 0)) (y := (.mk 2 0 ⟨#[97]⟩ (some ⟨ga, 0, none⟩) ca [])) R10.out (vr_at _ (fits_small (by omega))) (a_at _ A9.out) (ak_can2 hc ga ca); (with_reducible refine hF.mono ?_); rintro e y11 ⟨rfl, h1⟩; have F11 := Lib.hid (show Below X.heap.size X y11 from F10.out.trans (h1.mono F10.out.size)); clear hF h1)
    | (go_at_call 23; have hF := (show Calls Tryz.prog 23 #[.int .i64 7, .agg #[.int .i64 1, .int .i64 0, .string ⟨#[]⟩, .slice none 0 0], .agg #[.int .i64 0, .int .i64 5, .string ⟨#[]⟩, .slice none 0 0]] y11 (TwoR 7 (vr 0) (akI 5) y11) from test_two_at 7 (vr 0) (akI 5) y11); (with_reducible refine hF.mono ?_); rintro e y12 ⟨t5, rfl, hg, hr, h1⟩; have F12 := Lib.hid (show Below X.heap.size X y12 from F11.out.trans (h1.mono F11.out.size)); have R12 := Lib.hid hr; clear hF h1 hr hg)
    | (go_at_call 13; have hF := ex_in hc (op := 7) (fits_small (by omega)) (x := (vr 0)) (y := (akI 5)) R12.out (vr_at _ (fits_small (by omega))) (akI_at _ (fits_small (by omega))) (KE.out.ext F12.out).b (KE.out.ext F12.out).k (by simp [vr, akI, Tm.nodes, nodesL]) (ak_known can _ _ _ _); (with_reducible refine hF.mono ?_); rintro e y13 ⟨rfl, h1⟩; have F13 := Lib.hid (show Below X.heap.size X y13 from F12.out.trans (h1.mono F12.out.size)); clear hF h1)
    | (go_at_call 26; have hF := II.out 6 y13; (with_reducible refine hF.mono ?_); rintro e y14 ⟨rfl, h1⟩; have F14 := Lib.hid (show Below X.heap.size X y14 from F13.out.trans (h1.mono F13.out.size)); clear hF h1)
    | (go_at_call 23; have hF := (show Calls Tryz.prog 23 #[.int .i64 7, .agg #[.int .i64 1, .int .i64 0, .string ⟨#[]⟩, .slice none 0 0], .agg #[.int .i64 0, .int .i64 6, .string ⟨#[]⟩, .slice none 0 0]] y14 (TwoR 7 (vr 0) (akI 6) y14) from test_two_at 7 (vr 0) (akI 6) y14); (with_reducible refine hF.mono ?_); rintro e y15 ⟨t6, rfl, hg, hr, h1⟩; have F15 := Lib.hid (show Below X.heap.size X y15 from F14.out.trans (h1.mono F14.out.size)); have R15 := Lib.hid hr; clear hF h1 hr hg)
    | (go_at_call 13; have hF := ex_in hc (op := 7) (fits_small (by omega)) (x := (vr 0)) (y := (akI 6)) R15.out (vr_at _ (fits_small (by omega))) (akI_at _ (fits_small (by omega))) (KE.out.ext F15.out).b (KE.out.ext F15.out).k (by simp [vr, akI, Tm.nodes, nodesL]) (ak_open can _ _ _ _); (with_reducible refine hF.mono ?_); rintro e y16 ⟨rfl, h1⟩; have F16 := Lib.hid (show Below X.heap.size X y16 from F15.out.trans (h1.mono F15.out.size)); clear hF h1)
    | (go_at_call 23; have hF := (show Calls Tryz.prog 23 #[.int .i64 8, .agg #[.int .i64 1, .int .i64 0, .string ⟨#[]⟩, .slice none 0 0], .agg #[.int .i64 1, .int .i64 1, .string ⟨#[]⟩, .slice none 0 0]] y16 (TwoR 8 (vr 0) (vr 1) y16) from test_two_at 8 (vr 0) (vr 1) y16); (with_reducible refine hF.mono ?_); rintro e y17 ⟨t7, rfl, hg, hr, h1⟩; have F17 := Lib.hid (show Below X.heap.size X y17 from F16.out.trans (h1.mono F16.out.size)); have R17 := Lib.hid hr; clear hF h1 hr hg)
    | (go_at_call 17; have hF := ex_fol (g0 := g0) (x := (vr 0)) (y := (vr 1)) ((KE.out.ext F17.out).k.mem (List.mem_singleton.2 rfl)) R17.out (vr_at _ (fits_small (by omega))) (vr_at _ (fits_small (by omega))) ak_fol; (with_reducible refine hF.mono ?_); rintro e y18 ⟨rfl, h1⟩; have F18 := Lib.hid (show Below X.heap.size X y18 from F17.out.trans (h1.mono F17.out.size)); clear hF h1)
    | (go_at_call 23; have hF := (show Calls Tryz.prog 23 #[.int .i64 8, .agg #[.int .i64 1, .int .i64 1, .string ⟨#[]⟩, .slice none 0 0], .agg #[.int .i64 1, .int .i64 0, .string ⟨#[]⟩, .slice none 0 0]] y18 (TwoR 8 (vr 1) (vr 0) y18) from test_two_at 8 (vr 1) (vr 0) y18); (with_reducible refine hF.mono ?_); rintro e y19 ⟨t8, rfl, hg, hr, h1⟩; have F19 := Lib.hid (show Below X.heap.size X y19 from F18.out.trans (h1.mono F18.out.size)); have R19 := Lib.hid hr; clear hF h1 hr hg)
    | (go_at_call 17; have hF := ex_fol (g0 := g0) (x := (vr 1)) (y := (vr 0)) ((KE.out.ext F19.out).k.mem (List.mem_singleton.2 rfl)) R19.out (vr_at _ (fits_small (by omega))) (vr_at _ (fits_small (by omega))) ak_nofol; (with_reducible refine hF.mono ?_); rintro e y20 ⟨rfl, h1⟩; have F20 := Lib.hid (show Below X.heap.size X y20 from F19.out.trans (h1.mono F19.out.size)); clear hF h1)
    | fail)
  all_goals
    go_wp2_with fail
    go_ret
    exact ⟨rfl, KE.out.ex.trans (F20.out.mono KE.out.ex.size)⟩
end Go.Proofs.YtgpglgehlnfggaaGreat
