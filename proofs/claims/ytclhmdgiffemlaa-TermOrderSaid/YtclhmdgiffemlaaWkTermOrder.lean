/-
  The walk of TermOrder.
-/
import Derived.Test.YtclhmdgiffemlaaTmTwo
import Derived.BigQuiet
import Derived.Lib.QuietBelow
namespace Go.Proofs.Ytclhmdgiffemlaa.termOrder
open Go.ChangeShapes Go.WideShapes Go.ChangeAt Go.RowKit Go.Sort
set_option linter.unusedVariables false

set_option maxHeartbeats 16000000 in
theorem walk (a0 : Tm) (a1 : Tm) (a2 : Tm) (w : World) (w0 : a0.At w) (w1 : a1.At w) (w2 : a2.At w) :
    Calls Try.prog 6 #[a0.val, a1.val, a2.val] w fun e w' => e = .returned (.bool true) ∧ Below w.heap.size w w' := by
  obtain ⟨g, hg⟩ : ∃ g, decide (weigh [a0, a1, a2] 600 64 < 0) = g := ⟨_, rfl⟩
  have QG := Lib.hid (fun (W : World) (b : Nat) (hb : b = W.heap.size) (h : Below w.heap.size w W) => great_three a0 a1 a2 600 W b hb (w0.below h) (w1.below h) (w2.below h) (by omega) (by omega) hg)
  clear hg
  have Q1 := Lib.hid (fun W (h : Below w.heap.size w W) => compare_at a0 a1 W (w0.below h) (w1.below h))
  have Q2 := Lib.hid (fun W (h : Below w.heap.size w W) => compare_at a1 a2 W (w1.below h) (w2.below h))
  have Q3 := Lib.hid (fun W (h : Below w.heap.size w W) => compare_at a0 a2 W (w0.below h) (w2.below h))
  have Q4 := Lib.hid (fun W (h : Below w.heap.size w W) => compare_at a1 a0 W (w1.below h) (w0.below h))
  have Q5 := Lib.hid (fun W (h : Below w.heap.size w W) => compare_at a0 a0 W (w0.below h) (w0.below h))
  have Q6 := Lib.hid (fun W (h : Below w.heap.size w W) => same_at a2 a2 W (w2.below h) (w2.below h) (r := true) (by rw [cmp_self.1]; rfl))
  have Q7 := Lib.hid (fun W (h : Below w.heap.size w W) => same_at a0 a1 W (w0.below h) (w1.below h) rfl)
  have Q8 := Lib.hid (fun W (h : Below w.heap.size w W) => compare_at a2 a0 W (w2.below h) (w0.below h))
  have Q9 := Lib.hid (fun W (h : Below w.heap.size w W) => compare_at a2 a1 W (w2.below h) (w1.below h))
  have vx := cmp_val.1 a0 a1
  have vy := cmp_val.1 a1 a2
  have vz := cmp_val.1 a0 a2
  have ht := cmp_tri.1 a0 a1 a2
  rw [cmpT_flip a0 a1] at Q4
  rw [cmp_self.1] at Q5
  rw [cmpT_flip a0 a2] at Q8
  rw [cmpT_flip a1 a2] at Q9
  generalize cmpT a0 a1 = x at *
  generalize cmpT a1 a2 = y at *
  generalize cmpT a0 a2 = z at *
  clear w0 w1 w2
  obtain ⟨k, n, s, A, c, a⟩ := a0
  obtain ⟨k', n', s', A', c', a'⟩ := a1
  obtain ⟨k'', n'', s'', A'', c'', a''⟩ := a2
  show Calls Try.prog 6 #[.agg #[.int .i64 k, .int .i64 n, .string s, .slice A a.length c], .agg #[.int .i64 k', .int .i64 n', .string s', .slice A' a'.length c'], .agg #[.int .i64 k'', .int .i64 n'', .string s'', .slice A'' a''.length c'']] w _
  go_enter Try.func6, Try.ntmps6
  go_wp2_with fail
  refine (live_at _).mono ?_
  rintro e w1 ⟨rfl, hb⟩
  obtain ⟨⟨d0, d1, d2, d3⟩, ⟨g0, g1, g2, g3⟩, ⟨i0, i1, i2, i3⟩, hb1⟩ := box12 hb
  clear hb
  go_wp2_with fail
  refine (QG.out _ _ rfl hb1).mono ?_
  rintro e w3 ⟨rfl, hb⟩
  have hb3 := hb1.trans (hb.mono hb1.size)
  replace d0 := keepc hb d0; replace d1 := keepc hb d1; replace d2 := keepc hb d2; replace d3 := keepc hb d3; replace g0 := keepc hb g0; replace g1 := keepc hb g1; replace g2 := keepc hb g2; replace g3 := keepc hb g3; replace i0 := keepc hb i0; replace i1 := keepc hb i1; replace i2 := keepc hb i2; replace i3 := keepc hb i3;
  clear hb QG hb1
  cases g
  · go_wp2_with fail
    have P1 := Lib.hid (show ∀ W, Below w3.heap.size w3 W → Calls Try.prog 25 #[.agg #[.int .i64 k, .int .i64 n, .string s, .slice A a.length c], .agg #[.int .i64 k', .int .i64 n', .string s', .slice A' a'.length c']] W fun e w' => e = .returned (.int .i64 x) ∧ Below W.heap.size W w' from fun W h => Q1.out W (hb3.trans (h.mono hb3.size)))
    have P2 := Lib.hid (show ∀ W, Below w3.heap.size w3 W → Calls Try.prog 25 #[.agg #[.int .i64 k', .int .i64 n', .string s', .slice A' a'.length c'], .agg #[.int .i64 k'', .int .i64 n'', .string s'', .slice A'' a''.length c'']] W fun e w' => e = .returned (.int .i64 y) ∧ Below W.heap.size W w' from fun W h => Q2.out W (hb3.trans (h.mono hb3.size)))
    have P3 := Lib.hid (show ∀ W, Below w3.heap.size w3 W → Calls Try.prog 25 #[.agg #[.int .i64 k, .int .i64 n, .string s, .slice A a.length c], .agg #[.int .i64 k'', .int .i64 n'', .string s'', .slice A'' a''.length c'']] W fun e w' => e = .returned (.int .i64 z) ∧ Below W.heap.size W w' from fun W h => Q3.out W (hb3.trans (h.mono hb3.size)))
    have P4 := Lib.hid (show ∀ W, Below w3.heap.size w3 W → Calls Try.prog 25 #[.agg #[.int .i64 k', .int .i64 n', .string s', .slice A' a'.length c'], .agg #[.int .i64 k, .int .i64 n, .string s, .slice A a.length c]] W fun e w' => e = .returned (.int .i64 (-x)) ∧ Below W.heap.size W w' from fun W h => Q4.out W (hb3.trans (h.mono hb3.size)))
    have P5 := Lib.hid (show ∀ W, Below w3.heap.size w3 W → Calls Try.prog 25 #[.agg #[.int .i64 k, .int .i64 n, .string s, .slice A a.length c], .agg #[.int .i64 k, .int .i64 n, .string s, .slice A a.length c]] W fun e w' => e = .returned (.int .i64 0) ∧ Below W.heap.size W w' from fun W h => Q5.out W (hb3.trans (h.mono hb3.size)))
    have P6 := Lib.hid (show ∀ W, Below w3.heap.size w3 W → Calls Try.prog 27 #[.agg #[.int .i64 k'', .int .i64 n'', .string s'', .slice A'' a''.length c''], .agg #[.int .i64 k'', .int .i64 n'', .string s'', .slice A'' a''.length c'']] W fun e w' => e = .returned (.bool true) ∧ Below W.heap.size W w' from fun W h => Q6.out W (hb3.trans (h.mono hb3.size)))
    have P7 := Lib.hid (show ∀ W, Below w3.heap.size w3 W → Calls Try.prog 27 #[.agg #[.int .i64 k, .int .i64 n, .string s, .slice A a.length c], .agg #[.int .i64 k', .int .i64 n', .string s', .slice A' a'.length c']] W fun e w' => e = .returned (.bool (x == 0)) ∧ Below W.heap.size W w' from fun W h => Q7.out W (hb3.trans (h.mono hb3.size)))
    have P8 := Lib.hid (show ∀ W, Below w3.heap.size w3 W → Calls Try.prog 25 #[.agg #[.int .i64 k'', .int .i64 n'', .string s'', .slice A'' a''.length c''], .agg #[.int .i64 k, .int .i64 n, .string s, .slice A a.length c]] W fun e w' => e = .returned (.int .i64 (-z)) ∧ Below W.heap.size W w' from fun W h => Q8.out W (hb3.trans (h.mono hb3.size)))
    have P9 := Lib.hid (show ∀ W, Below w3.heap.size w3 W → Calls Try.prog 25 #[.agg #[.int .i64 k'', .int .i64 n'', .string s'', .slice A'' a''.length c''], .agg #[.int .i64 k', .int .i64 n', .string s', .slice A' a'.length c']] W fun e w' => e = .returned (.int .i64 (-y)) ∧ Below W.heap.size W w' from fun W h => Q9.out W (hb3.trans (h.mono hb3.size)))
    clear Q1 Q2 Q3 Q4 Q5 Q6 Q7 Q8 Q9
    have kd0 := cell_regrown d0; have kd1 := cell_regrown d1; have kd2 := cell_regrown d2; have kd3 := cell_regrown d3; have kg0 := cell_regrown g0; have kg1 := cell_regrown g1; have kg2 := cell_regrown g2; have kg3 := cell_regrown g3; have ki0 := cell_regrown i0; have ki1 := cell_regrown i1; have ki2 := cell_regrown i2; have ki3 := cell_regrown i3
    refine wp_region_quiet_below (by kernel_rfl) (by kernel_rfl) ?_
    repeat (go_big_quiet_step ((go_at_call 25; first | (with_reducible exact Calls.regrown_of (P1.out _ (below_regrown _ _ _))) | (with_reducible exact Calls.regrown_of (P2.out _ (below_regrown _ _ _))) | (with_reducible exact Calls.regrown_of (P3.out _ (below_regrown _ _ _))))))
    refine wpQuiet_nil ?_
    intro w4 hw'
    have hb4 := regrown_below hw'
    clear hw' kd0 kd1 kd2 kd3 kg0 kg1 kg2 kg3 ki0 ki1 ki2 ki3
    replace d0 := keepc hb4 d0; replace d1 := keepc hb4 d1; replace d2 := keepc hb4 d2; replace d3 := keepc hb4 d3; replace g0 := keepc hb4 g0; replace g1 := keepc hb4 g1; replace g2 := keepc hb4 g2; replace g3 := keepc hb4 g3; replace i0 := keepc hb4 i0; replace i1 := keepc hb4 i1; replace i2 := keepc hb4 i2; replace i3 := keepc hb4 i3
    clear P1 P2 P3
    unfold Tri at ht
    have hw : IntKind.i64.wrap (-x) = -x := by rcases vx with rfl | rfl | rfl <;> rfl
    go_wp2_with fail
    refine (P4.out _ hb4).mono ?_
    rintro e w5 ⟨rfl, hb⟩
    replace d0 := keepc hb d0; replace d1 := keepc hb d1; replace d2 := keepc hb d2; replace d3 := keepc hb d3; replace g0 := keepc hb g0; replace g1 := keepc hb g1; replace g2 := keepc hb g2; replace g3 := keepc hb g3; replace i0 := keepc hb i0; replace i1 := keepc hb i1; replace i2 := keepc hb i2; replace i3 := keepc hb i3
    replace hb4 := hb4.trans (hb.mono hb4.size)
    clear hb P4
    go_wp2_with fail
    refine (P5.out _ hb4).mono ?_
    rintro e w5 ⟨rfl, hb⟩
    replace d0 := keepc hb d0; replace d1 := keepc hb d1; replace d2 := keepc hb d2; replace d3 := keepc hb d3; replace g0 := keepc hb g0; replace g1 := keepc hb g1; replace g2 := keepc hb g2; replace g3 := keepc hb g3; replace i0 := keepc hb i0; replace i1 := keepc hb i1; replace i2 := keepc hb i2; replace i3 := keepc hb i3
    replace hb4 := hb4.trans (hb.mono hb4.size)
    clear hb P5
    go_wp2_with fail
    refine (P6.out _ hb4).mono ?_
    rintro e w5 ⟨rfl, hb⟩
    replace d0 := keepc hb d0; replace d1 := keepc hb d1; replace d2 := keepc hb d2; replace d3 := keepc hb d3; replace g0 := keepc hb g0; replace g1 := keepc hb g1; replace g2 := keepc hb g2; replace g3 := keepc hb g3; replace i0 := keepc hb i0; replace i1 := keepc hb i1; replace i2 := keepc hb i2; replace i3 := keepc hb i3
    replace hb4 := hb4.trans (hb.mono hb4.size)
    clear hb P6
    go_wp2_with fail
    refine (P7.out _ hb4).mono ?_
    rintro e w5 ⟨rfl, hb⟩
    replace d0 := keepc hb d0; replace d1 := keepc hb d1; replace d2 := keepc hb d2; replace d3 := keepc hb d3; replace g0 := keepc hb g0; replace g1 := keepc hb g1; replace g2 := keepc hb g2; replace g3 := keepc hb g3; replace i0 := keepc hb i0; replace i1 := keepc hb i1; replace i2 := keepc hb i2; replace i3 := keepc hb i3
    replace hb4 := hb4.trans (hb.mono hb4.size)
    clear hb P7
    rcases vx with rfl | rfl | rfl <;> rcases vy with rfl | rfl | rfl <;> rcases vz with rfl | rfl | rfl <;> first | (exfalso; omega) | skip
    all_goals clear ht hw
    all_goals go_wp2_with fail
    all_goals (have kd0 := cell_regrown d0; have kd1 := cell_regrown d1; have kd2 := cell_regrown d2; have kd3 := cell_regrown d3; have kg0 := cell_regrown g0; have kg1 := cell_regrown g1; have kg2 := cell_regrown g2; have kg3 := cell_regrown g3; have ki0 := cell_regrown i0; have ki1 := cell_regrown i1; have ki2 := cell_regrown i2; have ki3 := cell_regrown i3; replace P8 := Lib.hid (fun W (h : Below _ _ W) => P8.out W (hb4.trans (h.mono hb4.size))); replace P9 := Lib.hid (fun W (h : Below _ _ W) => P9.out W (hb4.trans (h.mono hb4.size))); refine wp_region_quiet_below (by kernel_rfl) (by kernel_rfl) ?_; (repeat (go_big_quiet_step ((go_at_call 25; first | (with_reducible exact Calls.regrown_of (P8.out _ (below_regrown _ _ _))) | (with_reducible exact Calls.regrown_of (P9.out _ (below_regrown _ _ _))))))); refine wpQuiet_nil ?_; intro w6 hw'; replace hb4 := hb4.trans ((regrown_below hw').mono hb4.size); clear hw' kd0 kd1 kd2 kd3 kg0 kg1 kg2 kg3 ki0 ki1 ki2 ki3; go_wp2_with fail)
    all_goals go_ret
    all_goals exact ⟨by simp, hb3.trans (hb4.mono hb3.size)⟩
  · go_wp2_with fail
    go_ret
    exact ⟨rfl, hb3⟩
end Go.Proofs.Ytclhmdgiffemlaa.termOrder
