/-
  WkAskIns.
-/
import Derived.Test.YtgpglgehlnfggaaGreatMe20
import Derived.Test.YtgpglgehlnfggaaGreatMe31
import Derived.Test.YtgpglgehlnfggaaGreatMe29
import Derived.Test.YtgpglgehlnfggaaGreatMe14
namespace Go.Proofs.YtgpglgehlnfggaaGreat.askIns
open Go.ChangeShapes Go.WideShapes Go.ChangeAt Go.RowKit Go.Sort
set_option linter.unusedVariables false
theorem args_sum {m : Nat} : ∀ l : List Gl, (∀ x ∈ l, nodesL x.args ≤ m) → nodesL (argsL l) ≤ l.length * m
  | [], _ => by simp [argsL, nodesL]
  | x :: l, h => by
    have h1 := args_sum l fun y hy => h y (List.mem_cons_of_mem _ hy)
    have h2 := h x (by simp)
    rw [argsL_cons, nodesL_append, List.length_cons, Nat.add_mul]
    omega
theorem few_args {l : List Gl} (h : decide (weighGl l 100 < 0) = false) (hl : l.length ≤ 6) : nodesL (argsL l) ≤ 1000000 ∧ ∀ x ∈ l, nodesL x.args ≤ 100 := by
  have h1 := gl_nodes h
  have h2 : ∀ x ∈ l, nodesL x.args ≤ 100 := fun x hx => by have := h1.2 x hx; omega
  have h3 := args_sum l h2
  exact ⟨by omega, h2⟩
theorem app_size {b : List Bd} {l : List Tm} (hb : largeB b = false) (hl : nodesL l ≤ 100) : sizeL (appL b l) ≤ 10000 := by
  have h1 := (nodes_app (b := b) (N := 40) (small_env hb).2).2 l
  have h2 := size_nodes.2 (appL b l)
  have h3 : nodesL l * (1 + 40) ≤ 100 * 41 := Nat.mul_le_mul_right 41 hl
  omega
set_option maxHeartbeats 16000000 in
set_option maxRecDepth 100000 in
theorem walk (HE : PExample) (A0 : Option Addr) (b : List Bd) (c0 : Nat) (A1 : Option Addr) (known : List Gl) (c1 : Nat) (A2 : Option Addr) (l : List Gl) (c2 : Nat) (w : World) (w0 : BLst w A0 b c0) (w1 : GlLst w A1 known c1) (w2 : GlLst w A2 l c2) :
    Calls Tryz.prog 4 #[.slice A0 b.length c0, .slice A1 known.length c1, .slice A2 l.length c2] w fun e w' => e = .returned (.bool true) ∧ Below w.heap.size w w' := by
  obtain ⟨can, hc⟩ := cans
  obtain ⟨q1, hq1⟩ : ∃ q, largeB b = q := ⟨_, rfl⟩
  obtain ⟨q2, hq2⟩ : ∃ q, decide (weighGl known 100 < 0) = q := ⟨_, rfl⟩
  obtain ⟨q3, hq3⟩ : ∃ q, decide (weighGl l 100 < 0) = q := ⟨_, rfl⟩
  have hk := w1.len
  have hl := w2.len
  have QL := Lib.hid (fun (W : World) (h : Below w.heap.size w W) => show Calls Tryz.prog 12 #[.slice A0 b.length c0] W (fun e w' => e = .returned (.bool q1) ∧ Below W.heap.size W w') from by rw [← hq1]; exact large_at b A0 c0 W (w0.below h))
  have QG := Lib.hid (fun (W : World) (h : Below w.heap.size w W) => show Calls Tryz.prog 8 #[.slice A1 known.length c1, .int .i64 100] W (fun e w' => e = .returned (.bool q2) ∧ Below W.heap.size W w') from great_gls_at known A1 c1 100 W (w1.below h) (by omega) (by omega) hq2)
  have QG' := Lib.hid (fun (W : World) (h : Below w.heap.size w W) => show Calls Tryz.prog 8 #[.slice A2 l.length c2, .int .i64 100] W (fun e w' => e = .returned (.bool q3) ∧ Below W.heap.size W w') from great_gls_at l A2 c2 100 W (w2.below h) (by omega) (by omega) hq3)
  have QE := Lib.hid (show ∀ W : World, Calls Tryz.prog 9 #[] W (fun e w' => e = .returned (.bool true) ∧ Below W.heap.size W w') from HE)
  by_cases hk6 : known.length ≤ 6
  case neg =>
    have d1 : decide ((known.length : Int) > 6) = true := decide_eq_true (by omega)
    have d2 : decide (6 < (known.length : Int)) = true := decide_eq_true (by omega)
    clear QG QG' hq1 hq2 hq3 w0 w1 w2 HE hc hk6
    cases q1
    all_goals
      go_enter Tryz.func4, Tryz.ntmps4
      go_wp2_with (first
        | (go_at_call 12; (with_reducible refine (QL.out _ (Below.refl _ _)).mono ?_); rintro e v1 ⟨rfl, h1⟩; have H1 := Lib.hid h1; clear h1)
        | (go_at_call 9; (with_reducible refine (QE.out _).mono ?_); rintro e v9 ⟨rfl, h1⟩; have H9 := Lib.hid (H1.out.trans (h1.mono H1.out.size)); clear h1))
      go_ret
      exact ⟨rfl, H9.out⟩
  have d1 : decide ((known.length : Int) > 6) = false := decide_eq_false (by omega)
  have d2 : decide (6 < (known.length : Int)) = false := decide_eq_false (by omega)
  by_cases hl6 : l.length ≤ 6
  case neg =>
    have d3 : decide ((l.length : Int) > 6) = true := decide_eq_true (by omega)
    have d4 : decide (6 < (l.length : Int)) = true := decide_eq_true (by omega)
    clear QG QG' hq1 hq2 hq3 w0 w1 w2 HE hc hk6 hl6
    cases q1
    all_goals
      go_enter Tryz.func4, Tryz.ntmps4
      go_wp2_with (first
        | (go_at_call 12; (with_reducible refine (QL.out _ (Below.refl _ _)).mono ?_); rintro e v1 ⟨rfl, h1⟩; have H1 := Lib.hid h1; clear h1)
        | (go_at_call 9; (with_reducible refine (QE.out _).mono ?_); rintro e v9 ⟨rfl, h1⟩; have H9 := Lib.hid (H1.out.trans (h1.mono H1.out.size)); clear h1))
      go_ret
      exact ⟨rfl, H9.out⟩
  have d3 : decide ((l.length : Int) > 6) = false := decide_eq_false (by omega)
  have d4 : decide (6 < (l.length : Int)) = false := decide_eq_false (by omega)
  cases q1 with
  | true =>
    clear QG QG' hq1 hq2 hq3 w0 w1 w2 HE hc hk6 hl6
    go_enter Tryz.func4, Tryz.ntmps4
    go_wp2_with (first
      | (go_at_call 12; (with_reducible refine (QL.out _ (Below.refl _ _)).mono ?_); rintro e v1 ⟨rfl, h1⟩; have H1 := Lib.hid h1; clear h1)
      | (go_at_call 9; (with_reducible refine (QE.out _).mono ?_); rintro e v9 ⟨rfl, h1⟩; have H9 := Lib.hid (H1.out.trans (h1.mono H1.out.size)); clear h1))
    go_ret
    exact ⟨rfl, H9.out⟩
  | false =>
  cases q2 with
  | true =>
    clear QG' hq1 hq2 hq3 w0 w1 w2 HE hc hk6 hl6
    go_enter Tryz.func4, Tryz.ntmps4
    go_wp2_with (first
      | (go_at_call 12; (with_reducible refine (QL.out _ (Below.refl _ _)).mono ?_); rintro e v1 ⟨rfl, h1⟩; have H1 := Lib.hid h1; clear h1)
      | (go_at_call 8; (with_reducible refine (QG.out _ H1.out).mono ?_); rintro e v2 ⟨rfl, h1⟩; have H2 := Lib.hid (H1.out.trans (h1.mono H1.out.size)); clear h1)
      | (go_at_call 9; (with_reducible refine (QE.out _).mono ?_); rintro e v9 ⟨rfl, h1⟩; have H9 := Lib.hid (H2.out.trans (h1.mono H2.out.size)); clear h1))
    go_ret
    exact ⟨rfl, H9.out⟩
  | false =>
  cases q3 with
  | true =>
    clear hq1 hq2 hq3 w0 w1 w2 HE hc hk6 hl6
    go_enter Tryz.func4, Tryz.ntmps4
    go_wp2_with (first
      | (go_at_call 12; (with_reducible refine (QL.out _ (Below.refl _ _)).mono ?_); rintro e v1 ⟨rfl, h1⟩; have H1 := Lib.hid h1; clear h1)
      | (go_at_call 8; (with_reducible refine (QG.out _ H1.out).mono ?_); rintro e v2 ⟨rfl, h1⟩; have H2 := Lib.hid (H1.out.trans (h1.mono H1.out.size)); clear h1)
      | (go_at_call 8; (with_reducible refine (QG'.out _ H2.out).mono ?_); rintro e v3 ⟨rfl, h1⟩; have H3 := Lib.hid (H2.out.trans (h1.mono H2.out.size)); clear h1)
      | (go_at_call 9; (with_reducible refine (QE.out _).mono ?_); rintro e v9 ⟨rfl, h1⟩; have H9 := Lib.hid (H3.out.trans (h1.mono H3.out.size)); clear h1))
    go_ret
    exact ⟨rfl, H9.out⟩
  | false =>
  obtain ⟨hsk, hsk2⟩ := few_args hq2 hk6
  obtain ⟨hsl, hsl2⟩ := few_args hq3 hl6
  obtain ⟨hb1, hb2⟩ := small_env hq1
  have hb3 : ∀ x ∈ b, x.tm.nodes ≤ 1000000 := fun x hx => by have := hb2 x hx; omega
  have QI := Lib.hid (fun (g : Gl) (hm : g ∈ l) (W : World) (h : Below w.heap.size w W) (hg : g.At W) => in_p_at hc b A0 c0 known g A1 c1 W (w0.below h) (by omega) hb3 (w1.below h) hg hk6 hsk (by have := hsl2 g hm; omega))
  have QJ := Lib.hid (fun (g : Gl) (hm : g ∈ l) (W : World) (h : Below w.heap.size w W) (hg : g.At W) => in_r_at rsolves11 hc b A0 c0 known g A1 c1 W (w0.below h) (w1.below h) hg (by omega) (fun k hk => by have := hsk2 k hk; omega) (by have := hsl2 g hm; omega) (by have := app_size hq1 (hsl2 g hm); omega))
  have QA := Lib.hid (fun (W : World) (h : Below w.heap.size w W) => all_p_at hc b A0 c0 known l A1 A2 c1 c2 W (w0.below h) (by omega) hb3 (w1.below h) (w2.below h) hk6 (by omega) hsk hsl)
  have QB := Lib.hid (fun (W : World) (h : Below w.heap.size w W) => all_r_at rsolves11 hc b A0 c0 known l A1 A2 c1 c2 W (w0.below h) (w1.below h) (w2.below h) (by omega) (by omega) (fun k hk => by have := hsk2 k hk; omega) (fun k hk => by have := hsl2 k hk; omega) (fun k hk => by have := app_size hq1 (hsl2 k hk); omega))
  generalize allV can b known l = va at *
  have HL := Lib.hid w2
  clear hq1 hq2 hq3 w0 w1 w2 HE hc hk6 hl6 hsk hsk2 hsl hsl2 hb1 hb2 hb3
  go_enter Tryz.func4, Tryz.ntmps4
  go_upto_region 3 with (first
    | (go_at_call 12; (with_reducible refine (QL.out _ (Below.refl _ _)).mono ?_); rintro e v1 ⟨rfl, h1⟩; have H1 := Lib.hid h1; clear h1)
    | (go_at_call 8; (with_reducible refine (QG.out _ H1.out).mono ?_); rintro e v2 ⟨rfl, h1⟩; have H2 := Lib.hid (H1.out.trans (h1.mono H1.out.size)); clear h1)
    | (go_at_call 8; (with_reducible refine (QG'.out _ H2.out).mono ?_); rintro e v3 ⟨rfl, h1⟩; have H3 := Lib.hid (H2.out.trans (h1.mono H2.out.size)); clear h1))
  clear QL QG QG' H1 H2 d1 d2 d3 d4
  go_wp2_with fail
  go_loopw [7] (fun i wr => ∃ j : Nat, j ≤ l.length ∧ i = .int .i64 j ∧ Hid (Below w.heap.size w wr)) (fun i _ => l.length - (intOf i).toNat)
  case atStart => exact ⟨0, Nat.zero_le _, rfl, H3⟩
  case round =>
    obtain ⟨j, hj, rfl, HB⟩ := hrel
    by_cases hlt : j < l.length
    · obtain ⟨b0, o, rfl, hcs, hat⟩ := (HL.out.below HB.out).get hlt
      have QI1 := Lib.hid (fun W (h : Below w.heap.size w W) (hg : (l.getD j default).At W) => QI.out _ (gl_getD_mem hlt) W h hg)
      have QJ1 := Lib.hid (fun W (h : Below w.heap.size w W) (hg : (l.getD j default).At W) => QJ.out _ (gl_getD_mem hlt) W h hg)
      generalize inV can b known (l.getD j default) = v at *
      generalize l.getD j default = x at *
      have P1 := Lib.hid (fun dd os => QI1.out (Go.Sort.grow (redrawn wr dd) os) (HB.out.trans ((below_regrown wr dd os).mono HB.out.size)) (hat.below (below_regrown wr dd os)))
      have P2 := Lib.hid (fun dd os => QJ1.out (Go.Sort.grow (redrawn wr dd) os) (HB.out.trans ((below_regrown wr dd os).mono HB.out.size)) (hat.below (below_regrown wr dd os)))
      have k0 := cell_regrown (hcs 0 _ rfl)
      have k1 := cell_regrown (hcs 1 _ rfl)
      have k2 := cell_regrown (hcs 2 _ rfl)
      simp only [Nat.add_zero] at k0
      clear hcs hat QI1 QJ1
      obtain ⟨xo, xs, xA, xc, xa⟩ := x
      simp only at k0 k1 k2
      go_wp2_with fail
      refine wp_region_quiet_below (by kernel_rfl) (by kernel_rfl) ?_
      repeat (go_big_quiet_step (first
        | (go_at_call 13; exact Calls.regrown_of (P1.out _ _))
        | (go_at_call 14; exact Calls.regrown_of (P2.out _ _)) | fail))
      refine wpQuiet_nil ?_
      intro w4 hw'
      have HB4 := Lib.hid (HB.out.trans ((regrown_below hw').mono HB.out.size))
      clear hw' k0 k1 k2
      go_wp2_with fail
      go_roundw
      case rel => exact ⟨j + 1, by omega, by go_num, HB4⟩
      case measure => simp [intOf]; omega
    · obtain rfl : j = l.length := by omega
      go_wp2_with (first
        | (go_at_call 15; (with_reducible refine (QA.out _ HB.out).mono ?_); rintro e v4 ⟨rfl, h1⟩; have H4 := Lib.hid (HB.out.trans (h1.mono HB.out.size)); clear h1)
        | (go_at_call 16; (with_reducible refine (QB.out _ H4.out).mono ?_); rintro e v5 ⟨rfl, h1⟩; have H5 := Lib.hid (H4.out.trans (h1.mono H4.out.size)); clear h1)
        | (go_at_call 9; (with_reducible refine (QE.out _).mono ?_); rintro e v9 ⟨rfl, h1⟩; have H9 := Lib.hid (H5.out.trans (h1.mono H5.out.size)); clear h1))
      go_ret
      exact ⟨by simp, H9.out⟩
end Go.Proofs.YtgpglgehlnfggaaGreat.askIns
