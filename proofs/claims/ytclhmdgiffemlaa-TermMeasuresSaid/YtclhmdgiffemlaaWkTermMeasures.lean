/-
  The walk of TermMeasures.
-/
import Derived.Test.YtclhmdgiffemlaaTmOne
import Derived.Test.YtclhmdgiffemlaaTmTwo
import Derived.Test.YtclhmdgiffemlaaTmCon
import Derived.Test.YtclhmdgiffemlaaTmPair
import Derived.Test.YtclhmdgiffemlaaTmGround
import Derived.Test.YtclhmdgiffemlaaTmSize
import Derived.BigQuiet
import Derived.Lib.QuietBelow
import Derived.Deep.RegionHeld3
namespace Go.Proofs.Ytclhmdgiffemlaa.termMeasures
open Go.ChangeShapes Go.WideShapes Go.ChangeAt Go.RowKit Go.Sort
set_option linter.unusedVariables false

set_option maxHeartbeats 16000000 in
theorem walk (a0 : Tm) (a1 : Int) (w : World) (w0 : a0.At w) (w1 : (Lit.int .i64 a1).wf = true) :
    Calls Try.prog 4 #[a0.val, .int .i64 a1] w fun e w' => e = .returned (.bool true) ∧ Below w.heap.size w w' := by
  obtain ⟨g, hg⟩ : ∃ g, decide (weigh [a0] 600 64 < 0) = g := ⟨_, rfl⟩
  have QG := Lib.hid (fun (W : World) (b : Nat) (hb : b = W.heap.size) (h : Below w.heap.size w W) => great_single a0 600 W b hb (w0.below h) (by omega) (by omega) hg)
  cases g
  · have hn := not_great hg
    have hs := (size_nodes.1 a0).1
    have hz : a0.size ≤ 1000000 := by simp only [nodesL] at hn; omega
    have hd : a0.depth ≤ 1000000 := Nat.le_trans (depth_size.1 a0) hz
    clear hg hn hs
    have Q1 := Lib.hid (fun W (h : Below w.heap.size w W) => size_at a0 W (w0.below h) hz)
    have Q2 := Lib.hid (fun W (h : Below w.heap.size w W) => ref_size_at a0 W (w0.below h) hz)
    have Q3 := Lib.hid (fun W (h : Below w.heap.size w W) => depth_at a0 W (w0.below h) hd)
    have Q4 := Lib.hid (fun W (h : Below w.heap.size w W) => ref_depth_at a0 W (w0.below h) hd)
    have QV := Lib.hid (fun W (h : Below w.heap.size w W) => vars_call a0 W (w0.below h) hz)
    have QR := Lib.hid (fun W (h : Below w.heap.size w W) => ref_vars_at a0 W (w0.below h) hz)
    obtain ⟨r, hr⟩ : ∃ r, decide (a0.occ = []) = r := ⟨_, rfl⟩
    obtain ⟨o, ho⟩ : ∃ r, decide (a1 ∈ a0.occ) = r := ⟨_, rfl⟩
    have Q5 := Lib.hid (fun W (h : Below w.heap.size w W) => ground_at a0 W (w0.below h) hr)
    have Q6 := Lib.hid (fun W (h : Below w.heap.size w W) => ref_ground_at a0 W (w0.below h) hz hr)
    have Q7 := Lib.hid (fun W (h : Below w.heap.size w W) => occurs_at a1 a0 W (w0.below h) ho)
    have Q8 := Lib.hid (fun W (h : Below w.heap.size w W) => ref_occurs_at a1 a0 W (w0.below h) hz ho)
    have hvl : (addAll [] a0.occ).length ≤ 9223372036854775807 := by
      have h1 := addAll_length [] a0.occ
      have h2 := occ_length.1 a0
      simp only [List.length_nil] at h1
      omega
    clear hr ho hz hd
    generalize addAll [] a0.occ = xs at *
    generalize a0.size = sz at *
    generalize a0.depth = dp at *
    have PI := Lib.hid (fun (B1 B2 : Option Addr) (c1 c2 : Nat) (W : World) (h1 : Ints W B1 xs) (h2 : Ints W B2 xs) => same_ints_same B1 B2 xs c1 c2 W h1 h2 hvl)
    clear w0 hvl
    obtain ⟨k, n, s, A, c, a⟩ := a0
    show Calls Try.prog 4 #[.agg #[.int .i64 k, .int .i64 n, .string s, .slice A a.length c], .int .i64 a1] w _
    go_enter Try.func4, Try.ntmps4
    go_wp2_with fail
    refine (QG.out _ _ (by simp) (below1 _ _)).mono ?_
    rintro e w4 ⟨rfl, hb⟩
    obtain ⟨d0, d1, d2, d3, hb4⟩ := box4 hb
    clear hb QG
    go_wp2_with fail
    have P1 := Lib.hid (fun W (h : Below w4.heap.size w4 W) => Q1.out W (hb4.trans (h.mono hb4.size)))
    have P2 := Lib.hid (fun W (h : Below w4.heap.size w4 W) => Q2.out W (hb4.trans (h.mono hb4.size)))
    have P3 := Lib.hid (fun W (h : Below w4.heap.size w4 W) => Q3.out W (hb4.trans (h.mono hb4.size)))
    have P4 := Lib.hid (fun W (h : Below w4.heap.size w4 W) => Q4.out W (hb4.trans (h.mono hb4.size)))
    have P5 := Lib.hid (fun W (h : Below w4.heap.size w4 W) => Q5.out W (hb4.trans (h.mono hb4.size)))
    have P6 := Lib.hid (fun W (h : Below w4.heap.size w4 W) => Q6.out W (hb4.trans (h.mono hb4.size)))
    have P7 := Lib.hid (fun W (h : Below w4.heap.size w4 W) => Q7.out W (hb4.trans (h.mono hb4.size)))
    have P8 := Lib.hid (fun W (h : Below w4.heap.size w4 W) => Q8.out W (hb4.trans (h.mono hb4.size)))
    have PV := Lib.hid (fun W (h : Below w4.heap.size w4 W) => QV.out W (hb4.trans (h.mono hb4.size)))
    have PR := Lib.hid (fun W (h : Below w4.heap.size w4 W) => QR.out W (hb4.trans (h.mono hb4.size)))
    have HK := Lib.hid (fun W (h : Below w4.heap.size w4 W) => (⟨keepc h d0, keepc h d1, keepc h d2, keepc h d3, h⟩ : (fun W => W.cell? ⟨w.heap.size, 0, none⟩ = some (.int .i64 k) ∧ W.cell? ⟨w.heap.size, 1, none⟩ = some (.int .i64 n) ∧ W.cell? ⟨w.heap.size, 2, none⟩ = some (.string s) ∧ W.cell? ⟨w.heap.size, 3, none⟩ = some (.slice A a.length c) ∧ Below w4.heap.size w4 W) W))
    have HF := Lib.hid (fun W (h : Below w4.heap.size w4 W) => hb4.trans (h.mono hb4.size))
    clear Q1 Q2 Q3 Q4 Q5 Q6 Q7 Q8 QV QR hb4
    first | (go_region_held3 (fun W => W.cell? ⟨w.heap.size, 0, none⟩ = some (.int .i64 k) ∧ W.cell? ⟨w.heap.size, 1, none⟩ = some (.int .i64 n) ∧ W.cell? ⟨w.heap.size, 2, none⟩ = some (.string s) ∧ W.cell? ⟨w.heap.size, 3, none⟩ = some (.slice A a.length c) ∧ Below w4.heap.size w4 W) (exact HK.out _ (by first | assumption | exact (Below.refl _ _).drew | exact (Below.refl _ _))) (first
      | (go_at_call 14; have hH := (‹_ ∧ _ ∧ _ ∧ _ ∧ Below _ _ _›).2.2.2.2; refine (P1.out _ hH).mono ?_; rintro e w2 ⟨rfl, hb1⟩; have hI := hH.trans (hb1.mono hH.size); clear hb1 hH)
      | (go_at_call 15; have hH := (‹_ ∧ _ ∧ _ ∧ _ ∧ Below _ _ _›).2.2.2.2; refine (P2.out _ hH).mono ?_; rintro e w2 ⟨rfl, hb1⟩; have hI := hH.trans (hb1.mono hH.size); clear hb1 hH)
      | (go_at_call 16; have hH := (‹_ ∧ _ ∧ _ ∧ _ ∧ Below _ _ _›).2.2.2.2; refine (P3.out _ hH).mono ?_; rintro e w2 ⟨rfl, hb1⟩; have hI := hH.trans (hb1.mono hH.size); clear hb1 hH)
      | (go_at_call 17; have hH := (‹_ ∧ _ ∧ _ ∧ _ ∧ Below _ _ _›).2.2.2.2; refine (P4.out _ hH).mono ?_; rintro e w2 ⟨rfl, hb1⟩; have hI := hH.trans (hb1.mono hH.size); clear hb1 hH)
      | (go_at_call 19; have hH := (‹_ ∧ _ ∧ _ ∧ _ ∧ Below _ _ _›).2.2.2.2; refine (PV.out _ hH).mono ?_; rintro e w2 ⟨v, rfl, ho, hb1⟩; obtain ⟨B1, c1, rfl, hiP, _⟩ := ho.form; have hI := hH.trans (hb1.mono hH.size); (try replace hiR := hiR.below hb1); clear hb1 hH ho)
      | (go_at_call 20; have hH := (‹_ ∧ _ ∧ _ ∧ _ ∧ Below _ _ _›).2.2.2.2; refine (PR.out _ hH).mono ?_; rintro e w2 ⟨v, rfl, ho, hb1⟩; obtain ⟨B2, c2, rfl, hiR, _⟩ := ho.form; have hI := hH.trans (hb1.mono hH.size); (try replace hiP := hiP.below hb1); clear hb1 hH ho)
      | (go_at_call 18; have hH := (‹_ ∧ _ ∧ _ ∧ _ ∧ Below _ _ _›).2.2.2.2; refine (PI.out _ _ _ _ _ hiP hiR).mono ?_; rintro e w2 ⟨rfl, hb1⟩; have hI := hH.trans (hb1.mono hH.size); clear hb1 hH hiP hiR))) | fail
    all_goals clear P1 P2 P3 P4 PV PR PI
    all_goals go_wp2_with fail
    all_goals (have hS := ‹_ ∧ _ ∧ _ ∧ _ ∧ Below _ _ _›; clear d0 d1 d2 d3; obtain ⟨d0, d1, d2, d3, hb5⟩ := hS)
    all_goals (have kb0 := cell_regrown d0; have kb1 := cell_regrown d1; have kb2 := cell_regrown d2; have kb3 := cell_regrown d3; refine wp_region_quiet_below (by kernel_rfl) (by kernel_rfl) ?_; (repeat (go_big_quiet_step (first | (go_at_call 21; exact Calls.regrown_of (P5.out _ (hb5.trans ((below_regrown _ _ _).mono hb5.size)))) | (go_at_call 22; exact Calls.regrown_of (P6.out _ (hb5.trans ((below_regrown _ _ _).mono hb5.size)))) | (go_at_call 23; exact Calls.regrown_of (P7.out _ (hb5.trans ((below_regrown _ _ _).mono hb5.size)))) | (go_at_call 24; exact Calls.regrown_of (P8.out _ (hb5.trans ((below_regrown _ _ _).mono hb5.size)))) | (go_at_call 13; exact Calls.regrown_of (live_at _))))); refine wpQuiet_nil ?_; intro w3 hw'; replace hb5 := hb5.trans ((regrown_below hw').mono hb5.size); clear hw' kb0 kb1 kb2 kb3; go_wp2_with fail)
    all_goals go_ret
    all_goals exact ⟨by simp, HF.out _ hb5⟩
  · clear hg
    obtain ⟨k, n, s, A, c, a⟩ := a0
    clear w0
    show Calls Try.prog 4 #[.agg #[.int .i64 k, .int .i64 n, .string s, .slice A a.length c], .int .i64 a1] w _
    go_enter Try.func4, Try.ntmps4
    go_wp2_with fail
    refine (QG.out _ _ (by simp) (below1 _ _)).mono ?_
    rintro e w4 ⟨rfl, hb⟩
    go_wp2_with fail
    go_ret
    exact ⟨rfl, (below1 _ _).trans (hb.mono (by simp))⟩
end Go.Proofs.Ytclhmdgiffemlaa.termMeasures
