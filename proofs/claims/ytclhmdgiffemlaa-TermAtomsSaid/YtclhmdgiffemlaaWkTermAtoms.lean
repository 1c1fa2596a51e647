/-
  The walk of TermAtoms.
-/
import Derived.Test.YtclhmdgiffemlaaTmTwo
import Derived.Test.YtclhmdgiffemlaaTmCon
import Derived.Test.YtclhmdgiffemlaaTmGreat
import Derived.Test.YtclhmdgiffemlaaTmPair
import Derived.BigQuiet
import Derived.Lib.QuietBelow
import Derived.Deep.RegionHeld3
namespace Go.Proofs.Ytclhmdgiffemlaa.termAtoms
open Go.ChangeShapes Go.WideShapes Go.ChangeAt Go.RowKit Go.Sort
set_option linter.unusedVariables false

set_option maxHeartbeats 16000000 in
theorem walk (a0 : Am) (a1 : Am) (w : World) (w0 : a0.At w) (w1 : a1.At w) :
    Calls Try.prog 8 #[a0.val, a1.val] w fun e w' => e = .returned (.bool true) ∧ Below w.heap.size w w' := by
  obtain ⟨g, hg⟩ : ∃ g, decide (weighN a1.name a1.args (weighN a0.name a0.args 600) < 0) = g := ⟨_, rfl⟩
  have QG := Lib.hid (fun (W : World) (b : Nat) (hb : b = W.heap.size) (h : Below w.heap.size w W) => great_atoms_at a0 a1 W b hb (w0.below h) (w1.below h) hg)
  cases g
  · obtain ⟨hz0, hz1⟩ : sizeL a0.args ≤ 1000000 ∧ sizeL a1.args ≤ 1000000 := not_great2 hg
    clear hg
    obtain ⟨r, hr⟩ : ∃ r, atomB a0.name.data.toList a0.args = r := ⟨_, rfl⟩
    have Q1 := Lib.hid (fun W (h : Below w.heap.size w W) => right_atom_at a0 W (w0.below h) hr)
    have Q2 := Lib.hid (fun W (h : Below w.heap.size w W) => ref_right_atom_at a0 W (w0.below h) hz0 hr)
    obtain ⟨z, hz⟩ : ∃ r, cmpA a0 a1 = r := ⟨_, rfl⟩
    obtain ⟨y, hy⟩ : ∃ r, cmpA a1 a0 = r := ⟨_, rfl⟩
    have Q3 := Lib.hid (fun W (h : Below w.heap.size w W) => compare_atom_at a0 a1 W (w0.below h) (w1.below h) hz)
    have Q4 := Lib.hid (fun W (h : Below w.heap.size w W) => ref_compare_atom_at a0 a1 W (w0.below h) (w1.below h) hz)
    have Q5 := Lib.hid (fun W (h : Below w.heap.size w W) => compare_atom_at a1 a0 W (w1.below h) (w0.below h) hy)
    have Q6 := Lib.hid (fun W (h : Below w.heap.size w W) => ref_compare_atom_at a1 a0 W (w1.below h) (w0.below h) hy)
    obtain ⟨x, hx⟩ : ∃ r, (cmpA a0 a1 == 0) = r := ⟨_, rfl⟩
    have Q7 := Lib.hid (fun W (h : Below w.heap.size w W) => same_atom_at a0 a1 W (w0.below h) (w1.below h) hx)
    have Q8 := Lib.hid (fun W (h : Below w.heap.size w W) => ref_same_atom_at a0 a1 W (w0.below h) (w1.below h) hx)
    have Q9 := Lib.hid (fun W (h : Below w.heap.size w W) => same_atom_at a0 a0 W (w0.below h) (w0.below h) (r := true) (by rw [cmpA_self]; rfl))
    have QV := Lib.hid (fun W (h : Below w.heap.size w W) => atom_vars_at a0 W (w0.below h) hz0)
    have QR := Lib.hid (fun W (h : Below w.heap.size w W) => ref_atom_vars_at a0 W (w0.below h) hz0)
    clear hz hy hx hr
    have hvl : (addAll [] (occL a0.args)).length ≤ 9223372036854775807 := by
      have h1 := addAll_length [] (occL a0.args)
      have h2 := occ_length.2 a0.args
      simp only [List.length_nil] at h1
      omega
    generalize addAll [] (occL a0.args) = xs at *
    have PI := Lib.hid (fun (B1 B2 : Option Addr) (c1 c2 : Nat) (W : World) (h1 : Ints W B1 xs) (h2 : Ints W B2 xs) => same_ints_same B1 B2 xs c1 c2 W h1 h2 hvl)
    clear w0 w1 hz0 hz1 hvl
    obtain ⟨s, A, c, a⟩ := a0
    obtain ⟨s', A', c', a'⟩ := a1
    show Calls Try.prog 8 #[.agg #[.string s, .slice A a.length c], .agg #[.string s', .slice A' a'.length c']] w _
    go_enter Try.func8, Try.ntmps8
    go_wp2_with fail
    refine (QG.out _ _ (by simp) (below2 _ _ _)).mono ?_
    rintro e w4 ⟨rfl, hb⟩
    obtain ⟨⟨d0, d1⟩, ⟨g0, g1⟩, hb4⟩ := box2 hb
    clear hb QG
    go_wp2_with fail
    have P1 := Lib.hid (show ∀ W, Below w4.heap.size w4 W → Calls Try.prog 32 #[.agg #[.string s, .slice A a.length c]] W fun e w' => e = .returned (.bool r) ∧ Below W.heap.size W w' from fun W h => Q1.out W (hb4.trans (h.mono hb4.size)))
    have P2 := Lib.hid (show ∀ W, Below w4.heap.size w4 W → Calls Try.prog 33 #[.agg #[.string s, .slice A a.length c]] W fun e w' => e = .returned (.bool r) ∧ Below W.heap.size W w' from fun W h => Q2.out W (hb4.trans (h.mono hb4.size)))
    have P3 := Lib.hid (show ∀ W, Below w4.heap.size w4 W → Calls Try.prog 36 #[.agg #[.string s, .slice A a.length c], .agg #[.string s', .slice A' a'.length c']] W fun e w' => e = .returned (.int .i64 z) ∧ Below W.heap.size W w' from fun W h => Q3.out W (hb4.trans (h.mono hb4.size)))
    have P4 := Lib.hid (show ∀ W, Below w4.heap.size w4 W → Calls Try.prog 37 #[.agg #[.string s, .slice A a.length c], .agg #[.string s', .slice A' a'.length c']] W fun e w' => e = .returned (.int .i64 z) ∧ Below W.heap.size W w' from fun W h => Q4.out W (hb4.trans (h.mono hb4.size)))
    have P5 := Lib.hid (show ∀ W, Below w4.heap.size w4 W → Calls Try.prog 36 #[.agg #[.string s', .slice A' a'.length c'], .agg #[.string s, .slice A a.length c]] W fun e w' => e = .returned (.int .i64 y) ∧ Below W.heap.size W w' from fun W h => Q5.out W (hb4.trans (h.mono hb4.size)))
    have P6 := Lib.hid (show ∀ W, Below w4.heap.size w4 W → Calls Try.prog 37 #[.agg #[.string s', .slice A' a'.length c'], .agg #[.string s, .slice A a.length c]] W fun e w' => e = .returned (.int .i64 y) ∧ Below W.heap.size W w' from fun W h => Q6.out W (hb4.trans (h.mono hb4.size)))
    have P7 := Lib.hid (show ∀ W, Below w4.heap.size w4 W → Calls Try.prog 34 #[.agg #[.string s, .slice A a.length c], .agg #[.string s', .slice A' a'.length c']] W fun e w' => e = .returned (.bool x) ∧ Below W.heap.size W w' from fun W h => Q7.out W (hb4.trans (h.mono hb4.size)))
    have P8 := Lib.hid (show ∀ W, Below w4.heap.size w4 W → Calls Try.prog 35 #[.agg #[.string s, .slice A a.length c], .agg #[.string s', .slice A' a'.length c']] W fun e w' => e = .returned (.bool x) ∧ Below W.heap.size W w' from fun W h => Q8.out W (hb4.trans (h.mono hb4.size)))
    clear Q1 Q2 Q3 Q4 Q5 Q6 Q7 Q8
    have hb6 := hb4
    have kd0 := cell_regrown d0
    have kd1 := cell_regrown d1
    have kg0 := cell_regrown g0
    have kg1 := cell_regrown g1
    refine wp_region_quiet_below (by kernel_rfl) (by kernel_rfl) ?_
    repeat (go_big_quiet_step (first | (go_at_call 32; first | (with_reducible exact Calls.regrown_of (P1.out _ (below_regrown _ _ _)))) | (go_at_call 33; first | (with_reducible exact Calls.regrown_of (P2.out _ (below_regrown _ _ _)))) | (go_at_call 36; first | (with_reducible exact Calls.regrown_of (P3.out _ (below_regrown _ _ _))) | (with_reducible exact Calls.regrown_of (P5.out _ (below_regrown _ _ _)))) | (go_at_call 37; first | (with_reducible exact Calls.regrown_of (P4.out _ (below_regrown _ _ _))) | (with_reducible exact Calls.regrown_of (P6.out _ (below_regrown _ _ _)))) | (go_at_call 34; first | (with_reducible exact Calls.regrown_of (P7.out _ (below_regrown _ _ _)))) | (go_at_call 35; first | (with_reducible exact Calls.regrown_of (P8.out _ (below_regrown _ _ _))))))
    refine wpQuiet_nil ?_
    intro w5 hw'
    replace hb6 := hb6.trans ((regrown_below hw').mono hb6.size)
    have hq := regrown_below hw'
    clear hw' kd0 kd1 kg0 kg1
    replace d0 := keepc hq d0; replace d1 := keepc hq d1; replace g0 := keepc hq g0; replace g1 := keepc hq g1
    clear hq
    clear P1 P2 P3 P4 P5 P6 P7 P8 hb4
    go_wp2_with fail
    have PV := Lib.hid (fun W (h : Below w5.heap.size w5 W) => QV.out W (hb6.trans (h.mono hb6.size)))
    have PR := Lib.hid (fun W (h : Below w5.heap.size w5 W) => QR.out W (hb6.trans (h.mono hb6.size)))
    have PS := Lib.hid (fun W (h : Below w5.heap.size w5 W) => Q9.out W (hb6.trans (h.mono hb6.size)))
    have HK := Lib.hid (fun W (h : Below w5.heap.size w5 W) => (⟨keepc h d0, keepc h d1, h⟩ : (fun W => W.cell? ⟨w.heap.size, 0, none⟩ = some (.string s) ∧ W.cell? ⟨w.heap.size, 1, none⟩ = some (.slice A a.length c) ∧ Below w5.heap.size w5 W) W))
    have HF := Lib.hid (fun W (h : Below w5.heap.size w5 W) => hb6.trans (h.mono hb6.size))
    clear QV QR Q9 g0 g1 hb6
    first | (go_region_held3 (fun W => W.cell? ⟨w.heap.size, 0, none⟩ = some (.string s) ∧ W.cell? ⟨w.heap.size, 1, none⟩ = some (.slice A a.length c) ∧ Below w5.heap.size w5 W) (exact HK.out _ (by first | assumption | exact (Below.refl _ _).drew | exact (Below.refl _ _))) (first
      | (go_at_call 38; have hH := (‹_ ∧ _ ∧ Below _ _ _›).2.2; refine (PV.out _ hH).mono ?_; rintro e w2 ⟨v, rfl, ho, hb1⟩; obtain ⟨B1, c1, rfl, hiP, _⟩ := ho.form; have hI := hH.trans (hb1.mono hH.size); (try replace hiR := hiR.below hb1); clear hb1 hH ho)
      | (go_at_call 39; have hH := (‹_ ∧ _ ∧ Below _ _ _›).2.2; refine (PR.out _ hH).mono ?_; rintro e w2 ⟨v, rfl, ho, hb1⟩; obtain ⟨B2, c2, rfl, hiR, _⟩ := ho.form; have hI := hH.trans (hb1.mono hH.size); (try replace hiP := hiP.below hb1); clear hb1 hH ho)
      | (go_at_call 18; have hH := (‹_ ∧ _ ∧ Below _ _ _›).2.2; refine (PI.out _ _ _ _ _ hiP hiR).mono ?_; rintro e w2 ⟨rfl, hb1⟩; have hI := hH.trans (hb1.mono hH.size); clear hb1 hH hiP hiR)
      | (go_at_call 34; have hH := (‹_ ∧ _ ∧ Below _ _ _›).2.2; refine (PS.out _ hH).mono ?_; rintro e w2 ⟨rfl, hb1⟩; have hI := hH.trans (hb1.mono hH.size); (try replace hiP := hiP.below hb1); (try replace hiR := hiR.below hb1); clear hb1 hH)
      | (go_at_call 13; have hH := (‹_ ∧ _ ∧ Below _ _ _›).2.2; refine (live_at _).mono ?_; rintro e w2 ⟨rfl, hb1⟩; have hI := hH.trans (hb1.mono hH.size); clear hb1 hH))) | fail
    all_goals go_wp2_with fail
    all_goals go_ret
    all_goals (refine ⟨?_, HF.out _ (by first | assumption | exact (‹_ ∧ _ ∧ Below _ _ _›).2.2)⟩; simp)
  · clear hg
    obtain ⟨s, A, c, a⟩ := a0
    obtain ⟨s', A', c', a'⟩ := a1
    clear w0 w1
    show Calls Try.prog 8 #[.agg #[.string s, .slice A a.length c], .agg #[.string s', .slice A' a'.length c']] w _
    go_enter Try.func8, Try.ntmps8
    go_wp2_with fail
    refine (QG.out _ _ (by simp) (below2 _ _ _)).mono ?_
    rintro e w4 ⟨rfl, hb⟩
    go_wp2_with fail
    go_ret
    exact ⟨rfl, (below2 _ _ _).trans (hb.mono (by simp; omega))⟩
end Go.Proofs.Ytclhmdgiffemlaa.termAtoms
