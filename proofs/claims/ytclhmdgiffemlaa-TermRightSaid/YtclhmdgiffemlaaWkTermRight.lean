/-
  The walk of TermRight.
-/
import Derived.Test.YtclhmdgiffemlaaTmOpen
import Derived.Deep.RegionWith
import Derived.Deep.RegionHeld3
namespace Go.Proofs.Ytclhmdgiffemlaa.termRight
open Go.ChangeShapes Go.WideShapes Go.ChangeAt Go.RowKit Go.Sort
set_option linter.unusedVariables false

set_option maxHeartbeats 4000000 in
theorem walk (a0 : Tm) (w : World) (w0 : a0.At w) :
    Calls Try.prog 3 #[a0.val] w fun e w' => e = .returned (.bool true) ∧ Below w.heap.size w w' := by
  obtain ⟨g, hg⟩ : ∃ g, decide (weigh [a0] 600 64 < 0) = g := ⟨_, rfl⟩
  have QG := Lib.hid (fun (W W' : World) (b : Nat) (hb : b = W.heap.size) (h : Below w.heap.size w W) h' => great_one a0 600 W W' b hb (w0.below h) h' (by omega) (by omega) hg)
  have QL := Lib.hid (fun W (_ : Below w.heap.size w W) => live_at W)
  cases g
  · have hn := not_great hg
    have hs := (size_nodes.1 a0).1
    have hsz : a0.size ≤ 1000000 := by simp only [nodesL] at hn; omega
    obtain ⟨r, hr⟩ : ∃ r, a0.right = r := ⟨_, rfl⟩
    have Q1 := Lib.hid (fun W (h : Below w.heap.size w W) => right_tm_at a0 W (w0.below h) hr)
    have Q2 := Lib.hid (fun W (h : Below w.heap.size w W) => ref_right_tm_at a0 W (w0.below h) hsz hr)
    clear hg hn hs hr w0
    obtain ⟨k, n, s, A, c, a⟩ := a0
    have BX := Lib.hid (fun W (h : Below (w.alloc (.cells #[.int .i64 k, .int .i64 n, .string s, .slice A a.length c] 24)).heap.size (w.alloc (.cells #[.int .i64 k, .int .i64 n, .string s, .slice A a.length c] 24)) W) => (below1 w _).trans (h.mono (by simp)))
    show Calls Try.prog 3 #[.agg #[.int .i64 k, .int .i64 n, .string s, .slice A a.length c]] w _
    go_enter Try.func3, Try.ntmps3
    go_wp2_with fail
    first | (go_region_held3 (fun W => W.cell? ⟨w.heap.size, 0, none⟩ = some (.int .i64 k) ∧ W.cell? ⟨w.heap.size, 1, none⟩ = some (.int .i64 n) ∧ W.cell? ⟨w.heap.size, 2, none⟩ = some (.string s) ∧ W.cell? ⟨w.heap.size, 3, none⟩ = some (.slice A a.length c) ∧ Below (w.alloc (.cells #[.int .i64 k, .int .i64 n, .string s, .slice A a.length c] 24)).heap.size (w.alloc (.cells #[.int .i64 k, .int .i64 n, .string s, .slice A a.length c] 24)) W) (exact held4 (by first | assumption | exact (Below.refl _ _).drew | exact (Below.refl _ _) | (have hh := ‹_ ∧ _ ∧ _ ∧ _ ∧ Below _ _ _›; exact hh.2.2.2.2.alloc hh.2.2.2.2.size _))) (first
      | (go_at_call 10; have hH := (‹_ ∧ _ ∧ _ ∧ _ ∧ Below _ _ _›).2.2.2.2; refine (QG.out (w.alloc (.cells #[.int .i64 k, .int .i64 n, .string s, .slice A a.length c] 24)) _ _ (by simp) (below1 _ _) ((Below.refl _ _).drew)).mono ?_; rintro e w1 ⟨rfl, hb1⟩; have hI := hH.trans (hb1.mono hH.size); clear hb1 hH)
      | (go_at_call 11; have hH := (‹_ ∧ _ ∧ _ ∧ _ ∧ Below _ _ _›).2.2.2.2; refine (Q1.out _ (BX.out _ hH)).mono ?_; rintro e w2 ⟨rfl, hb1⟩; have hI := hH.trans (hb1.mono hH.size); clear hb1 hH)
      | (go_at_call 12; have hH := (‹_ ∧ _ ∧ _ ∧ _ ∧ Below _ _ _›).2.2.2.2; refine (Q2.out _ (BX.out _ hH)).mono ?_; rintro e w2 ⟨rfl, hb1⟩; have hI := hH.trans (hb1.mono hH.size); clear hb1 hH)
      | (go_at_call 13; have hH := (‹_ ∧ _ ∧ _ ∧ _ ∧ Below _ _ _›).2.2.2.2; refine (QL.out _ (BX.out _ hH)).mono ?_; rintro e w2 ⟨rfl, hb1⟩; have hI := hH.trans (hb1.mono hH.size); clear hb1 hH))) | fail
    all_goals go_wp2_with fail
    all_goals go_ret
    all_goals (refine ⟨?_, BX.out _ (by assumption)⟩; simp)
  · clear hg QL w0
    obtain ⟨k, n, s, A, c, a⟩ := a0
    show Calls Try.prog 3 #[.agg #[.int .i64 k, .int .i64 n, .string s, .slice A a.length c]] w _
    go_enter Try.func3, Try.ntmps3
    go_wp2_with fail
    first | (go_region_with (first
      | (go_at_call 10; refine (QG.out (w.alloc (.cells #[.int .i64 k, .int .i64 n, .string s, .slice A a.length c] 24)) _ _ (by simp) (below1 _ _) ((Below.refl _ _).drew)).mono ?_; rintro e w1 ⟨rfl, hb1⟩)
      | (refine Eq.mpr (if_neg (fun h => absurd (show (none : Option Bool) = some true from h) (by simp))) ?_))) | fail
    all_goals go_wp2_with fail
    all_goals go_ret
    all_goals (refine ⟨?_, (below2 _ _ _).trans ((undrew hb1).mono (by simp; omega))⟩; simp [Act.put])
end Go.Proofs.Ytclhmdgiffemlaa.termRight
