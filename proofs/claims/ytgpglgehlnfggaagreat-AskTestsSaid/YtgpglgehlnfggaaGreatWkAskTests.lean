/-
  WkAskTests.
-/
import Derived.Test.YtgpglgehlnfggaaGreatMe20
import Derived.Test.YtgpglgehlnfggaaGreatMe26
import Derived.Test.YtgpglgehlnfggaaGreatMe29
namespace Go.Proofs.YtgpglgehlnfggaaGreat.askTests
open Go.ChangeShapes Go.WideShapes Go.ChangeAt Go.RowKit Go.Sort
set_option linter.unusedVariables false
set_option maxHeartbeats 16000000 in
set_option maxRecDepth 100000 in
theorem walk (HE : PExample) (a0 : Gl) (w : World) (w0 : a0.At w) :
    Calls Tryz.prog 3 #[a0.val] w fun e w' => e = .returned (.bool true) ∧ Below w.heap.size w w' := by
  obtain ⟨can, hc⟩ := cans
  obtain ⟨op, s, A, c, l⟩ := a0
  obtain ⟨q, hq⟩ : ∃ q, decide (weighGl [(⟨op, s, A, c, l⟩ : Gl)] 450 < 0) = q := ⟨_, rfl⟩
  have B0 := Lib.hid (show ∀ o, Below w.heap.size w (w.alloc o) from fun o => (Below.refl _ _).alloc (Nat.le_refl _) o)
  have QG := Lib.hid (fun (W : World) (b : Nat) (hb : b = W.heap.size) (h : Below w.heap.size w W) => show Calls Tryz.prog 8 #[.slice (some ⟨b, 0, none⟩) 1 1, .int .i64 450] (W.alloc (.cells #[.int .i64 op, .string s, .slice A l.length c] 24)) (fun e w' => e = .returned (.bool q) ∧ Below W.heap.size W w') from great_g1 ⟨op, s, A, c, l⟩ 450 W b hb (w0.below h) (by omega) (by omega) hq)
  have QP := Lib.hid (fun (W : World) (h : Below w.heap.size w W) => show Calls Tryz.prog 10 #[.agg #[.int .i64 op, .string s, .slice A l.length c]] W (fun e w' => e = .returned (.int .i64 (testV can op s l)) ∧ Below W.heap.size W w') from test_p_at hc ⟨op, s, A, c, l⟩ W (w0.below h))
  have QR := Lib.hid (fun (hz : sizeL l ≤ 1000000) (W : World) (h : Below w.heap.size w W) => show Calls Tryz.prog 11 #[.agg #[.int .i64 op, .string s, .slice A l.length c]] W (fun e w' => e = .returned (.int .i64 (testV can op s l)) ∧ Below W.heap.size W w') from test_r_at rsolves11 hc ⟨op, s, A, c, l⟩ W (w0.below h) hz)
  have HQ := Lib.hid (fun (h : q = false) => show sizeL l ≤ 1000000 from by
    have h1 := (gl_nodes (hq.trans h)).2 ⟨op, s, A, c, l⟩ (List.mem_singleton.2 rfl)
    have h2 := size_nodes.2 l
    simp only at h1
    omega)
  have QE := Lib.hid (show ∀ W : World, Calls Tryz.prog 9 #[] W (fun e w' => e = .returned (.bool true) ∧ Below W.heap.size W w') from HE)
  obtain ⟨v, hv⟩ : ∃ v, testV can op s l = v := ⟨_, rfl⟩
  rw [hv] at QP QR
  clear hq w0 hv HE hc
  show Calls Tryz.prog 3 #[.agg #[.int .i64 op, .string s, .slice A l.length c]] w fun e w' => e = .returned (.bool true) ∧ Below w.heap.size w w'
  go_enter Tryz.func3, Tryz.ntmps3
  go_wp2_with fail
  refine (QG.out _ _ (by simp) (B0.out _)).mono ?_
  rintro e w1 ⟨rfl, hb1⟩
  have x0 := boxN hb1 0 _ rfl
  have x1 := boxN hb1 1 _ rfl
  have x2 := boxN hb1 2 _ rfl
  have H1 := Lib.hid ((B0.out _).trans (hb1.mono (by simp)))
  clear hb1 QG
  cases q with
  | true =>
    go_wp2_with (go_at_call 9; (with_reducible refine (QE.out _).mono ?_); rintro e w2 ⟨rfl, h1⟩; have H2 := Lib.hid (H1.out.trans (h1.mono H1.out.size)); clear h1)
    go_ret
    exact ⟨rfl, H2.out⟩
  | false =>
    have ZR := Lib.hid (QR.out (HQ.out rfl))
    have PP := Lib.hid (fun d os => QP.out (Go.Sort.grow (redrawn w1 d) os) (H1.out.trans ((below_regrown w1 d os).mono H1.out.size)))
    have RR := Lib.hid (fun d os => ZR.out (Go.Sort.grow (redrawn w1 d) os) (H1.out.trans ((below_regrown w1 d os).mono H1.out.size)))
    have f0 := cell_regrown x0
    have f1 := cell_regrown x1
    have f2 := cell_regrown x2
    clear x0 x1 x2 QR ZR HQ QP
    go_wp2_with fail
    refine wp_region_quiet_below (by kernel_rfl) (by kernel_rfl) ?_
    repeat (go_big_quiet_step (first
      | (go_at_call 10; exact Calls.regrown_of (PP.out _ _))
      | (go_at_call 11; exact Calls.regrown_of (RR.out _ _))
      | (go_at_call 9; exact Calls.regrown_of (QE.out _)) | fail))
    refine wpQuiet_nil ?_
    intro w2 hw'
    have H2 := Lib.hid (H1.out.trans ((regrown_below hw').mono H1.out.size))
    clear hw'
    go_wp2_with fail
    go_ret
    exact ⟨by simp, H2.out⟩
end Go.Proofs.YtgpglgehlnfggaaGreat.askTests
