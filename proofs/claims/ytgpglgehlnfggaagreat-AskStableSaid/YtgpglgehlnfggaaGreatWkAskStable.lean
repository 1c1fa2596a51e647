/-
  WkAskStable.
-/
import Derived.Test.YtgpglgehlnfggaaGreatMe20
import Derived.Test.YtgpglgehlnfggaaGreatMe30
import Derived.Test.YtgpglgehlnfggaaGreatMe14
import Derived.Test.YtgpglgehlnfggaaGreatMe32
namespace Go.Proofs.YtgpglgehlnfggaaGreat.askStable
open Go.ChangeShapes Go.WideShapes Go.ChangeAt Go.RowKit Go.Sort
set_option linter.unusedVariables false
structure Boxes (a1 : Gl) (w W : World) : Prop where
  below : Below w.heap.size w W
  b0 : HeldL w.heap.size W [.int .i64 a1.op, .string a1.name, .slice a1.at_ a1.args.length a1.cap]
theorem Boxes.keep {a1 : Gl} {w W W' : World} (h : Boxes a1 w W) (hb : Below W.heap.size W W') : Boxes a1 w W' := ⟨h.below.trans (hb.mono h.below.size), h.b0.below hb⟩
theorem Boxes.cells {a0 : Gl} {w W : World} (h : Boxes a0 w W) : W.cell? ⟨w.heap.size, 0, none⟩ = some (.int .i64 a0.op) ∧ W.cell? ⟨w.heap.size, 1, none⟩ = some (.string a0.name) ∧ W.cell? ⟨w.heap.size, 2, none⟩ = some (.slice a0.at_ a0.args.length a0.cap) :=
  ⟨h.b0.cell 0 _ rfl, h.b0.cell 1 _ rfl, h.b0.cell 2 _ rfl⟩
theorem Boxes.new (a0 : Gl) (w : World) (T : TypeId) : Boxes a0 w (w.alloc (.cells #[.int .i64 a0.op, .string a0.name, .slice a0.at_ a0.args.length a0.cap] T)) :=
  ⟨below1 _ _, heldL_new w [.int .i64 a0.op, .string a0.name, .slice a0.at_ a0.args.length a0.cap] T⟩
theorem app_size {b : List Bd} {l : List Tm} (hb : largeB b = false) (hl : nodesL l ≤ 100) : nodesL (appL b l) ≤ 10000 ∧ sizeL (appL b l) ≤ 10000 := by
  have h1 := (nodes_app (b := b) (N := 40) (small_env hb).2).2 l
  have h2 := size_nodes.2 (appL b l)
  have h3 : nodesL l * (1 + 40) ≤ 100 * 41 := Nat.mul_le_mul_right 41 hl
  omega
set_option maxHeartbeats 16000000 in
set_option maxRecDepth 100000 in
theorem walk (HE : PExample) (A0 : Option Addr) (b : List Bd) (c0 : Nat) (a1 : Gl) (w : World) (w0 : BLst w A0 b c0) (w1 : a1.At w) :
    Calls Tryz.prog 6 #[.slice A0 b.length c0, a1.val] w fun e w' => e = .returned (.bool true) ∧ Below w.heap.size w w' := by
  obtain ⟨can, hc⟩ := cans
  obtain ⟨op, s, A, c, l⟩ := a1
  obtain ⟨q1, hq1⟩ : ∃ q, largeB b = q := ⟨_, rfl⟩
  obtain ⟨q2, hq2⟩ : ∃ q, rightS b = q := ⟨_, rfl⟩
  obtain ⟨q3, hq3⟩ : ∃ q, decide (weighGl [(⟨op, s, A, c, l⟩ : Gl)] 100 < 0) = q := ⟨_, rfl⟩
  obtain ⟨q4, hq4⟩ : ∃ q, goalB op s (appL b l) = q := ⟨_, rfl⟩
  obtain ⟨q5, hq5⟩ : ∃ q, goalB op s l = q := ⟨_, rfl⟩
  obtain ⟨v, hv⟩ : ∃ v, testV can op s l = v := ⟨_, rfl⟩
  obtain ⟨v', hv'⟩ : ∃ v, testV can op s (appL b l) = v := ⟨_, rfl⟩
  have HB := Lib.hid (Boxes.new ⟨op, s, A, c, l⟩ w 24)
  have QL := Lib.hid (fun (W : World) (h : Below w.heap.size w W) => show Calls Tryz.prog 12 #[.slice A0 b.length c0] W (fun e w' => e = .returned (.bool q1) ∧ Below W.heap.size W w') from by rw [← hq1]; exact large_at b A0 c0 W (w0.below h))
  have QR := Lib.hid (fun (h1 : q1 = false) (W : World) (h : Below w.heap.size w W) => show Calls Tryz.prog 19 #[.slice A0 b.length c0] W (fun e w' => e = .returned (.bool q2) ∧ Below W.heap.size W w') from by
    rw [← hq2]
    exact ref_right_s_at b A0 c0 W (w0.below h) fun x hx => by
      have h2 := (small_env (hq1.trans h1)).2 x hx
      have h3 := (size_nodes.1 x.tm).1
      omega)
  have QG := Lib.hid (fun (W : World) (i : Nat) (hb : i = W.heap.size) (h : Below w.heap.size w W) => show Calls Tryz.prog 8 #[.slice (some ⟨i, 0, none⟩) 1 1, .int .i64 100] (W.alloc (.cells #[.int .i64 op, .string s, .slice A l.length c] 24)) (fun e w' => e = .returned (.bool q3) ∧ Below W.heap.size W w') from great_g1 ⟨op, s, A, c, l⟩ 100 W i hb (w1.below h) (by omega) (by omega) hq3)
  have HN := Lib.hid (fun (h : q3 = false) => show nodesL l ≤ 100 from by
    have h1 := (gl_nodes (hq3.trans h)).2 ⟨op, s, A, c, l⟩ (List.mem_singleton.2 rfl)
    simp only at h1
    omega)
  have QA := Lib.hid (fun (h3 : q3 = false) (W : World) (h : Below w.heap.size w W) => show Calls Tryz.prog 21 #[.slice A0 b.length c0, .agg #[.int .i64 op, .string s, .slice A l.length c]] W (MadeGl b ⟨op, s, A, c, l⟩ W) from ref_apply_goal_at w b A0 c0 w0 ⟨op, s, A, c, l⟩ w1 (by have := HN.out h3; simp only; omega) W h)
  have QU := Lib.hid (fun (h1 : q1 = false) (h3 : q3 = false) (u : Gl) (W : World) (hu : u.At W) (ho : u.op = op ∧ u.name = s) (hs : stripL u.args = stripL (appL b l)) => show Calls Tryz.prog 20 #[u.val] W (fun e w' => e = .returned (.bool q4) ∧ Below W.heap.size W w') from ref_right_goal_at u W hu (by
      have h2 := (app_size (hq1.trans h1) (HN.out h3)).2
      rw [← (wordsL_strip u.args).1, hs, (wordsL_strip (appL b l)).1]
      omega) (by rw [ho.1, ho.2, ← goalB_strip, hs, goalB_strip, hq4]))
  have QK := Lib.hid (fun (h3 : q3 = false) (W : World) (h : Below w.heap.size w W) => show Calls Tryz.prog 20 #[.agg #[.int .i64 op, .string s, .slice A l.length c]] W (fun e w' => e = .returned (.bool q5) ∧ Below W.heap.size W w') from ref_right_goal_at ⟨op, s, A, c, l⟩ W (w1.below h) (by have h4 := HN.out h3; have h5 := size_nodes.2 l; simp only; omega) hq5)
  have QP := Lib.hid (fun (W : World) (h : Below w.heap.size w W) => show Calls Tryz.prog 10 #[.agg #[.int .i64 op, .string s, .slice A l.length c]] W (fun e w' => e = .returned (.int .i64 v) ∧ Below W.heap.size W w') from by
    rw [← hv]
    exact test_p_at hc ⟨op, s, A, c, l⟩ W (w1.below h))
  have QI := Lib.hid (fun (h1 : q1 = false) (h3 : q3 = false) (W : World) (h : Below w.heap.size w W) => show Calls Tryz.prog 13 #[.slice A0 b.length c0, .slice none 0 0, .agg #[.int .i64 op, .string s, .slice A l.length c]] W (fun e w' => e = .returned (.int .i64 v') ∧ Below W.heap.size W w') from by
    have h4 := small_env (hq1.trans h1)
    have h5 := HN.out h3
    have h6 := in_p_at hc b A0 c0 [] ⟨op, s, A, c, l⟩ none 0 W (w0.below h) (by omega) (fun x hx => by have := h4.2 x hx; omega) (GlLst.nil W) (w1.below h) (by simp) (by simp [argsL, nodesL]) (by simp only; omega)
    rw [inV_none, hv'] at h6
    exact h6)
  have HV := Lib.hid (fun (h2 : q2 = true) (h4 : q4 = true) (h5 : q5 = true) (h : v ≠ 0) => show v' = v from by
    rw [← hv, ← hv']
    exact stable hc (hq2.trans h2) (hq5.trans h5) (hq4.trans h4) (by rw [hv]; exact h))
  have QE := Lib.hid (show ∀ W : World, Calls Tryz.prog 9 #[] W (fun e w' => e = .returned (.bool true) ∧ Below W.heap.size W w') from HE)
  clear hq1 hq2 hq3 hq4 hq5 hv hv' w0 w1 HE hc HN
  show Calls Tryz.prog 6 #[.slice A0 b.length c0, .agg #[.int .i64 op, .string s, .slice A l.length c]] w fun e w' => e = .returned (.bool true) ∧ Below w.heap.size w w'
  obtain ⟨x0, x1, x2⟩ := HB.out.cells
  simp only at x0 x1 x2
  cases q1 with
  | true =>
    go_enter Tryz.func6, Tryz.ntmps6
    go_wp2_with (first
      | (go_at_call 12; (with_reducible refine (QL.out _ HB.out.below).mono ?_); rintro e v1 ⟨rfl, h1⟩; have H1 := Lib.hid (HB.out.keep h1); clear h1)
      | (go_at_call 9; (with_reducible refine (QE.out _).mono ?_); rintro e v9 ⟨rfl, h1⟩; have H9 := Lib.hid (H1.out.keep h1); clear h1))
    go_ret
    exact ⟨rfl, H9.out.below⟩
  | false =>
  have QR1 := Lib.hid (QR.out rfl)
  clear QR
  cases q2 with
  | false =>
    go_enter Tryz.func6, Tryz.ntmps6
    go_wp2_with (first
      | (go_at_call 12; (with_reducible refine (QL.out _ HB.out.below).mono ?_); rintro e v1 ⟨rfl, h1⟩; have H1 := Lib.hid (HB.out.keep h1); clear h1)
      | (go_at_call 19; (with_reducible refine (QR1.out _ H1.out.below).mono ?_); rintro e v2 ⟨rfl, h1⟩; have H2 := Lib.hid (H1.out.keep h1); clear h1)
      | (go_at_call 9; (with_reducible refine (QE.out _).mono ?_); rintro e v9 ⟨rfl, h1⟩; have H9 := Lib.hid (H2.out.keep h1); clear h1))
    go_ret
    exact ⟨rfl, H9.out.below⟩
  | true =>
  cases q3 with
  | true =>
    go_enter Tryz.func6, Tryz.ntmps6
    go_wp2_with (first
      | (go_at_call 12; (with_reducible refine (QL.out _ HB.out.below).mono ?_); rintro e v1 ⟨rfl, h1⟩; have H1 := Lib.hid (HB.out.keep h1); clear h1)
      | (go_at_call 19; (with_reducible refine (QR1.out _ H1.out.below).mono ?_); rintro e v2 ⟨rfl, h1⟩; have H2 := Lib.hid (H1.out.keep h1); clear h1 x0 x1 x2; obtain ⟨x0, x1, x2⟩ := H2.out.cells; simp only at x0 x1 x2)
      | (go_at_call 8; (with_reducible refine (QG.out v2 _ rfl H2.out.below).mono ?_); rintro e v3 ⟨rfl, h1⟩; have H3 := Lib.hid (H2.out.keep h1); clear h1)
      | (go_at_call 9; (with_reducible refine (QE.out _).mono ?_); rintro e v9 ⟨rfl, h1⟩; have H9 := Lib.hid (H3.out.keep h1); clear h1))
    go_ret
    exact ⟨rfl, H9.out.below⟩
  | false =>
  have QA1 := Lib.hid (QA.out rfl)
  have QU1 := Lib.hid (QU.out rfl rfl)
  have QK1 := Lib.hid (QK.out rfl)
  have QI1 := Lib.hid (QI.out rfl rfl)
  clear QA QU QK QI
  cases q4 with
  | false =>
    go_enter Tryz.func6, Tryz.ntmps6
    go_wp2_with (first
      | (go_at_call 12; (with_reducible refine (QL.out _ HB.out.below).mono ?_); rintro e v1 ⟨rfl, h1⟩; have H1 := Lib.hid (HB.out.keep h1); clear h1)
      | (go_at_call 19; (with_reducible refine (QR1.out _ H1.out.below).mono ?_); rintro e v2 ⟨rfl, h1⟩; have H2 := Lib.hid (H1.out.keep h1); clear h1 x0 x1 x2; obtain ⟨x0, x1, x2⟩ := H2.out.cells; simp only at x0 x1 x2)
      | (go_at_call 8; (with_reducible refine (QG.out v2 _ rfl H2.out.below).mono ?_); rintro e v3 ⟨rfl, h1⟩; have H3 := Lib.hid (H2.out.keep h1); clear h1 x0 x1 x2; obtain ⟨x0, x1, x2⟩ := H3.out.cells; simp only at x0 x1 x2)
      | (go_at_call 21; (with_reducible refine (QA1.out _ H3.out.below).mono ?_); rintro e v4 ⟨u, rfl, ho, hs, hu, h1⟩; have HU := Lib.hid (QU1.out u v4 hu ho hs); have H4 := Lib.hid (H3.out.keep h1); clear h1 ho hs hu)
      | (go_at_call 20; (with_reducible refine HU.out.mono ?_); rintro e v5 ⟨rfl, h1⟩; have H5 := Lib.hid (H4.out.keep h1); clear h1)
      | (go_at_call 9; (with_reducible refine (QE.out _).mono ?_); rintro e v9 ⟨rfl, h1⟩; have H9 := Lib.hid (H5.out.keep h1); clear h1))
    go_ret
    exact ⟨rfl, H9.out.below⟩
  | true =>
  go_enter Tryz.func6, Tryz.ntmps6
  go_upto_region 4 with (first
    | (go_at_call 12; (with_reducible refine (QL.out _ HB.out.below).mono ?_); rintro e v1 ⟨rfl, h1⟩; have H1 := Lib.hid (HB.out.keep h1); clear h1)
    | (go_at_call 19; (with_reducible refine (QR1.out _ H1.out.below).mono ?_); rintro e v2 ⟨rfl, h1⟩; have H2 := Lib.hid (H1.out.keep h1); clear h1 x0 x1 x2; obtain ⟨x0, x1, x2⟩ := H2.out.cells; simp only at x0 x1 x2)
    | (go_at_call 8; (with_reducible refine (QG.out v2 _ rfl H2.out.below).mono ?_); rintro e v3 ⟨rfl, h1⟩; have H3 := Lib.hid (H2.out.keep h1); clear h1 x0 x1 x2; obtain ⟨x0, x1, x2⟩ := H3.out.cells; simp only at x0 x1 x2)
    | (go_at_call 21; (with_reducible refine (QA1.out _ H3.out.below).mono ?_); rintro e v4 ⟨u, rfl, ho, hs, hu, h1⟩; have HU := Lib.hid (QU1.out u v4 hu ho hs); have H4 := Lib.hid (H3.out.keep h1); clear h1 ho hs hu)
    | (go_at_call 20; (with_reducible refine HU.out.mono ?_); rintro e v5 ⟨rfl, h1⟩; have H5 := Lib.hid (H4.out.keep h1); clear h1 x0 x1 x2; obtain ⟨x0, x1, x2⟩ := H5.out.cells; simp only at x0 x1 x2)
    | (go_at_call 10; (with_reducible refine (QP.out _ H5.out.below).mono ?_); rintro e v6 ⟨rfl, h1⟩; have H6 := Lib.hid (H5.out.keep h1); clear h1 x0 x1 x2; obtain ⟨x0, x1, x2⟩ := H6.out.cells; simp only at x0 x1 x2))
  clear HU QL QR1 QG QA1 QU1 QP
  by_cases hz : v = 0
  · subst hz
    go_wp2_with (go_at_call 9; (with_reducible refine (QE.out _).mono ?_); rintro e v9 ⟨rfl, h1⟩; have H9 := Lib.hid (H6.out.keep h1); clear h1)
    go_ret
    exact ⟨by simp, H9.out.below⟩
  · have e0 : (v == 0) = false := by simpa using hz
    cases q5 with
    | false =>
      go_wp2_with (first
        | (go_at_call 20; (with_reducible refine (QK1.out _ H6.out.below).mono ?_); rintro e v7 ⟨rfl, h1⟩; have H7 := Lib.hid (H6.out.keep h1); clear h1)
        | (go_at_call 9; (with_reducible refine (QE.out _).mono ?_); rintro e v9 ⟨rfl, h1⟩; have H9 := Lib.hid (H7.out.keep h1); clear h1))
      go_ret
      exact ⟨by simp, H9.out.below⟩
    | true =>
      obtain rfl : v' = v := HV.out (by simp) (by simp) (by simp) hz
      go_wp2_with (first
        | (go_at_call 20; (with_reducible refine (QK1.out _ H6.out.below).mono ?_); rintro e v7 ⟨rfl, h1⟩; have H7 := Lib.hid (H6.out.keep h1); clear h1 x0 x1 x2; obtain ⟨x0, x1, x2⟩ := H7.out.cells; simp only at x0 x1 x2)
        | (go_at_call 13; (with_reducible refine (QI1.out _ H7.out.below).mono ?_); rintro e v8 ⟨rfl, h1⟩; have H8 := Lib.hid (H7.out.keep h1); clear h1)
        | (go_at_call 9; (with_reducible refine (QE.out _).mono ?_); rintro e v9 ⟨rfl, h1⟩; have H9 := Lib.hid (H8.out.keep h1); clear h1))
      go_ret
      exact ⟨by simp, H9.out.below⟩
end Go.Proofs.YtgpglgehlnfggaaGreat.askStable
