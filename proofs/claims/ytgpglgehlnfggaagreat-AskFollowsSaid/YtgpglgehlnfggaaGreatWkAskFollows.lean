/-
  WkAskFollows.
-/
import Derived.Test.YtgpglgehlnfggaaGreatMe20
import Derived.Test.YtgpglgehlnfggaaGreatAkFolR
namespace Go.Proofs.YtgpglgehlnfggaaGreat.askFollows
open Go.ChangeShapes Go.WideShapes Go.ChangeAt Go.RowKit Go.Sort
set_option linter.unusedVariables false
structure Boxes (a0 a1 : Gl) (w W : World) : Prop where
  below : Below w.heap.size w W
  b0 : HeldL w.heap.size W [.int .i64 a0.op, .string a0.name, .slice a0.at_ a0.args.length a0.cap]
  b1 : HeldL (w.heap.size + 1) W [.int .i64 a1.op, .string a1.name, .slice a1.at_ a1.args.length a1.cap]
theorem Boxes.keep {a0 a1 : Gl} {w W W' : World} (h : Boxes a0 a1 w W) (hb : Below W.heap.size W W') : Boxes a0 a1 w W' := ⟨h.below.trans (hb.mono h.below.size), h.b0.below hb, h.b1.below hb⟩
theorem Boxes.cells {a0 a1 : Gl} {w W : World} (h : Boxes a0 a1 w W) : (W.cell? ⟨w.heap.size, 0, none⟩ = some (.int .i64 a0.op) ∧ W.cell? ⟨w.heap.size, 1, none⟩ = some (.string a0.name) ∧ W.cell? ⟨w.heap.size, 2, none⟩ = some (.slice a0.at_ a0.args.length a0.cap)) ∧
    W.cell? ⟨w.heap.size + 1, 0, none⟩ = some (.int .i64 a1.op) ∧ W.cell? ⟨w.heap.size + 1, 1, none⟩ = some (.string a1.name) ∧ W.cell? ⟨w.heap.size + 1, 2, none⟩ = some (.slice a1.at_ a1.args.length a1.cap) :=
  ⟨⟨h.b0.cell 0 _ rfl, h.b0.cell 1 _ rfl, h.b0.cell 2 _ rfl⟩, h.b1.cell 0 _ rfl, h.b1.cell 1 _ rfl, h.b1.cell 2 _ rfl⟩
theorem Boxes.new (a0 a1 : Gl) (w : World) (T : TypeId) : Boxes a0 a1 w ((w.alloc (.cells #[.int .i64 a0.op, .string a0.name, .slice a0.at_ a0.args.length a0.cap] T)).alloc (.cells #[.int .i64 a1.op, .string a1.name, .slice a1.at_ a1.args.length a1.cap] T)) := by
  have h1 := heldL_new w [.int .i64 a0.op, .string a0.name, .slice a0.at_ a0.args.length a0.cap] T
  have h2 := heldL_new (w.alloc (.cells #[.int .i64 a0.op, .string a0.name, .slice a0.at_ a0.args.length a0.cap] T)) [.int .i64 a1.op, .string a1.name, .slice a1.at_ a1.args.length a1.cap] T
  rw [World.size_alloc] at h2
  exact ⟨below2 _ _ _, h1.below (below1 _ _), h2⟩
set_option maxHeartbeats 16000000 in
set_option maxRecDepth 100000 in
theorem walk (HE : PExample) (a0 a1 : Gl) (w : World) (w0 : a0.At w) (w1 : a1.At w) :
    Calls Tryz.prog 5 #[a0.val, a1.val] w fun e w' => e = .returned (.bool true) ∧ Below w.heap.size w w' := by
  obtain ⟨can, hc⟩ := cans
  obtain ⟨op, s, A, c, l⟩ := a0
  obtain ⟨op', s', A', c', l'⟩ := a1
  obtain ⟨q, hq⟩ : ∃ q, decide (weighGl [(⟨op, s, A, c, l⟩ : Gl), ⟨op', s', A', c', l'⟩] 100 < 0) = q := ⟨_, rfl⟩
  have HB := Lib.hid (Boxes.new ⟨op, s, A, c, l⟩ ⟨op', s', A', c', l'⟩ w 24)
  have QG := Lib.hid (fun (W : World) (b : Nat) (hb : b = W.heap.size) (h : Below w.heap.size w W) => show Calls Tryz.prog 8 #[.slice (some ⟨b, 0, none⟩) 2 2, .int .i64 100] (W.alloc (.cells #[.int .i64 op, .string s, .slice A l.length c, .int .i64 op', .string s', .slice A' l'.length c'] 24)) (fun e w' => e = .returned (.bool q) ∧ Below W.heap.size W w') from great_g2 ⟨op, s, A, c, l⟩ ⟨op', s', A', c', l'⟩ 100 W b hb (w0.below h) (w1.below h) (by omega) (by omega) hq)
  have QP := Lib.hid (fun (W : World) (h : Below w.heap.size w W) => show Calls Tryz.prog 10 #[.agg #[.int .i64 op, .string s, .slice A l.length c]] W (fun e w' => e = .returned (.int .i64 (testV can op s l)) ∧ Below W.heap.size W w') from test_p_at hc ⟨op, s, A, c, l⟩ W (w0.below h))
  have QP' := Lib.hid (fun (W : World) (h : Below w.heap.size w W) => show Calls Tryz.prog 10 #[.agg #[.int .i64 op', .string s', .slice A' l'.length c']] W (fun e w' => e = .returned (.int .i64 (testV can op' s' l')) ∧ Below W.heap.size W w') from test_p_at hc ⟨op', s', A', c', l'⟩ W (w1.below h))
  have QF := Lib.hid (fun (W : World) (h : Below w.heap.size w W) => show Calls Tryz.prog 17 #[.agg #[.int .i64 op, .string s, .slice A l.length c], .agg #[.int .i64 op', .string s', .slice A' l'.length c']] W (fun e w' => e = .returned (.bool (folB op op' s s' l l')) ∧ Below W.heap.size W w') from follows_at ⟨op, s, A, c, l⟩ ⟨op', s', A', c', l'⟩ W (w0.below h) (w1.below h))
  have QR := Lib.hid (fun (hz : sizeL l ≤ 1000000) (hz' : sizeL l' ≤ 1000000) (W : World) (h : Below w.heap.size w W) => show Calls Tryz.prog 18 #[.agg #[.int .i64 op, .string s, .slice A l.length c], .agg #[.int .i64 op', .string s', .slice A' l'.length c']] W (fun e w' => e = .returned (.bool (folB op op' s s' l l')) ∧ Below W.heap.size W w') from follows_r_at ⟨op, s, A, c, l⟩ ⟨op', s', A', c', l'⟩ W (w0.below h) (w1.below h) hz hz')
  have HQ := Lib.hid (fun (h : q = false) => show sizeL l ≤ 1000000 ∧ sizeL l' ≤ 1000000 from by
    have h0 := gl_nodes (hq.trans h)
    have h1 := h0.2 ⟨op, s, A, c, l⟩ (by simp)
    have h2 := h0.2 ⟨op', s', A', c', l'⟩ (by simp)
    have h3 := size_nodes.2 l
    have h4 := size_nodes.2 l'
    simp only at h1 h2
    omega)
  have QE := Lib.hid (show ∀ W : World, Calls Tryz.prog 9 #[] W (fun e w' => e = .returned (.bool true) ∧ Below W.heap.size W w') from HE)
  have HFL := Lib.hid (fun (h : folB op op' s s' l l' = true) (h1 : testV can op s l = 1) => follows hc h h1)
  obtain ⟨v, hv⟩ : ∃ v, testV can op s l = v := ⟨_, rfl⟩
  obtain ⟨v', hv'⟩ : ∃ v, testV can op' s' l' = v := ⟨_, rfl⟩
  obtain ⟨f, hf⟩ : ∃ f, folB op op' s s' l l' = f := ⟨_, rfl⟩
  rw [hv] at QP HFL
  rw [hv'] at QP' HFL
  rw [hf] at QF QR HFL
  clear hq w0 w1 hv hv' hf HE hc
  show Calls Tryz.prog 5 #[.agg #[.int .i64 op, .string s, .slice A l.length c], .agg #[.int .i64 op', .string s', .slice A' l'.length c']] w fun e w' => e = .returned (.bool true) ∧ Below w.heap.size w w'
  obtain ⟨⟨x0, x1, x2⟩, y0, y1, y2⟩ := HB.out.cells
  simp only at x0 x1 x2 y0 y1 y2
  go_enter Tryz.func5, Tryz.ntmps5
  go_wp2_with fail
  refine (QG.out _ _ (by simp) HB.out.below).mono ?_
  rintro e v1 ⟨rfl, h1⟩
  have H1 := Lib.hid (HB.out.keep h1)
  clear x0 x1 x2 y0 y1 y2 h1 HB QG
  cases q with
  | true =>
    go_wp2_with (go_at_call 9; (with_reducible refine (QE.out _).mono ?_); rintro e w2 ⟨rfl, h1⟩; have H2 := Lib.hid (H1.out.below.trans (h1.mono H1.out.below.size)); clear h1)
    go_ret
    exact ⟨rfl, H2.out⟩
  | false =>
    obtain ⟨z1, z2⟩ := HQ.out rfl
    have QR1 := Lib.hid (QR.out z1 z2)
    obtain ⟨⟨x0, x1, x2⟩, y0, y1, y2⟩ := H1.out.cells
    simp only at x0 x1 x2 y0 y1 y2
    clear z1 z2 HQ QR
    go_upto_region 4 with (first
      | (go_at_call 17; (with_reducible refine (QF.out _ H1.out.below).mono ?_); rintro e v2 ⟨rfl, h1⟩; have H2 := Lib.hid (H1.out.keep h1); clear h1 x0 x1 x2 y0 y1 y2; obtain ⟨⟨x0, x1, x2⟩, y0, y1, y2⟩ := H2.out.cells; simp only at x0 x1 x2 y0 y1 y2))
    cases f with
    | false =>
      go_wp2_with (first
        | (go_at_call 18; (with_reducible refine (QR1.out _ H2.out.below).mono ?_); rintro e v3 ⟨rfl, h1⟩; have H3 := Lib.hid (H2.out.keep h1); clear h1)
        | (go_at_call 9; (with_reducible refine (QE.out _).mono ?_); rintro e v4 ⟨rfl, h1⟩; have H4 := Lib.hid (H3.out.keep h1); clear h1))
      go_ret
      exact ⟨by simp, H4.out.below⟩
    | true =>
      by_cases hv : v = 1
      · subst hv
        obtain rfl : v' = 1 := HFL.out rfl rfl
        go_wp2_with (first
          | (go_at_call 18; (with_reducible refine (QR1.out _ H2.out.below).mono ?_); rintro e v3 ⟨rfl, h1⟩; have H3 := Lib.hid (H2.out.keep h1); clear h1 x0 x1 x2 y0 y1 y2; obtain ⟨⟨x0, x1, x2⟩, y0, y1, y2⟩ := H3.out.cells; simp only at x0 x1 x2 y0 y1 y2)
          | (go_at_call 10; (with_reducible refine (QP.out _ H3.out.below).mono ?_); rintro e v4 ⟨rfl, h1⟩; have H4 := Lib.hid (H3.out.keep h1); clear h1 x0 x1 x2 y0 y1 y2; obtain ⟨⟨x0, x1, x2⟩, y0, y1, y2⟩ := H4.out.cells; simp only at x0 x1 x2 y0 y1 y2)
          | (go_at_call 10; (with_reducible refine (QP'.out _ H4.out.below).mono ?_); rintro e v5 ⟨rfl, h1⟩; have H5 := Lib.hid (H4.out.keep h1); clear h1)
          | (go_at_call 9; (with_reducible refine (QE.out _).mono ?_); rintro e v6 ⟨rfl, h1⟩; have H6 := Lib.hid (H5.out.keep h1); clear h1))
        go_ret
        exact ⟨by simp, H6.out.below⟩
      · have e1 : (v == 1) = false := by simpa using hv
        have e2 : (v != 1) = true := by simpa using hv
        go_wp2_with (first
          | (go_at_call 18; (with_reducible refine (QR1.out _ H2.out.below).mono ?_); rintro e v3 ⟨rfl, h1⟩; have H3 := Lib.hid (H2.out.keep h1); clear h1 x0 x1 x2 y0 y1 y2; obtain ⟨⟨x0, x1, x2⟩, y0, y1, y2⟩ := H3.out.cells; simp only at x0 x1 x2 y0 y1 y2)
          | (go_at_call 10; (with_reducible refine (QP.out _ H3.out.below).mono ?_); rintro e v4 ⟨rfl, h1⟩; have H4 := Lib.hid (H3.out.keep h1); clear h1)
          | (go_at_call 9; (with_reducible refine (QE.out _).mono ?_); rintro e v6 ⟨rfl, h1⟩; have H6 := Lib.hid (H4.out.keep h1); clear h1))
        go_ret
        exact ⟨by simp, H6.out.below⟩
end Go.Proofs.YtgpglgehlnfggaaGreat.askFollows
