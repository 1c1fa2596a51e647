/-
  Contracts of the reference's Text, TextAtom and TextGoal.
-/
import Derived.Test.YtlpibnbabgfiiaaGreatDoorTrWrite
import Derived.Test.YtlpibnbabgfiiaaGreatDoorTmAtom
import Derived.Test.YtlpibnbabgfiiaaGreatDoorTtGoal
import Derived.BigRegion
namespace Go.Proofs.YtlpibnbabgfiiaaGreatDoor
open Go.RowKit
-- see TtGoal

set_option maxHeartbeats 2000000 in
theorem tr_text (t : Tm) (w : World) (ht : t.At w) (hz : t.size ≤ 1000000) :
    Calls Tryz.prog 12 #[t.val] w fun e w' => e = .returned (.string (S (termT t))) ∧ Below w.heap.size w w' := by
  obtain ⟨r, hr⟩ : ∃ r, t.right = r := ⟨_, rfl⟩
  have Q0 := Lib.hid (fun W (h : Below w.heap.size w W) => ref_right_tm_at t W (ht.below h) hz hr)
  have HV := Lib.hid (show termT t = if r then t.txt plain else [] by unfold termT; rw [hr])
  cases r
  · clear hr
    obtain ⟨k, n, s, A, c, a⟩ := t
    show Calls Tryz.prog 12 #[.agg #[.int .i64 k, .int .i64 n, .string s, .slice A a.length c]] w _
    go_enter Tryz.func12, Tryz.ntmps12
    go_wp2_with fail
    refine (Q0.out _ (below1 _ _)).mono ?_
    rintro e w1 ⟨rfl, hb1⟩
    have HB := Lib.hid ((below1 w _).trans (hb1.mono (by simp)))
    clear hb1
    go_wp2_with fail
    go_ret
    exact ⟨ret_str (by rw [HV.out]; rfl), HB.out⟩
  · have hr' := hr
    simp only [Tm.right, Bool.and_eq_true, decide_eq_true_eq] at hr'
    have Q := Lib.hid (fun W (h : Below w.heap.size w W) => rwrite_at t W (ht.below h) hr'.1 (by omega))
    clear hr hr' ht hz
    obtain ⟨k, n, s, A, c, a⟩ := t
    show Calls Tryz.prog 12 #[.agg #[.int .i64 k, .int .i64 n, .string s, .slice A a.length c]] w _
    go_enter Tryz.func12, Tryz.ntmps12
    go_wp2_with fail
    refine (Q0.out _ (below1 _ _)).mono ?_
    rintro e w1 ⟨rfl, hb1⟩
    have HB := Lib.hid ((below1 w _).trans (hb1.mono (by simp)))
    obtain ⟨t0, t1, t2, t3, _⟩ := box4 hb1
    clear hb1
    go_wp2_with fail
    refine (Q.out _ HB.out).mono ?_
    rintro e w2 ⟨rfl, hb⟩
    have HB2 := Lib.hid (HB.out.trans (hb.mono HB.out.size))
    clear hb
    go_wp2_with fail
    go_ret
    exact ⟨ret_str (by rw [HV.out]; rfl), HB2.out⟩

theorem held2_r {w W : World} {v0 v1 : Value} {T : TypeId} (h : Below (w.alloc (.cells #[v0, v1] T)).heap.size (w.alloc (.cells #[v0, v1] T)) W) :
    W.cell? ⟨w.heap.size, 0, none⟩ = some v0 ∧ W.cell? ⟨w.heap.size, 1, none⟩ = some v1 := by
  have k : ∀ j v, #[v0, v1][j]? = some v → W.cell? ⟨w.heap.size, j, none⟩ = some v := fun j v hj => by
    rw [h.cell (by simp), World.cell?_alloc_at _ _ _ _ rfl, hj]
  exact ⟨k 0 _ rfl, k 1 _ rfl⟩
set_option maxHeartbeats 2000000 in
theorem tr_atom (a : Am) (w : World) (ht : a.At w) (hz : sizeL a.args ≤ 1000000) :
    Calls Tryz.prog 17 #[a.val] w fun e w' => e = .returned (.string (S (atomT a.name a.args))) ∧ Below w.heap.size w w' := by
  obtain ⟨r, hr⟩ : ∃ r, atomB a.name.data.toList a.args = r := ⟨_, rfl⟩
  have Q0 := Lib.hid (fun W (h : Below w.heap.size w W) => ref_right_atom_at a W (ht.below h) hz hr)
  have HV := Lib.hid (show atomT a.name a.args = if r then callT plain a.name.data.toList (txtL plain a.args) else [] by unfold atomT; rw [hr])
  have hlen := ht.2.len
  cases r
  · clear hr ht
    obtain ⟨s, A, c, l⟩ := a
    simp only at hlen
    show Calls Tryz.prog 17 #[.agg #[.string s, .slice A l.length c]] w _
    go_enter Tryz.func17, Tryz.ntmps17
    go_wp2_with fail
    refine (Q0.out _ (below1 _ _)).mono ?_
    rintro e w1 ⟨rfl, hb1⟩
    have HB := Lib.hid ((below1 w _).trans (hb1.mono (by simp)))
    clear hb1
    go_wp2_with fail
    go_ret
    exact ⟨ret_str (by rw [HV.out]; rfl), HB.out⟩
  · obtain ⟨h1, h2, h3, h4, h5⟩ := atomB_parts hr
    rw [len_str] at h2
    have Q := Lib.hid (fun W (h : Below w.heap.size w W) => rcall_at a.name a.args (fun x _ => rwrite_at x) a.at_ a.cap W (ht.2.below h) h4 (by omega) (by omega) (by omega))
    clear hr ht h1 h2 h3 h4 h5 hz
    obtain ⟨s, A, c, l⟩ := a
    simp only at hlen
    show Calls Tryz.prog 17 #[.agg #[.string s, .slice A l.length c]] w _
    go_enter Tryz.func17, Tryz.ntmps17
    go_wp2_with fail
    refine (Q0.out _ (below1 _ _)).mono ?_
    rintro e w1 ⟨rfl, hb1⟩
    have HB := Lib.hid ((below1 w _).trans (hb1.mono (by simp)))
    obtain ⟨t0, t1⟩ := held2_r hb1
    clear hb1
    go_wp2_with fail
    refine (Q.out _ HB.out).mono ?_
    rintro e w2 ⟨rfl, hb⟩
    have HB2 := Lib.hid (HB.out.trans (hb.mono HB.out.size))
    clear hb
    go_wp2_with fail
    go_ret
    exact ⟨ret_str (by rw [HV.out]; rfl), HB2.out⟩

set_option maxHeartbeats 2000000 in
theorem tr_goal_no (g : Gl) (w : World) (ht : g.At w) (hz : sizeL g.args ≤ 1000000) (hr : goalB g.op g.name g.args = false) :
    Calls Tryz.prog 15 #[g.val] w fun e w' => e = .returned (.string (S [])) ∧ Below w.heap.size w w' := by
  have Q0 := Lib.hid (fun W (h : Below w.heap.size w W) => ref_right_goal_at g W (ht.below h) hz hr)
  clear ht hr
  obtain ⟨op, s, A, c, l⟩ := g
  show Calls Tryz.prog 15 #[.agg #[.int .i64 op, .string s, .slice A l.length c]] w _
  go_enter Tryz.func15, Tryz.ntmps15
  go_wp2_with fail
  refine (Q0.out _ (below1 _ _)).mono ?_
  rintro e w1 ⟨rfl, hb1⟩
  have HB := Lib.hid ((below1 w _).trans (hb1.mono (by simp)))
  clear hb1
  go_wp2_with fail
  go_ret
  exact ⟨ret_str rfl, HB.out⟩
set_option maxHeartbeats 2000000 in
theorem tr_goal_call (s : ByteArray) (A : Option Addr) (c : Nat) (l : List Tm) (w : World) (ht : (Gl.mk 0 s A c l).At w) (hr : goalB 0 s l = true) :
    Calls Tryz.prog 15 #[(Gl.mk 0 s A c l).val] w fun e w' => e = .returned (.string (S (callT plain s.data.toList (txtL plain l)))) ∧ Below w.heap.size w w' := by
  obtain ⟨h1, h2, h3, h4, h5⟩ := atomB_parts (show atomB s.data.toList l = true from hr)
  rw [len_str] at h2
  have Q0 := Lib.hid (fun W (h : Below w.heap.size w W) => ref_right_goal_at (Gl.mk 0 s A c l) W (ht.below h) (by show sizeL l ≤ _; omega) hr)
  have Q := Lib.hid (fun W (h : Below w.heap.size w W) => rcall_at s l (fun x _ => rwrite_at x) A c W (ht.2.2.below h) h4 (by omega) (by omega) (by omega))
  clear hr ht h1 h2 h3 h4 h5
  show Calls Tryz.prog 15 #[.agg #[.int .i64 0, .string s, .slice A l.length c]] w _
  go_enter Tryz.func15, Tryz.ntmps15
  go_wp2_with fail
  refine (Q0.out _ (below1 _ _)).mono ?_
  rintro e w1 ⟨rfl, hb1⟩
  have HB := Lib.hid ((below1 w _).trans (hb1.mono (by simp)))
  obtain ⟨t0, t1, t2⟩ := held3_p hb1
  clear hb1
  go_wp2_with fail
  refine (Q.out _ HB.out).mono ?_
  rintro e w2 ⟨rfl, hb⟩
  have HB2 := Lib.hid (HB.out.trans (hb.mono HB.out.size))
  clear hb
  go_wp2_with fail
  go_ret
  exact ⟨rfl, HB2.out⟩

set_option maxHeartbeats 2000000 in
set_option maxRecDepth 10000 in
theorem symbol_at (m : Nat) (hm1 : 3 ≤ m) (hm2 : m ≤ 10) (wd : List UInt8) (hwd : goalWords[m]? = some wd) (w : World) :
    Calls Tryz.prog 40 #[.int .i64 (m : Int)] w fun e w' => e = .returned (.string (S wd)) ∧ Below w.heap.size w w' := by
  have : m = 3 ∨ m = 4 ∨ m = 5 ∨ m = 6 ∨ m = 7 ∨ m = 8 ∨ m = 9 ∨ m = 10 := by omega
  have hv := Lib.hid (show goalWords.getD m [] = wd by rw [List.getD_eq_getElem?_getD, hwd]; rfl)
  clear hm1 hm2 hwd
  rcases this with rfl | rfl | rfl | rfl | rfl | rfl | rfl | rfl
  all_goals
    go_enter Tryz.func40, Tryz.ntmps40
    go_wp2_with fail
    go_ret
    exact ⟨ret_str (by rw [← hv.out]; rfl), (Below.refl _ _).alloc (Nat.le_refl _) _⟩

set_option maxHeartbeats 4000000 in
theorem tr_goal_bare (op : Int) (hop : op = 1 ∨ op = 2) (s : ByteArray) (A : Option Addr) (c : Nat) (l : List Tm) (w : World) (ht : (Gl.mk op s A c l).At w) (hr : goalB op s l = true) :
    Calls Tryz.prog 15 #[(Gl.mk op s A c l).val] w fun e w' => e = .returned (.string (S (callT plain (goalWords.getD op.toNat []) (txtL plain l)))) ∧ Below w.heap.size w w' := by
  obtain ⟨h1, h2, h3, h4, h5, -, -⟩ := builtin_parts hr (by omega)
  have hlen : l.length ≤ 9223372036854775807 := by omega
  have Q0 := Lib.hid (fun W (h : Below w.heap.size w W) => ref_right_goal_at (Gl.mk op s A c l) W (ht.below h) (by show sizeL l ≤ _; omega) hr)
  have hl : l = [] := List.length_eq_zero_iff.1 (by
    have : arity op = 0 := by unfold arity; rw [if_pos hop]
    omega)
  have HE := Lib.hid hl
  clear hr ht h1 h2 h3 h4 h5 hl
  rcases hop with rfl | rfl
  all_goals
    show Calls Tryz.prog 15 #[.agg #[.int .i64 _, .string s, .slice A l.length c]] w _
    go_enter Tryz.func15, Tryz.ntmps15
    go_wp2_with fail
    refine (Q0.out _ (below1 _ _)).mono ?_
    rintro e w1 ⟨rfl, hb1⟩
    have HB := Lib.hid ((below1 w _).trans (hb1.mono (by simp)))
    obtain ⟨t0, t1, t2⟩ := held3_p hb1
    clear hb1
    go_wp2_with fail
    go_ret
    exact ⟨ret_str (by rw [HE.out]; rfl), HB.out⟩
set_option maxHeartbeats 4000000 in
theorem tr_goal_word (op : Int) (hop : op = 11 ∨ op = 12) (s : ByteArray) (A : Option Addr) (c : Nat) (l : List Tm) (w : World) (ht : (Gl.mk op s A c l).At w) (hr : goalB op s l = true) :
    Calls Tryz.prog 15 #[(Gl.mk op s A c l).val] w fun e w' => e = .returned (.string (S (callT plain (goalWords.getD op.toNat []) (txtL plain l)))) ∧ Below w.heap.size w w' := by
  obtain ⟨h1, h2, h3, h4, h5, -, -⟩ := builtin_parts hr (by omega)
  have hlen : l.length ≤ 9223372036854775807 := by omega
  have Q0 := Lib.hid (fun W (h : Below w.heap.size w W) => ref_right_goal_at (Gl.mk op s A c l) W (ht.below h) (by show sizeL l ≤ _; omega) hr)
  have Q := Lib.hid (fun (wd : List UInt8) (hw : wd.length ≤ 1000) W (h : Below w.heap.size w W) => rcall_at (S wd) l (fun x _ => rwrite_at x) A c W (ht.2.2.below h) h4 (by omega) (by rw [← len_str]; show wd.length ≤ _; omega) (by omega))
  clear hr ht h1 h2 h3 h4 h5
  rcases hop with rfl | rfl
  · show Calls Tryz.prog 15 #[.agg #[.int .i64 _, .string s, .slice A l.length c]] w _
    go_enter Tryz.func15, Tryz.ntmps15
    go_wp2_with fail
    refine (Q0.out _ (below1 _ _)).mono ?_
    rintro e w1 ⟨rfl, hb1⟩
    have HB := Lib.hid ((below1 w _).trans (hb1.mono (by simp)))
    obtain ⟨t0, t1, t2⟩ := held3_p hb1
    clear hb1
    go_wp2_with fail
    refine (Q.out [105, 110, 116] (by decide) _ HB.out).mono ?_
    rintro e w2 ⟨rfl, hb⟩
    have HB2 := Lib.hid (HB.out.trans (hb.mono HB.out.size))
    clear hb
    go_wp2_with fail
    go_ret
    exact ⟨rfl, HB2.out⟩
  · show Calls Tryz.prog 15 #[.agg #[.int .i64 _, .string s, .slice A l.length c]] w _
    go_enter Tryz.func15, Tryz.ntmps15
    go_wp2_with fail
    refine (Q0.out _ (below1 _ _)).mono ?_
    rintro e w1 ⟨rfl, hb1⟩
    have HB := Lib.hid ((below1 w _).trans (hb1.mono (by simp)))
    obtain ⟨t0, t1, t2⟩ := held3_p hb1
    clear hb1
    go_wp2_with fail
    refine (Q.out [103, 114, 111, 117, 110, 100] (by decide) _ HB.out).mono ?_
    rintro e w2 ⟨rfl, hb⟩
    have HB2 := Lib.hid (HB.out.trans (hb.mono HB.out.size))
    clear hb
    go_wp2_with fail
    go_ret
    exact ⟨rfl, HB2.out⟩

set_option maxHeartbeats 8000000 in
set_option maxRecDepth 10000 in
theorem tr_goal_two (m : Nat) (hm1 : 3 ≤ m) (hm2 : m ≤ 10) (wd : List UInt8) (hwd : goalWords[m]? = some wd) (hwl : wd.length ≤ 1000) (s : ByteArray) (A : Option Addr) (c : Nat) (x y : Tm) (w : World) (ht : (Gl.mk (m : Int) s A c [x, y]).At w) (hr : goalB (m : Int) s [x, y] = true) :
    Calls Tryz.prog 15 #[(Gl.mk (m : Int) s A c [x, y]).val] w fun e w' => e = .returned (.string (S (opT wd (x.txt plain) (y.txt plain)))) ∧ Below w.heap.size w w' := by
  obtain ⟨h1, h2, h3, h4, h5, -, -⟩ := builtin_parts hr (by omega)
  have h5' := h5
  simp only [formL, Bool.and_eq_true, sizeL] at h4 h5
  have Q0 := Lib.hid (fun W (h : Below w.heap.size w W) => ref_right_goal_at (Gl.mk (m : Int) s A c [x, y]) W (ht.below h) (by show sizeL [x, y] ≤ _; omega) hr)
  obtain ⟨b, q, rfl, hrow⟩ := ht.2.2.2.2 (by simp)
  obtain ⟨⟨x0, x1, x2, x3⟩, hxa, ⟨y0, y1, y2, y3⟩, hya, -⟩ := hrow
  have b3 := txt_bound h4.1 (by omega)
  have b4 := txt_bound h4.2.1 (by omega)
  have Q3 := Lib.hid (fun W (h : Below w.heap.size w W) => rwrite_at x W (hxa.below h) h4.1 (by omega))
  have Q4 := Lib.hid (fun W (h : Below w.heap.size w W) => rwrite_at y W (hya.below h) h4.2.1 (by omega))
  have Q7 := Lib.hid (fun W => symbol_at m hm1 hm2 wd hwd W)
  obtain ⟨X, hX⟩ : ∃ X, x.txt plain = X := ⟨_, rfl⟩
  obtain ⟨Y, hY⟩ : ∃ Y, y.txt plain = Y := ⟨_, rfl⟩
  rw [hX] at b3 Q3 ⊢
  rw [hY] at b4 Q4 ⊢
  have l1 : ¬ 9223372036854775807 < X.length + 1 := by omega
  have l2 : ¬ 9223372036854775807 < X.length + 1 + wd.length := by omega
  have l3 : ¬ 9223372036854775807 < X.length + 1 + wd.length + 1 := by omega
  have l4 : ¬ 9223372036854775807 < X.length + 1 + wd.length + 1 + Y.length := by omega
  have e0 : (((m : Nat) : Int) == 0) = false := by rw [beq_eq_false_iff_ne]; omega
  have e1 : (((m : Nat) : Int) == 1) = false := by rw [beq_eq_false_iff_ne]; omega
  have e2 : (((m : Nat) : Int) == 2) = false := by rw [beq_eq_false_iff_ne]; omega
  have e11 : (((m : Nat) : Int) == 11) = false := by rw [beq_eq_false_iff_ne]; omega
  have e12 : (((m : Nat) : Int) == 12) = false := by rw [beq_eq_false_iff_ne]; omega
  clear hX hY b3 b4 hxa hya hr ht h1 h2 h3 h4 h5 h5' hwl hm1 hm2 hwd
  obtain ⟨k1, n1, s1, A1, p1, a1⟩ := x
  obtain ⟨k2, n2, s2, A2, p2, a2⟩ := y
  simp only [Tm.kind, Tm.num, Tm.name, Tm.at_, Tm.args, Tm.cap] at x0 x1 x2 x3 y0 y1 y2 y3
  have Q3 := Lib.hid (show ∀ W, Below w.heap.size w W → Calls Tryz.prog 34 #[.agg #[.int .i64 k1, .int .i64 n1, .string s1, .slice A1 a1.length p1]] W fun e w' => e = .returned (.string (S X)) ∧ Below W.heap.size W w' from Q3.out)
  have Q4 := Lib.hid (show ∀ W, Below w.heap.size w W → Calls Tryz.prog 34 #[.agg #[.int .i64 k2, .int .i64 n2, .string s2, .slice A2 a2.length p2]] W fun e w' => e = .returned (.string (S Y)) ∧ Below W.heap.size W w' from Q4.out)
  show Calls Tryz.prog 15 #[.agg #[.int .i64 (m : Int), .string s, .slice (some ⟨b, q, none⟩) 2 c]] w _
  go_enter Tryz.func15, Tryz.ntmps15
  go_wp2_with fail
  refine (Q0.out _ (below1 _ _)).mono ?_
  rintro e w1 ⟨rfl, hb1⟩
  have HB := Lib.hid ((below1 w _).trans (hb1.mono (by simp)))
  obtain ⟨t0, t1, t2⟩ := held3_p hb1
  clear hb1
  have t0' := cell_regrown t0
  have t2' := cell_regrown t2
  have cx : ∀ {p : Addr} {v : Value}, w.cell? p = some v → w1.cell? p = some v := fun h => by
    rw [HB.out.cell (World.block_lt_of_cell? w _ h)]; exact h
  have kx0 := cell_regrown (cx x0)
  have kx1 := cell_regrown (cx x1)
  have kx2 := cell_regrown (cx x2)
  have kx3 := cell_regrown (cx x3)
  have ky0 := cell_regrown (cx y0)
  have ky1 := cell_regrown (cx y1)
  have ky2 := cell_regrown (cx y2)
  have ky3 := cell_regrown (cx y3)
  clear cx
  go_wp2_with fail
  refine wp_region_quiet_below (by kernel_rfl) (by kernel_rfl) ?_
  repeat (go_big_quiet_step (first | (go_at_call 34; first | (with_reducible exact Calls.regrown_of (Q3.out _ (HB.out.trans ((below_regrown _ _ _).mono HB.out.size)))) | (with_reducible exact Calls.regrown_of (Q4.out _ (HB.out.trans ((below_regrown _ _ _).mono HB.out.size))))) | (go_at_call 40; exact Calls.regrown_of (Q7.out _))))
  refine wpQuiet_nil ?_
  intro w9 hw'
  have HB2 := Lib.hid (HB.out.trans ((regrown_below hw').mono HB.out.size))
  clear hw'
  go_wp2_with fail
  go_ret
  refine ⟨ret_str ?_, HB2.out⟩
  apply WideShapes.bytes_inj
  simp [opT]

theorem tr_goal (g : Gl) (w : World) (ht : g.At w) (hz : sizeL g.args ≤ 1000000) :
    Calls Tryz.prog 15 #[g.val] w fun e w' => e = .returned (.string (S (goalT g.op g.name g.args))) ∧ Below w.heap.size w w' := by
  unfold goalT
  cases hr : goalB g.op g.name g.args
  · exact tr_goal_no g w ht hz hr
  · obtain ⟨op, s, A, c, l⟩ := g
    simp only at hr
    rw [if_pos rfl]
    unfold goalW
    by_cases h0 : op = 0
    · subst h0
      rw [if_pos rfl]
      exact tr_goal_call s A c l w ht hr
    rw [if_neg h0]
    have hp := builtin_parts hr h0
    by_cases h1 : op = 1 ∨ op = 2 ∨ op = 11 ∨ op = 12
    · rw [if_pos h1]
      by_cases h2 : op = 1 ∨ op = 2
      · exact tr_goal_bare op h2 s A c l w ht hr
      · exact tr_goal_word op (by omega) s A c l w ht hr
    · rw [if_neg h1]
      obtain ⟨m, rfl⟩ : ∃ m : Nat, op = (m : Int) := ⟨op.toNat, by omega⟩
      have hm1 : 3 ≤ m := by omega
      have hm2 : m ≤ 10 := by omega
      have h2 := hp.2.1
      rw [arity_two (by omega) (by omega)] at h2
      obtain ⟨x, y, rfl⟩ := two_of (l := l) (by omega)
      obtain ⟨wd, hwd, hwl⟩ : ∃ wd, goalWords[m]? = some wd ∧ wd.length ≤ 1000 := by
        have : m = 3 ∨ m = 4 ∨ m = 5 ∨ m = 6 ∨ m = 7 ∨ m = 8 ∨ m = 9 ∨ m = 10 := by omega
        rcases this with rfl | rfl | rfl | rfl | rfl | rfl | rfl | rfl
        all_goals exact ⟨_, rfl, by decide⟩
      rw [show goalWords.getD (m : Int).toNat [] = wd by rw [Int.toNat_natCast, List.getD_eq_getElem?_getD, hwd]; rfl]
      exact tr_goal_two m hm1 hm2 wd hwd hwl s A c x y w ht hr
end Go.Proofs.YtlpibnbabgfiiaaGreatDoor
