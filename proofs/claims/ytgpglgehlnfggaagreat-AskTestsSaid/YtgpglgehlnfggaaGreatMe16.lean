/-
  AkTest.
  AkEx.
  AkFolP.
  TmTwo.
-/
import Derived.Test.YtgpglgehlnfggaaGreatMe15
import Derived.Lib.QuietBelow
import Derived.BigQuiet
import Derived.Deep.QuietTactic
import Derived.Test.YtgpglgehlnfggaaGreatMe2
import Derived.Test.YtgpglgehlnfggaaGreatMe6
import Derived.Test.YtgpglgehlnfggaaGreatMe7
import Derived.Test.YtgpglgehlnfggaaGreatMe5
namespace Go.Proofs.YtgpglgehlnfggaaGreat
open Go.RowKit
set_option linter.unusedVariables false
theorem goal_ops {op : Int} {s : ByteArray} {l : List Tm} (h : goalB op s l = true) : op = 0 ∨ op = 1 ∨ op = 2 ∨ op = 3 ∨ op = 4 ∨ op = 5 ∨ op = 6 ∨ op = 7 ∨ op = 8 ∨ op = 9 ∨ op = 10 ∨ op = 11 ∨ op = 12 := by
  unfold goalB at h
  split at h
  · exact .inl ‹_›
  · simp only [builtinB, Bool.and_eq_true, decide_eq_true_eq] at h
    have h2 := h.2.1
    unfold arity at h2
    split at h2
    · omega
    · split at h2
      · omega
      · split at h2 <;> omega
theorem isT_of {op : Int} {s : ByteArray} {l : List Tm} (h : goalB op s l = true) (h5 : 5 ≤ op ∧ op ≤ 12) : isT op s l = true := by
  unfold isT
  rw [h, decide_eq_true h5.1, decide_eq_true h5.2]; rfl
theorem isT_not {op : Int} {s : ByteArray} {l : List Tm} (h5 : ¬ (5 ≤ op ∧ op ≤ 12)) : isT op s l = false := by
  cases h : isT op s l with
  | false => rfl
  | true => exact absurd ⟨(isT_goal h).1, (isT_goal h).2.1⟩ h5
theorem testV_none {can : Tm → Tm → Bool} {op : Int} {s : ByteArray} {l : List Tm} (h : isT op s l = false) : testV can op s l = holdV (decide (op = 1) && goalB op s l) := by
  unfold testV; rw [h]; rfl
theorem testV_one {can : Tm → Tm → Bool} {op : Int} {s : ByteArray} {x : Tm} (h : isT op s [x] = true) : testV can op s [x] = if op = 11 then intV x else gndV x := by
  unfold testV; rw [h]; rfl
theorem lst_two {w : World} {A : Option Addr} {c : Nat} {x y : Tm} (h : Lst w A [x, y] c) : ∃ b o, A = some ⟨b, o, none⟩ ∧
    (w.cell? ⟨b, o, none⟩ = some (.int .i64 x.kind) ∧ w.cell? ⟨b, o + 1, none⟩ = some (.int .i64 x.num) ∧ w.cell? ⟨b, o + 2, none⟩ = some (.string x.name) ∧ w.cell? ⟨b, o + 3, none⟩ = some (.slice x.at_ x.args.length x.cap)) ∧
    (w.cell? ⟨b, o + 4, none⟩ = some (.int .i64 y.kind) ∧ w.cell? ⟨b, o + 4 + 1, none⟩ = some (.int .i64 y.num) ∧ w.cell? ⟨b, o + 4 + 2, none⟩ = some (.string y.name) ∧ w.cell? ⟨b, o + 4 + 3, none⟩ = some (.slice y.at_ y.args.length y.cap)) ∧ x.At w ∧ y.At w := by
  obtain ⟨b, o, rfl, h0, hx⟩ := h.get (i := 0) (by simp)
  obtain ⟨b', o', e', h1, hy⟩ := h.get (i := 1) (by simp)
  rw [Option.some.injEq, Addr.mk.injEq] at e'
  obtain ⟨rfl, rfl, _⟩ := e'
  exact ⟨b, o, rfl, by simpa using h0, by simpa using h1, by simpa using hx, by simpa using hy⟩
theorem lst_one {w : World} {A : Option Addr} {c : Nat} {x : Tm} (h : Lst w A [x] c) : ∃ b o, A = some ⟨b, o, none⟩ ∧
    (w.cell? ⟨b, o, none⟩ = some (.int .i64 x.kind) ∧ w.cell? ⟨b, o + 1, none⟩ = some (.int .i64 x.num) ∧ w.cell? ⟨b, o + 2, none⟩ = some (.string x.name) ∧ w.cell? ⟨b, o + 3, none⟩ = some (.slice x.at_ x.args.length x.cap)) ∧ x.At w := by
  obtain ⟨b, o, rfl, h0, hx⟩ := h.get (i := 0) (by simp)
  exact ⟨b, o, rfl, by simpa using h0, by simpa using hx⟩
set_option maxHeartbeats 8000000 in
theorem test_p_0 {can : Tm → Tm → Bool} (hc : Cans can) (s : ByteArray) (A : Option Addr) (c : Nat) (l : List Tm) (w : World) (ha : (⟨0, s, A, c, l⟩ : Gl).At w) (hb : goalB 0 s l = true) :
    Calls Tryz.prog 10 #[.agg #[.int .i64 0, .string s, .slice A l.length c]] w fun e w' => e = .returned (.int .i64 (testV can 0 s l)) ∧ Below w.heap.size w w' := by
  have B0 := Lib.hid (show ∀ o, Below w.heap.size w (w.alloc o) from fun o => (Below.refl _ _).alloc (Nat.le_refl _) o)
  have hl : Lst w A l c := ha.2.2
  have Q0 := Lib.hid (fun W (h : Below w.heap.size w W) => right_goal_at ⟨0, s, A, c, l⟩ W (ha.below h) hb)
  have HV := Lib.hid (show testV can 0 s l = 2 from by rw [testV_none (isT_not (by omega)), hb]; rfl)
  generalize testV can 0 s l = v at *
  clear hl hb ha
  go_enter Tryz.func10, Tryz.ntmps10
  go_wp2_with fail
  refine (Q0.out _ (B0.out _)).mono ?_
  rintro e w1 ⟨rfl, hb1⟩
  have x0 := boxN hb1 0 _ rfl
  have H1 := Lib.hid ((B0.out _).trans (hb1.mono (by simp)))
  clear hb1
  go_wp2_with fail
  go_ret
  exact ⟨by rw [HV.out]; try rfl, H1.out⟩
set_option maxHeartbeats 8000000 in
theorem test_p_1 {can : Tm → Tm → Bool} (hc : Cans can) (s : ByteArray) (A : Option Addr) (c : Nat) (l : List Tm) (w : World) (ha : (⟨1, s, A, c, l⟩ : Gl).At w) (hb : goalB 1 s l = true) :
    Calls Tryz.prog 10 #[.agg #[.int .i64 1, .string s, .slice A l.length c]] w fun e w' => e = .returned (.int .i64 (testV can 1 s l)) ∧ Below w.heap.size w w' := by
  have B0 := Lib.hid (show ∀ o, Below w.heap.size w (w.alloc o) from fun o => (Below.refl _ _).alloc (Nat.le_refl _) o)
  have hl : Lst w A l c := ha.2.2
  have Q0 := Lib.hid (fun W (h : Below w.heap.size w W) => right_goal_at ⟨1, s, A, c, l⟩ W (ha.below h) hb)
  have HV := Lib.hid (show testV can 1 s l = 1 from by rw [testV_none (isT_not (by omega)), hb]; rfl)
  generalize testV can 1 s l = v at *
  clear hl hb ha
  go_enter Tryz.func10, Tryz.ntmps10
  go_wp2_with fail
  refine (Q0.out _ (B0.out _)).mono ?_
  rintro e w1 ⟨rfl, hb1⟩
  have x0 := boxN hb1 0 _ rfl
  have H1 := Lib.hid ((B0.out _).trans (hb1.mono (by simp)))
  clear hb1
  go_wp2_with fail
  go_ret
  exact ⟨by rw [HV.out]; try rfl, H1.out⟩
set_option maxHeartbeats 8000000 in
theorem test_p_2 {can : Tm → Tm → Bool} (hc : Cans can) (s : ByteArray) (A : Option Addr) (c : Nat) (l : List Tm) (w : World) (ha : (⟨2, s, A, c, l⟩ : Gl).At w) (hb : goalB 2 s l = true) :
    Calls Tryz.prog 10 #[.agg #[.int .i64 2, .string s, .slice A l.length c]] w fun e w' => e = .returned (.int .i64 (testV can 2 s l)) ∧ Below w.heap.size w w' := by
  have B0 := Lib.hid (show ∀ o, Below w.heap.size w (w.alloc o) from fun o => (Below.refl _ _).alloc (Nat.le_refl _) o)
  have hl : Lst w A l c := ha.2.2
  have Q0 := Lib.hid (fun W (h : Below w.heap.size w W) => right_goal_at ⟨2, s, A, c, l⟩ W (ha.below h) hb)
  have HV := Lib.hid (show testV can 2 s l = 2 from by rw [testV_none (isT_not (by omega)), hb]; rfl)
  generalize testV can 2 s l = v at *
  clear hl hb ha
  go_enter Tryz.func10, Tryz.ntmps10
  go_wp2_with fail
  refine (Q0.out _ (B0.out _)).mono ?_
  rintro e w1 ⟨rfl, hb1⟩
  have x0 := boxN hb1 0 _ rfl
  have H1 := Lib.hid ((B0.out _).trans (hb1.mono (by simp)))
  clear hb1
  go_wp2_with fail
  go_ret
  exact ⟨by rw [HV.out]; try rfl, H1.out⟩
set_option maxHeartbeats 8000000 in
theorem test_p_3 {can : Tm → Tm → Bool} (hc : Cans can) (s : ByteArray) (A : Option Addr) (c : Nat) (l : List Tm) (w : World) (ha : (⟨3, s, A, c, l⟩ : Gl).At w) (hb : goalB 3 s l = true) :
    Calls Tryz.prog 10 #[.agg #[.int .i64 3, .string s, .slice A l.length c]] w fun e w' => e = .returned (.int .i64 (testV can 3 s l)) ∧ Below w.heap.size w w' := by
  have B0 := Lib.hid (show ∀ o, Below w.heap.size w (w.alloc o) from fun o => (Below.refl _ _).alloc (Nat.le_refl _) o)
  have hl : Lst w A l c := ha.2.2
  have Q0 := Lib.hid (fun W (h : Below w.heap.size w W) => right_goal_at ⟨3, s, A, c, l⟩ W (ha.below h) hb)
  have HV := Lib.hid (show testV can 3 s l = 2 from by rw [testV_none (isT_not (by omega)), hb]; rfl)
  generalize testV can 3 s l = v at *
  clear hl hb ha
  go_enter Tryz.func10, Tryz.ntmps10
  go_wp2_with fail
  refine (Q0.out _ (B0.out _)).mono ?_
  rintro e w1 ⟨rfl, hb1⟩
  have x0 := boxN hb1 0 _ rfl
  have H1 := Lib.hid ((B0.out _).trans (hb1.mono (by simp)))
  clear hb1
  go_wp2_with fail
  go_ret
  exact ⟨by rw [HV.out]; try rfl, H1.out⟩
set_option maxHeartbeats 8000000 in
theorem test_p_4 {can : Tm → Tm → Bool} (hc : Cans can) (s : ByteArray) (A : Option Addr) (c : Nat) (l : List Tm) (w : World) (ha : (⟨4, s, A, c, l⟩ : Gl).At w) (hb : goalB 4 s l = true) :
    Calls Tryz.prog 10 #[.agg #[.int .i64 4, .string s, .slice A l.length c]] w fun e w' => e = .returned (.int .i64 (testV can 4 s l)) ∧ Below w.heap.size w w' := by
  have B0 := Lib.hid (show ∀ o, Below w.heap.size w (w.alloc o) from fun o => (Below.refl _ _).alloc (Nat.le_refl _) o)
  have hl : Lst w A l c := ha.2.2
  have Q0 := Lib.hid (fun W (h : Below w.heap.size w W) => right_goal_at ⟨4, s, A, c, l⟩ W (ha.below h) hb)
  have HV := Lib.hid (show testV can 4 s l = 2 from by rw [testV_none (isT_not (by omega)), hb]; rfl)
  generalize testV can 4 s l = v at *
  clear hl hb ha
  go_enter Tryz.func10, Tryz.ntmps10
  go_wp2_with fail
  refine (Q0.out _ (B0.out _)).mono ?_
  rintro e w1 ⟨rfl, hb1⟩
  have x0 := boxN hb1 0 _ rfl
  have H1 := Lib.hid ((B0.out _).trans (hb1.mono (by simp)))
  clear hb1
  go_wp2_with fail
  go_ret
  exact ⟨by rw [HV.out]; try rfl, H1.out⟩
set_option maxHeartbeats 8000000 in
theorem test_p_5 {can : Tm → Tm → Bool} (hc : Cans can) (s : ByteArray) (A : Option Addr) (c : Nat) (l : List Tm) (w : World) (ha : (⟨5, s, A, c, l⟩ : Gl).At w) (hb : goalB 5 s l = true) :
    Calls Tryz.prog 10 #[.agg #[.int .i64 5, .string s, .slice A l.length c]] w fun e w' => e = .returned (.int .i64 (testV can 5 s l)) ∧ Below w.heap.size w w' := by
  have B0 := Lib.hid (show ∀ o, Below w.heap.size w (w.alloc o) from fun o => (Below.refl _ _).alloc (Nat.le_refl _) o)
  have hl : Lst w A l c := ha.2.2
  have Q0 := Lib.hid (fun W (h : Below w.heap.size w W) => right_goal_at ⟨5, s, A, c, l⟩ W (ha.below h) hb)
  have ht := isT_of hb (by omega)
  have hr := rightL_each (isT_built ht).2.2
  obtain ⟨x, y, rfl⟩ := isT_two ht (by omega)
  have HV := Lib.hid (show testV can 5 s [x, y] = sameV can 5 x y from by rw [testV_two ht]; rfl)
  have Q1 := Lib.hid (fun W (h : Below w.heap.size w W) => same_p_at hc x y W ((hl.below h).mem (by simp)) ((hl.below h).mem (by simp)) (hr x (by simp)) (hr y (by simp)))
  have HL := Lib.hid (fun W (h : Below w.heap.size w W) => lst_two (hl.below h))
  generalize testV can 5 s [x, y] = v at *
  generalize sameV can 5 x y = v5 at *
  clear hl hb hr ht ha
  go_enter Tryz.func10, Tryz.ntmps10
  go_wp2_with fail
  refine (Q0.out _ (B0.out _)).mono ?_
  rintro e w1 ⟨rfl, hb1⟩
  have x0 := boxN hb1 0 _ rfl
  have x2 := boxN hb1 2 _ rfl
  have H1 := Lib.hid ((B0.out _).trans (hb1.mono (by simp)))
  obtain ⟨b, o, rfl, ⟨c0, c1, c2, c3⟩, ⟨d0, d1, d2, d3⟩, _, _⟩ := HL.out _ H1.out
  have QQ := Lib.hid (fun d os => Q1.out (Go.Sort.grow (redrawn w1 d) os) (H1.out.trans ((below_regrown w1 d os).mono H1.out.size)))
  obtain ⟨k1, n1, s1, A1, p1, a1⟩ := x
  obtain ⟨k2, n2, s2, A2, p2, a2⟩ := y
  simp only [Tm.kind, Tm.num, Tm.name, Tm.at_, Tm.args, Tm.cap] at c0 c1 c2 c3 d0 d1 d2 d3
  have f0 := cell_regrown x0
  have f2 := cell_regrown x2
  have g0 := cell_regrown c0
  have g1 := cell_regrown c1
  have g2 := cell_regrown c2
  have g3 := cell_regrown c3
  have i0 := cell_regrown d0
  have i1 := cell_regrown d1
  have i2 := cell_regrown d2
  have i3 := cell_regrown d3
  clear hb1 HL c0 c1 c2 c3 d0 d1 d2 d3 x2
  go_wp2_with fail
  refine wp_region_quiet_below (by kernel_rfl) (by kernel_rfl) ?_
  repeat (go_big_quiet_step (first | (go_at_call 29; exact Calls.regrown_of (QQ.out _ _)) | fail))
  refine wpQuiet_nil ?_
  intro w2 hw'
  have H2 := Lib.hid (H1.out.trans ((regrown_below hw').mono H1.out.size))
  clear hw'
  go_wp2_with fail
  go_ret
  exact ⟨by rw [HV.out]; try rfl, H2.out⟩
set_option maxHeartbeats 8000000 in
theorem test_p_6 {can : Tm → Tm → Bool} (hc : Cans can) (s : ByteArray) (A : Option Addr) (c : Nat) (l : List Tm) (w : World) (ha : (⟨6, s, A, c, l⟩ : Gl).At w) (hb : goalB 6 s l = true) :
    Calls Tryz.prog 10 #[.agg #[.int .i64 6, .string s, .slice A l.length c]] w fun e w' => e = .returned (.int .i64 (testV can 6 s l)) ∧ Below w.heap.size w w' := by
  have B0 := Lib.hid (show ∀ o, Below w.heap.size w (w.alloc o) from fun o => (Below.refl _ _).alloc (Nat.le_refl _) o)
  have hl : Lst w A l c := ha.2.2
  have Q0 := Lib.hid (fun W (h : Below w.heap.size w W) => right_goal_at ⟨6, s, A, c, l⟩ W (ha.below h) hb)
  have ht := isT_of hb (by omega)
  have hr := rightL_each (isT_built ht).2.2
  obtain ⟨x, y, rfl⟩ := isT_two ht (by omega)
  have HV := Lib.hid (show testV can 6 s [x, y] = (if sameV can 5 x y = 1 then 2 else if sameV can 5 x y = 2 then 1 else sameV can 5 x y) from by rw [testV_two ht]; exact opp_two x y)
  have Q1 := Lib.hid (fun W (h : Below w.heap.size w W) => same_p_at hc x y W ((hl.below h).mem (by simp)) ((hl.below h).mem (by simp)) (hr x (by simp)) (hr y (by simp)))
  have HL := Lib.hid (fun W (h : Below w.heap.size w W) => lst_two (hl.below h))
  generalize testV can 6 s [x, y] = v at *
  generalize sameV can 5 x y = v5 at *
  obtain ⟨v6, hv6⟩ : ∃ v6, (if v5 = 1 then 2 else if v5 = 2 then 1 else v5) = v6 := ⟨_, rfl⟩
  have QO := Lib.hid (fun W => opposite_at v5 W hv6)
  rw [hv6] at HV
  clear hv6
  clear hl hb hr ht ha
  go_enter Tryz.func10, Tryz.ntmps10
  go_wp2_with fail
  refine (Q0.out _ (B0.out _)).mono ?_
  rintro e w1 ⟨rfl, hb1⟩
  have x0 := boxN hb1 0 _ rfl
  have x2 := boxN hb1 2 _ rfl
  have H1 := Lib.hid ((B0.out _).trans (hb1.mono (by simp)))
  obtain ⟨b, o, rfl, ⟨c0, c1, c2, c3⟩, ⟨d0, d1, d2, d3⟩, _, _⟩ := HL.out _ H1.out
  have QQ := Lib.hid (fun d os => Q1.out (Go.Sort.grow (redrawn w1 d) os) (H1.out.trans ((below_regrown w1 d os).mono H1.out.size)))
  obtain ⟨k1, n1, s1, A1, p1, a1⟩ := x
  obtain ⟨k2, n2, s2, A2, p2, a2⟩ := y
  simp only [Tm.kind, Tm.num, Tm.name, Tm.at_, Tm.args, Tm.cap] at c0 c1 c2 c3 d0 d1 d2 d3
  have f0 := cell_regrown x0
  have f2 := cell_regrown x2
  have g0 := cell_regrown c0
  have g1 := cell_regrown c1
  have g2 := cell_regrown c2
  have g3 := cell_regrown c3
  have i0 := cell_regrown d0
  have i1 := cell_regrown d1
  have i2 := cell_regrown d2
  have i3 := cell_regrown d3
  clear hb1 HL c0 c1 c2 c3 d0 d1 d2 d3 x2
  go_wp2_with fail
  refine wp_region_quiet_below (by kernel_rfl) (by kernel_rfl) ?_
  repeat (go_big_quiet_step (first | (go_at_call 29; exact Calls.regrown_of (QQ.out _ _)) | (go_at_call 30; exact Calls.regrown_of (withBelow (QO.out _))) | fail))
  refine wpQuiet_nil ?_
  intro w2 hw'
  have H2 := Lib.hid (H1.out.trans ((regrown_below hw').mono H1.out.size))
  clear hw'
  go_wp2_with fail
  go_ret
  exact ⟨by rw [HV.out]; try rfl, H2.out⟩
set_option maxHeartbeats 8000000 in
theorem test_p_7 {can : Tm → Tm → Bool} (hc : Cans can) (s : ByteArray) (A : Option Addr) (c : Nat) (l : List Tm) (w : World) (ha : (⟨7, s, A, c, l⟩ : Gl).At w) (hb : goalB 7 s l = true) :
    Calls Tryz.prog 10 #[.agg #[.int .i64 7, .string s, .slice A l.length c]] w fun e w' => e = .returned (.int .i64 (testV can 7 s l)) ∧ Below w.heap.size w w' := by
  have B0 := Lib.hid (show ∀ o, Below w.heap.size w (w.alloc o) from fun o => (Below.refl _ _).alloc (Nat.le_refl _) o)
  have hl : Lst w A l c := ha.2.2
  have Q0 := Lib.hid (fun W (h : Below w.heap.size w W) => right_goal_at ⟨7, s, A, c, l⟩ W (ha.below h) hb)
  have ht := isT_of hb (by omega)
  have hr := rightL_each (isT_built ht).2.2
  obtain ⟨x, y, rfl⟩ := isT_two ht (by omega)
  have HV := Lib.hid (show testV can 7 s [x, y] = valT 7 x y from by rw [testV_two ht]; rfl)
  have Q1 := Lib.hid (fun W (h : Below w.heap.size w W) => values_p_at 7 x y W ((hl.below h).mem (by simp)) ((hl.below h).mem (by simp)))
  have HL := Lib.hid (fun W (h : Below w.heap.size w W) => lst_two (hl.below h))
  generalize testV can 7 s [x, y] = v at *
  generalize valT 7 x y = v5 at *
  clear hl hb hr ht ha
  go_enter Tryz.func10, Tryz.ntmps10
  go_wp2_with fail
  refine (Q0.out _ (B0.out _)).mono ?_
  rintro e w1 ⟨rfl, hb1⟩
  have x0 := boxN hb1 0 _ rfl
  have x2 := boxN hb1 2 _ rfl
  have H1 := Lib.hid ((B0.out _).trans (hb1.mono (by simp)))
  obtain ⟨b, o, rfl, ⟨c0, c1, c2, c3⟩, ⟨d0, d1, d2, d3⟩, _, _⟩ := HL.out _ H1.out
  have QQ := Lib.hid (fun d os => Q1.out (Go.Sort.grow (redrawn w1 d) os) (H1.out.trans ((below_regrown w1 d os).mono H1.out.size)))
  obtain ⟨k1, n1, s1, A1, p1, a1⟩ := x
  obtain ⟨k2, n2, s2, A2, p2, a2⟩ := y
  simp only [Tm.kind, Tm.num, Tm.name, Tm.at_, Tm.args, Tm.cap] at c0 c1 c2 c3 d0 d1 d2 d3
  have f0 := cell_regrown x0
  have f2 := cell_regrown x2
  have g0 := cell_regrown c0
  have g1 := cell_regrown c1
  have g2 := cell_regrown c2
  have g3 := cell_regrown c3
  have i0 := cell_regrown d0
  have i1 := cell_regrown d1
  have i2 := cell_regrown d2
  have i3 := cell_regrown d3
  clear hb1 HL c0 c1 c2 c3 d0 d1 d2 d3 x2
  go_wp2_with fail
  refine wp_region_quiet_below (by kernel_rfl) (by kernel_rfl) ?_
  repeat (go_big_quiet_step (first | (go_at_call 31; exact Calls.regrown_of (QQ.out _ _)) | fail))
  refine wpQuiet_nil ?_
  intro w2 hw'
  have H2 := Lib.hid (H1.out.trans ((regrown_below hw').mono H1.out.size))
  clear hw'
  go_wp2_with fail
  go_ret
  exact ⟨by rw [HV.out]; try rfl, H2.out⟩
set_option maxHeartbeats 8000000 in
theorem test_p_8 {can : Tm → Tm → Bool} (hc : Cans can) (s : ByteArray) (A : Option Addr) (c : Nat) (l : List Tm) (w : World) (ha : (⟨8, s, A, c, l⟩ : Gl).At w) (hb : goalB 8 s l = true) :
    Calls Tryz.prog 10 #[.agg #[.int .i64 8, .string s, .slice A l.length c]] w fun e w' => e = .returned (.int .i64 (testV can 8 s l)) ∧ Below w.heap.size w w' := by
  have B0 := Lib.hid (show ∀ o, Below w.heap.size w (w.alloc o) from fun o => (Below.refl _ _).alloc (Nat.le_refl _) o)
  have hl : Lst w A l c := ha.2.2
  have Q0 := Lib.hid (fun W (h : Below w.heap.size w W) => right_goal_at ⟨8, s, A, c, l⟩ W (ha.below h) hb)
  have ht := isT_of hb (by omega)
  have hr := rightL_each (isT_built ht).2.2
  obtain ⟨x, y, rfl⟩ := isT_two ht (by omega)
  have HV := Lib.hid (show testV can 8 s [x, y] = valT 8 x y from by rw [testV_two ht]; rfl)
  have Q1 := Lib.hid (fun W (h : Below w.heap.size w W) => values_p_at 8 x y W ((hl.below h).mem (by simp)) ((hl.below h).mem (by simp)))
  have HL := Lib.hid (fun W (h : Below w.heap.size w W) => lst_two (hl.below h))
  generalize testV can 8 s [x, y] = v at *
  generalize valT 8 x y = v5 at *
  clear hl hb hr ht ha
  go_enter Tryz.func10, Tryz.ntmps10
  go_wp2_with fail
  refine (Q0.out _ (B0.out _)).mono ?_
  rintro e w1 ⟨rfl, hb1⟩
  have x0 := boxN hb1 0 _ rfl
  have x2 := boxN hb1 2 _ rfl
  have H1 := Lib.hid ((B0.out _).trans (hb1.mono (by simp)))
  obtain ⟨b, o, rfl, ⟨c0, c1, c2, c3⟩, ⟨d0, d1, d2, d3⟩, _, _⟩ := HL.out _ H1.out
  have QQ := Lib.hid (fun d os => Q1.out (Go.Sort.grow (redrawn w1 d) os) (H1.out.trans ((below_regrown w1 d os).mono H1.out.size)))
  obtain ⟨k1, n1, s1, A1, p1, a1⟩ := x
  obtain ⟨k2, n2, s2, A2, p2, a2⟩ := y
  simp only [Tm.kind, Tm.num, Tm.name, Tm.at_, Tm.args, Tm.cap] at c0 c1 c2 c3 d0 d1 d2 d3
  have f0 := cell_regrown x0
  have f2 := cell_regrown x2
  have g0 := cell_regrown c0
  have g1 := cell_regrown c1
  have g2 := cell_regrown c2
  have g3 := cell_regrown c3
  have i0 := cell_regrown d0
  have i1 := cell_regrown d1
  have i2 := cell_regrown d2
  have i3 := cell_regrown d3
  clear hb1 HL c0 c1 c2 c3 d0 d1 d2 d3 x2
  go_wp2_with fail
  refine wp_region_quiet_below (by kernel_rfl) (by kernel_rfl) ?_
  repeat (go_big_quiet_step (first | (go_at_call 31; exact Calls.regrown_of (QQ.out _ _)) | fail))
  refine wpQuiet_nil ?_
  intro w2 hw'
  have H2 := Lib.hid (H1.out.trans ((regrown_below hw').mono H1.out.size))
  clear hw'
  go_wp2_with fail
  go_ret
  exact ⟨by rw [HV.out]; try rfl, H2.out⟩
set_option maxHeartbeats 8000000 in
theorem test_p_9 {can : Tm → Tm → Bool} (hc : Cans can) (s : ByteArray) (A : Option Addr) (c : Nat) (l : List Tm) (w : World) (ha : (⟨9, s, A, c, l⟩ : Gl).At w) (hb : goalB 9 s l = true) :
    Calls Tryz.prog 10 #[.agg #[.int .i64 9, .string s, .slice A l.length c]] w fun e w' => e = .returned (.int .i64 (testV can 9 s l)) ∧ Below w.heap.size w w' := by
  have B0 := Lib.hid (show ∀ o, Below w.heap.size w (w.alloc o) from fun o => (Below.refl _ _).alloc (Nat.le_refl _) o)
  have hl : Lst w A l c := ha.2.2
  have Q0 := Lib.hid (fun W (h : Below w.heap.size w W) => right_goal_at ⟨9, s, A, c, l⟩ W (ha.below h) hb)
  have ht := isT_of hb (by omega)
  have hr := rightL_each (isT_built ht).2.2
  obtain ⟨x, y, rfl⟩ := isT_two ht (by omega)
  have HV := Lib.hid (show testV can 9 s [x, y] = valT 9 x y from by rw [testV_two ht]; rfl)
  have Q1 := Lib.hid (fun W (h : Below w.heap.size w W) => values_p_at 9 x y W ((hl.below h).mem (by simp)) ((hl.below h).mem (by simp)))
  have HL := Lib.hid (fun W (h : Below w.heap.size w W) => lst_two (hl.below h))
  generalize testV can 9 s [x, y] = v at *
  generalize valT 9 x y = v5 at *
  clear hl hb hr ht ha
  go_enter Tryz.func10, Tryz.ntmps10
  go_wp2_with fail
  refine (Q0.out _ (B0.out _)).mono ?_
  rintro e w1 ⟨rfl, hb1⟩
  have x0 := boxN hb1 0 _ rfl
  have x2 := boxN hb1 2 _ rfl
  have H1 := Lib.hid ((B0.out _).trans (hb1.mono (by simp)))
  obtain ⟨b, o, rfl, ⟨c0, c1, c2, c3⟩, ⟨d0, d1, d2, d3⟩, _, _⟩ := HL.out _ H1.out
  have QQ := Lib.hid (fun d os => Q1.out (Go.Sort.grow (redrawn w1 d) os) (H1.out.trans ((below_regrown w1 d os).mono H1.out.size)))
  obtain ⟨k1, n1, s1, A1, p1, a1⟩ := x
  obtain ⟨k2, n2, s2, A2, p2, a2⟩ := y
  simp only [Tm.kind, Tm.num, Tm.name, Tm.at_, Tm.args, Tm.cap] at c0 c1 c2 c3 d0 d1 d2 d3
  have f0 := cell_regrown x0
  have f2 := cell_regrown x2
  have g0 := cell_regrown c0
  have g1 := cell_regrown c1
  have g2 := cell_regrown c2
  have g3 := cell_regrown c3
  have i0 := cell_regrown d0
  have i1 := cell_regrown d1
  have i2 := cell_regrown d2
  have i3 := cell_regrown d3
  clear hb1 HL c0 c1 c2 c3 d0 d1 d2 d3 x2
  go_wp2_with fail
  refine wp_region_quiet_below (by kernel_rfl) (by kernel_rfl) ?_
  repeat (go_big_quiet_step (first | (go_at_call 31; exact Calls.regrown_of (QQ.out _ _)) | fail))
  refine wpQuiet_nil ?_
  intro w2 hw'
  have H2 := Lib.hid (H1.out.trans ((regrown_below hw').mono H1.out.size))
  clear hw'
  go_wp2_with fail
  go_ret
  exact ⟨by rw [HV.out]; try rfl, H2.out⟩
set_option maxHeartbeats 8000000 in
theorem test_p_10 {can : Tm → Tm → Bool} (hc : Cans can) (s : ByteArray) (A : Option Addr) (c : Nat) (l : List Tm) (w : World) (ha : (⟨10, s, A, c, l⟩ : Gl).At w) (hb : goalB 10 s l = true) :
    Calls Tryz.prog 10 #[.agg #[.int .i64 10, .string s, .slice A l.length c]] w fun e w' => e = .returned (.int .i64 (testV can 10 s l)) ∧ Below w.heap.size w w' := by
  have B0 := Lib.hid (show ∀ o, Below w.heap.size w (w.alloc o) from fun o => (Below.refl _ _).alloc (Nat.le_refl _) o)
  have hl : Lst w A l c := ha.2.2
  have Q0 := Lib.hid (fun W (h : Below w.heap.size w W) => right_goal_at ⟨10, s, A, c, l⟩ W (ha.below h) hb)
  have ht := isT_of hb (by omega)
  have hr := rightL_each (isT_built ht).2.2
  obtain ⟨x, y, rfl⟩ := isT_two ht (by omega)
  have HV := Lib.hid (show testV can 10 s [x, y] = valT 10 x y from by rw [testV_two ht]; rfl)
  have Q1 := Lib.hid (fun W (h : Below w.heap.size w W) => values_p_at 10 x y W ((hl.below h).mem (by simp)) ((hl.below h).mem (by simp)))
  have HL := Lib.hid (fun W (h : Below w.heap.size w W) => lst_two (hl.below h))
  generalize testV can 10 s [x, y] = v at *
  generalize valT 10 x y = v5 at *
  clear hl hb hr ht ha
  go_enter Tryz.func10, Tryz.ntmps10
  go_wp2_with fail
  refine (Q0.out _ (B0.out _)).mono ?_
  rintro e w1 ⟨rfl, hb1⟩
  have x0 := boxN hb1 0 _ rfl
  have x2 := boxN hb1 2 _ rfl
  have H1 := Lib.hid ((B0.out _).trans (hb1.mono (by simp)))
  obtain ⟨b, o, rfl, ⟨c0, c1, c2, c3⟩, ⟨d0, d1, d2, d3⟩, _, _⟩ := HL.out _ H1.out
  have QQ := Lib.hid (fun d os => Q1.out (Go.Sort.grow (redrawn w1 d) os) (H1.out.trans ((below_regrown w1 d os).mono H1.out.size)))
  obtain ⟨k1, n1, s1, A1, p1, a1⟩ := x
  obtain ⟨k2, n2, s2, A2, p2, a2⟩ := y
  simp only [Tm.kind, Tm.num, Tm.name, Tm.at_, Tm.args, Tm.cap] at c0 c1 c2 c3 d0 d1 d2 d3
  have f0 := cell_regrown x0
  have f2 := cell_regrown x2
  have g0 := cell_regrown c0
  have g1 := cell_regrown c1
  have g2 := cell_regrown c2
  have g3 := cell_regrown c3
  have i0 := cell_regrown d0
  have i1 := cell_regrown d1
  have i2 := cell_regrown d2
  have i3 := cell_regrown d3
  clear hb1 HL c0 c1 c2 c3 d0 d1 d2 d3 x2
  go_wp2_with fail
  refine wp_region_quiet_below (by kernel_rfl) (by kernel_rfl) ?_
  repeat (go_big_quiet_step (first | (go_at_call 31; exact Calls.regrown_of (QQ.out _ _)) | fail))
  refine wpQuiet_nil ?_
  intro w2 hw'
  have H2 := Lib.hid (H1.out.trans ((regrown_below hw').mono H1.out.size))
  clear hw'
  go_wp2_with fail
  go_ret
  exact ⟨by rw [HV.out]; try rfl, H2.out⟩
set_option maxHeartbeats 8000000 in
theorem test_p_11 {can : Tm → Tm → Bool} (hc : Cans can) (s : ByteArray) (A : Option Addr) (c : Nat) (l : List Tm) (w : World) (ha : (⟨11, s, A, c, l⟩ : Gl).At w) (hb : goalB 11 s l = true) :
    Calls Tryz.prog 10 #[.agg #[.int .i64 11, .string s, .slice A l.length c]] w fun e w' => e = .returned (.int .i64 (testV can 11 s l)) ∧ Below w.heap.size w w' := by
  have B0 := Lib.hid (show ∀ o, Below w.heap.size w (w.alloc o) from fun o => (Below.refl _ _).alloc (Nat.le_refl _) o)
  have hl : Lst w A l c := ha.2.2
  have Q0 := Lib.hid (fun W (h : Below w.heap.size w W) => right_goal_at ⟨11, s, A, c, l⟩ W (ha.below h) hb)
  have ht := isT_of hb (by omega)
  obtain ⟨x, rfl⟩ := isT_one ht (by omega)
  have HV := Lib.hid (show testV can 11 s [x] = intV x from by rw [testV_one ht]; rfl)
  have Q1 := Lib.hid (fun W (h : Below w.heap.size w W) => integer_at x W)
  have HL := Lib.hid (fun W (h : Below w.heap.size w W) => lst_one (hl.below h))
  generalize testV can 11 s [x] = v at *
  generalize intV x = v5 at *
  clear hl hb ht ha
  go_enter Tryz.func10, Tryz.ntmps10
  go_wp2_with fail
  refine (Q0.out _ (B0.out _)).mono ?_
  rintro e w1 ⟨rfl, hb1⟩
  have x0 := boxN hb1 0 _ rfl
  have x2 := boxN hb1 2 _ rfl
  have H1 := Lib.hid ((B0.out _).trans (hb1.mono (by simp)))
  obtain ⟨b, o, rfl, ⟨c0, c1, c2, c3⟩, _⟩ := HL.out _ H1.out
  have Q2 := Lib.hid (Q1.out w1 H1.out)
  obtain ⟨k1, n1, s1, A1, p1, a1⟩ := x
  simp only [Tm.kind, Tm.num, Tm.name, Tm.at_, Tm.args, Tm.cap] at c0 c1 c2 c3
  clear hb1 HL
  go_wp2_with fail
  refine (Q2.out).mono ?_
  rintro e w2 ⟨rfl, hb2⟩
  have H2 := Lib.hid (H1.out.trans (hb2.mono H1.out.size))
  clear hb2
  go_wp2_with fail
  go_ret
  exact ⟨by rw [HV.out]; try rfl, H2.out⟩
set_option maxHeartbeats 8000000 in
theorem test_p_12 {can : Tm → Tm → Bool} (hc : Cans can) (s : ByteArray) (A : Option Addr) (c : Nat) (l : List Tm) (w : World) (ha : (⟨12, s, A, c, l⟩ : Gl).At w) (hb : goalB 12 s l = true) :
    Calls Tryz.prog 10 #[.agg #[.int .i64 12, .string s, .slice A l.length c]] w fun e w' => e = .returned (.int .i64 (testV can 12 s l)) ∧ Below w.heap.size w w' := by
  have B0 := Lib.hid (show ∀ o, Below w.heap.size w (w.alloc o) from fun o => (Below.refl _ _).alloc (Nat.le_refl _) o)
  have hl : Lst w A l c := ha.2.2
  have Q0 := Lib.hid (fun W (h : Below w.heap.size w W) => right_goal_at ⟨12, s, A, c, l⟩ W (ha.below h) hb)
  have ht := isT_of hb (by omega)
  obtain ⟨x, rfl⟩ := isT_one ht (by omega)
  have HV := Lib.hid (show testV can 12 s [x] = gndV x from by rw [testV_one ht]; rfl)
  have Q1 := Lib.hid (fun W (h : Below w.heap.size w W) => ground_p_at x W ((hl.below h).mem (by simp)))
  have HL := Lib.hid (fun W (h : Below w.heap.size w W) => lst_one (hl.below h))
  generalize testV can 12 s [x] = v at *
  generalize gndV x = v5 at *
  clear hl hb ht ha
  go_enter Tryz.func10, Tryz.ntmps10
  go_wp2_with fail
  refine (Q0.out _ (B0.out _)).mono ?_
  rintro e w1 ⟨rfl, hb1⟩
  have x0 := boxN hb1 0 _ rfl
  have x2 := boxN hb1 2 _ rfl
  have H1 := Lib.hid ((B0.out _).trans (hb1.mono (by simp)))
  obtain ⟨b, o, rfl, ⟨c0, c1, c2, c3⟩, _⟩ := HL.out _ H1.out
  have Q2 := Lib.hid (Q1.out w1 H1.out)
  obtain ⟨k1, n1, s1, A1, p1, a1⟩ := x
  simp only [Tm.kind, Tm.num, Tm.name, Tm.at_, Tm.args, Tm.cap] at c0 c1 c2 c3
  clear hb1 HL
  go_wp2_with fail
  refine (Q2.out).mono ?_
  rintro e w2 ⟨rfl, hb2⟩
  have H2 := Lib.hid (H1.out.trans (hb2.mono H1.out.size))
  clear hb2
  go_wp2_with fail
  go_ret
  exact ⟨by rw [HV.out]; try rfl, H2.out⟩
set_option maxHeartbeats 2000000 in
theorem test_p_at {can : Tm → Tm → Bool} (hc : Cans can) (g : Gl) (w : World) (ha : g.At w) :
    Calls Tryz.prog 10 #[g.val] w fun e w' => e = .returned (.int .i64 (testV can g.op g.name g.args)) ∧ Below w.heap.size w w' := by
  obtain ⟨op, s, A, c, l⟩ := g
  show Calls Tryz.prog 10 #[.agg #[.int .i64 op, .string s, .slice A l.length c]] w fun e w' => e = .returned (.int .i64 (testV can op s l)) ∧ Below w.heap.size w w'
  obtain ⟨b, hb⟩ : ∃ b, goalB op s l = b := ⟨_, rfl⟩
  cases b
  · have B0 := Lib.hid (show ∀ o, Below w.heap.size w (w.alloc o) from fun o => (Below.refl _ _).alloc (Nat.le_refl _) o)
    have Q0 := Lib.hid (fun W (h : Below w.heap.size w W) => right_goal_at ⟨op, s, A, c, l⟩ W (ha.below h) hb)
    have HV := Lib.hid (show testV can op s l = 2 from by
      have : isT op s l = false := by unfold isT; rw [hb]; simp
      rw [testV_none this, hb]; simp [holdV])
    generalize testV can op s l = v at *
    clear hb ha
    go_enter Tryz.func10, Tryz.ntmps10
    go_wp2_with fail
    refine (Q0.out _ (B0.out _)).mono ?_
    rintro e w1 ⟨rfl, hb1⟩
    go_wp2_with fail
    go_ret
    exact ⟨by rw [HV.out]; try rfl, (B0.out _).trans (hb1.mono (by simp))⟩
  · rcases goal_ops hb with rfl | rfl | rfl | rfl | rfl | rfl | rfl | rfl | rfl | rfl | rfl | rfl | rfl
    · exact test_p_0 hc s A c l w ha hb
    · exact test_p_1 hc s A c l w ha hb
    · exact test_p_2 hc s A c l w ha hb
    · exact test_p_3 hc s A c l w ha hb
    · exact test_p_4 hc s A c l w ha hb
    · exact test_p_5 hc s A c l w ha hb
    · exact test_p_6 hc s A c l w ha hb
    · exact test_p_7 hc s A c l w ha hb
    · exact test_p_8 hc s A c l w ha hb
    · exact test_p_9 hc s A c l w ha hb
    · exact test_p_10 hc s A c l w ha hb
    · exact test_p_11 hc s A c l w ha hb
    · exact test_p_12 hc s A c l w ha hb
end Go.Proofs.YtgpglgehlnfggaaGreat
namespace Go.Proofs.YtgpglgehlnfggaaGreat
open Go
def inV (can : Tm → Tm → Bool) (b : List Bd) (known : List Gl) (g : Gl) : Int :=
  if (isT g.op g.name (appL b g.args) && known.any fun k => sgB g.op k.op g.name k.name (appL b g.args) (appL b k.args)) = true then 1 else testV can g.op g.name (appL b g.args)
def allStep (n out : Int) : Int := if n = 2 ∨ (n = 0 ∧ out = 1) then n else out
def allV (can : Tm → Tm → Bool) (b : List Bd) (known : List Gl) (l : List Gl) : Int := l.foldl (fun out g => allStep (inV can b known g) out) 1
theorem allV_next {can : Tm → Tm → Bool} {b : List Bd} {known l : List Gl} {k : Nat} (h : k < l.length) : allV can b known (l.take (k + 1)) = allStep (inV can b known (l.getD k default)) (allV can b known (l.take k)) := by
  unfold allV
  rw [List.take_succ_eq_append_getElem h, List.foldl_append]
  simp [List.getD, List.getElem?_eq_getElem h]
theorem inV_none {can : Tm → Tm → Bool} (b : List Bd) (g : Gl) : inV can b [] g = testV can g.op g.name (appL b g.args) := by
  unfold inV
  rw [if_neg (by simp)]
def akI (n : Int) : Tm := .mk 0 n ByteArray.empty none 0 []
def akF (A : Option Addr) (c : Nat) (l : List Tm) (s : ByteArray) : Tm := .mk 2 0 s A c l
def akB : List Bd := [⟨1, akI 5⟩]
theorem ak_less (can : Tm → Tm → Bool) : testV can 7 ByteArray.empty [akI 3, akI 5] = 1 := by
  rw [testV_two (by kernel_rfl)]
  kernel_rfl
theorem ak_apart (can : Tm → Tm → Bool) : testV can 6 ByteArray.empty [vr 0, vr 0] = 2 := by
  rw [testV_two (by kernel_rfl)]
  kernel_rfl
theorem ak_occurs {can : Tm → Tm → Bool} (hc : Cans can) : testV can 5 ByteArray.empty [vr 0, akF none 0 [vr 0] ⟨#[102]⟩] = 2 := by
  rw [testV_two (by kernel_rfl), if_pos (.inl rfl)]
  unfold sameV
  rw [show (cmpT (vr 0) (akF none 0 [vr 0] ⟨#[102]⟩) == 0) = false by kernel_rfl, if_neg (by simp)]
  have h : can (vr 0) (akF none 0 [vr 0] ⟨#[102]⟩) = false := by
    cases h1 : can (vr 0) (akF none 0 [vr 0] ⟨#[102]⟩) with
    | false => rfl
    | true =>
      obtain ⟨f, hf⟩ := (hc _ _).1 h1
      have := congrArg Tm.nodes hf
      simp [vr, akF, Tm.sub, subL, Tm.nodes, nodesL] at this
  rw [h]
  rfl
theorem ak_can {can : Tm → Tm → Bool} (hc : Cans can) : testV can 5 ByteArray.empty [vr 0, akF none 0 [] ⟨#[97]⟩] = 0 := by
  rw [testV_two (by kernel_rfl), if_pos (.inl rfl)]
  unfold sameV
  rw [show (cmpT (vr 0) (akF none 0 [] ⟨#[97]⟩) == 0) = false by kernel_rfl, if_neg (by simp), (hc _ _).2 ⟨fun _ => akF none 0 [] ⟨#[97]⟩, by simp [vr, akF, Tm.sub, subL]⟩, if_pos rfl]
theorem ak_known (can : Tm → Tm → Bool) (A C : Option Addr) (a c : Nat) : inV can akB [⟨7, ByteArray.empty, A, a, [vr 0, vr 1]⟩] ⟨7, ByteArray.empty, C, c, [vr 0, akI 5]⟩ = 1 := by
  unfold inV
  rw [if_pos (by kernel_rfl)]
theorem ak_open (can : Tm → Tm → Bool) (A C : Option Addr) (a c : Nat) : inV can akB [⟨7, ByteArray.empty, A, a, [vr 0, vr 1]⟩] ⟨7, ByteArray.empty, C, c, [vr 0, akI 6]⟩ = 0 := by
  have e : ((isT 7 ByteArray.empty (appL akB [vr 0, akI 6]) && [(⟨7, ByteArray.empty, A, a, [vr 0, vr 1]⟩ : Gl)].any fun k => sgB 7 k.op ByteArray.empty k.name (appL akB [vr 0, akI 6]) (appL akB k.args))) = false := by kernel_rfl
  unfold inV
  rw [if_neg (fun h => by rw [e] at h; cases h)]
  show testV can 7 ByteArray.empty [vr 0, akI 6] = 0
  rw [testV_two (by kernel_rfl)]
  kernel_rfl
theorem ak_fol : folB 7 8 ByteArray.empty ByteArray.empty [vr 0, vr 1] [vr 0, vr 1] = true := by kernel_rfl
theorem ak_nofol : folB 7 8 ByteArray.empty ByteArray.empty [vr 0, vr 1] [vr 1, vr 0] = false := by kernel_rfl
end Go.Proofs.YtgpglgehlnfggaaGreat
namespace Go.Proofs.YtgpglgehlnfggaaGreat
open Go.RowKit
def impB (f t : Int) : Bool := if f = t then true else if f = 7 then (decide (t = 8) || decide (t = 10)) else if f = 9 then decide (t = 8) else false
def impX (f t : Int) : Bool := if f = 7 then decide (t = 10) else if f = 9 then (decide (t = 8) || decide (t = 9)) else if f = 10 ∨ f = 5 ∨ f = 6 then decide (t = f) else false
theorem test_ops {op : Int} (h : 5 ≤ op ∧ op ≤ 12) : op = 5 ∨ op = 6 ∨ op = 7 ∨ op = 8 ∨ op = 9 ∨ op = 10 ∨ op = 11 ∨ op = 12 := by omega
theorem fol_prog {op op' : Int} {s s' : ByteArray} {l m : List Tm} (h : isT op s l = true) (h' : isT op' s' m = true) :
    ((impB op op' && (cmpL l m == 0)) || (impX op op' && (cmpL l.reverse m == 0))) = folB op op' s s' l m := by
  have hs := (isT_built h).1
  have hs' := (isT_built h').1
  subst hs hs'
  unfold folB
  rw [h, h']
  by_cases h10 : op ≤ 10
  · obtain ⟨x, y, rfl⟩ := isT_two h h10
    have h1 := (isT_goal h).1
    have h2 := isT_goal h'
    simp only [List.reverse_cons, List.reverse_nil, List.nil_append, List.cons_append, folL, sgB]
    clear h h'
    by_cases p : cmpL [x, y] m = 0 <;> by_cases q : cmpL [y, x] m = 0
    all_goals
      rcases test_ops (op := op) ⟨h1, by omega⟩ with rfl | rfl | rfl | rfl | rfl | rfl | rfl | rfl <;> first | omega | (rcases test_ops ⟨h2.1, h2.2.1⟩ with rfl | rfl | rfl | rfl | rfl | rfl | rfl | rfl <;> simp [impB, impX, p, q])
  · obtain ⟨x, rfl⟩ := isT_one h h10
    have h1 := isT_goal h
    have h2 := isT_goal h'
    simp only [List.reverse_cons, List.reverse_nil, List.nil_append, folL, sgB, List.any_nil, Bool.or_false]
    generalize (cmpL [x] m == 0) = p
    clear h h'
    rcases test_ops (op := op) ⟨h1.1, h1.2.1⟩ with rfl | rfl | rfl | rfl | rfl | rfl | rfl | rfl <;> first | omega | (rcases test_ops ⟨h2.1, h2.2.1⟩ with rfl | rfl | rfl | rfl | rfl | rfl | rfl | rfl <;> cases p <;> simp [impB, impX])
set_option maxHeartbeats 1000000 in
theorem implies_at (f t : Int) (w : World) {r : Bool} (hr : impB f t = r) : Calls Tryz.prog 48 #[.int .i64 f, .int .i64 t] w fun e w' => e = .returned (.bool r) ∧ w = w' := by
  have HR := Lib.hid hr
  clear hr
  by_cases h0 : f = t
  · subst h0
    have HE := Lib.hid (show r = true by rw [← HR.out]; simp [impB])
    go_enter Tryz.func48, Tryz.ntmps48
    go_wp2_with fail
    go_ret
    exact ⟨by rw [HE.out]; try rfl, rfl⟩
  have e0 : (f == t) = false := by simpa using h0
  by_cases h7 : f = 7
  · subst h7
    have HE := Lib.hid (show r = (decide (t = 8) || decide (t = 10)) by rw [← HR.out]; simp [impB, h0])
    clear h0 HR
    by_cases h8 : t = 8
    · subst h8
      go_enter Tryz.func48, Tryz.ntmps48
      go_wp2_with fail
      go_ret
      exact ⟨by rw [HE.out]; rfl, rfl⟩
    · have e8 : (t == 8) = false := by simpa using h8
      have HE2 := Lib.hid (show r = (t == 10) by rw [HE.out, decide_eq_false h8]; rw [Bool.false_or, Bool.eq_iff_iff]; simp)
      clear h8 HE
      go_enter Tryz.func48, Tryz.ntmps48
      go_wp2_with fail
      go_ret
      exact ⟨by rw [HE2.out]; try rfl, rfl⟩
  have e7 : (f == 7) = false := by simpa using h7
  by_cases h9 : f = 9
  · subst h9
    have HE := Lib.hid (show r = (t == 8) by rw [← HR.out]; unfold impB; rw [if_neg h0, if_neg h7, if_pos rfl, Bool.eq_iff_iff]; simp)
    clear h0 h7 HR
    go_enter Tryz.func48, Tryz.ntmps48
    go_wp2_with fail
    go_ret
    exact ⟨by rw [HE.out]; try rfl, rfl⟩
  have e9 : (f == 9) = false := by simpa using h9
  have HE := Lib.hid (show r = false by rw [← HR.out]; unfold impB; rw [if_neg h0, if_neg h7, if_neg h9])
  clear h0 h7 h9 HR
  go_enter Tryz.func48, Tryz.ntmps48
  go_wp2_with fail
  go_ret
  exact ⟨by rw [HE.out]; try rfl, rfl⟩
set_option maxHeartbeats 1000000 in
theorem implies_x_at (f t : Int) (w : World) {r : Bool} (hr : impX f t = r) : Calls Tryz.prog 51 #[.int .i64 f, .int .i64 t] w fun e w' => e = .returned (.bool r) ∧ w = w' := by
  have HR := Lib.hid hr
  clear hr
  by_cases h7 : f = 7
  · subst h7
    have HE := Lib.hid (show r = (t == 10) by rw [← HR.out]; unfold impX; rw [if_pos rfl, Bool.eq_iff_iff]; simp)
    clear HR
    go_enter Tryz.func51, Tryz.ntmps51
    go_wp2_with fail
    go_ret
    exact ⟨by rw [HE.out]; try rfl, rfl⟩
  have e7 : (f == 7) = false := by simpa using h7
  by_cases h9 : f = 9
  · subst h9
    have HE := Lib.hid (show r = (decide (t = 8) || decide (t = 9)) by rw [← HR.out]; simp [impX])
    clear h7 HR
    by_cases h8 : t = 8
    · subst h8
      go_enter Tryz.func51, Tryz.ntmps51
      go_wp2_with fail
      go_ret
      exact ⟨by rw [HE.out]; rfl, rfl⟩
    · have e8 : (t == 8) = false := by simpa using h8
      have HE2 := Lib.hid (show r = (t == 9) by rw [HE.out, decide_eq_false h8]; rw [Bool.false_or, Bool.eq_iff_iff]; simp)
      clear h8 HE
      go_enter Tryz.func51, Tryz.ntmps51
      go_wp2_with fail
      go_ret
      exact ⟨by rw [HE2.out]; try rfl, rfl⟩
  have e9 : (f == 9) = false := by simpa using h9
  by_cases ho : f = 10 ∨ f = 5 ∨ f = 6
  · have HE := Lib.hid (show r = (t == f) by rw [← HR.out]; unfold impX; rw [if_neg h7, if_neg h9, if_pos ho, Bool.eq_iff_iff]; simp)
    clear h7 h9 HR
    rcases ho with rfl | rfl | rfl
    all_goals
      go_enter Tryz.func51, Tryz.ntmps51
      go_wp2_with fail
      go_ret
      exact ⟨by rw [HE.out]; try rfl, rfl⟩
  · have e10 : (f == 10) = false := by simp only [beq_eq_false_iff_ne]; omega
    have e5 : (f == 5) = false := by simp only [beq_eq_false_iff_ne]; omega
    have e6 : (f == 6) = false := by simp only [beq_eq_false_iff_ne]; omega
    have HE := Lib.hid (show r = false by rw [← HR.out]; unfold impX; rw [if_neg h7, if_neg h9, if_neg ho])
    clear h7 h9 ho HR
    go_enter Tryz.func51, Tryz.ntmps51
    go_wp2_with fail
    go_ret
    exact ⟨by rw [HE.out]; try rfl, rfl⟩
theorem reverse_one_at (A : Option Addr) (c n : Nat) (hn : n ≤ 1) (w : World) : Calls Tryz.prog 47 #[.slice A n c] w fun e w' => e = .returned (.tuple #[]) ∧ w = w' := by
  have d0 : decide ((0 : Int) < (n : Int) - 1) = false := decide_eq_false (by omega)
  go_enter Tryz.func47, Tryz.ntmps47
  go_wp2_with fail
  refine wp_loop_rounds 1 ?_
  rw [rounds_succ]
  go_wp2_with fail
  go_end0
  exact ⟨rfl, rfl⟩
theorem Row4.get4 {w : World} {g : Nat} {l : List Tm} (h : Row4 w g l) {i : Nat} (hi : i < l.length) : w.cell? ⟨g, i * 4, none⟩ = some (.int .i64 (l.getD i default).kind) ∧ w.cell? ⟨g, i * 4 + 1, none⟩ = some (.int .i64 (l.getD i default).num) ∧ w.cell? ⟨g, i * 4 + 2, none⟩ = some (.string (l.getD i default).name) ∧
    w.cell? ⟨g, i * 4 + 3, none⟩ = some (.slice (l.getD i default).at_ (l.getD i default).args.length (l.getD i default).cap) := by
  have e : i * 4 = 4 * i := Nat.mul_comm _ _
  rw [e]
  exact ⟨h.2.2 i 0 _ hi rfl, h.2.2 i 1 _ hi rfl, h.2.2 i 2 _ hi rfl, h.2.2 i 3 _ hi rfl⟩
theorem Row4.drew {w : World} {g : Nat} {l : List Tm} (h : Row4 w g l) : Row4 w.drew g l := ⟨h.1, h.2.1, h.2.2⟩
def put4 (w : World) (g i : Nat) (x : Tm) : World :=
  (((w.setCell ⟨g, i * 4, none⟩ (.int .i64 x.kind)).setCell ⟨g, i * 4 + 1, none⟩ (.int .i64 x.num)).setCell ⟨g, i * 4 + 2, none⟩ (.string x.name)).setCell ⟨g, i * 4 + 3, none⟩ (.slice x.at_ x.args.length x.cap)
theorem put4_keeps {w : World} {g i : Nat} {x : Tm} (K : World) (h : Keeps g K w) : Keeps g K (put4 w g i x) := (((h.set _ _ _).set _ _ _).set _ _ _).set _ _ _
set_option maxHeartbeats 4000000 in
set_option maxRecDepth 100000 in
theorem reverse_two_at (x y : Tm) (g c : Nat) (w : World) (h : Row4 w g [x, y]) :
    Calls Tryz.prog 47 #[.slice (some ⟨g, 0, none⟩) 2 c] w fun e w' => e = .returned (.tuple #[]) ∧ Row4 w' g [y, x] ∧ Keeps g w w' := by
  have HR := Lib.hid h
  clear h
  go_enter Tryz.func47, Tryz.ntmps47
  go_wp2_with fail
  go_loopw [2, 3] (fun i j wr => ∃ (p q : Nat), i = .int .i64 p ∧ j = .int .i64 q ∧ Hid (p = 0 ∧ q = 1 ∧ Row4 wr g [x, y] ∨ p = 1 ∧ q = 0 ∧ Row4 wr g [y, x]) ∧ Hid (Keeps g w wr)) (fun i _ _ => 1 - (intOf i).toNat)
  case atStart => exact ⟨0, 1, rfl, rfl, Lib.hid (.inl ⟨rfl, rfl, HR.out⟩), Lib.hid (Keeps.refl _ _)⟩
  case round =>
    clear HR
    obtain ⟨p, q, rfl, rfl, HR, HK⟩ := hrel
    rcases HR.out with ⟨hp, hq, hR⟩ | ⟨hp, hq, hR⟩
    · have HD := Lib.hid hR
      have HP := Lib.hid (hR.store (i := p) (by simp; omega) y)
      obtain ⟨c0, c1, c2, c3⟩ := hR.get4 (i := p) (by simp; omega)
      obtain ⟨d0, d1, d2, d3⟩ := hR.get4 (i := q) (by simp; omega)
      obtain ⟨e0, e1, e2, e3⟩ := HP.out.get4 (i := q) (by simp; omega)
      have HQ := Lib.hid (HP.out.store (i := q) (by simp; omega) x)
      have gx : ([x, y] : List Tm).getD p default = x := by rw [hp]; rfl
      have gy : ([x, y] : List Tm).getD q default = y := by rw [hq]; rfl
      have gz : (([x, y] : List Tm).set p y).getD q default = y := by rw [hp, hq]; rfl
      have gw : (([x, y] : List Tm).set p y).set q x = [y, x] := by rw [hp, hq]; rfl
      rw [gx] at c0 c1 c2 c3
      rw [gy] at d0 d1 d2 d3
      rw [gz] at e0 e1 e2 e3
      have HFin := Lib.hid (show Row4 (put4 (put4 wr g p y) g q x).drew g [y, x] by rw [← gw]; exact HQ.out.drew)
      have HKin := Lib.hid ((put4_keeps (i := q) (x := x) w (put4_keeps (i := p) (x := y) w HK.out)).drew)
      have f := hR.2.1
      have fp0 := f (p * 4)
      have fp1 := f (p * 4 + 1)
      have fp2 := f (p * 4 + 2)
      have fp3 := f (p * 4 + 3)
      have fq0 := f (q * 4)
      have fq1 := f (q * 4 + 1)
      have fq2 := f (q * 4 + 2)
      have fq3 := f (q * 4 + 3)
      have pn : p < q := by omega
      have p2 : (p : Int) < 2 := by omega
      have q2 : (q : Int) < 2 := by omega
      have HN := Lib.hid (show p = 0 ∧ q = 1 from ⟨hp, hq⟩)
      clear gx gy gz gw f hR HD HP HQ HR HK hp hq
      obtain ⟨xk, xn, xs, xA, xc, xa⟩ := x
      obtain ⟨yk, yn, ys, yA, yc, ya⟩ := y
      simp only [put4, Tm.kind, Tm.num, Tm.name, Tm.at_, Tm.args, Tm.cap] at c0 c1 c2 c3 d0 d1 d2 d3 e0 e1 e2 e3 HFin HKin
      go_wp2_with fail
      go_region
      all_goals go_wp2
      go_roundw
      case rel => exact ⟨p + 1, 0, by go_num, by (have h := HN.out.2; rw [h]; rfl), Lib.hid (.inr ⟨by have := HN.out.1; omega, rfl, HFin.out⟩), HKin⟩
      case measure => have h := HN.out.1; simp [intOf]; omega
    · have pn : ¬ p < q := by omega
      have HE := Lib.hid hR
      clear hp hq hR HR
      go_wp2_with fail
      go_end0
      exact ⟨rfl, HE.out, HK.out⟩
theorem boxes_gl {w W : World} {v0 v1 v2 u0 u1 u2 : Value} {T : TypeId} (h : Below ((w.alloc (.cells #[v0, v1, v2] T)).alloc (.cells #[u0, u1, u2] T)).heap.size ((w.alloc (.cells #[v0, v1, v2] T)).alloc (.cells #[u0, u1, u2] T)) W) :
    (W.cell? ⟨w.heap.size, 0, none⟩ = some v0 ∧ W.cell? ⟨w.heap.size, 1, none⟩ = some v1 ∧ W.cell? ⟨w.heap.size, 2, none⟩ = some v2) ∧
    (W.cell? ⟨w.heap.size + 1, 0, none⟩ = some u0 ∧ W.cell? ⟨w.heap.size + 1, 1, none⟩ = some u1 ∧ W.cell? ⟨w.heap.size + 1, 2, none⟩ = some u2) := by
  have h1 : ∀ j v, (#[v0, v1, v2] : Array Value)[j]? = some v → W.cell? ⟨w.heap.size, j, none⟩ = some v := fun j v e => by
    rw [h.cell (p := ⟨w.heap.size, j, none⟩) (by simp; omega), World.cell?_alloc_past _ _ _ (by simp), World.cell?_alloc_at _ _ _ _ rfl]; exact e
  have h2 : ∀ j v, (#[u0, u1, u2] : Array Value)[j]? = some v → W.cell? ⟨w.heap.size + 1, j, none⟩ = some v := fun j v e => by
    rw [h.cell (p := ⟨w.heap.size + 1, j, none⟩) (by simp), World.cell?_alloc_at _ _ _ _ (by simp)]; exact e
  exact ⟨⟨h1 0 _ rfl, h1 1 _ rfl, h1 2 _ rfl⟩, ⟨h2 0 _ rfl, h2 1 _ rfl, h2 2 _ rfl⟩⟩
theorem turned_at (l : List Tm) (A : Option Addr) (c : Nat) (w : World) (hl : Lst w A l c) (h12 : l.length = 1 ∨ l.length = 2) :
    ∃ R : Option Addr → Nat → World → Prop, Calls Tryz.prog 46 #[.slice A l.length c] w (fun e w' => ∃ A' cap, e = .returned (.slice A' l.length cap) ∧ R A' cap w' ∧ Below w.heap.size w w') ∧
      ∀ A' cap w1, R A' cap w1 → Calls Tryz.prog 47 #[.slice A' l.length cap] w1 fun e w' => e = .returned (.tuple #[]) ∧ Below w.heap.size w w' ∧ Lst w' A' l.reverse cap ∧ l.reverse.length = l.length := by
  obtain ⟨b, o, rfl, hr⟩ := hl.2.2 (by omega)
  have hat : ∀ W, Below w.heap.size w W → ∀ x ∈ l.reverse, x.At W := fun W h x hx => (hl.below h).mem (List.mem_reverse.1 hx)
  refine ⟨fun A' cap W => l.length ≤ cap ∧ cap ≤ maxLen ∧ ∃ g, A' = some ⟨g, 0, none⟩ ∧ w.heap.size ≤ g ∧ Row4 W g l ∧ Below w.heap.size w W, (clone_at l b o c w (by omega) hr (by omega)).mono ?_, ?_⟩
  · rintro e w' ⟨A', cap, rfl, h1, h2, h3, h4⟩
    obtain ⟨g, rfl, h5, h6⟩ := h3 (by omega)
    exact ⟨_, cap, rfl, ⟨h1, h2, g, rfl, h5, h6, h4⟩, h4⟩
  · rintro A' cap w1 ⟨h1, h2, g, rfl, h5, h6, h4⟩
    rcases h12 with h12 | h12
    · obtain ⟨x, rfl⟩ := len_one h12
      refine (reverse_one_at _ cap 1 (Nat.le_refl _) w1).mono ?_
      rintro e w' ⟨rfl, rfl⟩
      exact ⟨rfl, h4, ⟨h1, h2, fun _ => ⟨g, 0, rfl, h6.at w1 (fun _ => rfl) (fun x hx => hat w1 h4 x hx)⟩⟩, rfl⟩
    · obtain ⟨x, y, rfl⟩ := len_two h12
      refine (reverse_two_at x y g cap w1 h6).mono ?_
      rintro e w' ⟨rfl, h7, h8⟩
      have hb : Below w.heap.size w w' := h4.trans ⟨h8.os, h8.tape, h8.output, h8.size, fun k hk => h8.block k (Nat.lt_of_lt_of_le hk h4.size) (by omega)⟩
      exact ⟨rfl, hb, ⟨h1, h2, fun _ => ⟨g, 0, rfl, h7.at w' (fun _ => rfl) (fun x hx => hat w' hb x (by simpa using hx))⟩⟩, rfl⟩
set_option maxHeartbeats 4000000 in
theorem follows_at (x y : Gl) (w : World) (hx : x.At w) (hy : y.At w) :
    Calls Tryz.prog 17 #[x.val, y.val] w fun e w' => e = .returned (.bool (folB x.op y.op x.name y.name x.args y.args)) ∧ Below w.heap.size w w' := by
  have Q1 := Lib.hid (fun W (h : Below w.heap.size w W) => is_test_at x W (hx.below h) rfl)
  have Q2 := Lib.hid (fun W (h : Below w.heap.size w W) => is_test_at y W (hy.below h) rfl)
  obtain ⟨op, s, A, c, l⟩ := x
  obtain ⟨op', s', A', c', m⟩ := y
  simp only at Q1 Q2 ⊢
  have hl : Lst w A l c := hx.2.2
  have hm : Lst w A' m c' := hy.2.2
  obtain ⟨t1, h1⟩ : ∃ t1, isT op s l = t1 := ⟨_, rfl⟩
  obtain ⟨t2, h2⟩ : ∃ t2, isT op' s' m = t2 := ⟨_, rfl⟩
  rw [h1] at Q1
  rw [h2] at Q2
  have hno : t1 = false ∨ t2 = false → folB op op' s s' l m = false := fun h => by
    unfold folB
    rw [h1, h2]
    rcases h with rfl | rfl <;> simp
  have hyes : t1 = true → t2 = true → ((impB op op' && (cmpL l m == 0)) || (impX op op' && (cmpL l.reverse m == 0))) = folB op op' s s' l m := fun a b => fol_prog (by rw [h1, a]) (by rw [h2, b])
  have hlen : t1 = true → l.length = 1 ∨ l.length = 2 := fun a => by
    have ht : isT op s l = true := by rw [h1, a]
    by_cases h10 : op ≤ 10
    · obtain ⟨u, v, rfl⟩ := isT_two ht h10
      exact .inr rfl
    · obtain ⟨u, rfl⟩ := isT_one ht h10
      exact .inl rfl
  have HNo := Lib.hid hno
  have HYes := Lib.hid hyes
  have HLen := Lib.hid hlen
  have QI := Lib.hid (fun W => implies_at op op' W rfl)
  have QX := Lib.hid (fun W => implies_x_at op op' W rfl)
  have QE := Lib.hid (fun W (h : Below w.heap.size w W) => equal_func_at l m A A' c c' W (hl.below h) (hm.below h) rfl)
  have QR := Lib.hid (fun W (A2 : Option Addr) (q : Nat) (h : Below w.heap.size w W) (h2 : Lst W A2 l.reverse q) => equal_func_at l.reverse m A2 A' q c' W h2 (hm.below h) rfl)
  have QT := Lib.hid (fun W (h : Below w.heap.size w W) (hn : l.length = 1 ∨ l.length = 2) => turned_at l A c W (hl.below h) hn)
  generalize folB op op' s s' l m = v at *
  generalize impB op op' = i1 at *
  generalize impX op op' = i2 at *
  generalize (cmpL l m == 0) = e1 at *
  generalize (cmpL l.reverse m == 0) = e2 at *
  clear hno hyes hlen h1 h2 hx hy hl hm
  show Calls Tryz.prog 17 #[.agg #[.int .i64 op, .string s, .slice A l.length c], .agg #[.int .i64 op', .string s', .slice A' m.length c']] w _
  go_enter Tryz.func17, Tryz.ntmps17
  go_wp2_with fail
  refine (Q1.out _ (below2 _ _ _)).mono ?_
  rintro e w1 ⟨rfl, hb1⟩
  have X1 := Lib.hid (fun W (h : Below w1.heap.size w1 W) => boxes_gl (hb1.trans (h.mono hb1.size)))
  have H1 := Lib.hid ((below2 w _ _).trans (hb1.mono (by simp; omega)))
  obtain ⟨⟨c0, c1, c2⟩, d0, d1, d2⟩ := X1.out _ (Below.refl _ _)
  clear hb1
  cases t1
  · have HV := Lib.hid (HNo.out (by simp))
    go_wp2_with fail
    go_ret
    exact ⟨by rw [HV.out]; try rfl, H1.out⟩
  go_wp2_with fail
  refine (Q2.out _ H1.out).mono ?_
  rintro e w2 ⟨rfl, hb2⟩
  have X2 := Lib.hid (fun W (h : Below w2.heap.size w2 W) => X1.out W (hb2.trans (h.mono hb2.size)))
  have H2 := Lib.hid (H1.out.trans (hb2.mono H1.out.size))
  clear c0 c1 c2 d0 d1 d2 hb2 X1 H1
  obtain ⟨⟨c0, c1, c2⟩, d0, d1, d2⟩ := X2.out _ (Below.refl _ _)
  cases t2
  · have HV := Lib.hid (HNo.out (by simp))
    go_wp2_with fail
    go_ret
    exact ⟨by rw [HV.out]; try rfl, H2.out⟩
  have HV := Lib.hid (HYes.out (by simp) (by simp))
  obtain ⟨R, hc1, hc2⟩ := QT.out w2 H2.out (HLen.out (by simp))
  have QC := Lib.hid hc1
  have QV := Lib.hid hc2
  clear hc1 hc2 QT HLen HYes HNo
  go_wp2_with fail
  refine (QC.out).mono ?_
  rintro e w3 ⟨A3, p3, rfl, hR, hb3⟩
  have Q3 := Lib.hid (QV.out A3 p3 w3 hR)
  clear hR hb3 QV QC
  go_wp2_with fail
  refine (Q3.out).mono ?_
  rintro e w4 ⟨rfl, hb4, hl4, hn4⟩
  have X4 := Lib.hid (fun W (h : Below w4.heap.size w4 W) => X2.out W (hb4.trans (h.mono hb4.size)))
  have H4 := Lib.hid (H2.out.trans (hb4.mono H2.out.size))
  have HL4 := Lib.hid hl4
  have HN4 := Lib.hid hn4
  clear c0 c1 c2 d0 d1 d2 hb4 hl4 hn4 X2 H2 Q3
  obtain ⟨⟨c0, c1, c2⟩, d0, d1, d2⟩ := X4.out _ (Below.refl _ _)
  have QR4 := Lib.hid (fun W (h : Below w4.heap.size w4 W) => QR.out W A3 p3 (H4.out.trans (h.mono H4.out.size)) (HL4.out.below h))
  rw [HN4.out] at QR4
  clear QR HN4 HL4
  go_wp2_with fail
  refine (QI.out _).mono ?_
  rintro e w5 ⟨rfl, rfl⟩
  cases i1
  · go_wp2_with fail
    refine (QX.out _).mono ?_
    rintro e w6 ⟨rfl, rfl⟩
    cases i2
    · go_wp2_with fail
      go_ret
      exact ⟨by rw [← HV.out]; rfl, H4.out⟩
    · go_wp2_with fail
      refine (QR4.out _ (Below.refl _ _)).mono ?_
      rintro e w7 ⟨rfl, hb7⟩
      go_wp2_with fail
      go_ret
      exact ⟨by rw [← HV.out]; rfl, H4.out.trans (hb7.mono H4.out.size)⟩
  · go_wp2_with fail
    refine (QE.out _ H4.out).mono ?_
    rintro e w5 ⟨rfl, hb5⟩
    have H5 := Lib.hid (H4.out.trans (hb5.mono H4.out.size))
    cases e1
    · have QR5 := Lib.hid (QR4.out _ hb5)
      have X5 := Lib.hid (fun W (h : Below w5.heap.size w5 W) => X4.out W (hb5.trans (h.mono hb5.size)))
      clear c0 c1 c2 d0 d1 d2 hb5
      obtain ⟨⟨c0, c1, c2⟩, d0, d1, d2⟩ := X5.out _ (Below.refl _ _)
      go_wp2_with fail
      refine (QX.out _).mono ?_
      rintro e w6 ⟨rfl, rfl⟩
      cases i2
      · go_wp2_with fail
        go_ret
        exact ⟨by rw [← HV.out]; rfl, H5.out⟩
      · go_wp2_with fail
        refine (QR5.out).mono ?_
        rintro e w7 ⟨rfl, hb7⟩
        go_wp2_with fail
        go_ret
        exact ⟨by rw [← HV.out]; rfl, H5.out.trans (hb7.mono H5.out.size)⟩
    · go_wp2_with fail
      go_ret
      exact ⟨by rw [← HV.out]; rfl, H5.out⟩
end Go.Proofs.YtgpglgehlnfggaaGreat
namespace Go.Proofs.YtgpglgehlnfggaaGreat
open Go.ChangeShapes Go.WideShapes Go.ChangeAt Go.RowKit
theorem row_two {w : World} (t u : Tm) (ht : t.At w) (hu : u.At w) : RowAt (w.alloc (.cells #[.int .i64 t.kind, .int .i64 t.num, .string t.name, .slice t.at_ t.args.length t.cap, .int .i64 u.kind, .int .i64 u.num, .string u.name, .slice u.at_ u.args.length u.cap] 40)) [t, u] w.heap.size 0 := by
  have hc : ∀ j v, (#[.int .i64 t.kind, .int .i64 t.num, .string t.name, .slice t.at_ t.args.length t.cap, .int .i64 u.kind, .int .i64 u.num, .string u.name, .slice u.at_ u.args.length u.cap] : Array Value)[j]? = some v →
      (w.alloc (.cells #[.int .i64 t.kind, .int .i64 t.num, .string t.name, .slice t.at_ t.args.length t.cap, .int .i64 u.kind, .int .i64 u.num, .string u.name, .slice u.at_ u.args.length u.cap] 40)).cell? ⟨w.heap.size, j, none⟩ = some v := fun j v hv => by
    rw [World.cell?_alloc_at _ _ _ _ rfl, hv]
  simp only [RowAt]
  exact ⟨⟨hc 0 _ rfl, hc 1 _ rfl, hc 2 _ rfl, hc 3 _ rfl⟩, ht.alloc _, ⟨hc 4 _ rfl, hc 5 _ rfl, hc 6 _ rfl, hc 7 _ rfl⟩, hu.alloc _, trivial⟩
theorem great_two (t u : Tm) (most : Int) (W : World) (b : Nat) (hb : b = W.heap.size) (ht : t.At W) (hu : u.At W) (h1 : 0 ≤ most) (h2 : most ≤ 1000000) {r : Bool} (hr : decide (weigh [t, u] most 64 < 0) = r) :
    Calls Tryz.prog 22 #[.slice (some ⟨b, 0, none⟩) 2 2, .int .i64 most] (W.alloc (.cells #[.int .i64 t.kind, .int .i64 t.num, .string t.name, .slice t.at_ t.args.length t.cap, .int .i64 u.kind, .int .i64 u.num, .string u.name, .slice u.at_ u.args.length u.cap] 40)) fun e w' => e = .returned (.bool r) ∧ Below W.heap.size W w' := by
  subst hb
  exact (great_below [t, u] _ 2 most _ (Lst.of_row (row_two t u ht hu) (by simp)) h1 h2 hr).mono fun e w' ⟨he, h⟩ => ⟨he, (below1 _ _).trans (h.mono (below1 _ _).size)⟩
end Go.Proofs.YtgpglgehlnfggaaGreat
