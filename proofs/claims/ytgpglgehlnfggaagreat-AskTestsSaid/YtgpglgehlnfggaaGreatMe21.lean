/-
  ArRefEval.
  AkTestR.
-/
import Derived.Test.YtgpglgehlnfggaaGreatMe10
import Derived.Test.YtgpglgehlnfggaaGreatMe16
import Derived.Test.YtgpglgehlnfggaaGreatMe9
import Derived.Test.YtgpglgehlnfggaaGreatMe5
namespace Go.Proofs.YtgpglgehlnfggaaGreat
open Go.RowKit
theorem eval_other {k n : Int} {s : ByteArray} {A : Option Addr} {c : Nat} {a : List Tm} (h0 : k ≠ 0) (h1 : k ≠ 1) (h2 : k ≠ 2 ∨ opB s.data.toList = false ∨ a.length ≠ 2) : (Tm.mk k n s A c a).eval = (0, 11) := by
  refine eval_plain (t := .mk k n s A c a) h0 h1 ?_
  rw [opt_mk]
  rcases h2 with h | h | h <;> simp [h]
set_option maxHeartbeats 4000000 in
theorem ref_eval_at (t : Tm) : ∀ w : World, t.At w → Calls Tryz.prog 68 #[t.val] w fun e w' => e = .returned (pairV t.eval) ∧ Below w.heap.size w w' := by
  induction t using Tm.induct with
  | h k n s A c a ih =>
    intro w hat
    have B0 := Lib.hid (show ∀ o, Below w.heap.size w (w.alloc o) from fun o => (Below.refl _ _).alloc (Nat.le_refl _) o)
    show Calls Tryz.prog 68 #[.agg #[.int .i64 k, .int .i64 n, .string s, .slice A a.length c]] w _
    by_cases hk0 : k = 0
    · subst hk0
      obtain ⟨v, hv⟩ : ∃ v, inR n = v := ⟨_, rfl⟩
      have Q := Lib.hid (fun W => ref_in_at n W hv)
      have HV := Lib.hid (show (Tm.mk 0 n s A c a).eval = if v = true then (n, 0) else (0, 5) by simp [Tm.eval, hv])
      clear hv hat ih
      cases v
      all_goals
        go_enter Tryz.func68, Tryz.ntmps68
        go_wp2_with fail
        refine (Q.out _).mono ?_
        rintro e w1 ⟨rfl, rfl⟩
        go_wp2_with fail
        go_ret2
        exact ⟨by rw [HV.out]; rfl, B0.out _⟩
    have n0 : (k == 0) = false := by simpa using hk0
    by_cases hk1 : k = 1
    · subst hk1
      have HV := Lib.hid (show (Tm.mk 1 n s A c a).eval = (0, 17) by simp [Tm.eval])
      clear hat ih n0 hk0
      go_enter Tryz.func68, Tryz.ntmps68
      go_wp2_with fail
      go_ret2
      exact ⟨by rw [HV.out]; rfl, B0.out _⟩
    have n1 : (k == 1) = false := by simpa using hk1
    by_cases hk2 : k = 2
    · subst hk2
      obtain ⟨p, hp⟩ : ∃ p, opB s.data.toList = p := ⟨_, rfl⟩
      have Q1 := Lib.hid (fun W => ref_oper_at s W hp)
      cases p
      · have HV := Lib.hid (eval_other (n := n) (A := A) (c := c) (a := a) hk0 hk1 (.inr (.inl hp)))
        clear hat ih hk0 hk1 hp n0 n1
        go_enter Tryz.func68, Tryz.ntmps68
        go_wp2_with fail
        refine (Q1.out _).mono ?_
        rintro e w1 ⟨rfl, rfl⟩
        go_wp2_with fail
        go_ret2
        exact ⟨by rw [HV.out]; rfl, B0.out _⟩
      by_cases hl : a.length = 2
      · obtain ⟨x, y, rfl⟩ : ∃ x y, a = [x, y] := by
          match a, hl with
          | [x, y], _ => exact ⟨x, y, rfl⟩
        have HV := Lib.hid (eval_fun (n := n) (A := A) (c := c) (x := x) (y := y) hp)
        have Q2 := Lib.hid (fun W (h : Below w.heap.size w W) => ih x (by simp) W ((hat.below h).lst.mem (by simp [Tm.args])))
        have Q3 := Lib.hid (fun W (h : Below w.heap.size w W) => ih y (by simp) W ((hat.below h).lst.mem (by simp [Tm.args])))
        have Q4 := Lib.hid (fun a b W => ref_aapply_at s a b W)
        obtain ⟨b, o, rfl, ⟨c0, c1, c2, c3⟩, ⟨g0, g1, g2, g3⟩, _, _⟩ := two_cells hat
        have HG := Lib.hid (show _ ∧ _ ∧ _ ∧ _ from ⟨g0, g1, g2, g3⟩)
        replace c0 := fun ob => akeepc (B0.out ob) c0
        replace c1 := fun ob => akeepc (B0.out ob) c1
        replace c2 := fun ob => akeepc (B0.out ob) c2
        replace c3 := fun ob => akeepc (B0.out ob) c3
        clear hat ih hk0 hk1 hp n0 n1 hl g0 g1 g2 g3
        go_enter Tryz.func68, Tryz.ntmps68
        go_wp2_with fail
        refine (Q1.out _).mono ?_
        rintro e w1 ⟨rfl, rfl⟩
        go_wp2_with fail
        refine (Q2.out _ (B0.out _)).mono ?_
        rintro e w2 ⟨rfl, hb⟩
        obtain ⟨d0, d1, d2, d3, hb3⟩ := box4 hb
        obtain ⟨g0, g1, g2, g3⟩ := HG.out
        have k0 := akeepc hb3 g0
        have k1 := akeepc hb3 g1
        have k2 := akeepc hb3 g2
        have k3 := akeepc hb3 g3
        clear g0 g1 g2 g3 hb c0 c1 c2 c3
        generalize x.eval = p at *
        obtain ⟨p1, p2⟩ := p
        by_cases hp2 : p2 = 0
        · subst hp2
          go_wp2_with fail
          refine (Q3.out _ hb3).mono ?_
          rintro e w4 ⟨rfl, hb4⟩
          replace d2 := akeepc hb4 d2
          clear d3 k0 k1 k2 k3
          have hb5 := hb3.trans (hb4.mono hb3.size)
          generalize y.eval = q at *
          obtain ⟨q1, q2⟩ := q
          by_cases hq2 : q2 = 0
          · subst hq2
            go_wp2_with fail
            refine (Q4.out _ _ _).mono ?_
            rintro e w6 ⟨rfl, rfl⟩
            go_wp2_with fail
            go_ret2
            exact ⟨by rw [HV.out]; rfl, hb5⟩
          · have m2 : (q2 == 0) = false := by simpa using hq2
            have m3 : (q2 != 0) = true := by simpa using hq2
            have HW := Lib.hid hq2
            clear hq2
            go_wp2_with fail
            go_ret2
            exact ⟨by rw [HV.out]; simp [HW.out], hb5⟩
        · have m2 : (p2 == 0) = false := by simpa using hp2
          have m3 : (p2 != 0) = true := by simpa using hp2
          have HW := Lib.hid hp2
          clear hp2
          go_wp2_with fail
          go_ret2
          exact ⟨by rw [HV.out]; simp [HW.out], hb3⟩
      · have HV := Lib.hid (eval_other (n := n) (s := s) (A := A) (c := c) (a := a) hk0 hk1 (.inr (.inr hl)))
        have h1 : (a.length == 2) = false := by simpa using hl
        have h2 : ((a.length : Int) == 2) = false := by simp; omega
        have h3 : ((a.length : Int) != 2) = true := by simp; omega
        clear hat ih hk0 hk1 hp n0 n1 hl
        go_enter Tryz.func68, Tryz.ntmps68
        go_wp2_with fail
        refine (Q1.out _).mono ?_
        rintro e w1 ⟨rfl, rfl⟩
        go_wp2_with fail
        go_ret2
        exact ⟨by rw [HV.out]; rfl, B0.out _⟩
    · have n2 : (k == 2) = false := by simpa using hk2
      have n3 : (k != 2) = true := by simpa using hk2
      have HV := Lib.hid (eval_other (n := n) (s := s) (A := A) (c := c) (a := a) hk0 hk1 (.inl hk2))
      clear hat ih hk0 hk1 hk2
      go_enter Tryz.func68, Tryz.ntmps68
      go_wp2_with fail
      go_ret2
      exact ⟨by rw [HV.out]; rfl, B0.out _⟩
end Go.Proofs.YtgpglgehlnfggaaGreat
namespace Go.Proofs.YtgpglgehlnfggaaGreat
open Go.RowKit
theorem rholds_at (b : Bool) (w : World) : Calls Tryz.prog 35 #[.bool b] w fun e w' => e = .returned (.int .i64 (holdV b)) ∧ w = w' := by
  cases b
  all_goals
    go_enter Tryz.func35, Tryz.ntmps35
    go_wp2_with fail
    go_ret
    exact ⟨rfl, rfl⟩
set_option maxHeartbeats 1000000 in
theorem ris_test_at (g : Gl) (w : World) (ha : g.At w) (hz : sizeL g.args ≤ 1000000) {r : Bool} (hr : isT g.op g.name g.args = r) :
    Calls Tryz.prog 34 #[g.val] w fun e w' => e = .returned (.bool r) ∧ Below w.heap.size w w' := by
  have B0 := Lib.hid (show ∀ o, Below w.heap.size w (w.alloc o) from fun o => (Below.refl _ _).alloc (Nat.le_refl _) o)
  have Q := Lib.hid (fun W (h : Below w.heap.size w W) => ref_right_goal_at g W (ha.below h) hz rfl)
  have HR := Lib.hid (show (decide (5 ≤ g.op) && decide (g.op ≤ 12) && goalB g.op g.name g.args) = r from hr)
  obtain ⟨op, s, A, c, l⟩ := g
  simp only at HR Q
  generalize goalB op s l = b at *
  clear ha hr hz
  show Calls Tryz.prog 34 #[.agg #[.int .i64 op, .string s, .slice A l.length c]] w _
  by_cases h5 : 5 ≤ op
  · by_cases h12 : op ≤ 12
    · have d5 : decide (5 ≤ op) = true := decide_eq_true h5
      have d12 : decide (op ≤ 12) = true := decide_eq_true h12
      have HB := Lib.hid (show b = r by rw [← HR.out, d5, d12]; rfl)
      clear HR
      go_enter Tryz.func34, Tryz.ntmps34
      go_wp2_with fail
      refine (Q.out _ (B0.out _)).mono ?_
      rintro e w1 ⟨rfl, hb⟩
      go_wp2_with fail
      go_ret
      exact ⟨by rw [HB.out]; try rfl, (B0.out _).trans (hb.mono (by simp))⟩
    · have d12 : decide (op ≤ 12) = false := decide_eq_false h12
      have HB := Lib.hid (show false = r by rw [← HR.out, d12]; simp)
      clear HR
      go_enter Tryz.func34, Tryz.ntmps34
      go_wp2_with fail
      go_ret
      exact ⟨by rw [← HB.out]; rfl, B0.out _⟩
  · have d5 : decide (5 ≤ op) = false := decide_eq_false h5
    have HB := Lib.hid (show false = r by rw [← HR.out, d5]; simp)
    clear HR
    go_enter Tryz.func34, Tryz.ntmps34
    go_wp2_with fail
    go_ret
    exact ⟨by rw [← HB.out]; rfl, B0.out _⟩
theorem num_mk (k n : Int) (s : ByteArray) (A : Option Addr) (c : Nat) (a : List Tm) : (Tm.mk k n s A c a).numB = if k = 0 ∨ k = 1 then true else decide (k = 2) && (opB s.data.toList && (decide (a.length = 2) && numL a)) := by simp [Tm.numB]
theorem box_tm {w W : World} {v0 v1 v2 v3 : Value} {T : TypeId} (h : Below (w.alloc (.cells #[v0, v1, v2, v3] T)).heap.size (w.alloc (.cells #[v0, v1, v2, v3] T)) W) :
    W.cell? ⟨w.heap.size, 0, none⟩ = some v0 ∧ W.cell? ⟨w.heap.size, 1, none⟩ = some v1 ∧ W.cell? ⟨w.heap.size, 2, none⟩ = some v2 ∧ W.cell? ⟨w.heap.size, 3, none⟩ = some v3 :=
  ⟨boxN h 0 _ rfl, boxN h 1 _ rfl, boxN h 2 _ rfl, boxN h 3 _ rfl⟩
set_option maxHeartbeats 2000000 in
theorem numeric_at (t : Tm) : ∀ w : World, t.At w → Calls Tryz.prog 67 #[t.val] w fun e w' => e = .returned (.bool t.numB) ∧ Below w.heap.size w w' := by
  induction t using Tm.induct with
  | h k n s A c a ih =>
    intro w hat
    have B0 := Lib.hid (show ∀ o, Below w.heap.size w (w.alloc o) from fun o => (Below.refl _ _).alloc (Nat.le_refl _) o)
    show Calls Tryz.prog 67 #[.agg #[.int .i64 k, .int .i64 n, .string s, .slice A a.length c]] w _
    by_cases hk0 : k = 0
    · subst hk0
      have HV := Lib.hid (show (Tm.mk 0 n s A c a).numB = true by rw [num_mk, if_pos (.inl rfl)])
      clear hat ih
      go_enter Tryz.func67, Tryz.ntmps67
      go_wp2_with fail
      go_ret
      exact ⟨by rw [HV.out]; rfl, B0.out _⟩
    have n0 : (k == 0) = false := by simpa using hk0
    by_cases hk1 : k = 1
    · subst hk1
      have HV := Lib.hid (show (Tm.mk 1 n s A c a).numB = true by rw [num_mk, if_pos (.inr rfl)])
      clear hat ih n0 hk0
      go_enter Tryz.func67, Tryz.ntmps67
      go_wp2_with fail
      go_ret
      exact ⟨by rw [HV.out]; rfl, B0.out _⟩
    have n1 : (k == 1) = false := by simpa using hk1
    have hnv : (Tm.mk k n s A c a).numB = (decide (k = 2) && (opB s.data.toList && (decide (a.length = 2) && numL a))) := by rw [num_mk, if_neg (by omega)]
    by_cases hk2 : k = 2
    · subst hk2
      obtain ⟨p, hp⟩ : ∃ p, opB s.data.toList = p := ⟨_, rfl⟩
      have Q1 := Lib.hid (fun W => ref_op_at s W hp)
      rw [hp] at hnv
      cases p
      · have HV := Lib.hid (show (Tm.mk 2 n s A c a).numB = false by rw [hnv]; simp)
        clear hat ih hk0 hk1 hp n0 n1 hnv
        go_enter Tryz.func67, Tryz.ntmps67
        go_wp2_with fail
        refine (Q1.out _).mono ?_
        rintro e w1 ⟨rfl, rfl⟩
        go_wp2_with fail
        go_ret
        exact ⟨by rw [HV.out]; rfl, B0.out _⟩
      by_cases hl : a.length = 2
      · obtain ⟨x, y, rfl⟩ := len_two hl
        have HV := Lib.hid (show (Tm.mk 2 n s A c [x, y]).numB = (x.numB && y.numB) by rw [hnv]; simp [numL])
        have Q2 := Lib.hid (fun W (h : Below w.heap.size w W) => ih x (by simp) W ((hat.below h).lst.mem (by simp [Tm.args])))
        have Q3 := Lib.hid (fun W (h : Below w.heap.size w W) => ih y (by simp) W ((hat.below h).lst.mem (by simp [Tm.args])))
        have HC := Lib.hid (fun W (h : Below w.heap.size w W) => two_cells (hat.below h))
        generalize (Tm.mk 2 n s A c [x, y]).numB = v at *
        generalize x.numB = p at *
        generalize y.numB = q at *
        clear ih hk0 hk1 hp n0 n1 hnv hl
        obtain ⟨b, o, rfl, ⟨c0, c1, c2, c3⟩, ⟨d0, d1, d2, d3⟩, _, _⟩ := HC.out w (Below.refl _ _)
        have HC2 := Lib.hid (fun W (h : Below w.heap.size w W) => (⟨keepv h c0, keepv h c1, keepv h c2, keepv h c3, keepv h d0, keepv h d1, keepv h d2, keepv h d3⟩ : (fun W => W.cell? ⟨b, o, none⟩ = some (.int .i64 x.kind) ∧ W.cell? ⟨b, o + 1, none⟩ = some (.int .i64 x.num) ∧ W.cell? ⟨b, o + 2, none⟩ = some (.string x.name) ∧ W.cell? ⟨b, o + 3, none⟩ = some (.slice x.at_ x.args.length x.cap) ∧ W.cell? ⟨b, o + 4, none⟩ = some (.int .i64 y.kind) ∧ W.cell? ⟨b, o + 4 + 1, none⟩ = some (.int .i64 y.num) ∧ W.cell? ⟨b, o + 4 + 2, none⟩ = some (.string y.name) ∧ W.cell? ⟨b, o + 4 + 3, none⟩ = some (.slice y.at_ y.args.length y.cap)) W))
        clear c0 c1 c2 c3 d0 d1 d2 d3 HC hat
        obtain ⟨k1, n1, s1, A1, p1, a1⟩ := x
        obtain ⟨k2, n2, s2, A2, p2, a2⟩ := y
        simp only [Tm.kind, Tm.num, Tm.name, Tm.at_, Tm.args, Tm.cap] at HC2
        obtain ⟨c0, c1, c2, c3, d0, d1, d2, d3⟩ := HC2.out _ (B0.out (.cells #[.int .i64 2, .int .i64 n, .string s, .slice (some ⟨b, o, none⟩) 2 c] 40))
        go_enter Tryz.func67, Tryz.ntmps67
        go_wp2_with fail
        refine (Q1.out _).mono ?_
        rintro e w1 ⟨rfl, rfl⟩
        go_wp2_with fail
        refine (Q2.out _ (B0.out _)).mono ?_
        rintro e w1 ⟨rfl, hb1⟩
        clear c0 c1 c2 c3 d0 d1 d2 d3
        have H1 := Lib.hid ((B0.out _).trans (hb1.mono (by simp)))
        obtain ⟨c0, c1, c2, c3, d0, d1, d2, d3⟩ := HC2.out _ H1.out
        obtain ⟨x0, x1, x2, x3⟩ := box_tm hb1
        clear hb1
        cases p
        · go_wp2_with fail
          go_ret
          exact ⟨by rw [HV.out]; rfl, H1.out⟩
        · go_wp2_with fail
          refine (Q3.out _ H1.out).mono ?_
          rintro e w2 ⟨rfl, hb2⟩
          go_wp2_with fail
          go_ret
          exact ⟨by rw [HV.out]; rfl, H1.out.trans (hb2.mono H1.out.size)⟩
      · have hl2 : ((a.length : Int) == 2) = false := by simp only [beq_eq_false_iff_ne]; omega
        have HV := Lib.hid (show (Tm.mk 2 n s A c a).numB = false by rw [hnv]; simp [hl])
        clear hat ih hk0 hk1 hp n0 n1 hnv
        go_enter Tryz.func67, Tryz.ntmps67
        go_wp2_with fail
        refine (Q1.out _).mono ?_
        rintro e w1 ⟨rfl, rfl⟩
        go_wp2_with fail
        go_ret
        exact ⟨by rw [HV.out]; rfl, B0.out _⟩
    · have n2 : (k == 2) = false := by simpa using hk2
      have HV := Lib.hid (show (Tm.mk k n s A c a).numB = false by rw [hnv]; simp [hk2])
      clear hat ih hk0 hk1 hk2 hnv
      go_enter Tryz.func67, Tryz.ntmps67
      go_wp2_with fail
      go_ret
      exact ⟨by rw [HV.out]; rfl, B0.out _⟩
set_option maxHeartbeats 4000000 in
theorem values_r_at (op : Int) (a b : Tm) (w : World) (ha : a.At w) (hb : b.At w) (hza : a.size ≤ 1000000) (hzb : b.size ≤ 1000000) :
    Calls Tryz.prog 37 #[.int .i64 op, a.val, b.val] w fun e w' => e = .returned (.int .i64 (valT op a b)) ∧ Below w.heap.size w w' := by
  have QA1 := Lib.hid (fun W (h : Below w.heap.size w W) => numeric_at a W (ha.below h))
  have QB1 := Lib.hid (fun W (h : Below w.heap.size w W) => numeric_at b W (hb.below h))
  have QA2 := Lib.hid (fun W (h : Below w.heap.size w W) => ref_ground_at a W (ha.below h) hza rfl)
  have QB2 := Lib.hid (fun W (h : Below w.heap.size w W) => ref_ground_at b W (hb.below h) hzb rfl)
  have QA3 := Lib.hid (fun W (h : Below w.heap.size w W) => ref_eval_at a W (ha.below h))
  have QB3 := Lib.hid (fun W (h : Below w.heap.size w W) => ref_eval_at b W (hb.below h))
  have HV := Lib.hid (valT_parts op a b rfl rfl rfl rfl rfl rfl)
  generalize valT op a b = v at *
  generalize a.numB = pa at *
  generalize b.numB = pb at *
  generalize decide (a.occ = []) = ga at *
  generalize decide (b.occ = []) = gb at *
  generalize a.eval = ea at *
  generalize b.eval = eb at *
  obtain ⟨m, e1⟩ := ea
  obtain ⟨n, e2⟩ := eb
  have QH := Lib.hid (fun b W => rholds_at b W)
  obtain ⟨k1, n1, s1, A1, c1, l1⟩ := a
  obtain ⟨k2, n2, s2, A2, c2, l2⟩ := b
  clear ha hb hza hzb
  show Calls Tryz.prog 37 #[.int .i64 op, .agg #[.int .i64 k1, .int .i64 n1, .string s1, .slice A1 l1.length c1], .agg #[.int .i64 k2, .int .i64 n2, .string s2, .slice A2 l2.length c2]] w _
  go_enter Tryz.func37, Tryz.ntmps37
  go_wp2_with fail
  refine (QA1.out _ (below2 _ _ _)).mono ?_
  rintro e w1 ⟨rfl, hb1⟩
  have HX := Lib.hid (fun W (h : Below w1.heap.size w1 W) => boxes_tm (hb1.trans (h.mono hb1.size)))
  have H1 := Lib.hid ((below2 w _ _).trans (hb1.mono (by simp; omega)))
  obtain ⟨⟨c0, c1, c2, c3⟩, d0, d1, d2, d3⟩ := HX.out _ (Below.refl _ _)
  clear hb1
  cases pa
  · go_wp2_with fail
    go_ret
    exact ⟨by rw [HV.out]; rfl, H1.out⟩
  go_wp2_with fail
  refine (QB1.out _ H1.out).mono ?_
  rintro e w2 ⟨rfl, hb2⟩
  have X2 := Lib.hid (fun W (h : Below w2.heap.size w2 W) => HX.out W (hb2.trans (h.mono hb2.size)))
  have H2 := Lib.hid (H1.out.trans (hb2.mono H1.out.size))
  clear c0 c1 c2 c3 d0 d1 d2 d3 hb2 HX H1
  obtain ⟨⟨c0, c1, c2, c3⟩, d0, d1, d2, d3⟩ := X2.out _ (Below.refl _ _)
  cases pb
  · go_wp2_with fail
    go_ret
    exact ⟨by rw [HV.out]; rfl, H2.out⟩
  go_wp2_with fail
  refine (QA2.out _ H2.out).mono ?_
  rintro e w3 ⟨rfl, hb3⟩
  have X3 := Lib.hid (fun W (h : Below w3.heap.size w3 W) => X2.out W (hb3.trans (h.mono hb3.size)))
  have H3 := Lib.hid (H2.out.trans (hb3.mono H2.out.size))
  clear c0 c1 c2 c3 d0 d1 d2 d3 hb3 X2 H2
  obtain ⟨⟨c0, c1, c2, c3⟩, d0, d1, d2, d3⟩ := X3.out _ (Below.refl _ _)
  cases ga
  · go_wp2_with fail
    go_ret
    exact ⟨by rw [HV.out]; rfl, H3.out⟩
  go_wp2_with fail
  refine (QB2.out _ H3.out).mono ?_
  rintro e w4 ⟨rfl, hb4⟩
  have X4 := Lib.hid (fun W (h : Below w4.heap.size w4 W) => X3.out W (hb4.trans (h.mono hb4.size)))
  have H4 := Lib.hid (H3.out.trans (hb4.mono H3.out.size))
  clear c0 c1 c2 c3 d0 d1 d2 d3 hb4 X3 H3
  obtain ⟨⟨c0, c1, c2, c3⟩, d0, d1, d2, d3⟩ := X4.out _ (Below.refl _ _)
  cases gb
  · go_wp2_with fail
    go_ret
    exact ⟨by rw [HV.out]; rfl, H4.out⟩
  go_wp2_with fail
  refine (QA3.out _ H4.out).mono ?_
  rintro e w5 ⟨rfl, hb5⟩
  have X5 := Lib.hid (fun W (h : Below w5.heap.size w5 W) => X4.out W (hb5.trans (h.mono hb5.size)))
  have H5 := Lib.hid (H4.out.trans (hb5.mono H4.out.size))
  clear c0 c1 c2 c3 d0 d1 d2 d3 hb5 X4 H4
  obtain ⟨⟨c0, c1, c2, c3⟩, d0, d1, d2, d3⟩ := X5.out _ (Below.refl _ _)
  go_wp2_with fail
  refine (QB3.out _ H5.out).mono ?_
  rintro e w6 ⟨rfl, hb6⟩
  have H6 := Lib.hid (H5.out.trans (hb6.mono H5.out.size))
  clear c0 c1 c2 c3 d0 d1 d2 d3 hb6 X5 H5
  by_cases h1 : e1 = 0
  · by_cases h2 : e2 = 0
    · subst h1 h2
      have HW := Lib.hid (show v = holdV (cmpV op m n) by rw [HV.out]; simp)
      clear HV
      by_cases h7 : op = 7
      · subst h7
        have HE := Lib.hid (show v = holdV (decide (m < n)) by rw [HW.out]; rfl)
        go_wp2_with fail
        refine (QH.out _ _).mono ?_
        rintro e w7 ⟨rfl, rfl⟩
        go_wp2_with fail
        go_ret
        exact ⟨by rw [HE.out]; try rfl, H6.out⟩
      have g7 : (op == 7) = false := by simpa using h7
      by_cases h8 : op = 8
      · subst h8
        have HE := Lib.hid (show v = holdV (decide (m ≤ n)) by rw [HW.out]; rfl)
        go_wp2_with fail
        refine (QH.out _ _).mono ?_
        rintro e w7 ⟨rfl, rfl⟩
        go_wp2_with fail
        go_ret
        exact ⟨by rw [HE.out]; try rfl, H6.out⟩
      have g8 : (op == 8) = false := by simpa using h8
      by_cases h9 : op = 9
      · subst h9
        have HE := Lib.hid (show v = holdV (m == n) by rw [HW.out]; rfl)
        go_wp2_with fail
        refine (QH.out _ _).mono ?_
        rintro e w7 ⟨rfl, rfl⟩
        go_wp2_with fail
        go_ret
        exact ⟨by rw [HE.out]; try rfl, H6.out⟩
      have g9 : (op == 9) = false := by simpa using h9
      have HE := Lib.hid (show v = holdV (m != n) by rw [HW.out]; simp only [cmpV, if_neg h7, if_neg h8, if_neg h9]; exact congrArg holdV (by rw [Bool.eq_iff_iff]; simp))
      clear h7 h8 h9 HW
      go_wp2_with fail
      refine (QH.out _ _).mono ?_
      rintro e w7 ⟨rfl, rfl⟩
      go_wp2_with fail
      go_ret
      exact ⟨by rw [HE.out]; try rfl, H6.out⟩
    · subst h1
      have d2 : (e2 != 0) = true := by simpa using h2
      have HE := Lib.hid (show v = 2 by rw [HV.out]; simp [h2])
      clear h2 HV
      go_wp2_with fail
      go_ret
      exact ⟨by rw [HE.out]; try rfl, H6.out⟩
  · have d1 : (e1 != 0) = true := by simpa using h1
    have HE := Lib.hid (show v = 2 by rw [HV.out]; simp [h1])
    clear h1 HV
    go_wp2_with fail
    go_ret
    exact ⟨by rw [HE.out]; try rfl, H6.out⟩
end Go.Proofs.YtgpglgehlnfggaaGreat
