/-
  Contracts of what the program and the reference say of constraints and of goals: CompareAtom, SameAtom, AtomVars, SameGoal, GoalVars; and Vars of a term.
-/
import Derived.Test.YtclhmdgiffemlaaTmOpen
import Derived.Test.YtclhmdgiffemlaaTmAtom
namespace Go.Proofs.Ytclhmdgiffemlaa
open Go.ChangeShapes Go.WideShapes Go.ChangeAt Go.RowKit
set_option linter.unusedVariables false

/-- The order of constraints. -/
def cmpA (a b : Am) : Int := lex (texts a.name.data.toList b.name.data.toList) (lex (ints a.args.length b.args.length) (cmpL a.args b.args))
def sameG (g h : Gl) : Bool := decide (g.op = h.op) && (decide (g.name = h.name) && (cmpL g.args h.args == 0))

theorem vars_call (t : Tm) (w : World) (ht : t.At w) (hz : t.size ≤ 1000000) : Calls Try.prog 19 #[t.val] w (Grows w (addAll [] t.occ)) := by
  have Q := Lib.hid (fun (W : World) (b : Nat) (hb : b = W.heap.size) (h : Below w.heap.size w W) => first_at [t] (some ⟨b, 0, none⟩) 1 _ (Lst.of_row (hb ▸ row_one t (ht.below h)) (by simp)) (by simpa [sizeL] using hz))
  have e : occL [t] = t.occ := by simp [occL]
  rw [e] at Q
  generalize t.occ = os at *
  clear ht hz e
  obtain ⟨k, n, s, A, c, a⟩ := t
  show Calls Try.prog 19 #[.agg #[.int .i64 k, .int .i64 n, .string s, .slice A a.length c]] w _
  go_enter Try.func19, Try.ntmps19
  go_wp2_with fail
  refine (Q.out _ _ (by simp) (below1 _ _)).mono ?_
  rintro e w1 ⟨v, rfl, ho, hb⟩
  go_wp2_with fail
  go_ret
  exact Grows.mk rfl (ho.mono (by simp; omega)) ((below2 _ _ _).trans (hb.mono (by simp; omega)))

theorem atom_vars_at (a : Am) (w : World) (ha : a.At w) (hz : sizeL a.args ≤ 1000000) : Calls Try.prog 38 #[a.val] w (Grows w (addAll [] (occL a.args))) := by
  obtain ⟨s, A, c, l⟩ := a
  have Q := Lib.hid (fun W (h : Below w.heap.size w W) => first_at l A c W (ha.2.below h) hz)
  simp only at Q ⊢
  generalize occL l = os at *
  clear ha hz
  show Calls Try.prog 38 #[.agg #[.string s, .slice A l.length c]] w _
  go_enter Try.func38, Try.ntmps38
  go_wp2_with fail
  refine (Q.out _ (below1 _ _)).mono ?_
  rintro e w1 ⟨v, rfl, ho, hb⟩
  go_wp2_with fail
  go_ret
  exact Grows.mk rfl (ho.mono (by simp)) ((below1 _ _).trans (hb.mono (by simp)))

theorem ref_atom_vars_at (a : Am) (w : World) (ha : a.At w) (hz : sizeL a.args ≤ 1000000) : Calls Try.prog 39 #[a.val] w (Grows w (addAll [] (occL a.args))) := by
  obtain ⟨s, A, c, l⟩ := a
  have Q := Lib.hid (fun W (h : Below w.heap.size w W) => ref_vars_of_at l A c W (ha.2.below h) hz)
  simp only at Q ⊢
  generalize occL l = os at *
  clear ha hz
  show Calls Try.prog 39 #[.agg #[.string s, .slice A l.length c]] w _
  go_enter Try.func39, Try.ntmps39
  go_wp2_with fail
  refine (Q.out _ (below1 _ _)).mono ?_
  rintro e w1 ⟨v, rfl, ho, hb⟩
  go_wp2_with fail
  go_ret
  exact Grows.mk rfl (ho.mono (by simp)) ((below1 _ _).trans (hb.mono (by simp)))

theorem goal_vars_at (a : Gl) (w : World) (ha : a.At w) (hz : sizeL a.args ≤ 1000000) : Calls Try.prog 45 #[a.val] w (Grows w (addAll [] (occL a.args))) := by
  obtain ⟨op, s, A, c, l⟩ := a
  have Q := Lib.hid (fun W (h : Below w.heap.size w W) => first_at l A c W (ha.2.2.below h) hz)
  simp only at Q ⊢
  generalize occL l = os at *
  clear ha hz
  show Calls Try.prog 45 #[.agg #[.int .i64 op, .string s, .slice A l.length c]] w _
  go_enter Try.func45, Try.ntmps45
  go_wp2_with fail
  refine (Q.out _ (below1 _ _)).mono ?_
  rintro e w1 ⟨v, rfl, ho, hb⟩
  go_wp2_with fail
  go_ret
  exact Grows.mk rfl (ho.mono (by simp)) ((below1 _ _).trans (hb.mono (by simp)))

theorem ref_goal_vars_at (a : Gl) (w : World) (ha : a.At w) (hz : sizeL a.args ≤ 1000000) : Calls Try.prog 46 #[a.val] w (Grows w (addAll [] (occL a.args))) := by
  obtain ⟨op, s, A, c, l⟩ := a
  have Q := Lib.hid (fun W (h : Below w.heap.size w W) => ref_vars_of_at l A c W (ha.2.2.below h) hz)
  simp only at Q ⊢
  generalize occL l = os at *
  clear ha hz
  show Calls Try.prog 46 #[.agg #[.int .i64 op, .string s, .slice A l.length c]] w _
  go_enter Try.func46, Try.ntmps46
  go_wp2_with fail
  refine (Q.out _ (below1 _ _)).mono ?_
  rintro e w1 ⟨v, rfl, ho, hb⟩
  go_wp2_with fail
  go_ret
  exact Grows.mk rfl (ho.mono (by simp)) ((below1 _ _).trans (hb.mono (by simp)))

set_option maxHeartbeats 1000000 in
theorem compare_atom_at (t u : Am) (w : World) (ht : t.At w) (hu : u.At w) {r : Int} (hr : cmpA t u = r) :
    Calls Try.prog 36 #[t.val, u.val] w fun e w' => e = .returned (.int .i64 r) ∧ Below w.heap.size w w' := by
  have hl := ht.2
  have hm := hu.2
  obtain ⟨s, A, c, a⟩ := t
  obtain ⟨s', A', c', a'⟩ := u
  simp only [cmpA] at hr hl hm
  show Calls Try.prog 36 #[.agg #[.string s, .slice A a.length c], .agg #[.string s', .slice A' a'.length c']] w _
  have hlen : a.length ≤ 9223372036854775807 := hl.len
  have hlen' : a'.length ≤ 9223372036854775807 := hm.len
  obtain ⟨z1, h1⟩ : ∃ z, ints a.length a'.length = z := ⟨_, rfl⟩
  obtain ⟨z2, h2⟩ : ∃ z, texts s.data.toList s'.data.toList = z := ⟨_, rfl⟩
  have q1 := Lib.hid (fun W => cmp_int_at (a.length : Int) (a'.length : Int) W h1)
  have q2 := Lib.hid (fun W => str_cmp_at s s' W h2)
  have q3 := Lib.hid (fun W (h : Below w.heap.size w W) => cmp_lists_at a a' (fun x _ => compare_at x) A A' c c' W (hl.below h) (hm.below h))
  obtain ⟨z3, h3⟩ : ∃ z, cmpL a a' = z := ⟨_, rfl⟩
  rw [h3] at q3
  rw [h1, h2, h3] at hr
  clear h1 h2 h3 hl hm ht hu
  by_cases e2 : z2 = 0
  · subst e2
    rw [lex_zero] at hr
    by_cases e1 : z1 = 0
    · subst e1
      rw [lex_zero] at hr
      subst hr
      go_enter Try.func36, Try.ntmps36
      go_wp2_with fail
      refine (q2.out _).mono ?_
      rintro e w' ⟨rfl, rfl⟩
      go_wp2_with fail
      refine (q1.out _).mono ?_
      rintro e w' ⟨rfl, rfl⟩
      go_wp2_with fail
      refine (q3.out _ (below2 _ _ _)).mono ?_
      rintro e w' ⟨rfl, hb⟩
      go_wp2_with fail
      go_ret
      exact ⟨rfl, (below2 _ _ _).trans (hb.mono (by simp; omega))⟩
    · rw [lex_ne e1] at hr
      subst hr
      have e1' : (z1 != 0) = true := by simpa using e1
      have e1'' : (z1 == 0) = false := by simpa using e1
      go_enter Try.func36, Try.ntmps36
      go_wp2_with fail
      refine (q2.out _).mono ?_
      rintro e w' ⟨rfl, rfl⟩
      go_wp2_with fail
      refine (q1.out _).mono ?_
      rintro e w' ⟨rfl, rfl⟩
      go_wp2_with fail
      go_ret
      exact ⟨rfl, below2 _ _ _⟩
  · rw [lex_ne e2] at hr
    subst hr
    have e2' : (z2 != 0) = true := by simpa using e2
    have e2'' : (z2 == 0) = false := by simpa using e2
    go_enter Try.func36, Try.ntmps36
    go_wp2_with fail
    refine (q2.out _).mono ?_
    rintro e w' ⟨rfl, rfl⟩
    go_wp2_with fail
    go_ret
    exact ⟨rfl, below2 _ _ _⟩
theorem same_atom_at (t u : Am) (w : World) (ht : t.At w) (hu : u.At w) {r : Bool} (hr : (cmpA t u == 0) = r) :
    Calls Try.prog 34 #[t.val, u.val] w fun e w' => e = .returned (.bool r) ∧ Below w.heap.size w w' := by
  have Q := Lib.hid (fun W (h : Below w.heap.size w W) => compare_atom_at t u W (ht.below h) (hu.below h) rfl)
  generalize cmpA t u = z at *
  obtain ⟨s, A, c, a⟩ := t
  obtain ⟨s', A', c', a'⟩ := u
  show Calls Try.prog 34 #[.agg #[.string s, .slice A a.length c], .agg #[.string s', .slice A' a'.length c']] w _
  have HR := Lib.hid hr
  clear hr ht hu
  go_enter Try.func34, Try.ntmps34
  go_wp2_with fail
  refine (Q.out _ (below2 _ _ _)).mono ?_
  rintro e w1 ⟨rfl, hb⟩
  go_wp2_with fail
  go_ret
  exact ⟨by rw [← HR.out]; rfl, (below2 _ _ _).trans (hb.mono (by simp; omega))⟩

set_option maxHeartbeats 1000000 in
theorem ref_compare_atom_at (t u : Am) (w : World) (ht : t.At w) (hu : u.At w) {r : Int} (hr : cmpA t u = r) :
    Calls Try.prog 37 #[t.val, u.val] w fun e w' => e = .returned (.int .i64 r) ∧ Below w.heap.size w w' := by
  have hl := ht.2
  have hm := hu.2
  obtain ⟨s, A, c, a⟩ := t
  obtain ⟨s', A', c', a'⟩ := u
  simp only [cmpA] at hr hl hm
  show Calls Try.prog 37 #[.agg #[.string s, .slice A a.length c], .agg #[.string s', .slice A' a'.length c']] w _
  have hlen : a.length ≤ 9223372036854775807 := hl.len
  have hlen' : a'.length ≤ 9223372036854775807 := hm.len
  obtain ⟨z1, h1⟩ : ∃ z, ints a.length a'.length = z := ⟨_, rfl⟩
  obtain ⟨z2, h2⟩ : ∃ z, texts s.data.toList s'.data.toList = z := ⟨_, rfl⟩
  have q1 := Lib.hid (fun W => ref_ints_at (a.length : Int) (a'.length : Int) W h1)
  have q2 := Lib.hid (fun W => ref_texts_at s s' W h2)
  have q3 := Lib.hid (fun W (h : Below w.heap.size w W) => ref_lists_at a a' (fun x _ => ref_compare_at x) A A' c c' W (hl.below h) (hm.below h))
  obtain ⟨z3, h3⟩ : ∃ z, cmpL a a' = z := ⟨_, rfl⟩
  rw [h3] at q3
  rw [h1, h2, h3] at hr
  clear h1 h2 h3 hl hm ht hu
  by_cases e2 : z2 = 0
  · subst e2
    rw [lex_zero] at hr
    by_cases e1 : z1 = 0
    · subst e1
      rw [lex_zero] at hr
      subst hr
      go_enter Try.func37, Try.ntmps37
      go_wp2_with fail
      refine (q2.out _).mono ?_
      rintro e w' ⟨rfl, rfl⟩
      go_wp2_with fail
      refine (q1.out _).mono ?_
      rintro e w' ⟨rfl, rfl⟩
      go_wp2_with fail
      refine (q3.out _ (below2 _ _ _)).mono ?_
      rintro e w' ⟨rfl, hb⟩
      go_wp2_with fail
      go_ret
      exact ⟨rfl, (below2 _ _ _).trans (hb.mono (by simp; omega))⟩
    · rw [lex_ne e1] at hr
      subst hr
      have e1' : (z1 != 0) = true := by simpa using e1
      have e1'' : (z1 == 0) = false := by simpa using e1
      go_enter Try.func37, Try.ntmps37
      go_wp2_with fail
      refine (q2.out _).mono ?_
      rintro e w' ⟨rfl, rfl⟩
      go_wp2_with fail
      refine (q1.out _).mono ?_
      rintro e w' ⟨rfl, rfl⟩
      go_wp2_with fail
      go_ret
      exact ⟨rfl, below2 _ _ _⟩
  · rw [lex_ne e2] at hr
    subst hr
    have e2' : (z2 != 0) = true := by simpa using e2
    have e2'' : (z2 == 0) = false := by simpa using e2
    go_enter Try.func37, Try.ntmps37
    go_wp2_with fail
    refine (q2.out _).mono ?_
    rintro e w' ⟨rfl, rfl⟩
    go_wp2_with fail
    go_ret
    exact ⟨rfl, below2 _ _ _⟩
theorem ref_same_atom_at (t u : Am) (w : World) (ht : t.At w) (hu : u.At w) {r : Bool} (hr : (cmpA t u == 0) = r) :
    Calls Try.prog 35 #[t.val, u.val] w fun e w' => e = .returned (.bool r) ∧ Below w.heap.size w w' := by
  have Q := Lib.hid (fun W (h : Below w.heap.size w W) => ref_compare_atom_at t u W (ht.below h) (hu.below h) rfl)
  generalize cmpA t u = z at *
  obtain ⟨s, A, c, a⟩ := t
  obtain ⟨s', A', c', a'⟩ := u
  show Calls Try.prog 35 #[.agg #[.string s, .slice A a.length c], .agg #[.string s', .slice A' a'.length c']] w _
  have HR := Lib.hid hr
  clear hr ht hu
  go_enter Try.func35, Try.ntmps35
  go_wp2_with fail
  refine (Q.out _ (below2 _ _ _)).mono ?_
  rintro e w1 ⟨rfl, hb⟩
  go_wp2_with fail
  go_ret
  exact ⟨by rw [← HR.out]; rfl, (below2 _ _ _).trans (hb.mono (by simp; omega))⟩

theorem same_ne {l m : List Tm} (h : l.length ≠ m.length) : (cmpL l m == 0) = false := by
  induction l generalizing m with
  | nil => cases m with
    | nil => simp at h
    | cons y q => rfl
  | cons x r ih => cases m with
    | nil => rfl
    | cons y q =>
      have := ih (m := q) (by simpa using h)
      simp only [cmpL, lex]
      split
      · exact this
      · simpa using ‹¬ _›

set_option maxHeartbeats 1000000 in
theorem equal_func_at (l m : List Tm) (A B : Option Addr) (c d : Nat) (w : World) (hl : Lst w A l c) (hm : Lst w B m d) {r : Bool} (hr : (cmpL l m == 0) = r) :
    Calls Try.prog 78 #[.slice A l.length c, .slice B m.length d, .func (.func 27) #[] #[]] w fun e w' => e = .returned (.bool r) ∧ Below w.heap.size w w' := by
  have hlen : l.length ≤ 9223372036854775807 := hl.len
  have hlen' : m.length ≤ 9223372036854775807 := hm.len
  by_cases hne : l.length = m.length
  · have hne' : ((l.length : Int) != (m.length : Int)) = false := by simp; omega
    have HR := Lib.hid hr
    have HNE := Lib.hid hne
    clear hr hne
    go_enter Try.func78, Try.ntmps78
    go_wp2_with fail
    go_loopw [17] (fun i wr => ∃ j : Nat, j ≤ l.length ∧ j ≤ m.length ∧ i = .int .i64 j ∧ Hid (cmpL (l.take j) (m.take j) = 0) ∧ Below w.heap.size w wr) (fun i _ => l.length - (intOf i).toNat)
    case atStart => exact ⟨0, Nat.zero_le _, Nat.zero_le _, rfl, Lib.hid rfl, Below.refl _ _⟩
    case round =>
      obtain ⟨j, hj, hjm, rfl, HF, hb⟩ := hrel
      by_cases hlt : j < l.length
      · obtain ⟨b, o, rfl, ⟨c0, c1, c2, c3⟩, hx⟩ := (hl.below hb).get hlt
        have hlt' : j < m.length := by have := HNE.out; omega
        obtain ⟨b', o', rfl, ⟨g0, g1, g2, g3⟩, hy⟩ := (hm.below hb).get hlt'
        have HN := Lib.hid (cmpL_next hlt hlt' HF.out)
        have HS := Lib.hid (fun h => cmpL_stop hlt hlt' HF.out h)
        generalize l.getD j default = x at *
        generalize m.getD j default = y at *
        have Q1 := Lib.hid (fun W (h : Below wr.heap.size wr W) => same_at x y W (hx.below h) (hy.below h) rfl)
        have hb1 := ((World.block_lt_of_cell? _ _ c0 : b < wr.heap.size))
        have hb2 := ((World.block_lt_of_cell? _ _ g0 : b' < wr.heap.size))
        clear hx hy
        obtain ⟨z, hz⟩ : ∃ z, cmpT x y = z := ⟨_, rfl⟩
        rw [hz] at HN HS Q1
        clear hz
        obtain ⟨k1, n1, s1, A1, p1, a1⟩ := x
        obtain ⟨k2, n2, s2, A2, p2, a2⟩ := y
        simp only [Tm.kind, Tm.num, Tm.name, Tm.at_, Tm.args, Tm.cap] at c0 c1 c2 c3 g0 g1 g2 g3
        go_wp2_with fail
        refine (Q1.out _ (below2 _ _ _)).mono ?_
        rintro e w2 ⟨rfl, hb3⟩
        have hb4 := hb.trans (((below2 _ _ _).trans (hb3.mono (by simp; omega))).mono hb.size)
        by_cases hz : z = 0
        · subst hz
          go_wp2_with fail
          go_roundw
          case rel => exact ⟨j + 1, by omega, by omega, by go_num, HN, hb4⟩
          case measure => simp [intOf]; omega
        · have hz' : (z == 0) = false := by simpa using hz
          have HE := Lib.hid (HS.out hz)
          clear HS HN
          go_wp2_with fail
          go_ret
          exact ⟨by rw [← HR.out, HE.out, hz']; rfl, hb4⟩
      · obtain rfl : j = l.length := by omega
        have HE := Lib.hid (show cmpL l m = 0 by
          rw [cmpL_end (.inl rfl) hj hjm HF.out, HNE.out, ints_self])
        go_wp2_with fail
        go_ret
        exact ⟨by rw [← HR.out, HE.out]; rfl, hb⟩
  · have hne' : ((l.length : Int) != (m.length : Int)) = true := by simp; omega
    rw [same_ne hne] at hr
    subst hr
    go_enter Try.func78, Try.ntmps78
    go_wp2_with fail
    go_ret
    exact ⟨rfl, Below.refl _ _⟩

set_option maxHeartbeats 1000000 in
theorem same_goal_at (t u : Gl) (w : World) (ht : t.At w) (hu : u.At w) {r : Bool} (hr : sameG t u = r) :
    Calls Try.prog 43 #[t.val, u.val] w fun e w' => e = .returned (.bool r) ∧ Below w.heap.size w w' := by
  have hl := ht.2.2
  have hm := hu.2.2
  obtain ⟨op, s, A, c, a⟩ := t
  obtain ⟨op', s', A', c', a'⟩ := u
  simp only [sameG] at hr hl hm
  show Calls Try.prog 43 #[.agg #[.int .i64 op, .string s, .slice A a.length c], .agg #[.int .i64 op', .string s', .slice A' a'.length c']] w _
  have hlen : a.length ≤ 9223372036854775807 := hl.len
  have hlen' : a'.length ≤ 9223372036854775807 := hm.len
  obtain ⟨b3, h3⟩ : ∃ z, (cmpL a a' == 0) = z := ⟨_, rfl⟩
  have q3 := Lib.hid (fun W (h : Below w.heap.size w W) => equal_func_at a a' A A' c c' W (hl.below h) (hm.below h) h3)
  have HN := Lib.hid (fun h : a.length ≠ a'.length => (h3.symm.trans (same_ne h) : b3 = false))
  rw [h3] at hr
  clear h3 hl hm ht hu
  by_cases e1 : op = op'
  · subst e1
    by_cases e2 : s = s'
    · subst e2
      obtain rfl : b3 = r := by simpa using hr
      clear hr
      go_enter Try.func43, Try.ntmps43
      go_wp2_with fail
      refine (q3.out _ (below2 _ _ _)).mono ?_
      rintro e w' ⟨rfl, hb⟩
      go_wp2_with fail
      go_ret
      exact ⟨rfl, (below2 _ _ _).trans (hb.mono (by simp; omega))⟩
    · have e2' : (s.toList == s'.toList) = false := by
        rw [ByteArray.toList_eq, ByteArray.toList_eq]
        exact beq_eq_false_iff_ne.2 (fun h => e2 (bytes_inj h))
      have e2'' : decide (s = s') = false := by simpa using e2
      have HR := Lib.hid (show false = r by rw [← hr]; simp [e2])
      clear hr e2
      go_enter Try.func43, Try.ntmps43
      go_wp2_with fail
      go_ret
      exact ⟨by rw [← HR.out]; rfl, below2 _ _ _⟩
  · have e1' : (op == op') = false := by simpa using e1
    have HR := Lib.hid (show false = r by rw [← hr]; simp [e1])
    clear hr e1
    go_enter Try.func43, Try.ntmps43
    go_wp2_with fail
    go_ret
    exact ⟨by rw [← HR.out]; rfl, below2 _ _ _⟩

set_option maxHeartbeats 1000000 in
theorem ref_same_goal_at (t u : Gl) (w : World) (ht : t.At w) (hu : u.At w) {r : Bool} (hr : sameG t u = r) :
    Calls Try.prog 44 #[t.val, u.val] w fun e w' => e = .returned (.bool r) ∧ Below w.heap.size w w' := by
  have hl := ht.2.2
  have hm := hu.2.2
  obtain ⟨op, s, A, c, a⟩ := t
  obtain ⟨op', s', A', c', a'⟩ := u
  simp only [sameG] at hr hl hm
  show Calls Try.prog 44 #[.agg #[.int .i64 op, .string s, .slice A a.length c], .agg #[.int .i64 op', .string s', .slice A' a'.length c']] w _
  have hlen : a.length ≤ 9223372036854775807 := hl.len
  have hlen' : a'.length ≤ 9223372036854775807 := hm.len
  obtain ⟨b3, h3⟩ : ∃ z, (cmpL a a' == 0) = z := ⟨_, rfl⟩
  have q3 := Lib.hid (fun W (h : Below w.heap.size w W) => same_terms_at a a' A A' c c' W (hl.below h) (hm.below h) h3)
  have HN := Lib.hid (fun h : a.length ≠ a'.length => (h3.symm.trans (same_ne h) : b3 = false))
  rw [h3] at hr
  clear h3 hl hm ht hu
  by_cases e1 : op = op'
  · subst e1
    by_cases e2 : s = s'
    · subst e2
      obtain rfl : b3 = r := by simpa using hr
      clear hr
      by_cases e3 : a.length = a'.length
      · have e3' : ((a.length : Int) == (a'.length : Int)) = true := by simp; omega
        clear e3
        go_enter Try.func44, Try.ntmps44
        go_wp2_with fail
        refine (q3.out _ (below2 _ _ _)).mono ?_
        rintro e w' ⟨rfl, hb⟩
        go_wp2_with fail
        go_ret
        exact ⟨rfl, (below2 _ _ _).trans (hb.mono (by simp; omega))⟩
      · have e3' : ((a.length : Int) == (a'.length : Int)) = false := by simp; omega
        obtain rfl := HN.out e3
        clear e3 HN
        go_enter Try.func44, Try.ntmps44
        go_wp2_with fail
        go_ret
        exact ⟨rfl, below2 _ _ _⟩
    · have e2' : (s.toList == s'.toList) = false := by
        rw [ByteArray.toList_eq, ByteArray.toList_eq]
        exact beq_eq_false_iff_ne.2 (fun h => e2 (bytes_inj h))
      have e2'' : decide (s = s') = false := by simpa using e2
      have HR := Lib.hid (show false = r by rw [← hr]; simp [e2])
      clear hr e2
      go_enter Try.func44, Try.ntmps44
      go_wp2_with fail
      go_ret
      exact ⟨by rw [← HR.out]; rfl, below2 _ _ _⟩
  · have e1' : (op == op') = false := by simpa using e1
    have HR := Lib.hid (show false = r by rw [← hr]; simp [e1])
    clear hr e1
    go_enter Try.func44, Try.ntmps44
    go_wp2_with fail
    go_ret
    exact ⟨by rw [← HR.out]; rfl, below2 _ _ _⟩
end Go.Proofs.Ytclhmdgiffemlaa
