/-
  Contracts of what the program and the reference say of constraints and of goals: CompareAtom, SameAtom, AtomVars, SameGoal, GoalVars; and Vars of a term.
-/
import Derived.Test.YtgialbcohkpogaaGreatTmOpen
import Derived.Test.YtgialbcohkpogaaGreatTmVarAll
import Derived.Test.YtgialbcohkpogaaGreatTmAtom
namespace Go.Proofs.YtgialbcohkpogaaGreat
open Go.ChangeShapes Go.WideShapes Go.ChangeAt Go.RowKit
set_option linter.unusedVariables false

/-- The order of constraints. -/
def cmpA (a b : Am) : Int := lex (texts a.name.data.toList b.name.data.toList) (lex (ints a.args.length b.args.length) (cmpL a.args b.args))
def sameG (g h : Gl) : Bool := decide (g.op = h.op) && (decide (g.name = h.name) && (cmpL g.args h.args == 0))

theorem vars_call (t : Tm) (w : World) (ht : t.At w) (hz : t.size ≤ 1000000) : Calls Tryz.prog 55 #[t.val] w (Grows w (addAll [] t.occ)) := by
  have Q := Lib.hid (fun (W : World) (b : Nat) (hb : b = W.heap.size) (h : Below w.heap.size w W) => first_at [t] (some ⟨b, 0, none⟩) 1 _ (Lst.of_row (hb ▸ row_one t (ht.below h)) (by simp)) (by simpa [sizeL] using hz))
  have e : occL [t] = t.occ := by simp [occL]
  rw [e] at Q
  generalize t.occ = os at *
  clear ht hz e
  obtain ⟨k, n, s, A, c, a⟩ := t
  show Calls Tryz.prog 55 #[.agg #[.int .i64 k, .int .i64 n, .string s, .slice A a.length c]] w _
  go_enter Tryz.func55, Tryz.ntmps55
  go_wp2_with fail
  refine (Q.out _ _ (by simp) (below1 _ _)).mono ?_
  rintro e w1 ⟨v, rfl, ho, hb⟩
  go_wp2_with fail
  go_ret
  exact Grows.mk rfl (ho.mono (by simp; omega)) ((below2 _ _ _).trans (hb.mono (by simp; omega)))

set_option maxHeartbeats 1000000 in
theorem ref_compare_atom_at (t u : Am) (w : World) (ht : t.At w) (hu : u.At w) {r : Int} (hr : cmpA t u = r) :
    Calls Tryz.prog 45 #[t.val, u.val] w fun e w' => e = .returned (.int .i64 r) ∧ Below w.heap.size w w' := by
  have hl := ht.2
  have hm := hu.2
  obtain ⟨s, A, c, a⟩ := t
  obtain ⟨s', A', c', a'⟩ := u
  simp only [cmpA] at hr hl hm
  show Calls Tryz.prog 45 #[.agg #[.string s, .slice A a.length c], .agg #[.string s', .slice A' a'.length c']] w _
  have hlen : a.length ≤ 9223372036854775807 := hl.len
  have hlen' : a'.length ≤ 9223372036854775807 := hm.len
  obtain ⟨z1, h1⟩ : ∃ z, ints a.length a'.length = z := ⟨_, rfl⟩
  obtain ⟨z2, h2⟩ : ∃ z, texts s.data.toList s'.data.toList = z := ⟨_, rfl⟩
  have q1 := Lib.hid (fun W => ref_ints_at (a.length : Int) (a'.length : Int) W h1)
  have q2 := Lib.hid (fun W => ref_texts_at s s' W h2)
  have q3 := Lib.hid (fun W (h : Below w.heap.size w W) => ref_lists_at a a' (fun x _ => ref_compare_at x) A A' c c' W (hl.below h) (hm.below h))
  obtain ⟨z3, h3⟩ : ∃ z, cmpL a a' = z := ⟨_, rfl⟩
  rw [h3] at q3
  rw [h1, h2, h3] at hr
  clear h1 h2 h3 hl hm ht hu
  by_cases e2 : z2 = 0
  · subst e2
    rw [lex_zero] at hr
    by_cases e1 : z1 = 0
    · subst e1
      rw [lex_zero] at hr
      subst hr
      go_enter Tryz.func45, Tryz.ntmps45
      go_wp2_with fail
      refine (q2.out _).mono ?_
      rintro e w' ⟨rfl, rfl⟩
      go_wp2_with fail
      refine (q1.out _).mono ?_
      rintro e w' ⟨rfl, rfl⟩
      go_wp2_with fail
      refine (q3.out _ (below2 _ _ _)).mono ?_
      rintro e w' ⟨rfl, hb⟩
      go_wp2_with fail
      go_ret
      exact ⟨rfl, (below2 _ _ _).trans (hb.mono (by simp; omega))⟩
    · rw [lex_ne e1] at hr
      subst hr
      have e1' : (z1 != 0) = true := by simpa using e1
      have e1'' : (z1 == 0) = false := by simpa using e1
      go_enter Tryz.func45, Tryz.ntmps45
      go_wp2_with fail
      refine (q2.out _).mono ?_
      rintro e w' ⟨rfl, rfl⟩
      go_wp2_with fail
      refine (q1.out _).mono ?_
      rintro e w' ⟨rfl, rfl⟩
      go_wp2_with fail
      go_ret
      exact ⟨rfl, below2 _ _ _⟩
  · rw [lex_ne e2] at hr
    subst hr
    have e2' : (z2 != 0) = true := by simpa using e2
    have e2'' : (z2 == 0) = false := by simpa using e2
    go_enter Tryz.func45, Tryz.ntmps45
    go_wp2_with fail
    refine (q2.out _).mono ?_
    rintro e w' ⟨rfl, rfl⟩
    go_wp2_with fail
    go_ret
    exact ⟨rfl, below2 _ _ _⟩
theorem ref_same_atom_at (t u : Am) (w : World) (ht : t.At w) (hu : u.At w) {r : Bool} (hr : (cmpA t u == 0) = r) :
    Calls Tryz.prog 18 #[t.val, u.val] w fun e w' => e = .returned (.bool r) ∧ Below w.heap.size w w' := by
  have Q := Lib.hid (fun W (h : Below w.heap.size w W) => ref_compare_atom_at t u W (ht.below h) (hu.below h) rfl)
  generalize cmpA t u = z at *
  obtain ⟨s, A, c, a⟩ := t
  obtain ⟨s', A', c', a'⟩ := u
  show Calls Tryz.prog 18 #[.agg #[.string s, .slice A a.length c], .agg #[.string s', .slice A' a'.length c']] w _
  have HR := Lib.hid hr
  clear hr ht hu
  go_enter Tryz.func18, Tryz.ntmps18
  go_wp2_with fail
  refine (Q.out _ (below2 _ _ _)).mono ?_
  rintro e w1 ⟨rfl, hb⟩
  go_wp2_with fail
  go_ret
  exact ⟨by rw [← HR.out]; rfl, (below2 _ _ _).trans (hb.mono (by simp; omega))⟩

theorem same_ne {l m : List Tm} (h : l.length ≠ m.length) : (cmpL l m == 0) = false := by
  induction l generalizing m with
  | nil => cases m with
    | nil => simp at h
    | cons y q => rfl
  | cons x r ih => cases m with
    | nil => rfl
    | cons y q =>
      have := ih (m := q) (by simpa using h)
      simp only [cmpL, lex]
      split
      · exact this
      · simpa using ‹¬ _›

set_option maxHeartbeats 1000000 in
theorem ref_same_goal_at (t u : Gl) (w : World) (ht : t.At w) (hu : u.At w) {r : Bool} (hr : sameG t u = r) :
    Calls Tryz.prog 21 #[t.val, u.val] w fun e w' => e = .returned (.bool r) ∧ Below w.heap.size w w' := by
  have hl := ht.2.2
  have hm := hu.2.2
  obtain ⟨op, s, A, c, a⟩ := t
  obtain ⟨op', s', A', c', a'⟩ := u
  simp only [sameG] at hr hl hm
  show Calls Tryz.prog 21 #[.agg #[.int .i64 op, .string s, .slice A a.length c], .agg #[.int .i64 op', .string s', .slice A' a'.length c']] w _
  have hlen : a.length ≤ 9223372036854775807 := hl.len
  have hlen' : a'.length ≤ 9223372036854775807 := hm.len
  obtain ⟨b3, h3⟩ : ∃ z, (cmpL a a' == 0) = z := ⟨_, rfl⟩
  have q3 := Lib.hid (fun W (h : Below w.heap.size w W) => same_terms_at a a' A A' c c' W (hl.below h) (hm.below h) h3)
  have HN := Lib.hid (fun h : a.length ≠ a'.length => (h3.symm.trans (same_ne h) : b3 = false))
  rw [h3] at hr
  clear h3 hl hm ht hu
  by_cases e1 : op = op'
  · subst e1
    by_cases e2 : s = s'
    · subst e2
      obtain rfl : b3 = r := by simpa using hr
      clear hr
      by_cases e3 : a.length = a'.length
      · have e3' : ((a.length : Int) == (a'.length : Int)) = true := by simp; omega
        clear e3
        go_enter Tryz.func21, Tryz.ntmps21
        go_wp2_with fail
        refine (q3.out _ (below2 _ _ _)).mono ?_
        rintro e w' ⟨rfl, hb⟩
        go_wp2_with fail
        go_ret
        exact ⟨rfl, (below2 _ _ _).trans (hb.mono (by simp; omega))⟩
      · have e3' : ((a.length : Int) == (a'.length : Int)) = false := by simp; omega
        obtain rfl := HN.out e3
        clear e3 HN
        go_enter Tryz.func21, Tryz.ntmps21
        go_wp2_with fail
        go_ret
        exact ⟨rfl, below2 _ _ _⟩
    · have e2' : (s.toList == s'.toList) = false := by
        rw [ByteArray.toList_eq, ByteArray.toList_eq]
        exact beq_eq_false_iff_ne.2 (fun h => e2 (bytes_inj h))
      have e2'' : decide (s = s') = false := by simpa using e2
      have HR := Lib.hid (show false = r by rw [← hr]; simp [e2])
      clear hr e2
      go_enter Tryz.func21, Tryz.ntmps21
      go_wp2_with fail
      go_ret
      exact ⟨by rw [← HR.out]; rfl, below2 _ _ _⟩
  · have e1' : (op == op') = false := by simpa using e1
    have HR := Lib.hid (show false = r by rw [← hr]; simp [e1])
    clear hr e1
    go_enter Tryz.func21, Tryz.ntmps21
    go_wp2_with fail
    go_ret
    exact ⟨by rw [← HR.out]; rfl, below2 _ _ _⟩
end Go.Proofs.YtgialbcohkpogaaGreat
