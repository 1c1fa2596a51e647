/-
  Contracts of what the program and the reference say of constraints and of goals: CompareAtom, SameAtom, AtomVars, SameGoal, GoalVars; and Vars of a term.
-/
import Derived.Test.YtlpibnbabgfiiaaGreatDoorTmOpen
import Derived.Test.YtlpibnbabgfiiaaGreatDoorTmAtom
namespace Go.Proofs.YtlpibnbabgfiiaaGreatDoor
open Go.ChangeShapes Go.WideShapes Go.ChangeAt Go.RowKit
set_option linter.unusedVariables false

/-- The order of constraints. -/
def cmpA (a b : Am) : Int := lex (texts a.name.data.toList b.name.data.toList) (lex (ints a.args.length b.args.length) (cmpL a.args b.args))
def sameG (g h : Gl) : Bool := decide (g.op = h.op) && (decide (g.name = h.name) && (cmpL g.args h.args == 0))

set_option maxHeartbeats 1000000 in
theorem ref_compare_atom_at (t u : Am) (w : World) (ht : t.At w) (hu : u.At w) {r : Int} (hr : cmpA t u = r) :
    Calls Tryz.prog 52 #[t.val, u.val] w fun e w' => e = .returned (.int .i64 r) ∧ Below w.heap.size w w' := by
  have hl := ht.2
  have hm := hu.2
  obtain ⟨s, A, c, a⟩ := t
  obtain ⟨s', A', c', a'⟩ := u
  simp only [cmpA] at hr hl hm
  show Calls Tryz.prog 52 #[.agg #[.string s, .slice A a.length c], .agg #[.string s', .slice A' a'.length c']] w _
  have hlen : a.length ≤ 9223372036854775807 := hl.len
  have hlen' : a'.length ≤ 9223372036854775807 := hm.len
  obtain ⟨z1, h1⟩ : ∃ z, ints a.length a'.length = z := ⟨_, rfl⟩
  obtain ⟨z2, h2⟩ : ∃ z, texts s.data.toList s'.data.toList = z := ⟨_, rfl⟩
  have q1 := Lib.hid (fun W => ref_ints_at (a.length : Int) (a'.length : Int) W h1)
  have q2 := Lib.hid (fun W => ref_texts_at s s' W h2)
  have q3 := Lib.hid (fun W (h : Below w.heap.size w W) => ref_lists_at a a' (fun x _ => ref_compare_at x) A A' c c' W (hl.below h) (hm.below h))
  obtain ⟨z3, h3⟩ : ∃ z, cmpL a a' = z := ⟨_, rfl⟩
  rw [h3] at q3
  rw [h1, h2, h3] at hr
  clear h1 h2 h3 hl hm ht hu
  by_cases e2 : z2 = 0
  · subst e2
    rw [lex_zero] at hr
    by_cases e1 : z1 = 0
    · subst e1
      rw [lex_zero] at hr
      subst hr
      go_enter Tryz.func52, Tryz.ntmps52
      go_wp2_with fail
      refine (q2.out _).mono ?_
      rintro e w' ⟨rfl, rfl⟩
      go_wp2_with fail
      refine (q1.out _).mono ?_
      rintro e w' ⟨rfl, rfl⟩
      go_wp2_with fail
      refine (q3.out _ (below2 _ _ _)).mono ?_
      rintro e w' ⟨rfl, hb⟩
      go_wp2_with fail
      go_ret
      exact ⟨rfl, (below2 _ _ _).trans (hb.mono (by simp; omega))⟩
    · rw [lex_ne e1] at hr
      subst hr
      have e1' : (z1 != 0) = true := by simpa using e1
      have e1'' : (z1 == 0) = false := by simpa using e1
      go_enter Tryz.func52, Tryz.ntmps52
      go_wp2_with fail
      refine (q2.out _).mono ?_
      rintro e w' ⟨rfl, rfl⟩
      go_wp2_with fail
      refine (q1.out _).mono ?_
      rintro e w' ⟨rfl, rfl⟩
      go_wp2_with fail
      go_ret
      exact ⟨rfl, below2 _ _ _⟩
  · rw [lex_ne e2] at hr
    subst hr
    have e2' : (z2 != 0) = true := by simpa using e2
    have e2'' : (z2 == 0) = false := by simpa using e2
    go_enter Tryz.func52, Tryz.ntmps52
    go_wp2_with fail
    refine (q2.out _).mono ?_
    rintro e w' ⟨rfl, rfl⟩
    go_wp2_with fail
    go_ret
    exact ⟨rfl, below2 _ _ _⟩
theorem ref_same_atom_at (t u : Am) (w : World) (ht : t.At w) (hu : u.At w) {r : Bool} (hr : (cmpA t u == 0) = r) :
    Calls Tryz.prog 23 #[t.val, u.val] w fun e w' => e = .returned (.bool r) ∧ Below w.heap.size w w' := by
  have Q := Lib.hid (fun W (h : Below w.heap.size w W) => ref_compare_atom_at t u W (ht.below h) (hu.below h) rfl)
  generalize cmpA t u = z at *
  obtain ⟨s, A, c, a⟩ := t
  obtain ⟨s', A', c', a'⟩ := u
  show Calls Tryz.prog 23 #[.agg #[.string s, .slice A a.length c], .agg #[.string s', .slice A' a'.length c']] w _
  have HR := Lib.hid hr
  clear hr ht hu
  go_enter Tryz.func23, Tryz.ntmps23
  go_wp2_with fail
  refine (Q.out _ (below2 _ _ _)).mono ?_
  rintro e w1 ⟨rfl, hb⟩
  go_wp2_with fail
  go_ret
  exact ⟨by rw [← HR.out]; rfl, (below2 _ _ _).trans (hb.mono (by simp; omega))⟩

theorem same_ne {l m : List Tm} (h : l.length ≠ m.length) : (cmpL l m == 0) = false := by
  induction l generalizing m with
  | nil => cases m with
    | nil => simp at h
    | cons y q => rfl
  | cons x r ih => cases m with
    | nil => rfl
    | cons y q =>
      have := ih (m := q) (by simpa using h)
      simp only [cmpL, lex]
      split
      · exact this
      · simpa using ‹¬ _›

end Go.Proofs.YtlpibnbabgfiiaaGreatDoor
