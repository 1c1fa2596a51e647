/-
  Constraints and goals in memory; contracts of RightAtom, RightGoal, rightBuiltin of the program and of RightAtom, RightGoal, Arity of the reference.
-/
import Derived.Test.YtlpibnbabgfiiaaGreatDoorTmValid
namespace Go.Proofs.YtlpibnbabgfiiaaGreatDoor
open Go.RowKit Go.Sort

/-- A constraint: name, where its arguments lie, the capacity there, the arguments. -/
structure Am where
  name : ByteArray
  at_ : Option Addr
  cap : Nat
  args : List Tm
abbrev Am.val (a : Am) : Value := .agg #[.string a.name, .slice a.at_ a.args.length a.cap]
def Am.At (w : World) (a : Am) : Prop := a.name.size ≤ maxLen ∧ Lst w a.at_ a.args a.cap
/-- A goal. -/
structure Gl where
  op : Int
  name : ByteArray
  at_ : Option Addr
  cap : Nat
  args : List Tm
abbrev Gl.val (g : Gl) : Value := .agg #[.int .i64 g.op, .string g.name, .slice g.at_ g.args.length g.cap]
def Gl.At (w : World) (g : Gl) : Prop := Fits g.op ∧ g.name.size ≤ maxLen ∧ Lst w g.at_ g.args g.cap
theorem Am.At.below {w w' : World} {a : Am} (h : a.At w) (hb : Below w.heap.size w w') : a.At w' := ⟨h.1, h.2.below hb⟩
theorem Gl.At.below {w w' : World} {g : Gl} (h : g.At w) (hb : Below w.heap.size w w') : g.At w' := ⟨h.1, h.2.1, h.2.2.below hb⟩
instance : Inhabited Am := ⟨⟨ByteArray.empty, none, 0, []⟩⟩
instance : Inhabited Gl := ⟨⟨0, ByteArray.empty, none, 0, []⟩⟩

def atomB (s : List UInt8) (l : List Tm) : Bool := rightB s && (decide (l.length ≤ 6) && rightL l)
def arity (op : Int) : Int := if op = 1 ∨ op = 2 then 0 else if op = 11 ∨ op = 12 then 1 else if 2 < op ∧ op < 11 then 2 else -1
def builtinB (s : ByteArray) (l : List Tm) (n : Int) : Bool := decide (s.size = 0) && (decide ((l.length : Int) = n) && rightL l)
def goalB (op : Int) (s : ByteArray) (l : List Tm) : Bool := if op = 0 then atomB s.data.toList l else builtinB s l (arity op)

theorem Lst.len {w : World} {A : Option Addr} {l : List Tm} {c : Nat} (h : Lst w A l c) : l.length ≤ 9223372036854775807 := by have := h.1; have := h.2.1; unfold maxLen at *; omega

theorem right_atom_at (a : Am) (w : World) (ha : a.At w) {r : Bool} (hr : atomB a.name.data.toList a.args = r) :
    Calls Tryz.prog 41 #[a.val] w fun e w' => e = .returned (.bool r) ∧ Below w.heap.size w w' := by
  obtain ⟨s, A, c, l⟩ := a
  have hl : Lst w A l c := ha.2
  have hs : s.size ≤ 9223372036854775807 := by have h := ha.1; unfold maxLen at h; exact h
  have hlen := hl.len
  show Calls Tryz.prog 41 #[.agg #[.string s, .slice A l.length c]] w _
  obtain ⟨b1, h1⟩ : ∃ b, rightB s.data.toList = b := ⟨_, rfl⟩
  obtain ⟨b3, h3⟩ : ∃ b, rightL l = b := ⟨_, rfl⟩
  have q1 := Lib.hid (fun W => right_at s W hs h1)
  have q3 := Lib.hid (fun W (h : Below w.heap.size w W) => together_at l A c W (hl.below h) h3)
  have HV := Lib.hid (show (b1 && (decide (l.length ≤ 6) && b3)) = r by rw [← hr, ← h1, ← h3]; rfl)
  clear h1 h3 hr ha hl
  cases b1
  · go_enter Tryz.func41, Tryz.ntmps41
    go_wp2_with fail
    refine (q1.out _).mono ?_
    rintro e w' ⟨rfl, rfl⟩
    go_wp2_with fail
    go_ret
    exact ⟨by rw [← HV.out]; rfl, below1 _ _⟩
  · by_cases h6 : l.length ≤ 6
    · have h6' : (l.length : Int) ≤ 6 := by omega
      have HV' := Lib.hid (show b3 = r by rw [← HV.out]; simp [h6])
      clear HV h6
      go_enter Tryz.func41, Tryz.ntmps41
      go_wp2_with fail
      refine (q1.out _).mono ?_
      rintro e w' ⟨rfl, rfl⟩
      go_wp2_with fail
      refine (q3.out _ (below1 _ _)).mono ?_
      rintro e w' ⟨rfl, hb⟩
      go_wp2_with fail
      go_ret
      exact ⟨by rw [← HV'.out]; rfl, (below1 _ _).trans (hb.mono (by simp))⟩
    · have h6' : decide ((l.length : Int) ≤ 6) = false := by simp; omega
      have HV' := Lib.hid (show false = r by rw [← HV.out]; simp [h6])
      clear HV h6
      go_enter Tryz.func41, Tryz.ntmps41
      go_wp2_with fail
      refine (q1.out _).mono ?_
      rintro e w' ⟨rfl, rfl⟩
      go_wp2_with fail
      go_ret
      exact ⟨by rw [← HV'.out]; rfl, below1 _ _⟩

theorem ref_right_atom_at (a : Am) (w : World) (ha : a.At w) (hz : sizeL a.args ≤ 1000000) {r : Bool} (hr : atomB a.name.data.toList a.args = r) :
    Calls Tryz.prog 27 #[a.val] w fun e w' => e = .returned (.bool r) ∧ Below w.heap.size w w' := by
  obtain ⟨s, A, c, l⟩ := a
  simp only at hz
  have hl : Lst w A l c := ha.2
  have hs : s.size ≤ 9223372036854775807 := by have h := ha.1; unfold maxLen at h; exact h
  have hlen := hl.len
  show Calls Tryz.prog 27 #[.agg #[.string s, .slice A l.length c]] w _
  obtain ⟨b1, h1⟩ : ∃ b, rightB s.data.toList = b := ⟨_, rfl⟩
  obtain ⟨b3, h3⟩ : ∃ b, rightL l = b := ⟨_, rfl⟩
  have q1 := Lib.hid (fun W => ref_right_at s W hs h1)
  have q3 := Lib.hid (fun W (h : Below w.heap.size w W) => right_args_at l A c W (hl.below h) hz h3)
  have HV := Lib.hid (show (b1 && (decide (l.length ≤ 6) && b3)) = r by rw [← hr, ← h1, ← h3]; rfl)
  clear h1 h3 hr ha hl hz
  cases b1
  · go_enter Tryz.func27, Tryz.ntmps27
    go_wp2_with fail
    refine (q1.out _).mono ?_
    rintro e w' ⟨rfl, rfl⟩
    go_wp2_with fail
    go_ret
    exact ⟨by rw [← HV.out]; rfl, below1 _ _⟩
  · by_cases h6 : l.length ≤ 6
    · have h6' : (l.length : Int) ≤ 6 := by omega
      have HV' := Lib.hid (show b3 = r by rw [← HV.out]; simp [h6])
      clear HV h6
      go_enter Tryz.func27, Tryz.ntmps27
      go_wp2_with fail
      refine (q1.out _).mono ?_
      rintro e w' ⟨rfl, rfl⟩
      go_wp2_with fail
      refine (q3.out _ (below1 _ _)).mono ?_
      rintro e w' ⟨rfl, hb⟩
      go_wp2_with fail
      go_ret
      exact ⟨by rw [← HV'.out]; rfl, (below1 _ _).trans (hb.mono (by simp))⟩
    · have h6' : decide ((l.length : Int) ≤ 6) = false := by simp; omega
      have HV' := Lib.hid (show false = r by rw [← HV.out]; simp [h6])
      clear HV h6
      go_enter Tryz.func27, Tryz.ntmps27
      go_wp2_with fail
      refine (q1.out _).mono ?_
      rintro e w' ⟨rfl, rfl⟩
      go_wp2_with fail
      go_ret
      exact ⟨by rw [← HV'.out]; rfl, below1 _ _⟩

theorem builtin_at (g : Gl) (n : Int) (w : World) (ha : g.At w) {r : Bool} (hr : builtinB g.name g.args n = r) :
    Calls Tryz.prog 69 #[g.val, .int .i64 n] w fun e w' => e = .returned (.bool r) ∧ Below w.heap.size w w' := by
  obtain ⟨op, s, A, c, l⟩ := g
  have hl : Lst w A l c := ha.2.2
  have hlen := hl.len
  show Calls Tryz.prog 69 #[.agg #[.int .i64 op, .string s, .slice A l.length c], .int .i64 n] w _
  obtain ⟨b1, h1⟩ : ∃ b, decide (s.size = 0) = b := ⟨_, rfl⟩
  obtain ⟨b2, h2⟩ : ∃ b, decide ((l.length : Int) = n) = b := ⟨_, rfl⟩
  obtain ⟨b3, h3⟩ : ∃ b, rightL l = b := ⟨_, rfl⟩
  have q3 := Lib.hid (fun W (h : Below w.heap.size w W) => together_at l A c W (hl.below h) h3)
  have HV := Lib.hid (show (b1 && (b2 && b3)) = r by rw [← hr, ← h1, ← h2, ← h3]; rfl)
  have e1 : s.toList.isEmpty = b1 := by rw [empty_iff, h1]
  have e2 : ((l.length : Int) == n) = b2 := by rw [← h2, Bool.eq_iff_iff]; simp
  clear h1 h2 h3 hr ha hl
  cases b1
  · clear e2
    go_enter Tryz.func69, Tryz.ntmps69
    go_wp2_with fail
    go_ret
    exact ⟨by rw [← HV.out]; rfl, below1 _ _⟩
  · cases b2
    · go_enter Tryz.func69, Tryz.ntmps69
      go_wp2_with fail
      go_ret
      exact ⟨by rw [← HV.out]; rfl, below1 _ _⟩
    · go_enter Tryz.func69, Tryz.ntmps69
      go_wp2_with fail
      refine (q3.out _ (below1 _ _)).mono ?_
      rintro e w' ⟨rfl, hb⟩
      go_wp2_with fail
      go_ret
      exact ⟨by rw [← HV.out]; rfl, (below1 _ _).trans (hb.mono (by simp))⟩

set_option maxHeartbeats 1000000 in
theorem right_goal_at (g : Gl) (w : World) (ha : g.At w) {r : Bool} (hr : goalB g.op g.name g.args = r) :
    Calls Tryz.prog 35 #[g.val] w fun e w' => e = .returned (.bool r) ∧ Below w.heap.size w w' := by
  obtain ⟨op, s, A, c, l⟩ := g
  have hlen := Lst.len ha.2.2
  simp only at hr
  have q1 := Lib.hid (fun W (h : Below w.heap.size w W) {r : Bool} => right_atom_at ⟨s, A, c, l⟩ W ⟨ha.2.1, ha.2.2.below h⟩ (r := r))
  have q2 := Lib.hid (fun n W (h : Below w.heap.size w W) {r : Bool} => builtin_at ⟨op, s, A, c, l⟩ n W (ha.below h) (r := r))
  have HR := Lib.hid hr
  clear ha hr
  show Calls Tryz.prog 35 #[.agg #[.int .i64 op, .string s, .slice A l.length c]] w _
  by_cases h0 : op = 0
  · subst h0
    have HV := Lib.hid (show atomB s.data.toList l = r by rw [← HR.out]; rfl)
    go_enter Tryz.func35, Tryz.ntmps35
    go_wp2_with fail
    refine (q1.out _ (below1 _ _) HV.out).mono ?_
    rintro e w' ⟨rfl, hb⟩
    go_wp2_with fail
    go_ret
    exact ⟨rfl, (below1 _ _).trans (hb.mono (by simp))⟩
  have e0 : (op == 0) = false := by simp [h0]
  by_cases h1 : op = 1
  · subst h1
    have HV := Lib.hid (show builtinB s l 0 = r by rw [← HR.out]; simp [goalB, arity])
    go_enter Tryz.func35, Tryz.ntmps35
    go_wp2_with fail
    refine (q2.out _ _ (below1 _ _) HV.out).mono ?_
    rintro e w' ⟨rfl, hb⟩
    go_wp2_with fail
    go_ret
    exact ⟨rfl, (below1 _ _).trans (hb.mono (by simp))⟩
  have e1 : (op == 1) = false := by simp [h1]
  by_cases h2 : op = 2
  · subst h2
    have HV := Lib.hid (show builtinB s l 0 = r by rw [← HR.out]; simp [goalB, arity])
    go_enter Tryz.func35, Tryz.ntmps35
    go_wp2_with fail
    refine (q2.out _ _ (below1 _ _) HV.out).mono ?_
    rintro e w' ⟨rfl, hb⟩
    go_wp2_with fail
    go_ret
    exact ⟨rfl, (below1 _ _).trans (hb.mono (by simp))⟩
  have e2 : (op == 2) = false := by simp [h2]
  by_cases h11 : op = 11
  · subst h11
    have HV := Lib.hid (show builtinB s l 1 = r by rw [← HR.out]; simp [goalB, arity])
    go_enter Tryz.func35, Tryz.ntmps35
    go_wp2_with fail
    refine (q2.out _ _ (below1 _ _) HV.out).mono ?_
    rintro e w' ⟨rfl, hb⟩
    go_wp2_with fail
    go_ret
    exact ⟨rfl, (below1 _ _).trans (hb.mono (by simp))⟩
  have e11 : (op == 11) = false := by simp [h11]
  by_cases h12 : op = 12
  · subst h12
    have HV := Lib.hid (show builtinB s l 1 = r by rw [← HR.out]; simp [goalB, arity])
    go_enter Tryz.func35, Tryz.ntmps35
    go_wp2_with fail
    refine (q2.out _ _ (below1 _ _) HV.out).mono ?_
    rintro e w' ⟨rfl, hb⟩
    go_wp2_with fail
    go_ret
    exact ⟨rfl, (below1 _ _).trans (hb.mono (by simp))⟩
  have e12 : (op == 12) = false := by simp [h12]
  by_cases h3 : op = 3
  · subst h3
    have HV := Lib.hid (show builtinB s l 2 = r by rw [← HR.out]; simp [goalB, arity])
    go_enter Tryz.func35, Tryz.ntmps35
    go_wp2_with fail
    refine (q2.out _ _ (below1 _ _) HV.out).mono ?_
    rintro e w' ⟨rfl, hb⟩
    go_wp2_with fail
    go_ret
    exact ⟨rfl, (below1 _ _).trans (hb.mono (by simp))⟩
  have e3 : (op == 3) = false := by simp [h3]
  by_cases h4 : op = 4
  · subst h4
    have HV := Lib.hid (show builtinB s l 2 = r by rw [← HR.out]; simp [goalB, arity])
    go_enter Tryz.func35, Tryz.ntmps35
    go_wp2_with fail
    refine (q2.out _ _ (below1 _ _) HV.out).mono ?_
    rintro e w' ⟨rfl, hb⟩
    go_wp2_with fail
    go_ret
    exact ⟨rfl, (below1 _ _).trans (hb.mono (by simp))⟩
  have e4 : (op == 4) = false := by simp [h4]
  by_cases h5 : op = 5
  · subst h5
    have HV := Lib.hid (show builtinB s l 2 = r by rw [← HR.out]; simp [goalB, arity])
    go_enter Tryz.func35, Tryz.ntmps35
    go_wp2_with fail
    refine (q2.out _ _ (below1 _ _) HV.out).mono ?_
    rintro e w' ⟨rfl, hb⟩
    go_wp2_with fail
    go_ret
    exact ⟨rfl, (below1 _ _).trans (hb.mono (by simp))⟩
  have e5 : (op == 5) = false := by simp [h5]
  by_cases h6 : op = 6
  · subst h6
    have HV := Lib.hid (show builtinB s l 2 = r by rw [← HR.out]; simp [goalB, arity])
    go_enter Tryz.func35, Tryz.ntmps35
    go_wp2_with fail
    refine (q2.out _ _ (below1 _ _) HV.out).mono ?_
    rintro e w' ⟨rfl, hb⟩
    go_wp2_with fail
    go_ret
    exact ⟨rfl, (below1 _ _).trans (hb.mono (by simp))⟩
  have e6 : (op == 6) = false := by simp [h6]
  by_cases h7 : op = 7
  · subst h7
    have HV := Lib.hid (show builtinB s l 2 = r by rw [← HR.out]; simp [goalB, arity])
    go_enter Tryz.func35, Tryz.ntmps35
    go_wp2_with fail
    refine (q2.out _ _ (below1 _ _) HV.out).mono ?_
    rintro e w' ⟨rfl, hb⟩
    go_wp2_with fail
    go_ret
    exact ⟨rfl, (below1 _ _).trans (hb.mono (by simp))⟩
  have e7 : (op == 7) = false := by simp [h7]
  by_cases h8 : op = 8
  · subst h8
    have HV := Lib.hid (show builtinB s l 2 = r by rw [← HR.out]; simp [goalB, arity])
    go_enter Tryz.func35, Tryz.ntmps35
    go_wp2_with fail
    refine (q2.out _ _ (below1 _ _) HV.out).mono ?_
    rintro e w' ⟨rfl, hb⟩
    go_wp2_with fail
    go_ret
    exact ⟨rfl, (below1 _ _).trans (hb.mono (by simp))⟩
  have e8 : (op == 8) = false := by simp [h8]
  by_cases h9 : op = 9
  · subst h9
    have HV := Lib.hid (show builtinB s l 2 = r by rw [← HR.out]; simp [goalB, arity])
    go_enter Tryz.func35, Tryz.ntmps35
    go_wp2_with fail
    refine (q2.out _ _ (below1 _ _) HV.out).mono ?_
    rintro e w' ⟨rfl, hb⟩
    go_wp2_with fail
    go_ret
    exact ⟨rfl, (below1 _ _).trans (hb.mono (by simp))⟩
  have e9 : (op == 9) = false := by simp [h9]
  by_cases h10 : op = 10
  · subst h10
    have HV := Lib.hid (show builtinB s l 2 = r by rw [← HR.out]; simp [goalB, arity])
    go_enter Tryz.func35, Tryz.ntmps35
    go_wp2_with fail
    refine (q2.out _ _ (below1 _ _) HV.out).mono ?_
    rintro e w' ⟨rfl, hb⟩
    go_wp2_with fail
    go_ret
    exact ⟨rfl, (below1 _ _).trans (hb.mono (by simp))⟩
  have e10 : (op == 10) = false := by simp [h10]
  have HV := Lib.hid (show false = r by
    have : arity op = -1 := by unfold arity; rw [if_neg (by omega), if_neg (by omega), if_neg (by omega)]
    rw [← HR.out]
    simp only [goalB, h0, if_false, this, builtinB]
    have : decide ((l.length : Int) = -1) = false := by simp
    rw [this]
    simp)
  clear h0 h1 h2 h3 h4 h5 h6 h7 h8 h9 h10 h11 h12 q1 q2
  go_enter Tryz.func35, Tryz.ntmps35
  go_wp2_with fail
  go_ret
  exact ⟨by rw [← HV.out]; rfl, below1 _ _⟩

theorem arity_at (op : Int) (w : World) : Calls Tryz.prog 71 #[.int .i64 op] w fun e w' => e = .returned (.int .i64 (arity op)) ∧ w = w' := by
  by_cases h1 : op = 1
  · subst h1
    have HV := Lib.hid (show arity 1 = 0 by simp [arity])
    go_enter Tryz.func71, Tryz.ntmps71
    go_wp2_with fail
    go_ret
    exact ⟨by rw [HV.out]; rfl, rfl⟩
  have e1 : (op == 1) = false := by simp [h1]
  by_cases h2 : op = 2
  · subst h2
    have HV := Lib.hid (show arity 2 = 0 by simp [arity])
    go_enter Tryz.func71, Tryz.ntmps71
    go_wp2_with fail
    go_ret
    exact ⟨by rw [HV.out]; rfl, rfl⟩
  have e2 : (op == 2) = false := by simp [h2]
  by_cases h3 : op = 11
  · subst h3
    have HV := Lib.hid (show arity 11 = 1 by simp [arity])
    go_enter Tryz.func71, Tryz.ntmps71
    go_wp2_with fail
    go_ret
    exact ⟨by rw [HV.out]; rfl, rfl⟩
  have e3 : (op == 11) = false := by simp [h3]
  by_cases h4 : op = 12
  · subst h4
    have HV := Lib.hid (show arity 12 = 1 by simp [arity])
    go_enter Tryz.func71, Tryz.ntmps71
    go_wp2_with fail
    go_ret
    exact ⟨by rw [HV.out]; rfl, rfl⟩
  have e4 : (op == 12) = false := by simp [h4]
  by_cases h5 : 2 < op
  · by_cases h6 : op < 11
    · have HV := Lib.hid (show arity op = 2 by unfold arity; rw [if_neg (by omega), if_neg (by omega), if_pos ⟨h5, h6⟩])
      clear h1 h2 h3 h4
      go_enter Tryz.func71, Tryz.ntmps71
      go_wp2_with fail
      go_ret
      exact ⟨by rw [HV.out]; rfl, rfl⟩
    · have HV := Lib.hid (show arity op = -1 by unfold arity; rw [if_neg (by omega), if_neg (by omega), if_neg (by omega)])
      have e6 : decide (op < 11) = false := by simpa using h6
      clear h1 h2 h3 h4 h6
      go_enter Tryz.func71, Tryz.ntmps71
      go_wp2_with fail
      go_ret
      exact ⟨by rw [HV.out]; rfl, rfl⟩
  · have HV := Lib.hid (show arity op = -1 by unfold arity; rw [if_neg (by omega), if_neg (by omega), if_neg (by omega)])
    have e5 : decide (2 < op) = false := by simpa using h5
    clear h1 h2 h3 h4 h5
    go_enter Tryz.func71, Tryz.ntmps71
    go_wp2_with fail
    go_ret
    exact ⟨by rw [HV.out]; rfl, rfl⟩

set_option maxHeartbeats 1000000 in
theorem ref_right_goal_at (g : Gl) (w : World) (ha : g.At w) (hz : sizeL g.args ≤ 1000000) {r : Bool} (hr : goalB g.op g.name g.args = r) :
    Calls Tryz.prog 38 #[g.val] w fun e w' => e = .returned (.bool r) ∧ Below w.heap.size w w' := by
  obtain ⟨op, s, A, c, l⟩ := g
  have hl : Lst w A l c := ha.2.2
  have hlen := hl.len
  simp only at hr hz
  show Calls Tryz.prog 38 #[.agg #[.int .i64 op, .string s, .slice A l.length c]] w _
  by_cases h0 : op = 0
  · subst h0
    have q1 := Lib.hid (fun W (h : Below w.heap.size w W) => ref_right_atom_at ⟨s, A, c, l⟩ W ⟨ha.2.1, hl.below h⟩ hz (r := r) hr)
    clear ha hl hr
    go_enter Tryz.func38, Tryz.ntmps38
    go_wp2_with fail
    refine (q1.out _ (below1 _ _)).mono ?_
    rintro e w' ⟨rfl, hb⟩
    go_wp2_with fail
    go_ret
    exact ⟨rfl, (below1 _ _).trans (hb.mono (by simp))⟩
  have e0 : (op == 0) = false := by simp [h0]
  obtain ⟨b1, h1⟩ : ∃ b, decide (s.size = 0) = b := ⟨_, rfl⟩
  obtain ⟨n, hn⟩ : ∃ n, arity op = n := ⟨_, rfl⟩
  obtain ⟨b2, h2⟩ : ∃ b, decide ((l.length : Int) = n) = b := ⟨_, rfl⟩
  obtain ⟨b3, h3⟩ : ∃ b, rightL l = b := ⟨_, rfl⟩
  have q3 := Lib.hid (fun W (h : Below w.heap.size w W) => right_args_at l A c W (hl.below h) hz h3)
  have q4 := Lib.hid (fun W => arity_at op W)
  rw [hn] at q4
  have HV := Lib.hid (show (b1 && (b2 && b3)) = r by rw [← hr, ← h1, ← h2, ← h3, ← hn]; simp only [goalB, h0, if_false]; rfl)
  have e1 : s.toList.isEmpty = b1 := by rw [empty_iff, h1]
  have e2 : (n == (l.length : Int)) = b2 := by rw [← h2, Bool.eq_iff_iff]; simp; omega
  have kb0 := boxedN w #[.int .i64 op, .string s, .slice A l.length c] 30 0 _ rfl
  have kb1 := boxedN w #[.int .i64 op, .string s, .slice A l.length c] 30 1 _ rfl
  have kb2 := boxedN w #[.int .i64 op, .string s, .slice A l.length c] 30 2 _ rfl
  clear h1 h2 h3 hr ha hl hn h0
  cases b1
  · clear e2
    go_enter Tryz.func38, Tryz.ntmps38
    go_wp2_with fail
    refine wp_region_quiet_below (by kernel_rfl) (by kernel_rfl) ?_
    repeat (go_big_quiet_step (first | (go_at_call 71; exact Calls.regrown_of (withBelow (q4.out _))) | (go_at_call 57; exact Calls.regrown_of (q3.out _ ((below1 _ _).trans ((below_regrown _ _ _).mono (by simp)))))))
    refine wpQuiet_nil ?_
    intro w1 hw'
    have hb1 := (below1 _ _).trans ((regrown_below hw').mono (by simp))
    go_wp2_with fail
    go_ret
    exact ⟨by rw [← HV.out]; rfl, hb1⟩
  · cases b2
    · go_enter Tryz.func38, Tryz.ntmps38
      go_wp2_with fail
      refine wp_region_quiet_below (by kernel_rfl) (by kernel_rfl) ?_
      repeat (go_big_quiet_step (first | (go_at_call 71; exact Calls.regrown_of (withBelow (q4.out _))) | (go_at_call 57; exact Calls.regrown_of (q3.out _ ((below1 _ _).trans ((below_regrown _ _ _).mono (by simp)))))))
      refine wpQuiet_nil ?_
      intro w1 hw'
      have hb1 := (below1 _ _).trans ((regrown_below hw').mono (by simp))
      go_wp2_with fail
      go_ret
      exact ⟨by rw [← HV.out]; rfl, hb1⟩
    · go_enter Tryz.func38, Tryz.ntmps38
      go_wp2_with fail
      refine wp_region_quiet_below (by kernel_rfl) (by kernel_rfl) ?_
      repeat (go_big_quiet_step (first | (go_at_call 71; exact Calls.regrown_of (withBelow (q4.out _))) | (go_at_call 57; exact Calls.regrown_of (q3.out _ ((below1 _ _).trans ((below_regrown _ _ _).mono (by simp)))))))
      refine wpQuiet_nil ?_
      intro w1 hw'
      have hb1 := (below1 _ _).trans ((regrown_below hw').mono (by simp))
      go_wp2_with fail
      go_ret
      exact ⟨by rw [← HV.out]; rfl, hb1⟩
end Go.Proofs.YtlpibnbabgfiiaaGreatDoor
