/-
  Contracts of what the program and the reference say of constraints and of goals: CompareAtom, SameAtom, AtomVars, SameGoal, GoalVars; and Vars of a term.
  Great of a slice of one term that is just laid.
  What the statements lay of terms: slices of two and of three; three boxes.
  GreatAtoms and GreatGoals of the reference, of two constraints or goals that were just laid.
  What the statements lay of constraints and goals: two boxes; what the weight bounds.
-/
import Derived.Test.YtpnjjahimhhjkaaTmOpen
import Derived.Test.YtpnjjahimhhjkaaTmVarAll
import Derived.Test.YtpnjjahimhhjkaaTmAtom
import Derived.Test.YtpnjjahimhhjkaaTmWeigh
import Derived.Test.YtpnjjahimhhjkaaTmBase
namespace Go.Proofs.Ytpnjjahimhhjkaa
open Go.ChangeShapes Go.WideShapes Go.ChangeAt Go.RowKit
set_option linter.unusedVariables false

/-- The order of constraints. -/
def cmpA (a b : Am) : Int := lex (texts a.name.data.toList b.name.data.toList) (lex (ints a.args.length b.args.length) (cmpL a.args b.args))
def sameG (g h : Gl) : Bool := decide (g.op = h.op) && (decide (g.name = h.name) && (cmpL g.args h.args == 0))

theorem vars_call (t : Tm) (w : World) (ht : t.At w) (hz : t.size ≤ 1000000) : Calls Try.prog 31 #[t.val] w (Grows w (addAll [] t.occ)) := by
  have Q := Lib.hid (fun (W : World) (b : Nat) (hb : b = W.heap.size) (h : Below w.heap.size w W) => first_at [t] (some ⟨b, 0, none⟩) 1 _ (Lst.of_row (hb ▸ row_one t (ht.below h)) (by simp)) (by simpa [sizeL] using hz))
  have e : occL [t] = t.occ := by simp [occL]
  rw [e] at Q
  generalize t.occ = os at *
  clear ht hz e
  obtain ⟨k, n, s, A, c, a⟩ := t
  show Calls Try.prog 31 #[.agg #[.int .i64 k, .int .i64 n, .string s, .slice A a.length c]] w _
  go_enter Try.func31, Try.ntmps31
  go_wp2_with fail
  refine (Q.out _ _ (by simp) (below1 _ _)).mono ?_
  rintro e w1 ⟨v, rfl, ho, hb⟩
  go_wp2_with fail
  go_ret
  exact Grows.mk rfl (ho.mono (by simp; omega)) ((below2 _ _ _).trans (hb.mono (by simp; omega)))

theorem atom_vars_at (a : Am) (w : World) (ha : a.At w) (hz : sizeL a.args ≤ 1000000) : Calls Try.prog 71 #[a.val] w (Grows w (addAll [] (occL a.args))) := by
  obtain ⟨s, A, c, l⟩ := a
  have Q := Lib.hid (fun W (h : Below w.heap.size w W) => first_at l A c W (ha.2.below h) hz)
  simp only at Q ⊢
  generalize occL l = os at *
  clear ha hz
  show Calls Try.prog 71 #[.agg #[.string s, .slice A l.length c]] w _
  go_enter Try.func71, Try.ntmps71
  go_wp2_with fail
  refine (Q.out _ (below1 _ _)).mono ?_
  rintro e w1 ⟨v, rfl, ho, hb⟩
  go_wp2_with fail
  go_ret
  exact Grows.mk rfl (ho.mono (by simp)) ((below1 _ _).trans (hb.mono (by simp)))

set_option maxHeartbeats 1000000 in
theorem ref_compare_atom_at (t u : Am) (w : World) (ht : t.At w) (hu : u.At w) {r : Int} (hr : cmpA t u = r) :
    Calls Try.prog 89 #[t.val, u.val] w fun e w' => e = .returned (.int .i64 r) ∧ Below w.heap.size w w' := by
  have hl := ht.2
  have hm := hu.2
  obtain ⟨s, A, c, a⟩ := t
  obtain ⟨s', A', c', a'⟩ := u
  simp only [cmpA] at hr hl hm
  show Calls Try.prog 89 #[.agg #[.string s, .slice A a.length c], .agg #[.string s', .slice A' a'.length c']] w _
  have hlen : a.length ≤ 9223372036854775807 := hl.len
  have hlen' : a'.length ≤ 9223372036854775807 := hm.len
  obtain ⟨z1, h1⟩ : ∃ z, ints a.length a'.length = z := ⟨_, rfl⟩
  obtain ⟨z2, h2⟩ : ∃ z, texts s.data.toList s'.data.toList = z := ⟨_, rfl⟩
  have q1 := Lib.hid (fun W => ref_ints_at (a.length : Int) (a'.length : Int) W h1)
  have q2 := Lib.hid (fun W => ref_texts_at s s' W h2)
  have q3 := Lib.hid (fun W (h : Below w.heap.size w W) => ref_lists_at a a' (fun x _ => ref_compare_at x) A A' c c' W (hl.below h) (hm.below h))
  obtain ⟨z3, h3⟩ : ∃ z, cmpL a a' = z := ⟨_, rfl⟩
  rw [h3] at q3
  rw [h1, h2, h3] at hr
  clear h1 h2 h3 hl hm ht hu
  by_cases e2 : z2 = 0
  · subst e2
    rw [lex_zero] at hr
    by_cases e1 : z1 = 0
    · subst e1
      rw [lex_zero] at hr
      subst hr
      go_enter Try.func89, Try.ntmps89
      go_wp2_with fail
      refine (q2.out _).mono ?_
      rintro e w' ⟨rfl, rfl⟩
      go_wp2_with fail
      refine (q1.out _).mono ?_
      rintro e w' ⟨rfl, rfl⟩
      go_wp2_with fail
      refine (q3.out _ (below2 _ _ _)).mono ?_
      rintro e w' ⟨rfl, hb⟩
      go_wp2_with fail
      go_ret
      exact ⟨rfl, (below2 _ _ _).trans (hb.mono (by simp; omega))⟩
    · rw [lex_ne e1] at hr
      subst hr
      have e1' : (z1 != 0) = true := by simpa using e1
      have e1'' : (z1 == 0) = false := by simpa using e1
      go_enter Try.func89, Try.ntmps89
      go_wp2_with fail
      refine (q2.out _).mono ?_
      rintro e w' ⟨rfl, rfl⟩
      go_wp2_with fail
      refine (q1.out _).mono ?_
      rintro e w' ⟨rfl, rfl⟩
      go_wp2_with fail
      go_ret
      exact ⟨rfl, below2 _ _ _⟩
  · rw [lex_ne e2] at hr
    subst hr
    have e2' : (z2 != 0) = true := by simpa using e2
    have e2'' : (z2 == 0) = false := by simpa using e2
    go_enter Try.func89, Try.ntmps89
    go_wp2_with fail
    refine (q2.out _).mono ?_
    rintro e w' ⟨rfl, rfl⟩
    go_wp2_with fail
    go_ret
    exact ⟨rfl, below2 _ _ _⟩
theorem ref_same_atom_at (t u : Am) (w : World) (ht : t.At w) (hu : u.At w) {r : Bool} (hr : (cmpA t u == 0) = r) :
    Calls Try.prog 67 #[t.val, u.val] w fun e w' => e = .returned (.bool r) ∧ Below w.heap.size w w' := by
  have Q := Lib.hid (fun W (h : Below w.heap.size w W) => ref_compare_atom_at t u W (ht.below h) (hu.below h) rfl)
  generalize cmpA t u = z at *
  obtain ⟨s, A, c, a⟩ := t
  obtain ⟨s', A', c', a'⟩ := u
  show Calls Try.prog 67 #[.agg #[.string s, .slice A a.length c], .agg #[.string s', .slice A' a'.length c']] w _
  have HR := Lib.hid hr
  clear hr ht hu
  go_enter Try.func67, Try.ntmps67
  go_wp2_with fail
  refine (Q.out _ (below2 _ _ _)).mono ?_
  rintro e w1 ⟨rfl, hb⟩
  go_wp2_with fail
  go_ret
  exact ⟨by rw [← HR.out]; rfl, (below2 _ _ _).trans (hb.mono (by simp; omega))⟩

theorem same_ne {l m : List Tm} (h : l.length ≠ m.length) : (cmpL l m == 0) = false := by
  induction l generalizing m with
  | nil => cases m with
    | nil => simp at h
    | cons y q => rfl
  | cons x r ih => cases m with
    | nil => rfl
    | cons y q =>
      have := ih (m := q) (by simpa using h)
      simp only [cmpL, lex]
      split
      · exact this
      · simpa using ‹¬ _›

set_option maxHeartbeats 1000000 in
theorem equal_func_at (l m : List Tm) (A B : Option Addr) (c d : Nat) (w : World) (hl : Lst w A l c) (hm : Lst w B m d) {r : Bool} (hr : (cmpL l m == 0) = r) :
    Calls Try.prog 61 #[.slice A l.length c, .slice B m.length d, .func (.func 26) #[] #[]] w fun e w' => e = .returned (.bool r) ∧ Below w.heap.size w w' := by
  have hlen : l.length ≤ 9223372036854775807 := hl.len
  have hlen' : m.length ≤ 9223372036854775807 := hm.len
  by_cases hne : l.length = m.length
  · have hne' : ((l.length : Int) != (m.length : Int)) = false := by simp; omega
    have HR := Lib.hid hr
    have HNE := Lib.hid hne
    clear hr hne
    go_enter Try.func61, Try.ntmps61
    go_wp2_with fail
    go_loopw [17] (fun i wr => ∃ j : Nat, j ≤ l.length ∧ j ≤ m.length ∧ i = .int .i64 j ∧ Hid (cmpL (l.take j) (m.take j) = 0) ∧ Below w.heap.size w wr) (fun i _ => l.length - (intOf i).toNat)
    case atStart => exact ⟨0, Nat.zero_le _, Nat.zero_le _, rfl, Lib.hid rfl, Below.refl _ _⟩
    case round =>
      obtain ⟨j, hj, hjm, rfl, HF, hb⟩ := hrel
      by_cases hlt : j < l.length
      · obtain ⟨b, o, rfl, ⟨c0, c1, c2, c3⟩, hx⟩ := (hl.below hb).get hlt
        have hlt' : j < m.length := by have := HNE.out; omega
        obtain ⟨b', o', rfl, ⟨g0, g1, g2, g3⟩, hy⟩ := (hm.below hb).get hlt'
        have HN := Lib.hid (cmpL_next hlt hlt' HF.out)
        have HS := Lib.hid (fun h => cmpL_stop hlt hlt' HF.out h)
        generalize l.getD j default = x at *
        generalize m.getD j default = y at *
        have Q1 := Lib.hid (fun W (h : Below wr.heap.size wr W) => same_at x y W (hx.below h) (hy.below h) rfl)
        have hb1 := ((World.block_lt_of_cell? _ _ c0 : b < wr.heap.size))
        have hb2 := ((World.block_lt_of_cell? _ _ g0 : b' < wr.heap.size))
        clear hx hy
        obtain ⟨z, hz⟩ : ∃ z, cmpT x y = z := ⟨_, rfl⟩
        rw [hz] at HN HS Q1
        clear hz
        obtain ⟨k1, n1, s1, A1, p1, a1⟩ := x
        obtain ⟨k2, n2, s2, A2, p2, a2⟩ := y
        simp only [Tm.kind, Tm.num, Tm.name, Tm.at_, Tm.args, Tm.cap] at c0 c1 c2 c3 g0 g1 g2 g3
        go_wp2_with fail
        refine (Q1.out _ (below2 _ _ _)).mono ?_
        rintro e w2 ⟨rfl, hb3⟩
        have hb4 := hb.trans (((below2 _ _ _).trans (hb3.mono (by simp; omega))).mono hb.size)
        by_cases hz : z = 0
        · subst hz
          go_wp2_with fail
          go_roundw
          case rel => exact ⟨j + 1, by omega, by omega, by go_num, HN, hb4⟩
          case measure => simp [intOf]; omega
        · have hz' : (z == 0) = false := by simpa using hz
          have HE := Lib.hid (HS.out hz)
          clear HS HN
          go_wp2_with fail
          go_ret
          exact ⟨by rw [← HR.out, HE.out, hz']; rfl, hb4⟩
      · obtain rfl : j = l.length := by omega
        have HE := Lib.hid (show cmpL l m = 0 by
          rw [cmpL_end (.inl rfl) hj hjm HF.out, HNE.out, ints_self])
        go_wp2_with fail
        go_ret
        exact ⟨by rw [← HR.out, HE.out]; rfl, hb⟩
  · have hne' : ((l.length : Int) != (m.length : Int)) = true := by simp; omega
    rw [same_ne hne] at hr
    subst hr
    go_enter Try.func61, Try.ntmps61
    go_wp2_with fail
    go_ret
    exact ⟨rfl, Below.refl _ _⟩

set_option maxHeartbeats 1000000 in
theorem ref_same_goal_at (t u : Gl) (w : World) (ht : t.At w) (hu : u.At w) {r : Bool} (hr : sameG t u = r) :
    Calls Try.prog 68 #[t.val, u.val] w fun e w' => e = .returned (.bool r) ∧ Below w.heap.size w w' := by
  have hl := ht.2.2
  have hm := hu.2.2
  obtain ⟨op, s, A, c, a⟩ := t
  obtain ⟨op', s', A', c', a'⟩ := u
  simp only [sameG] at hr hl hm
  show Calls Try.prog 68 #[.agg #[.int .i64 op, .string s, .slice A a.length c], .agg #[.int .i64 op', .string s', .slice A' a'.length c']] w _
  have hlen : a.length ≤ 9223372036854775807 := hl.len
  have hlen' : a'.length ≤ 9223372036854775807 := hm.len
  obtain ⟨b3, h3⟩ : ∃ z, (cmpL a a' == 0) = z := ⟨_, rfl⟩
  have q3 := Lib.hid (fun W (h : Below w.heap.size w W) => same_terms_at a a' A A' c c' W (hl.below h) (hm.below h) h3)
  have HN := Lib.hid (fun h : a.length ≠ a'.length => (h3.symm.trans (same_ne h) : b3 = false))
  rw [h3] at hr
  clear h3 hl hm ht hu
  by_cases e1 : op = op'
  · subst e1
    by_cases e2 : s = s'
    · subst e2
      obtain rfl : b3 = r := by simpa using hr
      clear hr
      by_cases e3 : a.length = a'.length
      · have e3' : ((a.length : Int) == (a'.length : Int)) = true := by simp; omega
        clear e3
        go_enter Try.func68, Try.ntmps68
        go_wp2_with fail
        refine (q3.out _ (below2 _ _ _)).mono ?_
        rintro e w' ⟨rfl, hb⟩
        go_wp2_with fail
        go_ret
        exact ⟨rfl, (below2 _ _ _).trans (hb.mono (by simp; omega))⟩
      · have e3' : ((a.length : Int) == (a'.length : Int)) = false := by simp; omega
        obtain rfl := HN.out e3
        clear e3 HN
        go_enter Try.func68, Try.ntmps68
        go_wp2_with fail
        go_ret
        exact ⟨rfl, below2 _ _ _⟩
    · have e2' : (s.toList == s'.toList) = false := by
        rw [ByteArray.toList_eq, ByteArray.toList_eq]
        exact beq_eq_false_iff_ne.2 (fun h => e2 (bytes_inj h))
      have e2'' : decide (s = s') = false := by simpa using e2
      have HR := Lib.hid (show false = r by rw [← hr]; simp [e2])
      clear hr e2
      go_enter Try.func68, Try.ntmps68
      go_wp2_with fail
      go_ret
      exact ⟨by rw [← HR.out]; rfl, below2 _ _ _⟩
  · have e1' : (op == op') = false := by simpa using e1
    have HR := Lib.hid (show false = r by rw [← hr]; simp [e1])
    clear hr e1
    go_enter Try.func68, Try.ntmps68
    go_wp2_with fail
    go_ret
    exact ⟨by rw [← HR.out]; rfl, below2 _ _ _⟩
end Go.Proofs.Ytpnjjahimhhjkaa
namespace Go.Proofs.Ytpnjjahimhhjkaa
open Go.ChangeShapes Go.WideShapes Go.ChangeAt Go.RowKit

theorem great_single (t : Tm) (most : Int) (W : World) (b : Nat) (hb : b = W.heap.size) (ht : t.At W) (h1 : 0 ≤ most) (h2 : most ≤ 1000000) {r : Bool} (hr : decide (weigh [t] most 64 < 0) = r) :
    Calls Try.prog 10 #[.slice (some ⟨b, 0, none⟩) 1 1, .int .i64 most] (W.alloc (.cells #[.int .i64 t.kind, .int .i64 t.num, .string t.name, .slice t.at_ t.args.length t.cap] 24)) fun e w' => e = .returned (.bool r) ∧ Below W.heap.size W w' :=
  (great_one t most W _ b hb ht (Below.refl _ _) h1 h2 hr).mono fun _ _ ⟨he, h⟩ => ⟨he, (below1 _ _).trans (h.mono (below1 _ _).size)⟩
end Go.Proofs.Ytpnjjahimhhjkaa
namespace Go.Proofs.Ytpnjjahimhhjkaa
open Go.ChangeShapes Go.WideShapes Go.ChangeAt Go.RowKit

theorem row_two {w : World} (t u : Tm) (ht : t.At w) (hu : u.At w) : RowAt (w.alloc (.cells #[.int .i64 t.kind, .int .i64 t.num, .string t.name, .slice t.at_ t.args.length t.cap, .int .i64 u.kind, .int .i64 u.num, .string u.name, .slice u.at_ u.args.length u.cap] 24)) [t, u] w.heap.size 0 := by
  have hc : ∀ j v, (#[.int .i64 t.kind, .int .i64 t.num, .string t.name, .slice t.at_ t.args.length t.cap, .int .i64 u.kind, .int .i64 u.num, .string u.name, .slice u.at_ u.args.length u.cap] : Array Value)[j]? = some v →
      (w.alloc (.cells #[.int .i64 t.kind, .int .i64 t.num, .string t.name, .slice t.at_ t.args.length t.cap, .int .i64 u.kind, .int .i64 u.num, .string u.name, .slice u.at_ u.args.length u.cap] 24)).cell? ⟨w.heap.size, j, none⟩ = some v := fun j v hv => by
    rw [World.cell?_alloc_at _ _ _ _ rfl, hv]
  simp only [RowAt]
  exact ⟨⟨hc 0 _ rfl, hc 1 _ rfl, hc 2 _ rfl, hc 3 _ rfl⟩, ht.alloc _, ⟨hc 4 _ rfl, hc 5 _ rfl, hc 6 _ rfl, hc 7 _ rfl⟩, hu.alloc _, trivial⟩
theorem row_three {w : World} (t u v : Tm) (ht : t.At w) (hu : u.At w) (hv : v.At w) : RowAt (w.alloc (.cells #[.int .i64 t.kind, .int .i64 t.num, .string t.name, .slice t.at_ t.args.length t.cap, .int .i64 u.kind, .int .i64 u.num, .string u.name, .slice u.at_ u.args.length u.cap, .int .i64 v.kind, .int .i64 v.num, .string v.name, .slice v.at_ v.args.length v.cap] 24)) [t, u, v] w.heap.size 0 := by
  have hc : ∀ j x, (#[.int .i64 t.kind, .int .i64 t.num, .string t.name, .slice t.at_ t.args.length t.cap, .int .i64 u.kind, .int .i64 u.num, .string u.name, .slice u.at_ u.args.length u.cap, .int .i64 v.kind, .int .i64 v.num, .string v.name, .slice v.at_ v.args.length v.cap] : Array Value)[j]? = some x →
      (w.alloc (.cells #[.int .i64 t.kind, .int .i64 t.num, .string t.name, .slice t.at_ t.args.length t.cap, .int .i64 u.kind, .int .i64 u.num, .string u.name, .slice u.at_ u.args.length u.cap, .int .i64 v.kind, .int .i64 v.num, .string v.name, .slice v.at_ v.args.length v.cap] 24)).cell? ⟨w.heap.size, j, none⟩ = some x := fun j x hx => by
    rw [World.cell?_alloc_at _ _ _ _ rfl, hx]
  simp only [RowAt]
  exact ⟨⟨hc 0 _ rfl, hc 1 _ rfl, hc 2 _ rfl, hc 3 _ rfl⟩, ht.alloc _, ⟨hc 4 _ rfl, hc 5 _ rfl, hc 6 _ rfl, hc 7 _ rfl⟩, hu.alloc _, ⟨hc 8 _ rfl, hc 9 _ rfl, hc 10 _ rfl, hc 11 _ rfl⟩, hv.alloc _, trivial⟩

theorem great_two (t u : Tm) (most : Int) (W : World) (b : Nat) (hb : b = W.heap.size) (ht : t.At W) (hu : u.At W) (h1 : 0 ≤ most) (h2 : most ≤ 1000000) {r : Bool} (hr : decide (weigh [t, u] most 64 < 0) = r) :
    Calls Try.prog 10 #[.slice (some ⟨b, 0, none⟩) 2 2, .int .i64 most] (W.alloc (.cells #[.int .i64 t.kind, .int .i64 t.num, .string t.name, .slice t.at_ t.args.length t.cap, .int .i64 u.kind, .int .i64 u.num, .string u.name, .slice u.at_ u.args.length u.cap] 24)) fun e w' => e = .returned (.bool r) ∧ Below W.heap.size W w' := by
  subst hb
  exact (great_below [t, u] _ 2 most _ (Lst.of_row (row_two t u ht hu) (by simp)) h1 h2 hr).mono fun e w' ⟨he, h⟩ => ⟨he, (below1 _ _).trans (h.mono (below1 _ _).size)⟩
theorem great_three (t u v : Tm) (most : Int) (W : World) (b : Nat) (hb : b = W.heap.size) (ht : t.At W) (hu : u.At W) (hv : v.At W) (h1 : 0 ≤ most) (h2 : most ≤ 1000000) {r : Bool} (hr : decide (weigh [t, u, v] most 64 < 0) = r) :
    Calls Try.prog 10 #[.slice (some ⟨b, 0, none⟩) 3 3, .int .i64 most] (W.alloc (.cells #[.int .i64 t.kind, .int .i64 t.num, .string t.name, .slice t.at_ t.args.length t.cap, .int .i64 u.kind, .int .i64 u.num, .string u.name, .slice u.at_ u.args.length u.cap, .int .i64 v.kind, .int .i64 v.num, .string v.name, .slice v.at_ v.args.length v.cap] 24)) fun e w' => e = .returned (.bool r) ∧ Below W.heap.size W w' := by
  subst hb
  exact (great_below [t, u, v] _ 3 most _ (Lst.of_row (row_three t u v ht hu hv) (by simp)) h1 h2 hr).mono fun e w' ⟨he, h⟩ => ⟨he, (below1 _ _).trans (h.mono (below1 _ _).size)⟩

/-- Three boxes, behind a call. -/
theorem below3 (w : World) (o p q : Obj) : Below w.heap.size w (((w.alloc o).alloc p).alloc q) := (below2 w o p).trans ((below1 _ q).mono (below2 w o p).size)
theorem box12 {w w' : World} {v0 v1 v2 v3 u0 u1 u2 u3 x0 x1 x2 x3 : Value} {T : TypeId}
    (hb : Below (((w.alloc (.cells #[v0, v1, v2, v3] T)).alloc (.cells #[u0, u1, u2, u3] T)).alloc (.cells #[x0, x1, x2, x3] T)).heap.size (((w.alloc (.cells #[v0, v1, v2, v3] T)).alloc (.cells #[u0, u1, u2, u3] T)).alloc (.cells #[x0, x1, x2, x3] T)) w') :
    (w'.cell? ⟨w.heap.size, 0, none⟩ = some v0 ∧ w'.cell? ⟨w.heap.size, 1, none⟩ = some v1 ∧ w'.cell? ⟨w.heap.size, 2, none⟩ = some v2 ∧ w'.cell? ⟨w.heap.size, 3, none⟩ = some v3) ∧
    (w'.cell? ⟨w.heap.size + 1, 0, none⟩ = some u0 ∧ w'.cell? ⟨w.heap.size + 1, 1, none⟩ = some u1 ∧ w'.cell? ⟨w.heap.size + 1, 2, none⟩ = some u2 ∧ w'.cell? ⟨w.heap.size + 1, 3, none⟩ = some u3) ∧
    (w'.cell? ⟨w.heap.size + 1 + 1, 0, none⟩ = some x0 ∧ w'.cell? ⟨w.heap.size + 1 + 1, 1, none⟩ = some x1 ∧ w'.cell? ⟨w.heap.size + 1 + 1, 2, none⟩ = some x2 ∧ w'.cell? ⟨w.heap.size + 1 + 1, 3, none⟩ = some x3) ∧ Below w.heap.size w w' := by
  obtain ⟨h1, h2, h3⟩ := box8 ((below1 _ _).trans (hb.mono (below1 _ _).size))
  obtain ⟨d0, d1, d2, d3, _⟩ := box4 hb
  have e : ((w.alloc (.cells #[v0, v1, v2, v3] T)).alloc (.cells #[u0, u1, u2, u3] T)).heap.size = w.heap.size + 1 + 1 := by simp
  rw [e] at d0 d1 d2 d3
  exact ⟨h1, h2, ⟨d0, d1, d2, d3⟩, h3⟩
theorem keepc {w w' : World} (hb : Below w.heap.size w w') {p : Addr} {v : Value} (h : w.cell? p = some v) : w'.cell? p = some v := by
  rw [hb.cell (block_lt_of_cell h)]; exact h
end Go.Proofs.Ytpnjjahimhhjkaa
namespace Go.Proofs.Ytpnjjahimhhjkaa
open Go.ChangeShapes Go.WideShapes Go.ChangeAt Go.RowKit
set_option linter.unusedVariables false

def weighN (s : ByteArray) (l : List Tm) (m : Int) : Int := if m < 0 then m else weigh l (m - 1 - (s.size : Int) / 8) 64
theorem weigh64 (l : List Tm) (A : Option Addr) (c : Nat) (left : Int) (w : World) (h : Lst w A l c) (h1 : -4611686018427387904 ≤ left) (h2 : left ≤ 1000000) :
    Calls Try.prog 35 #[.slice A l.length c, .int .i64 left, .int .i64 64] w fun e w' => e = .returned (.int .i64 (weigh l left 64)) ∧ ∃ n, w' = w.drewN n := weigh_at 64 l A c left w h (Nat.le_refl _) h1 h2
theorem weighN_hi (s : ByteArray) (l : List Tm) (m : Int) : weighN s l m ≤ m ∨ weighN s l m = -1 := by
  unfold weighN
  split
  · omega
  · unfold weigh
    split
    · omega
    · have := weighL_hi l (m - 1 - (s.size : Int) / 8) 64 (by omega)
      omega
theorem weighN_size {s : ByteArray} {l : List Tm} {m : Int} (h : 0 ≤ weighN s l m) : (nodesL l : Int) ≤ m := by
  unfold weighN at h
  split at h
  · omega
  · have := weigh_nodes h
    omega

set_option maxHeartbeats 1000000 in
theorem great_atoms_at (t u : Am) (W : World) (b : Nat) (hb : b = W.heap.size) (ht : t.At W) (hu : u.At W) {r : Bool} (hr : decide (weighN u.name u.args (weighN t.name t.args 600) < 0) = r) :
    Calls Try.prog 42 #[.slice (some ⟨b, 0, none⟩) 2 2, .int .i64 600] (W.alloc (.cells #[.string t.name, .slice t.at_ t.args.length t.cap, .string u.name, .slice u.at_ u.args.length u.cap] 85)) fun e w' => e = .returned (.bool r) ∧ Below W.heap.size W w' := by
  subst hb
  have h1 := ht.2
  have h2 := hu.2
  have y1 := ht.1
  have y2 := hu.1
  obtain ⟨s1, A1, c1, l1⟩ := t
  obtain ⟨s2, A2, c2, l2⟩ := u
  simp only at h1 h2 y1 y2 hr
  have z1 : s1.size ≤ 9223372036854775807 := by unfold maxLen at y1; exact y1
  have z2 : s2.size ≤ 9223372036854775807 := by unfold maxLen at y2; exact y2
  have m1 := weighN_hi s1 l1 600
  have m2 := weighN_hi s2 l2 (weighN s1 l1 600)
  have HR := Lib.hid hr
  have Q1 := Lib.hid (fun W' (h : Below W.heap.size W W') => weigh64 l1 A1 c1 (600 - 1 - (s1.size : Int) / 8) W' (h1.below h) (by omega) (by omega))
  have Q2 := Lib.hid (fun W' (m : Int) (h : Below W.heap.size W W') (g : 0 ≤ m) (g' : m ≤ 600) => weigh64 l2 A2 c2 (m - 1 - (s2.size : Int) / 8) W' (h2.below h) (by omega) (by omega))
  have w1 := Lib.hid (show weighN s1 l1 600 = weigh l1 (600 - 1 - (s1.size : Int) / 8) 64 by unfold weighN; rw [if_neg (by omega)])
  have w2 := Lib.hid (fun (h : 0 ≤ weighN s1 l1 600) => (show weighN s2 l2 (weighN s1 l1 600) = weigh l2 (weighN s1 l1 600 - 1 - (s2.size : Int) / 8) 64 by unfold weighN; rw [if_neg (by unfold weighN at h; omega)]))
  have w3 := Lib.hid (fun (h : weighN s1 l1 600 < 0) => (show weighN s2 l2 (weighN s1 l1 600) = weighN s1 l1 600 by rw [show weighN s2 l2 (weighN s1 l1 600) = if weighN s1 l1 600 < 0 then weighN s1 l1 600 else weigh l2 (weighN s1 l1 600 - 1 - (s2.size : Int) / 8) 64 from rfl, if_pos h]))
  have k0 : (W.alloc (.cells #[.string s1, .slice A1 l1.length c1, .string s2, .slice A2 l2.length c2] 85)).cell? ⟨W.heap.size, 0, none⟩ = some (.string s1) := by rw [World.cell?_alloc_at _ _ _ _ rfl]; rfl
  have k1 : (W.alloc (.cells #[.string s1, .slice A1 l1.length c1, .string s2, .slice A2 l2.length c2] 85)).cell? ⟨W.heap.size, 1, none⟩ = some (.slice A1 l1.length c1) := by rw [World.cell?_alloc_at _ _ _ _ rfl]; rfl
  have k2 : (W.alloc (.cells #[.string s1, .slice A1 l1.length c1, .string s2, .slice A2 l2.length c2] 85)).cell? ⟨W.heap.size, 2, none⟩ = some (.string s2) := by rw [World.cell?_alloc_at _ _ _ _ rfl]; rfl
  have k3 : (W.alloc (.cells #[.string s1, .slice A1 l1.length c1, .string s2, .slice A2 l2.length c2] 85)).cell? ⟨W.heap.size, 3, none⟩ = some (.slice A2 l2.length c2) := by rw [World.cell?_alloc_at _ _ _ _ rfl]; rfl
  obtain ⟨X, hX⟩ : ∃ X, (W.alloc (.cells #[.string s1, .slice A1 l1.length c1, .string s2, .slice A2 l2.length c2] 85)) = X := ⟨_, rfl⟩
  have hWX : Below W.heap.size W X := by rw [← hX]; exact below1 _ _
  show Calls _ _ #[.slice (some ⟨W.heap.size, 0, none⟩) 2 2, .int .i64 600] (W.alloc (.cells #[.string s1, .slice A1 l1.length c1, .string s2, .slice A2 l2.length c2] 85)) _
  rw [hX]
  rw [hX] at k0
  rw [hX] at k1
  rw [hX] at k2
  rw [hX] at k3
  generalize weighN s2 l2 (weighN s1 l1 600) = v2 at *
  generalize weighN s1 l1 600 = v1 at *
  clear hX hr y1 y2 h1 h2 ht hu
  go_enter Try.func42, Try.ntmps42
  go_wp2_with fail
  go_loopw [1, 5] (fun z i wr => ((i = .int .i64 0 ∧ z = .int .i64 600) ∨ (i = .int .i64 1 ∧ z = .int .i64 v1) ∨ (i = .int .i64 2 ∧ z = .int .i64 v2)) ∧ Hid (∃ n, wr = X.drewN n)) (fun _ i _ => 2 - (intOf i).toNat)
  case atStart => exact ⟨.inl ⟨rfl, rfl⟩, Lib.hid ⟨0, rfl⟩⟩
  case round =>
    obtain ⟨hc, hn⟩ := hrel
    have hxr : Below X.heap.size X wr := by obtain ⟨n, rfl⟩ := hn.out; exact below_drewN (Below.refl _ _) n
    have hb := hWX.trans (hxr.mono hWX.size)
    replace k0 := (hxr.cell (block_lt_of_cell k0)).trans k0
    replace k1 := (hxr.cell (block_lt_of_cell k1)).trans k1
    replace k2 := (hxr.cell (block_lt_of_cell k2)).trans k2
    replace k3 := (hxr.cell (block_lt_of_cell k3)).trans k3
    rcases hc with ⟨rfl, rfl⟩ | ⟨rfl, rfl⟩ | ⟨rfl, rfl⟩
    · have P1 := Lib.hid (fun n => Q1.out (wr.drewN n) (below_drewN hb n))
      rw [← w1.out] at P1
      clear Q1 Q2 w1 w2 w3
      go_wp2_with fail
      go_quiet ((go_at_call 35; exact Calls.quiet_of (P1.out _)))
      go_wp2_with fail
      go_roundw
      case rel => exact ⟨.inr (.inl ⟨rfl, rfl⟩), by obtain ⟨n, hn⟩ := hn.out; exact Lib.hid ⟨n + nq, by rw [hn, World.drewN_drewN]⟩⟩
      case measure => simp [intOf]
    · by_cases g : 0 ≤ v1
      · have P1 := Lib.hid (fun n => Q2.out (wr.drewN n) v1 (below_drewN hb n) g (by omega))
        rw [← w2.out g] at P1
        clear Q1 Q2 w1 w2 w3
        go_wp2_with fail
        go_quiet ((go_at_call 35; exact Calls.quiet_of (P1.out _)))
        go_wp2_with fail
        go_roundw
        case rel => exact ⟨.inr (.inr ⟨rfl, rfl⟩), by obtain ⟨n, hn⟩ := hn.out; exact Lib.hid ⟨n + nq, by rw [hn, World.drewN_drewN]⟩⟩
        case measure => simp [intOf]
      · have g' : v1 < 0 := by omega
        obtain rfl := w3.out g'
        clear Q1 Q2 w1 w2 w3
        go_wp2_with fail
        go_ret
        exact ⟨by rw [← HR.out, decide_eq_true g']; rfl, hb⟩
    · clear Q1 Q2 w1 w2 w3
      go_wp2_with fail
      go_ret
      exact ⟨by rw [← HR.out]; rfl, hb⟩

set_option maxHeartbeats 1000000 in
theorem great_goals_at (t u : Gl) (W : World) (b : Nat) (hb : b = W.heap.size) (ht : t.At W) (hu : u.At W) {r : Bool} (hr : decide (weighN u.name u.args (weighN t.name t.args 600) < 0) = r) :
    Calls Try.prog 43 #[.slice (some ⟨b, 0, none⟩) 2 2, .int .i64 600] (W.alloc (.cells #[.int .i64 t.op, .string t.name, .slice t.at_ t.args.length t.cap, .int .i64 u.op, .string u.name, .slice u.at_ u.args.length u.cap] 87)) fun e w' => e = .returned (.bool r) ∧ Below W.heap.size W w' := by
  subst hb
  have h1 := ht.2.2
  have h2 := hu.2.2
  have y1 := ht.2.1
  have y2 := hu.2.1
  obtain ⟨o1, s1, A1, c1, l1⟩ := t
  obtain ⟨o2, s2, A2, c2, l2⟩ := u
  simp only at h1 h2 y1 y2 hr
  have z1 : s1.size ≤ 9223372036854775807 := by unfold maxLen at y1; exact y1
  have z2 : s2.size ≤ 9223372036854775807 := by unfold maxLen at y2; exact y2
  have m1 := weighN_hi s1 l1 600
  have m2 := weighN_hi s2 l2 (weighN s1 l1 600)
  have HR := Lib.hid hr
  have Q1 := Lib.hid (fun W' (h : Below W.heap.size W W') => weigh64 l1 A1 c1 (600 - 1 - (s1.size : Int) / 8) W' (h1.below h) (by omega) (by omega))
  have Q2 := Lib.hid (fun W' (m : Int) (h : Below W.heap.size W W') (g : 0 ≤ m) (g' : m ≤ 600) => weigh64 l2 A2 c2 (m - 1 - (s2.size : Int) / 8) W' (h2.below h) (by omega) (by omega))
  have w1 := Lib.hid (show weighN s1 l1 600 = weigh l1 (600 - 1 - (s1.size : Int) / 8) 64 by unfold weighN; rw [if_neg (by omega)])
  have w2 := Lib.hid (fun (h : 0 ≤ weighN s1 l1 600) => (show weighN s2 l2 (weighN s1 l1 600) = weigh l2 (weighN s1 l1 600 - 1 - (s2.size : Int) / 8) 64 by unfold weighN; rw [if_neg (by unfold weighN at h; omega)]))
  have w3 := Lib.hid (fun (h : weighN s1 l1 600 < 0) => (show weighN s2 l2 (weighN s1 l1 600) = weighN s1 l1 600 by rw [show weighN s2 l2 (weighN s1 l1 600) = if weighN s1 l1 600 < 0 then weighN s1 l1 600 else weigh l2 (weighN s1 l1 600 - 1 - (s2.size : Int) / 8) 64 from rfl, if_pos h]))
  have k0 : (W.alloc (.cells #[.int .i64 o1, .string s1, .slice A1 l1.length c1, .int .i64 o2, .string s2, .slice A2 l2.length c2] 87)).cell? ⟨W.heap.size, 0, none⟩ = some (.int .i64 o1) := by rw [World.cell?_alloc_at _ _ _ _ rfl]; rfl
  have k1 : (W.alloc (.cells #[.int .i64 o1, .string s1, .slice A1 l1.length c1, .int .i64 o2, .string s2, .slice A2 l2.length c2] 87)).cell? ⟨W.heap.size, 1, none⟩ = some (.string s1) := by rw [World.cell?_alloc_at _ _ _ _ rfl]; rfl
  have k2 : (W.alloc (.cells #[.int .i64 o1, .string s1, .slice A1 l1.length c1, .int .i64 o2, .string s2, .slice A2 l2.length c2] 87)).cell? ⟨W.heap.size, 2, none⟩ = some (.slice A1 l1.length c1) := by rw [World.cell?_alloc_at _ _ _ _ rfl]; rfl
  have k3 : (W.alloc (.cells #[.int .i64 o1, .string s1, .slice A1 l1.length c1, .int .i64 o2, .string s2, .slice A2 l2.length c2] 87)).cell? ⟨W.heap.size, 3, none⟩ = some (.int .i64 o2) := by rw [World.cell?_alloc_at _ _ _ _ rfl]; rfl
  have k4 : (W.alloc (.cells #[.int .i64 o1, .string s1, .slice A1 l1.length c1, .int .i64 o2, .string s2, .slice A2 l2.length c2] 87)).cell? ⟨W.heap.size, 4, none⟩ = some (.string s2) := by rw [World.cell?_alloc_at _ _ _ _ rfl]; rfl
  have k5 : (W.alloc (.cells #[.int .i64 o1, .string s1, .slice A1 l1.length c1, .int .i64 o2, .string s2, .slice A2 l2.length c2] 87)).cell? ⟨W.heap.size, 5, none⟩ = some (.slice A2 l2.length c2) := by rw [World.cell?_alloc_at _ _ _ _ rfl]; rfl
  obtain ⟨X, hX⟩ : ∃ X, (W.alloc (.cells #[.int .i64 o1, .string s1, .slice A1 l1.length c1, .int .i64 o2, .string s2, .slice A2 l2.length c2] 87)) = X := ⟨_, rfl⟩
  have hWX : Below W.heap.size W X := by rw [← hX]; exact below1 _ _
  show Calls _ _ #[.slice (some ⟨W.heap.size, 0, none⟩) 2 2, .int .i64 600] (W.alloc (.cells #[.int .i64 o1, .string s1, .slice A1 l1.length c1, .int .i64 o2, .string s2, .slice A2 l2.length c2] 87)) _
  rw [hX]
  rw [hX] at k0
  rw [hX] at k1
  rw [hX] at k2
  rw [hX] at k3
  rw [hX] at k4
  rw [hX] at k5
  generalize weighN s2 l2 (weighN s1 l1 600) = v2 at *
  generalize weighN s1 l1 600 = v1 at *
  clear hX hr y1 y2 h1 h2 ht hu
  go_enter Try.func43, Try.ntmps43
  go_wp2_with fail
  go_loopw [1, 5] (fun z i wr => ((i = .int .i64 0 ∧ z = .int .i64 600) ∨ (i = .int .i64 1 ∧ z = .int .i64 v1) ∨ (i = .int .i64 2 ∧ z = .int .i64 v2)) ∧ Hid (∃ n, wr = X.drewN n)) (fun _ i _ => 2 - (intOf i).toNat)
  case atStart => exact ⟨.inl ⟨rfl, rfl⟩, Lib.hid ⟨0, rfl⟩⟩
  case round =>
    obtain ⟨hc, hn⟩ := hrel
    have hxr : Below X.heap.size X wr := by obtain ⟨n, rfl⟩ := hn.out; exact below_drewN (Below.refl _ _) n
    have hb := hWX.trans (hxr.mono hWX.size)
    replace k0 := (hxr.cell (block_lt_of_cell k0)).trans k0
    replace k1 := (hxr.cell (block_lt_of_cell k1)).trans k1
    replace k2 := (hxr.cell (block_lt_of_cell k2)).trans k2
    replace k3 := (hxr.cell (block_lt_of_cell k3)).trans k3
    replace k4 := (hxr.cell (block_lt_of_cell k4)).trans k4
    replace k5 := (hxr.cell (block_lt_of_cell k5)).trans k5
    rcases hc with ⟨rfl, rfl⟩ | ⟨rfl, rfl⟩ | ⟨rfl, rfl⟩
    · have P1 := Lib.hid (fun n => Q1.out (wr.drewN n) (below_drewN hb n))
      rw [← w1.out] at P1
      clear Q1 Q2 w1 w2 w3
      go_wp2_with fail
      go_quiet ((go_at_call 35; exact Calls.quiet_of (P1.out _)))
      go_wp2_with fail
      go_roundw
      case rel => exact ⟨.inr (.inl ⟨rfl, rfl⟩), by obtain ⟨n, hn⟩ := hn.out; exact Lib.hid ⟨n + nq, by rw [hn, World.drewN_drewN]⟩⟩
      case measure => simp [intOf]
    · by_cases g : 0 ≤ v1
      · have P1 := Lib.hid (fun n => Q2.out (wr.drewN n) v1 (below_drewN hb n) g (by omega))
        rw [← w2.out g] at P1
        clear Q1 Q2 w1 w2 w3
        go_wp2_with fail
        go_quiet ((go_at_call 35; exact Calls.quiet_of (P1.out _)))
        go_wp2_with fail
        go_roundw
        case rel => exact ⟨.inr (.inr ⟨rfl, rfl⟩), by obtain ⟨n, hn⟩ := hn.out; exact Lib.hid ⟨n + nq, by rw [hn, World.drewN_drewN]⟩⟩
        case measure => simp [intOf]
      · have g' : v1 < 0 := by omega
        obtain rfl := w3.out g'
        clear Q1 Q2 w1 w2 w3
        go_wp2_with fail
        go_ret
        exact ⟨by rw [← HR.out, decide_eq_true g']; rfl, hb⟩
    · clear Q1 Q2 w1 w2 w3
      go_wp2_with fail
      go_ret
      exact ⟨by rw [← HR.out]; rfl, hb⟩
end Go.Proofs.Ytpnjjahimhhjkaa
namespace Go.Proofs.Ytpnjjahimhhjkaa
open Go.ChangeShapes Go.WideShapes Go.ChangeAt Go.RowKit

theorem cmpA_self (a : Am) : cmpA a a = 0 := by simp [cmpA, texts_self, ints_self, cmp_self.2, lex]
theorem sameG_self (g : Gl) : sameG g g = true := by simp [sameG, cmp_self.2]
theorem not_great2 {s s' : ByteArray} {l l' : List Tm} (h : decide (weighN s' l' (weighN s l 600) < 0) = false) : sizeL l ≤ 1000000 ∧ sizeL l' ≤ 1000000 := by
  have h0 : 0 ≤ weighN s' l' (weighN s l 600) := by simpa using h
  have h1 : 0 ≤ weighN s l 600 := by
    rcases Int.lt_or_le (weighN s l 600) 0 with h' | h'
    · rw [show weighN s' l' (weighN s l 600) = weighN s l 600 by rw [weighN, if_pos h']] at h0
      omega
    · exact h'
  have e1 := weighN_size h1
  have e0 := weighN_size h0
  have e2 := weighN_hi s l 600
  have f1 := size_nodes.2 l
  have f2 := size_nodes.2 l'
  omega
theorem same_ints_same (B1 B2 : Option Addr) (xs : List Int) (c1 c2 : Nat) (W : World) (h1 : Ints W B1 xs) (h2 : Ints W B2 xs) (hl : xs.length ≤ 9223372036854775807) :
    Calls Try.prog 22 #[.slice B1 xs.length c1, .slice B2 xs.length c2] W fun e w' => e = .returned (.bool true) ∧ Below W.heap.size W w' :=
  same_ints_at B1 B2 xs xs c1 c2 W h1 h2 hl hl (r := true) (by simp)
theorem box2 {w w' : World} {v0 v1 u0 u1 : Value} {T : TypeId} (hb : Below ((w.alloc (.cells #[v0, v1] T)).alloc (.cells #[u0, u1] T)).heap.size ((w.alloc (.cells #[v0, v1] T)).alloc (.cells #[u0, u1] T)) w') :
    (w'.cell? ⟨w.heap.size, 0, none⟩ = some v0 ∧ w'.cell? ⟨w.heap.size, 1, none⟩ = some v1) ∧ (w'.cell? ⟨w.heap.size + 1, 0, none⟩ = some u0 ∧ w'.cell? ⟨w.heap.size + 1, 1, none⟩ = some u1) ∧ Below w.heap.size w w' := by
  have hz : (w.alloc (.cells #[v0, v1] T)).heap.size = w.heap.size + 1 := by simp
  have h : ∀ j, w'.cell? ⟨w.heap.size, j, none⟩ = (#[v0, v1] : Array Value)[j]? := fun j => by
    rw [hb.cell (p := ⟨w.heap.size, j, none⟩) (by simp; omega), World.cell?_alloc_lt _ _ _ (by simp), World.cell?_alloc_at _ _ _ _ rfl]
  have g : ∀ j, w'.cell? ⟨w.heap.size + 1, j, none⟩ = (#[u0, u1] : Array Value)[j]? := fun j => by
    rw [hb.cell (p := ⟨w.heap.size + 1, j, none⟩) (by simp), ← hz, World.cell?_alloc_at _ _ _ _ rfl]
  exact ⟨⟨h 0, h 1⟩, ⟨g 0, g 1⟩, (below2 _ _ _).trans (hb.mono (by simp; omega))⟩
theorem box3 {w w' : World} {v0 v1 v2 u0 u1 u2 : Value} {T : TypeId} (hb : Below ((w.alloc (.cells #[v0, v1, v2] T)).alloc (.cells #[u0, u1, u2] T)).heap.size ((w.alloc (.cells #[v0, v1, v2] T)).alloc (.cells #[u0, u1, u2] T)) w') :
    (w'.cell? ⟨w.heap.size, 0, none⟩ = some v0 ∧ w'.cell? ⟨w.heap.size, 1, none⟩ = some v1 ∧ w'.cell? ⟨w.heap.size, 2, none⟩ = some v2) ∧ (w'.cell? ⟨w.heap.size + 1, 0, none⟩ = some u0 ∧ w'.cell? ⟨w.heap.size + 1, 1, none⟩ = some u1 ∧ w'.cell? ⟨w.heap.size + 1, 2, none⟩ = some u2) ∧ Below w.heap.size w w' := by
  have hz : (w.alloc (.cells #[v0, v1, v2] T)).heap.size = w.heap.size + 1 := by simp
  have h : ∀ j, w'.cell? ⟨w.heap.size, j, none⟩ = (#[v0, v1, v2] : Array Value)[j]? := fun j => by
    rw [hb.cell (p := ⟨w.heap.size, j, none⟩) (by simp; omega), World.cell?_alloc_lt _ _ _ (by simp), World.cell?_alloc_at _ _ _ _ rfl]
  have g : ∀ j, w'.cell? ⟨w.heap.size + 1, j, none⟩ = (#[u0, u1, u2] : Array Value)[j]? := fun j => by
    rw [hb.cell (p := ⟨w.heap.size + 1, j, none⟩) (by simp), ← hz, World.cell?_alloc_at _ _ _ _ rfl]
  exact ⟨⟨h 0, h 1, h 2⟩, ⟨g 0, g 1, g 2⟩, (below2 _ _ _).trans (hb.mono (by simp; omega))⟩
end Go.Proofs.Ytpnjjahimhhjkaa
