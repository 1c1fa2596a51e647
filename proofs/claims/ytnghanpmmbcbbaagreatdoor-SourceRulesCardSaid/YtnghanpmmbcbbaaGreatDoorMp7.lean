/-
  TmCon.
  SuMath.
  SuVarIn.
  SuCopy.
  SuApply.
  MaPlain.
  MaInst.
  VaPlain.
  VaNumber.
  VaRen.
  VaProg.
  SuSort.
  SuRow.
  VgAm.
  VpAm.
-/
import Derived.Test.YtnghanpmmbcbbaaGreatDoorMp6
import Derived.Test.YtnghanpmmbcbbaaGreatDoorMp4
import Derived.Deep.RegionLaw
import Derived.Test.YtnghanpmmbcbbaaGreatDoorMp2
import Derived.Test.YtnghanpmmbcbbaaGreatDoorMp5
import Derived.Test.YtnghanpmmbcbbaaGreatDoorMp1
import Derived.Deep.AppendLies
namespace Go.Proofs.YtnghanpmmbcbbaaGreatDoor
open Go.ChangeShapes Go.WideShapes Go.ChangeAt Go.RowKit
set_option linter.unusedVariables false
def cmpA (a b : Am) : Int := lex (texts a.name.data.toList b.name.data.toList) (lex (ints a.args.length b.args.length) (cmpL a.args b.args))
def sameG (g h : Gl) : Bool := decide (g.op = h.op) && (decide (g.name = h.name) && (cmpL g.args h.args == 0))
set_option maxHeartbeats 1000000 in
theorem ref_compare_atom_at (t u : Am) (w : World) (ht : t.At w) (hu : u.At w) {r : Int} (hr : cmpA t u = r) :
    Calls Tryz.prog 123 #[t.val, u.val] w fun e w' => e = .returned (.int .i64 r) ∧ Below w.heap.size w w' := by
  have hl := ht.2
  have hm := hu.2
  obtain ⟨s, A, c, a⟩ := t
  obtain ⟨s', A', c', a'⟩ := u
  simp only [cmpA] at hr hl hm
  show Calls Tryz.prog 123 #[.agg #[.string s, .slice A a.length c], .agg #[.string s', .slice A' a'.length c']] w _
  have hlen : a.length ≤ 9223372036854775807 := hl.len
  have hlen' : a'.length ≤ 9223372036854775807 := hm.len
  obtain ⟨z1, h1⟩ : ∃ z, ints a.length a'.length = z := ⟨_, rfl⟩
  obtain ⟨z2, h2⟩ : ∃ z, texts s.data.toList s'.data.toList = z := ⟨_, rfl⟩
  have q1 := Lib.hid (fun W => ref_ints_at (a.length : Int) (a'.length : Int) W h1)
  have q2 := Lib.hid (fun W => ref_texts_at s s' W h2)
  have q3 := Lib.hid (fun W (h : Below w.heap.size w W) => ref_lists_at a a' (fun x _ => ref_compare_at x) A A' c c' W (hl.below h) (hm.below h))
  obtain ⟨z3, h3⟩ : ∃ z, cmpL a a' = z := ⟨_, rfl⟩
  rw [h3] at q3
  rw [h1, h2, h3] at hr
  clear h1 h2 h3 hl hm ht hu
  by_cases e2 : z2 = 0
  · subst e2
    rw [lex_zero] at hr
    by_cases e1 : z1 = 0
    · subst e1
      rw [lex_zero] at hr
      subst hr
      go_enter Tryz.func123, Tryz.ntmps123
      go_wp2_with fail
      refine (q2.out _).mono ?_
      rintro e w' ⟨rfl, rfl⟩
      go_wp2_with fail
      refine (q1.out _).mono ?_
      rintro e w' ⟨rfl, rfl⟩
      go_wp2_with fail
      refine (q3.out _ (below2 _ _ _)).mono ?_
      rintro e w' ⟨rfl, hb⟩
      go_wp2_with fail
      go_ret
      exact ⟨rfl, (below2 _ _ _).trans (hb.mono (by simp; omega))⟩
    · rw [lex_ne e1] at hr
      subst hr
      have e1' : (z1 != 0) = true := by simpa using e1
      have e1'' : (z1 == 0) = false := by simpa using e1
      go_enter Tryz.func123, Tryz.ntmps123
      go_wp2_with fail
      refine (q2.out _).mono ?_
      rintro e w' ⟨rfl, rfl⟩
      go_wp2_with fail
      refine (q1.out _).mono ?_
      rintro e w' ⟨rfl, rfl⟩
      go_wp2_with fail
      go_ret
      exact ⟨rfl, below2 _ _ _⟩
  · rw [lex_ne e2] at hr
    subst hr
    have e2' : (z2 != 0) = true := by simpa using e2
    have e2'' : (z2 == 0) = false := by simpa using e2
    go_enter Tryz.func123, Tryz.ntmps123
    go_wp2_with fail
    refine (q2.out _).mono ?_
    rintro e w' ⟨rfl, rfl⟩
    go_wp2_with fail
    go_ret
    exact ⟨rfl, below2 _ _ _⟩
theorem ref_same_atom_at (t u : Am) (w : World) (ht : t.At w) (hu : u.At w) {r : Bool} (hr : (cmpA t u == 0) = r) :
    Calls Tryz.prog 80 #[t.val, u.val] w fun e w' => e = .returned (.bool r) ∧ Below w.heap.size w w' := by
  have Q := Lib.hid (fun W (h : Below w.heap.size w W) => ref_compare_atom_at t u W (ht.below h) (hu.below h) rfl)
  generalize cmpA t u = z at *
  obtain ⟨s, A, c, a⟩ := t
  obtain ⟨s', A', c', a'⟩ := u
  show Calls Tryz.prog 80 #[.agg #[.string s, .slice A a.length c], .agg #[.string s', .slice A' a'.length c']] w _
  have HR := Lib.hid hr
  clear hr ht hu
  go_enter Tryz.func80, Tryz.ntmps80
  go_wp2_with fail
  refine (Q.out _ (below2 _ _ _)).mono ?_
  rintro e w1 ⟨rfl, hb⟩
  go_wp2_with fail
  go_ret
  exact ⟨by rw [← HR.out]; rfl, (below2 _ _ _).trans (hb.mono (by simp; omega))⟩
theorem same_ne {l m : List Tm} (h : l.length ≠ m.length) : (cmpL l m == 0) = false := by
  induction l generalizing m with
  | nil => cases m with
    | nil => simp at h
    | cons y q => rfl
  | cons x r ih => cases m with
    | nil => rfl
    | cons y q =>
      have := ih (m := q) (by simpa using h)
      simp only [cmpL, lex]
      split
      · exact this
      · simpa using ‹¬ _›
set_option maxHeartbeats 1000000 in
theorem ref_same_goal_at (t u : Gl) (w : World) (ht : t.At w) (hu : u.At w) {r : Bool} (hr : sameG t u = r) :
    Calls Tryz.prog 66 #[t.val, u.val] w fun e w' => e = .returned (.bool r) ∧ Below w.heap.size w w' := by
  have hl := ht.2.2
  have hm := hu.2.2
  obtain ⟨op, s, A, c, a⟩ := t
  obtain ⟨op', s', A', c', a'⟩ := u
  simp only [sameG] at hr hl hm
  show Calls Tryz.prog 66 #[.agg #[.int .i64 op, .string s, .slice A a.length c], .agg #[.int .i64 op', .string s', .slice A' a'.length c']] w _
  have hlen : a.length ≤ 9223372036854775807 := hl.len
  have hlen' : a'.length ≤ 9223372036854775807 := hm.len
  obtain ⟨b3, h3⟩ : ∃ z, (cmpL a a' == 0) = z := ⟨_, rfl⟩
  have q3 := Lib.hid (fun W (h : Below w.heap.size w W) => same_terms_at a a' A A' c c' W (hl.below h) (hm.below h) h3)
  have HN := Lib.hid (fun h : a.length ≠ a'.length => (h3.symm.trans (same_ne h) : b3 = false))
  rw [h3] at hr
  clear h3 hl hm ht hu
  by_cases e1 : op = op'
  · subst e1
    by_cases e2 : s = s'
    · subst e2
      obtain rfl : b3 = r := by simpa using hr
      clear hr
      by_cases e3 : a.length = a'.length
      · have e3' : ((a.length : Int) == (a'.length : Int)) = true := by simp; omega
        clear e3
        go_enter Tryz.func66, Tryz.ntmps66
        go_wp2_with fail
        refine (q3.out _ (below2 _ _ _)).mono ?_
        rintro e w' ⟨rfl, hb⟩
        go_wp2_with fail
        go_ret
        exact ⟨rfl, (below2 _ _ _).trans (hb.mono (by simp; omega))⟩
      · have e3' : ((a.length : Int) == (a'.length : Int)) = false := by simp; omega
        obtain rfl := HN.out e3
        clear e3 HN
        go_enter Tryz.func66, Tryz.ntmps66
        go_wp2_with fail
        go_ret
        exact ⟨rfl, below2 _ _ _⟩
    · have e2' : (s.toList == s'.toList) = false := by
        rw [ByteArray.toList_eq, ByteArray.toList_eq]
        exact beq_eq_false_iff_ne.2 (fun h => e2 (bytes_inj h))
      have e2'' : decide (s = s') = false := by simpa using e2
      have HR := Lib.hid (show false = r by rw [← hr]; simp [e2])
      clear hr e2
      go_enter Tryz.func66, Tryz.ntmps66
      go_wp2_with fail
      go_ret
      exact ⟨by rw [← HR.out]; rfl, below2 _ _ _⟩
  · have e1' : (op == op') = false := by simpa using e1
    have HR := Lib.hid (show false = r by rw [← hr]; simp [e1])
    clear hr e1
    go_enter Tryz.func66, Tryz.ntmps66
    go_wp2_with fail
    go_ret
    exact ⟨by rw [← HR.out]; rfl, below2 _ _ _⟩
end Go.Proofs.YtnghanpmmbcbbaaGreatDoor
namespace Go.Proofs.YtnghanpmmbcbbaaGreatDoor
open Go
theorem lexz_iff {x y : Int} : lex x y = 0 ↔ x = 0 ∧ y = 0 := by
  unfold lex
  split
  · rename_i h; simp [h]
  · rename_i h; simp [h]
theorem ints_zero {a b : Int} : ints a b = 0 ↔ a = b := by
  unfold ints
  split
  · simp; omega
  · split
    · simp; omega
    · simp; omega
theorem cmp_trans {t u v : Tm} (h1 : cmpT t u = 0) (h2 : cmpT u v = 0) : cmpT t v = 0 := by rw [cmpT_congr (t := v) (u := u) (by rw [cmpT_flip, h2]; rfl), h1]
theorem cmp_symm {t u : Tm} (h : cmpT t u = 0) : cmpT u t = 0 := by rw [cmpT_flip, h]; rfl
theorem cmp_kind {t u : Tm} (h : cmpT t u = 0) : cls t.kind = cls u.kind := by
  obtain ⟨k, n, s, A, c, a⟩ := t
  simp only [cmpT, lexz_iff] at h
  exact cls_eq h.1
theorem cls_one {k : Int} : cls k = 0 ↔ k = 1 := by
  unfold cls; split
  · simp [*]
  · rename_i h; split <;> (try split) <;> simp [h]
theorem cls_two {k : Int} : cls k = 2 ↔ k = 2 := by
  unfold cls; split
  · rename_i h; simp [h]
  · split
    · rename_i h; simp [h]
    · split
      · rename_i h; simp [h]
      · rename_i h; simp [h]
theorem cmp_var {t u : Tm} (h : cmpT t u = 0) (hk : t.kind = 1) : u.kind = 1 ∧ u.num = t.num := by
  have h1 := cmp_kind h
  rw [hk] at h1
  have h2 : u.kind = 1 := cls_one.1 (h1.symm.trans (cls_one.2 rfl))
  obtain ⟨k, n, s, A, c, a⟩ := t
  simp only [Tm.kind] at hk
  subst hk
  simp only [cmpT, lexz_iff, true_or, if_true] at h
  exact ⟨h2, (ints_zero.1 h.2).symm⟩
theorem cmp_vars {t u : Tm} (h1 : t.kind = 1) (h2 : u.kind = 1) (h3 : t.num = u.num) : cmpT t u = 0 := by
  obtain ⟨k, n, s, A, c, a⟩ := t
  obtain ⟨k', n', s', A', c', a'⟩ := u
  simp only [Tm.kind, Tm.num] at h1 h2 h3
  subst h1 h2 h3
  simp [cmpT, Tm.kind, Tm.num, ints_self, lex]
theorem cmp_fun (n n' : Int) (s s' : ByteArray) (A A' : Option Addr) (c c' : Nat) (a a' : List Tm) :
    cmpT (.mk 2 n s A c a) (.mk 2 n' s' A' c' a') = 0 ↔ a.length = a'.length ∧ texts s.data.toList s'.data.toList = 0 ∧ cmpL a a' = 0 := by
  simp only [cmpT, Tm.kind, Tm.num, Tm.name, Tm.args]
  rw [if_neg (by omega), if_pos trivial, ints_self, lexz_iff, lexz_iff, lexz_iff, ints_zero]
  simp only [true_and, Int.natCast_inj]
theorem cmpL_len {l m : List Tm} (h : cmpL l m = 0) : l.length = m.length := by
  induction l generalizing m with
  | nil => cases m with
    | nil => rfl
    | cons _ _ => simp [cmpL] at h
  | cons t r ih => cases m with
    | nil => simp [cmpL] at h
    | cons u q =>
      simp only [cmpL, lexz_iff] at h
      simp [ih h.2]
def sameAt (a c : List Bd) (i : Nat) : Bool := decide ((a.getD i default).var = (c.getD i default).var) && (cmpT (a.getD i default).tm (c.getD i default).tm == 0)
def sameUp (a c : List Bd) (j : Nat) : Bool := (List.range j).all (sameAt a c)
def sameB (a c : List Bd) : Bool := decide (a.length = c.length) && sameUp a c a.length
def restr (b : List Bd) (vars : List Int) : List Bd := b.filter fun x => decide (x.var ∈ vars)
end Go.Proofs.YtnghanpmmbcbbaaGreatDoor
namespace Go.Proofs.YtnghanpmmbcbbaaGreatDoor
open Go.RowKit
abbrev zeroT : Tm := .mk 0 0 ⟨#[]⟩ none 0 []
abbrev zeroBox : Obj := .cells #[.int .i64 0, .int .i64 0, .string ⟨#[]⟩, .slice none 0 0] 69
def optT (o : Option Tm) : Tm := o.getD zeroT
theorem set4c {X W : World} {B T : Nat} {v0 v1 v2 v3 : Value} (hb : Below B X W) (hT : B ≤ T) :
    Below B X ((((W.setCell ⟨T, 0, none⟩ v0).setCell ⟨T, 1, none⟩ v1).setCell ⟨T, 2, none⟩ v2).setCell ⟨T, 3, none⟩ v3) :=
  (((hb.setCell (p := ⟨T, 0, none⟩) hT _).setCell (p := ⟨T, 1, none⟩) hT _).setCell (p := ⟨T, 2, none⟩) hT _).setCell (p := ⟨T, 3, none⟩) hT _
def SomeIdx (r : Bool) (w : World) (e : Ending) (w' : World) : Prop := ∃ m : Int, decide (0 ≤ m) = r ∧ e = .returned (.int .i64 m) ∧ Below w.heap.size w w'
def hasB (l : List Bd) (t : Tm) : Bool := t.occ.any fun v => (look l v).isSome
end Go.Proofs.YtnghanpmmbcbbaaGreatDoor
namespace Go.Proofs.YtnghanpmmbcbbaaGreatDoor
open Go.RowKit
def Made (t : Tm) (w : World) (e : Ending) (w' : World) : Prop := ∃ u : Tm, e = .returned u.val ∧ u.strip = t.strip ∧ Lie Any w.heap.size No w' u ∧ Below w.heap.size w w'
def MadeL (l : List Tm) (w : World) (e : Ending) (w' : World) : Prop :=
  ∃ A cap, ∃ cur : List Tm, e = .returned (.slice A l.length cap) ∧ cur.length = l.length ∧ stripL cur = stripL l ∧ (∀ W, Agree w.heap.size No w' W → Lst W A cur cap) ∧ Below w.heap.size w w'
theorem length_le_nodes (l : List Tm) : l.length ≤ nodesL l := by
  induction l with
  | nil => simp [nodesL]
  | cons t r ih =>
    have h : 1 ≤ t.nodes := by cases t; simp [Tm.nodes]
    simp only [nodesL, List.length_cons]; omega
theorem two_boxes (w : World) (v0 v1 v2 v3 u0 u1 u2 u3 : Value) (T : TypeId) :
    Held w.heap.size ((w.alloc (.cells #[v0, v1, v2, v3] T)).alloc (.cells #[u0, u1, u2, u3] T)) v0 v1 v2 v3 ∧ Held (w.heap.size + 1) ((w.alloc (.cells #[v0, v1, v2, v3] T)).alloc (.cells #[u0, u1, u2, u3] T)) u0 u1 u2 u3 := by
  have h := held_new (v0 := u0) (v1 := u1) (v2 := u2) (v3 := u3) (w.alloc (.cells #[v0, v1, v2, v3] T)) T
  rw [World.size_alloc] at h
  exact ⟨(held_new w T).alloc _, h⟩
theorem lie_row {w w' : World} {k n : Int} {s : ByteArray} {A : Option Addr} {cap lo : Nat} {cur : List Tm} (hp : Fits k ∧ Fits n ∧ s.size ≤ maxLen) (h : ∀ W, Agree lo No w' W → Lst W A cur cap) (hlo : w.heap.size ≤ lo) : Lie Any w.heap.size No w' (.mk k n s A cap cur) :=
  fun W _ hW => (At_iff _ _).2 ⟨hp, h W fun b h1 h2 h3 => hW b (by omega) h2 h3⟩
end Go.Proofs.YtnghanpmmbcbbaaGreatDoor
namespace Go.Proofs.YtnghanpmmbcbbaaGreatDoor
open Go.RowKit
def MadeN (n : Nat) (m : List Tm) (w : World) (e : Ending) (w' : World) : Prop :=
  ∃ A cap, ∃ cur : List Tm, e = .returned (.slice A n cap) ∧ cur.length = n ∧ stripL cur = stripL m ∧ (∀ W, Agree w.heap.size No w' W → Lst W A cur cap) ∧ Below w.heap.size w w'
structure Good (b : List Bd) : Prop where
  len : b.length ≤ 1000000
  srt : Srt b
  nodes : ∀ x ∈ b, x.tm.nodes ≤ 1000000
end Go.Proofs.YtnghanpmmbcbbaaGreatDoor
namespace Go.Proofs.YtnghanpmmbcbbaaGreatDoor
open Go
def insE (b : Bd) : List Bd → List Bd
  | [] => [b]
  | x :: l => if b.var < x.var then b :: x :: l else x :: insE b l
def sameE (a b : List Bd) : Prop := a.length = b.length ∧ ∀ k, k < a.length → (a.getD k default).var = (b.getD k default).var ∧ cmpT (a.getD k default).tm (b.getD k default).tm = 0
def sameO : Option Tm → Option Tm → Prop
  | none, none => True
  | some t, some u => cmpT t u = 0
  | _, _ => False
mutual
def matT (e : List Bd) : Tm → Tm → Option (List Bd)
  | .mk k n s A c a, t =>
    if k = 2 then (if t.kind = 2 ∧ s = t.name then matL e a t.args else none)
    else if k = 1 then (match look e n with
      | some u => if cmpT u t = 0 then some e else none
      | none => some (insE ⟨n, t⟩ e))
    else if cmpT (.mk k n s A c a) t = 0 then some e else none
def matL (e : List Bd) : List Tm → List Tm → Option (List Bd)
  | [], [] => some e
  | [], _ :: _ => none
  | _ :: _, [] => none
  | p :: ps, t :: ts => (match matT e p t with
    | some e' => matL e' ps ts
    | none => none)
end
structure Ext8 (e e' : List Bd) (vs : List Int) : Prop where
  keep : ∀ v u, look e v = some u → look e' v = some u
  new : ∀ v u, look e' v = some u → look e v = some u ∨ v ∈ vs
  all : ∀ v ∈ vs, ∃ u, look e' v = some u
  asc : Asc e → Asc e'
theorem Ext8.refl (e : List Bd) : Ext8 e e [] := ⟨fun _ _ h => h, fun _ _ h => .inl h, fun v hv => (by cases hv), fun h => h⟩
end Go.Proofs.YtnghanpmmbcbbaaGreatDoor
namespace Go.Proofs.YtnghanpmmbcbbaaGreatDoor
open Go
theorem texts_eq : ∀ {a b : List UInt8}, texts a b = 0 → a = b := by
  intro a
  induction a with
  | nil =>
    intro b h
    cases b with
    | nil => rfl
    | cons y q => simp [texts, Op.bytesLess] at h
  | cons x r ih =>
    intro b h
    cases b with
    | nil => simp [texts, Op.bytesLess] at h
    | cons y q =>
      rw [texts_cons] at h
      obtain ⟨h1, h2⟩ := lexz_iff.1 h
      have := ints_zero.1 h1
      rw [ih h2, UInt8.toNat_inj.1 (show x.toNat = y.toNat by omega)]
def shiftV (f v : Int) : Int := if -9223372036854775808 ≤ f + v ∧ f + v ≤ 9223372036854775807 then f + v else v
mutual
def Tm.inst (e : List Bd) (f : Int) : Tm → Tm
  | .mk k n s A c a =>
    if k = 2 then .mk 2 0 s none 0 (instL e f a)
    else if k = 1 then (look e n).getD (.mk 1 (shiftV f n) ByteArray.empty none 0 [])
    else if k = 0 then .mk 0 n ByteArray.empty none 0 []
    else .mk k n s A c a
def instL (e : List Bd) (f : Int) : List Tm → List Tm
  | [] => []
  | t :: r => t.inst e f :: instL e f r
end
theorem cmp_ints (n : Int) (s s' : ByteArray) (A A' : Option Addr) (c c' : Nat) (a a' : List Tm) : cmpT (.mk 0 n s A c a) (.mk 0 n s' A' c' a') = 0 := by
  simp [cmpT, Tm.kind, Tm.num, ints_self, lex]
def sameM : Option (List Bd) → Option (List Bd) → Prop
  | none, none => True
  | some a, some b => sameE a b
  | _, _ => False
end Go.Proofs.YtnghanpmmbcbbaaGreatDoor
namespace Go.Proofs.YtnghanpmmbcbbaaGreatDoor
mutual
def Tm.vmap (g : Int → Int) : Tm → Tm
  | .mk k n s _ _ a => if k = 1 then .mk 1 (g n) ByteArray.empty none 0 [] else if k = 2 then .mk 2 0 s none 0 (vmapL g a) else if k = 0 then .mk 0 n ByteArray.empty none 0 [] else .mk k n s none 0 []
def vmapL (g : Int → Int) : List Tm → List Tm
  | [] => []
  | t :: r => t.vmap g :: vmapL g r
end
theorem vmapL_map (g : Int → Int) (l : List Tm) : vmapL g l = l.map (Tm.vmap g) := by
  induction l with
  | nil => simp [vmapL]
  | cons t r ih => simp [vmapL, ih]
theorem vmapL_append (g : Int → Int) (l m : List Tm) : vmapL g (l ++ m) = vmapL g l ++ vmapL g m := by simp [vmapL_map]
theorem vmap_var (g : Int → Int) (n : Int) (s : ByteArray) (A : Option Addr) (c : Nat) (a : List Tm) : (Tm.mk 1 n s A c a).vmap g = .mk 1 (g n) ByteArray.empty none 0 [] := by simp [Tm.vmap]
theorem vmap_fun (g : Int → Int) (n : Int) (s : ByteArray) (A : Option Addr) (c : Nat) (a : List Tm) : (Tm.mk 2 n s A c a).vmap g = .mk 2 0 s none 0 (vmapL g a) := by simp [Tm.vmap]
theorem vmap_int (g : Int → Int) (n : Int) (s : ByteArray) (A : Option Addr) (c : Nat) (a : List Tm) : (Tm.mk 0 n s A c a).vmap g = .mk 0 n ByteArray.empty none 0 [] := by simp [Tm.vmap]
theorem vmap_else (g : Int → Int) {k : Int} (n : Int) (s : ByteArray) (A : Option Addr) (c : Nat) (a : List Tm) (h2 : k ≠ 2) (h1 : k ≠ 1) (h0 : k ≠ 0) : (Tm.mk k n s A c a).vmap g = .mk k n s none 0 [] := by simp [Tm.vmap, h2, h1, h0]
def Tm.canon (t : Tm) : Tm := t.vmap fun n => n
def canonL (l : List Tm) : List Tm := vmapL (fun n => n) l
theorem vmap_vmap (g h : Int → Int) : (∀ t : Tm, (t.vmap g).vmap h = t.vmap fun n => h (g n)) ∧ (∀ l, vmapL h (vmapL g l) = vmapL (fun n => h (g n)) l) := by
  refine Tm.induct2 (fun k n s A c a ih => ?_) (by simp [vmapL]) (fun t r h1 h2 => by simp only [vmapL, h1, h2])
  by_cases h1 : k = 1
  · subst h1; simp only [vmap_var]
  · by_cases h2 : k = 2
    · subst h2; simp only [vmap_fun, ih]
    · by_cases h0 : k = 0
      · subst h0; simp only [vmap_int]
      · rw [vmap_else g n s A c a h2 h1 h0, vmap_else h n s none 0 [] h2 h1 h0, vmap_else _ n s A c a h2 h1 h0]
theorem vmap_occ (g : Int → Int) : (∀ t : Tm, (t.vmap g).occ = t.occ.map g) ∧ (∀ l, occL (vmapL g l) = (occL l).map g) := by
  refine Tm.induct2 (fun k n s A c a ih => ?_) (by simp [vmapL, occL]) (fun t r h1 h2 => by simp only [vmapL, occL, h1, h2, List.map_append])
  by_cases h1 : k = 1
  · subst h1; simp [vmap_var, Tm.occ]
  · by_cases h2 : k = 2
    · subst h2; simp only [vmap_fun, Tm.occ, ih]; simp
    · by_cases h0 : k = 0
      · subst h0; simp [vmap_int, Tm.occ]
      · rw [vmap_else g n s A c a h2 h1 h0]; simp [Tm.occ, h1, h2]
theorem texts_name {s s' : ByteArray} (h : texts s.data.toList s'.data.toList = 0) : s = s' := by
  have h := congrArg List.toArray (texts_eq h)
  simp only [Array.toArray_toList] at h
  exact ByteArray.ext h
theorem cmp_canon : (∀ t : Tm, cmpT t.canon t = 0) ∧ (∀ l, cmpL (canonL l) l = 0) := by
  unfold Tm.canon canonL
  refine Tm.induct2 (fun k n s A c a ih => ?_) (by simp [vmapL, cmpL]) (fun t r h1 h2 => by simp only [vmapL, cmpL, h1, h2]; rfl)
  by_cases h1 : k = 1
  · subst h1; rw [vmap_var]; exact cmp_vars rfl rfl rfl
  · by_cases h2 : k = 2
    · subst h2; rw [vmap_fun]; exact (cmp_fun _ _ _ _ _ _ _ _ _ _).2 ⟨cmpL_len ih, texts_self _, ih⟩
    · by_cases h0 : k = 0
      · subst h0; rw [vmap_int]; exact cmp_ints _ _ _ _ _ _ _ _ _
      · rw [vmap_else _ n s A c a h2 h1 h0]
        simp only [cmpT, Tm.kind, Tm.num, Tm.name]
        rw [if_neg (by rintro (h | h) <;> contradiction), if_neg h2, ints_self, ints_self, ints_self, texts_self]
        rfl
theorem canon_of_cmp : (∀ t u : Tm, cmpT t u = 0 → t.canon = u.canon) ∧ (∀ l m, cmpL l m = 0 → canonL l = canonL m) := by
  unfold Tm.canon canonL
  refine Tm.induct2 (fun k n s A c a ih u h => ?_) (fun m h => ?_) (fun t r h1 h2 m h => ?_)
  · obtain ⟨k', n', s', A', c', a'⟩ := u
    have hc := cmp_kind h
    simp only [Tm.kind] at hc
    by_cases h1 : k = 1
    · subst h1
      obtain ⟨e1, e2⟩ := cmp_var h rfl
      simp only [Tm.kind, Tm.num] at e1 e2
      subst e1 e2
      rw [vmap_var, vmap_var]
    · have h1' : k' ≠ 1 := fun e => by
        subst e
        exact h1 (cls_one.1 (hc.trans (cls_one.2 rfl)))
      by_cases h2 : k = 2
      · subst h2
        have e : k' = 2 := cls_two.1 (hc.symm.trans (cls_two.2 rfl))
        subst e
        obtain ⟨_, e1, e2⟩ := (cmp_fun _ _ _ _ _ _ _ _ _ _).1 h
        rw [vmap_fun, vmap_fun, ih _ e2, texts_name e1]
      · have h2' : k' ≠ 2 := fun e => by
          subst e
          exact h2 (cls_two.1 (hc.trans (cls_two.2 rfl)))
        simp only [cmpT, Tm.kind, Tm.num, Tm.name] at h
        obtain ⟨_, h⟩ := lexz_iff.1 h
        by_cases h0 : k = 0
        · subst h0
          rw [if_pos (.inr rfl)] at h
          have e : k' = 0 := by
            have : cls k' = cls 0 := hc.symm
            unfold cls at this
            revert this
            simp only [h1', h2']
            split <;> simp_all
          subst e
          rw [vmap_int, vmap_int, ints_zero.1 h]
        · rw [if_neg (by rintro (h | h) <;> contradiction), if_neg h2] at h
          obtain ⟨e1, h⟩ := lexz_iff.1 h
          obtain ⟨e2, e3⟩ := lexz_iff.1 h
          have e1 := ints_zero.1 e1
          subst e1
          rw [vmap_else _ n s A c a h2 h1 h0, vmap_else _ n' s' A' c' a' h2 h1 h0, ints_zero.1 e2]
          rw [texts_name e3]
  · cases m with
    | nil => rfl
    | cons _ _ => simp [cmpL] at h
  · cases m with
    | nil => simp [cmpL] at h
    | cons u q =>
      simp only [cmpL] at h
      obtain ⟨e1, e2⟩ := lexz_iff.1 h
      simp only [vmapL, h1 _ e1, h2 _ e2]
end Go.Proofs.YtnghanpmmbcbbaaGreatDoor
namespace Go.Proofs.YtnghanpmmbcbbaaGreatDoor
def place (vs : List Int) (n : Int) : Int := (vs.idxOf n : Nat)
def numL (l : List Tm) : List Tm := vmapL (place (addAll [] (occL l))) l
theorem addAll_cons (l xs : List Int) (x : Int) : addAll l (x :: xs) = addAll (addV l x) xs := rfl
theorem addV_nodup {l : List Int} {x : Int} (h : l.Nodup) : (addV l x).Nodup := by
  unfold addV
  split
  · exact h
  · rename_i hx
    refine List.nodup_append.2 ⟨h, by simp, ?_⟩
    intro a ha b hb e
    simp only [List.mem_singleton] at hb
    subst e hb
    exact hx ha
theorem addAll_nodup : ∀ (xs l : List Int), l.Nodup → (addAll l xs).Nodup
  | [], _, h => h
  | _ :: xs, _, h => addAll_nodup xs _ (addV_nodup h)
def upto (n : Nat) : List Int := (List.range n).map fun (i : Nat) => (i : Int)
theorem mem_occ_vars (l : List Tm) (v : Int) : v ∈ addAll [] (occL l) ↔ v ∈ occL l := by simp [mem_addAll]
theorem cmpL_canon {l m : List Tm} : cmpL l m = 0 ↔ canonL l = canonL m :=
  ⟨canon_of_cmp.2 l m, fun h => by
    have h1 := cmp_canon.2 l
    have h2 := cmp_canon.2 m
    rw [h] at h1
    have := (cmp_fun 0 0 ByteArray.empty ByteArray.empty none none 0 0 (canonL m) l).2 ⟨cmpL_len h1, texts_self _, h1⟩
    have h3 := (cmp_fun 0 0 ByteArray.empty ByteArray.empty none none 0 0 (canonL m) m).2 ⟨cmpL_len h2, texts_self _, h2⟩
    exact ((cmp_fun _ _ _ _ _ _ _ _ _ _).1 (cmp_trans (cmp_symm this) h3)).2.2⟩
def variantB (a b : List Tm) : Bool := decide (a.length = b.length) && (cmpL (numL a) (numL b) == 0)
def topL (xs : List Int) : Int := xs.foldl (fun n v => max n (shiftV 1 v)) 0
end Go.Proofs.YtnghanpmmbcbbaaGreatDoor
namespace Go.Proofs.YtnghanpmmbcbbaaGreatDoor
mutual
def Tm.ren : Tm → (Int → Int) → Tm
  | .mk k n s A c a, g => .mk k (if k = 1 then g n else n) s A c (renL a (if k = 2 then g else fun v => v))
def renL : List Tm → (Int → Int) → List Tm
  | [], _ => []
  | t :: r, g => t.ren g :: renL r g
end
mutual
def Tm.rr : Tm → (Int → Int) → Tm
  | .mk k n s A c a, g => .mk k (if k = 1 then g n else n) s A c (if k = 2 then rrL a g else a)
def rrL : List Tm → (Int → Int) → List Tm
  | [], _ => []
  | t :: r, g => t.rr g :: rrL r g
end
theorem rrL_map (l : List Tm) (g : Int → Int) : rrL l g = l.map fun t => t.rr g := by
  induction l with
  | nil => simp [rrL]
  | cons t r ih => simp [rrL, ih]
theorem rr_var (n : Int) (s : ByteArray) (A : Option Addr) (c : Nat) (a : List Tm) (g : Int → Int) : (Tm.mk 1 n s A c a).rr g = .mk 1 (g n) s A c a := by simp [Tm.rr]
theorem rr_fun (n : Int) (s : ByteArray) (A : Option Addr) (c : Nat) (a : List Tm) (g : Int → Int) : (Tm.mk 2 n s A c a).rr g = .mk 2 n s A c (rrL a g) := by simp [Tm.rr]
theorem rr_else {k : Int} (n : Int) (s : ByteArray) (A : Option Addr) (c : Nat) (a : List Tm) (g : Int → Int) (h1 : k ≠ 1) (h2 : k ≠ 2) : (Tm.mk k n s A c a).rr g = .mk k n s A c a := by simp [Tm.rr, h1, h2]
theorem rr_canon : (∀ (t : Tm) (g : Int → Int), (t.rr g).canon = t.vmap g) ∧ (∀ (l : List Tm) (g : Int → Int), canonL (rrL l g) = vmapL g l) := by
  unfold Tm.canon canonL
  refine Tm.induct2 (fun k n s A c a ih g => ?_) (fun g => by simp [rrL, vmapL]) (fun t r h1 h2 g => by simp only [rrL, vmapL, h1, h2])
  by_cases h1 : k = 1
  · subst h1; rw [rr_var, vmap_var, vmap_var]
  · by_cases h2 : k = 2
    · subst h2; rw [rr_fun, vmap_fun, vmap_fun, ih]
    · rw [rr_else _ _ _ _ _ _ h1 h2]
      by_cases h0 : k = 0
      · subst h0; rw [vmap_int, vmap_int]
      · rw [vmap_else _ _ _ _ _ _ h2 h1 h0, vmap_else _ n s A c a h2 h1 h0]
theorem rr_nodes : (∀ (t : Tm) (g : Int → Int), (t.rr g).nodes = t.nodes) ∧ (∀ (l : List Tm) (g : Int → Int), nodesL (rrL l g) = nodesL l) := by
  refine Tm.induct2 (fun k n s A c a ih g => ?_) (fun g => by simp [rrL, nodesL]) (fun t r h1 h2 g => by simp only [rrL, nodesL, h1, h2])
  by_cases h2 : k = 2
  · subst h2; rw [rr_fun]; simp only [Tm.nodes, ih]
  · simp [Tm.rr, Tm.nodes, h2]
theorem canonL_strip {l m : List Tm} (h : stripL l = stripL m) : canonL l = canonL m := cmpL_canon.1 (by rw [← cmp_strip.2, h, cmp_self.2])
theorem nodesL_strip {l m : List Tm} (h : stripL l = stripL m) : nodesL l = nodesL m := by
  have key : (∀ t : Tm, t.strip.nodes = t.nodes) ∧ (∀ l, nodesL (stripL l) = nodesL l) := by
    refine Tm.induct2 (fun k n s A c a ih => ?_) rfl (fun t r h1 h2 => ?_)
    · simp only [Tm.strip, Tm.nodes, ih]
    · simp only [stripL, nodesL, h1, h2]
  rw [← key.2 l, h, key.2]
end Go.Proofs.YtnghanpmmbcbbaaGreatDoor
namespace Go.Proofs.YtnghanpmmbcbbaaGreatDoor
open Go.RowKit
structure Renames (F : FuncId) (caps : Array Value) (g : Int → Int) (w0 : World) : Prop where
  enter : ∀ (args : Array Value) (W : World), (callFunc F args).run Tryz.prog W = .ok (.enter F args) W
  fits : ∀ v, Fits v → Fits (g v)
  call : ∀ (v : Int) (W : World), Fits v → Below w0.heap.size w0 W → Calls Tryz.prog F (#[.int .i64 v] ++ caps) W fun e W' => e = .returned (.int .i64 (g v)) ∧ Below W.heap.size W W'
theorem Renames.below {F : FuncId} {caps : Array Value} {g : Int → Int} {w0 w1 : World} (h : Renames F caps g w0) (hb : Below w0.heap.size w0 w1) : Renames F caps g w1 :=
  ⟨h.enter, h.fits, fun v W hv hW => h.call v W hv (hb.trans (hW.mono hb.size))⟩
theorem Held.set1 {B : Nat} {w : World} {v0 v1 v2 v3 : Value} (h : Held B w v0 v1 v2 v3) (v : Value) : Held B (w.setCell ⟨B, 1, none⟩ v) v0 v v2 v3 := by
  have n : ∀ j, j ≠ 1 → (⟨B, 1, none⟩ : Addr) ≠ ⟨B, j, none⟩ := fun j hj e => by injection e with _ e _; omega
  refine ⟨by simpa [World.setCell] using h.lt, ?_, ?_, ?_, ?_, fun j => by rw [World.frozen?_setCell]; exact h.free j⟩
  · rw [World.cell?_setCell_other _ _ _ _ (n 0 (by omega))]; exact h.c0
  · exact World.cell?_setCell_same' _ _ _ (by rw [h.c1]; rfl)
  · rw [World.cell?_setCell_other _ _ _ _ (n 2 (by omega))]; exact h.c2
  · rw [World.cell?_setCell_other _ _ _ _ (n 3 (by omega))]; exact h.c3
end Go.Proofs.YtnghanpmmbcbbaaGreatDoor
namespace Go.Proofs.YtnghanpmmbcbbaaGreatDoor
open Go.RowKit
def Row5 (w : World) (g : Nat) (l : List Bd) : Prop := g < w.heap.size ∧ (∀ j, w.frozen? ⟨g, j, none⟩ = false) ∧ ∀ i j u, i < l.length → (l.getD i default).cells[j]? = some u → w.cell? ⟨g, i * 5 + j, none⟩ = some u
end Go.Proofs.YtnghanpmmbcbbaaGreatDoor
namespace Go.Proofs.YtnghanpmmbcbbaaGreatDoor
open Go.RowKit
def bcells (l : List Bd) : List Value := l.flatMap Bd.cells
section
variable {B : World → Prop} {lo : Nat} {w w' : World} {z : Value} {acc : List Bd}
theorem lie_apart {x : Tm} {B : World → Prop} {lo lo' : Nat} {w0 w2 : World} {z : Value} {n : Nat} {e : TypeId} {size : Nat} {xs : List Value} (hown : w0.ownsRow lo e size z n xs) (hx : Lie B lo' No w2 x) (h1 : lo ≤ lo') (h2 : w0.heap.size ≤ lo') : Lie B lo (fun k => z.ownBlock = some k) w2 x :=
  (hx.out (X := fun k => z.ownBlock = some k) (fun b h3 _ h4 => by have := (own_lt hown b h4).2; omega)).low h1
end
theorem tcells_append (l m : List Tm) : tcells (l ++ m) = tcells l ++ tcells m := by simp [tcells]
theorem cells_one (u : Tm) : ∀ v ∈ u.cells, v.oneCell' = true := by
  intro v hv
  simp only [Tm.cells, List.mem_cons, List.not_mem_nil, or_false] at hv
  rcases hv with rfl | rfl | rfl | rfl <;> rfl
def RowT (B : World → Prop) (lo : Nat) (w : World) (z : Value) (acc : List Tm) : Prop :=
  w.ownsRow lo 69 4 z acc.length (tcells acc) ∧ ∀ x ∈ acc, Lie B lo (fun k => z.ownBlock = some k) w x
section
variable {B : World → Prop} {lo : Nat} {w w' : World} {z : Value} {acc : List Tm}
theorem RowT.nil (B : World → Prop) (lo : Nat) (w : World) : RowT B lo w (.slice none 0 0) [] := ⟨⟨rfl, .inl ⟨rfl, rfl⟩⟩, fun x hx => by cases hx⟩
theorem RowT.below (h : RowT B lo w z acc) (hb : Below w.heap.size w w') : RowT B lo w' z acc := ⟨own_below h.1 hb, fun x hx => (h.2 x hx).below hb⟩
theorem RowT.next {g cap : Nat} {w2 w3 w4 : World} {u : Tm} (h : RowT B lo w2 z acc) (hu : Lie B lo (fun k => z.ownBlock = some k) w2 u) (hb : Below w2.heap.size w2 w3)
    (hown : w4.ownsRow lo 69 4 (.slice (some ⟨g, 0, none⟩) (acc.length + 1) cap) (acc.length + 1) (tcells acc ++ u.cells)) (hg : w3.grownBy w4 z.ownBlock) (hat : z.ownBlock = some g ∨ g = w3.heap.size) :
    RowT B lo w4 (.slice (some ⟨g, 0, none⟩) (acc.length + 1) cap) (acc ++ [u]) := by
  refine ⟨by rw [List.length_append, tcells_append]; simpa [tcells] using hown, fun x hx => ?_⟩
  have hx2 : Lie B lo (fun k => z.ownBlock = some k) w2 x := by
    rcases List.mem_append.1 hx with hx | hx
    · exact h.2 x hx
    · rw [List.mem_singleton.1 hx]; exact hu
  refine (hx2.below hb).less hg.size fun b h1 h2 h3 => ⟨h1, fun e => ?_, hg.block b h2 (fun e => h3 e.symm)⟩
  have e' : g = b := by simpa [Value.ownBlock] using e
  rcases hat with h | h
  · exact h3 (by rw [h, e'])
  · omega
theorem RowT.form (h : RowT B lo w z acc) : ∃ A c, z = .slice A acc.length c ∧ acc.length ≤ c := by
  rcases h.1.2 with ⟨rfl, h1⟩ | ⟨g, cap, cur, rfl, hb, hg, hle, _⟩
  · exact ⟨none, 0, by rw [h1], by omega⟩
  · exact ⟨_, cap, rfl, hle⟩
theorem RowT.lies {A : Option Addr} {c n : Nat} (h : RowT B lo w (.slice A n c) acc) : ∀ W, B W → Agree lo No w W → Lst W A acc c := by
  intro W hB hW
  have hl := tcells_length acc
  rcases h.1.2 with ⟨e, h1⟩ | ⟨g, cap, cur, e, hb, hg, hle, hcap, hcs, hcur⟩
  · injection e with e1 _ e3
    obtain rfl : acc = [] := List.length_eq_zero_iff.1 h1
    rw [e1, e3]; exact Lst.nil W
  · injection e with e1 e2 e3
    subst e1 e2 e3
    have hlt := own_lt h.1 g rfl
    refine ⟨hle, hcap, fun _ => ⟨g, 0, rfl, RowAt.of fun i hi => ⟨fun j u hu => ?_, ?_⟩⟩⟩
    · have hj : j < 4 := by
        have := (List.getElem?_eq_some_iff.1 hu).1
        simpa [Tm.cells] using this
      rw [hW.cell (p := ⟨g, 0 + 4 * i + j, none⟩) hlt.1 hlt.2 (fun h => h)]
      have hc := World.ownsRow.cellAt h.1 (4 * i + j) (by omega)
      rw [Nat.zero_add, hc]
      exact (tcells_get acc hi hj).trans hu
    · exact h.2 _ (getD_mem hi) W hB fun b h1 h2 h3 => hW b h1 h2 (fun h => h)
end
theorem tnews1 (w : World) (u : Tm) (T : TypeId) : ∀ j v, u.cells[j]? = some v → (w.alloc (.cells #[.int .i64 u.kind, .int .i64 u.num, .string u.name, .slice u.at_ u.args.length u.cap] T)).cell? ((⟨w.heap.size, 0, none⟩ : Addr).add j) = some v := by
  intro j v hv
  rw [add_plain, Nat.zero_add, World.cell?_alloc_at _ _ _ _ rfl, ← hv, show (#[Value.int .i64 u.kind, .int .i64 u.num, .string u.name, .slice u.at_ u.args.length u.cap] : Array Value) = u.cells.toArray from rfl, List.getElem?_toArray]
end Go.Proofs.YtnghanpmmbcbbaaGreatDoor
namespace Go.Proofs.YtnghanpmmbcbbaaGreatDoor
open Go.ChangeShapes Go.WideShapes Go.ChangeAt Go.RowKit
def Am.hd (x : Am) : List Value := [.string x.name]
def Am.cells (x : Am) : List Value := x.hd ++ [.slice x.at_ x.args.length x.cap]
theorem Am.cells_len (x : Am) : x.cells.length = 2 := rfl
theorem Am.cells_sl (x : Am) : x.cells[1]? = some (.slice x.at_ x.args.length x.cap) := rfl
theorem Am.cells_hd (x : Am) {j : Nat} (hj : j < 1) : x.cells[j]? = x.hd[j]? := List.getElem?_append_left (by simpa [Am.hd] using hj)
theorem Am.cells_lt {x : Am} {j : Nat} {u : Value} (h : x.cells[j]? = some u) : j < 2 := by
  have := (List.getElem?_eq_some_iff.1 h).1
  rwa [Am.cells_len] at this
def Am.key (x : Am) : List Value × List Tm := (x.hd, stripL x.args)
def Am.ren (x : Am) (g : Int → Int) : Am := { x with args := renL x.args g }
def Am.rr (x : Am) (g : Int → Int) : Am := { x with args := rrL x.args g }
def AmRow (w : World) (l : List Am) (b o : Nat) : Prop := ∀ i, i < l.length → (∀ j u, (l.getD i default).cells[j]? = some u → w.cell? ⟨b, o + i * 2 + j, none⟩ = some u) ∧ (l.getD i default).At w
def AmLst (w : World) (A : Option Addr) (l : List Am) (c : Nat) : Prop := l.length ≤ c ∧ c ≤ maxLen ∧ (0 < l.length → ∃ b o, A = some ⟨b, o, none⟩ ∧ AmRow w l b o)
theorem am_getD_mem {l : List Am} {k : Nat} (h : k < l.length) : l.getD k default ∈ l := by
  simp only [List.getD, List.getElem?_eq_getElem h, Option.getD_some]
  exact List.getElem_mem h
theorem am_take_next {l : List Am} {k : Nat} (h : k < l.length) : l.take (k + 1) = l.take k ++ [l.getD k default] := by
  rw [List.take_succ_eq_append_getElem h]
  simp [List.getD, List.getElem?_eq_getElem h]
section
variable {w w' : World} {A : Option Addr} {l : List Am} {c b o : Nat}
theorem AmRow.below (h : AmRow w l b o) (hb : Below w.heap.size w w') : AmRow w' l b o := fun i hi => ⟨fun j u hu => keepv hb ((h i hi).1 j u hu), (h i hi).2.below hb⟩
theorem AmLst.below (h : AmLst w A l c) (hb : Below w.heap.size w w') : AmLst w' A l c := ⟨h.1, h.2.1, fun hn => by
  obtain ⟨b, o, e, hr⟩ := h.2.2 hn
  exact ⟨b, o, e, hr.below hb⟩⟩
theorem AmLst.get (h : AmLst w A l c) {i : Nat} (hi : i < l.length) : ∃ b o, A = some ⟨b, o, none⟩ ∧ (∀ j u, (l.getD i default).cells[j]? = some u → w.cell? ⟨b, o + i * 2 + j, none⟩ = some u) ∧ (l.getD i default).At w := by
  obtain ⟨b, o, e, hr⟩ := h.2.2 (by omega)
  exact ⟨b, o, e, hr i hi⟩
theorem AmLst.mem (h : AmLst w A l c) {x : Am} (hx : x ∈ l) : x.At w := by
  obtain ⟨i, hi, e⟩ := List.mem_iff_getElem.1 hx
  obtain ⟨_, _, _, _, h2⟩ := h.get hi
  simpa [List.getD, List.getElem?_eq_getElem hi, e] using h2
theorem AmLst.len (h : AmLst w A l c) : l.length ≤ 9223372036854775807 := by have := h.1; have := h.2.1; unfold maxLen at *; omega
theorem AmLst.nil (w : World) : AmLst w none [] 0 := ⟨Nat.le_refl _, Nat.zero_le _, fun h => absurd h (by simp)⟩
end
section
variable {H : Type} {enc : TypeId × Value → H} {W : World} {base : Nat} {spare : Nat → Bool} {held : Bool}
set_option maxRecDepth 100000 in
theorem am_of (n : Nat) (cs : List Value) (x : DataW H × List MemPlace) (h : DataW.trod enc Tryz.prog W base spare held n 66 cs = some x) : ∃ y : Am, cs = y.cells ∧ y.At W := by
  obtain ⟨xs, m, _, _, hcl, hxl, hg⟩ := DataW.trod_struct Tryz.underlying66 h
  have hcl' : cs.length = 2 := hcl.trans (by kernel_rfl)
  match cs, hcl' with
  | [c0, c1], _ =>
    have hxs : xs.length = 2 := hxl
    have g0 := hg 0 _ rfl
    have g1 := hg 1 _ rfl
    rw [List.getElem?_eq_getElem (by omega)] at g0 g1
    have eI : (Tryz.prog.cellsOf 3) = 1 := by kernel_rfl
    have eS : (Tryz.prog.cellsOf 9) = 1 := by kernel_rfl
    have eL : (Tryz.prog.cellsOf 51) = 1 := by kernel_rfl
    simp only [List.getElem_toArray, List.getElem_cons_zero, List.getElem_cons_succ] at g0 g1
    obtain ⟨s, hs, _, ws⟩ := DataW.trod_string (cs := [c0]) Tryz.underlying9 (by simpa [eS] using g0)
    obtain ⟨A, l, c, hv', hl'⟩ := open_lst types (v := c1) (by simpa [eL] using g1)
    obtain rfl : c0 = .string s := by simpa using hs
    subst hv'
    exact ⟨⟨s, A, c, l⟩, rfl, ws, hl'⟩
set_option maxRecDepth 100000 in
theorem ams_of {n : Nat} {v : Value} {x : DataW H × List MemPlace} (h : DataW.trod enc Tryz.prog W base spare held n 22 [v] = some x) :
    ∃ (A : Option Addr) (l : List Am) (c : Nat), v = .slice A l.length c ∧ AmLst W A l c := by
  rcases DataW.trod_slice Tryz.underlying22 h with ⟨hcs, _⟩ | ⟨a, len, cap, elems, rest, n', hn, hcs, _, _, hl, hm, hlen, hel, _⟩
  · obtain rfl : v = .slice none 0 0 := by simpa using hcs
    exact ⟨none, [], 0, rfl, AmLst.nil W⟩
  · obtain rfl : v = .slice (some a) len cap := by simpa using hcs
    have cT : Tryz.prog.cellsOf 66 = 2 := by kernel_rfl
    obtain ⟨f, hf⟩ := Deep.choose_lt (α := Am) (p := fun i y => W.cells? base (a.add (i * 2)) 2 = some y.cells ∧ y.At W) (n := len) (fun i hi => by
      have h1 := hel i hi
      rw [cT, List.getElem?_eq_getElem (by omega)] at h1
      obtain ⟨cs', h2, h3⟩ := Option.bind_eq_some_iff.1 h1
      obtain ⟨y, rfl, hy'⟩ := am_of _ _ _ h3
      exact ⟨y, h2, hy'⟩)
    have hll : ((List.range len).map f).length = len := by simp
    refine ⟨some a, (List.range len).map f, cap, by rw [hll], by rw [hll]; exact hl, hm, fun h0 => ?_⟩
    rw [hll] at h0
    obtain ⟨b, o, sp⟩ := a
    have c0 := (World.cells?_some (hf 0 h0).1).2.2 0 (by omega)
    obtain rfl : sp = none := by
      have e0 : ∃ u, (f 0).cells[0]? = some u := ⟨_, rfl⟩
      obtain ⟨u, e0⟩ := e0
      rw [e0] at c0
      simpa [Addr.add] using World.cell?_spot c0
    refine ⟨b, o, rfl, fun i hi => ?_⟩
    rw [hll] at hi
    have e : ((List.range len).map f).getD i default = f i := by simp [List.getD, hi]
    rw [e]
    refine ⟨fun j u hu => ?_, (hf i hi).2⟩
    have hj := Am.cells_lt hu
    have := (World.cells?_some (hf i hi).1).2.2 j hj
    rw [add_plain, add_plain, hu] at this
    exact this
end
def amcells (l : List Am) : List Value := l.flatMap Am.cells
theorem amcells_len (l : List Am) : (amcells l).length = l.length * 2 := by
  induction l with
  | nil => rfl
  | cons t r ih => simp only [amcells, List.flatMap_cons, List.length_append, Am.cells_len, List.length_cons] at *; omega
theorem amcells_append (l m : List Am) : amcells (l ++ m) = amcells l ++ amcells m := by simp [amcells]
theorem amcells_one (x : Am) : ∀ v ∈ x.cells, v.oneCell' = true := by
  intro v hv
  simp only [Am.cells, Am.hd, List.cons_append, List.nil_append, List.mem_cons, List.not_mem_nil, or_false] at hv
  rcases hv with rfl | rfl <;> rfl
theorem amcells_all (l : List Am) : ∀ u ∈ amcells l, u.oneCell' = true := by
  intro u hu
  obtain ⟨x, _, hx⟩ := List.mem_flatMap.1 hu
  exact amcells_one x u hx
theorem amcells_get (l : List Am) {i j : Nat} (hi : i < l.length) (hj : j < 2) : (amcells l)[i * 2 + j]? = (l.getD i default).cells[j]? := by
  induction l generalizing i with
  | nil => simp at hi
  | cons t r ih =>
    simp only [amcells, List.flatMap_cons]
    cases i with
    | zero =>
      rw [List.getElem?_append_left (by rw [Am.cells_len]; omega)]
      simp
    | succ i =>
      rw [List.getElem?_append_right (by rw [Am.cells_len]; omega), Am.cells_len, show (i + 1) * 2 + j - 2 = i * 2 + j by omega]
      simpa [amcells] using ih (by simpa using hi)
theorem am_info : (Tryz.prog.info? 66).map (fun i => (i.zero, i.size, i.bytes)) = some (some (.agg #[.string ⟨#[]⟩, .slice none 0 0]), 2, 40) := by kernel_rfl
theorem AmRow.cells {w : World} {l : List Am} {b o : Nat} (h : AmRow w l b o) : ∀ (j : Nat) (u : Value), (amcells l)[j]? = some u → w.cell? ((⟨b, o, none⟩ : Addr).add j) = some u := by
  intro j u hu
  have hj : j < l.length * 2 := by rw [← amcells_len]; exact (List.getElem?_eq_some_iff.1 hu).1
  have e : j = j / 2 * 2 + j % 2 := by omega
  rw [e, amcells_get l (by omega) (by omega)] at hu
  have := (h (j / 2) (by omega)).1 (j % 2) u hu
  rw [add_plain, e, ← Nat.add_assoc]
  exact this
def AmOwn (w : World) (g : Nat) (l : List Am) : Prop := g < w.heap.size ∧ (∀ j, w.frozen? ⟨g, j, none⟩ = false) ∧ ∀ i j u, i < l.length → (l.getD i default).cells[j]? = some u → w.cell? ⟨g, i * 2 + j, none⟩ = some u
theorem AmOwn.below {w w' : World} {g : Nat} {l : List Am} (h : AmOwn w g l) (hb : Below w.heap.size w w') : AmOwn w' g l :=
  ⟨Nat.lt_of_lt_of_le h.1 hb.size, fun j => (hb.frozen (p := ⟨g, j, none⟩) h.1).trans (h.2.1 j), fun i j u hi hu => (hb.cell (p := ⟨g, i * 2 + j, none⟩) h.1).trans (h.2.2 i j u hi hu)⟩
theorem AmOwn.store {w : World} {g : Nat} {l : List Am} (h : AmOwn w g l) {i : Nat} (hi : i < l.length) (u : Am) (hu : u.hd = (l.getD i default).hd) : AmOwn (w.setCell ⟨g, i * 2 + 1, none⟩ (.slice u.at_ u.args.length u.cap)) g (l.set i u) := by
  refine ⟨by simpa [World.setCell] using h.1, fun j => by rw [World.frozen?_setCell]; exact h.2.1 j, fun i' j v hi' hv => ?_⟩
  rw [List.length_set] at hi'
  by_cases e : i' = i
  · subst e
    have ev : (l.set i' u).getD i' default = u := by simp [List.getD, hi']
    rw [ev] at hv
    have hj := Am.cells_lt hv
    by_cases hl : j = 1
    · subst hl
      rw [Am.cells_sl] at hv
      injection hv with hv
      subst hv
      exact World.cell?_setCell_same' _ _ _ (by rw [h.2.2 i' 1 _ hi' (Am.cells_sl _)]; rfl)
    · rw [World.cell?_setCell_other _ _ _ _ (fun e => by injection e with _ e _; omega)]
      rw [Am.cells_hd _ (by omega), hu, ← Am.cells_hd _ (by omega)] at hv
      exact h.2.2 i' j v hi' hv
  · have ev : (l.set i u).getD i' default = l.getD i' default := by simp [List.getD, Ne.symm e]
    rw [ev] at hv
    have hj := Am.cells_lt hv
    rw [World.cell?_setCell_other _ _ _ _ (fun e => by injection e with _ e _; omega)]
    exact h.2.2 i' j v hi' hv
def AmLie (B : World → Prop) (lo : Nat) (X : Nat → Prop) (w : World) (t : Am) : Prop := ∀ W, B W → Agree lo X w W → t.At W
section
variable {B : World → Prop} {lo : Nat} {X : Nat → Prop} {w w' : World} {t : Am}
theorem AmLie.less {lo' : Nat} {Y : Nat → Prop} (h : AmLie B lo' Y w t) (hs : w.heap.size ≤ w'.heap.size) (hc : ∀ b, lo' ≤ b → b < w.heap.size → ¬ Y b → lo ≤ b ∧ ¬ X b ∧ w'.heap[b]? = w.heap[b]?) : AmLie B lo X w' t := fun W hB hW => h W hB (hW.less hs hc)
theorem AmLie.below (h : AmLie B lo X w t) (k : Below w.heap.size w w') : AmLie B lo X w' t := h.less k.size fun b h1 h2 h3 => ⟨h1, h3, k.block b h2⟩
theorem AmLie.low (h : AmLie B lo X w t) {lo' : Nat} (hl : lo' ≤ lo) : AmLie B lo' X w t := h.less (Nat.le_refl _) fun b h1 _ h3 => ⟨by omega, h3, rfl⟩
theorem AmLie.out {Y : Nat → Prop} (h : AmLie B lo Y w t) (hY : ∀ b, lo ≤ b → b < w.heap.size → X b → Y b) : AmLie B lo X w t := h.less (Nat.le_refl _) fun b h1 h2 h3 => ⟨h1, fun hx => h3 (hY b h1 h2 hx), rfl⟩
theorem AmLie.set (h : AmLie B lo X w t) {p : Addr} (hp : p.block < lo ∨ X p.block) (v : Value) : AmLie B lo X (w.setCell p v) t := h.less (by simp [World.setCell]) fun b h1 _ h3 => ⟨h1, h3, Below.heap_setCell _ _ _ _ (fun e => hp.elim (fun h => by omega) (fun h => h3 (e ▸ h)))⟩
theorem AmLie.new_is {T : Nat} (h : AmLie B lo No w t) (hT : T < lo) : AmLie B lo (Is T) w t := h.out fun b h1 _ h3 => by have : b = T := h3; omega
end
def AmMade (B : World → Prop) (n : Nat) (m : List Am) (w : World) (e : Ending) (w' : World) : Prop :=
  ∃ A cap, ∃ cur : List Am, e = .returned (.slice A n cap) ∧ cur.length = n ∧ cur.map Am.key = m.map Am.key ∧ (∀ W, B W → Agree w.heap.size No w' W → AmLst W A cur cap) ∧ Below w.heap.size w w'
end Go.Proofs.YtnghanpmmbcbbaaGreatDoor
namespace Go.Proofs.YtnghanpmmbcbbaaGreatDoor
open Go.RowKit
def AmCloned (w : World) (l : List Am) (e : Ending) (w' : World) : Prop := ∃ A cap, e = .returned (.slice A l.length cap) ∧ l.length ≤ cap ∧ cap ≤ maxLen ∧ (0 < l.length → ∃ g, A = some ⟨g, 0, none⟩ ∧ w.heap.size ≤ g ∧ AmOwn w' g l) ∧ Below w.heap.size w w'
set_option maxHeartbeats 1000000 in
theorem clone_am_at (l : List Am) (b o c : Nat) (w : World) (h0 : 0 < l.length) (hl : AmRow w l b o) (hsz : l.length ≤ 1000000) :
    Calls Tryz.prog 81 #[.slice (some ⟨b, o, none⟩) l.length c] w (AmCloned w l) := by
  obtain ⟨i0, hi, hz0, hz1, hz2⟩ := info_parts am_info
  have hn := fun (W : World) => Lib.run_eql_slice_nil (P := Tryz.prog) W 22 66 (some ⟨b, o, none⟩) l.length c 0 0 Tryz.underlying22
  go_enter Tryz.func81, Tryz.ntmps81
  have hl1 : AmRow (w.alloc (.cells #[] 66)) l b o := hl.below ((Below.refl _ _).alloc (Nat.le_refl _) _)
  have HC := Lib.hid hl1.cells
  have HO := Lib.hid (World.ownsRow_lit (base := w.heap.size) (e := 66) (size := 2) w #[] 0 (Nat.le_refl _) (Nat.zero_le _) rfl)
  clear hl hl1
  go_wp2_with (at_builtin; refine wpList_append_own _ rfl _ _ 22 rfl w.heap.size 66 i0 _ 2 40 Tryz.underlying22 hi hz0 hz1 hz2 rfl (by decide) _ 0 [] rfl HO.out ⟨b, o, none⟩ l.length c (amcells l) rfl (amcells_len l) HC.out (amcells_all l) (by unfold maxLen; omega) (by omega) (by simp) ?_; intro v' w1 hown1 hg1 _)
  have HG := Lib.hid hg1
  have HW := Lib.hid hown1
  clear hg1 hown1
  go_ret
  have hw := HW.out
  simp only [Nat.zero_add, List.nil_append] at hw
  obtain ⟨hlen, hv⟩ := hw
  rcases hv with ⟨_, h⟩ | ⟨g, cap, cur, rfl, hb, hheap, hle, hcap, _, hcur⟩
  · omega
  · have hw := HW.out
    simp only [Nat.zero_add, List.nil_append] at hw
    refine ⟨_, cap, rfl, hle, hcap, fun _ => ⟨g, rfl, hb, ⟨(own_lt hw g rfl).2, fun j => World.ownsRow.frozenAt hw j, fun i j u hi hu => ?_⟩⟩, ((Below.refl _ _).alloc (Nat.le_refl _) _).grown HG.out (by simp) (fun k hk => (World.ownsRow.lt HO.out k hk).1)⟩
    have hj := Am.cells_lt hu
    rw [World.ownsRow.cellAt hw (i * 2 + j) (by omega)]
    exact (amcells_get l hi hj).trans hu
set_option maxHeartbeats 1000000 in
theorem clone_am_none (A : Option Addr) (c : Nat) (w : World) :
    Calls Tryz.prog 81 #[.slice A 0 c] w (AmCloned w []) := by
  obtain ⟨i0, hi, hz0, hz1, hz2⟩ := info_parts am_info
  have hn := fun (W : World) => Lib.run_eql_slice_nil (P := Tryz.prog) W 22 66 A 0 c 0 0 Tryz.underlying22
  cases A with
  | none =>
    go_enter Tryz.func81, Tryz.ntmps81
    go_wp2_with fail
    go_ret
    exact ⟨none, 0, rfl, Nat.le_refl _, Nat.zero_le _, fun h => by simp at h, Below.refl _ _⟩
  | some a =>
    go_enter Tryz.func81, Tryz.ntmps81
    have HO := Lib.hid (World.ownsRow_lit (base := w.heap.size) (e := 66) (size := 2) w #[] 0 (Nat.le_refl _) (Nat.zero_le _) rfl)
    go_wp2_with (at_builtin; refine wpList_append_own _ rfl _ _ 22 rfl w.heap.size 66 i0 _ 2 40 Tryz.underlying22 hi hz0 hz1 hz2 rfl (by decide) _ 0 [] rfl HO.out a 0 c [] rfl rfl (fun _ _ h => by simp at h) (fun _ h => by simp at h) (by unfold maxLen; omega) (by omega) (by simp) ?_; intro v' w1 hown1 hg1 _)
    have HG := Lib.hid hg1
    have HW := Lib.hid hown1
    clear hg1 hown1
    go_ret
    have hb : Below w.heap.size w w1 := ((Below.refl _ _).alloc (Nat.le_refl _) _).grown HG.out (by simp) (fun k hk => (World.ownsRow.lt HO.out k hk).1)
    rcases HW.out.2 with ⟨rfl, _⟩ | ⟨g, cap, cur, rfl, _, _, _, hcap, _, _⟩
    · exact ⟨none, 0, rfl, Nat.le_refl _, Nat.zero_le _, fun h => by simp at h, hb⟩
    · exact ⟨_, cap, rfl, Nat.zero_le _, hcap, fun h => by simp at h, hb⟩
def AmPut (gg : Int → Int) (l : List Am) (g lo j : Nat) (wr : World) : Prop :=
  ∃ news : List Am, news.length = j ∧ news.map Am.key = (l.take j).map (fun x => (x.ren gg).key) ∧ AmOwn wr g (news ++ l.drop j) ∧ ∀ x ∈ news, AmLie Any lo (Is g) wr x
section
variable {gg : Int → Int} {l : List Am} {g lo j : Nat} {wr : World}
theorem AmPut.below {w' : World} (h : AmPut gg l g lo j wr) (hb : Below wr.heap.size wr w') : AmPut gg l g lo j w' := by
  obtain ⟨news, hn, hs, hr, hk⟩ := h
  exact ⟨news, hn, hs, hr.below hb, fun x hx => (hk x hx).below hb⟩
theorem AmPut.cells (h : AmPut gg l g lo j wr) (hj : j < l.length) : ∀ i v, (l.getD j default).cells[i]? = some v → wr.cell? ⟨g, j * 2 + i, none⟩ = some v := by
  obtain ⟨news, hn, hs, hr, hk⟩ := h
  intro i v hv
  have hgx : (news ++ l.drop j).getD j default = l.getD j default := by
    simp [List.getD, List.getElem?_append_right (show news.length ≤ j by omega), hn]
  exact hr.2.2 j i v (by simp; omega) (by rw [hgx]; exact hv)
theorem AmPut.lt (h : AmPut gg l g lo j wr) : g < wr.heap.size := by
  obtain ⟨_, _, _, hr, _⟩ := h
  exact hr.1
theorem AmPut.free (h : AmPut gg l g lo j wr) : ∀ i, wr.frozen? ⟨g, i, none⟩ = false := by
  obtain ⟨_, _, _, hr, _⟩ := h
  exact hr.2.1
theorem AmPut.start (h : AmOwn wr g l) : AmPut gg l g lo 0 wr := ⟨[], rfl, rfl, by simpa using h, fun x hx => by cases hx⟩
theorem AmPut.done (h : AmPut gg l g lo l.length wr) (hlo : lo ≤ g) (cap : Nat) (hc : l.length ≤ cap) (hcm : cap ≤ maxLen) :
    ∃ news : List Am, news.length = l.length ∧ news.map Am.key = (l.map fun x => x.ren gg).map Am.key ∧ ∀ W, Any W → Agree lo No wr W → AmLst W (some ⟨g, 0, none⟩) news cap := by
  obtain ⟨news, hn, hst, hr, hk⟩ := h
  rw [List.drop_length, List.append_nil] at hr
  rw [List.take_length] at hst
  refine ⟨news, hn, by rw [hst, List.map_map]; rfl, fun W _ hW => ⟨by omega, hcm, fun _ => ⟨g, 0, rfl, fun i hi => ⟨fun j u hu => ?_, ?_⟩⟩⟩⟩
  · rw [Nat.zero_add, hW.cell (p := ⟨g, i * 2 + j, none⟩) hlo hr.1 (fun h => h)]
    exact hr.2.2 i j u hi hu
  · exact hk _ (am_getD_mem hi) W trivial fun b h1 h2 _ => hW b h1 h2 (fun h => h)
end
end Go.Proofs.YtnghanpmmbcbbaaGreatDoor
