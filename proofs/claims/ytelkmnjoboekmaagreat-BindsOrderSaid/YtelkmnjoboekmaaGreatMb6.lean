/-
  Unification, plainly: substitutions as functions, unifiers, the solved form, and that there is only one. No program.
  Unification on a graph of the terms, plainly: from classes of nodes that are closed under equality of arguments, and that lead nowhere in a circle, to the solved form. No program.
  The program's graph in memory: a box with the slice of nodes; the nodes in a row of the call's own; the lists of their arguments in blocks of their own.
-/
import Derived.Test.YtelkmnjoboekmaaGreatMb2
import Derived.Test.YtelkmnjoboekmaaGreatMb5
namespace Go.Proofs.YtelkmnjoboekmaaGreat
open Go

/-! ### Substitutions as functions -/
def vr (n : Int) : Tm := .mk 1 n ByteArray.empty none 0 []
mutual
def Tm.sub (f : Int → Tm) : Tm → Tm
  | .mk k n s _ _ a => if k = 1 then f n else .mk k n s none 0 (subL f a)
def subL (f : Int → Tm) : List Tm → List Tm
  | [] => []
  | t :: r => t.sub f :: subL f r
end
theorem subL_map (f : Int → Tm) (l : List Tm) : subL f l = l.map (Tm.sub f) := by
  induction l with
  | nil => rfl
  | cons t r ih => simp [subL, ih]
theorem sub_strip (f : Int → Tm) : (∀ t : Tm, t.strip.sub f = t.sub f) ∧ (∀ l, subL f (stripL l) = subL f l) := by
  refine Tm.induct2 (fun k n s A c a ih => ?_) rfl (fun t r h1 h2 => ?_)
  · simp only [Tm.strip, Tm.sub, ih]
  · simp only [stripL, subL, h1, h2]
theorem sub_like (f : Int → Tm) {t u : Tm} (h : t.strip = u.strip) : t.sub f = u.sub f := by rw [← (sub_strip f).1, h, (sub_strip f).1]
theorem form_var {t : Tm} (h : t.form = true) (hk : t.kind = 1) : t.strip = vr t.num ∧ 0 ≤ t.num ∧ t.num ≤ 1048576 ∧ t.args = [] := by
  obtain ⟨k, n, s, A, c, a⟩ := t
  simp only [Tm.kind] at hk
  subst hk
  simp [Tm.form] at h
  obtain ⟨h1, h2, h3, h4⟩ := h
  rw [h4, h3]
  exact ⟨rfl, h1, h2, rfl⟩
theorem form_kind {t : Tm} (h : t.form = true) : t.kind = 0 ∨ t.kind = 1 ∨ t.kind = 2 := by
  obtain ⟨k, n, s, A, c, a⟩ := t
  simp only [Tm.form] at h
  simp only [Tm.kind]
  split at h
  · exact .inl ‹_›
  · split at h
    · exact .inr (.inl ‹_›)
    · split at h
      · exact .inr (.inr ‹_›)
      · cases h
theorem form_args {t : Tm} (h : t.form = true) : (t.kind ≠ 2 → t.args = []) ∧ formL t.args = true := by
  obtain ⟨k, n, s, A, c, a⟩ := t
  simp only [Tm.form] at h
  simp only [Tm.kind, Tm.args]
  split at h
  · simp at h
    rw [h.2.2.2]
    exact ⟨fun _ => rfl, rfl⟩
  · split at h
    · simp at h
      rw [h.2.2.2]
      exact ⟨fun _ => rfl, rfl⟩
    · split at h
      · rename_i h2
        simp only [Bool.and_eq_true] at h
        exact ⟨fun h' => absurd h2 h', h.2.2⟩
      · cases h
theorem vr_form {n : Int} (h0 : 0 ≤ n) (h1 : n ≤ 1048576) : (vr n).form = true := by simp [vr, Tm.form, h0, h1]
theorem kind_sub {f : Int → Tm} {t : Tm} (h : t.kind ≠ 1) : (t.sub f).kind = t.kind := by
  obtain ⟨k, n, s, A, c, a⟩ := t
  simp only [Tm.kind] at h
  simp [Tm.sub, h, Tm.kind]
/-- What a list of bindings does with a variable. -/
def subOf (b : List Bd) (v : Int) : Tm := ((look b v).map Tm.strip).getD (vr v)
theorem app_sub (b : List Bd) : (∀ t : Tm, t.form = true → (t.app b).strip = t.sub (subOf b)) ∧ (∀ l, formL l = true → stripL (appL b l) = subL (subOf b) l) := by
  refine Tm.induct2 (fun k n s A c a ih h => ?_) (fun _ => rfl) (fun t r h1 h2 h => ?_)
  · have hv := form_var h
    have ha := form_args h
    simp only [Tm.kind, Tm.num, Tm.args] at hv ha
    simp only [Tm.app, Tm.sub]
    split
    · rename_i hk
      unfold subOf
      cases hl : look b n with
      | none => simpa using (hv hk).1
      | some t => rfl
    · split
      · simp only [Tm.strip, ih ha.2]
      · rename_i h2
        simp [Tm.strip, ha.1 h2, stripL, subL]
  · simp only [formL, Bool.and_eq_true] at h
    simp only [appL, stripL, subL, h1 h.1, h2 h.2]
theorem sub_id {f : Int → Tm} : (∀ t : Tm, t.form = true → (∀ v ∈ t.occ, f v = vr v) → t.sub f = t.strip) ∧ (∀ l, formL l = true → (∀ v ∈ occL l, f v = vr v) → subL f l = stripL l) := by
  refine Tm.induct2 (fun k n s A c a ih h ho => ?_) (fun _ _ => rfl) (fun t r h1 h2 h ho => ?_)
  · have hv := form_var h
    have ha := form_args h
    simp only [Tm.kind, Tm.num, Tm.args] at hv ha
    simp only [Tm.sub]
    split
    · rename_i hk
      rw [(hv hk).1]
      exact ho n (by simp [Tm.occ, hk])
    · rename_i hk
      rw [ih ha.2 fun v hv => ho v ?_]
      · rfl
      · by_cases h2 : k = 2
        · simpa [Tm.occ, hk, h2] using hv
        · rw [ha.1 h2] at hv; cases hv
  · simp only [formL, Bool.and_eq_true] at h
    simp only [occL, List.mem_append] at ho
    simp only [subL, stripL, h1 h.1 fun v hv => ho v (.inl hv), h2 h.2 fun v hv => ho v (.inr hv)]

/-! ### Unifiers and the solved form -/
def Unif (E : List (Tm × Tm)) (f : Int → Tm) : Prop := ∀ p ∈ E, p.1.sub f = p.2.sub f
/-- m is the solved form of the equations (its terms are stripped). -/
structure Sol (E : List (Tm × Tm)) (m : List Bd) : Prop where
  asc : Asc m
  cl : ∀ x ∈ m, x.tm.strip = x.tm ∧ x.tm.form = true ∧ 0 ≤ x.var ∧ x.var ≤ 1048576
  apart : ∀ x ∈ m, ∀ v ∈ x.tm.occ, look m v = none
  unif : Unif E (subOf m)
  gen : ∀ f, Unif E f → ∀ x ∈ m, f x.var = x.tm.sub f
  low : ∀ x ∈ m, x.tm.kind = 1 → x.tm.num < x.var
theorem subOf_mem {E : List (Tm × Tm)} {m : List Bd} (h : Sol E m) {x : Bd} (hx : x ∈ m) : subOf m x.var = x.tm := by
  unfold subOf
  rw [look_mem h.asc.dis hx]
  exact (h.cl x hx).1
theorem subOf_none {m : List Bd} {v : Int} (h : look m v = none) : subOf m v = vr v := by
  unfold subOf
  rw [h]; rfl
theorem Sol.dom {E : List (Tm × Tm)} {m n : List Bd} (h : Sol E m) (h' : Sol E n) {x : Bd} (hx : x ∈ m) : ∃ y ∈ n, y.var = x.var := by
  cases hl : look n x.var with
  | some t =>
    obtain ⟨y, hy, e, _⟩ := look_some hl
    exact ⟨y, hy, e⟩
  | none =>
    exfalso
    have hg := h.gen _ h'.unif x hx
    rw [subOf_none hl] at hg
    have hk : x.tm.kind = 1 := by
      apply Classical.byContradiction
      intro hk
      have := kind_sub (f := subOf n) hk
      rw [← hg] at this
      exact hk this.symm
    have hv := form_var (h.cl x hx).2.1 hk
    have hlo := h.low x hx hk
    rw [(h.cl x hx).1] at hv
    rw [hv.1] at hg
    have hg' : vr x.var = subOf n x.tm.num := by simpa [vr, Tm.sub] using hg
    cases hl' : look n x.tm.num with
    | none =>
      rw [subOf_none hl'] at hg'
      have : x.var = x.tm.num := congrArg Tm.num hg'
      omega
    | some t =>
      obtain ⟨y, hy, e, _⟩ := look_some hl'
      rw [← e, subOf_mem h' hy] at hg'
      have hlo' := h'.low y hy (by rw [← hg']; rfl)
      rw [← hg'] at hlo'
      have : x.var < y.var := hlo'
      omega
theorem Sol.sub {E : List (Tm × Tm)} {m n : List Bd} (h : Sol E m) (h' : Sol E n) {x : Bd} (hx : x ∈ m) : x ∈ n := by
  obtain ⟨y, hy, e⟩ := h.dom h' hx
  have hg := h.gen _ h'.unif x hx
  rw [← e, subOf_mem h' hy, sub_id.1 x.tm (h.cl x hx).2.1 fun v hv => ?_, (h.cl x hx).1] at hg
  · obtain ⟨a, b⟩ := x
    obtain ⟨c, d⟩ := y
    simp only at e hg
    subst e hg
    exact hy
  · refine subOf_none ?_
    rw [look_none]
    intro z hz ez
    obtain ⟨z', hz', e'⟩ := h'.dom h hz
    have := h.apart x hx v hv
    rw [look_none] at this
    exact this z' hz' (e'.trans ez)
theorem Asc.nodup {m : List Bd} (h : Asc m) : m.Nodup := h.imp fun h e => by rw [e] at h; omega
/-- The solved form is the only one. -/
theorem Sol.unique {E : List (Tm × Tm)} {m n : List Bd} (h : Sol E m) (h' : Sol E n) : m = n :=
  asc_unique h.asc h'.asc ((List.perm_ext_iff_of_nodup h.asc.nodup h'.asc.nodup).2 fun _ => ⟨h.sub h', h'.sub h⟩)
/-- The solved form of the same equations the other way round. -/
theorem Sol.of_unif {E E' : List (Tm × Tm)} (he : ∀ f, Unif E f ↔ Unif E' f) {m : List Bd} (h : Sol E m) : Sol E' m :=
  ⟨h.asc, h.cl, h.apart, (he _).1 h.unif, fun f hf => h.gen f ((he f).2 hf), h.low⟩

/-! ### What a call answers -/
/-- The answer of All at valid lists of one length: the bindings (stripped) and the code. -/
def Out (E : List (Tm × Tm)) (m : List Bd) (e : Int) : Prop :=
  (m = [] ∧ e = 13 ∧ ∀ f, ¬ Unif E f) ∨ ∃ s, Sol E s ∧ ((allRight s = true ∧ m = s ∧ e = 0) ∨ (allRight s = false ∧ m = [] ∧ e = 6))
def AllOut (a b : List Tm) (m : List Bd) (e : Int) : Prop :=
  if (a.all Tm.right && b.all Tm.right) = false then m = [] ∧ e = 2
  else if a.length ≠ b.length then m = [] ∧ e = 9
  else Out (a.zip b) m e
theorem Out.unique {E : List (Tm × Tm)} {m n : List Bd} {e h : Int} (h1 : Out E m e) (h2 : Out E n h) : m = n ∧ e = h := by
  rcases h1 with ⟨rfl, rfl, hn⟩ | ⟨s, hs, h1⟩
  · rcases h2 with ⟨rfl, rfl, _⟩ | ⟨s, hs, _⟩
    · exact ⟨rfl, rfl⟩
    · exact absurd hs.unif (hn _)
  · rcases h2 with ⟨rfl, rfl, hn⟩ | ⟨s', hs', h2⟩
    · exact absurd hs.unif (hn _)
    · obtain rfl := hs.unique hs'
      rcases h1 with ⟨a1, rfl, rfl⟩ | ⟨a1, rfl, rfl⟩ <;> rcases h2 with ⟨a2, rfl, rfl⟩ | ⟨a2, rfl, rfl⟩
      · exact ⟨rfl, rfl⟩
      · rw [a1] at a2; cases a2
      · rw [a1] at a2; cases a2
      · exact ⟨rfl, rfl⟩
theorem Out.of_unif {E E' : List (Tm × Tm)} (he : ∀ f, Unif E f ↔ Unif E' f) {m : List Bd} {e : Int} (h : Out E m e) : Out E' m e := by
  rcases h with ⟨h1, h2, hn⟩ | ⟨s, hs, h1⟩
  · exact .inl ⟨h1, h2, fun f hf => hn f ((he f).2 hf)⟩
  · exact .inr ⟨s, hs.of_unif he, h1⟩
theorem AllOut.unique {a b : List Tm} {m n : List Bd} {e h : Int} (h1 : AllOut a b m e) (h2 : AllOut a b n h) : m = n ∧ e = h := by
  unfold AllOut at h1 h2
  split at h1
  · rename_i hr
    rw [if_pos hr] at h2
    exact ⟨h1.1.trans h2.1.symm, h1.2.trans h2.2.symm⟩
  · rename_i hr
    rw [if_neg hr] at h2
    split at h1
    · rename_i hl
      rw [if_pos hl] at h2
      exact ⟨h1.1.trans h2.1.symm, h1.2.trans h2.2.symm⟩
    · rename_i hl
      rw [if_neg hl] at h2
      exact h1.unique h2
theorem Unif.one {a b : Tm} {f : Int → Tm} : Unif ([a].zip [b]) f ↔ a.sub f = b.sub f := by simp [Unif]
/-- Both terms the other way round. -/
theorem AllOut.symm {a b : Tm} {m : List Bd} {e : Int} (h : AllOut [a] [b] m e) : AllOut [b] [a] m e := by
  unfold AllOut at h ⊢
  have e1 : ([b].all Tm.right && [a].all Tm.right) = ([a].all Tm.right && [b].all Tm.right) := Bool.and_comm _ _
  rw [e1]
  split at h
  · rename_i hr; rw [if_pos hr]; exact h
  · rename_i hr
    rw [if_neg hr]
    rw [if_neg (by simp)] at h ⊢
    exact h.of_unif fun f => by rw [Unif.one, Unif.one]; exact ⟨Eq.symm, Eq.symm⟩
theorem formL_all (l : List Tm) (h : ∀ t ∈ l, t.form = true) : formL l = true := by
  induction l with
  | nil => rfl
  | cons t r ih => simp [formL, h t (by simp), ih fun x hx => h x (by simp [hx])]
/-- Functors with the same name: their arguments. -/
theorem unif_args {f : Int → Tm} {a b : List Tm} (hl : a.length = b.length) {n : Int} {s : ByteArray} {A B : Option Addr} {c d : Nat} :
    (Tm.mk 2 n s A c a).sub f = (Tm.mk 2 n s B d b).sub f ↔ Unif (a.zip b) f := by
  simp only [Tm.sub, if_neg (show (2 : Int) ≠ 1 by decide), Tm.mk.injEq, true_and]
  induction a generalizing b with
  | nil =>
    cases b with
    | nil => simp [Unif, subL]
    | cons y q => simp at hl
  | cons x r ih =>
    cases b with
    | nil => simp at hl
    | cons y q =>
      have := ih (b := q) (by simpa using hl)
      simp only [subL, List.cons.injEq, this, Unif, List.zip_cons_cons, List.mem_cons, forall_eq_or_imp]
end Go.Proofs.YtelkmnjoboekmaaGreat
namespace Go.Proofs.YtelkmnjoboekmaaGreat
open Go

/-- A node: its term, where the list of its arguments' nodes lies, and these; the next node (of the program). -/
structure Nd where
  tm : Tm
  A : Option Addr
  cap : Nat
  kids : List Nat
  next : Nat
instance : Inhabited Nd := ⟨⟨default, none, 0, [], 0⟩⟩
def nd (G : List Nd) (i : Nat) : Nd := G.getD i default
/-- The node's term under a substitution. -/
def ndv (f : Int → Tm) (G : List Nd) (i : Nat) : Tm := (nd G i).tm.sub f
/-- A node whose arguments are entered. -/
structure OkAt (G : List Nd) (i : Nat) : Prop where
  form : (nd G i).tm.form = true
  len : (nd G i).kids.length = (nd G i).tm.args.length
  kid : ∀ j, j < (nd G i).kids.length → (nd G i).kids.getD j 0 < G.length ∧ (nd G ((nd G i).kids.getD j 0)).tm.strip = ((nd G i).tm.args.getD j default).strip
def Ok (G : List Nd) : Prop := ∀ i, i < G.length → OkAt G i
/-- Each variable has one node. -/
def VarU (G : List Nd) : Prop := ∀ i j, i < G.length → j < G.length → (nd G i).tm.kind = 1 → (nd G j).tm.kind = 1 → (nd G i).tm.num = (nd G j).tm.num → i = j
theorem OkAt.mem {G : List Nd} {i c : Nat} (h : OkAt G i) (hc : c ∈ (nd G i).kids) : c < G.length := by
  obtain ⟨j, hj, e⟩ := List.mem_iff_getElem.1 hc
  have := (h.kid j hj).1
  rwa [List.getD, List.getElem?_eq_getElem hj, Option.getD_some, e] at this
theorem OkAt.var {G : List Nd} {i : Nat} (h : OkAt G i) (hk : (nd G i).tm.kind = 1) : (nd G i).kids = [] := by
  have := (form_var h.form hk).2.2.2
  exact List.length_eq_zero_iff.1 (by rw [h.len, this]; rfl)
theorem ndv_eq {f : Int → Tm} {G : List Nd} {i : Nat} (h : OkAt G i) : ndv f G i = if (nd G i).tm.kind = 1 then f (nd G i).tm.num else .mk (nd G i).tm.kind (nd G i).tm.num (nd G i).tm.name none 0 ((nd G i).kids.map (ndv f G)) := by
  have e : (nd G i).kids.map (ndv f G) = subL f (nd G i).tm.args := by
    rw [subL_map]
    refine List.ext_getElem (by simp [h.len]) fun j h1 h2 => ?_
    have hj : j < (nd G i).kids.length := by simpa using h1
    have ha : j < (nd G i).tm.args.length := by simpa using h2
    have := (h.kid j hj).2
    rw [List.getElem_map, List.getElem_map]
    rw [List.getD, List.getElem?_eq_getElem hj, Option.getD_some, List.getD, List.getElem?_eq_getElem ha, Option.getD_some] at this
    exact sub_like f this
  unfold ndv at e ⊢
  rw [e]
  cases hn : (nd G i).tm with
  | mk k n s A c a => rfl

/-! ### The term of a class -/
def sol (G : List Nd) (top : Nat → Nat) : Nat → Nat → Tm
  | 0, _ => default
  | d + 1, i => if (nd G (top i)).tm.kind = 1 then vr (nd G (top i)).tm.num else .mk (nd G (top i)).tm.kind (nd G (top i)).tm.num (nd G (top i)).tm.name none 0 ((nd G (top i)).kids.map (sol G top d))
/-- Classes of nodes, closed, in an order; top: the node that stands for a class. -/
structure Closed (G : List Nd) (E : List (Nat × Nat)) (top : Nat → Nat) : Prop where
  ok : Ok G
  varu : VarU G
  lt : ∀ i, i < G.length → top i < G.length
  idem : ∀ i, i < G.length → top (top i) = top i
  sound : ∀ f, (∀ p ∈ E, ndv f G p.1 = ndv f G p.2) → ∀ i j, i < G.length → j < G.length → top i = top j → ndv f G i = ndv f G j
  cong : ∀ i j, i < G.length → j < G.length → (nd G i).tm.kind ≠ 1 → (nd G j).tm.kind ≠ 1 → top i = top j →
    ((nd G i).tm.kind = (nd G j).tm.kind ∧ (nd G i).tm.num = (nd G j).tm.num ∧ (nd G i).tm.name = (nd G j).tm.name) ∧ (nd G i).kids.map top = (nd G j).kids.map top
  eqs : ∀ p ∈ E, p.1 < G.length ∧ p.2 < G.length ∧ top p.1 = top p.2
  nonvar : ∀ i, i < G.length → (nd G i).tm.kind ≠ 1 → (nd G (top i)).tm.kind ≠ 1
  least : ∀ i, i < G.length → (nd G (top i)).tm.kind = 1 → (nd G (top i)).tm.num ≤ (nd G i).tm.num
/-- No class leads to itself: r goes down from a class to those of its arguments, and D is above it. -/
def Ranked (G : List Nd) (top r : Nat → Nat) (D : Nat) : Prop := ∀ i, i < G.length → r (top i) < D ∧ ∀ c ∈ (nd G (top i)).kids, r (top c) < r (top i)
section
variable {G : List Nd} {E : List (Nat × Nat)} {top r : Nat → Nat} {D : Nat}
theorem sol_stable (h : Closed G E top) (hr : Ranked G top r D) : ∀ (n i : Nat), i < G.length → r (top i) < n → ∀ d d', r (top i) < d → r (top i) < d' → sol G top d i = sol G top d' i := by
  intro n
  induction n with
  | zero => intro i _ h; omega
  | succ n ih =>
    intro i hi hn d d' hd hd'
    obtain ⟨d, rfl⟩ : ∃ x, d = x + 1 := ⟨d - 1, by omega⟩
    obtain ⟨d', rfl⟩ : ∃ x, d' = x + 1 := ⟨d' - 1, by omega⟩
    simp only [sol]
    split
    · rfl
    · have : ∀ c ∈ (nd G (top i)).kids, sol G top d c = sol G top d' c := fun c hc => by
        have h1 := (hr i hi).2 c hc
        exact ih c ((h.ok _ (h.lt i hi)).mem hc) (by omega) d d' (by omega) (by omega)
      rw [List.map_congr_left this]
theorem sol_eq (h : Closed G E top) (hr : Ranked G top r D) {i : Nat} (hi : i < G.length) : sol G top D i =
    if (nd G (top i)).tm.kind = 1 then vr (nd G (top i)).tm.num else .mk (nd G (top i)).tm.kind (nd G (top i)).tm.num (nd G (top i)).tm.name none 0 ((nd G (top i)).kids.map (sol G top D)) := by
  have hd := (hr i hi).1
  rw [sol_stable h hr (D + 1) i hi (by omega) D (D + 1) hd (by omega)]
  rfl
theorem sol_top (h : Closed G E top) (hr : Ranked G top r D) {i j : Nat} (hi : i < G.length) (hj : j < G.length) (e : top i = top j) : sol G top D i = sol G top D j := by
  rw [sol_eq h hr hi, sol_eq h hr hj, e]
theorem sol_induct (h : Closed G E top) (hr : Ranked G top r D) {p : Nat → Prop} (hp : ∀ i, i < G.length → (∀ c ∈ (nd G (top i)).kids, p c) → p i) : ∀ i, i < G.length → p i := by
  suffices H : ∀ n i, i < G.length → r (top i) < n → p i from fun i hi => H _ i hi (Nat.lt_succ_self _)
  intro n
  induction n with
  | zero => intro i _ h; omega
  | succ n ih =>
    intro i hi hn
    refine hp i hi fun c hc => ih c ((h.ok _ (h.lt i hi)).mem hc) ?_
    have := (hr i hi).2 c hc
    omega
theorem formL_of {l : List Tm} (h : ∀ t ∈ l, t.form = true) : formL l = true := formL_all l h
/-- The name and the number of arguments are enough. -/
theorem form_mk {t : Tm} (h : t.form = true) {l : List Tm} (hl : l.length = t.args.length) (hf : formL l = true) : (Tm.mk t.kind t.num t.name none 0 l).form = true := by
  obtain ⟨k, n, s, A, c, a⟩ := t
  simp only [Tm.kind, Tm.num, Tm.name, Tm.args] at *
  simp only [Tm.form, hl, hf] at h ⊢
  split at h
  · rename_i h0; rw [if_pos h0]; exact h
  · rename_i h0
    rw [if_neg h0]
    split at h
    · rename_i h1; rw [if_pos h1]; exact h
    · rename_i h1
      rw [if_neg h1]
      split at h
      · rename_i h2
        rw [if_pos h2]
        simp only [Bool.and_eq_true] at h ⊢
        exact ⟨h.1, h.2.1, trivial⟩
      · cases h
theorem stripL_id {l : List Tm} (h : ∀ t ∈ l, t.strip = t) : stripL l = l := by
  rw [stripL_map]
  exact (List.map_congr_left h).trans (List.map_id l)
theorem sol_form (h : Closed G E top) (hr : Ranked G top r D) : ∀ i, i < G.length → (sol G top D i).strip = sol G top D i ∧ (sol G top D i).form = true := by
  refine sol_induct h hr fun i hi ih => ?_
  rw [sol_eq h hr hi]
  have hk := h.ok _ (h.lt i hi)
  split
  · rename_i hv
    have := form_var hk.form hv
    exact ⟨rfl, vr_form this.2.1 this.2.2.1⟩
  · have h1 : ∀ t ∈ (nd G (top i)).kids.map (sol G top D), t.strip = t ∧ t.form = true := fun t ht => by
      obtain ⟨c, hc, rfl⟩ := List.mem_map.1 ht
      exact ih c hc
    refine ⟨?_, form_mk hk.form (by simp [hk.len]) (formL_of fun t ht => (h1 t ht).2)⟩
    simp only [Tm.strip]
    rw [stripL_id fun t ht => (h1 t ht).1]
theorem mem_occL {l : List Tm} {v : Int} : v ∈ occL l ↔ ∃ t ∈ l, v ∈ t.occ := by
  induction l with
  | nil => simp [occL]
  | cons t r ih => simp [occL, ih]
theorem sol_occ (h : Closed G E top) (hr : Ranked G top r D) : ∀ i, i < G.length → ∀ v ∈ (sol G top D i).occ, ∃ j, j < G.length ∧ (nd G j).tm.kind = 1 ∧ top j = j ∧ (nd G j).tm.num = v := by
  refine sol_induct h hr fun i hi ih v hv => ?_
  rw [sol_eq h hr hi] at hv
  split at hv
  · rename_i hk
    simp only [vr, Tm.occ, if_true, List.mem_singleton] at hv
    exact ⟨top i, h.lt i hi, hk, h.idem i hi, hv.symm⟩
  · rename_i hk
    simp only [Tm.occ, if_neg hk] at hv
    split at hv
    · obtain ⟨t, ht, hv⟩ := mem_occL.1 hv
      obtain ⟨c, hc, rfl⟩ := List.mem_map.1 ht
      exact ih c hc v hv
    · cases hv
theorem sol_gen (h : Closed G E top) (hr : Ranked G top r D) {f : Int → Tm} (hf : ∀ p ∈ E, ndv f G p.1 = ndv f G p.2) : ∀ i, i < G.length → (sol G top D i).sub f = ndv f G i := by
  refine sol_induct h hr fun i hi ih => ?_
  have ht := h.lt i hi
  rw [h.sound f hf i (top i) hi ht (h.idem i hi).symm, sol_eq h hr hi, ndv_eq (h.ok _ ht)]
  split
  · simp [vr, Tm.sub]
  · rename_i hk
    simp only [Tm.sub, if_neg hk, subL_map, List.map_map]
    have : List.map (Tm.sub f ∘ sol G top D) (nd G (top i)).kids = List.map (ndv f G) (nd G (top i)).kids := List.map_congr_left fun c hc => ih c hc
    rw [this]
/-- The list that the call answers: bd are the nodes of the bound variables. -/
def bindsOf (G : List Nd) (top : Nat → Nat) (D : Nat) (bd : List Nat) : List Bd := bd.map fun i => ⟨(nd G i).tm.num, sol G top D i⟩
def BoundIs (G : List Nd) (top : Nat → Nat) (bd : List Nat) : Prop :=
  (∀ i, i ∈ bd ↔ i < G.length ∧ (nd G i).tm.kind = 1 ∧ top i ≠ i) ∧ bd.Pairwise fun i j => (nd G i).tm.num < (nd G j).tm.num
theorem BoundIs.asc {bd : List Nat} (h : BoundIs G top bd) : Asc (bindsOf G top D bd) := by
  unfold Asc bindsOf
  rw [List.pairwise_map]
  exact h.2
theorem look_bound_node {bd : List Nat} (hb : BoundIs G top bd) {i : Nat} (hi : i ∈ bd) : look (bindsOf G top D bd) (nd G i).tm.num = some (sol G top D i) :=
  look_mem (x := ⟨(nd G i).tm.num, sol G top D i⟩) hb.asc.dis (List.mem_map.2 ⟨i, hi, rfl⟩)
theorem look_free_node (h : Closed G E top) {bd : List Nat} (hb : BoundIs G top bd) {j : Nat} (hj : j < G.length) (hk : (nd G j).tm.kind = 1) (ht : top j = j) : look (bindsOf G top D bd) (nd G j).tm.num = none := by
  rw [look_none]
  intro x hx e
  obtain ⟨i, hi, rfl⟩ := List.mem_map.1 hx
  obtain ⟨h1, h2, h3⟩ := (hb.1 i).1 hi
  exact h3 (by rw [h.varu i j h1 hj h2 hk e]; exact ht)
theorem sol_unif (h : Closed G E top) (hr : Ranked G top r D) {bd : List Nat} (hb : BoundIs G top bd) : ∀ i, i < G.length → ndv (subOf (bindsOf G top D bd)) G i = sol G top D i := by
  have hkey : ∀ n i, i < G.length → r (top i) < n → ndv (subOf (bindsOf G top D bd)) G i = sol G top D i := by
    intro n
    induction n with
    | zero => intro i _ h; omega
    | succ n ih =>
      intro i hi hn
      have hk := h.ok i hi
      rw [ndv_eq hk]
      split
      · rename_i hv
        by_cases ht : top i = i
        · unfold subOf
          rw [look_free_node h hb hi hv ht, sol_eq h hr hi, ht, if_pos hv]
          rfl
        · unfold subOf
          rw [look_bound_node hb ((hb.1 i).2 ⟨hi, hv, ht⟩)]
          exact (sol_form h hr i hi).1
      · rename_i hv
        obtain ⟨⟨e1, e2, e3⟩, e4⟩ := h.cong i (top i) hi (h.lt i hi) hv (h.nonvar i hi hv) (h.idem i hi).symm
        rw [sol_eq h hr hi, if_neg (h.nonvar i hi hv), e1, e2, e3]
        have hlen : (nd G i).kids.length = (nd G (top i)).kids.length := by simpa using congrArg List.length e4
        have hmap : (nd G i).kids.map (ndv (subOf (bindsOf G top D bd)) G) = (nd G (top i)).kids.map (sol G top D) := by
          refine List.ext_getElem (by simp [hlen]) fun j h1 h2 => ?_
          have hj : j < (nd G i).kids.length := by simpa using h1
          have hj' : j < (nd G (top i)).kids.length := by simpa using h2
          rw [List.getElem_map, List.getElem_map]
          have ec : top ((nd G i).kids[j]) = top ((nd G (top i)).kids[j]) := by
            have := List.getElem_of_eq e4 (by simpa using hj)
            simpa using this
          have hc := hk.mem (List.getElem_mem hj)
          have hc' := (h.ok _ (h.lt i hi)).mem (List.getElem_mem hj')
          have hlt := (hr i hi).2 _ (List.getElem_mem hj')
          rw [ih _ hc (by rw [ec]; omega)]
          exact sol_top h hr hc hc' ec
        rw [hmap]
  exact fun i hi => hkey _ i hi (Nat.lt_succ_self _)
/-- The list is the solved form. -/
theorem closed_sol (h : Closed G E top) (hr : Ranked G top r D) {bd : List Nat} (hb : BoundIs G top bd) {F : List (Tm × Tm)} (hF : ∀ f, Unif F f ↔ ∀ p ∈ E, ndv f G p.1 = ndv f G p.2) : Sol F (bindsOf G top D bd) := by
  have hm : ∀ x ∈ bindsOf G top D bd, ∃ i, i < G.length ∧ (nd G i).tm.kind = 1 ∧ top i ≠ i ∧ x = ⟨(nd G i).tm.num, sol G top D i⟩ := fun x hx => by
    obtain ⟨i, hi, rfl⟩ := List.mem_map.1 hx
    obtain ⟨h1, h2, h3⟩ := (hb.1 i).1 hi
    exact ⟨i, h1, h2, h3, rfl⟩
  refine ⟨hb.asc, fun x hx => ?_, fun x hx v hv => ?_, ?_, fun f hf x hx => ?_, fun x hx hk => ?_⟩
  · obtain ⟨i, h1, h2, h3, rfl⟩ := hm x hx
    have := form_var (h.ok i h1).form h2
    exact ⟨(sol_form h hr i h1).1, (sol_form h hr i h1).2, this.2.1, this.2.2.1⟩
  · obtain ⟨i, h1, h2, h3, rfl⟩ := hm x hx
    obtain ⟨j, hj, hk, ht, rfl⟩ := sol_occ h hr i h1 v hv
    exact look_free_node h hb hj hk ht
  · rw [hF]
    intro p hp
    obtain ⟨h1, h2, h3⟩ := h.eqs p hp
    rw [sol_unif h hr hb _ h1, sol_unif h hr hb _ h2, sol_top h hr h1 h2 h3]
  · obtain ⟨i, h1, h2, h3, rfl⟩ := hm x hx
    show f (nd G i).tm.num = (sol G top D i).sub f
    rw [sol_gen h hr ((hF f).1 hf) i h1, ndv_eq (h.ok i h1), if_pos h2]
  · obtain ⟨i, h1, h2, h3, rfl⟩ := hm x hx
    simp only at hk ⊢
    rw [sol_eq h hr h1] at hk ⊢
    split at hk
    · rename_i hv
      rw [if_pos hv]
      show (nd G (top i)).tm.num < (nd G i).tm.num
      have hle := h.least i h1 hv
      have hne : (nd G (top i)).tm.num ≠ (nd G i).tm.num := fun e => h3 (h.varu _ _ (h.lt i h1) h1 hv h2 e)
      omega
    · rename_i hv
      exact absurd hk hv
end

/-! ### No unifier -/
theorem nodesL_map_mem {α : Type} (f : α → Tm) {l : List α} {c : α} (hc : c ∈ l) : (f c).nodes ≤ nodesL (l.map f) := nodes_mem (List.mem_map.2 ⟨c, hc, rfl⟩)
/-- An argument is smaller. -/
theorem ndv_lt {f : Int → Tm} {G : List Nd} {i c : Nat} (h : OkAt G i) (hk : (nd G i).tm.kind ≠ 1) (hc : c ∈ (nd G i).kids) : (ndv f G c).nodes < (ndv f G i).nodes := by
  have := nodesL_map_mem (ndv f G) hc
  rw [ndv_eq h, if_neg hk]
  simp only [Tm.nodes]
  omega
theorem no_infinite {U : List Nat} (μ : Nat → Nat) (hU : U ≠ []) (h : ∀ u ∈ U, ∃ u' ∈ U, μ u' < μ u) : False := by
  obtain ⟨u0, hu0⟩ := List.exists_mem_of_ne_nil U hU
  have : ∀ n u, u ∈ U → μ u < n → False := by
    intro n
    induction n with
    | zero => intro u _ h; omega
    | succ n ih =>
      intro u hu hn
      obtain ⟨u', h1, h2⟩ := h u hu
      exact ih u' h1 (by omega)
  exact this _ u0 hu0 (Nat.lt_succ_self _)
theorem no_growth {U : List Nat} (μ : Nat → Nat) (hU : U ≠ []) (h : ∀ u ∈ U, ∃ u' ∈ U, μ u < μ u') : False := by
  have hb : ∃ B, ∀ u ∈ U, μ u ≤ B := by
    clear h hU
    induction U with
    | nil => exact ⟨0, fun u hu => by cases hu⟩
    | cons x r ih =>
      obtain ⟨B, hB⟩ := ih
      refine ⟨max B (μ x), fun u hu => ?_⟩
      rcases List.mem_cons.1 hu with rfl | hu
      · omega
      · have := hB u hu; omega
  obtain ⟨B, hB⟩ := hb
  refine no_infinite (fun u => B - μ u) hU fun u hu => ?_
  obtain ⟨u', h1, h2⟩ := h u hu
  exact ⟨u', h1, by have := hB u' h1; omega⟩
/-- Nodes that differ at once. -/
theorem clash {f : Int → Tm} {G : List Nd} {i j : Nat} (hi : OkAt G i) (hj : OkAt G j) (hki : (nd G i).tm.kind ≠ 1) (hkj : (nd G j).tm.kind ≠ 1)
    (h : ¬ (((nd G i).tm.kind = (nd G j).tm.kind ∧ (nd G i).tm.num = (nd G j).tm.num ∧ (nd G i).tm.name = (nd G j).tm.name) ∧ (nd G i).kids.length = (nd G j).kids.length)) : ndv f G i ≠ ndv f G j := by
  intro e
  rw [ndv_eq hi, ndv_eq hj, if_neg hki, if_neg hkj] at e
  simp only [Tm.mk.injEq, true_and] at e
  obtain ⟨e1, e2, e3, e4⟩ := e
  exact h ⟨⟨e1, e2, e3⟩, by simpa using congrArg List.length e4⟩
theorem kids_eq {f : Int → Tm} {G : List Nd} {i j : Nat} (hi : OkAt G i) (hj : OkAt G j) (hki : (nd G i).tm.kind ≠ 1) (hkj : (nd G j).tm.kind ≠ 1) (e : ndv f G i = ndv f G j) : (nd G i).kids.map (ndv f G) = (nd G j).kids.map (ndv f G) := by
  rw [ndv_eq hi, ndv_eq hj, if_neg hki, if_neg hkj] at e
  simp only [Tm.mk.injEq, true_and] at e
  exact e.2.2.2
end Go.Proofs.YtelkmnjoboekmaaGreat
namespace Go.Proofs.YtelkmnjoboekmaaGreat
open Go.RowKit

/-! ### The frame -/
theorem fr_refl (w : World) (row : Option Nat) : w.grownBy w row := ⟨rfl, rfl, rfl, Nat.le_refl _, fun _ _ _ => rfl⟩
theorem fr_trans {a b c : World} {row : Option Nat} (h : a.grownBy b row) (k : b.grownBy c row) : a.grownBy c row :=
  ⟨k.os.trans h.os, k.tape.trans h.tape, k.output.trans h.output, Nat.le_trans h.size k.size, fun i hi hr => (k.block i (Nat.lt_of_lt_of_le hi h.size) hr).trans (h.block i hi hr)⟩
theorem fr_below {w w' : World} (h : Below w.heap.size w w') (row : Option Nat) : w.grownBy w' row := ⟨h.os, h.tape, h.output, h.size, fun k hk _ => h.block k hk⟩
theorem fr_drew {a w : World} {row : Option Nat} (h : a.grownBy w row) : a.grownBy w.drew row := ⟨h.os, h.tape, h.output, h.size, h.block⟩
theorem fr_drewN {a w : World} {row : Option Nat} (h : a.grownBy w row) (n : Nat) : a.grownBy (w.drewN n) row := ⟨h.os, h.tape, h.output, h.size, h.block⟩
theorem fr_alloc {a w : World} {row : Option Nat} (h : a.grownBy w row) (o : Obj) : a.grownBy (w.alloc o) row := fr_trans h (World.grownBy_alloc w o row)
theorem fr_set {a w : World} {row : Option Nat} (h : a.grownBy w row) {p : Addr} (hp : some p.block = row) (v : Value) : a.grownBy (w.setCell p v) row :=
  fr_trans h ⟨rfl, rfl, rfl, by simp [World.setCell], fun k _ hr => Below.heap_setCell _ _ _ _ (fun e => hr (by rw [e]; exact hp))⟩
/-- A store into a block that is new since a. -/
theorem fr_own {a w : World} {row : Option Nat} (h : a.grownBy w row) {p : Addr} (hp : a.heap.size ≤ p.block) (v : Value) : a.grownBy (w.setCell p v) row :=
  ⟨h.os, h.tape, h.output, by simpa [World.setCell] using h.size, fun k hk hr => (Below.heap_setCell _ _ _ _ (by omega)).trans (h.block k hk hr)⟩
theorem fr_cell {w w' : World} {row : Option Nat} (h : w.grownBy w' row) {p : Addr} (hp : p.block < w.heap.size) (hr : some p.block ≠ row) : w'.cell? p = w.cell? p := World.cell?_of_block (h.block _ hp hr)
theorem fr_frozen {w w' : World} {row : Option Nat} (h : w.grownBy w' row) {p : Addr} (hp : p.block < w.heap.size) (hr : some p.block ≠ row) : w'.frozen? p = w.frozen? p := World.frozen?_of_block (h.block _ hp hr)
/-- Where the row is new since a, nothing of a has turned. -/
theorem below_fr {a w w' : World} {row : Option Nat} (hb : Below a.heap.size a w) (h : w.grownBy w' row) (hr : ∀ k, row = some k → a.heap.size ≤ k) : Below a.heap.size a w' :=
  hb.trans ⟨h.os, h.tape, h.output, h.size, fun k hk => h.block k (Nat.lt_of_lt_of_le hk hb.size) (fun e => by have := hr k e.symm; omega)⟩

/-! ### Lists of numbers of nodes -/
/-- The slice at A of capacity c holds the numbers l. -/
def IRow (w : World) (A : Option Addr) (l : List Nat) (c : Nat) : Prop := l.length ≤ c ∧ c ≤ maxLen ∧ (0 < l.length → ∃ b, A = some ⟨b, 0, none⟩ ∧ ∀ j, j < l.length → w.cell? ⟨b, j, none⟩ = some (.int .i64 (l.getD j 0 : Nat)))
/-- .. in each world that has w's blocks from lo on, but for those of X. -/
def KidsAt (lo : Nat) (X : Nat → Prop) (w : World) (x : Nd) : Prop := ∀ W, Agree lo X w W → IRow W x.A x.kids x.cap
section
variable {lo : Nat} {X : Nat → Prop} {w w' : World} {x : Nd}
theorem KidsAt.at (h : KidsAt lo X w x) : IRow w x.A x.kids x.cap := h w (Agree.refl _ _ _)
theorem KidsAt.less {lo' : Nat} {Y : Nat → Prop} (h : KidsAt lo' Y w x) (hs : w.heap.size ≤ w'.heap.size) (hc : ∀ b, lo' ≤ b → b < w.heap.size → ¬ Y b → lo ≤ b ∧ ¬ X b ∧ w'.heap[b]? = w.heap[b]?) : KidsAt lo X w' x := fun W hW => h W (hW.less hs hc)
theorem KidsAt.fr {row : Option Nat} (h : KidsAt lo X w x) (k : w.grownBy w' row) (hr : ∀ b, row = some b → lo ≤ b → X b) : KidsAt lo X w' x := h.less k.size fun b h1 h2 h3 => ⟨h1, h3, k.block b h2 (fun e => h3 (hr b e.symm h1))⟩
theorem KidsAt.out {Y : Nat → Prop} (h : KidsAt lo Y w x) (hY : ∀ b, lo ≤ b → b < w.heap.size → X b → Y b) : KidsAt lo X w x := h.less (Nat.le_refl _) fun b h1 h2 h3 => ⟨h1, fun hx => h3 (hY b h1 h2 hx), rfl⟩
theorem KidsAt.low (h : KidsAt lo X w x) {lo' : Nat} (hl : lo' ≤ lo) : KidsAt lo' X w x := h.less (Nat.le_refl _) fun b h1 _ h3 => ⟨by omega, h3, rfl⟩
theorem KidsAt.next (h : KidsAt lo X w x) (k : Nat) : KidsAt lo X w { x with next := k } := h
end

/-! ### Nodes -/
def ncells (x : Nd) : List Value := [.int .i64 x.tm.kind, .int .i64 x.tm.num, .string x.tm.name, .slice x.tm.at_ x.tm.args.length x.tm.cap, .slice x.A x.kids.length x.cap, .int .i64 (x.next : Nat)]
def gcells (G : List Nd) : List Value := G.flatMap ncells
theorem ncells_length (x : Nd) : (ncells x).length = 6 := rfl
theorem gcells_len (G : List Nd) : (gcells G).length = G.length * 6 := by
  induction G with
  | nil => rfl
  | cons t r ih => simp only [gcells, List.flatMap_cons, List.length_append, ncells_length, List.length_cons] at *; omega
theorem gcells_append (l m : List Nd) : gcells (l ++ m) = gcells l ++ gcells m := by simp [gcells]
theorem ncells_one (x : Nd) : ∀ v ∈ ncells x, v.oneCell' = true := by
  intro v hv
  simp only [ncells, List.mem_cons, List.not_mem_nil, or_false] at hv
  rcases hv with rfl | rfl | rfl | rfl | rfl | rfl <;> rfl
theorem ncells_lt {x : Nd} {j : Nat} {u : Value} (h : (ncells x)[j]? = some u) : j < 6 := by
  have := (List.getElem?_eq_some_iff.1 h).1
  simpa [ncells] using this
theorem gcells_get (G : List Nd) {i j : Nat} (hi : i < G.length) (hj : j < 6) : (gcells G)[i * 6 + j]? = (ncells (nd G i))[j]? := by
  induction G generalizing i with
  | nil => simp at hi
  | cons t r ih =>
    simp only [gcells, List.flatMap_cons]
    cases i with
    | zero =>
      rw [List.getElem?_append_left (by rw [ncells_length]; omega)]
      simp [nd]
    | succ i =>
      rw [List.getElem?_append_right (by rw [ncells_length]; omega), ncells_length, show (i + 1) * 6 + j - 6 = i * 6 + j by omega]
      simpa [gcells, nd] using ih (by simpa using hi)
theorem gcells_ext {G H : List Nd} {xs : List Value} (hl : xs.length = G.length * 6) (hlen : H.length = G.length) (h : ∀ i j, i < G.length → j < 6 → xs[i * 6 + j]? = (ncells (nd H i))[j]?) : xs = gcells H := by
  refine List.ext_getElem? fun m => ?_
  by_cases hm : m < G.length * 6
  · have h1 := h (m / 6) (m % 6) (by omega) (by omega)
    rw [show m / 6 * 6 + m % 6 = m by omega] at h1
    rw [h1, ← gcells_get H (by omega) (by omega), show m / 6 * 6 + m % 6 = m by omega]
  · rw [List.getElem?_eq_none (by omega), List.getElem?_eq_none (by rw [gcells_len, hlen]; omega)]
theorem nd_set (G : List Nd) (i : Nat) (x : Nd) (k : Nat) (hi : i < G.length) : nd (G.set i x) k = if k = i then x else nd G k := by
  unfold nd
  by_cases h : k = i
  · subst h; simp [List.getD, hi]
  · rw [if_neg h]; simp [List.getD, Ne.symm h]
theorem gcells_set {G : List Nd} {i j : Nat} {x : Nd} {u : Value} (hi : i < G.length) (hj : j < 6) (h : (ncells (nd G i)).set j u = ncells x) : (gcells G).set (i * 6 + j) u = gcells (G.set i x) := by
  refine gcells_ext (G := G) (by rw [List.length_set, gcells_len]) (by rw [List.length_set]) fun i' j' hi' hj' => ?_
  rw [nd_set _ _ _ _ hi, List.getElem?_set]
  by_cases hij : i' = i
  · subst hij
    rw [if_pos rfl, ← h, List.getElem?_set]
    by_cases hjj : j = j'
    · subst hjj
      rw [if_pos rfl, if_pos rfl, if_pos (by rw [gcells_len]; omega), if_pos (by rw [ncells_length]; omega)]
    · rw [if_neg (by omega), if_neg hjj, gcells_get G hi' hj']
  · rw [if_neg (by omega), if_neg hij, gcells_get G hi' hj']
theorem node_info : (Tryz.prog.info? 66).map (fun i => (i.zero, i.size, i.bytes)) = some (some (.agg #[.int .i64 0, .int .i64 0, .string ⟨#[]⟩, .slice none 0 0, .slice none 0 0, .int .i64 0]), 6, 88) := by kernel_rfl

/-- What each node's fields are. -/
structure Fine (x : Nd) : Prop where
  kind : Fits x.tm.kind
  num : Fits x.tm.num
  name : x.tm.name.size ≤ maxLen
  args : x.tm.args.length ≤ x.tm.cap ∧ x.tm.cap ≤ maxLen
  kids : x.kids.length ≤ 2500000
/-- The graph: its box p holds the slice z of nodes. X: blocks besides the nodes' that may turn. -/
structure Gph (lo : Nat) (X : Nat → Prop) (w : World) (p : Nat) (z : Value) (G : List Nd) : Prop where
  hdr : w.cell? ⟨p, 0, none⟩ = some z
  row : w.ownsRow lo 66 6 z G.length (gcells G)
  kids : ∀ i, i < G.length → KidsAt lo (fun k => z.ownBlock = some k ∨ X k) w (nd G i)
  np : z.ownBlock ≠ some p
  fine : ∀ i, i < G.length → Fine (nd G i)
  small : G.length ≤ 2500000
section
variable {lo p : Nat} {X : Nat → Prop} {w w' : World} {z : Value} {G : List Nd}
theorem Gph.lt (h : Gph lo X w p z G) : p < w.heap.size := World.block_lt_of_cell? w _ h.hdr
theorem Gph.form (h : Gph lo X w p z G) (hn : 0 < G.length) : ∃ q cap, z = .slice (some ⟨q, 0, none⟩) G.length cap ∧ lo ≤ q ∧ q < w.heap.size ∧ G.length ≤ cap ∧ cap ≤ maxLen := by
  rcases h.row.2 with ⟨_, h1⟩ | ⟨q, cap, cur, rfl, hb, hg, hle, hcap, _⟩
  · omega
  · exact ⟨q, cap, rfl, hb, (own_lt h.row q rfl).2, hle, hcap⟩
/-- The slice's length is the number of nodes. -/
theorem Gph.slice (h : Gph lo X w p z G) : ∃ A cap, z = .slice A G.length cap ∧ G.length ≤ cap ∧ cap ≤ maxLen := by
  rcases h.row.2 with ⟨rfl, h1⟩ | ⟨q, cap, cur, rfl, hb, hg, hle, hcap, _⟩
  · exact ⟨none, 0, by rw [h1], by omega, Nat.zero_le _⟩
  · exact ⟨_, cap, rfl, hle, hcap⟩
theorem Gph.cellAt {q cap n : Nat} (h : Gph lo X w p (.slice (some ⟨q, 0, none⟩) n cap) G) {i j : Nat} {u : Value} (hi : i < G.length) (hu : (ncells (nd G i))[j]? = some u) : w.cell? ⟨q, i * 6 + j, none⟩ = some u := by
  have hj := ncells_lt hu
  have hrow := h.row
  obtain rfl : n = G.length := by
    rcases hrow.2 with ⟨e, _⟩ | ⟨_, _, _, e, _⟩
    · injection e with e; cases e
    · injection e
  have hc := World.ownsRow.cellAt hrow (i * 6 + j) (by omega)
  rw [hc]
  exact (gcells_get G hi hj).trans hu
theorem Gph.cells {q cap n : Nat} (h : Gph lo X w p (.slice (some ⟨q, 0, none⟩) n cap) G) {i : Nat} (hi : i < G.length) :
    w.cell? ⟨q, i * 6, none⟩ = some (.int .i64 (nd G i).tm.kind) ∧ w.cell? ⟨q, i * 6 + 1, none⟩ = some (.int .i64 (nd G i).tm.num) ∧ w.cell? ⟨q, i * 6 + 2, none⟩ = some (.string (nd G i).tm.name) ∧
    w.cell? ⟨q, i * 6 + 3, none⟩ = some (.slice (nd G i).tm.at_ (nd G i).tm.args.length (nd G i).tm.cap) ∧ w.cell? ⟨q, i * 6 + 4, none⟩ = some (.slice (nd G i).A (nd G i).kids.length (nd G i).cap) ∧ w.cell? ⟨q, i * 6 + 5, none⟩ = some (.int .i64 ((nd G i).next : Nat)) :=
  ⟨h.cellAt (j := 0) hi rfl, h.cellAt (j := 1) hi rfl, h.cellAt (j := 2) hi rfl, h.cellAt (j := 3) hi rfl, h.cellAt (j := 4) hi rfl, h.cellAt (j := 5) hi rfl⟩
theorem Gph.free {q cap n : Nat} (h : Gph lo X w p (.slice (some ⟨q, 0, none⟩) n cap) G) (j : Nat) : w.frozen? ⟨q, j, none⟩ = false := by
  have hrow := h.row
  obtain rfl : n = G.length := by
    rcases hrow.2 with ⟨e, _⟩ | ⟨_, _, _, e, _⟩
    · injection e with e; cases e
    · injection e
  exact World.ownsRow.frozenAt hrow j
/-- Behind what leaves the box and the row alone, and of the rest writes to blocks of X alone. -/
theorem Gph.fr {row : Option Nat} (h : Gph lo X w p z G) (k : w.grownBy w' row) (hp : row ≠ some p) (hz : z.ownBlock = none ∨ z.ownBlock ≠ row) (hX : ∀ b, row = some b → lo ≤ b → X b) : Gph lo X w' p z G :=
  ⟨(fr_cell k h.lt (Ne.symm hp)).trans h.hdr, World.ownsRow.kept h.row k hz, fun i hi => (h.kids i hi).fr k fun b hb hl => .inr (hX b hb hl), h.np, h.fine, h.small⟩
theorem Gph.below (h : Gph lo X w p z G) (hb : Below w.heap.size w w') : Gph lo X w' p z G :=
  h.fr (row := none) (fr_below hb none) (by simp) (by cases z.ownBlock <;> simp) (fun b hb => by cases hb)
theorem Gph.alloc (h : Gph lo X w p z G) (o : Obj) : Gph lo X (w.alloc o) p z G := h.below ((Below.refl _ _).alloc (Nat.le_refl _) o)
theorem Gph.drew (h : Gph lo X w p z G) : Gph lo X w.drew p z G := ⟨h.hdr, h.row, h.kids, h.np, h.fine, h.small⟩
/-- A store into a block that is new. -/
theorem Gph.out {Y : Nat → Prop} (h : Gph lo Y w p z G) (hY : ∀ b, lo ≤ b → b < w.heap.size → X b → Y b) : Gph lo X w p z G :=
  ⟨h.hdr, h.row, fun i hi => (h.kids i hi).out fun b h1 h2 h3 => h3.elim .inl (fun hx => .inr (hY b h1 h2 hx)), h.np, h.fine, h.small⟩
/-- A node of another make. -/
theorem Gph.setNext {q cap n i k : Nat} (h : Gph lo X w p (.slice (some ⟨q, 0, none⟩) n cap) G) (hi : i < G.length) :
    Gph lo X (w.setCell ⟨q, i * 6 + 5, none⟩ (.int .i64 (k : Nat))) p (.slice (some ⟨q, 0, none⟩) n cap) (G.set i { nd G i with next := k }) := by
  have hpq : p ≠ q := fun e => h.np (by rw [e]; rfl)
  have hg : w.grownBy (w.setCell ⟨q, i * 6 + 5, none⟩ (.int .i64 (k : Nat))) (some q) := fr_set (fr_refl _ _) rfl _
  refine ⟨(fr_cell hg h.lt (by simpa using hpq)).trans h.hdr, ?_, fun j hj => ?_, h.np, fun j hj => ?_, by rw [List.length_set]; exact h.small⟩
  · have hrow := h.row
    obtain rfl : n = G.length := by
      rcases hrow.2 with ⟨e, _⟩ | ⟨_, _, _, e, _⟩
      · injection e with e; cases e
      · injection e
    have hs := (World.ownsRow.stored hrow (i * 6 + 5) (.int .i64 (k : Nat))).1
    rw [gcells_set hi (by omega) (x := { nd G i with next := k }) rfl] at hs
    rw [List.length_set]
    exact hs
  · rw [List.length_set] at hj
    rw [nd_set _ _ _ _ hi]
    have h1 : ∀ j, j < G.length → KidsAt lo (fun b => (Value.slice (some ⟨q, 0, none⟩) n cap).ownBlock = some b ∨ X b) (w.setCell ⟨q, i * 6 + 5, none⟩ (.int .i64 (k : Nat))) (nd G j) := fun j hj => (h.kids j hj).fr hg fun b e _ => .inl e
    split
    · exact (h1 i hi).next k
    · exact h1 j hj
  · rw [List.length_set] at hj
    rw [nd_set _ _ _ _ hi]
    split
    · exact ⟨(h.fine i hi).kind, (h.fine i hi).num, (h.fine i hi).name, (h.fine i hi).args, (h.fine i hi).kids⟩
    · exact h.fine j hj
end
end Go.Proofs.YtelkmnjoboekmaaGreat
