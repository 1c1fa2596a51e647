/-
  Substitutions, plainly: looking up, applying, the solved form, composition, restriction, identity. No program.
  Terms in memory: a tree that lies in a world; that it stays behind calls that leave all blocks; an argument that is a term, or a slice of terms, opened.
  Regions whose calls make memory: the class of worlds in which what was there is as it was; what was laid, behind a call.
  Worlds that agree in some blocks, and what lies in them; a term that lies in blocks of a call's own.
  Bindings in memory: a list that lies in a world, behind calls that leave all blocks; an argument that is one, opened.
-/
import Derived.Test.YtelkmnjoboekmaaGreatMb1
import Derived.WalkKit
import Derived.Below
import Derived.Lib.Hide
import Derived.Deep.Draws
import Derived.Deep.Slices
import Derived.ProofKit
import Derived.OpenShut
import Derived.BigQuiet
import Derived.Lib.QuietBelow
import Derived.Test.YtelkmnjoboekmaaGreatProg
namespace Go.Proofs.YtelkmnjoboekmaaGreat
open Go

/-- A binding: a variable and a term. -/
structure Bd where
  var : Int
  tm : Tm
instance : Inhabited Bd := ⟨⟨0, default⟩⟩
def Bd.strip (x : Bd) : Bd := ⟨x.var, x.tm.strip⟩
def stripB (b : List Bd) : List Bd := b.map Bd.strip
theorem stripB_len (b : List Bd) : (stripB b).length = b.length := by simp [stripB]
theorem stripB_append (a b : List Bd) : stripB (a ++ b) = stripB a ++ stripB b := by simp [stripB]

/-! ### Looking up -/
def look : List Bd → Int → Option Tm
  | [], _ => none
  | x :: r, v => if x.var = v then some x.tm else look r v
theorem look_strip (b : List Bd) (v : Int) : look (stripB b) v = (look b v).map Tm.strip := by
  induction b with
  | nil => rfl
  | cons x r ih =>
    simp only [stripB, List.map_cons, look, Bd.strip] at ih ⊢
    split
    · rfl
    · exact ih
theorem look_none {b : List Bd} {v : Int} : look b v = none ↔ ∀ x ∈ b, x.var ≠ v := by
  induction b with
  | nil => simp [look]
  | cons x r ih =>
    simp only [look, List.mem_cons, forall_eq_or_imp]
    split
    · rename_i h; simp [h]
    · rename_i h; rw [ih]; simp [h]
theorem look_some {b : List Bd} {v : Int} {t : Tm} (h : look b v = some t) : ∃ x ∈ b, x.var = v ∧ x.tm = t := by
  induction b with
  | nil => simp [look] at h
  | cons x r ih =>
    simp only [look] at h
    split at h
    · rename_i hv; injection h with h; exact ⟨x, by simp, hv, h⟩
    · obtain ⟨y, hy, h1, h2⟩ := ih h
      exact ⟨y, by simp [hy], h1, h2⟩
theorem look_append (a b : List Bd) (v : Int) : look (a ++ b) v = (look a v).or (look b v) := by
  induction a with
  | nil => simp [look]
  | cons x r ih =>
    simp only [List.cons_append, look]
    split
    · rfl
    · exact ih
theorem look_next {b : List Bd} {j : Nat} {v : Int} (hj : j < b.length) (h : look (b.take j) v = none) : look (b.take (j + 1)) v = if (b.getD j default).var = v then some (b.getD j default).tm else none := by
  rw [List.take_succ_eq_append_getElem hj, look_append, h]
  simp [look, List.getD, List.getElem?_eq_getElem hj]
theorem look_take {b : List Bd} {j : Nat} {v : Int} {t : Tm} (h : look (b.take j) v = some t) : look b v = some t := by
  have := look_append (b.take j) (b.drop j) v
  rw [List.take_append_drop, h] at this
  simpa using this
theorem bgetD_mem {l : List Bd} {k : Nat} (h : k < l.length) : l.getD k default ∈ l := by
  simp only [List.getD, List.getElem?_eq_getElem h, Option.getD_some]
  exact List.getElem_mem h
theorem btake_next {l : List Bd} {k : Nat} (h : k < l.length) : l.take (k + 1) = l.take k ++ [l.getD k default] := by
  rw [List.take_succ_eq_append_getElem h]
  simp [List.getD, List.getElem?_eq_getElem h]
theorem bdrop_next {l : List Bd} {k : Nat} (h : k < l.length) : l.drop k = l.getD k default :: l.drop (k + 1) := by
  rw [List.drop_eq_getElem_cons h]
  simp [List.getD, List.getElem?_eq_getElem h]

/-! ### Applying -/
mutual
def Tm.app (b : List Bd) : Tm → Tm
  | .mk k n s A c a => if k = 1 then (look b n).getD (.mk k n s A c a) else if k = 2 then .mk k n s A c (appL b a) else .mk k n s A c a
def appL (b : List Bd) : List Tm → List Tm
  | [] => []
  | t :: r => t.app b :: appL b r
end
theorem appL_map (b : List Bd) (l : List Tm) : appL b l = l.map (Tm.app b) := by
  induction l with
  | nil => rfl
  | cons t r ih => simp [appL, ih]
theorem appL_len (b : List Bd) (l : List Tm) : (appL b l).length = l.length := by rw [appL_map, List.length_map]
theorem app_strip (b : List Bd) : (∀ t : Tm, t.strip.app (stripB b) = (t.app b).strip) ∧ (∀ l, appL (stripB b) (stripL l) = stripL (appL b l)) := by
  refine Tm.induct2 (fun k n s A c a ih => ?_) rfl (fun t r h1 h2 => ?_)
  · simp only [Tm.strip, Tm.app]
    split
    · rw [look_strip]
      cases look b n <;> simp [Tm.strip]
    · split
      · rw [ih]; rfl
      · rfl
  · simp only [stripL, appL, h1, h2]
theorem app_like {b b' : List Bd} {t t' : Tm} (hb : stripB b = stripB b') (ht : t.strip = t'.strip) : (t.app b).strip = (t'.app b').strip := by rw [← (app_strip b).1, hb, ht, (app_strip b').1]
theorem appL_like {b b' : List Bd} {l l' : List Tm} (hb : stripB b = stripB b') (ht : stripL l = stripL l') : stripL (appL b l) = stripL (appL b' l') := by rw [← (app_strip b).2, hb, ht, (app_strip b').2]
theorem app_of_look {b b' : List Bd} (h : ∀ v, look b v = look b' v) : (∀ t : Tm, t.app b = t.app b') ∧ (∀ l, appL b l = appL b' l) := by
  refine Tm.induct2 (fun k n s A c a ih => ?_) rfl (fun t r h1 h2 => ?_)
  · simp only [Tm.app, h, ih]
  · simp only [appL, h1, h2]
/-- Nothing is replaced where nothing is bound. -/
theorem app_id (b : List Bd) : (∀ t : Tm, (∀ v ∈ t.occ, look b v = none) → t.app b = t) ∧ (∀ l, (∀ v ∈ occL l, look b v = none) → appL b l = l) := by
  refine Tm.induct2 (fun k n s A c a ih h => ?_) (fun _ => rfl) (fun t r h1 h2 h => ?_)
  · simp only [Tm.occ] at h
    simp only [Tm.app]
    split
    · rename_i hk
      rw [if_pos hk] at h
      rw [h n (by simp)]; rfl
    · rename_i hk
      rw [if_neg hk] at h
      split
      · rename_i h2
        rw [if_pos h2] at h
        rw [ih h]
      · rfl
  · simp only [occL, List.mem_append] at h
    simp only [appL]
    rw [h1 fun v hv => h v (.inl hv), h2 fun v hv => h v (.inr hv)]
theorem app_occ (b : List Bd) : (∀ t : Tm, ∀ v ∈ (t.app b).occ, (v ∈ t.occ ∧ look b v = none) ∨ ∃ x ∈ b, v ∈ x.tm.occ) ∧ (∀ l, ∀ v ∈ occL (appL b l), (v ∈ occL l ∧ look b v = none) ∨ ∃ x ∈ b, v ∈ x.tm.occ) := by
  refine Tm.induct2 (fun k n s A c a ih v h => ?_) (fun v h => by simp [appL, occL] at h) (fun t r h1 h2 v h => ?_)
  · simp only [Tm.app] at h
    split at h
    · rename_i hk
      cases hl : look b n with
      | none =>
        rw [hl] at h
        simp only [Option.getD_none, Tm.occ, if_pos hk] at h
        refine .inl ⟨by simpa [Tm.occ, hk] using h, ?_⟩
        obtain rfl : v = n := by simpa using h
        exact hl
      | some t =>
        rw [hl] at h
        obtain ⟨x, hx, _, rfl⟩ := look_some hl
        exact .inr ⟨x, hx, h⟩
    · rename_i hk
      split at h
      · rename_i h2
        simp only [Tm.occ, if_neg hk, if_pos h2] at h ⊢
        exact ih v h
      · rename_i h2
        simp [Tm.occ, hk, h2] at h
  · simp only [appL, occL, List.mem_append] at h ⊢
    rcases h with h | h
    · rcases h1 v h with h | h
      · exact .inl ⟨.inl h.1, h.2⟩
      · exact .inr h
    · rcases h2 v h with h | h
      · exact .inl ⟨.inr h.1, h.2⟩
      · exact .inr h

/-! ### The solved form -/
def okAt (b : List Bd) (i : Nat) : Bool := (decide (0 ≤ (b.getD i default).var) && decide ((b.getD i default).var ≤ 1048576)) && ((b.getD i default).tm.right && (decide (i = 0) || decide ((b.getD (i - 1) default).var < (b.getD i default).var)))
def okUp (b : List Bd) (j : Nat) : Bool := (List.range j).all (okAt b)
theorem okUp_next (b : List Bd) (j : Nat) : okUp b (j + 1) = (okUp b j && okAt b j) := by simp [okUp, List.range_succ]
theorem okUp_stop {b : List Bd} {j n : Nat} (hj : j < n) (h : okAt b j = false) : okUp b n = false := by
  unfold okUp
  rw [List.all_eq_false]
  exact ⟨j, by simpa using hj, by simp [h]⟩
def apartB (b : List Bd) : Bool := b.all fun x => x.tm.occ.all fun v => (look b v).isNone
def rightS (b : List Bd) : Bool := okUp b b.length && apartB b
def Asc (b : List Bd) : Prop := b.Pairwise fun x y => x.var < y.var
/-- The same, step by step. -/
theorem asc_iff (b : List Bd) : Asc b ↔ ∀ i, i + 1 < b.length → (b.getD i default).var < (b.getD (i + 1) default).var := by
  induction b with
  | nil => simp [Asc]
  | cons x r ih =>
    constructor
    · intro h i hi
      cases i with
      | zero =>
        have := (List.pairwise_cons.1 h).1 (r.getD 0 default) (bgetD_mem (by simpa using hi))
        simpa using this
      | succ i => simpa using (ih.1 (List.pairwise_cons.1 h).2) i (by simpa using hi)
    · intro h
      have hr : Asc r := ih.2 fun i hi => by simpa using h (i + 1) (by simpa using hi)
      refine List.pairwise_cons.2 ⟨fun y hy => ?_, hr⟩
      cases r with
      | nil => simp at hy
      | cons z q =>
        have h0 : x.var < z.var := by simpa using h 0 (by simp)
        rcases List.mem_cons.1 hy with rfl | hy
        · exact h0
        · exact Int.lt_trans h0 ((List.pairwise_cons.1 hr).1 y hy)
theorem okUp_iff (b : List Bd) : okUp b b.length = true ↔ (∀ x ∈ b, 0 ≤ x.var ∧ x.var ≤ 1048576 ∧ x.tm.right = true) ∧ Asc b := by
  rw [asc_iff]
  simp only [okUp, List.all_eq_true, List.mem_range, okAt, Bool.and_eq_true, Bool.or_eq_true, decide_eq_true_eq]
  constructor
  · intro h
    refine ⟨fun x hx => ?_, fun i hi => ?_⟩
    · obtain ⟨i, hi, e⟩ := List.mem_iff_getElem.1 hx
      have := h i hi
      simp only [List.getD, List.getElem?_eq_getElem hi, Option.getD_some, e] at this
      exact ⟨this.1.1, this.1.2, this.2.1⟩
    · rcases (h (i + 1) hi).2.2 with h' | h'
      · omega
      · simpa using h'
  · rintro ⟨h1, h2⟩ i hi
    have := h1 _ (bgetD_mem hi)
    refine ⟨⟨this.1, this.2.1⟩, this.2.2, ?_⟩
    cases i with
    | zero => exact .inl rfl
    | succ i => exact .inr (by simpa using h2 i hi)
theorem apart_iff (b : List Bd) : apartB b = true ↔ ∀ x ∈ b, ∀ v ∈ x.tm.occ, look b v = none := by
  simp only [apartB, List.all_eq_true, Option.isNone_iff_eq_none]
theorem rightS_iff (b : List Bd) : rightS b = true ↔ ((∀ x ∈ b, 0 ≤ x.var ∧ x.var ≤ 1048576 ∧ x.tm.right = true) ∧ Asc b) ∧ ∀ x ∈ b, ∀ v ∈ x.tm.occ, look b v = none := by
  rw [rightS, Bool.and_eq_true, okUp_iff, apart_iff]
theorem occ_strip : (∀ t : Tm, t.strip.occ = t.occ) ∧ (∀ l, occL (stripL l) = occL l) := by
  refine Tm.induct2 (fun k n s A c a ih => ?_) rfl (fun t r h1 h2 => ?_)
  · simp only [Tm.strip, Tm.occ, ih]
  · simp only [stripL, occL, h1, h2]
theorem stripB_getD (b : List Bd) {i : Nat} (hi : i < b.length) : (stripB b).getD i default = (b.getD i default).strip := by
  simp [stripB, List.getD, hi]
theorem rightS_strip (b : List Bd) : rightS (stripB b) = rightS b := by
  have hm : ∀ p : Bd → Prop, (∀ x ∈ stripB b, p x) ↔ ∀ x ∈ b, p x.strip := fun p => by simp [stripB]
  rw [Bool.eq_iff_iff, rightS_iff, rightS_iff]
  simp only [hm]
  simp only [Bd.strip, right_strip, occ_strip.1, look_strip, Option.map_eq_none_iff]
  have : Asc (stripB b) ↔ Asc b := by unfold Asc stripB; rw [List.pairwise_map]; rfl
  rw [this]
theorem rightS_like {a b : List Bd} (h : stripB a = stripB b) : rightS a = rightS b := by rw [← rightS_strip, h, rightS_strip]

/-! ### Lists without repeated variables -/
def Dis (b : List Bd) : Prop := b.Pairwise fun x y => x.var ≠ y.var
theorem Asc.dis {b : List Bd} (h : Asc b) : Dis b := h.imp fun h => by omega
theorem look_mem {b : List Bd} (h : Dis b) {x : Bd} (hx : x ∈ b) : look b x.var = some x.tm := by
  induction b with
  | nil => cases hx
  | cons y r ih =>
    have hp := List.pairwise_cons.1 h
    simp only [look]
    rcases List.mem_cons.1 hx with rfl | hx
    · simp
    · rw [if_neg (hp.1 x hx)]; exact ih hp.2 hx
theorem Dis.perm {a b : List Bd} (h : Dis a) (p : a.Perm b) : Dis b := (p.pairwise_iff (fun h => Ne.symm h)).1 h
theorem look_perm {a b : List Bd} (h : Dis a) (p : a.Perm b) (v : Int) : look a v = look b v := by
  cases hv : look a v with
  | none =>
    rw [look_none] at hv
    exact (look_none.2 fun x hx => hv x (p.mem_iff.2 hx)).symm
  | some t =>
    obtain ⟨x, hx, rfl, rfl⟩ := look_some hv
    exact (look_mem (h.perm p) (p.mem_iff.1 hx)).symm
theorem asc_unique {a b : List Bd} (ha : Asc a) (hb : Asc b) (p : a.Perm b) : a = b := by
  induction a generalizing b with
  | nil => exact (List.Perm.nil_eq p)
  | cons x r ih =>
    cases b with
    | nil => exact absurd p.length_eq (by simp)
    | cons y q =>
      have pa := List.pairwise_cons.1 ha
      have pb := List.pairwise_cons.1 hb
      have e : x = y := by
        have h1 : x ∈ y :: q := p.mem_iff.1 (by simp)
        have h2 : y ∈ x :: r := p.mem_iff.2 (by simp)
        rcases List.mem_cons.1 h1 with h1 | h1
        · exact h1
        · rcases List.mem_cons.1 h2 with h2 | h2
          · exact h2.symm
          · have := pa.1 y h2
            have := pb.1 x h1
            omega
      subst e
      rw [ih pa.2 pb.2 (List.Perm.cons_inv p)]

/-! ### Sorting by insertion -/
def insB (x : Bd) : List Bd → List Bd
  | [] => [x]
  | y :: r => if y.var < x.var then y :: insB x r else x :: y :: r
def sortB (l : List Bd) : List Bd := l.foldl (fun acc x => insB x acc) []
theorem insB_perm (x : Bd) (l : List Bd) : (insB x l).Perm (x :: l) := by
  induction l with
  | nil => exact List.Perm.refl _
  | cons y r ih =>
    simp only [insB]
    split
    · exact (List.Perm.cons y ih).trans (List.Perm.swap x y r)
    · exact List.Perm.refl _
theorem insB_asc {x : Bd} {l : List Bd} (h : Asc l) (hx : ∀ y ∈ l, y.var ≠ x.var) : Asc (insB x l) := by
  induction l with
  | nil => simp [insB, Asc]
  | cons y r ih =>
    have hp := List.pairwise_cons.1 h
    simp only [insB]
    split
    · rename_i hlt
      refine List.pairwise_cons.2 ⟨fun z hz => ?_, ih hp.2 fun z hz => hx z (by simp [hz])⟩
      rcases List.mem_cons.1 ((insB_perm x r).mem_iff.1 hz) with rfl | hz
      · exact hlt
      · exact hp.1 z hz
    · rename_i hge
      have hlt : x.var < y.var := by have := hx y (by simp); omega
      refine List.pairwise_cons.2 ⟨fun z hz => ?_, h⟩
      rcases List.mem_cons.1 hz with rfl | hz
      · exact hlt
      · exact Int.lt_trans hlt (hp.1 z hz)
theorem foldB_perm (l acc : List Bd) : (l.foldl (fun acc x => insB x acc) acc).Perm (l ++ acc) := by
  induction l generalizing acc with
  | nil => exact List.Perm.refl _
  | cons x r ih =>
    rw [List.foldl_cons]
    refine (ih _).trans ?_
    exact ((insB_perm x acc).append_left r).trans List.perm_middle
theorem sortB_perm (l : List Bd) : (sortB l).Perm l := by
  have := foldB_perm l []
  rw [List.append_nil] at this
  exact this
theorem foldB_asc (l acc : List Bd) (ha : Asc acc) (hd : Dis (l ++ acc)) : Asc (l.foldl (fun acc x => insB x acc) acc) := by
  induction l generalizing acc with
  | nil => exact ha
  | cons x r ih =>
    rw [List.foldl_cons]
    have hp := List.pairwise_cons.1 hd
    refine ih _ (insB_asc ha fun y hy => Ne.symm (hp.1 y (by simp [hy]))) ?_
    exact Dis.perm hd (((insB_perm x acc).append_left r).trans List.perm_middle).symm
theorem sortB_asc {l : List Bd} (hd : Dis l) : Asc (sortB l) := foldB_asc l [] (by simp [Asc]) (by simpa using hd)
theorem sortB_id {l : List Bd} (h : Asc l) : sortB l = l := asc_unique (sortB_asc h.dis) h (sortB_perm l)
theorem sortB_of {l l' : List Bd} (hd : Dis l) (p : l'.Perm l) (ha : Asc l') : l' = sortB l := asc_unique ha (sortB_asc hd) (p.trans (sortB_perm l).symm)
theorem insB_strip (x : Bd) (l : List Bd) : stripB (insB x l) = insB x.strip (stripB l) := by
  induction l with
  | nil => rfl
  | cons y r ih =>
    simp only [stripB, insB, List.map_cons, Bd.strip] at ih ⊢
    split
    · simp only [List.map_cons, ih, Bd.strip]
    · rfl
theorem sortB_strip (l : List Bd) : stripB (sortB l) = sortB (stripB l) := by
  unfold sortB
  have : ∀ acc, stripB (l.foldl (fun acc x => insB x acc) acc) = (stripB l).foldl (fun acc x => insB x acc) (stripB acc) := by
    induction l with
    | nil => intro acc; rfl
    | cons x r ih =>
      intro acc
      rw [List.foldl_cons, ih, insB_strip]
      rfl
  exact this []
theorem dis_strip (l : List Bd) : Dis (stripB l) ↔ Dis l := by unfold Dis stripB; rw [List.pairwise_map]; rfl

/-! ### Composition -/
def isV (t : Tm) (v : Int) : Bool := decide (t.kind = 1) && decide (t.num = v)
def keepA (c : List Bd) (x : Bd) : Option Bd := if isV (x.tm.app c) x.var then none else some ⟨x.var, x.tm.app c⟩
def compA (a c : List Bd) : List Bd := a.filterMap (keepA c)
def compC (a c : List Bd) : List Bd := c.filter fun x => (look a x.var).isNone
def compL (a c : List Bd) : List Bd := compA a c ++ compC a c
def allRight (b : List Bd) : Bool := b.all fun x => x.tm.right
def comp (a c : List Bd) : List Bd × Int :=
  if (rightS a && rightS c) = false then ([], 2)
  else if allRight (sortB (compL a c)) = false then ([], 6)
  else if rightS (sortB (compL a c)) = false then ([], 2)
  else (sortB (compL a c), 0)
theorem comp_ok {a c o : List Bd} (h : comp a c = (o, 0)) : rightS a = true ∧ rightS c = true ∧ o = sortB (compL a c) ∧ rightS o = true := by
  unfold comp at h
  split at h
  · simp at h
  · rename_i h1
    split at h
    · simp at h
    · split at h
      · simp at h
      · rename_i h3
        simp only [Prod.mk.injEq, and_true] at h
        have : (rightS a && rightS c) = true := by simpa using h1
        rw [Bool.and_eq_true] at this
        exact ⟨this.1, this.2, h.symm, by rw [← h]; simpa using h3⟩
theorem compA_var {a c : List Bd} {y : Bd} (h : y ∈ compA a c) : ∃ x ∈ a, x.var = y.var ∧ y.tm = x.tm.app c ∧ isV (x.tm.app c) x.var = false := by
  obtain ⟨x, hx, e⟩ := List.mem_filterMap.1 h
  unfold keepA at e
  split at e
  · cases e
  · rename_i hv
    injection e with e
    exact ⟨x, hx, by rw [← e], by rw [← e], by simpa using hv⟩
theorem compL_dis {a c : List Bd} (ha : Dis a) (hc : Dis c) : Dis (compL a c) := by
  unfold compL Dis
  rw [List.pairwise_append]
  refine ⟨?_, hc.sublist List.filter_sublist, fun x hx y hy => ?_⟩
  · unfold compA
    rw [List.pairwise_filterMap]
    refine ha.imp fun {x y} hxy b hb b' hb' => ?_
    have e1 : b.var = x.var := by unfold keepA at hb; split at hb; cases hb; injection hb with hb; rw [← hb]
    have e2 : b'.var = y.var := by unfold keepA at hb'; split at hb'; cases hb'; injection hb' with hb'; rw [← hb']
    rw [e1, e2]; exact hxy
  · obtain ⟨z, hz, e, _⟩ := compA_var hx
    obtain ⟨_, hn⟩ := List.mem_filter.1 hy
    rw [Option.isNone_iff_eq_none, look_none] at hn
    rw [← e]
    exact hn z hz
theorem comp_dis {a c : List Bd} (ha : rightS a = true) (hc : rightS c = true) : Dis (compL a c) := compL_dis ((rightS_iff a).1 ha).1.2.dis ((rightS_iff c).1 hc).1.2.dis
/-- What a composition binds. -/
theorem comp_look {a c : List Bd} (ha : Dis a) (hc : Dis c) (v : Int) : look (sortB (compL a c)) v = match look a v with
    | some x => if isV (x.app c) v then none else some (x.app c)
    | none => look c v := by
  rw [look_perm ((compL_dis ha hc).perm (sortB_perm _).symm) (sortB_perm _)]
  cases hv : look a v with
  | some t =>
    obtain ⟨x, hx, rfl, rfl⟩ := look_some hv
    simp only
    split
    · rename_i hi
      refine look_none.2 fun y hy e => ?_
      rcases List.mem_append.1 hy with hy | hy
      · obtain ⟨z, hz, e1, e2, e3⟩ := compA_var hy
        have : z.tm = x.tm := by
          have h1 := look_mem ha hz
          rw [e1, e, hv] at h1
          injection h1 with h1
          exact h1.symm
        rw [this, e1, e, hi] at e3
        cases e3
      · obtain ⟨_, hn⟩ := List.mem_filter.1 hy
        rw [e, hv] at hn
        cases hn
    · rename_i hi
      have hm : (⟨x.var, x.tm.app c⟩ : Bd) ∈ compL a c := List.mem_append.2 (.inl (List.mem_filterMap.2 ⟨x, hx, by unfold keepA; rw [if_neg hi]⟩))
      exact look_mem (compL_dis ha hc) hm
  | none =>
    simp only
    cases hc' : look c v with
    | some t =>
      obtain ⟨x, hx, rfl, rfl⟩ := look_some hc'
      exact look_mem (compL_dis ha hc) (List.mem_append.2 (.inr (List.mem_filter.2 ⟨hx, by rw [hv]; rfl⟩)))
    | none =>
      rw [look_none] at hv hc' ⊢
      intro y hy
      rcases List.mem_append.1 hy with hy | hy
      · obtain ⟨z, hz, e1, _⟩ := compA_var hy
        rw [← e1]; exact hv z hz
      · exact hc' y (List.mem_filter.1 hy).1
theorem keepA_strip (c : List Bd) (x : Bd) : (keepA c x).map Bd.strip = keepA (stripB c) x.strip := by
  have e := (app_strip c).1 x.tm
  have ev : isV (x.tm.strip.app (stripB c)) x.var = isV (x.tm.app c) x.var := by rw [e]; unfold isV; cases x.tm.app c; rfl
  show (if isV (x.tm.app c) x.var then none else some (⟨x.var, x.tm.app c⟩ : Bd)).map Bd.strip = if isV (x.tm.strip.app (stripB c)) x.var then none else some (⟨x.var, x.tm.strip.app (stripB c)⟩ : Bd)
  rw [ev, e]
  cases isV (x.tm.app c) x.var <;> rfl
theorem compL_strip (a c : List Bd) : stripB (compL a c) = compL (stripB a) (stripB c) := by
  have hA : stripB (compA a c) = compA (stripB a) (stripB c) := by
    show (a.filterMap (keepA c)).map Bd.strip = (a.map Bd.strip).filterMap (keepA (stripB c))
    rw [List.map_filterMap, List.filterMap_map]
    exact congrArg (fun f => List.filterMap f a) (funext fun x => keepA_strip c x)
  have hC : stripB (compC a c) = compC (stripB a) (stripB c) := by
    show (c.filter fun x => (look a x.var).isNone).map Bd.strip = (c.map Bd.strip).filter fun x => (look (stripB a) x.var).isNone
    rw [List.filter_map]
    have : (fun x : Bd => (look a x.var).isNone) = (fun x : Bd => (look (stripB a) x.var).isNone) ∘ Bd.strip := by
      funext x
      show (look a x.var).isNone = (look (stripB a) x.var).isNone
      rw [look_strip]
      cases look a x.var <;> rfl
    rw [this]
  unfold compL
  rw [stripB_append, hA, hC]
theorem allRight_strip (b : List Bd) : allRight (stripB b) = allRight b := by
  simp only [allRight, stripB, List.all_map]
  congr 1
  funext x
  simp [Function.comp, Bd.strip, right_strip]
theorem comp_like {a a' c c' : List Bd} (ha : stripB a = stripB a') (hc : stripB c = stripB c') : (comp a c).2 = (comp a' c').2 ∧ stripB (comp a c).1 = stripB (comp a' c').1 := by
  have h1 : rightS a = rightS a' := rightS_like ha
  have h2 : rightS c = rightS c' := rightS_like hc
  have h3 : stripB (sortB (compL a c)) = stripB (sortB (compL a' c')) := by rw [sortB_strip, sortB_strip, compL_strip, compL_strip, ha, hc]
  have h4 : allRight (sortB (compL a c)) = allRight (sortB (compL a' c')) := by rw [← allRight_strip, h3, allRight_strip]
  have h5 := rightS_like h3
  unfold comp
  rw [h1, h2, h4, h5]
  repeat' split
  all_goals first | exact ⟨rfl, rfl⟩ | exact ⟨rfl, h3⟩
/-- Whether all terms are valid hangs on what the first substitution becomes alone. -/
theorem allRight_perm {a b : List Bd} (p : a.Perm b) : allRight a = allRight b := by
  unfold allRight
  rw [Bool.eq_iff_iff, List.all_eq_true, List.all_eq_true]
  exact ⟨fun h x hx => h x (p.mem_iff.2 hx), fun h x hx => h x (p.mem_iff.1 hx)⟩
theorem app_var_right {a c : List Bd} {x : Bd} (ha : rightS a = true) (hc : rightS c = true) (hx : x ∈ a) {v : Int} (hv : isV (x.tm.app c) v = true) : (x.tm.app c).right = true := by
  have hr := (((rightS_iff a).1 ha).1.1 x hx).2.2
  clear hx
  generalize x.tm = t at *
  obtain ⟨k, n, s, A, q, l⟩ := t
  simp only [Tm.app] at hv ⊢
  split
  · cases hl : look c n with
    | none => exact hr
    | some t =>
      obtain ⟨y, hy, _, rfl⟩ := look_some hl
      exact (((rightS_iff c).1 hc).1.1 y hy).2.2
  · rename_i hk
    rw [if_neg hk] at hv
    split
    · rename_i h2
      rw [if_pos h2] at hv
      simp [isV, Tm.kind, hk] at hv
    · exact hr
theorem comp_allRight {a c : List Bd} (ha : rightS a = true) (hc : rightS c = true) : allRight (sortB (compL a c)) = a.all fun x => (x.tm.app c).right := by
  rw [allRight_perm (sortB_perm _), Bool.eq_iff_iff]
  unfold allRight
  rw [List.all_eq_true, List.all_eq_true]
  constructor
  · intro h x hx
    cases hv : isV (x.tm.app c) x.var with
    | true => exact app_var_right ha hc hx hv
    | false => exact h _ (List.mem_append.2 (.inl (List.mem_filterMap.2 ⟨x, hx, by unfold keepA; rw [if_neg (by simp [hv])]⟩)))
  · intro h y hy
    rcases List.mem_append.1 hy with hy | hy
    · obtain ⟨x, hx, _, e, _⟩ := compA_var hy
      rw [e]; exact h x hx
    · exact (((rightS_iff c).1 hc).1.1 y (List.mem_filter.1 hy).1).2.2
end Go.Proofs.YtelkmnjoboekmaaGreat
namespace Go.Proofs.YtelkmnjoboekmaaGreat
open Go.ChangeShapes Go.WideShapes Go.ChangeAt Go.RowKit

theorem add_plain (b o k : Nat) : (⟨b, o, none⟩ : Addr).add k = ⟨b, o + k, none⟩ := by unfold Addr.add; split <;> simp_all
theorem below_drewN {B : Nat} {a w : World} (h : Below B a w) (n : Nat) : Below B a (w.drewN n) := ⟨h.os, h.tape, h.output, h.size, h.block⟩

theorem undrew {B : Nat} {w w' : World} (h : Below B w.drew w') : Below B w w' := ⟨h.os, h.tape, h.output, h.size, h.block⟩
theorem undrewN {B n : Nat} {w w' : World} (h : Below B (w.drewN n) w') : Below B w w' := ⟨h.os, h.tape, h.output, h.size, h.block⟩
/-- A struct of four cells that was laid, behind a call. -/
theorem box4 {w w' : World} {v0 v1 v2 v3 : Value} {T : TypeId} (hb : Below (w.alloc (.cells #[v0, v1, v2, v3] T)).heap.size (w.alloc (.cells #[v0, v1, v2, v3] T)) w') :
    w'.cell? ⟨w.heap.size, 0, none⟩ = some v0 ∧ w'.cell? ⟨w.heap.size, 1, none⟩ = some v1 ∧ w'.cell? ⟨w.heap.size, 2, none⟩ = some v2 ∧ w'.cell? ⟨w.heap.size, 3, none⟩ = some v3 ∧ Below w.heap.size w w' := by
  have h : ∀ j, w'.cell? ⟨w.heap.size, j, none⟩ = (#[v0, v1, v2, v3] : Array Value)[j]? := fun j => by
    rw [hb.cell (p := ⟨w.heap.size, j, none⟩) (by simp), World.cell?_alloc_at _ _ _ _ rfl]
  exact ⟨h 0, h 1, h 2, h 3, ((Below.refl _ _).alloc (Nat.le_refl _) _).trans (hb.mono (by simp))⟩

abbrev Tm.val (t : Tm) : Value := .agg #[.int .i64 t.kind, .int .i64 t.num, .string t.name, .slice t.at_ t.args.length t.cap]
def Tm.cells (t : Tm) : List Value := [.int .i64 t.kind, .int .i64 t.num, .string t.name, .slice t.at_ t.args.length t.cap]

/-- An int. -/
def Fits (n : Int) : Prop := -9223372036854775808 ≤ n ∧ n ≤ 9223372036854775807

mutual
def Tm.At (w : World) : Tm → Prop
  | .mk k n s A c a => (Fits k ∧ Fits n ∧ s.size ≤ maxLen) ∧ a.length ≤ c ∧ c ≤ maxLen ∧ (0 < a.length → ∃ b o, A = some ⟨b, o, none⟩ ∧ RowAt w a b o)
def RowAt (w : World) : List Tm → Nat → Nat → Prop
  | [], _, _ => True
  | t :: r, b, o => (w.cell? ⟨b, o, none⟩ = some (.int .i64 t.kind) ∧ w.cell? ⟨b, o + 1, none⟩ = some (.int .i64 t.num) ∧ w.cell? ⟨b, o + 2, none⟩ = some (.string t.name) ∧
      w.cell? ⟨b, o + 3, none⟩ = some (.slice t.at_ t.args.length t.cap)) ∧ t.At w ∧ RowAt w r b (o + 4)
end
/-- The slice at A of capacity c holds the terms l. -/
def Lst (w : World) (A : Option Addr) (l : List Tm) (c : Nat) : Prop := l.length ≤ c ∧ c ≤ maxLen ∧ (0 < l.length → ∃ b o, A = some ⟨b, o, none⟩ ∧ RowAt w l b o)
theorem At_iff (w : World) (t : Tm) : t.At w ↔ (Fits t.kind ∧ Fits t.num ∧ t.name.size ≤ maxLen) ∧ Lst w t.at_ t.args t.cap := by
  cases t with
  | mk k n s A c a => simp only [Tm.At, Lst, Tm.kind, Tm.num, Tm.name, Tm.at_, Tm.args, Tm.cap]

theorem RowAt.get {w : World} {l : List Tm} {b o : Nat} (h : RowAt w l b o) {i : Nat} (hi : i < l.length) :
    (w.cell? ⟨b, o + i * 4, none⟩ = some (.int .i64 (l.getD i default).kind) ∧ w.cell? ⟨b, o + i * 4 + 1, none⟩ = some (.int .i64 (l.getD i default).num) ∧ w.cell? ⟨b, o + i * 4 + 2, none⟩ = some (.string (l.getD i default).name) ∧
      w.cell? ⟨b, o + i * 4 + 3, none⟩ = some (.slice (l.getD i default).at_ (l.getD i default).args.length (l.getD i default).cap)) ∧ (l.getD i default).At w := by
  induction l generalizing o i with
  | nil => simp at hi
  | cons t r ih =>
    simp only [RowAt] at h
    cases i with
    | zero => simpa using ⟨h.1, h.2.1⟩
    | succ i =>
      have := ih h.2.2 (i := i) (by simpa using hi)
      rw [show o + 4 + i * 4 = o + (i + 1) * 4 by omega] at this
      simpa using this
theorem RowAt.of {w : World} {l : List Tm} {b o : Nat}
    (h : ∀ i, i < l.length → (∀ j u, (l.getD i default).cells[j]? = some u → w.cell? ⟨b, o + 4 * i + j, none⟩ = some u) ∧ (l.getD i default).At w) : RowAt w l b o := by
  induction l generalizing o with
  | nil => simp [RowAt]
  | cons t r ih =>
    simp only [RowAt]
    have h0 := h 0 (by simp)
    refine ⟨⟨h0.1 0 _ rfl, h0.1 1 _ rfl, h0.1 2 _ rfl, h0.1 3 _ rfl⟩, h0.2, ih fun i hi => ?_⟩
    have := h (i + 1) (by simpa using hi)
    rw [show o + 4 * (i + 1) = o + 4 + 4 * i by omega] at this
    simpa using this

theorem At_keep {w w' : World} (hb : Below w.heap.size w w') : (∀ t : Tm, t.At w → t.At w') ∧ (∀ (l : List Tm) b o, RowAt w l b o → RowAt w' l b o) := by
  have hc : ∀ p v, w.cell? p = some v → w'.cell? p = some v := fun p v h => by rw [hb.cell (World.block_lt_of_cell? w _ h)]; exact h
  refine Tm.induct2 (fun k n s A c a ih h => ?_) (fun _ _ _ => by simp [RowAt]) (fun t r h1 h2 b o h => ?_)
  · simp only [Tm.At] at h ⊢
    refine ⟨h.1, h.2.1, h.2.2.1, fun hn => ?_⟩
    obtain ⟨b, o, e, hr⟩ := h.2.2.2 hn
    exact ⟨b, o, e, ih b o hr⟩
  · simp only [RowAt] at h ⊢
    exact ⟨⟨hc _ _ h.1.1, hc _ _ h.1.2.1, hc _ _ h.1.2.2.1, hc _ _ h.1.2.2.2⟩, h1 h.2.1, h2 b (o + 4) h.2.2⟩
theorem Tm.At.below {w w' : World} {t : Tm} (h : t.At w) (hb : Below w.heap.size w w') : t.At w' := (At_keep hb).1 t h
theorem Lst.below {w w' : World} {A : Option Addr} {l : List Tm} {c : Nat} (h : Lst w A l c) (hb : Below w.heap.size w w') : Lst w' A l c :=
  ⟨h.1, h.2.1, fun hn => by
    obtain ⟨b, o, e, hr⟩ := h.2.2 hn
    exact ⟨b, o, e, (At_keep hb).2 _ _ _ hr⟩⟩
theorem Tm.At.alloc {w : World} {t : Tm} (h : t.At w) (o : Obj) : t.At (w.alloc o) := h.below ((Below.refl _ _).alloc (Nat.le_refl _) o)
theorem Tm.At.lst {w : World} {t : Tm} (h : t.At w) : Lst w t.at_ t.args t.cap := ((At_iff w t).1 h).2
theorem Lst.get {w : World} {A : Option Addr} {l : List Tm} {c : Nat} (h : Lst w A l c) {i : Nat} (hi : i < l.length) : ∃ b o, A = some ⟨b, o, none⟩ ∧
    (w.cell? ⟨b, o + i * 4, none⟩ = some (.int .i64 (l.getD i default).kind) ∧ w.cell? ⟨b, o + i * 4 + 1, none⟩ = some (.int .i64 (l.getD i default).num) ∧ w.cell? ⟨b, o + i * 4 + 2, none⟩ = some (.string (l.getD i default).name) ∧
      w.cell? ⟨b, o + i * 4 + 3, none⟩ = some (.slice (l.getD i default).at_ (l.getD i default).args.length (l.getD i default).cap)) ∧ (l.getD i default).At w := by
  obtain ⟨b, o, e, hr⟩ := h.2.2 (by omega)
  exact ⟨b, o, e, hr.get hi⟩
theorem Lst.mem {w : World} {A : Option Addr} {l : List Tm} {c : Nat} (h : Lst w A l c) {t : Tm} (ht : t ∈ l) : t.At w := by
  obtain ⟨i, hi, e⟩ := List.mem_iff_getElem.1 ht
  obtain ⟨_, _, _, _, h2⟩ := h.get hi
  simpa [List.getD, List.getElem?_eq_getElem hi, e] using h2
theorem Lst.nil (w : World) : Lst w none [] 0 := ⟨Nat.le_refl _, Nat.zero_le _, fun h => absurd h (by simp)⟩
theorem Lst.used {w : World} {t : Tm} (h : t.At w) (hk : t.kind = 2) : Lst w t.at_ t.used t.cap := by
  unfold Tm.used
  rw [if_pos hk]
  exact h.lst

/-- Where the arguments that a term uses lie. -/
def Tm.uat (t : Tm) : Option Addr := if t.kind = 2 then t.at_ else none
def Tm.ucap (t : Tm) : Nat := if t.kind = 2 then t.cap else 0
theorem Tm.At.ulst {w : World} {t : Tm} (h : t.At w) : Lst w t.uat t.used t.ucap := by
  unfold Tm.used Tm.uat Tm.ucap
  by_cases hk : t.kind = 2
  · rw [if_pos hk, if_pos hk, if_pos hk]; exact h.lst
  · rw [if_neg hk, if_neg hk, if_neg hk]; exact Lst.nil w

/-! ### Arguments opened -/
theorem int_fits {x : Int} (h : (Lit.int .i64 x).wf = true) : Fits x := by
  have h1 : IntKind.i64.min = -9223372036854775808 := rfl
  have h2 : IntKind.i64.max = 9223372036854775807 := rfl
  simp only [Lit.wf, Bool.and_eq_true, decide_eq_true_eq] at h
  unfold Fits
  omega

/-- What is asked of the program's types: int, string, []api.Term, api.Term. -/
structure Types (P : Program) (I S L T : TypeId) : Prop where
  int : P.underlying I = some (.int .i64)
  str : P.underlying S = some .string
  lst : P.underlying L = some (.slice T)
  tm : ∃ f0 f1 f2 f3 : Field, P.underlying T = some (.struct #[f0, f1, f2, f3]) ∧ (f0.type = I ∧ f0.offset = 0) ∧ (f1.type = I ∧ f1.offset = 1) ∧ (f2.type = S ∧ f2.offset = 2) ∧ (f3.type = L ∧ f3.offset = 3)
  cI : P.cellsOf I = 1
  cS : P.cellsOf S = 1
  cL : P.cellsOf L = 1
  cT : P.cellsOf T = 4

section
variable {H : Type} {enc : TypeId × Value → H} {P : Program} {W : World} {base : Nat} {spare : Nat → Bool} {held : Bool} {I S L T : TypeId}

theorem lst_of (hy : Types P I S L T) {n : Nat} {v : Value} {x : DataW H × List MemPlace}
    (ih : ∀ m, m < n → ∀ cs x, DataW.trod enc P W base spare held m T cs = some x → ∃ t : Tm, cs = t.cells ∧ t.At W) (h : DataW.trod enc P W base spare held n L [v] = some x) :
    ∃ (A : Option Addr) (l : List Tm) (c : Nat), v = .slice A l.length c ∧ Lst W A l c := by
  rcases DataW.trod_slice hy.lst h with ⟨hcs, _⟩ | ⟨a, len, cap, elems, rest, n', hn, hcs, _, _, hl, hm, hlen, hel, _⟩
  · obtain rfl : v = .slice none 0 0 := by simpa using hcs
    exact ⟨none, [], 0, rfl, Lst.nil W⟩
  · obtain rfl : v = .slice (some a) len cap := by simpa using hcs
    obtain ⟨f, hf⟩ := Deep.choose_lt (α := Tm) (p := fun i t => W.cells? base (a.add (i * 4)) 4 = some t.cells ∧ t.At W) (n := len) (fun i hi => by
      have h1 := hel i hi
      rw [hy.cT, List.getElem?_eq_getElem (by omega)] at h1
      obtain ⟨cs', h2, h3⟩ := Option.bind_eq_some_iff.1 h1
      obtain ⟨t, rfl, ht⟩ := ih n' (by omega) _ _ h3
      exact ⟨t, h2, ht⟩)
    have hll : ((List.range len).map f).length = len := by simp
    refine ⟨some a, (List.range len).map f, cap, by rw [hll], by rw [hll]; exact hl, hm, fun h0 => ?_⟩
    rw [hll] at h0
    obtain ⟨b, o, sp⟩ := a
    have c0 := (World.cells?_some (hf 0 h0).1).2.2 0 (by omega)
    obtain rfl : sp = none := by
      rw [show (f 0).cells[0]? = some (.int .i64 (f 0).kind) from rfl] at c0
      simpa [Addr.add] using World.cell?_spot c0
    refine ⟨b, o, rfl, RowAt.of fun i hi => ?_⟩
    rw [hll] at hi
    have e : ((List.range len).map f).getD i default = f i := by simp [List.getD, hi]
    rw [e]
    refine ⟨fun j u hu => ?_, (hf i hi).2⟩
    have hj : j < 4 := by
      have := (List.getElem?_eq_some_iff.1 hu).1
      simpa [Tm.cells] using this
    have := (World.cells?_some (hf i hi).1).2.2 j hj
    rw [add_plain, add_plain, hu, Nat.mul_comm i 4] at this
    exact this
theorem tm_of (hy : Types P I S L T) : ∀ (n : Nat) (cs : List Value) (x : DataW H × List MemPlace), DataW.trod enc P W base spare held n T cs = some x → ∃ t : Tm, cs = t.cells ∧ t.At W := by
  intro n
  induction n using Nat.strongRecOn with
  | _ n ih =>
    intro cs x h
    obtain ⟨f0, f1, f2, f3, hT, ⟨t0, o0⟩, ⟨t1, o1⟩, ⟨t2, o2⟩, ⟨t3, o3⟩⟩ := hy.tm
    obtain ⟨xs, m, hn, _, hcl, hxl, hg⟩ := DataW.trod_struct hT h
    rw [hy.cT] at hcl
    match cs, hcl with
    | [c0, c1, c2, c3], _ =>
      have hxs : xs.length = 4 := hxl
      have g0 := hg 0 f0 rfl
      have g1 := hg 1 f1 rfl
      have g2 := hg 2 f2 rfl
      have g3 := hg 3 f3 rfl
      rw [t0, o0, hy.cI] at g0
      rw [t1, o1, hy.cI] at g1
      rw [t2, o2, hy.cS] at g2
      rw [t3, o3, hy.cL] at g3
      rw [List.getElem?_eq_getElem (by omega)] at g0 g1 g2 g3
      obtain ⟨k, hk, _, wk⟩ := DataW.trod_int hy.int g0
      obtain ⟨q, hq, _, wq⟩ := DataW.trod_int hy.int g1
      obtain ⟨s, hs, _, ws⟩ := DataW.trod_string hy.str g2
      obtain ⟨A, l, c, hv, hl⟩ := lst_of (v := c3) hy (fun m' hm' => ih m' (by omega)) g3
      obtain rfl : c0 = .int .i64 k := by simpa using hk
      obtain rfl : c1 = .int .i64 q := by simpa using hq
      obtain rfl : c2 = .string s := by simpa using hs
      subst hv
      exact ⟨.mk k q s A c l, rfl, (At_iff _ _).2 ⟨⟨int_fits wk, int_fits wq, ws⟩, hl⟩⟩
/-- A term by value. -/
theorem open_tm (hy : Types P I S L T) {r : Reach} {b0 : Nat} {v : Value} {d : DataW H} {p : List MemPlace} (hv : Value.okWide P W r b0 T v) (h : DataW.Trod enc P W base spare held T v d p) :
    ∃ t : Tm, v = t.val ∧ t.At W := by
  obtain ⟨f0, f1, f2, f3, hT, _⟩ := hy.tm
  obtain ⟨cs, rfl, hsz⟩ := okWide_struct hT hv
  obtain ⟨fuel, hf⟩ := h
  obtain ⟨t, ht, hat⟩ := tm_of hy _ _ _ hf
  refine ⟨t, ?_, hat⟩
  have : cs.toList = t.cells := ht
  rw [← Array.toArray_toList (xs := cs), this]
  rfl
/-- A slice of terms, one cell. -/
theorem open_lst (hy : Types P I S L T) {n : Nat} {v : Value} {x : DataW H × List MemPlace} (h : DataW.trod enc P W base spare held n L [v] = some x) :
    ∃ (A : Option Addr) (l : List Tm) (c : Nat), v = .slice A l.length c ∧ Lst W A l c := lst_of hy (fun m _ => tm_of hy m) h
end
end Go.Proofs.YtelkmnjoboekmaaGreat
namespace Go.Proofs.YtelkmnjoboekmaaGreat
open Go.RowKit Go.Sort

theorem regrown_below {W w1 : World} (h : ∃ p : Regrown, w1 = grow (redrawn W p.d) p.os) : Below W.heap.size W w1 := by
  obtain ⟨p, rfl⟩ := h
  exact below_regrown _ _ _
theorem withBelow {P : Program} {f : FuncId} {args : Array Value} {w : World} {v : Value} (h : Calls P f args w fun e w' => e = .returned v ∧ w = w') : Calls P f args w fun e w' => e = .returned v ∧ Below w.heap.size w w' :=
  h.mono fun _ _ ⟨he, hw⟩ => ⟨he, by rw [← hw]; exact Below.refl _ _⟩
/-- What was laid, in each world of the class, and behind a call. -/
theorem boxedN (w : World) (cs : Array Value) (T : TypeId) (j : Nat) (v : Value) (h : cs[j]? = some v) : ∀ d os, (grow (redrawn (w.alloc (.cells cs T)) d) os).cell? ⟨w.heap.size, j, none⟩ = some v :=
  cell_regrown (by rw [World.cell?_alloc_at _ _ _ _ rfl, h])
theorem boxN {w w' : World} {cs : Array Value} {T : TypeId} (hb : Below (w.alloc (.cells cs T)).heap.size (w.alloc (.cells cs T)) w') (j : Nat) (v : Value) (h : cs[j]? = some v) : w'.cell? ⟨w.heap.size, j, none⟩ = some v := by
  rw [hb.cell (p := ⟨w.heap.size, j, none⟩) (by simp), World.cell?_alloc_at _ _ _ _ rfl, h]
theorem below1 (w : World) (o : Obj) : Below w.heap.size w (w.alloc o) := (Below.refl _ _).alloc (Nat.le_refl _) _
end Go.Proofs.YtelkmnjoboekmaaGreat
namespace Go.Proofs.YtelkmnjoboekmaaGreat
open Go.RowKit

/-- W has w's blocks from lo on, but for those of X. -/
def Agree (lo : Nat) (X : Nat → Prop) (w W : World) : Prop := ∀ b, lo ≤ b → b < w.heap.size → ¬ X b → W.heap[b]? = w.heap[b]?
theorem Agree.refl (lo : Nat) (X : Nat → Prop) (w : World) : Agree lo X w w := fun _ _ _ _ => rfl
theorem Agree.cell {lo : Nat} {X : Nat → Prop} {w W : World} (h : Agree lo X w W) {p : Addr} (h1 : lo ≤ p.block) (h2 : p.block < w.heap.size) (h3 : ¬ X p.block) : W.cell? p = w.cell? p := by
  have := h p.block h1 h2 h3
  simp only [World.cell?, this]
abbrev No : Nat → Prop := fun _ => False
abbrev Is (b : Nat) : Nat → Prop := fun k => k = b
/-- In each world of B that has w's blocks from lo on, but for those of X, the term lies. -/
def Lie (B : World → Prop) (lo : Nat) (X : Nat → Prop) (w : World) (t : Tm) : Prop := ∀ W, B W → Agree lo X w W → t.At W
abbrev Any : World → Prop := fun _ => True
section
variable {B : World → Prop} {lo : Nat} {X : Nat → Prop} {w w' : World} {t : Tm}
theorem Lie.at (h : Lie B lo X w t) (hB : B w) : t.At w := h w hB (Agree.refl _ _ _)
theorem Agree.less {W : World} (h : Agree lo X w' W) {lo' : Nat} {Y : Nat → Prop} (hs : w.heap.size ≤ w'.heap.size) (hc : ∀ b, lo' ≤ b → b < w.heap.size → ¬ Y b → lo ≤ b ∧ ¬ X b ∧ w'.heap[b]? = w.heap[b]?) : Agree lo' Y w W := fun b h1 h2 h3 =>
  (h b (hc b h1 h2 h3).1 (Nat.lt_of_lt_of_le h2 hs) (hc b h1 h2 h3).2.1).trans (hc b h1 h2 h3).2.2
theorem Lie.less {lo' : Nat} {Y : Nat → Prop} (h : Lie B lo' Y w t) (hs : w.heap.size ≤ w'.heap.size) (hc : ∀ b, lo' ≤ b → b < w.heap.size → ¬ Y b → lo ≤ b ∧ ¬ X b ∧ w'.heap[b]? = w.heap[b]?) : Lie B lo X w' t := fun W hB hW => h W hB (hW.less hs hc)
theorem Lie.below (h : Lie B lo X w t) (k : Below w.heap.size w w') : Lie B lo X w' t := h.less k.size fun b h1 h2 h3 => ⟨h1, h3, k.block b h2⟩
theorem Lie.low (h : Lie B lo X w t) {lo' : Nat} (hl : lo' ≤ lo) : Lie B lo' X w t := h.less (Nat.le_refl _) fun b h1 _ h3 => ⟨by omega, h3, rfl⟩
theorem Lie.out {Y : Nat → Prop} (h : Lie B lo Y w t) (hY : ∀ b, lo ≤ b → b < w.heap.size → X b → Y b) : Lie B lo X w t := h.less (Nat.le_refl _) fun b h1 h2 h3 => ⟨h1, fun hx => h3 (hY b h1 h2 hx), rfl⟩
theorem Lie.set (h : Lie B lo X w t) {p : Addr} (hp : p.block < lo ∨ X p.block) (v : Value) : Lie B lo X (w.setCell p v) t := h.less (by simp [World.setCell]) fun b h1 _ h3 => ⟨h1, h3, Below.heap_setCell _ _ _ _ (fun e => hp.elim (fun h => by omega) (fun h => h3 (e ▸ h)))⟩
theorem Lie.alloc (h : Lie B lo X w t) (o : Obj) : Lie B lo X (w.alloc o) t := h.below ((Below.refl _ _).alloc (Nat.le_refl _) o)
/-- A block that is laid behind it is not the term's. -/
theorem Lie.new (h : Lie B lo X w t) (o : Obj) : Lie B lo (fun k => X k ∨ k = w.heap.size) (w.alloc o) t := h.less (by simp) fun b h1 h2 h3 => ⟨h1, fun hx => hx.elim h3 (by omega), Below.heap_alloc _ _ _ h2⟩
theorem Lie.any (ht : ∀ W, B W → t.At W) : Lie B lo X w t := fun W hB _ => ht W hB
theorem Lie.of (h : Lie Any lo X w t) : Lie B lo X w t := fun W _ hW => h W trivial hW
/-- A term that lies in blocks that are newer than block T. -/
theorem Lie.new_is {T : Nat} (h : Lie B lo No w t) (hT : T < lo) : Lie B lo (Is T) w t := h.out fun b h1 _ h3 => by have : b = T := h3; omega
end
/-- All blocks that were there are as they were, but for block R. -/
structure Keeps (R : Nat) (w w' : World) : Prop where
  os : w'.os = w.os
  tape : w'.tape = w.tape
  output : w'.output = w.output
  size : w.heap.size ≤ w'.heap.size
  block : ∀ k, k < w.heap.size → k ≠ R → w'.heap[k]? = w.heap[k]?

theorem Keeps.refl (R : Nat) (w : World) : Keeps R w w := ⟨rfl, rfl, rfl, Nat.le_refl _, fun _ _ _ => rfl⟩
theorem Keeps.trans {R : Nat} {a b c : World} (h : Keeps R a b) (k : Keeps R b c) : Keeps R a c :=
  ⟨k.os.trans h.os, k.tape.trans h.tape, k.output.trans h.output, Nat.le_trans h.size k.size, fun i hi hr => (k.block i (Nat.lt_of_lt_of_le hi h.size) hr).trans (h.block i hi hr)⟩
theorem Below.keeps {w w' : World} (h : Below w.heap.size w w') (R : Nat) : Keeps R w w' := ⟨h.os, h.tape, h.output, h.size, fun k hk _ => h.block k hk⟩
theorem Keeps.drew {R : Nat} {a w : World} (h : Keeps R a w) : Keeps R a w.drew := ⟨h.os, h.tape, h.output, h.size, h.block⟩
theorem Keeps.drewN {R : Nat} {a w : World} (h : Keeps R a w) (n : Nat) : Keeps R a (w.drewN n) := ⟨h.os, h.tape, h.output, h.size, h.block⟩
theorem Keeps.alloc {R : Nat} {a w : World} (h : Keeps R a w) (o : Obj) : Keeps R a (w.alloc o) := h.trans (Below.keeps ((Below.refl _ _).alloc (Nat.le_refl _) o) R)
theorem Keeps.set {R : Nat} {a w : World} (h : Keeps R a w) (q : Nat) (sp : Option Nat) (v : Value) : Keeps R a (w.setCell ⟨R, q, sp⟩ v) :=
  h.trans ⟨rfl, rfl, rfl, by simp [World.setCell], fun k _ hr => Below.heap_setCell _ _ _ _ hr⟩
/-- A store into a block that is new since a. -/
theorem Keeps.own {R : Nat} {a w : World} (h : Keeps R a w) {p : Addr} (hp : a.heap.size ≤ p.block) (v : Value) : Keeps R a (w.setCell p v) :=
  ⟨h.os, h.tape, h.output, by simpa [World.setCell] using h.size, fun k hk hr => (Below.heap_setCell _ _ _ _ (by omega)).trans (h.block k hk hr)⟩
theorem Keeps.cell {R : Nat} {w w' : World} (h : Keeps R w w') {p : Addr} (hp : p.block < w.heap.size) (hr : p.block ≠ R) : w'.cell? p = w.cell? p := by
  have := h.block p.block hp hr
  simp only [World.cell?, this]
theorem Keeps.frozen {R : Nat} {w w' : World} (h : Keeps R w w') {p : Addr} (hp : p.block < w.heap.size) (hr : p.block ≠ R) : w'.frozen? p = w.frozen? p := by
  have := h.block p.block hp hr
  simp only [World.frozen?, this]
/-- A reader that is new since a: below a's end nothing has turned. -/
theorem Keeps.below {R : Nat} {a w w' : World} (hb : Below a.heap.size a w) (h : Keeps R w w') (hR : a.heap.size ≤ R) : Below a.heap.size a w' :=
  hb.trans ⟨h.os, h.tape, h.output, h.size, fun k hk => h.block k (Nat.lt_of_lt_of_le hk hb.size) (by omega)⟩

theorem Keeps.grown {R : Nat} {a w w' : World} {row : Option Nat} (h : Keeps R a w) (hg : w.grownBy w' row) (hr : ∀ k, row = some k → a.heap.size ≤ k) : Keeps R a w' :=
  ⟨hg.os.trans h.os, hg.tape.trans h.tape, hg.output.trans h.output, Nat.le_trans h.size hg.size, fun k hk hR =>
    (hg.block k (Nat.lt_of_lt_of_le hk h.size) (fun e => by have := hr k e.symm; omega)).trans (h.block k hk hR)⟩

theorem Lie.keeps {B : World → Prop} {lo R : Nat} {X : Nat → Prop} {w w' : World} {t : Tm} (h : Lie B lo X w t) (k : Keeps R w w') (hR : R < lo ∨ X R) : Lie B lo X w' t := h.less k.size fun b h1 h2 h3 => ⟨h1, h3, k.block b h2 (fun e => hR.elim (fun h => by omega) (fun h => h3 (e ▸ h)))⟩
theorem keepv {w w' : World} (hb : Below w.heap.size w w') {p : Addr} {v : Value} (h : w.cell? p = some v) : w'.cell? p = some v := by
  rw [hb.cell (World.block_lt_of_cell? w _ h)]; exact h
end Go.Proofs.YtelkmnjoboekmaaGreat
namespace Go.Proofs.YtelkmnjoboekmaaGreat
open Go.ChangeShapes Go.WideShapes Go.ChangeAt Go.RowKit

abbrev Bd.val (x : Bd) : Value := .agg #[.int .i64 x.var, .int .i64 x.tm.kind, .int .i64 x.tm.num, .string x.tm.name, .slice x.tm.at_ x.tm.args.length x.tm.cap]
def Bd.cells (x : Bd) : List Value := [.int .i64 x.var, .int .i64 x.tm.kind, .int .i64 x.tm.num, .string x.tm.name, .slice x.tm.at_ x.tm.args.length x.tm.cap]
/-- The rows of the bindings at block b, from cell o on. -/
def BRow (w : World) (l : List Bd) (b o : Nat) : Prop := ∀ i, i < l.length → (∀ j u, (l.getD i default).cells[j]? = some u → w.cell? ⟨b, o + i * 5 + j, none⟩ = some u) ∧ Fits (l.getD i default).var ∧ (l.getD i default).tm.At w
/-- The slice at A of capacity c holds the bindings l. -/
def BLst (w : World) (A : Option Addr) (l : List Bd) (c : Nat) : Prop := l.length ≤ c ∧ c ≤ maxLen ∧ (0 < l.length → ∃ b o, A = some ⟨b, o, none⟩ ∧ BRow w l b o)
section
variable {w w' : World} {A : Option Addr} {l : List Bd} {c b o : Nat}
theorem BRow.below (h : BRow w l b o) (hb : Below w.heap.size w w') : BRow w' l b o := fun i hi => ⟨fun j u hu => keepv hb ((h i hi).1 j u hu), (h i hi).2.1, (h i hi).2.2.below hb⟩
theorem BLst.below (h : BLst w A l c) (hb : Below w.heap.size w w') : BLst w' A l c := ⟨h.1, h.2.1, fun hn => by
  obtain ⟨b, o, e, hr⟩ := h.2.2 hn
  exact ⟨b, o, e, hr.below hb⟩⟩
theorem BRow.get (h : BRow w l b o) {i : Nat} (hi : i < l.length) :
    (w.cell? ⟨b, o + i * 5, none⟩ = some (.int .i64 (l.getD i default).var) ∧ w.cell? ⟨b, o + i * 5 + 1, none⟩ = some (.int .i64 (l.getD i default).tm.kind) ∧ w.cell? ⟨b, o + i * 5 + 2, none⟩ = some (.int .i64 (l.getD i default).tm.num) ∧ w.cell? ⟨b, o + i * 5 + 3, none⟩ = some (.string (l.getD i default).tm.name) ∧
      w.cell? ⟨b, o + i * 5 + 4, none⟩ = some (.slice (l.getD i default).tm.at_ (l.getD i default).tm.args.length (l.getD i default).tm.cap)) ∧ Fits (l.getD i default).var ∧ (l.getD i default).tm.At w := by
  have h1 := h i hi
  exact ⟨⟨h1.1 0 _ rfl, h1.1 1 _ rfl, h1.1 2 _ rfl, h1.1 3 _ rfl, h1.1 4 _ rfl⟩, h1.2⟩
theorem BLst.get (h : BLst w A l c) {i : Nat} (hi : i < l.length) : ∃ b o, A = some ⟨b, o, none⟩ ∧
    (w.cell? ⟨b, o + i * 5, none⟩ = some (.int .i64 (l.getD i default).var) ∧ w.cell? ⟨b, o + i * 5 + 1, none⟩ = some (.int .i64 (l.getD i default).tm.kind) ∧ w.cell? ⟨b, o + i * 5 + 2, none⟩ = some (.int .i64 (l.getD i default).tm.num) ∧ w.cell? ⟨b, o + i * 5 + 3, none⟩ = some (.string (l.getD i default).tm.name) ∧
      w.cell? ⟨b, o + i * 5 + 4, none⟩ = some (.slice (l.getD i default).tm.at_ (l.getD i default).tm.args.length (l.getD i default).tm.cap)) ∧ Fits (l.getD i default).var ∧ (l.getD i default).tm.At w := by
  obtain ⟨b, o, e, hr⟩ := h.2.2 (by omega)
  exact ⟨b, o, e, hr.get hi⟩
theorem BLst.mem (h : BLst w A l c) {x : Bd} (hx : x ∈ l) : Fits x.var ∧ x.tm.At w := by
  obtain ⟨i, hi, e⟩ := List.mem_iff_getElem.1 hx
  obtain ⟨_, _, _, _, h2⟩ := h.get hi
  simpa [List.getD, List.getElem?_eq_getElem hi, e] using h2
theorem BLst.len (h : BLst w A l c) : l.length ≤ 9223372036854775807 := by have := h.1; have := h.2.1; unfold maxLen at *; omega
theorem BLst.nil (w : World) : BLst w none [] 0 := ⟨Nat.le_refl _, Nat.zero_le _, fun h => absurd h (by simp)⟩
theorem BLst.look (h : BLst w A l c) {v : Int} {t : Tm} (ht : look l v = some t) : t.At w := by
  obtain ⟨x, hx, _, rfl⟩ := look_some ht
  exact (h.mem hx).2
end

/-! ### Arguments opened -/
/-- What is asked of the program's types: int, string, []api.Term, api.Term, api.Bind, api.Binds. -/
structure TypesB (P : Program) (I S L T B BL : TypeId) : Prop where
  tms : Types P I S L T
  lst : P.underlying BL = some (.slice B)
  bd : ∃ f0 f1 : Field, P.underlying B = some (.struct #[f0, f1]) ∧ (f0.type = I ∧ f0.offset = 0) ∧ (f1.type = T ∧ f1.offset = 1)
  cB : P.cellsOf B = 5
  cBL : P.cellsOf BL = 1

section
variable {H : Type} {enc : TypeId × Value → H} {P : Program} {W : World} {base : Nat} {spare : Nat → Bool} {held : Bool} {I S L T B BL : TypeId}
theorem bd_of (hy : TypesB P I S L T B BL) (n : Nat) (cs : List Value) (x : DataW H × List MemPlace) (h : DataW.trod enc P W base spare held n B cs = some x) : ∃ y : Bd, cs = y.cells ∧ Fits y.var ∧ y.tm.At W := by
  obtain ⟨f0, f1, hT, ⟨t0, o0⟩, ⟨t1, o1⟩⟩ := hy.bd
  obtain ⟨xs, m, hn, _, hcl, hxl, hg⟩ := DataW.trod_struct hT h
  rw [hy.cB] at hcl
  match cs, hcl with
  | [c0, c1, c2, c3, c4], _ =>
    have hxs : xs.length = 2 := hxl
    have g0 := hg 0 f0 rfl
    have g1 := hg 1 f1 rfl
    rw [t0, o0, hy.tms.cI] at g0
    rw [t1, o1, hy.tms.cT] at g1
    rw [List.getElem?_eq_getElem (by omega)] at g0 g1
    obtain ⟨k, hk, _, wk⟩ := DataW.trod_int hy.tms.int g0
    obtain ⟨t, ht, hat⟩ := tm_of hy.tms _ _ _ g1
    obtain rfl : c0 = .int .i64 k := by simpa using hk
    have ht' : [c1, c2, c3, c4] = t.cells := by simpa using ht
    exact ⟨⟨k, t⟩, by rw [ht']; rfl, int_fits wk, hat⟩
theorem bds_of (hy : TypesB P I S L T B BL) {n : Nat} {v : Value} {x : DataW H × List MemPlace} (h : DataW.trod enc P W base spare held n BL [v] = some x) :
    ∃ (A : Option Addr) (l : List Bd) (c : Nat), v = .slice A l.length c ∧ BLst W A l c := by
  rcases DataW.trod_slice hy.lst h with ⟨hcs, _⟩ | ⟨a, len, cap, elems, rest, n', hn, hcs, _, _, hl, hm, hlen, hel, _⟩
  · obtain rfl : v = .slice none 0 0 := by simpa using hcs
    exact ⟨none, [], 0, rfl, BLst.nil W⟩
  · obtain rfl : v = .slice (some a) len cap := by simpa using hcs
    obtain ⟨f, hf⟩ := Deep.choose_lt (α := Bd) (p := fun i y => W.cells? base (a.add (i * 5)) 5 = some y.cells ∧ Fits y.var ∧ y.tm.At W) (n := len) (fun i hi => by
      have h1 := hel i hi
      rw [hy.cB, List.getElem?_eq_getElem (by omega)] at h1
      obtain ⟨cs', h2, h3⟩ := Option.bind_eq_some_iff.1 h1
      obtain ⟨y, rfl, hy'⟩ := bd_of hy _ _ _ h3
      exact ⟨y, h2, hy'⟩)
    have hll : ((List.range len).map f).length = len := by simp
    refine ⟨some a, (List.range len).map f, cap, by rw [hll], by rw [hll]; exact hl, hm, fun h0 => ?_⟩
    rw [hll] at h0
    obtain ⟨b, o, sp⟩ := a
    have c0 := (World.cells?_some (hf 0 h0).1).2.2 0 (by omega)
    obtain rfl : sp = none := by
      rw [show (f 0).cells[0]? = some (.int .i64 (f 0).var) from rfl] at c0
      simpa [Addr.add] using World.cell?_spot c0
    refine ⟨b, o, rfl, fun i hi => ?_⟩
    rw [hll] at hi
    have e : ((List.range len).map f).getD i default = f i := by simp [List.getD, hi]
    rw [e]
    refine ⟨fun j u hu => ?_, (hf i hi).2⟩
    have hj : j < 5 := by
      have := (List.getElem?_eq_some_iff.1 hu).1
      simpa [Bd.cells] using this
    have := (World.cells?_some (hf i hi).1).2.2 j hj
    rw [add_plain, add_plain, hu] at this
    exact this
end
theorem typesB : TypesB Tryz.prog 3 9 24 26 41 23 :=
  ⟨⟨Tryz.underlying3, Tryz.underlying9, Tryz.underlying24, ⟨_, _, _, _, Tryz.underlying26, ⟨rfl, rfl⟩, ⟨rfl, rfl⟩, ⟨rfl, rfl⟩, ⟨rfl, rfl⟩⟩, by kernel_rfl, by kernel_rfl, by kernel_rfl, by kernel_rfl⟩,
    Tryz.underlying23, ⟨_, _, Tryz.underlying41, ⟨rfl, rfl⟩, ⟨rfl, rfl⟩⟩, by kernel_rfl, by kernel_rfl⟩
end Go.Proofs.YtelkmnjoboekmaaGreat
