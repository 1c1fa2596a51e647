/-
  Substitutions, plainly: looking up, applying, the solved form, composition, restriction, identity. No program.
-/
import Derived.Test.YtgialbcohkpogaaGreatTmStrip
namespace Go.Proofs.YtgialbcohkpogaaGreat
open Go

/-- A binding: a variable and a term. -/
structure Bd where
  var : Int
  tm : Tm
instance : Inhabited Bd := ⟨⟨0, default⟩⟩
def Bd.strip (x : Bd) : Bd := ⟨x.var, x.tm.strip⟩
def stripB (b : List Bd) : List Bd := b.map Bd.strip
theorem stripB_len (b : List Bd) : (stripB b).length = b.length := by simp [stripB]
theorem stripB_append (a b : List Bd) : stripB (a ++ b) = stripB a ++ stripB b := by simp [stripB]

/-! ### Looking up -/
def look : List Bd → Int → Option Tm
  | [], _ => none
  | x :: r, v => if x.var = v then some x.tm else look r v
theorem look_strip (b : List Bd) (v : Int) : look (stripB b) v = (look b v).map Tm.strip := by
  induction b with
  | nil => rfl
  | cons x r ih =>
    simp only [stripB, List.map_cons, look, Bd.strip] at ih ⊢
    split
    · rfl
    · exact ih
theorem look_none {b : List Bd} {v : Int} : look b v = none ↔ ∀ x ∈ b, x.var ≠ v := by
  induction b with
  | nil => simp [look]
  | cons x r ih =>
    simp only [look, List.mem_cons, forall_eq_or_imp]
    split
    · rename_i h; simp [h]
    · rename_i h; rw [ih]; simp [h]
theorem look_some {b : List Bd} {v : Int} {t : Tm} (h : look b v = some t) : ∃ x ∈ b, x.var = v ∧ x.tm = t := by
  induction b with
  | nil => simp [look] at h
  | cons x r ih =>
    simp only [look] at h
    split at h
    · rename_i hv; injection h with h; exact ⟨x, by simp, hv, h⟩
    · obtain ⟨y, hy, h1, h2⟩ := ih h
      exact ⟨y, by simp [hy], h1, h2⟩
theorem look_append (a b : List Bd) (v : Int) : look (a ++ b) v = (look a v).or (look b v) := by
  induction a with
  | nil => simp [look]
  | cons x r ih =>
    simp only [List.cons_append, look]
    split
    · rfl
    · exact ih
theorem look_next {b : List Bd} {j : Nat} {v : Int} (hj : j < b.length) (h : look (b.take j) v = none) : look (b.take (j + 1)) v = if (b.getD j default).var = v then some (b.getD j default).tm else none := by
  rw [List.take_succ_eq_append_getElem hj, look_append, h]
  simp [look, List.getD, List.getElem?_eq_getElem hj]
theorem look_take {b : List Bd} {j : Nat} {v : Int} {t : Tm} (h : look (b.take j) v = some t) : look b v = some t := by
  have := look_append (b.take j) (b.drop j) v
  rw [List.take_append_drop, h] at this
  simpa using this
theorem bgetD_mem {l : List Bd} {k : Nat} (h : k < l.length) : l.getD k default ∈ l := by
  simp only [List.getD, List.getElem?_eq_getElem h, Option.getD_some]
  exact List.getElem_mem h
theorem btake_next {l : List Bd} {k : Nat} (h : k < l.length) : l.take (k + 1) = l.take k ++ [l.getD k default] := by
  rw [List.take_succ_eq_append_getElem h]
  simp [List.getD, List.getElem?_eq_getElem h]
theorem bdrop_next {l : List Bd} {k : Nat} (h : k < l.length) : l.drop k = l.getD k default :: l.drop (k + 1) := by
  rw [List.drop_eq_getElem_cons h]
  simp [List.getD, List.getElem?_eq_getElem h]

/-! ### Applying -/
mutual
def Tm.app (b : List Bd) : Tm → Tm
  | .mk k n s A c a => if k = 1 then (look b n).getD (.mk k n s A c a) else if k = 2 then .mk k n s A c (appL b a) else .mk k n s A c a
def appL (b : List Bd) : List Tm → List Tm
  | [] => []
  | t :: r => t.app b :: appL b r
end
theorem appL_map (b : List Bd) (l : List Tm) : appL b l = l.map (Tm.app b) := by
  induction l with
  | nil => rfl
  | cons t r ih => simp [appL, ih]
theorem appL_len (b : List Bd) (l : List Tm) : (appL b l).length = l.length := by rw [appL_map, List.length_map]
theorem app_strip (b : List Bd) : (∀ t : Tm, t.strip.app (stripB b) = (t.app b).strip) ∧ (∀ l, appL (stripB b) (stripL l) = stripL (appL b l)) := by
  refine Tm.induct2 (fun k n s A c a ih => ?_) rfl (fun t r h1 h2 => ?_)
  · simp only [Tm.strip, Tm.app]
    split
    · rw [look_strip]
      cases look b n <;> simp [Tm.strip]
    · split
      · rw [ih]; rfl
      · rfl
  · simp only [stripL, appL, h1, h2]
theorem app_like {b b' : List Bd} {t t' : Tm} (hb : stripB b = stripB b') (ht : t.strip = t'.strip) : (t.app b).strip = (t'.app b').strip := by rw [← (app_strip b).1, hb, ht, (app_strip b').1]
theorem appL_like {b b' : List Bd} {l l' : List Tm} (hb : stripB b = stripB b') (ht : stripL l = stripL l') : stripL (appL b l) = stripL (appL b' l') := by rw [← (app_strip b).2, hb, ht, (app_strip b').2]
theorem app_of_look {b b' : List Bd} (h : ∀ v, look b v = look b' v) : (∀ t : Tm, t.app b = t.app b') ∧ (∀ l, appL b l = appL b' l) := by
  refine Tm.induct2 (fun k n s A c a ih => ?_) rfl (fun t r h1 h2 => ?_)
  · simp only [Tm.app, h, ih]
  · simp only [appL, h1, h2]
/-- Nothing is replaced where nothing is bound. -/
theorem app_id (b : List Bd) : (∀ t : Tm, (∀ v ∈ t.occ, look b v = none) → t.app b = t) ∧ (∀ l, (∀ v ∈ occL l, look b v = none) → appL b l = l) := by
  refine Tm.induct2 (fun k n s A c a ih h => ?_) (fun _ => rfl) (fun t r h1 h2 h => ?_)
  · simp only [Tm.occ] at h
    simp only [Tm.app]
    split
    · rename_i hk
      rw [if_pos hk] at h
      rw [h n (by simp)]; rfl
    · rename_i hk
      rw [if_neg hk] at h
      split
      · rename_i h2
        rw [if_pos h2] at h
        rw [ih h]
      · rfl
  · simp only [occL, List.mem_append] at h
    simp only [appL]
    rw [h1 fun v hv => h v (.inl hv), h2 fun v hv => h v (.inr hv)]
theorem app_occ (b : List Bd) : (∀ t : Tm, ∀ v ∈ (t.app b).occ, (v ∈ t.occ ∧ look b v = none) ∨ ∃ x ∈ b, v ∈ x.tm.occ) ∧ (∀ l, ∀ v ∈ occL (appL b l), (v ∈ occL l ∧ look b v = none) ∨ ∃ x ∈ b, v ∈ x.tm.occ) := by
  refine Tm.induct2 (fun k n s A c a ih v h => ?_) (fun v h => by simp [appL, occL] at h) (fun t r h1 h2 v h => ?_)
  · simp only [Tm.app] at h
    split at h
    · rename_i hk
      cases hl : look b n with
      | none =>
        rw [hl] at h
        simp only [Option.getD_none, Tm.occ, if_pos hk] at h
        refine .inl ⟨by simpa [Tm.occ, hk] using h, ?_⟩
        obtain rfl : v = n := by simpa using h
        exact hl
      | some t =>
        rw [hl] at h
        obtain ⟨x, hx, _, rfl⟩ := look_some hl
        exact .inr ⟨x, hx, h⟩
    · rename_i hk
      split at h
      · rename_i h2
        simp only [Tm.occ, if_neg hk, if_pos h2] at h ⊢
        exact ih v h
      · rename_i h2
        simp [Tm.occ, hk, h2] at h
  · simp only [appL, occL, List.mem_append] at h ⊢
    rcases h with h | h
    · rcases h1 v h with h | h
      · exact .inl ⟨.inl h.1, h.2⟩
      · exact .inr h
    · rcases h2 v h with h | h
      · exact .inl ⟨.inr h.1, h.2⟩
      · exact .inr h

/-! ### The solved form -/
def okAt (b : List Bd) (i : Nat) : Bool := (decide (0 ≤ (b.getD i default).var) && decide ((b.getD i default).var ≤ 1048576)) && ((b.getD i default).tm.right && (decide (i = 0) || decide ((b.getD (i - 1) default).var < (b.getD i default).var)))
def okUp (b : List Bd) (j : Nat) : Bool := (List.range j).all (okAt b)
theorem okUp_next (b : List Bd) (j : Nat) : okUp b (j + 1) = (okUp b j && okAt b j) := by simp [okUp, List.range_succ]
theorem okUp_stop {b : List Bd} {j n : Nat} (hj : j < n) (h : okAt b j = false) : okUp b n = false := by
  unfold okUp
  rw [List.all_eq_false]
  exact ⟨j, by simpa using hj, by simp [h]⟩
def apartB (b : List Bd) : Bool := b.all fun x => x.tm.occ.all fun v => (look b v).isNone
def rightS (b : List Bd) : Bool := okUp b b.length && apartB b
def Asc (b : List Bd) : Prop := b.Pairwise fun x y => x.var < y.var
/-- The same, step by step. -/
theorem asc_iff (b : List Bd) : Asc b ↔ ∀ i, i + 1 < b.length → (b.getD i default).var < (b.getD (i + 1) default).var := by
  induction b with
  | nil => simp [Asc]
  | cons x r ih =>
    constructor
    · intro h i hi
      cases i with
      | zero =>
        have := (List.pairwise_cons.1 h).1 (r.getD 0 default) (bgetD_mem (by simpa using hi))
        simpa using this
      | succ i => simpa using (ih.1 (List.pairwise_cons.1 h).2) i (by simpa using hi)
    · intro h
      have hr : Asc r := ih.2 fun i hi => by simpa using h (i + 1) (by simpa using hi)
      refine List.pairwise_cons.2 ⟨fun y hy => ?_, hr⟩
      cases r with
      | nil => simp at hy
      | cons z q =>
        have h0 : x.var < z.var := by simpa using h 0 (by simp)
        rcases List.mem_cons.1 hy with rfl | hy
        · exact h0
        · exact Int.lt_trans h0 ((List.pairwise_cons.1 hr).1 y hy)
theorem okUp_iff (b : List Bd) : okUp b b.length = true ↔ (∀ x ∈ b, 0 ≤ x.var ∧ x.var ≤ 1048576 ∧ x.tm.right = true) ∧ Asc b := by
  rw [asc_iff]
  simp only [okUp, List.all_eq_true, List.mem_range, okAt, Bool.and_eq_true, Bool.or_eq_true, decide_eq_true_eq]
  constructor
  · intro h
    refine ⟨fun x hx => ?_, fun i hi => ?_⟩
    · obtain ⟨i, hi, e⟩ := List.mem_iff_getElem.1 hx
      have := h i hi
      simp only [List.getD, List.getElem?_eq_getElem hi, Option.getD_some, e] at this
      exact ⟨this.1.1, this.1.2, this.2.1⟩
    · rcases (h (i + 1) hi).2.2 with h' | h'
      · omega
      · simpa using h'
  · rintro ⟨h1, h2⟩ i hi
    have := h1 _ (bgetD_mem hi)
    refine ⟨⟨this.1, this.2.1⟩, this.2.2, ?_⟩
    cases i with
    | zero => exact .inl rfl
    | succ i => exact .inr (by simpa using h2 i hi)
theorem apart_iff (b : List Bd) : apartB b = true ↔ ∀ x ∈ b, ∀ v ∈ x.tm.occ, look b v = none := by
  simp only [apartB, List.all_eq_true, Option.isNone_iff_eq_none]
theorem rightS_iff (b : List Bd) : rightS b = true ↔ ((∀ x ∈ b, 0 ≤ x.var ∧ x.var ≤ 1048576 ∧ x.tm.right = true) ∧ Asc b) ∧ ∀ x ∈ b, ∀ v ∈ x.tm.occ, look b v = none := by
  rw [rightS, Bool.and_eq_true, okUp_iff, apart_iff]
theorem occ_strip : (∀ t : Tm, t.strip.occ = t.occ) ∧ (∀ l, occL (stripL l) = occL l) := by
  refine Tm.induct2 (fun k n s A c a ih => ?_) rfl (fun t r h1 h2 => ?_)
  · simp only [Tm.strip, Tm.occ, ih]
  · simp only [stripL, occL, h1, h2]
theorem stripB_getD (b : List Bd) {i : Nat} (hi : i < b.length) : (stripB b).getD i default = (b.getD i default).strip := by
  simp [stripB, List.getD, hi]
theorem rightS_strip (b : List Bd) : rightS (stripB b) = rightS b := by
  have hm : ∀ p : Bd → Prop, (∀ x ∈ stripB b, p x) ↔ ∀ x ∈ b, p x.strip := fun p => by simp [stripB]
  rw [Bool.eq_iff_iff, rightS_iff, rightS_iff]
  simp only [hm]
  simp only [Bd.strip, right_strip, occ_strip.1, look_strip, Option.map_eq_none_iff]
  have : Asc (stripB b) ↔ Asc b := by unfold Asc stripB; rw [List.pairwise_map]; rfl
  rw [this]
theorem rightS_like {a b : List Bd} (h : stripB a = stripB b) : rightS a = rightS b := by rw [← rightS_strip, h, rightS_strip]

/-! ### Lists without repeated variables -/
def Dis (b : List Bd) : Prop := b.Pairwise fun x y => x.var ≠ y.var
theorem Asc.dis {b : List Bd} (h : Asc b) : Dis b := h.imp fun h => by omega
theorem look_mem {b : List Bd} (h : Dis b) {x : Bd} (hx : x ∈ b) : look b x.var = some x.tm := by
  induction b with
  | nil => cases hx
  | cons y r ih =>
    have hp := List.pairwise_cons.1 h
    simp only [look]
    rcases List.mem_cons.1 hx with rfl | hx
    · simp
    · rw [if_neg (hp.1 x hx)]; exact ih hp.2 hx
theorem Dis.perm {a b : List Bd} (h : Dis a) (p : a.Perm b) : Dis b := (p.pairwise_iff (fun h => Ne.symm h)).1 h
theorem look_perm {a b : List Bd} (h : Dis a) (p : a.Perm b) (v : Int) : look a v = look b v := by
  cases hv : look a v with
  | none =>
    rw [look_none] at hv
    exact (look_none.2 fun x hx => hv x (p.mem_iff.2 hx)).symm
  | some t =>
    obtain ⟨x, hx, rfl, rfl⟩ := look_some hv
    exact (look_mem (h.perm p) (p.mem_iff.1 hx)).symm
theorem asc_unique {a b : List Bd} (ha : Asc a) (hb : Asc b) (p : a.Perm b) : a = b := by
  induction a generalizing b with
  | nil => exact (List.Perm.nil_eq p)
  | cons x r ih =>
    cases b with
    | nil => exact absurd p.length_eq (by simp)
    | cons y q =>
      have pa := List.pairwise_cons.1 ha
      have pb := List.pairwise_cons.1 hb
      have e : x = y := by
        have h1 : x ∈ y :: q := p.mem_iff.1 (by simp)
        have h2 : y ∈ x :: r := p.mem_iff.2 (by simp)
        rcases List.mem_cons.1 h1 with h1 | h1
        · exact h1
        · rcases List.mem_cons.1 h2 with h2 | h2
          · exact h2.symm
          · have := pa.1 y h2
            have := pb.1 x h1
            omega
      subst e
      rw [ih pa.2 pb.2 (List.Perm.cons_inv p)]

/-! ### Sorting by insertion -/
def insB (x : Bd) : List Bd → List Bd
  | [] => [x]
  | y :: r => if y.var < x.var then y :: insB x r else x :: y :: r
def sortB (l : List Bd) : List Bd := l.foldl (fun acc x => insB x acc) []
theorem insB_perm (x : Bd) (l : List Bd) : (insB x l).Perm (x :: l) := by
  induction l with
  | nil => exact List.Perm.refl _
  | cons y r ih =>
    simp only [insB]
    split
    · exact (List.Perm.cons y ih).trans (List.Perm.swap x y r)
    · exact List.Perm.refl _
theorem insB_asc {x : Bd} {l : List Bd} (h : Asc l) (hx : ∀ y ∈ l, y.var ≠ x.var) : Asc (insB x l) := by
  induction l with
  | nil => simp [insB, Asc]
  | cons y r ih =>
    have hp := List.pairwise_cons.1 h
    simp only [insB]
    split
    · rename_i hlt
      refine List.pairwise_cons.2 ⟨fun z hz => ?_, ih hp.2 fun z hz => hx z (by simp [hz])⟩
      rcases List.mem_cons.1 ((insB_perm x r).mem_iff.1 hz) with rfl | hz
      · exact hlt
      · exact hp.1 z hz
    · rename_i hge
      have hlt : x.var < y.var := by have := hx y (by simp); omega
      refine List.pairwise_cons.2 ⟨fun z hz => ?_, h⟩
      rcases List.mem_cons.1 hz with rfl | hz
      · exact hlt
      · exact Int.lt_trans hlt (hp.1 z hz)
theorem foldB_perm (l acc : List Bd) : (l.foldl (fun acc x => insB x acc) acc).Perm (l ++ acc) := by
  induction l generalizing acc with
  | nil => exact List.Perm.refl _
  | cons x r ih =>
    rw [List.foldl_cons]
    refine (ih _).trans ?_
    exact ((insB_perm x acc).append_left r).trans List.perm_middle
theorem sortB_perm (l : List Bd) : (sortB l).Perm l := by
  have := foldB_perm l []
  rw [List.append_nil] at this
  exact this
theorem foldB_asc (l acc : List Bd) (ha : Asc acc) (hd : Dis (l ++ acc)) : Asc (l.foldl (fun acc x => insB x acc) acc) := by
  induction l generalizing acc with
  | nil => exact ha
  | cons x r ih =>
    rw [List.foldl_cons]
    have hp := List.pairwise_cons.1 hd
    refine ih _ (insB_asc ha fun y hy => Ne.symm (hp.1 y (by simp [hy]))) ?_
    exact Dis.perm hd (((insB_perm x acc).append_left r).trans List.perm_middle).symm
theorem sortB_asc {l : List Bd} (hd : Dis l) : Asc (sortB l) := foldB_asc l [] (by simp [Asc]) (by simpa using hd)
theorem sortB_id {l : List Bd} (h : Asc l) : sortB l = l := asc_unique (sortB_asc h.dis) h (sortB_perm l)
theorem sortB_of {l l' : List Bd} (hd : Dis l) (p : l'.Perm l) (ha : Asc l') : l' = sortB l := asc_unique ha (sortB_asc hd) (p.trans (sortB_perm l).symm)
theorem insB_strip (x : Bd) (l : List Bd) : stripB (insB x l) = insB x.strip (stripB l) := by
  induction l with
  | nil => rfl
  | cons y r ih =>
    simp only [stripB, insB, List.map_cons, Bd.strip] at ih ⊢
    split
    · simp only [List.map_cons, ih, Bd.strip]
    · rfl
theorem sortB_strip (l : List Bd) : stripB (sortB l) = sortB (stripB l) := by
  unfold sortB
  have : ∀ acc, stripB (l.foldl (fun acc x => insB x acc) acc) = (stripB l).foldl (fun acc x => insB x acc) (stripB acc) := by
    induction l with
    | nil => intro acc; rfl
    | cons x r ih =>
      intro acc
      rw [List.foldl_cons, ih, insB_strip]
      rfl
  exact this []
theorem dis_strip (l : List Bd) : Dis (stripB l) ↔ Dis l := by unfold Dis stripB; rw [List.pairwise_map]; rfl

/-! ### Composition -/
def isV (t : Tm) (v : Int) : Bool := decide (t.kind = 1) && decide (t.num = v)
def keepA (c : List Bd) (x : Bd) : Option Bd := if isV (x.tm.app c) x.var then none else some ⟨x.var, x.tm.app c⟩
def compA (a c : List Bd) : List Bd := a.filterMap (keepA c)
def compC (a c : List Bd) : List Bd := c.filter fun x => (look a x.var).isNone
def compL (a c : List Bd) : List Bd := compA a c ++ compC a c
def allRight (b : List Bd) : Bool := b.all fun x => x.tm.right
def comp (a c : List Bd) : List Bd × Int :=
  if (rightS a && rightS c) = false then ([], 2)
  else if allRight (sortB (compL a c)) = false then ([], 6)
  else if rightS (sortB (compL a c)) = false then ([], 2)
  else (sortB (compL a c), 0)
theorem comp_ok {a c o : List Bd} (h : comp a c = (o, 0)) : rightS a = true ∧ rightS c = true ∧ o = sortB (compL a c) ∧ rightS o = true := by
  unfold comp at h
  split at h
  · simp at h
  · rename_i h1
    split at h
    · simp at h
    · split at h
      · simp at h
      · rename_i h3
        simp only [Prod.mk.injEq, and_true] at h
        have : (rightS a && rightS c) = true := by simpa using h1
        rw [Bool.and_eq_true] at this
        exact ⟨this.1, this.2, h.symm, by rw [← h]; simpa using h3⟩
theorem compA_var {a c : List Bd} {y : Bd} (h : y ∈ compA a c) : ∃ x ∈ a, x.var = y.var ∧ y.tm = x.tm.app c ∧ isV (x.tm.app c) x.var = false := by
  obtain ⟨x, hx, e⟩ := List.mem_filterMap.1 h
  unfold keepA at e
  split at e
  · cases e
  · rename_i hv
    injection e with e
    exact ⟨x, hx, by rw [← e], by rw [← e], by simpa using hv⟩
theorem compL_dis {a c : List Bd} (ha : Dis a) (hc : Dis c) : Dis (compL a c) := by
  unfold compL Dis
  rw [List.pairwise_append]
  refine ⟨?_, hc.sublist List.filter_sublist, fun x hx y hy => ?_⟩
  · unfold compA
    rw [List.pairwise_filterMap]
    refine ha.imp fun {x y} hxy b hb b' hb' => ?_
    have e1 : b.var = x.var := by unfold keepA at hb; split at hb; cases hb; injection hb with hb; rw [← hb]
    have e2 : b'.var = y.var := by unfold keepA at hb'; split at hb'; cases hb'; injection hb' with hb'; rw [← hb']
    rw [e1, e2]; exact hxy
  · obtain ⟨z, hz, e, _⟩ := compA_var hx
    obtain ⟨_, hn⟩ := List.mem_filter.1 hy
    rw [Option.isNone_iff_eq_none, look_none] at hn
    rw [← e]
    exact hn z hz
theorem comp_dis {a c : List Bd} (ha : rightS a = true) (hc : rightS c = true) : Dis (compL a c) := compL_dis ((rightS_iff a).1 ha).1.2.dis ((rightS_iff c).1 hc).1.2.dis
/-- What a composition binds. -/
theorem comp_look {a c : List Bd} (ha : Dis a) (hc : Dis c) (v : Int) : look (sortB (compL a c)) v = match look a v with
    | some x => if isV (x.app c) v then none else some (x.app c)
    | none => look c v := by
  rw [look_perm ((compL_dis ha hc).perm (sortB_perm _).symm) (sortB_perm _)]
  cases hv : look a v with
  | some t =>
    obtain ⟨x, hx, rfl, rfl⟩ := look_some hv
    simp only
    split
    · rename_i hi
      refine look_none.2 fun y hy e => ?_
      rcases List.mem_append.1 hy with hy | hy
      · obtain ⟨z, hz, e1, e2, e3⟩ := compA_var hy
        have : z.tm = x.tm := by
          have h1 := look_mem ha hz
          rw [e1, e, hv] at h1
          injection h1 with h1
          exact h1.symm
        rw [this, e1, e, hi] at e3
        cases e3
      · obtain ⟨_, hn⟩ := List.mem_filter.1 hy
        rw [e, hv] at hn
        cases hn
    · rename_i hi
      have hm : (⟨x.var, x.tm.app c⟩ : Bd) ∈ compL a c := List.mem_append.2 (.inl (List.mem_filterMap.2 ⟨x, hx, by unfold keepA; rw [if_neg hi]⟩))
      exact look_mem (compL_dis ha hc) hm
  | none =>
    simp only
    cases hc' : look c v with
    | some t =>
      obtain ⟨x, hx, rfl, rfl⟩ := look_some hc'
      exact look_mem (compL_dis ha hc) (List.mem_append.2 (.inr (List.mem_filter.2 ⟨hx, by rw [hv]; rfl⟩)))
    | none =>
      rw [look_none] at hv hc' ⊢
      intro y hy
      rcases List.mem_append.1 hy with hy | hy
      · obtain ⟨z, hz, e1, _⟩ := compA_var hy
        rw [← e1]; exact hv z hz
      · exact hc' y (List.mem_filter.1 hy).1
theorem keepA_strip (c : List Bd) (x : Bd) : (keepA c x).map Bd.strip = keepA (stripB c) x.strip := by
  have e := (app_strip c).1 x.tm
  have ev : isV (x.tm.strip.app (stripB c)) x.var = isV (x.tm.app c) x.var := by rw [e]; unfold isV; cases x.tm.app c; rfl
  show (if isV (x.tm.app c) x.var then none else some (⟨x.var, x.tm.app c⟩ : Bd)).map Bd.strip = if isV (x.tm.strip.app (stripB c)) x.var then none else some (⟨x.var, x.tm.strip.app (stripB c)⟩ : Bd)
  rw [ev, e]
  cases isV (x.tm.app c) x.var <;> rfl
theorem compL_strip (a c : List Bd) : stripB (compL a c) = compL (stripB a) (stripB c) := by
  have hA : stripB (compA a c) = compA (stripB a) (stripB c) := by
    show (a.filterMap (keepA c)).map Bd.strip = (a.map Bd.strip).filterMap (keepA (stripB c))
    rw [List.map_filterMap, List.filterMap_map]
    exact congrArg (fun f => List.filterMap f a) (funext fun x => keepA_strip c x)
  have hC : stripB (compC a c) = compC (stripB a) (stripB c) := by
    show (c.filter fun x => (look a x.var).isNone).map Bd.strip = (c.map Bd.strip).filter fun x => (look (stripB a) x.var).isNone
    rw [List.filter_map]
    have : (fun x : Bd => (look a x.var).isNone) = (fun x : Bd => (look (stripB a) x.var).isNone) ∘ Bd.strip := by
      funext x
      show (look a x.var).isNone = (look (stripB a) x.var).isNone
      rw [look_strip]
      cases look a x.var <;> rfl
    rw [this]
  unfold compL
  rw [stripB_append, hA, hC]
theorem allRight_strip (b : List Bd) : allRight (stripB b) = allRight b := by
  simp only [allRight, stripB, List.all_map]
  congr 1
  funext x
  simp [Function.comp, Bd.strip, right_strip]
theorem comp_like {a a' c c' : List Bd} (ha : stripB a = stripB a') (hc : stripB c = stripB c') : (comp a c).2 = (comp a' c').2 ∧ stripB (comp a c).1 = stripB (comp a' c').1 := by
  have h1 : rightS a = rightS a' := rightS_like ha
  have h2 : rightS c = rightS c' := rightS_like hc
  have h3 : stripB (sortB (compL a c)) = stripB (sortB (compL a' c')) := by rw [sortB_strip, sortB_strip, compL_strip, compL_strip, ha, hc]
  have h4 : allRight (sortB (compL a c)) = allRight (sortB (compL a' c')) := by rw [← allRight_strip, h3, allRight_strip]
  have h5 := rightS_like h3
  unfold comp
  rw [h1, h2, h4, h5]
  repeat' split
  all_goals first | exact ⟨rfl, rfl⟩ | exact ⟨rfl, h3⟩
/-- Whether all terms are valid hangs on what the first substitution becomes alone. -/
theorem allRight_perm {a b : List Bd} (p : a.Perm b) : allRight a = allRight b := by
  unfold allRight
  rw [Bool.eq_iff_iff, List.all_eq_true, List.all_eq_true]
  exact ⟨fun h x hx => h x (p.mem_iff.2 hx), fun h x hx => h x (p.mem_iff.1 hx)⟩
theorem app_var_right {a c : List Bd} {x : Bd} (ha : rightS a = true) (hc : rightS c = true) (hx : x ∈ a) {v : Int} (hv : isV (x.tm.app c) v = true) : (x.tm.app c).right = true := by
  have hr := (((rightS_iff a).1 ha).1.1 x hx).2.2
  clear hx
  generalize x.tm = t at *
  obtain ⟨k, n, s, A, q, l⟩ := t
  simp only [Tm.app] at hv ⊢
  split
  · cases hl : look c n with
    | none => exact hr
    | some t =>
      obtain ⟨y, hy, _, rfl⟩ := look_some hl
      exact (((rightS_iff c).1 hc).1.1 y hy).2.2
  · rename_i hk
    rw [if_neg hk] at hv
    split
    · rename_i h2
      rw [if_pos h2] at hv
      simp [isV, Tm.kind, hk] at hv
    · exact hr
theorem comp_allRight {a c : List Bd} (ha : rightS a = true) (hc : rightS c = true) : allRight (sortB (compL a c)) = a.all fun x => (x.tm.app c).right := by
  rw [allRight_perm (sortB_perm _), Bool.eq_iff_iff]
  unfold allRight
  rw [List.all_eq_true, List.all_eq_true]
  constructor
  · intro h x hx
    cases hv : isV (x.tm.app c) x.var with
    | true => exact app_var_right ha hc hx hv
    | false => exact h _ (List.mem_append.2 (.inl (List.mem_filterMap.2 ⟨x, hx, by unfold keepA; rw [if_neg (by simp [hv])]⟩)))
  · intro h y hy
    rcases List.mem_append.1 hy with hy | hy
    · obtain ⟨x, hx, _, e, _⟩ := compA_var hy
      rw [e]; exact h x hx
    · exact (((rightS_iff c).1 hc).1.1 y (List.mem_filter.1 hy).1).2.2
end Go.Proofs.YtgialbcohkpogaaGreat
