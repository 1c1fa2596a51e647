/-
  Substitutions, plainly: a composition applies one after the other, is associative, and leaves solved forms as they are; restriction; identity. No program.
-/
import Derived.Test.YtgialbcohkpogaaGreatSuPlain
namespace Go.Proofs.YtgialbcohkpogaaGreat
open Go

/-! ### Terms that compare as equal -/
theorem lexz_iff {x y : Int} : lex x y = 0 ↔ x = 0 ∧ y = 0 := by
  unfold lex
  split
  · rename_i h; simp [h]
  · rename_i h; simp [h]
theorem ints_zero {a b : Int} : ints a b = 0 ↔ a = b := by
  unfold ints
  split
  · simp; omega
  · split
    · simp; omega
    · simp; omega
theorem cmp_trans {t u v : Tm} (h1 : cmpT t u = 0) (h2 : cmpT u v = 0) : cmpT t v = 0 := by rw [cmpT_congr (t := v) (u := u) (by rw [cmpT_flip, h2]; rfl), h1]
theorem cmp_symm {t u : Tm} (h : cmpT t u = 0) : cmpT u t = 0 := by rw [cmpT_flip, h]; rfl
theorem cmp_kind {t u : Tm} (h : cmpT t u = 0) : cls t.kind = cls u.kind := by
  obtain ⟨k, n, s, A, c, a⟩ := t
  simp only [cmpT, lexz_iff] at h
  exact cls_eq h.1
theorem cls_one {k : Int} : cls k = 0 ↔ k = 1 := by
  unfold cls; split
  · simp [*]
  · rename_i h; split <;> (try split) <;> simp [h]
theorem cls_two {k : Int} : cls k = 2 ↔ k = 2 := by
  unfold cls; split
  · rename_i h; simp [h]
  · split
    · rename_i h; simp [h]
    · split
      · rename_i h; simp [h]
      · rename_i h; simp [h]
theorem cmp_var {t u : Tm} (h : cmpT t u = 0) (hk : t.kind = 1) : u.kind = 1 ∧ u.num = t.num := by
  have h1 := cmp_kind h
  rw [hk] at h1
  have h2 : u.kind = 1 := cls_one.1 (h1.symm.trans (cls_one.2 rfl))
  obtain ⟨k, n, s, A, c, a⟩ := t
  simp only [Tm.kind] at hk
  subst hk
  simp only [cmpT, lexz_iff, true_or, if_true] at h
  exact ⟨h2, (ints_zero.1 h.2).symm⟩
theorem cmp_vars {t u : Tm} (h1 : t.kind = 1) (h2 : u.kind = 1) (h3 : t.num = u.num) : cmpT t u = 0 := by
  obtain ⟨k, n, s, A, c, a⟩ := t
  obtain ⟨k', n', s', A', c', a'⟩ := u
  simp only [Tm.kind, Tm.num] at h1 h2 h3
  subst h1 h2 h3
  simp [cmpT, Tm.kind, Tm.num, ints_self, lex]
theorem cmp_fun (n n' : Int) (s s' : ByteArray) (A A' : Option Addr) (c c' : Nat) (a a' : List Tm) :
    cmpT (.mk 2 n s A c a) (.mk 2 n' s' A' c' a') = 0 ↔ a.length = a'.length ∧ texts s.data.toList s'.data.toList = 0 ∧ cmpL a a' = 0 := by
  simp only [cmpT, Tm.kind, Tm.num, Tm.name, Tm.args]
  rw [if_neg (by omega), if_pos trivial, ints_self, lexz_iff, lexz_iff, lexz_iff, ints_zero]
  simp only [true_and, Int.natCast_inj]
theorem isV_iff {t : Tm} {v : Int} : isV t v = true ↔ t.kind = 1 ∧ t.num = v := by simp [isV]
theorem isV_cmp {t : Tm} {v : Int} (n : ByteArray) (A : Option Addr) (c : Nat) (a : List Tm) : (cmpT t (.mk 1 v n A c a) == 0) = isV t v := by
  rw [Bool.eq_iff_iff, isV_iff, beq_iff_eq]
  constructor
  · intro h
    have := cmp_var (cmp_symm h) rfl
    exact ⟨this.1, this.2⟩
  · intro h
    exact cmp_vars h.1 rfl h.2
theorem cmpL_len {l m : List Tm} (h : cmpL l m = 0) : l.length = m.length := by
  induction l generalizing m with
  | nil => cases m with
    | nil => rfl
    | cons _ _ => simp [cmpL] at h
  | cons t r ih => cases m with
    | nil => simp [cmpL] at h
    | cons u q =>
      simp only [cmpL, lexz_iff] at h
      simp [ih h.2]
/-- Applying keeps terms equal. -/
theorem cmp_app (b : List Bd) : (∀ t u : Tm, cmpT t u = 0 → cmpT (t.app b) (u.app b) = 0) ∧ (∀ l m : List Tm, cmpL l m = 0 → cmpL (appL b l) (appL b m) = 0) := by
  refine Tm.induct2 (fun k n s A c a ih u h => ?_) (fun m h => ?_) (fun t r h1 h2 m h => ?_)
  · have hk := cmp_kind h
    by_cases h1 : k = 1
    · subst h1
      have hu := cmp_var h rfl
      obtain ⟨k', n', s', A', c', a'⟩ := u
      simp only [Tm.kind, Tm.num] at hu
      obtain ⟨rfl, rfl⟩ := hu
      simp only [Tm.app, if_true]
      cases look b n' with
      | none => exact h
      | some x => exact cmp_self.1 x
    · by_cases h2 : k = 2
      · subst h2
        have hu : u.kind = 2 := cls_two.1 (hk.symm.trans (cls_two.2 rfl))
        obtain ⟨k', n', s', A', c', a'⟩ := u
        simp only [Tm.kind] at hu
        subst hu
        rw [cmp_fun] at h
        simp only [Tm.app, show ¬ ((2 : Int) = 1) by omega, if_false, if_true]
        rw [cmp_fun, appL_len, appL_len]
        exact ⟨h.1, h.2.1, ih a' h.2.2⟩
      · have e1 : (Tm.mk k n s A c a).app b = .mk k n s A c a := by simp [Tm.app, h1, h2]
        have e2 : u.app b = u := by
          have g1 : u.kind ≠ 1 := fun e => h1 (cls_one.1 (hk.trans (cls_one.2 e)))
          have g2 : u.kind ≠ 2 := fun e => h2 (cls_two.1 (hk.trans (cls_two.2 e)))
          obtain ⟨k', n', s', A', c', a'⟩ := u
          simp only [Tm.kind] at g1 g2
          simp [Tm.app, g1, g2]
        rw [e1, e2]; exact h
  · cases m with
    | nil => rfl
    | cons _ _ => simp [cmpL] at h
  · cases m with
    | nil => simp [cmpL] at h
    | cons u q =>
      simp only [cmpL, lexz_iff] at h
      simp only [appL, cmpL, lexz_iff]
      exact ⟨h1 u h.1, h2 q h.2⟩

/-! ### A composition applies one after the other -/
theorem then_at {a c : List Bd} (ha : Dis a) (hc : Dis c) : (∀ t : Tm, cmpT (t.app (sortB (compL a c))) ((t.app a).app c) = 0) ∧ (∀ l, cmpL (appL (sortB (compL a c)) l) (appL c (appL a l)) = 0) := by
  refine Tm.induct2 (fun k n s A q l ih => ?_) rfl (fun t r h1 h2 => ?_)
  · by_cases h1 : k = 1
    · subst h1
      simp only [Tm.app, if_true, comp_look ha hc]
      cases look a n with
      | none =>
        simp only [Option.getD_none]
        simp only [Tm.app, if_true]
        exact cmp_self.1 _
      | some x =>
        simp only [Option.getD_some]
        cases hv : isV (x.app c) n with
        | true =>
          have := isV_iff.1 hv
          exact cmp_vars rfl this.1 this.2.symm
        | false => exact cmp_self.1 _
    · by_cases h2 : k = 2
      · subst h2
        simp only [Tm.app, show ¬ ((2 : Int) = 1) by omega, if_false, if_true]
        rw [cmp_fun, appL_len, appL_len, appL_len]
        exact ⟨rfl, texts_self _, ih⟩
      · simp only [Tm.app, h1, h2, if_false]
        exact cmp_self.1 _
  · simp only [appL, cmpL, lexz_iff]
    exact ⟨h1, h2⟩
theorem comp_then {a c o : List Bd} (h : comp a c = (o, 0)) (t : Tm) : cmpT (t.app o) ((t.app a).app c) = 0 := by
  obtain ⟨ha, hc, rfl, _⟩ := comp_ok h
  exact (then_at ((rightS_iff a).1 ha).1.2.dis ((rightS_iff c).1 hc).1.2.dis).1 t

/-! ### The solved form -/
theorem solved_occ {b : List Bd} (hb : rightS b = true) (t : Tm) : ∀ v ∈ (t.app b).occ, look b v = none := by
  intro v hv
  rcases (app_occ b).1 t v hv with h | ⟨x, hx, h⟩
  · exact h.2
  · exact ((rightS_iff b).1 hb).2 x hx v h
theorem solved_var {b : List Bd} (hb : rightS b = true) (t : Tm) {x : Bd} (hx : x ∈ b) : x.var ∉ (t.app b).occ := fun h => by
  have := solved_occ hb t _ h
  rw [look_none] at this
  exact this x hx rfl
theorem solved_twice {b : List Bd} (hb : rightS b = true) (t : Tm) : (t.app b).app b = t.app b := (app_id b).1 _ (solved_occ hb t)
theorem solved_tm {b : List Bd} (hb : rightS b = true) {x : Bd} (hx : x ∈ b) : x.tm.app b = x.tm := (app_id b).1 _ (((rightS_iff b).1 hb).2 x hx)
theorem solved_isV {b : List Bd} (hb : rightS b = true) {x : Bd} (hx : x ∈ b) : isV x.tm x.var = false := by
  cases hv : isV x.tm x.var with
  | false => rfl
  | true =>
    have h1 := isV_iff.1 hv
    have h2 : x.var ∈ x.tm.occ := by
      have := occ_used x.tm
      rw [if_pos h1.1, h1.2] at this
      rw [this]; simp
    have := ((rightS_iff b).1 hb).2 x hx _ h2
    rw [look_none] at this
    exact absurd rfl (this x hx)
theorem filterMap_self {α : Type} {f : α → Option α} {l : List α} (h : ∀ x ∈ l, f x = some x) : l.filterMap f = l := by
  induction l with
  | nil => rfl
  | cons x r ih => rw [List.filterMap_cons, h x (by simp)]; simp [ih fun y hy => h y (by simp [hy])]
theorem compA_self {b c : List Bd} (hb : rightS b = true) (h : ∀ x ∈ b, x.tm.app c = x.tm) : compA b c = b := by
  refine filterMap_self fun x hx => ?_
  unfold keepA
  rw [h x hx, if_neg (by rw [solved_isV hb hx]; simp)]
theorem rightS_all {b : List Bd} (hb : rightS b = true) : allRight b = true := List.all_eq_true.2 fun x hx => (((rightS_iff b).1 hb).1.1 x hx).2.2
theorem comp_of {a c b : List Bd} (ha : rightS a = true) (hc : rightS c = true) (hb : rightS b = true) (h : compL a c = b) : comp a c = (b, 0) := by
  unfold comp
  rw [h, sortB_id ((rightS_iff b).1 hb).1.2, ha, hc, rightS_all hb, hb]
  rfl
theorem comp_self {b : List Bd} (hb : rightS b = true) : comp b b = (b, 0) := by
  refine comp_of hb hb hb ?_
  unfold compL
  rw [compA_self hb fun x hx => solved_tm hb hx]
  have : compC b b = [] := by
    refine List.filter_eq_nil_iff.2 fun x hx => ?_
    rw [look_mem ((rightS_iff b).1 hb).1.2.dis hx]
    simp
  rw [this, List.append_nil]
theorem rightS_nil : rightS [] = true := by decide
theorem app_nil : (∀ t : Tm, t.app [] = t) ∧ (∀ l, appL [] l = l) := ⟨fun t => (app_id []).1 t fun _ _ => rfl, fun l => (app_id []).2 l fun _ _ => rfl⟩
theorem comp_nil_left {b : List Bd} (hb : rightS b = true) : comp [] b = (b, 0) := by
  refine comp_of rightS_nil hb hb ?_
  unfold compL compA compC
  simp [look]
theorem comp_nil_right {b : List Bd} (hb : rightS b = true) : comp b [] = (b, 0) := by
  refine comp_of hb rightS_nil hb ?_
  unfold compL
  rw [compA_self hb fun x _ => app_nil.1 _]
  simp [compC]

/-! ### Identity -/
def sameAt (a c : List Bd) (i : Nat) : Bool := decide ((a.getD i default).var = (c.getD i default).var) && (cmpT (a.getD i default).tm (c.getD i default).tm == 0)
def sameUp (a c : List Bd) (j : Nat) : Bool := (List.range j).all (sameAt a c)
def sameB (a c : List Bd) : Bool := decide (a.length = c.length) && sameUp a c a.length
theorem sameUp_next (a c : List Bd) (j : Nat) : sameUp a c (j + 1) = (sameUp a c j && sameAt a c j) := by simp [sameUp, List.range_succ]
theorem sameUp_stop {a c : List Bd} {j n : Nat} (hj : j < n) (h : sameAt a c j = false) : sameUp a c n = false := by
  unfold sameUp
  rw [List.all_eq_false]
  exact ⟨j, by simpa using hj, by simp [h]⟩
theorem sameB_iff (a c : List Bd) : sameB a c = true ↔ a.length = c.length ∧ ∀ i, i < a.length → (a.getD i default).var = (c.getD i default).var ∧ cmpT (a.getD i default).tm (c.getD i default).tm = 0 := by
  simp only [sameB, sameUp, sameAt, Bool.and_eq_true, decide_eq_true_eq, List.all_eq_true, List.mem_range, beq_iff_eq]
theorem sameB_strip {a c : List Bd} (h : stripB a = stripB c) : sameB a c = true := by
  rw [sameB_iff]
  have hl : a.length = c.length := by rw [← stripB_len a, h, stripB_len]
  refine ⟨hl, fun i hi => ?_⟩
  have h1 := stripB_getD a hi
  have h2 := stripB_getD c (i := i) (by omega)
  rw [h] at h1
  rw [h1] at h2
  have h3 : (a.getD i default).strip = (c.getD i default).strip := h2
  unfold Bd.strip at h3
  injection h3 with h3 h4
  exact ⟨h3, by simpa using same_strip h4⟩
theorem sameB_refl (a : List Bd) : sameB a a = true := sameB_strip rfl
theorem sameB_like {a a' c c' : List Bd} (ha : stripB a = stripB a') (hc : stripB c = stripB c') : sameB a c = sameB a' c' := by
  have tr : ∀ {a a' c c' : List Bd}, stripB a = stripB a' → stripB c = stripB c' → sameB a c = true → sameB a' c' = true := fun {a a' c c'} ha hc h => by
    rw [sameB_iff] at h ⊢
    have l1 : a.length = a'.length := by rw [← stripB_len a, ha, stripB_len]
    have l2 : c.length = c'.length := by rw [← stripB_len c, hc, stripB_len]
    refine ⟨by omega, fun i hi => ?_⟩
    have e1 : (a.getD i default).strip = (a'.getD i default).strip := by rw [← stripB_getD a (by omega), ha, stripB_getD a' hi]
    have e2 : (c.getD i default).strip = (c'.getD i default).strip := by rw [← stripB_getD c (by omega), hc, stripB_getD c' (by omega)]
    unfold Bd.strip at e1 e2
    injection e1 with e1 e1'
    injection e2 with e2 e2'
    have := h.2 i (by omega)
    refine ⟨by rw [← e1, ← e2]; exact this.1, ?_⟩
    rw [← cmp_strip.1, ← e1', ← e2', cmp_strip.1]
    exact this.2
  rw [Bool.eq_iff_iff]
  exact ⟨tr ha hc, tr ha.symm hc.symm⟩
theorem asc_vars {a c : List Bd} (ha : Asc a) (hc : Asc c) (h : ∀ v, (∃ x ∈ a, x.var = v) ↔ ∃ x ∈ c, x.var = v) : a.map Bd.var = c.map Bd.var := by
  induction a generalizing c with
  | nil =>
    cases c with
    | nil => rfl
    | cons y q => exact absurd ((h y.var).2 ⟨y, by simp, rfl⟩) (by simp)
  | cons x r ih =>
    cases c with
    | nil => exact absurd ((h x.var).1 ⟨x, by simp, rfl⟩) (by simp)
    | cons y q =>
      have pa := List.pairwise_cons.1 ha
      have pc := List.pairwise_cons.1 hc
      have e : x.var = y.var := by
        obtain ⟨z, hz, e1⟩ := (h x.var).1 ⟨x, by simp, rfl⟩
        obtain ⟨z', hz', e2⟩ := (h y.var).2 ⟨y, by simp, rfl⟩
        rcases List.mem_cons.1 hz with rfl | hz
        · exact e1.symm
        · rcases List.mem_cons.1 hz' with rfl | hz'
          · exact e2
          · have := pa.1 z' hz'
            have := pc.1 z hz
            omega
      simp only [List.map_cons, e]
      congr 1
      refine ih pa.2 pc.2 fun v => ?_
      constructor
      · rintro ⟨z, hz, rfl⟩
        obtain ⟨z', hz', e1⟩ := (h z.var).1 ⟨z, by simp [hz], rfl⟩
        rcases List.mem_cons.1 hz' with rfl | hz'
        · have := pa.1 z hz; omega
        · exact ⟨z', hz', e1⟩
      · rintro ⟨z, hz, rfl⟩
        obtain ⟨z', hz', e1⟩ := (h z.var).2 ⟨z, by simp [hz], rfl⟩
        rcases List.mem_cons.1 hz' with rfl | hz'
        · have := pc.1 z hz; omega
        · exact ⟨z', hz', e1⟩
/-- Two solved forms that make the same of each variable are the same. -/
theorem solved_ext {u v : List Bd} (hu : rightS u = true) (hv : rightS v = true) (h : ∀ t : Tm, cmpT (t.app u) (t.app v) = 0) : sameB u v = true := by
  have half : ∀ {u v : List Bd}, rightS u = true → (∀ t : Tm, cmpT (t.app u) (t.app v) = 0) → ∀ x ∈ u, ∃ y ∈ v, y.var = x.var ∧ cmpT x.tm y.tm = 0 := fun {u v} hu h x hx => by
    have h1 := h (.mk 1 x.var ByteArray.empty none 0 [])
    simp only [Tm.app, if_true, look_mem ((rightS_iff u).1 hu).1.2.dis hx, Option.getD_some] at h1
    cases hl : look v x.var with
    | none =>
      rw [hl] at h1
      simp only [Option.getD_none] at h1
      have h2 := isV_cmp (t := x.tm) (v := x.var) ByteArray.empty none 0 []
      rw [h1, solved_isV hu hx] at h2
      cases h2
    | some t =>
      obtain ⟨y, hy, e, rfl⟩ := look_some hl
      rw [hl] at h1
      exact ⟨y, hy, e, h1⟩
  have ru := (rightS_iff u).1 hu
  have rv := (rightS_iff v).1 hv
  have hm := asc_vars ru.1.2 rv.1.2 fun n => ⟨fun ⟨x, hx, e⟩ => by
    obtain ⟨y, hy, e', _⟩ := half hu h x hx
    exact ⟨y, hy, e'.trans e⟩, fun ⟨x, hx, e⟩ => by
    obtain ⟨y, hy, e', _⟩ := half hv (fun t => cmp_symm (h t)) x hx
    exact ⟨y, hy, e'.trans e⟩⟩
  rw [sameB_iff]
  have hl : u.length = v.length := by simpa using congrArg List.length hm
  refine ⟨hl, fun i hi => ?_⟩
  have e : (u.getD i default).var = (v.getD i default).var := by
    have := congrArg (fun l => l.getD i 0) hm
    simpa [List.getD, hi, show i < v.length by omega] using this
  refine ⟨e, ?_⟩
  obtain ⟨y, hy, e', hc⟩ := half hu h _ (bgetD_mem hi)
  have h1 := look_mem rv.1.2.dis hy
  have h2 := look_mem rv.1.2.dis (bgetD_mem (l := v) (k := i) (by omega))
  rw [e', e, h2] at h1
  injection h1 with h1
  rw [h1]; exact hc
theorem comp_assoc {a b c x y u v : List Bd} (h1 : comp a b = (x, 0)) (h2 : comp b c = (y, 0)) (h3 : comp x c = (u, 0)) (h4 : comp a y = (v, 0)) : sameB u v = true := by
  refine solved_ext (comp_ok h3).2.2.2 (comp_ok h4).2.2.2 fun t => ?_
  have e1 : cmpT (t.app u) (((t.app a).app b).app c) = 0 := cmp_trans (comp_then h3 t) ((cmp_app c).1 _ _ (comp_then h1 t))
  have e2 : cmpT (t.app v) (((t.app a).app b).app c) = 0 := cmp_trans (comp_then h4 t) (comp_then h2 (t.app a))
  exact cmp_trans e1 (cmp_symm e2)

/-! ### Restriction -/
def restr (b : List Bd) (vars : List Int) : List Bd := b.filter fun x => decide (x.var ∈ vars)
theorem restr_next {b : List Bd} {j : Nat} (hj : j < b.length) (vars : List Int) : restr (b.take (j + 1)) vars = restr (b.take j) vars ++ (if (b.getD j default).var ∈ vars then [b.getD j default] else []) := by
  unfold restr
  rw [btake_next hj, List.filter_append]
  congr 1
  rw [List.filter_cons]
  split <;> split <;> simp_all
theorem restr_strip (b : List Bd) (vars : List Int) : stripB (restr b vars) = restr (stripB b) vars := by
  show (b.filter fun x => decide (x.var ∈ vars)).map Bd.strip = (b.map Bd.strip).filter fun x => decide (x.var ∈ vars)
  rw [List.filter_map]
  rfl
theorem restr_right {b : List Bd} (vars : List Int) (h : rightS b = true) : rightS (restr b vars) = true := by
  rw [rightS_iff] at h ⊢
  have hm : ∀ x ∈ restr b vars, x ∈ b := fun x hx => (List.mem_filter.1 hx).1
  refine ⟨⟨fun x hx => h.1.1 x (hm x hx), h.1.2.sublist List.filter_sublist⟩, fun x hx v hv => ?_⟩
  have := h.2 x (hm x hx) v hv
  rw [look_none] at this ⊢
  exact fun y hy => this y (hm y hy)
end Go.Proofs.YtgialbcohkpogaaGreat
