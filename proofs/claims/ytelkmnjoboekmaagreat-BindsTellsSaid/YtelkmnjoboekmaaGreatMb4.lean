/-
  Contracts of compareVars, the comparison of find, slices.BinarySearchFunc and find of the program: a binary search in a list of bindings in ascending order.
  Substitutions, plainly: a composition applies one after the other, is associative, and leaves solved forms as they are; restriction; identity. No program.
  A row of bindings of the call's own.
  Contracts of arguments, Size and Depth of the program, and of the reference's own.
  The contract of eachVar of the program, for whatever function value is handed to it: it is called at the variables from left to right until it answers false.
  Contracts of Ground and Occurs of the program.
  Lists of ints in memory; contracts of has and SameInts of the reference.
-/
import Derived.Test.YtelkmnjoboekmaaGreatMb2
import Derived.Test.YtelkmnjoboekmaaGreatMb3
import Derived.Test.YtelkmnjoboekmaaGreatProg
import Derived.Outline
import Derived.WalkLawsBesides
import Derived.BigQuiet
import Derived.Deep.QuietTactic
import Derived.OwnWalk
import Derived.Laws.OwnMore
namespace Go.Proofs.YtelkmnjoboekmaaGreat
open Go.RowKit

/-- The box of a binding. -/
abbrev boxB (x : Bd) : Obj := .cells #[.int .i64 x.var, .int .i64 x.tm.kind, .int .i64 x.tm.num, .string x.tm.name, .slice x.tm.at_ x.tm.args.length x.tm.cap] 41

theorem compare_vars_at (x y : Bd) (w : World) : Calls Tryz.prog 87 #[x.val, y.val] w fun e w' => e = .returned (.int .i64 (ints x.var y.var)) ∧ w' = (w.alloc (boxB x)).alloc (boxB y) := by
  obtain ⟨v, k, n, s, A, c, a⟩ := x
  obtain ⟨v', k', n', s', A', c', a'⟩ := y
  show Calls Tryz.prog 87 #[.agg #[.int .i64 v, .int .i64 k, .int .i64 n, .string s, .slice A a.length c], .agg #[.int .i64 v', .int .i64 k', .int .i64 n', .string s', .slice A' a'.length c']] w _
  have q := Lib.hid (fun W => cmp_int_at v v' W rfl)
  generalize ints v v' = r at *
  go_enter Tryz.func87, Tryz.ntmps87
  go_wp2_with fail
  refine (q.out _).mono ?_
  rintro e w' ⟨rfl, rfl⟩
  go_wp2_with fail
  go_ret
  exact ⟨rfl, rfl⟩

theorem find_cmp_at (x : Bd) (v : Int) (w : World) : Calls Tryz.prog 101 #[x.val, .int .i64 v] w fun e w' => e = .returned (.int .i64 (ints x.var v)) ∧ w' = w.alloc (boxB x) := by
  obtain ⟨v', k', n', s', A', c', a'⟩ := x
  show Calls Tryz.prog 101 #[.agg #[.int .i64 v', .int .i64 k', .int .i64 n', .string s', .slice A' a'.length c'], .int .i64 v] w _
  have q := Lib.hid (fun W => cmp_int_at v' v W rfl)
  generalize ints v' v = r at *
  go_enter Tryz.func101, Tryz.ntmps101
  go_wp2_with fail
  refine (q.out _).mono ?_
  rintro e w' ⟨rfl, rfl⟩
  go_wp2_with fail
  go_ret
  exact ⟨rfl, rfl⟩

/-- In ascending order, with repeats. -/
def Srt (l : List Bd) : Prop := ∀ i j, i ≤ j → j < l.length → (l.getD i default).var ≤ (l.getD j default).var
def Bound (l : List Bd) (v : Int) (i : Nat) : Prop := (∀ k, k < i → (l.getD k default).var < v) ∧ (∀ k, i ≤ k → k < l.length → v ≤ (l.getD k default).var)
theorem Asc.srt {l : List Bd} (h : Asc l) : Srt l := fun i j hij hj => by
  rcases Nat.lt_or_ge i j with h1 | h1
  · have := List.pairwise_iff_getElem.1 h i j (by omega) hj h1
    simp only [List.getD, List.getElem?_eq_getElem hj, List.getElem?_eq_getElem (show i < l.length by omega), Option.getD_some]
    omega
  · obtain rfl : i = j := by omega
    exact Int.le_refl _
theorem look_at {l : List Bd} {v : Int} {i : Nat} (h : ∀ k, k < i → (l.getD k default).var ≠ v) (hi : i < l.length) (e : (l.getD i default).var = v) : look l v = some (l.getD i default).tm := by
  induction l generalizing i with
  | nil => simp at hi
  | cons x r ih =>
    simp only [look]
    cases i with
    | zero => rw [if_pos (by simpa using e)]; rfl
    | succ i =>
      rw [if_neg (by simpa using h 0 (by omega))]
      simpa using ih (fun k hk => by simpa using h (k + 1) (by omega)) (by simpa using hi) (by simpa using e)
theorem look_bound {l : List Bd} {v : Int} {i : Nat} (hs : Srt l) (h : Bound l v i) (hi : i ≤ l.length) : look l v = if i < l.length ∧ (l.getD i default).var = v then some (l.getD i default).tm else none := by
  split
  · rename_i h'
    exact look_at (fun k hk => by have := h.1 k hk; omega) h'.1 h'.2
  · rename_i h'
    rw [look_none]
    intro x hx e
    obtain ⟨k, hk, ek⟩ := List.mem_iff_getElem.1 hx
    have eg : l.getD k default = x := by simp [List.getD, List.getElem?_eq_getElem hk, ek]
    rcases Nat.lt_or_ge k i with h1 | h1
    · have := h.1 k h1; rw [eg] at this; omega
    · have h2 := hs i k h1 hk
      have h3 := h.2 i (Nat.le_refl _) (by omega)
      rw [eg] at h2
      exact h' ⟨by omega, by omega⟩

/-- Where the search ends. -/
def Ended (l : List Bd) (v : Int) (w : World) (e : Ending) (w' : World) : Prop :=
  ∃ i : Nat, i ≤ l.length ∧ Bound l v i ∧ (∃ r : Bool, (r = true ↔ i < l.length ∧ (l.getD i default).var = v) ∧ e = .returned (.tuple #[.int .i64 i, .bool r])) ∧ Below w.heap.size w w'

set_option maxHeartbeats 2000000 in
theorem search_at (l : List Bd) (A : Option Addr) (c : Nat) (v : Int) (w : World) (hl : BLst w A l c) (hlen : l.length ≤ 1000000) (hs : Srt l) :
    Calls Tryz.prog 100 #[.slice A l.length c, .int .i64 v, .func (.func 101) #[] #[]] w (Ended l v w) := by
  have HS := Lib.hid hs
  have HL := Lib.hid hl
  clear hl hs
  go_enter Tryz.func100, Tryz.ntmps100
  go_wp2_with fail
  go_loopw [9, 10] (fun s9 s10 wr => ∃ lo hi : Nat, s9 = .int .i64 lo ∧ s10 = .int .i64 hi ∧ lo ≤ hi ∧ hi ≤ l.length ∧ Hid ((∀ k, k < lo → (l.getD k default).var < v) ∧ (∀ k, hi ≤ k → k < l.length → v ≤ (l.getD k default).var)) ∧ Below w.heap.size w wr) (fun s9 s10 _ => (intOf s10).toNat - (intOf s9).toNat)
  case atStart => exact ⟨0, l.length, rfl, rfl, Nat.zero_le _, Nat.le_refl _, Lib.hid ⟨fun k hk => absurd hk (Nat.not_lt_zero _), fun k h1 h2 => by omega⟩, Below.refl _ _⟩
  case round =>
    obtain ⟨lo, hi, rfl, rfl, hlh, hin, HI, hbw⟩ := hrel
    by_cases hlt : lo < hi
    · obtain ⟨b, o, rfl, ⟨c0, c1, c2, c3, c4⟩, _⟩ := (HL.out.below hbw).get (i := (lo + hi) / 2) (by omega)
      obtain ⟨x, hx⟩ : ∃ x, l.getD ((lo + hi) / 2) default = x := ⟨_, rfl⟩
      rw [hx] at c0 c1 c2 c3 c4
      have HX := Lib.hid hx
      have Q := Lib.hid (fun W => find_cmp_at x v W)
      clear hx
      by_cases hxv : x.var < v
      · rw [ints_lt hxv] at Q
        have H2 := Lib.hid (show (∀ k, k < (lo + hi) / 2 + 1 → (l.getD k default).var < v) ∧ (∀ k, hi ≤ k → k < l.length → v ≤ (l.getD k default).var) from ⟨fun k hk => by
          have := HS.out k ((lo + hi) / 2) (by omega) (by omega)
          rw [HX.out] at this
          omega, HI.out.2⟩)
        obtain ⟨v', k', n', s', A', c', a'⟩ := x
        simp only [Tm.kind, Tm.num, Tm.name, Tm.at_, Tm.args, Tm.cap] at c0 c1 c2 c3 c4
        clear hxv
        go_wp2_with fail
        refine (Q.out _).mono ?_
        rintro e w2 ⟨rfl, rfl⟩
        go_wp2_with fail
        go_roundw
        case rel => exact ⟨(lo + hi) / 2 + 1, hi, by rw [show ((lo : Int) + (hi : Int)) / 2 + 1 = (((lo + hi) / 2 + 1 : Nat) : Int) by omega], rfl, by omega, hin, H2, hbw.alloc hbw.size _⟩
        case measure => simp [intOf]; omega
      · have hz : 0 ≤ ints x.var v := by unfold ints; rw [if_neg hxv]; split <;> omega
        have H2 := Lib.hid (show (∀ k, k < lo → (l.getD k default).var < v) ∧ (∀ k, (lo + hi) / 2 ≤ k → k < l.length → v ≤ (l.getD k default).var) from ⟨HI.out.1, fun k h1 h2 => by
          have := HS.out ((lo + hi) / 2) k h1 h2
          rw [HX.out] at this
          omega⟩)
        generalize ints x.var v = r at *
        obtain ⟨v', k', n', s', A', c', a'⟩ := x
        simp only [Tm.kind, Tm.num, Tm.name, Tm.at_, Tm.args, Tm.cap] at c0 c1 c2 c3 c4
        clear hxv
        have hz' : ¬ r < 0 := by omega
        go_wp2_with fail
        refine (Q.out _).mono ?_
        rintro e w2 ⟨rfl, rfl⟩
        go_wp2_with fail
        go_roundw
        case rel => exact ⟨lo, (lo + hi) / 2, rfl, by rw [show ((lo : Int) + (hi : Int)) / 2 = (((lo + hi) / 2 : Nat) : Int) by omega], by omega, by omega, H2, hbw.alloc hbw.size _⟩
        case measure => simp [intOf]; omega
    · obtain rfl : hi = lo := by omega
      by_cases hn : hi < l.length
      · obtain ⟨b, o, rfl, ⟨c0, c1, c2, c3, c4⟩, _⟩ := (HL.out.below hbw).get hn
        obtain ⟨x, hx⟩ : ∃ x, l.getD hi default = x := ⟨_, rfl⟩
        rw [hx] at c0 c1 c2 c3 c4
        have HX := Lib.hid hx
        have Q := Lib.hid (fun W => find_cmp_at x v W)
        have HR := Lib.hid (show (ints x.var v == 0) = true ↔ hi < l.length ∧ (l.getD hi default).var = v by
          rw [hx, beq_iff_eq]
          unfold ints
          constructor
          · intro h
            refine ⟨hn, ?_⟩
            split at h
            · omega
            · split at h <;> omega
          · rintro ⟨_, h⟩
            rw [if_neg (by omega), if_neg (by omega)])
        clear hx
        generalize ints x.var v = r at *
        obtain ⟨v', k', n', s', A', c', a'⟩ := x
        simp only [Tm.kind, Tm.num, Tm.name, Tm.at_, Tm.args, Tm.cap] at c0 c1 c2 c3 c4
        go_wp2_with fail
        refine (Q.out _).mono ?_
        rintro e w2 ⟨rfl, rfl⟩
        go_wp2_with fail
        go_ret2
        exact ⟨hi, hin, HI.out, ⟨_, HR.out, rfl⟩, hbw.alloc hbw.size _⟩
      · have hn' : decide ((hi : Int) < (l.length : Int)) = false := decide_eq_false (by omega)
        go_wp2_with fail
        go_ret2
        exact ⟨hi, hin, HI.out, ⟨false, ⟨fun h => (by cases h), fun h => absurd h.1 hn⟩, rfl⟩, hbw⟩
end Go.Proofs.YtelkmnjoboekmaaGreat
namespace Go.Proofs.YtelkmnjoboekmaaGreat
open Go

/-! ### Terms that compare as equal -/
theorem lexz_iff {x y : Int} : lex x y = 0 ↔ x = 0 ∧ y = 0 := by
  unfold lex
  split
  · rename_i h; simp [h]
  · rename_i h; simp [h]
theorem ints_zero {a b : Int} : ints a b = 0 ↔ a = b := by
  unfold ints
  split
  · simp; omega
  · split
    · simp; omega
    · simp; omega
theorem cmp_trans {t u v : Tm} (h1 : cmpT t u = 0) (h2 : cmpT u v = 0) : cmpT t v = 0 := by rw [cmpT_congr (t := v) (u := u) (by rw [cmpT_flip, h2]; rfl), h1]
theorem cmp_symm {t u : Tm} (h : cmpT t u = 0) : cmpT u t = 0 := by rw [cmpT_flip, h]; rfl
theorem cmp_kind {t u : Tm} (h : cmpT t u = 0) : cls t.kind = cls u.kind := by
  obtain ⟨k, n, s, A, c, a⟩ := t
  simp only [cmpT, lexz_iff] at h
  exact cls_eq h.1
theorem cls_one {k : Int} : cls k = 0 ↔ k = 1 := by
  unfold cls; split
  · simp [*]
  · rename_i h; split <;> (try split) <;> simp [h]
theorem cls_two {k : Int} : cls k = 2 ↔ k = 2 := by
  unfold cls; split
  · rename_i h; simp [h]
  · split
    · rename_i h; simp [h]
    · split
      · rename_i h; simp [h]
      · rename_i h; simp [h]
theorem cmp_var {t u : Tm} (h : cmpT t u = 0) (hk : t.kind = 1) : u.kind = 1 ∧ u.num = t.num := by
  have h1 := cmp_kind h
  rw [hk] at h1
  have h2 : u.kind = 1 := cls_one.1 (h1.symm.trans (cls_one.2 rfl))
  obtain ⟨k, n, s, A, c, a⟩ := t
  simp only [Tm.kind] at hk
  subst hk
  simp only [cmpT, lexz_iff, true_or, if_true] at h
  exact ⟨h2, (ints_zero.1 h.2).symm⟩
theorem cmp_vars {t u : Tm} (h1 : t.kind = 1) (h2 : u.kind = 1) (h3 : t.num = u.num) : cmpT t u = 0 := by
  obtain ⟨k, n, s, A, c, a⟩ := t
  obtain ⟨k', n', s', A', c', a'⟩ := u
  simp only [Tm.kind, Tm.num] at h1 h2 h3
  subst h1 h2 h3
  simp [cmpT, Tm.kind, Tm.num, ints_self, lex]
theorem cmp_fun (n n' : Int) (s s' : ByteArray) (A A' : Option Addr) (c c' : Nat) (a a' : List Tm) :
    cmpT (.mk 2 n s A c a) (.mk 2 n' s' A' c' a') = 0 ↔ a.length = a'.length ∧ texts s.data.toList s'.data.toList = 0 ∧ cmpL a a' = 0 := by
  simp only [cmpT, Tm.kind, Tm.num, Tm.name, Tm.args]
  rw [if_neg (by omega), if_pos trivial, ints_self, lexz_iff, lexz_iff, lexz_iff, ints_zero]
  simp only [true_and, Int.natCast_inj]
theorem isV_iff {t : Tm} {v : Int} : isV t v = true ↔ t.kind = 1 ∧ t.num = v := by simp [isV]
theorem isV_cmp {t : Tm} {v : Int} (n : ByteArray) (A : Option Addr) (c : Nat) (a : List Tm) : (cmpT t (.mk 1 v n A c a) == 0) = isV t v := by
  rw [Bool.eq_iff_iff, isV_iff, beq_iff_eq]
  constructor
  · intro h
    have := cmp_var (cmp_symm h) rfl
    exact ⟨this.1, this.2⟩
  · intro h
    exact cmp_vars h.1 rfl h.2
theorem cmpL_len {l m : List Tm} (h : cmpL l m = 0) : l.length = m.length := by
  induction l generalizing m with
  | nil => cases m with
    | nil => rfl
    | cons _ _ => simp [cmpL] at h
  | cons t r ih => cases m with
    | nil => simp [cmpL] at h
    | cons u q =>
      simp only [cmpL, lexz_iff] at h
      simp [ih h.2]
/-- Applying keeps terms equal. -/
theorem cmp_app (b : List Bd) : (∀ t u : Tm, cmpT t u = 0 → cmpT (t.app b) (u.app b) = 0) ∧ (∀ l m : List Tm, cmpL l m = 0 → cmpL (appL b l) (appL b m) = 0) := by
  refine Tm.induct2 (fun k n s A c a ih u h => ?_) (fun m h => ?_) (fun t r h1 h2 m h => ?_)
  · have hk := cmp_kind h
    by_cases h1 : k = 1
    · subst h1
      have hu := cmp_var h rfl
      obtain ⟨k', n', s', A', c', a'⟩ := u
      simp only [Tm.kind, Tm.num] at hu
      obtain ⟨rfl, rfl⟩ := hu
      simp only [Tm.app, if_true]
      cases look b n' with
      | none => exact h
      | some x => exact cmp_self.1 x
    · by_cases h2 : k = 2
      · subst h2
        have hu : u.kind = 2 := cls_two.1 (hk.symm.trans (cls_two.2 rfl))
        obtain ⟨k', n', s', A', c', a'⟩ := u
        simp only [Tm.kind] at hu
        subst hu
        rw [cmp_fun] at h
        simp only [Tm.app, show ¬ ((2 : Int) = 1) by omega, if_false, if_true]
        rw [cmp_fun, appL_len, appL_len]
        exact ⟨h.1, h.2.1, ih a' h.2.2⟩
      · have e1 : (Tm.mk k n s A c a).app b = .mk k n s A c a := by simp [Tm.app, h1, h2]
        have e2 : u.app b = u := by
          have g1 : u.kind ≠ 1 := fun e => h1 (cls_one.1 (hk.trans (cls_one.2 e)))
          have g2 : u.kind ≠ 2 := fun e => h2 (cls_two.1 (hk.trans (cls_two.2 e)))
          obtain ⟨k', n', s', A', c', a'⟩ := u
          simp only [Tm.kind] at g1 g2
          simp [Tm.app, g1, g2]
        rw [e1, e2]; exact h
  · cases m with
    | nil => rfl
    | cons _ _ => simp [cmpL] at h
  · cases m with
    | nil => simp [cmpL] at h
    | cons u q =>
      simp only [cmpL, lexz_iff] at h
      simp only [appL, cmpL, lexz_iff]
      exact ⟨h1 u h.1, h2 q h.2⟩

/-! ### A composition applies one after the other -/
theorem then_at {a c : List Bd} (ha : Dis a) (hc : Dis c) : (∀ t : Tm, cmpT (t.app (sortB (compL a c))) ((t.app a).app c) = 0) ∧ (∀ l, cmpL (appL (sortB (compL a c)) l) (appL c (appL a l)) = 0) := by
  refine Tm.induct2 (fun k n s A q l ih => ?_) rfl (fun t r h1 h2 => ?_)
  · by_cases h1 : k = 1
    · subst h1
      simp only [Tm.app, if_true, comp_look ha hc]
      cases look a n with
      | none =>
        simp only [Option.getD_none]
        simp only [Tm.app, if_true]
        exact cmp_self.1 _
      | some x =>
        simp only [Option.getD_some]
        cases hv : isV (x.app c) n with
        | true =>
          have := isV_iff.1 hv
          exact cmp_vars rfl this.1 this.2.symm
        | false => exact cmp_self.1 _
    · by_cases h2 : k = 2
      · subst h2
        simp only [Tm.app, show ¬ ((2 : Int) = 1) by omega, if_false, if_true]
        rw [cmp_fun, appL_len, appL_len, appL_len]
        exact ⟨rfl, texts_self _, ih⟩
      · simp only [Tm.app, h1, h2, if_false]
        exact cmp_self.1 _
  · simp only [appL, cmpL, lexz_iff]
    exact ⟨h1, h2⟩
theorem comp_then {a c o : List Bd} (h : comp a c = (o, 0)) (t : Tm) : cmpT (t.app o) ((t.app a).app c) = 0 := by
  obtain ⟨ha, hc, rfl, _⟩ := comp_ok h
  exact (then_at ((rightS_iff a).1 ha).1.2.dis ((rightS_iff c).1 hc).1.2.dis).1 t

/-! ### The solved form -/
theorem solved_occ {b : List Bd} (hb : rightS b = true) (t : Tm) : ∀ v ∈ (t.app b).occ, look b v = none := by
  intro v hv
  rcases (app_occ b).1 t v hv with h | ⟨x, hx, h⟩
  · exact h.2
  · exact ((rightS_iff b).1 hb).2 x hx v h
theorem solved_var {b : List Bd} (hb : rightS b = true) (t : Tm) {x : Bd} (hx : x ∈ b) : x.var ∉ (t.app b).occ := fun h => by
  have := solved_occ hb t _ h
  rw [look_none] at this
  exact this x hx rfl
theorem solved_twice {b : List Bd} (hb : rightS b = true) (t : Tm) : (t.app b).app b = t.app b := (app_id b).1 _ (solved_occ hb t)
theorem solved_tm {b : List Bd} (hb : rightS b = true) {x : Bd} (hx : x ∈ b) : x.tm.app b = x.tm := (app_id b).1 _ (((rightS_iff b).1 hb).2 x hx)
theorem solved_isV {b : List Bd} (hb : rightS b = true) {x : Bd} (hx : x ∈ b) : isV x.tm x.var = false := by
  cases hv : isV x.tm x.var with
  | false => rfl
  | true =>
    have h1 := isV_iff.1 hv
    have h2 : x.var ∈ x.tm.occ := by
      have := occ_used x.tm
      rw [if_pos h1.1, h1.2] at this
      rw [this]; simp
    have := ((rightS_iff b).1 hb).2 x hx _ h2
    rw [look_none] at this
    exact absurd rfl (this x hx)
theorem filterMap_self {α : Type} {f : α → Option α} {l : List α} (h : ∀ x ∈ l, f x = some x) : l.filterMap f = l := by
  induction l with
  | nil => rfl
  | cons x r ih => rw [List.filterMap_cons, h x (by simp)]; simp [ih fun y hy => h y (by simp [hy])]
theorem compA_self {b c : List Bd} (hb : rightS b = true) (h : ∀ x ∈ b, x.tm.app c = x.tm) : compA b c = b := by
  refine filterMap_self fun x hx => ?_
  unfold keepA
  rw [h x hx, if_neg (by rw [solved_isV hb hx]; simp)]
theorem rightS_all {b : List Bd} (hb : rightS b = true) : allRight b = true := List.all_eq_true.2 fun x hx => (((rightS_iff b).1 hb).1.1 x hx).2.2
theorem comp_of {a c b : List Bd} (ha : rightS a = true) (hc : rightS c = true) (hb : rightS b = true) (h : compL a c = b) : comp a c = (b, 0) := by
  unfold comp
  rw [h, sortB_id ((rightS_iff b).1 hb).1.2, ha, hc, rightS_all hb, hb]
  rfl
theorem comp_self {b : List Bd} (hb : rightS b = true) : comp b b = (b, 0) := by
  refine comp_of hb hb hb ?_
  unfold compL
  rw [compA_self hb fun x hx => solved_tm hb hx]
  have : compC b b = [] := by
    refine List.filter_eq_nil_iff.2 fun x hx => ?_
    rw [look_mem ((rightS_iff b).1 hb).1.2.dis hx]
    simp
  rw [this, List.append_nil]
theorem rightS_nil : rightS [] = true := by decide
theorem app_nil : (∀ t : Tm, t.app [] = t) ∧ (∀ l, appL [] l = l) := ⟨fun t => (app_id []).1 t fun _ _ => rfl, fun l => (app_id []).2 l fun _ _ => rfl⟩
theorem comp_nil_left {b : List Bd} (hb : rightS b = true) : comp [] b = (b, 0) := by
  refine comp_of rightS_nil hb hb ?_
  unfold compL compA compC
  simp [look]
theorem comp_nil_right {b : List Bd} (hb : rightS b = true) : comp b [] = (b, 0) := by
  refine comp_of hb rightS_nil hb ?_
  unfold compL
  rw [compA_self hb fun x _ => app_nil.1 _]
  simp [compC]

/-! ### Identity -/
def sameAt (a c : List Bd) (i : Nat) : Bool := decide ((a.getD i default).var = (c.getD i default).var) && (cmpT (a.getD i default).tm (c.getD i default).tm == 0)
def sameUp (a c : List Bd) (j : Nat) : Bool := (List.range j).all (sameAt a c)
def sameB (a c : List Bd) : Bool := decide (a.length = c.length) && sameUp a c a.length
theorem sameUp_next (a c : List Bd) (j : Nat) : sameUp a c (j + 1) = (sameUp a c j && sameAt a c j) := by simp [sameUp, List.range_succ]
theorem sameUp_stop {a c : List Bd} {j n : Nat} (hj : j < n) (h : sameAt a c j = false) : sameUp a c n = false := by
  unfold sameUp
  rw [List.all_eq_false]
  exact ⟨j, by simpa using hj, by simp [h]⟩
theorem sameB_iff (a c : List Bd) : sameB a c = true ↔ a.length = c.length ∧ ∀ i, i < a.length → (a.getD i default).var = (c.getD i default).var ∧ cmpT (a.getD i default).tm (c.getD i default).tm = 0 := by
  simp only [sameB, sameUp, sameAt, Bool.and_eq_true, decide_eq_true_eq, List.all_eq_true, List.mem_range, beq_iff_eq]
theorem sameB_strip {a c : List Bd} (h : stripB a = stripB c) : sameB a c = true := by
  rw [sameB_iff]
  have hl : a.length = c.length := by rw [← stripB_len a, h, stripB_len]
  refine ⟨hl, fun i hi => ?_⟩
  have h1 := stripB_getD a hi
  have h2 := stripB_getD c (i := i) (by omega)
  rw [h] at h1
  rw [h1] at h2
  have h3 : (a.getD i default).strip = (c.getD i default).strip := h2
  unfold Bd.strip at h3
  injection h3 with h3 h4
  exact ⟨h3, by simpa using same_strip h4⟩
theorem sameB_refl (a : List Bd) : sameB a a = true := sameB_strip rfl
theorem sameB_like {a a' c c' : List Bd} (ha : stripB a = stripB a') (hc : stripB c = stripB c') : sameB a c = sameB a' c' := by
  have tr : ∀ {a a' c c' : List Bd}, stripB a = stripB a' → stripB c = stripB c' → sameB a c = true → sameB a' c' = true := fun {a a' c c'} ha hc h => by
    rw [sameB_iff] at h ⊢
    have l1 : a.length = a'.length := by rw [← stripB_len a, ha, stripB_len]
    have l2 : c.length = c'.length := by rw [← stripB_len c, hc, stripB_len]
    refine ⟨by omega, fun i hi => ?_⟩
    have e1 : (a.getD i default).strip = (a'.getD i default).strip := by rw [← stripB_getD a (by omega), ha, stripB_getD a' hi]
    have e2 : (c.getD i default).strip = (c'.getD i default).strip := by rw [← stripB_getD c (by omega), hc, stripB_getD c' (by omega)]
    unfold Bd.strip at e1 e2
    injection e1 with e1 e1'
    injection e2 with e2 e2'
    have := h.2 i (by omega)
    refine ⟨by rw [← e1, ← e2]; exact this.1, ?_⟩
    rw [← cmp_strip.1, ← e1', ← e2', cmp_strip.1]
    exact this.2
  rw [Bool.eq_iff_iff]
  exact ⟨tr ha hc, tr ha.symm hc.symm⟩
theorem asc_vars {a c : List Bd} (ha : Asc a) (hc : Asc c) (h : ∀ v, (∃ x ∈ a, x.var = v) ↔ ∃ x ∈ c, x.var = v) : a.map Bd.var = c.map Bd.var := by
  induction a generalizing c with
  | nil =>
    cases c with
    | nil => rfl
    | cons y q => exact absurd ((h y.var).2 ⟨y, by simp, rfl⟩) (by simp)
  | cons x r ih =>
    cases c with
    | nil => exact absurd ((h x.var).1 ⟨x, by simp, rfl⟩) (by simp)
    | cons y q =>
      have pa := List.pairwise_cons.1 ha
      have pc := List.pairwise_cons.1 hc
      have e : x.var = y.var := by
        obtain ⟨z, hz, e1⟩ := (h x.var).1 ⟨x, by simp, rfl⟩
        obtain ⟨z', hz', e2⟩ := (h y.var).2 ⟨y, by simp, rfl⟩
        rcases List.mem_cons.1 hz with rfl | hz
        · exact e1.symm
        · rcases List.mem_cons.1 hz' with rfl | hz'
          · exact e2
          · have := pa.1 z' hz'
            have := pc.1 z hz
            omega
      simp only [List.map_cons, e]
      congr 1
      refine ih pa.2 pc.2 fun v => ?_
      constructor
      · rintro ⟨z, hz, rfl⟩
        obtain ⟨z', hz', e1⟩ := (h z.var).1 ⟨z, by simp [hz], rfl⟩
        rcases List.mem_cons.1 hz' with rfl | hz'
        · have := pa.1 z hz; omega
        · exact ⟨z', hz', e1⟩
      · rintro ⟨z, hz, rfl⟩
        obtain ⟨z', hz', e1⟩ := (h z.var).2 ⟨z, by simp [hz], rfl⟩
        rcases List.mem_cons.1 hz' with rfl | hz'
        · have := pc.1 z hz; omega
        · exact ⟨z', hz', e1⟩
/-- Two solved forms that make the same of each variable are the same. -/
theorem solved_ext {u v : List Bd} (hu : rightS u = true) (hv : rightS v = true) (h : ∀ t : Tm, cmpT (t.app u) (t.app v) = 0) : sameB u v = true := by
  have half : ∀ {u v : List Bd}, rightS u = true → (∀ t : Tm, cmpT (t.app u) (t.app v) = 0) → ∀ x ∈ u, ∃ y ∈ v, y.var = x.var ∧ cmpT x.tm y.tm = 0 := fun {u v} hu h x hx => by
    have h1 := h (.mk 1 x.var ByteArray.empty none 0 [])
    simp only [Tm.app, if_true, look_mem ((rightS_iff u).1 hu).1.2.dis hx, Option.getD_some] at h1
    cases hl : look v x.var with
    | none =>
      rw [hl] at h1
      simp only [Option.getD_none] at h1
      have h2 := isV_cmp (t := x.tm) (v := x.var) ByteArray.empty none 0 []
      rw [h1, solved_isV hu hx] at h2
      cases h2
    | some t =>
      obtain ⟨y, hy, e, rfl⟩ := look_some hl
      rw [hl] at h1
      exact ⟨y, hy, e, h1⟩
  have ru := (rightS_iff u).1 hu
  have rv := (rightS_iff v).1 hv
  have hm := asc_vars ru.1.2 rv.1.2 fun n => ⟨fun ⟨x, hx, e⟩ => by
    obtain ⟨y, hy, e', _⟩ := half hu h x hx
    exact ⟨y, hy, e'.trans e⟩, fun ⟨x, hx, e⟩ => by
    obtain ⟨y, hy, e', _⟩ := half hv (fun t => cmp_symm (h t)) x hx
    exact ⟨y, hy, e'.trans e⟩⟩
  rw [sameB_iff]
  have hl : u.length = v.length := by simpa using congrArg List.length hm
  refine ⟨hl, fun i hi => ?_⟩
  have e : (u.getD i default).var = (v.getD i default).var := by
    have := congrArg (fun l => l.getD i 0) hm
    simpa [List.getD, hi, show i < v.length by omega] using this
  refine ⟨e, ?_⟩
  obtain ⟨y, hy, e', hc⟩ := half hu h _ (bgetD_mem hi)
  have h1 := look_mem rv.1.2.dis hy
  have h2 := look_mem rv.1.2.dis (bgetD_mem (l := v) (k := i) (by omega))
  rw [e', e, h2] at h1
  injection h1 with h1
  rw [h1]; exact hc
theorem comp_assoc {a b c x y u v : List Bd} (h1 : comp a b = (x, 0)) (h2 : comp b c = (y, 0)) (h3 : comp x c = (u, 0)) (h4 : comp a y = (v, 0)) : sameB u v = true := by
  refine solved_ext (comp_ok h3).2.2.2 (comp_ok h4).2.2.2 fun t => ?_
  have e1 : cmpT (t.app u) (((t.app a).app b).app c) = 0 := cmp_trans (comp_then h3 t) ((cmp_app c).1 _ _ (comp_then h1 t))
  have e2 : cmpT (t.app v) (((t.app a).app b).app c) = 0 := cmp_trans (comp_then h4 t) (comp_then h2 (t.app a))
  exact cmp_trans e1 (cmp_symm e2)

/-! ### Restriction -/
def restr (b : List Bd) (vars : List Int) : List Bd := b.filter fun x => decide (x.var ∈ vars)
theorem restr_next {b : List Bd} {j : Nat} (hj : j < b.length) (vars : List Int) : restr (b.take (j + 1)) vars = restr (b.take j) vars ++ (if (b.getD j default).var ∈ vars then [b.getD j default] else []) := by
  unfold restr
  rw [btake_next hj, List.filter_append]
  congr 1
  rw [List.filter_cons]
  split <;> split <;> simp_all
theorem restr_strip (b : List Bd) (vars : List Int) : stripB (restr b vars) = restr (stripB b) vars := by
  show (b.filter fun x => decide (x.var ∈ vars)).map Bd.strip = (b.map Bd.strip).filter fun x => decide (x.var ∈ vars)
  rw [List.filter_map]
  rfl
theorem restr_right {b : List Bd} (vars : List Int) (h : rightS b = true) : rightS (restr b vars) = true := by
  rw [rightS_iff] at h ⊢
  have hm : ∀ x ∈ restr b vars, x ∈ b := fun x hx => (List.mem_filter.1 hx).1
  refine ⟨⟨fun x hx => h.1.1 x (hm x hx), h.1.2.sublist List.filter_sublist⟩, fun x hx v hv => ?_⟩
  have := h.2 x (hm x hx) v hv
  rw [look_none] at this ⊢
  exact fun y hy => this y (hm y hy)
end Go.Proofs.YtelkmnjoboekmaaGreat
namespace Go.Proofs.YtelkmnjoboekmaaGreat
open Go.RowKit

/-- A row of bindings of the call's own: block g holds them, and may be written. -/
def Row5 (w : World) (g : Nat) (l : List Bd) : Prop := g < w.heap.size ∧ (∀ j, w.frozen? ⟨g, j, none⟩ = false) ∧ ∀ i j u, i < l.length → (l.getD i default).cells[j]? = some u → w.cell? ⟨g, i * 5 + j, none⟩ = some u
theorem bcells_length (x : Bd) : x.cells.length = 5 := rfl
theorem bcells_lt {x : Bd} {j : Nat} {u : Value} (h : x.cells[j]? = some u) : j < 5 := by
  have := (List.getElem?_eq_some_iff.1 h).1
  simpa [Bd.cells] using this
end Go.Proofs.YtelkmnjoboekmaaGreat
namespace Go.Proofs.YtelkmnjoboekmaaGreat
open Go.RowKit

theorem arguments_at (t : Tm) (w : World) :
    Calls Tryz.prog 148 #[t.val] w fun e w' => e = .returned (.slice t.uat t.used.length t.ucap) ∧ Below w.heap.size w w' := by
  obtain ⟨k, n, s, A, c, a⟩ := t
  show Calls Tryz.prog 148 #[.agg #[.int .i64 k, .int .i64 n, .string s, .slice A a.length c]] w _
  by_cases hk : k = 2
  · have HV := Lib.hid (show (Tm.mk k n s A c a).uat = A ∧ (Tm.mk k n s A c a).used = a ∧ (Tm.mk k n s A c a).ucap = c by simp [Tm.uat, Tm.used, Tm.ucap, Tm.kind, Tm.at_, Tm.args, Tm.cap, hk])
    have hk' : (k != 2) = false := by simp [hk]
    clear hk
    go_enter Tryz.func148, Tryz.ntmps148
    go_wp2
    go_ret
    obtain ⟨h1, h2, h3⟩ := HV.out
    exact ⟨by rw [h1, h2, h3]; rfl, (Below.refl _ _).alloc (Nat.le_refl _) _⟩
  · have HV := Lib.hid (show (Tm.mk k n s A c a).uat = none ∧ (Tm.mk k n s A c a).used = [] ∧ (Tm.mk k n s A c a).ucap = 0 by simp [Tm.uat, Tm.used, Tm.ucap, Tm.kind, hk])
    have hk' : (k != 2) = true := by simp [hk]
    clear hk
    go_enter Tryz.func148, Tryz.ntmps148
    go_wp2
    go_ret
    obtain ⟨h1, h2, h3⟩ := HV.out
    exact ⟨by rw [h1, h2, h3]; rfl, (Below.refl _ _).alloc (Nat.le_refl _) _⟩

theorem args_at (t : Tm) (w : World) :
    Calls Tryz.prog 112 #[t.val] w fun e w' => e = .returned (.slice t.uat t.used.length t.ucap) ∧ Below w.heap.size w w' := by
  obtain ⟨k, n, s, A, c, a⟩ := t
  show Calls Tryz.prog 112 #[.agg #[.int .i64 k, .int .i64 n, .string s, .slice A a.length c]] w _
  by_cases hk : k = 2
  · have HV := Lib.hid (show (Tm.mk k n s A c a).uat = A ∧ (Tm.mk k n s A c a).used = a ∧ (Tm.mk k n s A c a).ucap = c by simp [Tm.uat, Tm.used, Tm.ucap, Tm.kind, Tm.at_, Tm.args, Tm.cap, hk])
    have hk' : (k == 2) = true := by simp [hk]
    clear hk
    go_enter Tryz.func112, Tryz.ntmps112
    go_wp2
    go_ret
    obtain ⟨h1, h2, h3⟩ := HV.out
    exact ⟨by rw [h1, h2, h3]; rfl, (Below.refl _ _).alloc (Nat.le_refl _) _⟩
  · have HV := Lib.hid (show (Tm.mk k n s A c a).uat = none ∧ (Tm.mk k n s A c a).used = [] ∧ (Tm.mk k n s A c a).ucap = 0 by simp [Tm.uat, Tm.used, Tm.ucap, Tm.kind, hk])
    have hk' : (k == 2) = false := by simp [hk]
    clear hk
    go_enter Tryz.func112, Tryz.ntmps112
    go_wp2
    go_ret
    obtain ⟨h1, h2, h3⟩ := HV.out
    exact ⟨by rw [h1, h2, h3]; rfl, (Below.refl _ _).alloc (Nat.le_refl _) _⟩

set_option maxHeartbeats 1000000 in
theorem ref_size_at (t : Tm) : ∀ w : World, t.At w → t.size ≤ 1000000 →
    Calls Tryz.prog 76 #[t.val] w fun e w' => e = .returned (.int .i64 (t.size : Int)) ∧ Below w.heap.size w w' := by
  induction t using Tm.induct with
  | h k n s A c a ih0 =>
    intro w hat hs
    have hl := hat.ulst
    have hsz := size_used (.mk k n s A c a)
    have ih : ∀ x ∈ (Tm.mk k n s A c a).used, ∀ w : World, x.At w → x.size ≤ 1000000 → Calls Tryz.prog 76 #[x.val] w fun e w' => e = .returned (.int .i64 (x.size : Int)) ∧ Below w.heap.size w w' := by
      unfold Tm.used
      split
      · exact ih0
      · intro x hx; cases hx
    have qa := Lib.hid (args_at (.mk k n s A c a))
    rw [hsz] at hs ⊢
    clear hat ih0 hsz
    generalize (Tm.mk k n s A c a).used = l at *
    generalize (Tm.mk k n s A c a).uat = U at *
    generalize (Tm.mk k n s A c a).ucap = q at *
    have QI := Lib.hid ih
    clear ih
    have hlen : l.length ≤ 9223372036854775807 := by have := hl.1; have := hl.2.1; unfold maxLen at *; omega
    show Calls Tryz.prog 76 #[.agg #[.int .i64 k, .int .i64 n, .string s, .slice A a.length c]] w _
    go_enter Tryz.func76, Tryz.ntmps76
    go_wp2_with fail
    refine (qa.out _).mono ?_
    rintro e w1 ⟨rfl, hb1⟩
    go_wp2_with fail
    have hb2 : Below w.heap.size w w1 := ((Below.refl _ _).alloc (Nat.le_refl _) _).trans (hb1.mono (by simp))
    clear hb1
    go_loopw [3, 5] (fun z i wr => ∃ j : Nat, j ≤ l.length ∧ i = .int .i64 j ∧ z = .int .i64 ((1 + sizeL (l.take j) : Nat) : Int) ∧ Below w.heap.size w wr) (fun _ i _ => l.length - (intOf i).toNat)
    case atStart => exact ⟨0, Nat.zero_le _, rfl, rfl, hb2⟩
    case round =>
      obtain ⟨j, hj, rfl, rfl, hb⟩ := hrel
      by_cases hlt : j < l.length
      · obtain ⟨b, o, rfl, ⟨c0, c1, c2, c3⟩, hx⟩ := (hl.below hb).get hlt
        have hm := getD_mem hlt
        have hn := sizeL_next hlt
        have ht := sizeL_take l (j + 1)
        have ht' := sizeL_take l j
        generalize l.getD j default = x at *
        have q1 := QI.out x hm
        obtain ⟨k', n', s', A', c', a'⟩ := x
        simp only [Tm.kind, Tm.num, Tm.name, Tm.at_, Tm.args, Tm.cap] at c0 c1 c2 c3
        have hB : sizeL (l.take j) + (Tm.mk k' n' s' A' c' a').size ≤ sizeL l := by omega
        have HN := Lib.hid hn
        clear hn
        have Q1 := Lib.hid q1
        have HX := Lib.hid hx
        clear q1 hx QI qa
        go_wp2_with fail
        refine (Q1.out _ (HX.out) (by omega)).mono ?_
        rintro e w2 ⟨rfl, hb3⟩
        go_wp2_with fail
        go_roundw
        case rel => exact ⟨j + 1, by omega, by go_num, by rw [HN.out]; go_num, hb.trans (hb3.mono hb.size)⟩
        case measure => simp [intOf]; omega
      · obtain rfl : j = l.length := by omega
        go_wp2_with fail
        go_ret
        exact ⟨by rw [List.take_length]; rfl, hb⟩
set_option maxHeartbeats 1000000 in
theorem ref_depth_at (t : Tm) : ∀ w : World, t.At w → t.depth ≤ 1000000 →
    Calls Tryz.prog 77 #[t.val] w fun e w' => e = .returned (.int .i64 (t.depth : Int)) ∧ Below w.heap.size w w' := by
  induction t using Tm.induct with
  | h k n s A c a ih0 =>
    intro w hat hs
    have hl := hat.ulst
    have hsz := depth_used (.mk k n s A c a)
    have ih : ∀ x ∈ (Tm.mk k n s A c a).used, ∀ w : World, x.At w → x.depth ≤ 1000000 → Calls Tryz.prog 77 #[x.val] w fun e w' => e = .returned (.int .i64 (x.depth : Int)) ∧ Below w.heap.size w w' := by
      unfold Tm.used
      split
      · exact ih0
      · intro x hx; cases hx
    have qa := Lib.hid (args_at (.mk k n s A c a))
    rw [hsz] at hs ⊢
    clear hat ih0 hsz
    generalize (Tm.mk k n s A c a).used = l at *
    generalize (Tm.mk k n s A c a).uat = U at *
    generalize (Tm.mk k n s A c a).ucap = q at *
    have QI := Lib.hid ih
    clear ih
    have hlen : l.length ≤ 9223372036854775807 := by have := hl.1; have := hl.2.1; unfold maxLen at *; omega
    show Calls Tryz.prog 77 #[.agg #[.int .i64 k, .int .i64 n, .string s, .slice A a.length c]] w _
    go_enter Tryz.func77, Tryz.ntmps77
    go_wp2_with fail
    refine (qa.out _).mono ?_
    rintro e w1 ⟨rfl, hb1⟩
    go_wp2_with fail
    have hb2 : Below w.heap.size w w1 := ((Below.refl _ _).alloc (Nat.le_refl _) _).trans (hb1.mono (by simp))
    clear hb1
    go_loopw [3, 5] (fun z i wr => ∃ j : Nat, j ≤ l.length ∧ i = .int .i64 j ∧ z = .int .i64 ((depthL (l.take j) : Nat) : Int) ∧ Below w.heap.size w wr) (fun _ i _ => l.length - (intOf i).toNat)
    case atStart => exact ⟨0, Nat.zero_le _, rfl, rfl, hb2⟩
    case round =>
      obtain ⟨j, hj, rfl, rfl, hb⟩ := hrel
      by_cases hlt : j < l.length
      · obtain ⟨b, o, rfl, ⟨c0, c1, c2, c3⟩, hx⟩ := (hl.below hb).get hlt
        have hm := getD_mem hlt
        have hn := depthL_next hlt
        have ht := depthL_take l (j + 1)
        have ht' := depthL_take l j
        generalize l.getD j default = x at *
        have q1 := QI.out x hm
        obtain ⟨k', n', s', A', c', a'⟩ := x
        simp only [Tm.kind, Tm.num, Tm.name, Tm.at_, Tm.args, Tm.cap] at c0 c1 c2 c3
        have hB : (Tm.mk k' n' s' A' c' a').depth ≤ depthL l := by omega
        have HN := Lib.hid hn
        clear hn
        have Q1 := Lib.hid q1
        have HX := Lib.hid hx
        clear q1 hx QI qa
        go_wp2_with fail
        refine (Q1.out _ (HX.out) (by omega)).mono ?_
        rintro e w2 ⟨rfl, hb3⟩
        go_wp2_with fail
        go_roundw
        case rel => exact ⟨j + 1, by omega, by go_num, by rw [HN.out]; go_num, hb.trans (hb3.mono hb.size)⟩
        case measure => simp [intOf]; omega
      · obtain rfl : j = l.length := by omega
        go_wp2_with fail
        go_ret
        exact ⟨by rw [List.take_length]; rfl, hb⟩
end Go.Proofs.YtelkmnjoboekmaaGreat
namespace Go.Proofs.YtelkmnjoboekmaaGreat
open Go.RowKit

section
variable {σ : Type}
/-- The visits of a list, until one answers false. -/
def runV (step : σ → Int → Bool × σ) : σ → List Int → Bool × σ
  | s, [] => (true, s)
  | s, x :: r => if (step s x).1 then runV step (step s x).2 r else (false, (step s x).2)
theorem runV_append (step : σ → Int → Bool × σ) (s : σ) (xs ys : List Int) : runV step s (xs ++ ys) = if (runV step s xs).1 then runV step (runV step s xs).2 ys else runV step s xs := by
  induction xs generalizing s with
  | nil => simp [runV]
  | cons x r ih =>
    simp only [List.cons_append, runV]
    by_cases h : (step s x).1 = true
    · simp only [h, if_true]; exact ih _
    · simp [h]

theorem runV_one (step : σ → Int → Bool × σ) (s : σ) (x : Int) : runV step s [x] = step s x := by
  simp only [runV]
  by_cases h : (step s x).1 = true
  · rw [if_pos h]; exact Prod.ext h.symm rfl
  · rw [if_neg h]
    refine Prod.ext ?_ rfl
    have : (step s x).1 = false := by simpa using h
    exact this.symm

/-- What is known of a function value that eachVar is handed: its contract at a number, in each world that fits the state; the first argument of Inv tells how many calls may still come. -/
structure Visits (step : σ → Int → Bool × σ) (Inv : Nat → σ → World → Prop) (w0 : World) (F : FuncId) (caps : Array Value) : Prop where
  enter : ∀ (args : Array Value) (W : World), (callFunc F args).run Tryz.prog W = .ok (.enter F args) W
  call : ∀ (f : Nat) (s : σ) (n : Int) (W : World), Fits n → Inv (f + 1) s W → Calls Tryz.prog F (#[.int .i64 n] ++ caps) W fun e W' => e = .returned (.bool (step s n).1) ∧ Inv f (step s n).2 W'
  keep : ∀ (f : Nat) (s : σ) (W W' : World), Inv f s W → Below W.heap.size W W' → Inv f s W'
  less : ∀ (f g : Nat) (s : σ) (W : World), g ≤ f → Inv f s W → Inv g s W
  base : ∀ (f : Nat) (s : σ) (W : World), Inv f s W → Below w0.heap.size w0 W

theorem drop_next {us : List Tm} {j : Nat} (h : j < us.length) : occL (us.drop j) = (us.getD j default).occ ++ occL (us.drop (j + 1)) := by
  rw [List.drop_eq_getElem_cons h]
  simp [occL, List.getD, List.getElem?_eq_getElem h]
theorem runV_stop {step : σ → Int → Bool × σ} {s : σ} {us : List Tm} {j : Nat} (h : (runV step s (occL (us.take j))).1 = false) : runV step s (occL us) = runV step s (occL (us.take j)) := by
  have e := occL_append (us.take j) (us.drop j)
  rw [List.take_append_drop] at e
  rw [e, runV_append, h]
  simp

def EachAt (step : σ → Int → Bool × σ) (Inv : Nat → σ → World → Prop) (F : FuncId) (caps : Array Value) (t : Tm) : Prop :=
  ∀ (f : Nat) (s : σ) (W : World), Inv (f + t.occ.length) s W → Calls Tryz.prog 126 #[t.val, .func (.func F) #[] caps] W fun e W' => e = .returned (.bool (runV step s t.occ).1) ∧ Inv f (runV step s t.occ).2 W'

set_option maxHeartbeats 1000000 in
theorem each_at {step : σ → Int → Bool × σ} {Inv : Nat → σ → World → Prop} {w0 : World} {F : FuncId} {caps : Array Value} (hv : Visits step Inv w0 F caps) (t : Tm) : t.At w0 → EachAt step Inv F caps t := by
  induction t using Tm.induct with
  | h k n s A c a ih0 =>
    intro hat f s0 W hI
    have qa := Lib.hid (arguments_at (.mk k n s A c a))
    have hocc := occ_used (.mk k n s A c a)
    have B0 := Lib.hid (show ∀ o, Below W.heap.size W (W.alloc o) from fun o => (Below.refl _ _).alloc (Nat.le_refl _) o)
    have hent := hv.enter
    show Calls Tryz.prog 126 #[.agg #[.int .i64 k, .int .i64 n, .string s, .slice A a.length c], .func (.func F) #[] caps] W _
    by_cases k1 : k = 1
    · subst k1
      have HO := Lib.hid (show (Tm.mk 1 n s A c a).occ = [n] by rw [hocc]; simp [Tm.kind, Tm.num])
      rw [HO.out] at hI
      have hfit : Fits n := ((At_iff _ _).1 hat).1.2.1
      have Q := Lib.hid (fun W' h => hv.call f s0 n W' hfit (hv.keep _ s0 W W' hI h))
      clear ih0 hocc hat hI qa
      go_enter Tryz.func126, Tryz.ntmps126
      go_wp2_with fail
      refine (Q.out _ (B0.out _)).mono ?_
      rintro e w' ⟨rfl, hI'⟩
      go_wp2_with fail
      go_ret
      rw [HO.out, runV_one]
      exact ⟨rfl, hI'⟩
    · have k1' : (k == 1) = false := by simp [k1]
      have hl := hat.ulst
      have ih : ∀ x ∈ (Tm.mk k n s A c a).used, x.At w0 → EachAt step Inv F caps x := by
        unfold Tm.used
        split
        · exact ih0
        · intro x hx; cases hx
      have HO : (Tm.mk k n s A c a).occ = occL (Tm.mk k n s A c a).used := by rw [hocc]; exact if_neg k1
      rw [HO] at hI ⊢
      clear ih0 hocc hat k1 HO
      generalize (Tm.mk k n s A c a).used = us at *
      generalize (Tm.mk k n s A c a).uat = U at *
      generalize (Tm.mk k n s A c a).ucap = uq at *
      have QI := Lib.hid ih
      have HI := Lib.hid hI
      have hlen : us.length ≤ 9223372036854775807 := by have := hl.1; have := hl.2.1; unfold maxLen at *; omega
      have HV := Lib.hid hv
      clear ih hv hI
      go_enter Tryz.func126, Tryz.ntmps126
      go_wp2_with fail
      refine (qa.out _).mono ?_
      rintro e w1 ⟨rfl, hb1⟩
      have HI1 := Lib.hid (HV.out.keep _ s0 W w1 HI.out ((B0.out _).trans (hb1.mono (by simp))))
      clear hb1
      go_wp2_with fail
      go_loopw [17] (fun i wr => ∃ j : Nat, j ≤ us.length ∧ i = .int .i64 j ∧ Hid (∃ s', runV step s0 (occL (us.take j)) = (true, s') ∧ Inv (f + (occL (us.drop j)).length) s' wr)) (fun i _ => us.length - (intOf i).toNat)
      case atStart => exact ⟨0, Nat.zero_le _, rfl, Lib.hid ⟨s0, rfl, HI1.out⟩⟩
      case round =>
        obtain ⟨j, hj, rfl, HX⟩ := hrel
        obtain ⟨s', hrun, hinv⟩ := HX.out
        have HR := Lib.hid hrun
        by_cases hlt : j < us.length
        · obtain ⟨b, o, rfl, ⟨c0, c1, c2, c3⟩, _⟩ := (hl.below (HV.out.base _ _ _ hinv)).get hlt
          have hmem := getD_mem hlt
          have hy := hl.mem hmem
          have HN := Lib.hid (occL_next hlt)
          have hd := drop_next hlt
          have HT := Lib.hid (fun h => runV_stop (step := step) (s := s0) (us := us) (j := j + 1) h)
          generalize us.getD j default = y at *
          rw [hd, List.length_append, Nat.add_comm y.occ.length, ← Nat.add_assoc] at hinv
          clear hd
          have Q1 := Lib.hid (fun o => QI.out y hmem hy (f + (occL (us.drop (j + 1))).length) s' (wr.alloc o) (HV.out.keep _ s' wr _ hinv ((Below.refl _ _).alloc (Nat.le_refl _) o)))
          obtain ⟨p, hp⟩ : ∃ p, runV step s' y.occ = p := ⟨_, rfl⟩
          have HE := Lib.hid (show runV step s0 (occL (us.take (j + 1))) = p by rw [HN.out, runV_append, HR.out]; exact hp)
          rw [HE.out] at HT
          rw [hp] at Q1
          clear hp hmem hy hrun hinv HX HN HR QI
          obtain ⟨b2, s2⟩ := p
          obtain ⟨k', n', s', A', c', a'⟩ := y
          simp only [Tm.kind, Tm.num, Tm.name, Tm.at_, Tm.args, Tm.cap] at c0 c1 c2 c3
          cases b2
          · go_wp2_with fail
            refine (Q1.out _).mono ?_
            rintro e w2 ⟨rfl, hI2⟩
            go_wp2_with fail
            go_ret
            rw [HT.out True.intro]
            exact ⟨rfl, HV.out.less _ _ _ _ (Nat.le_add_right _ _) hI2⟩
          · go_wp2_with fail
            refine (Q1.out _).mono ?_
            rintro e w2 ⟨rfl, hI2⟩
            go_wp2_with fail
            go_roundw
            case rel => exact ⟨j + 1, by omega, by go_num, Lib.hid ⟨s2, HE.out, hI2⟩⟩
            case measure => simp [intOf]; omega
        · obtain rfl : j = us.length := by omega
          have HE := Lib.hid (show runV step s0 (occL us) = (true, s') by rw [← HR.out, List.take_length])
          clear hrun HR
          have HJ := Lib.hid (HV.out.less _ f _ _ (Nat.le_add_right _ _) hinv)
          clear hinv HX
          go_wp2_with fail
          go_ret
          rw [HE.out]
          exact ⟨rfl, HJ.out⟩
end
end Go.Proofs.YtelkmnjoboekmaaGreat
namespace Go.Proofs.YtelkmnjoboekmaaGreat
open Go.RowKit

theorem enters_fn {f : FuncId} {fn : Func} {c : Code} (hf : Tryz.prog.funcs[f]? = some fn) (hname : (fn.name == "runtime.NumGoroutine") = false) (hb : fn.body = some c) (args : Array Value) (W : World) :
    (callFunc f args).run Tryz.prog W = .ok (.enter f args) W := by
  have h1 : fn.name ≠ "runtime.NumGoroutine" := by simpa using hname
  simp [callFunc, hf, h1, hb, mark]

def noStep (_ : Unit) (_ : Int) : Bool × Unit := (false, ())
theorem no_run (xs : List Int) : (runV noStep () xs).1 = decide (xs = []) := by
  cases xs with
  | nil => rfl
  | cons x r => simp [runV, noStep]

def otherStep (v : Int) (_ : Unit) (n : Int) : Bool × Unit := (n != v, ())
theorem other_run (v : Int) (xs : List Int) : (runV (otherStep v) () xs).1 = decide (v ∉ xs) := by
  induction xs with
  | nil => simp [runV]
  | cons x r ih =>
    by_cases h : x = v
    · subst h
      simp [runV, otherStep]
    · have h' : (otherStep v () x).1 = true := by simpa [otherStep] using h
      simp only [runV]
      rw [if_pos h']
      show (runV (otherStep v) () r).1 = _
      rw [ih, decide_eq_decide, List.mem_cons, not_or]
      exact ⟨fun e => ⟨fun q => h q.symm, e⟩, fun e => e.2⟩

end Go.Proofs.YtelkmnjoboekmaaGreat
namespace Go.Proofs.YtelkmnjoboekmaaGreat
open Go.RowKit

def icells (l : List Int) : List Value := l.map (Value.int .i64)
theorem icells_length (l : List Int) : (icells l).length = l.length := by simp [icells]
theorem icells_append (l m : List Int) : icells (l ++ m) = icells l ++ icells m := by simp [icells]
theorem icells_one (l : List Int) : ∀ u ∈ icells l, u.oneCell' = true := by
  intro u hu
  obtain ⟨_, _, rfl⟩ := List.mem_map.1 hu
  rfl
theorem icells_get {l : List Int} {i : Nat} (h : i < l.length) : (icells l)[i]? = some (.int .i64 (l.getD i 0)) := by simp [icells, List.getD, h]

/-- The ints l lie at A. -/
def Ints (w : World) (A : Option Addr) (l : List Int) : Prop := 0 < l.length → ∃ b o, A = some ⟨b, o, none⟩ ∧ ∀ i, i < l.length → w.cell? ⟨b, o + i, none⟩ = some (.int .i64 (l.getD i 0))
theorem Ints.get {w : World} {A : Option Addr} {l : List Int} (h : Ints w A l) {i : Nat} (hi : i < l.length) : ∃ b o, A = some ⟨b, o, none⟩ ∧ w.cell? ⟨b, o + i, none⟩ = some (.int .i64 (l.getD i 0)) := by
  obtain ⟨b, o, e, hc⟩ := h (by omega)
  exact ⟨b, o, e, hc i hi⟩
theorem Ints.below {w w' : World} {A : Option Addr} {l : List Int} (h : Ints w A l) (hb : Below w.heap.size w w') : Ints w' A l := fun hn => by
  obtain ⟨b, o, e, hc⟩ := h hn
  refine ⟨b, o, e, fun i hi => ?_⟩
  rw [hb.cell (World.block_lt_of_cell? w _ (hc i hi))]
  exact hc i hi

/-- A slice of ints of the call's own (from block base on). -/
def OwnI (w : World) (base : Nat) (v : Value) (l : List Int) : Prop := w.ownsRow base 3 1 v l.length (icells l)
theorem OwnI.nil (w : World) (base : Nat) : OwnI w base (.slice none 0 0) [] := World.ownsRow_nil w base _ _
theorem OwnI.form {w : World} {base : Nat} {v : Value} {l : List Int} (h : OwnI w base v l) : ∃ A c, v = .slice A l.length c ∧ Ints w A l ∧ l.length ≤ c := by
  rcases h.2 with ⟨rfl, h0⟩ | ⟨g, cap, cur, rfl, _, _, hn, _, _, _⟩
  · exact ⟨none, 0, by rw [h0], fun hn => absurd hn (by omega), by omega⟩
  · refine ⟨_, cap, rfl, fun _ => ⟨g, 0, rfl, fun i hi => ?_⟩, hn⟩
    rw [Nat.zero_add, World.ownsRow.cellAt h i (by omega), icells_get hi]
theorem OwnI.alloc {w : World} {base : Nat} {v : Value} {l : List Int} (h : OwnI w base v l) (o : Obj) : OwnI (w.alloc o) base v l := World.ownsRow.alloc h o
theorem OwnI.below {w w' : World} {base : Nat} {v : Value} {l : List Int} (h : OwnI w base v l) (hb : Below w.heap.size w w') : OwnI w' base v l :=
  World.ownsRow.kept (row := none) h ⟨hb.os, hb.tape, hb.output, hb.size, fun k hk _ => hb.block k hk⟩ (by
    rcases h.2 with ⟨rfl, _⟩ | ⟨g, cap, cur, rfl, _⟩
    · exact .inl rfl
    · exact .inr (by simp [Value.ownBlock]))

theorem take_int {l : List Int} {k : Nat} (h : k < l.length) : l.take (k + 1) = l.take k ++ [l.getD k 0] := by
  rw [List.take_succ_eq_append_getElem h]
  simp [List.getD, List.getElem?_eq_getElem h]
theorem getD_int {l : List Int} {k : Nat} (h : k < l.length) : l.getD k 0 ∈ l := by
  simp only [List.getD, List.getElem?_eq_getElem h, Option.getD_some]
  exact List.getElem_mem h

set_option maxHeartbeats 400000 in
theorem has_at (A : Option Addr) (l : List Int) (c : Nat) (n : Int) (w : World) (hI : Ints w A l) (hlen : l.length ≤ 9223372036854775807) {r : Bool} (hr : decide (n ∈ l) = r) :
    Calls Tryz.prog 154 #[.slice A l.length c, .int .i64 n] w fun e w' => e = .returned (.bool r) ∧ w = w' := by
  have HR := Lib.hid hr
  clear hr
  go_enter Tryz.func154, Tryz.ntmps154
  go_wp2
  go_loop [5] (fun i => ∃ j : Nat, j ≤ l.length ∧ i = .int .i64 j ∧ Hid (n ∉ l.take j)) (fun i => l.length - (intOf i).toNat)
  case atStart => exact ⟨0, Nat.zero_le _, rfl, Lib.hid (by simp)⟩
  case round =>
    obtain ⟨j, hj, rfl, HN⟩ := hrel
    by_cases hlt : j < l.length
    · obtain ⟨b, o, rfl, hc⟩ := hI.get hlt
      have HT := Lib.hid (take_int hlt)
      have HM := Lib.hid (getD_int hlt)
      generalize l.getD j 0 = x at *
      by_cases hx : x = n
      · subst hx
        have HE := Lib.hid (show true = r by rw [← HR.out]; simp [HM.out])
        go_wp2
        go_ret
        exact ⟨by rw [← HE.out]; rfl, rfl⟩
      · have hx' : (x == n) = false := by simpa using hx
        have HN' := Lib.hid (show n ∉ l.take (j + 1) by
          rw [HT.out, List.mem_append, List.mem_singleton]
          exact fun h => h.elim HN.out (fun e => hx e.symm))
        clear hx
        go_wp2
        go_round
        case rel => exact ⟨j + 1, by omega, by go_num, HN'⟩
        case measure => simp [intOf]; omega
    · obtain rfl : j = l.length := by omega
      have HE := Lib.hid (show false = r by
        have := HN.out
        rw [List.take_length] at this
        rw [← HR.out]; simp [this])
      go_wp2
      go_ret
      exact ⟨by rw [← HE.out]; rfl, rfl⟩

end Go.Proofs.YtelkmnjoboekmaaGreat
