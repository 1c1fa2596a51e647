/-
  What the laws say, plainly.
  What the program's Tell, TellIs, Equal and their parts need, plainly.
  Contract of sides of the program: the equations of a store, in two rows.
  The bound variables, one by one, plainly; a list of bindings whose first one is dropped.
  Contract of newVars of the program.
  Contract of slices.Backward at a list of numbers.
-/
import Derived.Test.YtelkmnjoboekmaaGreatMb6
import Derived.Test.YtelkmnjoboekmaaGreatMb19
import Derived.Test.YtelkmnjoboekmaaGreatMb4
import Derived.Test.YtelkmnjoboekmaaGreatMb1
import Derived.Test.YtelkmnjoboekmaaGreatMb22
import Derived.Test.YtelkmnjoboekmaaGreatMb10
import Derived.BigQuiet
import Derived.Deep.RegionHeld3
import Derived.Test.YtelkmnjoboekmaaGreatMb5
import Derived.Test.YtelkmnjoboekmaaGreatMb20
import Derived.RangeFuncNested
import Derived.RangeFuncBound
import Derived.RangeFuncCalls
import Derived.RangeFuncLeaves
import Derived.Shelf.Abstract
import Derived.Shelf.RegionOpen
import Derived.WalkKit
import Derived.OwnWalkIn
import Derived.TacticsInMore
import Derived.LoopNIn
import Derived.LoopIn
namespace Go.Proofs.YtelkmnjoboekmaaGreat
open Go.RowKit

/-! ### Equal in the standard order -/
theorem texts_zero : ∀ {a b : List UInt8}, texts a b = 0 → a = b := by
  intro a
  induction a with
  | nil =>
    intro b h
    cases b with
    | nil => rfl
    | cons y q => simp [texts, Op.bytesLess] at h
  | cons x r ih =>
    intro b h
    cases b with
    | nil => simp [texts, Op.bytesLess] at h
    | cons y q =>
      rw [texts_cons] at h
      obtain ⟨h1, h2⟩ := lexz_iff.1 h
      have := ints_zero.1 h1
      rw [ih h2, UInt8.toNat_inj.1 (show x.toNat = y.toNat by omega)]
theorem cls_inj {k k' : Int} (h : cls k = cls k') (hk : k = 0 ∨ k = 1 ∨ k = 2) : k = k' := by
  rcases hk with rfl | rfl | rfl
  · unfold cls at h; simp at h; split at h
    · cases h
    · split at h
      · exact Eq.symm ‹_›
      · split at h <;> cases h
  · exact (cls_one.1 h.symm).symm
  · exact (cls_two.1 h.symm).symm
theorem bytes_eq {s t : ByteArray} (h : s.data.toList = t.data.toList) : s = t := by
  cases s; cases t; simp at h; rw [h]
theorem size0 {s : ByteArray} (h : s.size = 0) : s = ByteArray.empty := by
  apply bytes_eq
  have : s.data.toList.length = 0 := by simpa using h
  rw [List.length_eq_zero_iff.1 this]; rfl
theorem cmp_zero : (∀ t : Tm, t.form = true → ∀ u : Tm, u.form = true → cmpT t u = 0 → t.strip = u.strip) ∧ (∀ l, formL l = true → ∀ m, formL m = true → cmpL l m = 0 → stripL l = stripL m) := by
  refine Tm.induct2 (fun k n s A c a ih h u hu e => ?_) (fun _ m _ e => ?_) (fun t r h1 h2 h m hm e => ?_)
  · obtain ⟨k', n', s', A', c', a'⟩ := u
    simp only [cmpT, Tm.kind, Tm.num, Tm.name, Tm.args] at e
    obtain ⟨e1, e2⟩ := lexz_iff.1 e
    have hk := form_kind h
    simp only [Tm.kind] at hk
    obtain rfl := cls_inj (ints_zero.1 e1) hk
    clear e e1
    rcases hk with rfl | rfl | rfl
    · simp at e2
      have := ints_zero.1 e2
      subst this
      simp [Tm.form] at h hu
      obtain ⟨_, _, h3, h4⟩ := h
      obtain ⟨_, _, h5, h6⟩ := hu
      rw [h3, h4, h5, h6]
      rfl
    · simp at e2
      have := ints_zero.1 e2
      subst this
      have hv := form_var h rfl
      have hv' := form_var hu rfl
      rw [hv.1, hv'.1]
      rfl
    · simp at e2
      obtain ⟨_, e3⟩ := lexz_iff.1 e2
      obtain ⟨e4, e5⟩ := lexz_iff.1 e3
      have hn : n = 0 ∧ n' = 0 := by simp [Tm.form] at h hu; exact ⟨h.1, hu.1⟩
      obtain ⟨rfl, rfl⟩ := hn
      have := bytes_eq (texts_zero e4)
      subst this
      simp only [Tm.strip]
      rw [ih (form_args h).2 _ (form_args hu).2 e5]
      rfl
  · cases m with
    | nil => rfl
    | cons y q => simp [cmpL] at e
  · cases m with
    | nil => simp [cmpL] at e
    | cons y q =>
      simp only [cmpL] at e
      obtain ⟨e1, e2⟩ := lexz_iff.1 e
      simp only [formL, Bool.and_eq_true] at h hm
      simp only [stripL]
      rw [h1 h.1 _ hm.1 e1, h2 h.2 _ hm.2 e2]
theorem right_form {t : Tm} (h : t.right = true) : t.form = true := by
  unfold Tm.right at h
  simp only [Bool.and_eq_true] at h
  exact h.1
theorem app_form {b : List Bd} (hb : ∀ x ∈ b, x.tm.form = true) : (∀ t : Tm, t.form = true → (t.app b).form = true) ∧ (∀ l, formL l = true → formL (appL b l) = true) := by
  refine Tm.induct2 (fun k n s A c a ih h => ?_) (fun _ => rfl) (fun t r h1 h2 h => ?_)
  · simp only [Tm.app]
    split
    · cases hl : look b n with
      | none => simpa using h
      | some u =>
        obtain ⟨x, hx, _, rfl⟩ := look_some hl
        simpa using hb x hx
    · split
      · rename_i h1 h2
        simp only [Tm.form, h2, if_true] at h ⊢
        subst h2
        simp only [show ¬ (2 : Int) = 0 by decide, show ¬ (2 : Int) = 1 by decide, if_false, appL_len, Bool.and_eq_true] at h ⊢
        exact ⟨h.1, h.2.1, ih h.2.2⟩
      · exact h
  · simp only [formL, appL, Bool.and_eq_true] at h ⊢
    exact ⟨h1 h.1, h2 h.2⟩
theorem rightS_forms {b : List Bd} (h : rightS b = true) : ∀ x ∈ b, x.tm.form = true := fun x hx => right_form (((rightS_iff b).1 h).1.1 x hx).2.2

/-! ### The laws -/
theorem arg_right {s : ByteArray} {A : Option Addr} {c : Nat} {a : List Tm} (h : (Tm.mk 2 0 s A c a).right = true) : a.all Tm.right = true := by
  have hf := form_args (right_form h)
  rw [List.all_eq_true]
  intro t ht
  unfold Tm.right at h ⊢
  simp only [Bool.and_eq_true, decide_eq_true_eq, Tm.size, Tm.depth, if_true] at h ⊢
  have h1 := size_mem ht
  have h2 := depth_mem ht
  exact ⟨formL_mem ht hf.2, by omega, by omega⟩
theorem functors_out {s : ByteArray} {A B : Option Addr} {c d : Nat} {a b : List Tm} {m : List Bd} {e : Int} (hx : (Tm.mk 2 0 s A c a).right = true) (hy : (Tm.mk 2 0 s B d b).right = true) (hl : a.length = b.length)
    (h : AllOut [.mk 2 0 s A c a] [.mk 2 0 s B d b] m e) : AllOut a b m e := by
  unfold AllOut at h ⊢
  rw [if_neg (by simp [hx, hy]), if_neg (by simp)] at h
  rw [if_neg (by rw [arg_right hx, arg_right hy]; simp), if_neg (by simp [hl])]
  exact h.of_unif fun f => Unif.one.trans (unif_args hl)
theorem out_zero {a b : Tm} {m : List Bd} (h : AllOut [a] [b] m 0) : a.right = true ∧ b.right = true ∧ Sol ([a].zip [b]) m ∧ allRight m = true := by
  unfold AllOut at h
  split at h
  · exact absurd h.2 (by decide)
  · rename_i hr
    split at h
    · exact absurd h.2 (by decide)
    · have hr' : a.right = true ∧ b.right = true := by simpa using hr
      rcases h with ⟨_, h, _⟩ | ⟨s, hs, ⟨h1, rfl, _⟩ | ⟨_, _, h⟩⟩
      · exact absurd h (by decide)
      · exact ⟨hr'.1, hr'.2, hs, h1⟩
      · exact absurd h (by decide)
theorem out_other {a b : Tm} {m : List Bd} {e : Int} (h : AllOut [a] [b] m e) (he : e ≠ 0) : m = [] := by
  unfold AllOut at h
  split at h
  · exact h.1
  · split at h
    · exact h.1
    · rcases h with ⟨h, _, _⟩ | ⟨s, hs, ⟨_, _, h⟩ | ⟨_, h, _⟩⟩
      · exact h
      · exact absurd h he
      · exact h
theorem sol_right {E : List (Tm × Tm)} {m : List Bd} (h : Sol E m) (hr : allRight m = true) : rightS m = true := by
  rw [rightS_iff]
  refine ⟨⟨fun x hx => ?_, h.asc⟩, h.apart⟩
  exact ⟨(h.cl x hx).2.2.1, (h.cl x hx).2.2.2, List.all_eq_true.1 hr x hx⟩
theorem subOf_strip (b : List Bd) : subOf (stripB b) = subOf b := by
  funext v
  unfold subOf
  rw [look_strip]
  cases look b v with
  | none => rfl
  | some t => simp [(strip_strip).1]
theorem makes_right {a b : Tm} {l : List Bd} (h : AllOut [a] [b] (stripB l) 0) : rightS l = true ∧ (cmpT (a.app l) (b.app l) == 0) = true := by
  obtain ⟨h1, h2, hs, hr⟩ := out_zero h
  refine ⟨by rw [← rightS_strip]; exact sol_right hs hr, same_strip ?_⟩
  rw [(app_sub l).1 a (right_form h1), (app_sub l).1 b (right_form h2), ← subOf_strip]
  exact Unif.one.1 hs.unif
theorem makes_none {a b : Tm} {l : List Bd} {e : Int} (h : AllOut [a] [b] (stripB l) e) (he : e ≠ 0) : l = [] := by
  have := congrArg List.length (out_other h he)
  rw [stripB_len] at this
  exact List.length_eq_zero_iff.1 this
/-- What s does to both is the same. -/
theorem gen_unif {a b : Tm} {s : List Bd} (ha : a.right = true) (hb : b.right = true) (hs : rightS s = true) (h : (cmpT (a.app s) (b.app s) == 0) = true) : a.sub (subOf s) = b.sub (subOf s) := by
  have hf := app_form (rightS_forms hs)
  have := cmp_zero.1 _ (hf.1 a (right_form ha)) _ (hf.1 b (right_form hb)) (by simpa using h)
  rw [(app_sub s).1 a (right_form ha), (app_sub s).1 b (right_form hb)] at this
  exact this
theorem gen_code {a b : Tm} {m : List Bd} {e : Int} (ha : a.right = true) (hb : b.right = true) {f : Int → Tm} (hf : a.sub f = b.sub f) (h : AllOut [a] [b] m e) : e = 0 ∨ e = 6 := by
  unfold AllOut at h
  rw [if_neg (by simp [ha, hb]), if_neg (by simp)] at h
  rcases h with ⟨_, _, h⟩ | ⟨s, hs, ⟨_, _, h⟩ | ⟨_, _, h⟩⟩
  · exact absurd (Unif.one.2 hf) (h f)
  · exact .inl h
  · exact .inr h
theorem gen_all {a b : Tm} {s l : List Bd} (hf : a.sub (subOf s) = b.sub (subOf s)) (h : AllOut [a] [b] (stripB l) 0) : ∀ x ∈ l, (cmpT ((vr x.var).app s) (x.tm.app s) == 0) = true := by
  obtain ⟨_, _, hsol, _⟩ := out_zero h
  intro x hx
  have hm : x.strip ∈ stripB l := List.mem_map.2 ⟨x, hx, rfl⟩
  have hc := hsol.cl _ hm
  have hg := hsol.gen _ (Unif.one.2 hf) _ hm
  simp only [Bd.strip] at hc hg
  refine same_strip ?_
  rw [(app_sub s).1 _ (vr_form hc.2.2.1 hc.2.2.2), app_like (b := s) (b' := s) rfl (t := x.tm) (t' := x.tm.strip) hc.1.symm, (app_sub s).1 _ hc.2.1, ← hg]
  simp [vr, Tm.sub]
end Go.Proofs.YtelkmnjoboekmaaGreat
namespace Go.Proofs.YtelkmnjoboekmaaGreat
open Go.RowKit

/-! ### The equations of a store, and another one behind them -/
theorem zip_end {b : List Bd} (s t : Tm) : (vrs b ++ [s]).zip (tms b ++ [t]) = eqsB b ++ [(s, t)] := by
  rw [List.zip_append (by rw [vrs_len, tms_len]), zip_eqs]; rfl
theorem end_right {b : List Bd} (hb : rightS b = true) (s t : Tm) : ((vrs b ++ [s]).all Tm.right && (tms b ++ [t]).all Tm.right) = (s.right && t.right) := by
  rw [List.all_append, List.all_append, vrs_right hb, tms_right hb]
  simp
theorem end_nodes {b : List Bd} {s t : Tm} (h : ((vrs b ++ [s]).all Tm.right && (tms b ++ [t]).all Tm.right) = true) (hb : rightS b = true) (hl : b.length ≤ 10000) : nodesL (vrs b ++ [s]) + nodesL (tms b ++ [t]) ≤ 2500000 := by
  rw [end_right hb] at h
  have := told_nodes (b := b) (s := s) (t := t) (by rw [hb, h]; rfl) hl
  rw [nodesL_append, nodesL_append]
  simp only [nodesL] at this ⊢
  omega
theorem unif_end {E : List (Tm × Tm)} {p : Tm × Tm} (f : Int → Tm) : Unif (E ++ [p]) f ↔ Unif (p :: E) f := by
  rw [unif_append, unif_cons, unif_cons]
  simp [Unif, and_comm]
theorem strip_nil {l : List Bd} (h : stripB l = []) : l = [] := by
  have := congrArg List.length h
  rw [stripB_len] at this
  exact List.length_eq_zero_iff.1 this
theorem freshL_nil (b : List Bd) : freshL b [] = [] := rfl
theorem asc_strip (b : List Bd) : Asc (stripB b) ↔ Asc b := by unfold Asc stripB; rw [List.pairwise_map]; rfl
/-- What the solver answers, as Tell hands it on. -/
theorem tell_any {b l : List Bd} {s t : Tm} {er : Int} (hb : rightS b = true) (ho : AllOut (vrs b ++ [s]) (tms b ++ [t]) (stripB l) er) : TellOut b s t (stripB l) (freshL b l) er ∧ Asc l ∧ l.length ≤ 400 + 201 * b.length := by
  unfold AllOut at ho
  rw [end_right hb] at ho
  cases hr : (s.right && t.right) with
  | false =>
    rw [if_pos hr] at ho
    obtain rfl := strip_nil ho.1
    rw [ho.2]
    exact ⟨TellOut.arg (by rw [hr]; simp), List.Pairwise.nil, by simp⟩
  | true =>
    rw [if_neg (by rw [hr]; simp), if_neg (by simp [vrs_len, tms_len]), zip_end] at ho
    have ho' := ho.like unif_end
    have hv : (rightS b && (s.right && t.right)) = true := by rw [hb, hr]; rfl
    have h1 := TellOut.of hv ho'
    by_cases he : er = 0
    · subst he
      rw [if_pos rfl, freshL_like (b' := b) (c' := l) rfl (by rw [stripB, stripB, List.map_map]; exact List.map_congr_left fun x _ => by simp [Bd.strip, strip_strip.1])] at h1
      exact ⟨h1, (asc_strip l).1 ho'.zero.1.asc, tell_len h1⟩
    · rw [if_neg he] at h1
      obtain rfl := strip_nil (ho'.none he)
      exact ⟨h1, List.Pairwise.nil, by simp⟩
theorem tell_arg2 {b : List Bd} {s t : Tm} (hb : rightS b = false) : (rightS b && (s.right && t.right)) = false := by rw [hb]; rfl

/-! ### What is entailed can be told -/
theorem one_size (t : Tm) : 1 ≤ t.size := by
  obtain ⟨k, n, s, A, c, a⟩ := t
  simp only [Tm.size]; split <;> omega
theorem one_depth (t : Tm) : 1 ≤ t.depth := by
  obtain ⟨k, n, s, A, c, a⟩ := t
  simp only [Tm.depth]; split <;> omega
theorem sub_size (f : Int → Tm) : (∀ t : Tm, t.size ≤ (t.sub f).size) ∧ (∀ l, sizeL l ≤ sizeL (subL f l)) := by
  refine Tm.induct2 (fun k n s A c a ih => ?_) (Nat.le_refl _) (fun t r h1 h2 => ?_)
  · simp only [Tm.sub]
    by_cases h1 : k = 1
    · rw [if_pos h1]
      simp only [Tm.size, h1, if_neg (show (1 : Int) ≠ 2 by decide)]
      exact one_size _
    · rw [if_neg h1]
      simp only [Tm.size]
      split <;> omega
  · simp only [sizeL, subL]; omega
theorem sub_depth (f : Int → Tm) : (∀ t : Tm, t.depth ≤ (t.sub f).depth) ∧ (∀ l, depthL l ≤ depthL (subL f l)) := by
  refine Tm.induct2 (fun k n s A c a ih => ?_) (Nat.le_refl _) (fun t r h1 h2 => ?_)
  · simp only [Tm.sub]
    by_cases h1 : k = 1
    · rw [if_pos h1]
      simp only [Tm.depth, h1, if_neg (show (1 : Int) ≠ 2 by decide)]
      exact one_depth _
    · rw [if_neg h1]
      simp only [Tm.depth]
      split <;> omega
  · simp only [depthL, subL]; omega
theorem sub_right {f : Int → Tm} {t : Tm} (hf : t.form = true) (h : (t.sub f).right = true) : t.right = true := by
  have h1 := (sub_size f).1 t
  have h2 := (sub_depth f).1 t
  simp only [Tm.right, Bool.and_eq_true, decide_eq_true_eq] at h ⊢
  exact ⟨hf, by omega, by omega⟩
theorem own_unif {b : List Bd} (hb : rightS b = true) : Unif (eqsB b) (subOf b) := by
  have h := (rightS_iff b).1 hb
  refine unif_eqs.2 fun x hx => ?_
  have h1 : subOf b x.var = x.tm.strip := by unfold subOf; rw [look_mem h.1.2.dis hx]; rfl
  rw [h1, sub_id.1 x.tm (right_form (h.1.1 x hx).2.2) fun v hv => subOf_none (h.2 x hx v hv)]
theorem own_right {b : List Bd} (hb : rightS b = true) {v : Int} (h0 : 0 ≤ v) (h1 : v ≤ 1048576) : (subOf b v).right = true := by
  cases hl : look b v with
  | none => rw [subOf_none hl]; exact vr_right h0 h1
  | some t =>
    obtain ⟨x, hx, rfl, rfl⟩ := look_some hl
    have h := (rightS_iff b).1 hb
    have h1 : subOf b x.var = x.tm.strip := by unfold subOf; rw [look_mem h.1.2.dis hx]; rfl
    rw [h1, right_strip]
    exact (h.1.1 x hx).2.2
/-- Terms that are the same under the store can be told. -/
theorem same_told {b : List Bd} {s t : Tm} {m : List Bd} {e : Int} (h : (rightS b && (s.right && t.right)) = true) (hv : (cmpT (s.app b) (t.app b) == 0) = true) (ho : Out ((s, t) :: eqsB b) m e) : e = 0 := by
  have h' : rightS b = true ∧ s.right = true ∧ t.right = true := by simpa using h
  have hu : Unif ((s, t) :: eqsB b) (subOf b) := unif_cons.2 ⟨gen_unif h'.2.1 h'.2.2 h'.1 hv, own_unif h'.1⟩
  rcases ho with ⟨_, _, hn⟩ | ⟨n, hn, ⟨_, _, h1⟩ | ⟨h1, _, _⟩⟩
  · exact absurd hu (hn _)
  · exact h1
  · exfalso
    have : allRight n = true := by
      unfold allRight
      rw [List.all_eq_true]
      intro x hx
      have hc := hn.cl x hx
      refine sub_right (f := subOf b) hc.2.1 ?_
      rw [← hn.gen _ hu x hx]
      exact own_right h'.1 hc.2.2.1 hc.2.2.2
    rw [this] at h1
    cases h1
/-- What Equal answers, from what Tell answers. -/
theorem eq_of_tell {b m : List Bd} {s t : Tm} {l : List Int} {er : Int} (h : TellOut b s t m l er) :
    (er = 13 → EqOut b s t 2) ∧ (er = 0 → (rightS b && (s.right && t.right)) = true ∧ EqOut b s t (if (cmpT (s.app b) (t.app b) == 0) = true then 1 else 0)) ∧ (er ≠ 0 → er ≠ 13 → EqOut b s t 0) := by
  cases hr : (rightS b && (s.right && t.right)) with
  | false =>
    unfold TellOut at h
    rw [if_pos hr] at h
    rw [h.2.2]
    exact ⟨fun e => absurd e (by decide), fun e => absurd e (by decide), fun _ _ => eq_arg hr⟩
  | true =>
    unfold TellOut at h
    rw [if_neg (by rw [hr]; simp)] at h
    have ho := h.1
    cases hv : (cmpT (s.app b) (t.app b) == 0) with
    | true =>
      have he := same_told hr hv ho
      refine ⟨fun e => ?_, fun _ => ⟨rfl, ?_⟩, fun e => absurd he e⟩
      · rw [he] at e; exact absurd e (by decide)
      · rw [if_pos rfl]; exact eq_same hr hv
    | false =>
      have h1 := eq_other hr hv ho
      refine ⟨fun e => ?_, fun e => ⟨rfl, ?_⟩, fun _ e => ?_⟩
      · rwa [if_pos e] at h1
      · rw [if_neg (by rw [e]; decide)] at h1
        simpa using h1
      · rwa [if_neg e] at h1
end Go.Proofs.YtelkmnjoboekmaaGreat
namespace Go.Proofs.YtelkmnjoboekmaaGreat
open Go.RowKit

theorem var_ext (n : Int) (w : World) : Calls Tryz.prog 36 #[.int .i64 n] w fun e w' => e = .returned (.agg #[.int .i64 1, .int .i64 n, .string ⟨#[]⟩, .slice none 0 0]) ∧ Ext w w' := by
  go_enter Tryz.func36, Tryz.ntmps36
  go_wp2_with fail
  exact bodyPost_ret (v := .agg #[.int .i64 1, .int .i64 n, .string ⟨#[]⟩, .slice none 0 0]) (by simp [results, Tryz.results36, go_sem]) rfl ⟨rfl, (Below.refl _ _).alloc (Nat.le_refl _) _⟩
section
variable {w W : World} {g B : Nat} {L : List Value}
theorem news_up (h : ∀ j u, L[j]? = some u → w.cell? ((⟨g, 0, none⟩ : Addr).add j) = some u) (hx : Ext w W) : ∀ j u, L[j]? = some u → W.cell? ((⟨g, 0, none⟩ : Addr).add j) = some u := fun j u hj => keepv hx (h j u hj)
theorem news_at (hg : g = w.heap.size) (u : Tm) (T : TypeId) : ∀ j v, u.cells[j]? = some v → (w.alloc (.cells #[.int .i64 u.kind, .int .i64 u.num, .string u.name, .slice u.at_ u.args.length u.cap] T)).cell? ((⟨g, 0, none⟩ : Addr).add j) = some v := by
  subst hg; exact tnews1 w u T
theorem news_far {row : Option Nat} (hg : w.grownBy W row) (hrow : ∀ k, row = some k → k < B) (hB : B ≤ g) (h : ∀ j u, L[j]? = some u → w.cell? ((⟨g, 0, none⟩ : Addr).add j) = some u) : ∀ j u, L[j]? = some u → W.cell? ((⟨g, 0, none⟩ : Addr).add j) = some u := fun j u hj => by
  have hc := h j u hj
  rw [add_plain] at hc ⊢
  rw [hg.cell_far _ (World.block_lt_of_cell? _ _ hc) (fun e => by have := hrow _ e.symm; simp only at this; omega)]
  exact hc
theorem cell_row {row : Option Nat} (hg : w.grownBy W row) (hrow : ∀ k, row = some k → k < B) {b j : Nat} (hB : B ≤ b) {v : Value} (h : w.cell? ⟨b, j, none⟩ = some v) : W.cell? ⟨b, j, none⟩ = some v := by
  rw [hg.cell_far _ (World.block_lt_of_cell? _ _ h) (fun e => by have := hrow _ e.symm; simp only at this; omega)]
  exact h
end
set_option maxHeartbeats 4000000 in
set_option maxRecDepth 100000 in
theorem sides_at (b : List Bd) (A : Option Addr) (c : Nat) (w : World) (hb : BLst w A b c) (hlen : b.length ≤ 10000) :
    Calls Tryz.prog 20 #[.slice A b.length c] w fun e w' => ∃ zl zm, e = .returned (.tuple #[zl, zm]) ∧ TwoRow w w' zl zm (vrs b) (tms b) := by
  obtain ⟨i0, hi, hz0, hz1, hz2⟩ := info_parts term_info
  have HB := Lib.hid hb
  clear hb
  go_enter Tryz.func20, Tryz.ntmps20
  go_wp2_with fail
  go_loopw [2, 3, 8] (fun zl zm i wr => ∃ (j : Nat) (la lb : List Tm) (x y : Value), j ≤ b.length ∧ i = .int .i64 j ∧ zl = x ∧ zm = y ∧ Hid (la = vrs (b.take j)) ∧ Hid (lb = tms (b.take j)) ∧ Hid (TwoRow w wr x y la lb)) (fun _ _ i _ => b.length - (intOf i).toNat)
  case atStart => exact ⟨0, [], [], _, _, Nat.zero_le _, rfl, rfl, rfl, Lib.hid rfl, Lib.hid rfl, Lib.hid ⟨⟨rfl, .inl ⟨rfl, rfl⟩⟩, ⟨rfl, .inl ⟨rfl, rfl⟩⟩, .inl rfl, Ext.refl _⟩⟩
  case round =>
    obtain ⟨j, la, lb, zl, zm, hj, rfl, hzl, hzm, HLA, HLB, HTW⟩ := hrel
    have hzl' := hzl.symm
    have hzm' := hzm.symm
    subst hzl'
    subst hzm'
    clear hzl hzm
    by_cases hlt : j < b.length
    · obtain ⟨b0, o, rfl, hcs, _, _⟩ := (HB.out.below HTW.out.ext).get hlt
      obtain ⟨c0, c1, c2, c3, c4⟩ := hcs
      have HA2 := Lib.hid (show la ++ [vr (b.getD j default).var] = vrs (b.take (j + 1)) by rw [HLA.out, vrs_next hlt])
      have HB2 := Lib.hid (show lb ++ [(b.getD j default).tm] = tms (b.take (j + 1)) by rw [HLB.out, tms_next hlt])
      have hal : la.length ≤ 10000 := by rw [HLA.out]; simp [vrs]; omega
      have hbl : lb.length ≤ 10000 := by rw [HLB.out]; simp [tms]; omega
      have hlo : w.heap.size ≤ wr.heap.size := HTW.out.ext.size
      have HR := Lib.hid (show ∀ k, zl.ownBlock = some k → k < wr.heap.size from fun k hk => (own_lt HTW.out.a k hk).2)
      have HR2 := Lib.hid (show ∀ k, zm.ownBlock = some k → k < wr.heap.size from fun k hk => (own_lt HTW.out.b k hk).2)
      generalize b.getD j default = x at *
      obtain ⟨v, k', n', s', A', c', a'⟩ := x
      simp only [Tm.kind, Tm.num, Tm.name, Tm.at_, Tm.args, Tm.cap] at c0 c1 c2 c3 c4
      simp only at HA2 HB2
      have HT := Lib.hid (fun W (h : Ext (wr.alloc (.cells #[.int .i64 v, .int .i64 k', .int .i64 n', .string s', .slice A' a'.length c'] 41)) W) => HTW.out.below ((Ext.al _ _).trans h))
      have HC := Lib.hid (fun W (h : Ext (wr.alloc (.cells #[.int .i64 v, .int .i64 k', .int .i64 n', .string s', .slice A' a'.length c'] 41)) W) => (show W.cell? ⟨wr.heap.size, 0, none⟩ = some (.int .i64 v) ∧ W.cell? ⟨wr.heap.size, 1, none⟩ = some (.int .i64 k') ∧ W.cell? ⟨wr.heap.size, 2, none⟩ = some (.int .i64 n') ∧ W.cell? ⟨wr.heap.size, 3, none⟩ = some (.string s') ∧ W.cell? ⟨wr.heap.size, 4, none⟩ = some (.slice A' a'.length c') from ⟨h.row 0, h.row 1, h.row 2, h.row 3, h.row 4⟩))
      have HV := Lib.hid (fun W => var_ext v W)
      have HS := Lib.hid (fun (u y : World) (hg : u.grownBy y zl.ownBlock) (h : u.cell? ⟨wr.heap.size, 0, none⟩ = some (.int .i64 v) ∧ u.cell? ⟨wr.heap.size, 1, none⟩ = some (.int .i64 k') ∧ u.cell? ⟨wr.heap.size, 2, none⟩ = some (.int .i64 n') ∧ u.cell? ⟨wr.heap.size, 3, none⟩ = some (.string s') ∧ u.cell? ⟨wr.heap.size, 4, none⟩ = some (.slice A' a'.length c')) (W : World) (hx : Ext y W) => (show W.cell? ⟨wr.heap.size, 0, none⟩ = some (.int .i64 v) ∧ W.cell? ⟨wr.heap.size, 1, none⟩ = some (.int .i64 k') ∧ W.cell? ⟨wr.heap.size, 2, none⟩ = some (.int .i64 n') ∧ W.cell? ⟨wr.heap.size, 3, none⟩ = some (.string s') ∧ W.cell? ⟨wr.heap.size, 4, none⟩ = some (.slice A' a'.length c') from
        ⟨keepv hx (cell_row hg HR.out (Nat.le_refl _) h.1), keepv hx (cell_row hg HR.out (Nat.le_refl _) h.2.1), keepv hx (cell_row hg HR.out (Nat.le_refl _) h.2.2.1), keepv hx (cell_row hg HR.out (Nat.le_refl _) h.2.2.2.1), keepv hx (cell_row hg HR.out (Nat.le_refl _) h.2.2.2.2)⟩))
      have HS2 := Lib.hid (fun (u y : World) (hg : u.grownBy y zm.ownBlock) (h : u.cell? ⟨wr.heap.size, 0, none⟩ = some (.int .i64 v) ∧ u.cell? ⟨wr.heap.size, 1, none⟩ = some (.int .i64 k') ∧ u.cell? ⟨wr.heap.size, 2, none⟩ = some (.int .i64 n') ∧ u.cell? ⟨wr.heap.size, 3, none⟩ = some (.string s') ∧ u.cell? ⟨wr.heap.size, 4, none⟩ = some (.slice A' a'.length c')) => (show y.cell? ⟨wr.heap.size, 0, none⟩ = some (.int .i64 v) ∧ y.cell? ⟨wr.heap.size, 1, none⟩ = some (.int .i64 k') ∧ y.cell? ⟨wr.heap.size, 2, none⟩ = some (.int .i64 n') ∧ y.cell? ⟨wr.heap.size, 3, none⟩ = some (.string s') ∧ y.cell? ⟨wr.heap.size, 4, none⟩ = some (.slice A' a'.length c') from
        ⟨cell_row hg HR2.out (Nat.le_refl _) h.1, cell_row hg HR2.out (Nat.le_refl _) h.2.1, cell_row hg HR2.out (Nat.le_refl _) h.2.2.1, cell_row hg HR2.out (Nat.le_refl _) h.2.2.2.1, cell_row hg HR2.out (Nat.le_refl _) h.2.2.2.2⟩))
      clear HLA HLB HTW
      go_wp2_with fail
      go_region_held3 (fun W => W.cell? ⟨wr.heap.size, 0, none⟩ = some (.int .i64 v) ∧ W.cell? ⟨wr.heap.size, 1, none⟩ = some (.int .i64 k') ∧ W.cell? ⟨wr.heap.size, 2, none⟩ = some (.int .i64 n') ∧ W.cell? ⟨wr.heap.size, 3, none⟩ = some (.string s') ∧ W.cell? ⟨wr.heap.size, 4, none⟩ = some (.slice A' a'.length c'))
        (first | (with_reducible exact HC4.out) | (with_reducible exact HC2.out _ (by (first | exact Ext.refl _ | ((first | refine Ext.trans ?_ (Ext.al _ _) | refine Ext.trans ?_ (Ext.drew _) | refine Ext.trans ?_ Y1.out | refine Ext.trans ?_ Y3.out); (first | exact Ext.refl _ | ((first | refine Ext.trans ?_ (Ext.al _ _) | refine Ext.trans ?_ (Ext.drew _) | refine Ext.trans ?_ Y1.out | refine Ext.trans ?_ Y3.out); (first | exact Ext.refl _ | ((first | refine Ext.trans ?_ (Ext.al _ _) | refine Ext.trans ?_ (Ext.drew _) | refine Ext.trans ?_ Y1.out | refine Ext.trans ?_ Y3.out); (first | exact Ext.refl _ | ((first | refine Ext.trans ?_ (Ext.al _ _) | refine Ext.trans ?_ (Ext.drew _) | refine Ext.trans ?_ Y1.out | refine Ext.trans ?_ Y3.out); (first | exact Ext.refl _ | ((first | refine Ext.trans ?_ (Ext.al _ _) | refine Ext.trans ?_ (Ext.drew _) | refine Ext.trans ?_ Y1.out | refine Ext.trans ?_ Y3.out); (first | exact Ext.refl _ | ((first | refine Ext.trans ?_ (Ext.al _ _) | refine Ext.trans ?_ (Ext.drew _) | refine Ext.trans ?_ Y1.out | refine Ext.trans ?_ Y3.out); exact Ext.refl _)))))))))))))) | (with_reducible exact HC.out _ (by (first | exact Ext.refl _ | ((first | refine Ext.trans ?_ (Ext.al _ _) | refine Ext.trans ?_ (Ext.drew _) | refine Ext.trans ?_ Y1.out | refine Ext.trans ?_ Y3.out); (first | exact Ext.refl _ | ((first | refine Ext.trans ?_ (Ext.al _ _) | refine Ext.trans ?_ (Ext.drew _) | refine Ext.trans ?_ Y1.out | refine Ext.trans ?_ Y3.out); (first | exact Ext.refl _ | ((first | refine Ext.trans ?_ (Ext.al _ _) | refine Ext.trans ?_ (Ext.drew _) | refine Ext.trans ?_ Y1.out | refine Ext.trans ?_ Y3.out); (first | exact Ext.refl _ | ((first | refine Ext.trans ?_ (Ext.al _ _) | refine Ext.trans ?_ (Ext.drew _) | refine Ext.trans ?_ Y1.out | refine Ext.trans ?_ Y3.out); (first | exact Ext.refl _ | ((first | refine Ext.trans ?_ (Ext.al _ _) | refine Ext.trans ?_ (Ext.drew _) | refine Ext.trans ?_ Y1.out | refine Ext.trans ?_ Y3.out); (first | exact Ext.refl _ | ((first | refine Ext.trans ?_ (Ext.al _ _) | refine Ext.trans ?_ (Ext.drew _) | refine Ext.trans ?_ Y1.out | refine Ext.trans ?_ Y3.out); exact Ext.refl _)))))))))))))) | fail)
        (first
          | (go_at_call 36; (with_reducible refine (HV.out _).mono ?_); rintro e y1 ⟨rfl, hx⟩; have Y1 := Lib.hid hx; have hy1 := hx.size; (try simp only [World.size_drew, World.size_alloc] at hy1); clear hx)
          | (refine step_append_lies _ (by rfl) _ _ _ (by rfl) w.heap.size 26 i0 _ 4 56 Tryz.underlying24 hi hz0 hz1 hz2 rfl (by decide) zl la.length (tcells la) (by rfl) (HT.out _ (by (first | exact Ext.refl _ | ((first | refine Ext.trans ?_ (Ext.al _ _) | refine Ext.trans ?_ (Ext.drew _) | refine Ext.trans ?_ Y1.out | refine Ext.trans ?_ Y3.out); (first | exact Ext.refl _ | ((first | refine Ext.trans ?_ (Ext.al _ _) | refine Ext.trans ?_ (Ext.drew _) | refine Ext.trans ?_ Y1.out | refine Ext.trans ?_ Y3.out); (first | exact Ext.refl _ | ((first | refine Ext.trans ?_ (Ext.al _ _) | refine Ext.trans ?_ (Ext.drew _) | refine Ext.trans ?_ Y1.out | refine Ext.trans ?_ Y3.out); (first | exact Ext.refl _ | ((first | refine Ext.trans ?_ (Ext.al _ _) | refine Ext.trans ?_ (Ext.drew _) | refine Ext.trans ?_ Y1.out | refine Ext.trans ?_ Y3.out); (first | exact Ext.refl _ | ((first | refine Ext.trans ?_ (Ext.al _ _) | refine Ext.trans ?_ (Ext.drew _) | refine Ext.trans ?_ Y1.out | refine Ext.trans ?_ Y3.out); (first | exact Ext.refl _ | ((first | refine Ext.trans ?_ (Ext.al _ _) | refine Ext.trans ?_ (Ext.drew _) | refine Ext.trans ?_ Y1.out | refine Ext.trans ?_ Y3.out); exact Ext.refl _)))))))))))))).a ⟨_, 0, none⟩ 1 1 (Tm.cells (vr v)) (by rfl) rfl (by (first | refine news_at (by simp) _ _ | ((first | refine news_up ?_ (Ext.al _ _) | refine news_up ?_ (Ext.drew _) | refine news_up ?_ Y1.out | refine news_far Y2.out HR.out (by first | omega | (simp; omega)) ?_); (first | refine news_at (by simp) _ _ | ((first | refine news_up ?_ (Ext.al _ _) | refine news_up ?_ (Ext.drew _) | refine news_up ?_ Y1.out | refine news_far Y2.out HR.out (by first | omega | (simp; omega)) ?_); (first | refine news_at (by simp) _ _ | ((first | refine news_up ?_ (Ext.al _ _) | refine news_up ?_ (Ext.drew _) | refine news_up ?_ Y1.out | refine news_far Y2.out HR.out (by first | omega | (simp; omega)) ?_); (first | refine news_at (by simp) _ _ | ((first | refine news_up ?_ (Ext.al _ _) | refine news_up ?_ (Ext.drew _) | refine news_up ?_ Y1.out | refine news_far Y2.out HR.out (by first | omega | (simp; omega)) ?_); (first | refine news_at (by simp) _ _ | ((first | refine news_up ?_ (Ext.al _ _) | refine news_up ?_ (Ext.drew _) | refine news_up ?_ Y1.out | refine news_far Y2.out HR.out (by first | omega | (simp; omega)) ?_); (first | refine news_at (by simp) _ _ | ((first | refine news_up ?_ (Ext.al _ _) | refine news_up ?_ (Ext.drew _) | refine news_up ?_ Y1.out | refine news_far Y2.out HR.out (by first | omega | (simp; omega)) ?_); refine news_at (by simp) _ _))))))))))))) (cells_one _) (by decide) (by unfold maxLen; omega) (by omega) (by first | omega | (simp; omega)) _ rfl ?_; intro g cap y2 hown hg hat hglt; have Y2 := Lib.hid hg; have HT2 := Lib.hid (fun W (h : Ext y2 W) => ((HT.out _ (by (first | exact Ext.refl _ | ((first | refine Ext.trans ?_ (Ext.al _ _) | refine Ext.trans ?_ (Ext.drew _) | refine Ext.trans ?_ Y1.out | refine Ext.trans ?_ Y3.out); (first | exact Ext.refl _ | ((first | refine Ext.trans ?_ (Ext.al _ _) | refine Ext.trans ?_ (Ext.drew _) | refine Ext.trans ?_ Y1.out | refine Ext.trans ?_ Y3.out); (first | exact Ext.refl _ | ((first | refine Ext.trans ?_ (Ext.al _ _) | refine Ext.trans ?_ (Ext.drew _) | refine Ext.trans ?_ Y1.out | refine Ext.trans ?_ Y3.out); (first | exact Ext.refl _ | ((first | refine Ext.trans ?_ (Ext.al _ _) | refine Ext.trans ?_ (Ext.drew _) | refine Ext.trans ?_ Y1.out | refine Ext.trans ?_ Y3.out); (first | exact Ext.refl _ | ((first | refine Ext.trans ?_ (Ext.al _ _) | refine Ext.trans ?_ (Ext.drew _) | refine Ext.trans ?_ Y1.out | refine Ext.trans ?_ Y3.out); (first | exact Ext.refl _ | ((first | refine Ext.trans ?_ (Ext.al _ _) | refine Ext.trans ?_ (Ext.drew _) | refine Ext.trans ?_ Y1.out | refine Ext.trans ?_ Y3.out); exact Ext.refl _)))))))))))))).nextA (u := vr v) hown hg hat).below h); have HC2 := Lib.hid (fun W (h : Ext y2 W) => HS.out _ _ hg (HC.out _ (by (first | exact Ext.refl _ | ((first | refine Ext.trans ?_ (Ext.al _ _) | refine Ext.trans ?_ (Ext.drew _) | refine Ext.trans ?_ Y1.out | refine Ext.trans ?_ Y3.out); (first | exact Ext.refl _ | ((first | refine Ext.trans ?_ (Ext.al _ _) | refine Ext.trans ?_ (Ext.drew _) | refine Ext.trans ?_ Y1.out | refine Ext.trans ?_ Y3.out); (first | exact Ext.refl _ | ((first | refine Ext.trans ?_ (Ext.al _ _) | refine Ext.trans ?_ (Ext.drew _) | refine Ext.trans ?_ Y1.out | refine Ext.trans ?_ Y3.out); (first | exact Ext.refl _ | ((first | refine Ext.trans ?_ (Ext.al _ _) | refine Ext.trans ?_ (Ext.drew _) | refine Ext.trans ?_ Y1.out | refine Ext.trans ?_ Y3.out); (first | exact Ext.refl _ | ((first | refine Ext.trans ?_ (Ext.al _ _) | refine Ext.trans ?_ (Ext.drew _) | refine Ext.trans ?_ Y1.out | refine Ext.trans ?_ Y3.out); (first | exact Ext.refl _ | ((first | refine Ext.trans ?_ (Ext.al _ _) | refine Ext.trans ?_ (Ext.drew _) | refine Ext.trans ?_ Y1.out | refine Ext.trans ?_ Y3.out); exact Ext.refl _)))))))))))))) W h); have hy2 := hg.size; (try simp only [World.size_alloc] at hy2); clear hown hg hat hglt)
          | (refine step_append_lies _ (by rfl) _ _ _ (by rfl) w.heap.size 26 i0 _ 4 56 Tryz.underlying24 hi hz0 hz1 hz2 rfl (by decide) zm lb.length (tcells lb) (by rfl) (HT2.out _ (by (first | exact Ext.refl _ | ((first | refine Ext.trans ?_ (Ext.al _ _) | refine Ext.trans ?_ (Ext.drew _) | refine Ext.trans ?_ Y1.out | refine Ext.trans ?_ Y3.out); (first | exact Ext.refl _ | ((first | refine Ext.trans ?_ (Ext.al _ _) | refine Ext.trans ?_ (Ext.drew _) | refine Ext.trans ?_ Y1.out | refine Ext.trans ?_ Y3.out); (first | exact Ext.refl _ | ((first | refine Ext.trans ?_ (Ext.al _ _) | refine Ext.trans ?_ (Ext.drew _) | refine Ext.trans ?_ Y1.out | refine Ext.trans ?_ Y3.out); (first | exact Ext.refl _ | ((first | refine Ext.trans ?_ (Ext.al _ _) | refine Ext.trans ?_ (Ext.drew _) | refine Ext.trans ?_ Y1.out | refine Ext.trans ?_ Y3.out); (first | exact Ext.refl _ | ((first | refine Ext.trans ?_ (Ext.al _ _) | refine Ext.trans ?_ (Ext.drew _) | refine Ext.trans ?_ Y1.out | refine Ext.trans ?_ Y3.out); (first | exact Ext.refl _ | ((first | refine Ext.trans ?_ (Ext.al _ _) | refine Ext.trans ?_ (Ext.drew _) | refine Ext.trans ?_ Y1.out | refine Ext.trans ?_ Y3.out); exact Ext.refl _)))))))))))))).b ⟨_, 0, none⟩ 1 1 (Tm.cells (.mk k' n' s' A' c' a')) (by rfl) rfl (by (first | refine news_at (by simp) _ _ | ((first | refine news_up ?_ (Ext.al _ _) | refine news_up ?_ (Ext.drew _) | refine news_up ?_ Y1.out | refine news_far Y2.out HR.out (by first | omega | (simp; omega)) ?_); (first | refine news_at (by simp) _ _ | ((first | refine news_up ?_ (Ext.al _ _) | refine news_up ?_ (Ext.drew _) | refine news_up ?_ Y1.out | refine news_far Y2.out HR.out (by first | omega | (simp; omega)) ?_); (first | refine news_at (by simp) _ _ | ((first | refine news_up ?_ (Ext.al _ _) | refine news_up ?_ (Ext.drew _) | refine news_up ?_ Y1.out | refine news_far Y2.out HR.out (by first | omega | (simp; omega)) ?_); (first | refine news_at (by simp) _ _ | ((first | refine news_up ?_ (Ext.al _ _) | refine news_up ?_ (Ext.drew _) | refine news_up ?_ Y1.out | refine news_far Y2.out HR.out (by first | omega | (simp; omega)) ?_); (first | refine news_at (by simp) _ _ | ((first | refine news_up ?_ (Ext.al _ _) | refine news_up ?_ (Ext.drew _) | refine news_up ?_ Y1.out | refine news_far Y2.out HR.out (by first | omega | (simp; omega)) ?_); (first | refine news_at (by simp) _ _ | ((first | refine news_up ?_ (Ext.al _ _) | refine news_up ?_ (Ext.drew _) | refine news_up ?_ Y1.out | refine news_far Y2.out HR.out (by first | omega | (simp; omega)) ?_); refine news_at (by simp) _ _))))))))))))) (cells_one _) (by decide) (by unfold maxLen; omega) (by omega) (by first | omega | (simp; omega)) _ rfl ?_; intro g2 cap2 y4 hown hg hat hglt; have HT4 := Lib.hid ((HT2.out _ (by (first | exact Ext.refl _ | ((first | refine Ext.trans ?_ (Ext.al _ _) | refine Ext.trans ?_ (Ext.drew _) | refine Ext.trans ?_ Y1.out | refine Ext.trans ?_ Y3.out); (first | exact Ext.refl _ | ((first | refine Ext.trans ?_ (Ext.al _ _) | refine Ext.trans ?_ (Ext.drew _) | refine Ext.trans ?_ Y1.out | refine Ext.trans ?_ Y3.out); (first | exact Ext.refl _ | ((first | refine Ext.trans ?_ (Ext.al _ _) | refine Ext.trans ?_ (Ext.drew _) | refine Ext.trans ?_ Y1.out | refine Ext.trans ?_ Y3.out); (first | exact Ext.refl _ | ((first | refine Ext.trans ?_ (Ext.al _ _) | refine Ext.trans ?_ (Ext.drew _) | refine Ext.trans ?_ Y1.out | refine Ext.trans ?_ Y3.out); (first | exact Ext.refl _ | ((first | refine Ext.trans ?_ (Ext.al _ _) | refine Ext.trans ?_ (Ext.drew _) | refine Ext.trans ?_ Y1.out | refine Ext.trans ?_ Y3.out); (first | exact Ext.refl _ | ((first | refine Ext.trans ?_ (Ext.al _ _) | refine Ext.trans ?_ (Ext.drew _) | refine Ext.trans ?_ Y1.out | refine Ext.trans ?_ Y3.out); exact Ext.refl _)))))))))))))).nextB (u := .mk k' n' s' A' c' a') hown hg hat); have HC4 := Lib.hid (HS2.out _ _ hg (HC2.out _ (by (first | exact Ext.refl _ | ((first | refine Ext.trans ?_ (Ext.al _ _) | refine Ext.trans ?_ (Ext.drew _) | refine Ext.trans ?_ Y1.out | refine Ext.trans ?_ Y3.out); (first | exact Ext.refl _ | ((first | refine Ext.trans ?_ (Ext.al _ _) | refine Ext.trans ?_ (Ext.drew _) | refine Ext.trans ?_ Y1.out | refine Ext.trans ?_ Y3.out); (first | exact Ext.refl _ | ((first | refine Ext.trans ?_ (Ext.al _ _) | refine Ext.trans ?_ (Ext.drew _) | refine Ext.trans ?_ Y1.out | refine Ext.trans ?_ Y3.out); (first | exact Ext.refl _ | ((first | refine Ext.trans ?_ (Ext.al _ _) | refine Ext.trans ?_ (Ext.drew _) | refine Ext.trans ?_ Y1.out | refine Ext.trans ?_ Y3.out); (first | exact Ext.refl _ | ((first | refine Ext.trans ?_ (Ext.al _ _) | refine Ext.trans ?_ (Ext.drew _) | refine Ext.trans ?_ Y1.out | refine Ext.trans ?_ Y3.out); (first | exact Ext.refl _ | ((first | refine Ext.trans ?_ (Ext.al _ _) | refine Ext.trans ?_ (Ext.drew _) | refine Ext.trans ?_ Y1.out | refine Ext.trans ?_ Y3.out); exact Ext.refl _))))))))))))))); clear hown hg hat hglt)
          | fail)
      all_goals
        go_wp2_with fail
        go_roundw
        case rel => exact ⟨j + 1, _, _, _, _, by omega, by go_num, rfl, rfl, HA2, HB2, HT4⟩
        case measure => simp [intOf]; omega
    · obtain rfl : j = b.length := by omega
      rw [List.take_length] at HLA HLB
      have HX := Lib.hid (show TwoRow w wr zl zm (vrs b) (tms b) from by rw [← HLA.out, ← HLB.out]; exact HTW.out)
      clear HTW HLA HLB hlt
      go_wp2_with fail
      go_ret2
      exact ⟨zl, zm, rfl, HX.out⟩
end Go.Proofs.YtelkmnjoboekmaaGreat
namespace Go.Proofs.YtelkmnjoboekmaaGreat
open Go.RowKit

/-! ### The bound variables, one by one -/
/-- How far the old store was passed by: D lies behind, R is still ahead. -/
def Passed (old D R l : List Bd) (j : Nat) : Prop := old = D ++ R ∧ ∀ y ∈ D, ∀ k, j ≤ k → k < l.length → y.var < (l.getD k default).var
theorem Passed.start (old l : List Bd) : Passed old [] old l 0 := ⟨rfl, fun y hy => by cases hy⟩
theorem Passed.next {old D R l : List Bd} {j : Nat} (h : Passed old D R l j) : Passed old D R l (j + 1) := ⟨h.1, fun y hy k hk => h.2 y hy k (by omega)⟩
theorem Passed.skip {old D R l : List Bd} {j : Nat} {x : Bd} (h : Passed old D (x :: R) l j) (hl : Asc l) (hx : x.var < (l.getD j default).var) : Passed old (D ++ [x]) R l j := by
  refine ⟨by rw [h.1]; simp, fun y hy k hk hkl => ?_⟩
  rcases List.mem_append.1 hy with hy | hy
  · exact h.2 y hy k hk hkl
  · rw [List.mem_singleton.1 hy]
    rcases Nat.lt_or_ge j k with h1 | h1
    · have := List.pairwise_iff_getElem.1 hl j k (by omega) hkl h1
      simp only [List.getD, List.getElem?_eq_getElem hkl, List.getElem?_eq_getElem (show j < l.length by omega), Option.getD_some] at hx ⊢
      omega
    · obtain rfl : j = k := by omega
      exact hx
theorem Passed.none {old D R l : List Bd} {j : Nat} (h : Passed old D R l j) (ha : Asc old) (hj : j < l.length) (hR : ∀ x S, R = x :: S → (l.getD j default).var < x.var) : (look old (l.getD j default).var).isNone = true := by
  rw [Option.isNone_iff_eq_none, look_none]
  intro y hy
  rw [h.1] at hy
  rcases List.mem_append.1 hy with hy | hy
  · have := h.2 y hy j (Nat.le_refl _) hj
    omega
  · rw [h.1] at ha
    cases R with
    | nil => cases hy
    | cons x S =>
      have h1 := hR x S rfl
      have ha2 := (List.pairwise_append.1 ha).2.1
      rcases List.mem_cons.1 hy with rfl | hy
      · omega
      · have := (List.pairwise_cons.1 ha2).1 y hy
        omega
theorem Passed.some {old D R l : List Bd} {j : Nat} {x : Bd} (h : Passed old D (x :: R) l j) (hx : x.var = (l.getD j default).var) : (look old (l.getD j default).var).isNone = false := by
  cases hl : look old (l.getD j default).var with
  | some _ => rfl
  | none =>
    have := look_none.1 hl x (by rw [h.1]; simp)
    exact absurd hx this

/-! ### A list of bindings whose first one is dropped -/
theorem BLst.rest {w : World} {b o c : Nat} {x : Bd} {R : List Bd} (h : BLst w (some ⟨b, o, none⟩) (x :: R) c) : BLst w (some ⟨b, o + 5, none⟩) R (c - 1) := by
  have hl := h.1
  simp only [List.length_cons] at hl
  refine ⟨by omega, by have := h.2.1; omega, fun hn => ⟨b, o + 5, rfl, ?_⟩⟩
  obtain ⟨b', o', e, hr⟩ := h.2.2 (by simp)
  injection e with e
  injection e with e1 e2
  subst e1 e2
  intro i hi
  have := hr (i + 1) (by simp only [List.length_cons]; omega)
  rw [show o + 5 + i * 5 = o + (i + 1) * 5 by omega]
  simpa [List.getD] using this
theorem BLst.last {w : World} {A A' : Option Addr} {x : Bd} {R : List Bd} (h : BLst w A (x :: R) 1) : R = [] ∧ BLst w A' R 0 := by
  have hl := h.1
  simp only [List.length_cons] at hl
  obtain rfl : R = [] := List.length_eq_zero_iff.1 (by omega)
  exact ⟨rfl, Nat.le_refl _, by unfold maxLen; omega, fun hn => absurd hn (by simp)⟩
end Go.Proofs.YtelkmnjoboekmaaGreat
namespace Go.Proofs.YtelkmnjoboekmaaGreat
open Go.RowKit

def blen : Value → Nat
  | .slice _ n _ => n
  | _ => 0
set_option maxHeartbeats 4000000 in
set_option maxRecDepth 100000 in
theorem new_vars_at (b l : List Bd) (A C : Option Addr) (c d : Nat) (w : World) (hb : BLst w A b c) (hl : BLst w C l d) (hlen : l.length ≤ 1000000000) (hab : Asc b) (hal : Asc l) :
    Calls Tryz.prog 22 #[.slice A b.length c, .slice C l.length d] w fun e w' => ∃ D q, e = .returned (.slice D (freshL b l).length q) ∧ Ints w' D (freshL b l) ∧ Ext w w' := by
  obtain ⟨i0, hi, hz0, hz1, hz2⟩ := info_parts int_info
  have HB := Lib.hid hb
  have HL := Lib.hid hl
  have HAB := Lib.hid hab
  have HAL := Lib.hid hal
  have HP0 := Lib.hid (Passed.start b l)
  clear hb hl hab hal
  go_enter Tryz.func22, Tryz.ntmps22
  go_wp2_with fail
  go_loopw [0, 5, 10] (fun a z i wr => ∃ (j : Nat) (A' : Option Addr) (c' : Nat) (D R : List Bd) (x : Value), j ≤ l.length ∧ i = .int .i64 j ∧ a = .slice A' R.length c' ∧ z = x ∧ Hid (Passed b D R l j ∧ BLst w A' R c') ∧ Hid (OwnI wr w.heap.size x (freshL b (l.take j)) ∧ Ext w wr)) (fun _ _ i _ => l.length - (intOf i).toNat)
  case atStart => exact ⟨0, A, c, [], b, _, Nat.zero_le _, rfl, rfl, rfl, Lib.hid ⟨HP0.out, HB.out⟩, Lib.hid ⟨OwnI.nil _ _, Ext.refl _⟩⟩
  case round =>
    clear HP0
    obtain ⟨j, A', c', D, R, z, hj, rfl, rfl, hz, HPB, HW⟩ := hrel
    have hz' := hz.symm
    subst hz'
    clear hz
    by_cases hlt : j < l.length
    · obtain ⟨b0, o, rfl, ⟨c0, c1, c2, c3, c4⟩, _, _⟩ := (HL.out.below HW.out.2).get hlt
      have hacc : (freshL b (l.take j)).length ≤ 1000000000 := Nat.le_trans (freshL_len b l j) (by omega)
      have HY := Lib.hid (fun D1 R1 (h : Passed b D1 R1 l j) (hR : ∀ x S, R1 = x :: S → (l.getD j default).var < x.var) => (show freshL b (l.take (j + 1)) = freshL b (l.take j) ++ [(l.getD j default).var] by rw [freshL_next b hlt, if_pos (h.none HAB.out hlt hR)]))
      have HN := Lib.hid (fun D1 x S (h : Passed b D1 (x :: S) l j) (hx : x.var = (l.getD j default).var) => (show freshL b (l.take (j + 1)) = freshL b (l.take j) by rw [freshL_next b hlt, if_neg (by rw [h.some hx]; decide), List.append_nil]))
      have HS := Lib.hid (fun D1 x S (h : Passed b D1 (x :: S) l j) (hx : x.var < (l.getD j default).var) => h.skip HAL.out hx)
      have HO := Lib.hid HW.out.1
      have HX := Lib.hid HW.out.2
      clear HW
      have hlo := HX.out.size
      generalize freshL b (l.take j) = acc at *
      generalize l.getD j default = x at *
      obtain ⟨v, k', n', s', A5, c5, a5⟩ := x
      simp only [Tm.kind, Tm.num, Tm.name, Tm.at_, Tm.args, Tm.cap] at c0 c1 c2 c3 c4
      simp only at HY HN HS
      go_wp2_with fail
      go_loopw [0] (fun a W' => ∃ (A1 : Option Addr) (c1 : Nat) (D1 R1 : List Bd), a = .slice A1 R1.length c1 ∧ Hid (Passed b D1 R1 l j ∧ BLst w A1 R1 c1) ∧ Hid (Ext (wr.alloc (.cells #[.int .i64 v, .int .i64 k', .int .i64 n', .string s', .slice A5 a5.length c5] 41)) W')) (fun a _ => blen a)
      case atStart => exact ⟨A', c', D, R, rfl, HPB, Lib.hid (Ext.refl _)⟩
      case round =>
        clear HPB c0 c1 c2 c3 c4
        rename World => wb
        obtain ⟨A1, c1, D1, R1, rfl, HP1, HE1⟩ := hrel
        have g0 : wb.cell? ⟨wr.heap.size, 0, none⟩ = some (.int .i64 v) := HE1.out.row 0
        have hs1 := HE1.out.size
        rw [World.size_alloc] at hs1
        cases R1 with
        | nil =>
          simp only [List.length_nil]
          have HFN := Lib.hid (HY.out D1 [] HP1.out.1 (fun x S e => by cases e))
          go_wp2_with fail
          go_region
          have g1 := keepv (Ext.drew wb) g0
          have HE2 := Lib.hid (HE1.out.trans (Ext.drew wb))
          have hs2 := (Ext.drew wb).size
          clear HE1 g0
          generalize wb.drew = wd at *
          go_wp2_with fail
          go_region
          have g2 := keepv (Ext.drew wd) g1
          have HE3 := Lib.hid (HE2.out.trans (Ext.drew wd))
          have hs3 := (Ext.drew wd).size
          have HO3 := Lib.hid (HO.out.below ((Ext.al _ _).trans HE3.out))
          have HX3 := Lib.hid (HX.out.trans ((Ext.al _ _).trans HE3.out))
          clear HE2 g1 HE3 HO
          generalize wd.drew = we at *
          go_wp2_with (at_builtin; refine wpList_append_own _ rfl _ _ 30 rfl w.heap.size 3 i0 (.int .i64 0) 1 8 Tryz.underlying30 hi hz0 hz1 hz2 rfl (by decide) _ acc.length (icells acc) rfl (HO3.out.alloc _) ⟨we.heap.size, 0, none⟩ 1 1 [.int .i64 v] rfl rfl (cell_one_new _ _ _) (icells_one [v]) (by unfold maxLen; omega) (by omega) (by simp; omega) ?_; intro v' w5 hown1 hg1 _)
          have HP := Lib.hid (own_put hown1)
          have E5 := Lib.hid (show Ext w w5 from ((HX3.out.trans (Ext.al _ _)).grown hg1 (by simp; omega) (fun k hk => (World.ownsRow.lt HO3.out k hk).1)))
          clear hown1 hg1
          go_wp2_with fail
          go_roundw
          case rel => exact ⟨j + 1, A1, c1, D1, [], _, by omega, by go_num, rfl, rfl, Lib.hid ⟨HP1.out.1.next, HP1.out.2⟩, Lib.hid ⟨by rw [HFN.out]; exact HP.out, E5.out⟩⟩
          case measure => simp [intOf]; omega
        | cons y S =>
          obtain ⟨b5, o5, rfl, ⟨e0, _, _, _, _⟩, _, _⟩ := HP1.out.2.get (i := 0) (by simp)
          rw [show o5 + 0 * 5 = o5 by omega, show (y :: S).getD 0 default = y from rfl] at e0
          have e1 := keepv (HX.out.trans ((Ext.al _ _).trans HE1.out)) e0
          have hcl := HP1.out.2.1
          simp only [List.length_cons] at hcl ⊢
          have sp : decide ((0 : Nat) < S.length + 1) = true := by simp
          have sn : ((S.length : Int) + 1 == 0) = false := by rw [beq_eq_false_iff_ne]; omega
          clear e0
          obtain ⟨yv, yt⟩ := y
          simp only at e1
          by_cases hq : yv < v
          · have sq : decide (yv < v) = true := by simpa using hq
            have HSK := Lib.hid (HS.out D1 ⟨yv, yt⟩ S HP1.out.1 hq)
            clear hq
            go_wp2_with fail
            go_region
            have HE2 := Lib.hid (HE1.out.trans (Ext.drew wb))
            have HBL := Lib.hid HP1.out.2
            clear HE1 HP1 e1 g0
            generalize wb.drew = wd at *
            go_wp2_with fail
            refine ⟨⟨_, c1 - 1, D1 ++ [⟨yv, yt⟩], S, rfl, Lib.hid ⟨HSK.out, ?_⟩, HE2⟩, by simp [blen]⟩
            split
            · rename_i hc1
              subst hc1
              exact HBL.out.last.2
            · exact HBL.out.rest
          · have sq : decide (yv < v) = false := by simpa using hq
            by_cases hq2 : v < yv
            · have sq2 : decide (v < yv) = true := by simpa using hq2
              have HFN := Lib.hid (HY.out D1 (⟨yv, yt⟩ :: S) HP1.out.1 (fun x S' e => by injection e with e1 e2; subst e1; exact hq2))
              clear hq hq2
              go_wp2_with fail
              go_region
              have g1 := keepv (Ext.drew wb) g0
              have e2 := keepv (Ext.drew wb) e1
              have HE2 := Lib.hid (HE1.out.trans (Ext.drew wb))
              have hs2 := (Ext.drew wb).size
              clear HE1 g0 e1
              generalize wb.drew = wd at *
              go_wp2_with fail
              go_region
              have g2 := keepv (Ext.drew wd) g1
              have HE3 := Lib.hid (HE2.out.trans (Ext.drew wd))
              have hs3 := (Ext.drew wd).size
              have HO3 := Lib.hid (HO.out.below ((Ext.al _ _).trans HE3.out))
              have HX3 := Lib.hid (HX.out.trans ((Ext.al _ _).trans HE3.out))
              clear HE2 g1 e2 HE3 HO
              generalize wd.drew = we at *
              go_wp2_with (at_builtin; refine wpList_append_own _ rfl _ _ 30 rfl w.heap.size 3 i0 (.int .i64 0) 1 8 Tryz.underlying30 hi hz0 hz1 hz2 rfl (by decide) _ acc.length (icells acc) rfl (HO3.out.alloc _) ⟨we.heap.size, 0, none⟩ 1 1 [.int .i64 v] rfl rfl (cell_one_new _ _ _) (icells_one [v]) (by unfold maxLen; omega) (by omega) (by simp; omega) ?_; intro v' w5 hown1 hg1 _)
              have HP := Lib.hid (own_put hown1)
              have E5 := Lib.hid (show Ext w w5 from ((HX3.out.trans (Ext.al _ _)).grown hg1 (by simp; omega) (fun k hk => (World.ownsRow.lt HO3.out k hk).1)))
              clear hown1 hg1
              go_wp2_with fail
              go_roundw
              case rel => exact ⟨j + 1, _, c1, D1, ⟨yv, yt⟩ :: S, _, by omega, by go_num, rfl, rfl, Lib.hid ⟨HP1.out.1.next, HP1.out.2⟩, Lib.hid ⟨by rw [HFN.out]; exact HP.out, E5.out⟩⟩
              case measure => simp [intOf]; omega
            · have sq2 : decide (v < yv) = false := by simpa using hq2
              have HFN := Lib.hid (HN.out D1 ⟨yv, yt⟩ S HP1.out.1 (show yv = v by omega))
              clear hq hq2
              go_wp2_with fail
              go_region
              have g1 := keepv (Ext.drew wb) g0
              have e2 := keepv (Ext.drew wb) e1
              have HE2 := Lib.hid (HE1.out.trans (Ext.drew wb))
              clear HE1 g0 e1
              generalize wb.drew = wd at *
              go_wp2_with fail
              go_region
              have HE3 := Lib.hid (HE2.out.trans (Ext.drew wd))
              have HO3 := Lib.hid (HO.out.below ((Ext.al _ _).trans HE3.out))
              have HX3 := Lib.hid (HX.out.trans ((Ext.al _ _).trans HE3.out))
              clear HE2 g1 e2 HE3 HO
              generalize wd.drew = we at *
              go_wp2_with fail
              go_roundw
              case rel => exact ⟨j + 1, _, c1, D1, ⟨yv, yt⟩ :: S, _, by omega, by go_num, rfl, rfl, Lib.hid ⟨HP1.out.1.next, HP1.out.2⟩, Lib.hid ⟨by rw [HFN.out]; exact HO3.out, HX3.out⟩⟩
              case measure => simp [intOf]; omega
    · obtain rfl : j = l.length := by omega
      have hK := HW.out
      rw [List.take_length] at hK
      obtain ⟨A', cz, hz, hI, hcz⟩ := hK.1.form
      subst hz
      have HI := Lib.hid hI
      have HE := Lib.hid hK.2
      clear hK HW hlt hcz hI
      go_wp2_with fail
      go_ret
      exact ⟨A', cz, rfl, HI.out, HE.out⟩
end Go.Proofs.YtelkmnjoboekmaaGreat
namespace Go.Proofs.YtelkmnjoboekmaaGreat
open Go.RowKit Go.Shelf
attribute [local go_sem] Oper.semAt_some

/-- An index and a number below m. -/
abbrev Pos (m : Nat) := { t : Nat × Nat // t.2 < m }
abbrev encP {m : Nat} (x : Pos m) : Array Value := #[.int .i64 ((x.1.1 : Nat) : Int), .int .i64 ((x.1.2 : Nat) : Int)]
def Kept2 (b c : Nat) (A B : World) : Prop := B.heap[b]? = A.heap[b]? ∧ B.heap[c]? = A.heap[c]?
theorem Kept2.trans {b c : Nat} {X Y Z : World} (h : Kept2 b c X Y) (k : Kept2 b c Y Z) : Kept2 b c X Z := ⟨k.1.trans h.1, k.2.trans h.2⟩
theorem Kept2.refl (b c : Nat) (X : World) : Kept2 b c X X := ⟨rfl, rfl⟩
theorem cell_same {A B : World} {p : Addr} (h : B.heap[p.block]? = A.heap[p.block]?) : B.cell? p = A.cell? p := by
  unfold World.cell?
  rw [h]
def valsP {m : Nat} (l : List (Pos m)) : List Nat := l.map fun x => x.1.2

set_option maxHeartbeats 1000000 in
theorem backward_at (A : Option Addr) (N c : Nat) (w : World) : Calls Tryz.prog 71 #[.slice A N c] w fun e w' => e = .returned (.func (.func 108) #[] #[.pointer (some ⟨w.heap.size, 0, none⟩)]) ∧ w' = w.alloc (.cells #[.slice A N c] 30) := by
  go_enter Tryz.func71, Tryz.ntmps71
  go_wp2_with fail
  go_ret
  exact ⟨rfl, rfl⟩

set_option maxRecDepth 100000 in
set_option maxHeartbeats 2000000 in
theorem back_in {m : Nat} (n l Bs ob c : Nat) (A : Option Addr) (ord : List Nat) (hlt : ∀ i ∈ ord, i < m) (hlen : ord.length ≤ 2500000) (J Jx : List (Pos m) → World → Prop)
    (hY : ∀ pre x W, J pre W → pre.length < ord.length → YieldAt Fence.wide (n - 1) Tryz.prog l (encP x) W fun e W' =>
      (e = .returned (.bool true) ∧ J (pre ++ [x]) W' ∧ Kept2 Bs ob W W') ∨ (e = .returned (.bool false) ∧ Jx (pre ++ [x]) W'))
    (W : World) (hBs : W.cell? ⟨Bs, 0, none⟩ = some (.slice A ord.length c)) (hc : 0 < ord.length → A = some ⟨ob, 0, none⟩ ∧ ∀ j, j < ord.length → W.cell? ⟨ob, j, none⟩ = some (.int .i64 (ord.getD j 0 : Nat))) (h0 : J [] W) :
    CallsIn Fence.wide n Tryz.prog 108 #[.func (.yield l) #[] #[], .pointer (some ⟨Bs, 0, none⟩)] W fun e W' => (∃ v, e = .returned v) ∧
      ((∃ ys, valsP ys = ord.reverse ∧ J ys W') ∨ (∃ pre, True ∧ Jx pre W')) := by
  have HC := Lib.hid hc
  have HL := Lib.hid hlt
  clear hc hlt
  refine callsIn_of_wp Tryz.func108 rfl trivial ?_ rfl
  simp only [Tryz.ntmps108, List.size_toArray, List.length_cons, List.length_nil, Nat.reduceAdd, Nat.reduceSub, Array.replicate_succ, Array.replicate_zero, List.push_toArray, List.append_toArray, List.nil_append, List.cons_append]
  gi_wp2
  gi_loopw [3] (fun s3 wr => ∃ (k : Nat) (pre : List (Pos m)), k ≤ ord.length ∧ s3 = .int .i64 ((ord.length : Int) - 1 - k) ∧ Hid (pre.length = k ∧ valsP pre = ord.reverse.take k ∧ J pre wr ∧ Kept2 Bs ob W wr)) (fun s3 _ => (intOf s3 + 1).toNat)
  case atStart =>
    exact ⟨0, [], Nat.zero_le _, by go_num, Lib.hid ⟨rfl, by simp [valsP], h0, Kept2.refl _ _ _⟩⟩
  case round =>
    obtain ⟨k, pre, hk, rfl, HJ⟩ := hrel
    by_cases hlt : k < ord.length
    · obtain ⟨rfl, hcs⟩ := HC.out (by omega)
      obtain ⟨j, hj⟩ : ∃ j : Nat, j = ord.length - 1 - k := ⟨_, rfl⟩
      have hje : ((ord.length : Int) - 1 - k) = (j : Nat) := by omega
      rw [hje] at *
      have hb1 := (cell_same (p := ⟨Bs, 0, none⟩) HJ.out.2.2.2.1).trans hBs
      have hb2 := (cell_same (p := ⟨ob, j, none⟩) HJ.out.2.2.2.2).trans (hcs j (by omega))
      have hmem : ord.getD j 0 < m := HL.out _ (by simp only [List.getD, List.getElem?_eq_getElem (show j < ord.length by omega), Option.getD_some]; exact List.getElem_mem _)
      obtain ⟨fn, tmps, assign, body, hy, hR⟩ := hY pre ⟨(j, ord.getD j 0), hmem⟩ wr HJ.out.2.2.1 (by rw [HJ.out.1]; exact hlt)
      have hjl : j < ord.length := by omega
      have hNX := Lib.hid (show valsP (pre ++ [(⟨(j, ord.getD j 0), hmem⟩ : Pos m)]) = ord.reverse.take (k + 1) from by
        have h1 := HJ.out.2.1
        unfold valsP at h1 ⊢
        rw [List.map_append, h1, List.take_succ_eq_append_getElem (by rw [List.length_reverse]; exact hlt)]
        simp only [List.map_cons, List.map_nil, List.getElem_reverse]
        rw [show ord[ord.length - 1 - k] = ord.getD j 0 from by simp [List.getD, hj, show ord.length - 1 - k < ord.length by omega]])
      have hpl := HJ.out.1
      have hKP := Lib.hid HJ.out.2.2.2
      obtain ⟨pn, hpn⟩ : ∃ pn, pn = pre ++ [(⟨(j, ord.getD j 0), hmem⟩ : Pos m)] := ⟨_, rfl⟩
      have hpnl : pn.length = k + 1 := by rw [hpn, List.length_append, hpl]; rfl
      rw [← hpn] at hNX hR
      have HJ2 := Lib.hid (show j + 1 + k = ord.length from by omega)
      have hmz : m = m := rfl
      clear HJ hpn hcs hj hje hmz
      generalize ord.getD j 0 = oj at *
      gi_wp2
      refine ⟨fun h => (by cases h), hR.mono ?_⟩
      rintro e W3 (⟨rfl, hJ3, hk3⟩ | ⟨rfl, hJx3⟩)
      · have HE := Lib.hid (show pn.length = k + 1 ∧ valsP pn = ord.reverse.take (k + 1) ∧ J pn W3 ∧ Kept2 Bs ob W W3 from ⟨hpnl, hNX.out, hJ3, hKP.out.trans hk3⟩)
        clear hJ3 hk3 hNX hKP
        gi_wp2
        go_roundw
        case rel => exact ⟨k + 1, pn, by omega, by have := HJ2.out; congr 1; omega, HE⟩
        case measure => have := HJ2.out; simp [intOf]
      · gi_wp2
        refine bodyPost_ret (results_none rfl _ _ _) rfl ?_
        exact ⟨⟨_, rfl⟩, .inr ⟨_, trivial, hJx3⟩⟩
    · obtain rfl : k = ord.length := by omega
      have HE := Lib.hid (show valsP pre = ord.reverse ∧ J pre wr from ⟨by have := HJ.out.2.1; rwa [show ord.length = ord.reverse.length from by simp, List.take_length] at this, HJ.out.2.2.1⟩)
      clear HJ
      gi_wp2
      go_end0
      exact ⟨⟨_, rfl⟩, .inl ⟨pre, HE.out⟩⟩
theorem back_stops {m : Nat} (n Bs ob c : Nat) (A : Option Addr) (ord : List Nat) (hlt : ∀ i ∈ ord, i < m) (hlen : ord.length ≤ 2500000) (w : World) (hBs : w.cell? ⟨Bs, 0, none⟩ = some (.slice A ord.length c))
    (hc : 0 < ord.length → A = some ⟨ob, 0, none⟩ ∧ ∀ j, j < ord.length → w.cell? ⟨ob, j, none⟩ = some (.int .i64 (ord.getD j 0 : Nat))) :
    SeqStopsK Fence.wide n Tryz.prog 108 #[.pointer (some ⟨Bs, 0, none⟩)] (encP (m := m)) (Kept2 Bs ob) (fun xs => valsP xs = ord.reverse) (fun _ => True) ord.length w := fun l J Jx W hW _ _ hY h0 => by
  refine back_in n l Bs ob c A ord hlt hlen J Jx hY W ((hW.cell (World.block_lt_of_cell? _ _ hBs)).trans hBs) (fun h => ⟨(hc h).1, fun j hj => ?_⟩) h0
  have h1 := (hc h).2 j hj
  exact (hW.cell (World.block_lt_of_cell? _ _ h1)).trans h1
end Go.Proofs.YtelkmnjoboekmaaGreat
