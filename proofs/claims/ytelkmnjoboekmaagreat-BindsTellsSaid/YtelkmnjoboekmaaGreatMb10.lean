/-
  Contracts of slices.IsSortedFunc (at bindings), inOrder (of a list in ascending order) and Apply of the program.
  How many nodes terms have; what a bound on the weight of a list of bindings says.
  Lists of one term, boxes, and that a closed graph has a unifier.
  A world behind another: blocks that were there stay.
  What All answers, case by case.
  Arithmetic of terms, plainly: floor division, the operators, values (out of stage 4's text).
  The built-in store, plainly: what telling an equation, telling a value and comparing answer; the order does not matter. No program.
  TwoRow rows of terms of the call's own, side by side; lists of terms that lie where the caller's do.
-/
import Derived.Test.YtelkmnjoboekmaaGreatMb9
import Derived.Test.YtelkmnjoboekmaaGreatMb4
import Derived.Test.YtelkmnjoboekmaaGreatMb6
import Derived.Test.YtelkmnjoboekmaaGreatMb1
import Derived.Test.YtelkmnjoboekmaaGreatMb5
namespace Go.Proofs.YtelkmnjoboekmaaGreat
open Go.RowKit Go.Sort

/-- In ascending order, with repeats, step by step. -/
def srtB (l : List Bd) : Bool := (List.range (l.length - 1)).all fun i => decide ((l.getD i default).var ≤ (l.getD (i + 1) default).var)
theorem srtB_iff (l : List Bd) : srtB l = true ↔ Srt l := by
  simp only [srtB, List.all_eq_true, List.mem_range, decide_eq_true_eq]
  constructor
  · intro h i j hij hj
    induction j with
    | zero => obtain rfl : i = 0 := by omega
              exact Int.le_refl _
    | succ j ih =>
      rcases Nat.lt_or_ge i (j + 1) with h1 | h1
      · exact Int.le_trans (ih (by omega) (by omega)) (h j (by omega))
      · obtain rfl : i = j + 1 := by omega
        exact Int.le_refl _
  · intro h i hi
    exact h i (i + 1) (by omega) (by omega)
theorem srtB_not {l : List Bd} {i : Nat} (hi : i + 1 < l.length) (h : (l.getD (i + 1) default).var < (l.getD i default).var) : srtB l = false := by
  unfold srtB
  rw [List.all_eq_false]
  exact ⟨i, by simp; omega, fun hc => by have := of_decide_eq_true hc; omega⟩
theorem boxedB (w : World) (x : Bd) : (w.alloc (boxB x)).cell? ⟨w.heap.size, 0, none⟩ = some (.int .i64 x.var) := World.cell?_alloc_at _ _ _ _ rfl

theorem compare_vars_below (x y : Bd) (w : World) {r : Int} (hr : ints x.var y.var = r) : Calls Tryz.prog 87 #[x.val, y.val] w fun e w' => e = .returned (.int .i64 r) ∧ Below w.heap.size w w' :=
  (compare_vars_at x y w).mono (by
    rintro e w' ⟨rfl, rfl⟩
    exact ⟨by rw [hr], below2 _ _ _⟩)

set_option maxHeartbeats 4000000 in
theorem is_sorted_at (l : List Bd) (A : Option Addr) (c : Nat) (w : World) (hl : BLst w A l c) (hlen : l.length ≤ 1000000) :
    Calls Tryz.prog 86 #[.slice A l.length c, .func (.func 87) #[] #[]] w fun e w' => e = .returned (.bool (srtB l)) ∧ Below w.heap.size w w' := by
  have HL := Lib.hid hl
  clear hl
  go_enter Tryz.func86, Tryz.ntmps86
  go_wp2_with fail
  go_loopw [5] (fun s5 wr => ∃ (k : Nat) (m : Int), k ≤ l.length ∧ m = (k : Int) - 1 ∧ s5 = .int .i64 m ∧ Hid (∀ t, k ≤ t + 1 → t + 1 < l.length → (l.getD t default).var ≤ (l.getD (t + 1) default).var) ∧ Below w.heap.size w wr) (fun s5 _ => (intOf s5).toNat)
  case atStart => exact ⟨l.length, _, Nat.le_refl _, rfl, rfl, Lib.hid (fun t h1 h2 => by omega), Below.refl _ _⟩
  case round =>
    obtain ⟨k, m, hk, hm, rfl, HF, hbw⟩ := hrel
    by_cases h2 : 2 ≤ k
    · obtain ⟨kp, rfl⟩ : ∃ kp, k = kp + 2 := ⟨k - 2, by omega⟩
      obtain rfl : m = (kp : Int) + 1 := by omega
      obtain ⟨b, o, rfl, ⟨c0, c1, c2, c3, c4⟩, _⟩ := (HL.out.below hbw).get (i := kp + 1) (by omega)
      obtain ⟨b', o', e', ⟨p0, p1, p2, p3, p4⟩, _⟩ := (HL.out.below hbw).get (i := kp) (by omega)
      injection e' with e'
      injection e' with e1 e2 _
      subst e1 e2
      have HN := Lib.hid (fun (h : (l.getD (kp + 1) default).var < (l.getD kp default).var) => srtB_not (l := l) (i := kp) (by omega) h)
      have HM := Lib.hid (fun (h : (l.getD kp default).var ≤ (l.getD (kp + 1) default).var) => (fun t h1 h2 => by
        rcases Nat.lt_or_ge t (kp + 1) with h3 | h3
        · obtain rfl : t = kp := by omega
          exact h
        · exact HF.out t (by omega) h2 : ∀ t, kp + 1 ≤ t + 1 → t + 1 < l.length → (l.getD t default).var ≤ (l.getD (t + 1) default).var))
      generalize l.getD (kp + 1) default = x at *
      generalize l.getD kp default = y at *
      obtain ⟨r, hr⟩ : ∃ r, ints x.var y.var = r := ⟨_, rfl⟩
      have Q := Lib.hid (fun W => compare_vars_below x y W hr)
      have HR := Lib.hid (show r < 0 ↔ x.var < y.var by
        rw [← hr]; unfold ints
        split
        · simp [*]
        · split <;> simp [*])
      have hm1 : (kp : Int) + 1 - 1 = (kp : Int) := by omega
      clear hr HF hm h2
      obtain ⟨v, k1, n1, s1, A1, q1, a1⟩ := x
      obtain ⟨v', k2, n2, s2, A2, q2, a2⟩ := y
      simp only [Tm.kind, Tm.num, Tm.name, Tm.at_, Tm.args, Tm.cap] at c0 c1 c2 c3 c4 p0 p1 p2 p3 p4
      have c0' := cell_regrown c0
      have c1' := cell_regrown c1
      have c2' := cell_regrown c2
      have c3' := cell_regrown c3
      have c4' := cell_regrown c4
      have p0' := cell_regrown p0
      have p1' := cell_regrown p1
      have p2' := cell_regrown p2
      have p3' := cell_regrown p3
      have p4' := cell_regrown p4
      by_cases hrn : r < 0
      · have HE := Lib.hid (HN.out (HR.out.1 hrn))
        clear HM HN HR
        go_wp2_with fail
        refine wp_region_quiet_below (by kernel_rfl) (by kernel_rfl) ?_
        repeat (go_big_quiet_step (first | (go_at_call 87; exact Calls.regrown_of (Q.out _))))
        refine wpQuiet_nil ?_
        intro w1 hw'
        have hb1 := regrown_below hw'
        go_wp2_with fail
        go_ret
        exact ⟨by rw [HE.out]; rfl, hbw.trans (hb1.mono hbw.size)⟩
      · have HE := Lib.hid (HM.out (Int.not_lt.1 (fun h => hrn (HR.out.2 h))))
        clear HM HN HR
        go_wp2_with fail
        refine wp_region_quiet_below (by kernel_rfl) (by kernel_rfl) ?_
        repeat (go_big_quiet_step (first | (go_at_call 87; exact Calls.regrown_of (Q.out _))))
        refine wpQuiet_nil ?_
        intro w1 hw'
        have hb1 := regrown_below hw'
        go_wp2_with fail
        go_roundw
        case rel => exact ⟨kp + 1, _, by omega, rfl, by go_num, HE, hbw.trans (hb1.mono hbw.size)⟩
        case measure => simp [intOf]
    · have hm0 : ¬ m > 0 := by omega
      have HE := Lib.hid (show srtB l = true by
        simp only [srtB, List.all_eq_true, List.mem_range, decide_eq_true_eq]
        exact fun t ht => HF.out t (by omega) (by omega))
      clear hm h2
      go_wp2_with fail
      go_ret
      exact ⟨by rw [HE.out]; rfl, hbw⟩

/-- A list of bindings like l, in ascending order. -/
def InOrd (l : List Bd) (w : World) (e : Ending) (w' : World) : Prop :=
  ∃ A c, ∃ l' : List Bd, e = .returned (.slice A l'.length c) ∧ BLst w' A l' c ∧ Good l' ∧ (∀ v, look l' v = look l v) ∧ Below w.heap.size w w'

theorem in_order_at (l : List Bd) (A : Option Addr) (c : Nat) (w : World) (hl : BLst w A l c) (hG : Good l) : Calls Tryz.prog 48 #[.slice A l.length c] w (InOrd l w) := by
  have Q := Lib.hid (is_sorted_at l A c w hl hG.len)
  rw [(srtB_iff l).2 hG.srt] at Q
  have HL := Lib.hid hl
  clear hl
  go_enter Tryz.func48, Tryz.ntmps48
  go_wp2_with fail
  refine (Q.out).mono ?_
  rintro e w' ⟨rfl, hb⟩
  go_wp2_with fail
  go_ret
  exact ⟨A, c, l, rfl, HL.out.below hb, hG, fun _ => rfl, hb⟩

set_option maxHeartbeats 2000000 in
theorem apply_at (l : List Bd) (A : Option Addr) (c : Nat) (t : Tm) (w : World) (ht : t.At w) (hn : t.nodes ≤ 1000000)
    (Q0 : ∀ W, Below w.heap.size w W → Calls Tryz.prog 48 #[.slice A l.length c] W (InOrd l W)) :
    Calls Tryz.prog 28 #[.slice A l.length c, t.val] w (Made (t.app l) w) := by
  have Q := Lib.hid Q0
  have QA := Lib.hid (fun l' (hG : Good l') D q W (hb : BLst W D l' q) (h : Below w.heap.size w W) => apply_s_at l' hG D q t W hb (ht.below h) hn)
  have HV := Lib.hid (fun (l' : List Bd) (h : ∀ v, look l' v = look l v) => (app_of_look h).1 t)
  obtain ⟨k, n, s, A', c', a⟩ := t
  obtain ⟨HB0, HB1⟩ := two_boxes w (.int .i64 k) (.int .i64 n) (.string s) (.slice A' a.length c') (.int .i64 0) (.int .i64 0) (.string ⟨#[]⟩) (.slice none 0 0) 26
  have H0 := Lib.hid HB0
  have H1 := Lib.hid HB1
  clear HB0 HB1 ht hn Q0
  show Calls Tryz.prog 28 #[.slice A l.length c, .agg #[.int .i64 k, .int .i64 n, .string s, .slice A' a.length c']] w _
  go_enter Tryz.func28, Tryz.ntmps28
  have d0 : ∀ ob, ((w.alloc ob).alloc zeroBox).cell? ⟨w.heap.size, 0, none⟩ = (w.alloc ob).cell? ⟨w.heap.size, 0, none⟩ := fun ob => World.cell?_alloc_lt _ _ _ (by simp)
  have HH := H0.out
  obtain ⟨_, x0, x1, x2, x3, _⟩ := HH
  clear d0
  go_wp2_with fail
  go_region_with (first
    | (go_at_call 48; refine (Q.out _ (by first | exact below2 _ _ _ | exact (below2 _ _ _).drew)).mono ?_; rintro e w1 ⟨D, q, l', rfl, hD, hG, hlk, hb1⟩; have K1 := Lib.hid (H0.out.below (undrew hb1)); have M1 := Lib.hid (H1.out.below (undrew hb1)); have hz := K1.out.lt; have y0 := K1.out.c0; have y1 := K1.out.c1; have y2 := K1.out.c2; have y3 := K1.out.c3; have HB1 := Lib.hid ((below2 w _ _).trans (undrew (hb1.mono (by simp; omega)))); have HD := Lib.hid hD; have HE := Lib.hid (HV.out l' hlk); clear hD hlk hb1)
    | (go_at_call 49; refine (QA.out _ hG _ _ _ HD.out HB1.out).mono ?_; rintro e w2 ⟨u, rfl, hu, hlie, hb2⟩; have M2 := Lib.hid (M1.out.below hb2); have hz2 := M2.out.lt; have e0 := M2.out.c0; have e1 := M2.out.c1; have e2 := M2.out.c2; have e3 := M2.out.c3; have f0 := M2.out.free 0; have f1 := M2.out.free 1; have f2 := M2.out.free 2; have f3 := M2.out.free 3; have HB2 := Lib.hid (HB1.out.trans (hb2.mono HB1.out.size)); have HU := Lib.hid hu; have HI := Lib.hid (hlie.low (lo' := w.heap.size + 2) (by have := M1.out.lt; omega)); obtain ⟨k2, n2, s2, A2, p2, a2⟩ := u; clear hu hlie hb2))
  all_goals
    go_wp2_with fail
    refine bodyPost_ret (v := .agg #[.int .i64 k2, .int .i64 n2, .string s2, .slice A2 a2.length p2]) (by simp [results, Tryz.results28, go_sem, e0, e1, e2, e3, Tm.kind, Tm.num, Tm.name, Tm.at_, Tm.args, Tm.cap]) rfl ?_
    refine ⟨.mk k2 n2 s2 A2 p2 a2, rfl, by rw [HU.out, HE.out], ?_, set4c HB2.out (Nat.le_succ _)⟩
    exact Lie.low ((((HI.out.set (p := ⟨w.heap.size + 1, 0, none⟩) (.inl (by show w.heap.size + 1 < _; omega)) _).set (p := ⟨w.heap.size + 1, 1, none⟩) (.inl (by show w.heap.size + 1 < _; omega)) _).set (p := ⟨w.heap.size + 1, 2, none⟩) (.inl (by show w.heap.size + 1 < _; omega)) _).set (p := ⟨w.heap.size + 1, 3, none⟩) (.inl (by show w.heap.size + 1 < _; omega)) _) (by omega)
end Go.Proofs.YtelkmnjoboekmaaGreat
namespace Go.Proofs.YtelkmnjoboekmaaGreat
open Go

theorem nodes_strip : (∀ t : Tm, t.strip.nodes = t.nodes) ∧ (∀ l, nodesL (stripL l) = nodesL l) :=
  Tm.induct2 (fun k n s A c a ih => by simp only [Tm.strip, Tm.nodes, ih]) rfl (fun t r h1 h2 => by simp only [stripL, nodesL, h1, h2])
theorem nodes_same {t u : Tm} (h : t.strip = u.strip) : t.nodes = u.nodes := by rw [← nodes_strip.1, h, nodes_strip.1]
theorem form_nodes : (∀ t : Tm, t.form = true → t.nodes = t.size) ∧ (∀ l, formL l = true → nodesL l = sizeL l) := by
  refine Tm.induct2 (fun k n s A c a ih h => ?_) (fun _ => rfl) (fun t r h1 h2 h => ?_)
  · simp only [Tm.form] at h
    simp only [Tm.nodes, Tm.size]
    by_cases k0 : k = 0
    · subst k0
      simp only [if_true, Bool.and_eq_true, decide_eq_true_eq] at h
      obtain rfl : a = [] := List.length_eq_zero_iff.1 h.2.2.2
      simp [nodesL]
    · by_cases k1 : k = 1
      · subst k1
        simp only [if_true, show ¬ ((1 : Int) = 0) by omega, if_false, Bool.and_eq_true, decide_eq_true_eq] at h
        obtain rfl : a = [] := List.length_eq_zero_iff.1 h.2.2.2
        simp [nodesL]
      · by_cases k2 : k = 2
        · subst k2
          simp only [show ¬ ((2 : Int) = 0) by omega, show ¬ ((2 : Int) = 1) by omega, if_true, if_false, Bool.and_eq_true] at h
          rw [if_pos rfl, ih h.2.2]
        · simp [k0, k1, k2] at h
  · simp only [formL, Bool.and_eq_true] at h
    simp only [nodesL, sizeL, h1 h.1, h2 h.2]
theorem right_nodes {t : Tm} (h : t.right = true) : t.nodes ≤ 200 := by
  unfold Tm.right at h
  simp only [Bool.and_eq_true, decide_eq_true_eq] at h
  rw [form_nodes.1 t h.1]
  exact h.2.1
theorem nodes_pos (t : Tm) : 1 ≤ t.nodes := by cases t; simp [Tm.nodes]
theorem nodes_app {b : List Bd} {N : Nat} (hN : ∀ x ∈ b, x.tm.nodes ≤ N) : (∀ t : Tm, (t.app b).nodes ≤ t.nodes * (1 + N)) ∧ (∀ l, nodesL (appL b l) ≤ nodesL l * (1 + N)) := by
  refine Tm.induct2 (fun k n s A c a ih => ?_) (by simp [appL, nodesL]) (fun t r h1 h2 => ?_)
  · simp only [Tm.app]
    have hp : ∀ m : Nat, m ≤ m * (1 + N) := fun m => Nat.le_mul_of_pos_right m (by omega)
    split
    · cases hl : look b n with
      | none => exact hp _
      | some t =>
        obtain ⟨x, hx, _, rfl⟩ := look_some hl
        have h1 := hN x hx
        have h2 : 1 * (1 + N) ≤ (Tm.mk k n s A c a).nodes * (1 + N) := Nat.mul_le_mul_right _ (nodes_pos _)
        simp only [Option.getD_some]
        omega
    · split
      · simp only [Tm.nodes]
        rw [Nat.add_mul]
        omega
      · exact hp _
  · simp only [appL, nodesL]
    rw [Nat.add_mul]
    omega
theorem nodes_mem_b {b : List Bd} {most : Int} (h : (nodesL (b.map Bd.tm) : Int) ≤ most) : ∀ x ∈ b, (x.tm.nodes : Int) ≤ most := fun x hx => by
  have := nodes_mem (t := x.tm) (l := b.map Bd.tm) (List.mem_map_of_mem hx)
  omega
theorem len_nodes_b {b : List Bd} {most : Int} (h : (nodesL (b.map Bd.tm) : Int) ≤ most) : (b.length : Int) ≤ most := by
  have := length_le_nodes (b.map Bd.tm)
  simp at this
  omega
theorem right_good {b : List Bd} (h : rightS b = true) (hl : b.length ≤ 1000000) : Good b :=
  ⟨hl, ((rightS_iff b).1 h).1.2.srt, fun x hx => Nat.le_trans (right_nodes (((rightS_iff b).1 h).1.1 x hx).2.2) (by omega)⟩
theorem comp_err {a c : List Bd} (h : (comp a c).2 ≠ 0) : (comp a c).1 = [] := by
  unfold comp at *
  split
  · rfl
  · split
    · rfl
    · split
      · rfl
      · rename_i h1 h2 h3
        rw [if_neg h1, if_neg h2, if_neg h3] at h
        exact absurd rfl h
theorem comp_code (a c : List Bd) : (comp a c).2 = 0 ∨ (comp a c).2 = 2 ∨ (comp a c).2 = 6 := by
  unfold comp
  split
  · simp
  · split
    · simp
    · split <;> simp
theorem comp_length {a c o : List Bd} (h : comp a c = (o, 0)) : o.length ≤ a.length + c.length := by
  obtain ⟨_, _, rfl, _⟩ := comp_ok h
  rw [(sortB_perm _).length_eq]
  unfold compL
  rw [List.length_append]
  have h1 : (compA a c).length ≤ a.length := List.length_filterMap_le _ _
  have h2 : (compC a c).length ≤ c.length := List.length_filter_le _ _
  omega
/-- What the statement on one after the other asks. -/
theorem then_same {a c o l : List Bd} {t x y z : Tm} (h : comp a c = (o, 0)) (hl : stripB l = stripB o) (hx : x.strip = (t.app l).strip) (hy : y.strip = (t.app a).strip) (hz : z.strip = (y.app c).strip) : (cmpT x z == 0) = true := by
  have h1 := comp_then h t
  rw [← cmp_strip.1] at h1 ⊢
  rw [hx, hz, app_like hl rfl, app_like (b := c) (b' := c) rfl hy, h1]
  rfl
end Go.Proofs.YtelkmnjoboekmaaGreat
namespace Go.Proofs.YtelkmnjoboekmaaGreat
open Go.RowKit

theorem one_lst {w : World} {t : Tm} (h : t.At w) {b : Nat} (hc : w.cell? ⟨b, 0, none⟩ = some (.int .i64 t.kind) ∧ w.cell? ⟨b, 1, none⟩ = some (.int .i64 t.num) ∧ w.cell? ⟨b, 2, none⟩ = some (.string t.name) ∧ w.cell? ⟨b, 3, none⟩ = some (.slice t.at_ t.args.length t.cap)) : Lst w (some ⟨b, 0, none⟩) [t] 1 :=
  ⟨Nat.le_refl _, by unfold maxLen; omega, fun _ => ⟨b, 0, rfl, hc, h, trivial⟩⟩
theorem two_nodes {t u : Tm} (h : (([t] : List Tm).all Tm.right && ([u] : List Tm).all Tm.right) = true) : nodesL [t] + nodesL [u] ≤ 2500000 := by
  simp only [List.all_cons, List.all_nil, Bool.and_true, Bool.and_eq_true] at h
  have h1 := right_nodes h.1
  have h2 := right_nodes h.2
  simp only [nodesL]
  omega
theorem cell4 {w : World} {o0 o1 o3 : Obj} {cs : Array Value} {T : TypeId} (j : Nat) : ((((w.alloc o0).alloc o1).alloc (.cells cs T)).alloc o3).cell? ⟨w.heap.size + 1 + 1, j, none⟩ = cs[j]? :=
  (World.cell?_alloc_past _ _ _ (by simp)).trans (World.cell?_alloc_at _ _ _ _ (by simp))
theorem cell5 {w : World} {o0 o1 o2 : Obj} {cs : Array Value} {T : TypeId} (j : Nat) : ((((w.alloc o0).alloc o1).alloc o2).alloc (.cells cs T)).cell? ⟨w.heap.size + 1 + 1 + 1, j, none⟩ = cs[j]? := World.cell?_alloc_at _ _ _ _ (by simp)
theorem boxes_two {w W : World} {v0 v1 v2 v3 u0 u1 u2 u3 : Value} {T : TypeId} (h : Below ((w.alloc (.cells #[v0, v1, v2, v3] T)).alloc (.cells #[u0, u1, u2, u3] T)).heap.size ((w.alloc (.cells #[v0, v1, v2, v3] T)).alloc (.cells #[u0, u1, u2, u3] T)) W) :
    (W.cell? ⟨w.heap.size, 0, none⟩ = some v0 ∧ W.cell? ⟨w.heap.size, 1, none⟩ = some v1 ∧ W.cell? ⟨w.heap.size, 2, none⟩ = some v2 ∧ W.cell? ⟨w.heap.size, 3, none⟩ = some v3) ∧ W.cell? ⟨w.heap.size + 1, 0, none⟩ = some u0 ∧ W.cell? ⟨w.heap.size + 1, 1, none⟩ = some u1 ∧ W.cell? ⟨w.heap.size + 1, 2, none⟩ = some u2 ∧ W.cell? ⟨w.heap.size + 1, 3, none⟩ = some u3 := by
  have h1 : ∀ j v, #[v0, v1, v2, v3][j]? = some v → W.cell? ⟨w.heap.size, j, none⟩ = some v := fun j v e => (h.cell (p := ⟨w.heap.size, j, none⟩) (by simp; omega)).trans (((World.cell?_alloc_past _ _ _ (by simp)).trans (World.cell?_alloc_at _ _ _ _ rfl)).trans e)
  have h2 : ∀ j v, #[u0, u1, u2, u3][j]? = some v → W.cell? ⟨w.heap.size + 1, j, none⟩ = some v := fun j v e => (h.cell (p := ⟨w.heap.size + 1, j, none⟩) (by simp)).trans ((World.cell?_alloc_at _ _ _ _ (by simp)).trans e)
  exact ⟨⟨h1 0 _ rfl, h1 1 _ rfl, h1 2 _ rfl, h1 3 _ rfl⟩, h2 0 _ rfl, h2 1 _ rfl, h2 2 _ rfl, h2 3 _ rfl⟩
/-- The bound variables in order. -/
theorem bound_exists {G : List Nd} {top : Nat → Nat} (h : VarU G) : ∃ bd, BoundIs G top bd := by
  let l := (List.range G.length).filter fun i => decide ((nd G i).tm.kind = 1) && decide (top i ≠ i)
  let le : Nat → Nat → Bool := fun i j => decide ((nd G i).tm.num ≤ (nd G j).tm.num)
  have hl : ∀ i, i ∈ l ↔ i < G.length ∧ (nd G i).tm.kind = 1 ∧ top i ≠ i := fun i => by simp [l]
  have hp : (l.mergeSort le).Perm l := List.mergeSort_perm l le
  have hm : ∀ i, i ∈ l.mergeSort le ↔ i < G.length ∧ (nd G i).tm.kind = 1 ∧ top i ≠ i := fun i => (hp.mem_iff).trans (hl i)
  have hn : (l.mergeSort le).Nodup := hp.nodup_iff.2 (List.Pairwise.filter _ List.nodup_range)
  have ho : (l.mergeSort le).Pairwise fun i j => le i j = true := List.pairwise_mergeSort (fun a b c h1 h2 => by simp only [le, decide_eq_true_eq] at *; omega) (fun a b => by simp only [le, Bool.or_eq_true, decide_eq_true_eq]; omega) l
  refine ⟨l.mergeSort le, hm, ?_⟩
  refine List.Pairwise.imp_of_mem ?_ (ho.and hn)
  intro i j hi hj hij
  obtain ⟨h1, h2⟩ := hij
  simp only [le, decide_eq_true_eq] at h1
  have h3 := (hm i).1 hi
  have h4 := (hm j).1 hj
  have h5 : (nd G i).tm.num ≠ (nd G j).tm.num := fun e => h2 (h i j h3.1 h4.1 h3.2.1 h4.2.1 e)
  omega
theorem closed_unif {G : List Nd} {E : List (Nat × Nat)} {top r : Nat → Nat} {D : Nat} (h : Closed G E top) (hr : Ranked G top r D) {F : List (Tm × Tm)} (hF : ∀ f, Unif F f ↔ ∀ p ∈ E, ndv f G p.1 = ndv f G p.2) : ∃ f, Unif F f := by
  obtain ⟨bd, hb⟩ := bound_exists (top := top) h.varu
  exact ⟨_, (closed_sol h hr hb hF).unif⟩
end Go.Proofs.YtelkmnjoboekmaaGreat
namespace Go.Proofs.YtelkmnjoboekmaaGreat
open Go.RowKit

theorem var_at {n : Int} (w : World) (h : Fits n) : (vr n).At w := by
  refine (At_iff _ _).2 ⟨⟨⟨by simp [vr, Tm.kind], by simp [vr, Tm.kind]⟩, h, by simp [vr, Tm.name]⟩, ?_⟩
  exact Lst.nil w
/-- A world behind another: blocks that were there stay. -/
def Ext (w v : World) : Prop := Below w.heap.size w v
theorem Ext.refl (w : World) : Ext w w := Below.refl _ _
theorem Ext.trans {u v w : World} (h1 : Ext u v) (h2 : Ext v w) : Ext u w := Below.trans h1 (h2.mono h1.size)
theorem Ext.al (w : World) (o : Obj) : Ext w (w.alloc o) := (Below.refl _ w).alloc (Nat.le_refl _) o
theorem Ext.row {u v : World} {cs : Array Value} {T : TypeId} (h : Ext (u.alloc (.cells cs T)) v) (j : Nat) (hj : u.heap.size < (u.alloc (.cells cs T)).heap.size := by simp) : v.cell? ⟨u.heap.size, j, none⟩ = cs[j]? :=
  (h.cell (p := ⟨u.heap.size, j, none⟩) hj).trans (World.cell?_alloc_at _ _ _ _ rfl)
end Go.Proofs.YtelkmnjoboekmaaGreat
namespace Go.Proofs.YtelkmnjoboekmaaGreat
open Go.RowKit

theorem out_arg {la lb : List Tm} (h : (la.all Tm.right && lb.all Tm.right) = false) : AllOut la lb [] 2 := by unfold AllOut; rw [if_pos h]; exact ⟨rfl, rfl⟩
theorem out_arity {la lb : List Tm} (h : (la.all Tm.right && lb.all Tm.right) = true) (hl : la.length ≠ lb.length) : AllOut la lb [] 9 := by unfold AllOut; rw [if_neg (by rw [h]; simp), if_pos hl]; exact ⟨rfl, rfl⟩
theorem out_none {la lb : List Tm} (h : (la.all Tm.right && lb.all Tm.right) = true) (hl : la.length = lb.length) (hn : ∀ f, ¬ Unif (la.zip lb) f) : AllOut la lb [] 13 := by unfold AllOut; rw [if_neg (by rw [h]; simp), if_neg (by simp [hl])]; exact .inl ⟨rfl, rfl, hn⟩
theorem out_some {la lb : List Tm} {s m : List Bd} {e : Int} (h : (la.all Tm.right && lb.all Tm.right) = true) (hl : la.length = lb.length) (hs : Sol (la.zip lb) s) (hm : (allRight s = true ∧ m = s ∧ e = 0) ∨ (allRight s = false ∧ m = [] ∧ e = 6)) : AllOut la lb m e := by
  unfold AllOut; rw [if_neg (by rw [h]; simp), if_neg (by simp [hl])]; exact .inr ⟨s, hs, hm⟩
end Go.Proofs.YtelkmnjoboekmaaGreat
namespace Go.Proofs.YtelkmnjoboekmaaGreat
open Go

/-! ### Floor division -/
def flr (a b : Int) : Int := if b < 0 then (-a) / (-b) else a / b
theorem neg_div {c d : Int} (hd : 0 < d) : (-c) / d = if c % d = 0 then -(c / d) else -(c / d) - 1 := by
  have h1 := Int.emod_add_mul_ediv c d
  have h2 := Int.emod_nonneg c (show d ≠ 0 by omega)
  have h3 := Int.emod_lt_of_pos c hd
  generalize hq : c / d = q at *
  generalize hr : c % d = r at *
  split
  · rename_i h0
    rw [show -c = d * (-q) by rw [Int.mul_neg]; omega]
    exact Int.mul_ediv_cancel_left _ (by omega)
  · rename_i h0
    rw [show -c = (d - r) + d * (-q - 1) by rw [Int.mul_sub, Int.mul_neg]; omega, Int.add_mul_ediv_left _ _ (by omega), Int.ediv_eq_zero_of_lt (by omega) (by omega)]
    omega
/-- The program's quotient. -/
def tq (a b : Int) : Int := if a.tmod b ≠ 0 ∧ (decide (a < 0) != decide (b < 0)) = true then a.tdiv b - 1 else a.tdiv b
theorem tdivmod_pos {a b : Int} (ha : 0 ≤ a) : a.tdiv b = a / b ∧ a.tmod b = a % b := ⟨Int.tdiv_eq_ediv_of_nonneg ha, Int.tmod_eq_emod_of_nonneg ha⟩
theorem ne_t {p q : Prop} [Decidable p] [Decidable q] (hp : p) (hq : ¬ q) : (decide p != decide q) = true := by simp [hp, hq]
theorem ne_t' {p q : Prop} [Decidable p] [Decidable q] (hp : ¬ p) (hq : q) : (decide p != decide q) = true := by simp [hp, hq]
theorem ne_f {p q : Prop} [Decidable p] [Decidable q] (hp : p) (hq : q) : ¬ (decide p != decide q) = true := by simp [hp, hq]
theorem ne_f' {p q : Prop} [Decidable p] [Decidable q] (hp : ¬ p) (hq : ¬ q) : ¬ (decide p != decide q) = true := by simp [hp, hq]
theorem tq_flr {a b : Int} (hb : b ≠ 0) : tq a b = flr a b := by
  unfold tq flr
  by_cases h : b < 0
  · obtain ⟨d, rfl⟩ : ∃ d, b = -d := ⟨-b, by omega⟩
    have hd : 0 < d := by omega
    rw [if_pos h, Int.tdiv_neg, Int.tmod_neg, Int.neg_neg]
    by_cases ha : a < 0
    · obtain ⟨c, rfl⟩ : ∃ c, a = -c := ⟨-a, by omega⟩
      rw [if_neg (fun h' => ne_f ha h h'.2), Int.neg_tdiv, Int.neg_neg, Int.neg_neg, (tdivmod_pos (by omega)).1]
    · rw [(tdivmod_pos (by omega)).1, (tdivmod_pos (by omega)).2, neg_div hd]
      by_cases hz : a % d = 0
      · rw [if_neg (by simp [hz]), if_pos hz]
      · rw [if_pos ⟨hz, ne_t' ha h⟩, if_neg hz]
  · have hd : 0 < b := by omega
    rw [if_neg h]
    by_cases ha : a < 0
    · obtain ⟨c, rfl⟩ : ∃ c, a = -c := ⟨-a, by omega⟩
      rw [Int.neg_tdiv, Int.neg_tmod, (tdivmod_pos (a := c) (by omega)).1, (tdivmod_pos (a := c) (by omega)).2, neg_div hd]
      by_cases hz : c % b = 0
      · rw [if_neg (by simp [hz]), if_pos hz]
      · rw [if_pos ⟨by omega, ne_t ha h⟩, if_neg hz]
    · rw [if_neg (fun h' => ne_f' ha h h'.2), (tdivmod_pos (by omega)).1]
/-- The reference's quotient, of a number that is not negative and of one that is, by a positive one. -/
theorem ref_flr {a b : Int} (hb : 0 < b) : -((b - 1 - a) / b) = a / b := by
  have h1 := Int.emod_add_mul_ediv a b
  have h2 := Int.emod_nonneg a (show b ≠ 0 by omega)
  have h3 := Int.emod_lt_of_pos a hb
  generalize hq : a / b = q at *
  generalize hr : a % b = r at *
  rw [show b - 1 - a = (b - 1 - r) + b * (-q) by rw [Int.mul_neg]; omega, Int.add_mul_ediv_left _ _ (by omega), Int.ediv_eq_zero_of_lt (by omega) (by omega)]
  omega
theorem div_small {a b : Int} (hb : 0 < b) (ha : 0 ≤ a) : 0 ≤ a / b ∧ a / b ≤ a := ⟨Int.ediv_nonneg ha (by omega), Int.ediv_le_self _ ha⟩
/-- The quotient and the remainder. -/
theorem flr_rem {a b : Int} (hb : b ≠ 0) : (0 < b → 0 ≤ a - flr a b * b ∧ a - flr a b * b < b) ∧ (b < 0 → a - flr a b * b ≤ 0 ∧ b < a - flr a b * b) := by
  unfold flr
  refine ⟨fun h => ?_, fun h => ?_⟩
  · rw [if_neg (by omega)]
    have h1 := Int.emod_add_mul_ediv a b
    have h2 := Int.emod_nonneg a hb
    have h3 := Int.emod_lt_of_pos a h
    rw [Int.mul_comm] at h1
    omega
  · rw [if_pos h]
    have h1 := Int.emod_add_mul_ediv (-a) (-b)
    have h2 := Int.emod_nonneg (-a) (show -b ≠ 0 by omega)
    have h3 := Int.emod_lt_of_pos (-a) (show 0 < -b by omega)
    rw [Int.neg_mul, Int.mul_comm] at h1
    omega

/-! ### Operators -/
def inR (n : Int) : Bool := decide (-2147483648 ≤ n) && decide (n ≤ 2147483648)
theorem inR_iff (n : Int) : inR n = true ↔ -2147483648 ≤ n ∧ n ≤ 2147483648 := by simp [inR]
theorem inR_not {n : Int} (h : inR n = false) : n < -2147483648 ∨ 2147483648 < n := by
  have h' : ¬ inR n = true := by rw [h]; simp
  rw [inR_iff] at h'
  omega
def acomp (s : List UInt8) (a b : Int) : Int := if s = [43] then a + b else if s = [45] then a - b else if s = [42] then a * b else if s = [47] then flr a b else a - flr a b * b
def zeroB (s : List UInt8) (b : Int) : Bool := decide (b = 0) && (decide (s = [47]) || decide (s = [37]))
def app (s : List UInt8) (a b : Int) : Int × Int :=
  if opB s = false then (0, 7) else if (inR a && inR b) = false then (0, 5) else if zeroB s b = true then (0, 12) else if inR (acomp s a b) = true then (acomp s a b, 0) else (0, 5)
theorem op_cases {s : List UInt8} (h : opB s = true) : s = [43] ∨ s = [45] ∨ s = [42] ∨ s = [47] ∨ s = [37] := by
  simpa [opB, operators] using h
theorem app_codes (s : List UInt8) (a b : Int) : ((app s a b).2 = 0 ∧ inR (app s a b).1 = true) ∨ ((app s a b).1 = 0 ∧ ((app s a b).2 = 5 ∨ (app s a b).2 = 12 ∨ (opB s = false ∧ (app s a b).2 = 7))) := by
  unfold app
  split
  · rename_i h; exact .inr ⟨rfl, .inr (.inr ⟨h, rfl⟩)⟩
  · split
    · exact .inr ⟨rfl, .inl rfl⟩
    · split
      · exact .inr ⟨rfl, .inr (.inl rfl)⟩
      · split
        · rename_i h; exact .inl ⟨rfl, h⟩
        · exact .inr ⟨rfl, .inl rfl⟩
theorem flr_small {a b : Int} (hb : b ≠ 0) {m : Int} (h1 : -m ≤ a) (h2 : a ≤ m) : -m ≤ flr a b ∧ flr a b ≤ m := by
  have key : ∀ c d : Int, 0 < d → -m ≤ c → c ≤ m → -m ≤ c / d ∧ c / d ≤ m := by
    intro c d hd l1 l2
    by_cases hc : 0 ≤ c
    · have := div_small hd hc; omega
    · obtain ⟨e, rfl⟩ : ∃ e, c = -e := ⟨-c, by omega⟩
      rw [neg_div hd]
      have := div_small hd (show 0 ≤ e by omega)
      have hx := Int.emod_add_mul_ediv e d
      have h0 : 0 ≤ e / d := this.1
      split
      · omega
      · rename_i hz
        have hr1 := Int.emod_nonneg e (show d ≠ 0 by omega)
        have hle : e / d ≤ d * (e / d) := by
          have := Int.mul_le_mul_of_nonneg_right (show (1 : Int) ≤ d by omega) h0
          omega
        omega
  unfold flr
  by_cases h : b < 0
  · rw [if_pos h]; exact key _ _ (by omega) (by omega) (by omega)
  · rw [if_neg h]; exact key _ _ (by omega) h1 h2

/-! ### Values -/
def comb (s : List UInt8) : List (Int × Int) → Int × Int
  | [x, y] => if x.2 ≠ 0 then (0, x.2) else if y.2 ≠ 0 then (0, y.2) else app s x.1 y.1
  | _ => (0, 11)
mutual
def Tm.eval : Tm → Int × Int
  | .mk k n s _ _ a => if k = 0 then (if inR n = true then (n, 0) else (0, 5)) else if k = 1 then (0, 17) else if k = 2 ∧ opB s.data.toList = true then comb s.data.toList (evalL a) else (0, 11)
def evalL : List Tm → List (Int × Int)
  | [] => []
  | t :: r => t.eval :: evalL r
end
theorem evalL_map (l : List Tm) : evalL l = l.map Tm.eval := by
  induction l with
  | nil => rfl
  | cons t r ih => simp [evalL, ih]
theorem evalL_length (l : List Tm) : (evalL l).length = l.length := by simp [evalL_map]
theorem comb_two {s : List UInt8} {l : List (Int × Int)} (h : (comb s l).2 ≠ 11 ∨ True) (hl : l.length ≠ 2) : comb s l = (0, 11) := by
  match l, hl with
  | [], _ => rfl
  | [_], _ => rfl
  | [_, _], hl => exact absurd rfl hl
  | _ :: _ :: _ :: _, _ => rfl
theorem eval_fun {n : Int} {s : ByteArray} {A : Option Addr} {c : Nat} {x y : Tm} (h : opB s.data.toList = true) :
    (Tm.mk 2 n s A c [x, y]).eval = if x.eval.2 ≠ 0 then (0, x.eval.2) else if y.eval.2 ≠ 0 then (0, y.eval.2) else app s.data.toList x.eval.1 y.eval.1 := by
  simp [Tm.eval, h, evalL, comb]
/-- What a value can be. -/
def Codes (p : Int × Int) : Prop := (p.2 = 0 ∧ inR p.1 = true) ∨ (p.1 = 0 ∧ (p.2 = 5 ∨ p.2 = 11 ∨ p.2 = 12 ∨ p.2 = 17))
theorem eval_codes : (∀ t : Tm, Codes t.eval) ∧ (∀ l, ∀ p ∈ evalL l, Codes p) := by
  refine Tm.induct2 (fun k n s A c a ih => ?_) (fun p h => by cases h) (fun t r h1 h2 p h => ?_)
  · simp only [Tm.eval]
    split
    · split
      · rename_i h; exact .inl ⟨rfl, h⟩
      · exact .inr ⟨rfl, .inl rfl⟩
    · split
      · exact .inr ⟨rfl, by simp⟩
      · split
        · rename_i h
          match evalL a, ih with
          | [], _ => exact .inr ⟨rfl, by simp [comb]⟩
          | [_], _ => exact .inr ⟨rfl, by simp [comb]⟩
          | _ :: _ :: _ :: _, _ => exact .inr ⟨rfl, by simp [comb]⟩
          | [x, y], ih =>
            simp only [comb]
            split
            · rename_i hx
              rcases ih x (by simp) with h' | h'
              · exact absurd h'.1 hx
              · exact .inr ⟨rfl, h'.2⟩
            · split
              · rename_i _ hy
                rcases ih y (by simp) with h' | h'
                · exact absurd h'.1 hy
                · exact .inr ⟨rfl, h'.2⟩
              · rcases app_codes s.data.toList x.1 y.1 with h' | ⟨h1, h' | h' | h'⟩
                · exact .inl h'
                · exact .inr ⟨h1, .inl h'⟩
                · exact .inr ⟨h1, .inr (.inr (.inl h'))⟩
                · exact absurd h.2 (by simp [h'.1])
        · exact .inr ⟨rfl, by simp⟩
  · simp only [evalL, List.mem_cons] at h
    rcases h with rfl | h
    · exact h1
    · exact h2 p h

theorem eval_strip : (∀ t : Tm, t.strip.eval = t.eval) ∧ (∀ l, evalL (stripL l) = evalL l) := by
  refine Tm.induct2 (fun k n s A c a ih => ?_) rfl (fun t r h1 h2 => ?_)
  · simp only [Tm.strip, Tm.eval, ih]
  · simp only [stripL, evalL, h1, h2]
theorem eval_same {t u : Tm} (h : t.strip = u.strip) : t.eval = u.eval := by rw [← eval_strip.1 t, h, eval_strip.1]
end Go.Proofs.YtelkmnjoboekmaaGreat
namespace Go.Proofs.YtelkmnjoboekmaaGreat
open Go

/-! ### The equations of a store -/
def vrs (b : List Bd) : List Tm := b.map fun x => vr x.var
def tms (b : List Bd) : List Tm := b.map Bd.tm
def eqsB (b : List Bd) : List (Tm × Tm) := b.map fun x => (vr x.var, x.tm)
theorem zip_eqs (b : List Bd) : (vrs b).zip (tms b) = eqsB b := by
  induction b with
  | nil => rfl
  | cons x r ih => simp only [vrs, tms, eqsB, List.map_cons, List.zip_cons_cons] at ih ⊢; rw [ih]
theorem vrs_len (b : List Bd) : (vrs b).length = b.length := by simp [vrs]
theorem tms_len (b : List Bd) : (tms b).length = b.length := by simp [tms]
theorem vr_right {n : Int} (h0 : 0 ≤ n) (h1 : n ≤ 1048576) : (vr n).right = true := by
  unfold Tm.right
  rw [vr_form h0 h1]
  rfl
theorem vrs_right {b : List Bd} (h : rightS b = true) : (vrs b).all Tm.right = true := by
  rw [List.all_eq_true]
  intro t ht
  obtain ⟨x, hx, rfl⟩ := List.mem_map.1 ht
  have := ((rightS_iff b).1 h).1.1 x hx
  exact vr_right this.1 this.2.1
theorem tms_right {b : List Bd} (h : rightS b = true) : (tms b).all Tm.right = true := by
  rw [List.all_eq_true]
  intro t ht
  obtain ⟨x, hx, rfl⟩ := List.mem_map.1 ht
  exact (((rightS_iff b).1 h).1.1 x hx).2.2
theorem unif_eqs {b : List Bd} {f : Int → Tm} : Unif (eqsB b) f ↔ ∀ x ∈ b, f x.var = x.tm.sub f := by
  constructor
  · intro h x hx
    have := h _ (List.mem_map.2 ⟨x, hx, rfl⟩)
    simpa [vr, Tm.sub] using this
  · intro h p hp
    obtain ⟨x, hx, rfl⟩ := List.mem_map.1 hp
    simpa [vr, Tm.sub] using h x hx
theorem unif_cons {p : Tm × Tm} {E : List (Tm × Tm)} {f : Int → Tm} : Unif (p :: E) f ↔ p.1.sub f = p.2.sub f ∧ Unif E f := by simp [Unif]
theorem unif_append {E F : List (Tm × Tm)} {f : Int → Tm} : Unif (E ++ F) f ↔ Unif E f ∧ Unif F f := by simp [Unif, or_imp, forall_and]
theorem sub_sub (f g : Int → Tm) : (∀ t : Tm, (t.sub g).sub f = t.sub fun v => (g v).sub f) ∧ (∀ l, subL f (subL g l) = subL (fun v => (g v).sub f) l) := by
  refine Tm.induct2 (fun k n s A c a ih => ?_) rfl (fun t r h1 h2 => ?_)
  · simp only [Tm.sub]
    split
    · rfl
    · rename_i hk
      simp only [Tm.sub, if_neg hk, ih]
  · simp only [subL, h1, h2]
/-- A solved form has the unifiers of the equations that it solves. -/
theorem Sol.told {E : List (Tm × Tm)} {m : List Bd} (h : Sol E m) (f : Int → Tm) : Unif (eqsB m) f ↔ Unif E f := by
  constructor
  · intro hf
    rw [unif_eqs] at hf
    have hv : (fun v => (subOf m v).sub f) = f := by
      funext v
      cases hl : look m v with
      | none => rw [subOf_none hl]; simp [vr, Tm.sub]
      | some t =>
        obtain ⟨x, hx, rfl, rfl⟩ := look_some hl
        rw [subOf_mem h hx]
        exact (hf x hx).symm
    intro p hp
    have := congrArg (Tm.sub f) (h.unif p hp)
    rwa [(sub_sub f _).1, (sub_sub f _).1, hv] at this
  · intro hf
    exact unif_eqs.2 (h.gen f hf)
theorem eqs_strip (b : List Bd) (f : Int → Tm) : Unif (eqsB (stripB b)) f ↔ Unif (eqsB b) f := by
  rw [unif_eqs, unif_eqs]
  simp only [stripB, List.mem_map, forall_exists_index, and_imp, forall_apply_eq_imp_iff₂, Bd.strip, (sub_strip f).1]
theorem eqs_like {b b' : List Bd} (h : stripB b = stripB b') (f : Int → Tm) : Unif (eqsB b) f ↔ Unif (eqsB b') f := by rw [← eqs_strip, h, eqs_strip]
theorem Out.like {E F : List (Tm × Tm)} (he : ∀ f, Unif E f ↔ Unif F f) {m : List Bd} {e : Int} (h : Out E m e) : Out F m e := by
  rcases h with ⟨h1, h2, h3⟩ | ⟨s, hs, h⟩
  · exact .inl ⟨h1, h2, fun f hf => h3 f ((he f).2 hf)⟩
  · exact .inr ⟨s, hs.of_unif he, h⟩

/-! ### Telling -/
/-- The variables of a store that another one does not have. -/
def freshL (b c : List Bd) : List Int := (c.filter fun x => (look b x.var).isNone).map Bd.var
theorem freshL_strip (b c : List Bd) : freshL (stripB b) (stripB c) = freshL b c := by
  unfold freshL stripB
  rw [List.filter_map, List.map_map]
  have h1 : (fun x : Bd => (look (List.map Bd.strip b) x.var).isNone) ∘ Bd.strip = fun x => (look b x.var).isNone := by
    funext x
    have := look_strip b x.var
    unfold stripB at this
    simp only [Function.comp, Bd.strip, this]
    cases look b x.var <;> rfl
  rw [h1]
  rfl
theorem freshL_like {b b' c c' : List Bd} (hb : stripB b = stripB b') (hc : stripB c = stripB c') : freshL b c = freshL b' c' := by rw [← freshL_strip, hb, hc, freshL_strip]
theorem freshL_next (b : List Bd) {c : List Bd} {k : Nat} (h : k < c.length) : freshL b (c.take (k + 1)) = freshL b (c.take k) ++ (if (look b (c.getD k default).var).isNone = true then [(c.getD k default).var] else []) := by
  unfold freshL
  rw [btake_next h, List.filter_append, List.map_append]
  congr 1
  simp only [List.filter_cons, List.filter_nil]
  split <;> rfl
/-- What Tell answers: the solved form (its terms without addresses), the bound variables and the code. -/
def TellOut (b : List Bd) (s t : Tm) (m : List Bd) (l : List Int) (e : Int) : Prop :=
  if (rightS b && (s.right && t.right)) = false then m = [] ∧ l = [] ∧ e = 2
  else Out ((s, t) :: eqsB b) m e ∧ l = if e = 0 then freshL b m else []
theorem TellOut.unique {b : List Bd} {s t : Tm} {m n : List Bd} {l k : List Int} {e h : Int} (h1 : TellOut b s t m l e) (h2 : TellOut b s t n k h) : m = n ∧ l = k ∧ e = h := by
  unfold TellOut at h1 h2
  split at h1
  · rename_i hr
    rw [if_pos hr] at h2
    exact ⟨h1.1.trans h2.1.symm, h1.2.1.trans h2.2.1.symm, h1.2.2.trans h2.2.2.symm⟩
  · rename_i hr
    rw [if_neg hr] at h2
    obtain ⟨rfl, rfl⟩ := h1.1.unique h2.1
    exact ⟨rfl, h1.2.trans h2.2.symm, rfl⟩
theorem TellOut.arg {b : List Bd} {s t : Tm} (h : (rightS b && (s.right && t.right)) = false) : TellOut b s t [] [] 2 := by unfold TellOut; rw [if_pos h]; exact ⟨rfl, rfl, rfl⟩
theorem TellOut.of {b : List Bd} {s t : Tm} {m : List Bd} {e : Int} (h : (rightS b && (s.right && t.right)) = true) (ho : Out ((s, t) :: eqsB b) m e) : TellOut b s t m (if e = 0 then freshL b m else []) e := by
  unfold TellOut; rw [if_neg (by rw [h]; simp)]; exact ⟨ho, rfl⟩
theorem Out.zero {E : List (Tm × Tm)} {m : List Bd} (h : Out E m 0) : Sol E m ∧ allRight m = true := by
  rcases h with ⟨_, h, _⟩ | ⟨s, hs, ⟨h1, rfl, _⟩ | ⟨_, _, h⟩⟩
  · exact absurd h (by decide)
  · exact ⟨hs, h1⟩
  · exact absurd h (by decide)
theorem Out.none {E : List (Tm × Tm)} {m : List Bd} {e : Int} (h : Out E m e) (he : e ≠ 0) : m = [] := by
  rcases h with ⟨h, _, _⟩ | ⟨s, hs, ⟨_, _, h⟩ | ⟨_, h, _⟩⟩
  · exact h
  · exact absurd h he
  · exact h
theorem Out.refuted {E : List (Tm × Tm)} {m : List Bd} {e : Int} (h : Out E m e) : e = 13 ↔ ∀ f, ¬ Unif E f := by
  rcases h with ⟨_, h, hn⟩ | ⟨s, hs, h⟩
  · exact ⟨fun _ => hn, fun _ => h⟩
  · refine ⟨fun h13 => ?_, fun hn => absurd hs.unif (hn _)⟩
    rcases h with ⟨_, _, h⟩ | ⟨_, _, h⟩ <;> (rw [h] at h13; exact absurd h13 (by decide))
theorem TellOut.zero {b : List Bd} {s t : Tm} {m : List Bd} {l : List Int} (h : TellOut b s t m l 0) : rightS b = true ∧ s.right = true ∧ t.right = true ∧ Sol ((s, t) :: eqsB b) m ∧ allRight m = true ∧ l = freshL b m := by
  unfold TellOut at h
  split at h
  · exact absurd h.2.2 (by decide)
  · rename_i hr
    have hr' : rightS b = true ∧ s.right = true ∧ t.right = true := by simpa using hr
    obtain ⟨h1, h2⟩ := h
    exact ⟨hr'.1, hr'.2.1, hr'.2.2, h1.zero.1, h1.zero.2, by rw [h2, if_pos rfl]⟩
theorem sol_rightS {E : List (Tm × Tm)} {m : List Bd} (h : Sol E m) (hr : allRight m = true) : rightS m = true := by
  rw [rightS_iff]
  refine ⟨⟨fun x hx => ?_, h.asc⟩, h.apart⟩
  exact ⟨(h.cl x hx).2.2.1, (h.cl x hx).2.2.2, List.all_eq_true.1 hr x hx⟩
/-- Two equations that can be told in both orders lead to the same store. -/
theorem tell_order {b c d x y : List Bd} {s s' t t' : Tm} {l1 l2 l3 l4 : List Int} {g h : Int} (h1 : TellOut b s s' (stripB c) l1 0) (h2 : TellOut b t t' (stripB d) l2 0) (h3 : TellOut c t t' x l3 g) (h4 : TellOut d s s' y l4 h) : x = y ∧ g = h := by
  obtain ⟨_, rs, rs', S1, A1, _⟩ := h1.zero
  obtain ⟨_, rt, rt', S2, A2, _⟩ := h2.zero
  have rc : rightS c = true := by rw [← rightS_strip]; exact sol_rightS S1 A1
  have rd : rightS d = true := by rw [← rightS_strip]; exact sol_rightS S2 A2
  unfold TellOut at h3 h4
  rw [if_neg (by simp [rc, rt, rt'])] at h3
  rw [if_neg (by simp [rd, rs, rs'])] at h4
  refine h3.1.unique (h4.1.like fun f => ?_)
  have e1 := S1.told f
  have e2 := S2.told f
  rw [eqs_strip] at e1 e2
  rw [unif_cons, unif_cons, e1, e2, unif_cons, unif_cons]
  simp only
  constructor
  · rintro ⟨a, b, c⟩; exact ⟨b, a, c⟩
  · rintro ⟨a, b, c⟩; exact ⟨b, a, c⟩

/-! ### Values and comparisons -/
/-- What TellIs answers; V: the value and the code of the expression under the store. -/
def IsOut (b : List Bd) (s t : Tm) (m : List Bd) (l : List Int) (e : Int) : Prop :=
  if (rightS b && (s.right && t.right)) = false then m = [] ∧ l = [] ∧ e = 2
  else if (t.app b).eval.2 ≠ 0 then m = [] ∧ l = [] ∧ e = (t.app b).eval.2
  else TellOut b s (.mk 0 (t.app b).eval.1 ByteArray.empty none 0 []) m l e
theorem IsOut.unique {b : List Bd} {s t : Tm} {m n : List Bd} {l k : List Int} {e h : Int} (h1 : IsOut b s t m l e) (h2 : IsOut b s t n k h) : m = n ∧ l = k ∧ e = h := by
  unfold IsOut at h1 h2
  split at h1
  · rename_i hr
    rw [if_pos hr] at h2
    exact ⟨h1.1.trans h2.1.symm, h1.2.1.trans h2.2.1.symm, h1.2.2.trans h2.2.2.symm⟩
  · rename_i hr
    rw [if_neg hr] at h2
    split at h1
    · rename_i hv
      rw [if_pos hv] at h2
      exact ⟨h1.1.trans h2.1.symm, h1.2.1.trans h2.2.1.symm, h1.2.2.trans h2.2.2.symm⟩
    · rename_i hv
      rw [if_neg hv] at h2
      exact h1.unique h2
/-- What Equal answers: 0 unknown, 1 entailed, 2 refuted. -/
def EqOut (b : List Bd) (s t : Tm) (r : Int) : Prop :=
  if (rightS b && (s.right && t.right)) = false then r = 0
  else if (cmpT (s.app b) (t.app b) == 0) = true then r = 1
  else (r = 2 ∧ ∀ f, ¬ Unif ((s, t) :: eqsB b) f) ∨ (r = 0 ∧ ∃ f, Unif ((s, t) :: eqsB b) f)
theorem EqOut.unique {b : List Bd} {s t : Tm} {r q : Int} (h1 : EqOut b s t r) (h2 : EqOut b s t q) : r = q := by
  unfold EqOut at h1 h2
  split at h1
  · rename_i hr
    rw [if_pos hr] at h2
    exact h1.trans h2.symm
  · rename_i hr
    rw [if_neg hr] at h2
    split at h1
    · rename_i hv
      rw [if_pos hv] at h2
      exact h1.trans h2.symm
    · rename_i hv
      rw [if_neg hv] at h2
      rcases h1 with ⟨rfl, h1⟩ | ⟨rfl, f, h1⟩ <;> rcases h2 with ⟨rfl, h2⟩ | ⟨rfl, g, h2⟩
      · rfl
      · exact absurd h2 (h1 g)
      · exact absurd h1 (h2 f)
      · rfl

/-! ### How large a solved form is -/
def occE (E : List (Tm × Tm)) : List Int := E.flatMap fun p => p.1.occ ++ p.2.occ
theorem sub_same {f g : Int → Tm} : (∀ t : Tm, t.form = true → (∀ v ∈ t.occ, f v = g v) → t.sub f = t.sub g) ∧ (∀ l, formL l = true → (∀ v ∈ occL l, f v = g v) → subL f l = subL g l) := by
  refine Tm.induct2 (fun k n s A c a ih h ho => ?_) (fun _ _ => rfl) (fun t r h1 h2 h ho => ?_)
  · have ha := form_args h
    simp only [Tm.kind, Tm.args] at ha
    simp only [Tm.sub]
    split
    · rename_i hk
      exact ho n (by simp [Tm.occ, hk])
    · rename_i hk
      rw [ih ha.2 fun v hv => ho v ?_]
      by_cases h2 : k = 2
      · simpa [Tm.occ, hk, h2] using hv
      · rw [ha.1 h2] at hv; cases hv
  · simp only [formL, Bool.and_eq_true] at h
    simp only [occL, List.mem_append] at ho
    simp only [subL, h1 h.1 fun v hv => ho v (.inl hv), h2 h.2 fun v hv => ho v (.inr hv)]
theorem Sol.occ {E : List (Tm × Tm)} {m : List Bd} (h : Sol E m) (hf : ∀ p ∈ E, p.1.form = true ∧ p.2.form = true) {x : Bd} (hx : x ∈ m) : x.var ∈ occE E := by
  apply Classical.byContradiction
  intro hn
  let T : Tm := .mk 0 0 ByteArray.empty none 0 [x.tm.sub (subOf m)]
  let g : Int → Tm := fun v => if v = x.var then T else subOf m v
  have hg : ∀ v, v ≠ x.var → g v = subOf m v := fun v hv => if_neg hv
  have ho : ∀ p ∈ E, (∀ v ∈ p.1.occ, g v = subOf m v) ∧ ∀ v ∈ p.2.occ, g v = subOf m v := fun p hp =>
    ⟨fun v hv => hg v fun e => hn (List.mem_flatMap.2 ⟨p, hp, List.mem_append.2 (.inl (e ▸ hv))⟩), fun v hv => hg v fun e => hn (List.mem_flatMap.2 ⟨p, hp, List.mem_append.2 (.inr (e ▸ hv))⟩)⟩
  have hu : Unif E g := fun p hp => by
    rw [sub_same.1 p.1 (hf p hp).1 (ho p hp).1, sub_same.1 p.2 (hf p hp).2 (ho p hp).2]
    exact h.unif p hp
  have he := h.gen g hu x hx
  have hx' : x.tm.sub g = x.tm.sub (subOf m) := sub_same.1 x.tm (h.cl x hx).2.1 fun v hv => hg v fun e => by
    have h1 := h.apart x hx v hv
    rw [e, look_mem h.asc.dis hx] at h1
    cases h1
  rw [hx', show g x.var = T from if_pos rfl] at he
  have := congrArg Tm.nodes he
  simp only [T, Tm.nodes, nodesL] at this
  omega
theorem nodup_bi {l m : List Int} (h : l.Nodup) (hs : ∀ x ∈ l, x ∈ m) : l.length ≤ m.length := by
  induction l generalizing m with
  | nil => exact Nat.zero_le _
  | cons x r ih =>
    have hp := List.nodup_cons.1 h
    have hx := hs x (by simp)
    have := ih (m := m.erase x) hp.2 fun y hy => (List.mem_erase_of_ne (show y ≠ x from fun e => hp.1 (by rw [← e]; exact hy))).2 (hs y (by simp [hy]))
    rw [List.length_erase_of_mem hx] at this
    have := List.length_pos_of_mem hx
    simp only [List.length_cons]
    omega
theorem Sol.len {E : List (Tm × Tm)} {m : List Bd} (h : Sol E m) (hf : ∀ p ∈ E, p.1.form = true ∧ p.2.form = true) : m.length ≤ (occE E).length := by
  have := nodup_bi (l := m.map Bd.var) (m := occE E) (by
    unfold List.Nodup
    rw [List.pairwise_map]
    exact h.asc.imp fun h e => by omega) fun v hv => by
      obtain ⟨x, hx, rfl⟩ := List.mem_map.1 hv
      exact h.occ hf hx
  simpa using this
theorem occ_sz : (∀ t : Tm, t.occ.length ≤ t.size) ∧ (∀ l, (occL l).length ≤ sizeL l) := by
  refine Tm.induct2 (fun k n s A c a ih => ?_) (by simp [occL]) (fun t r h1 h2 => ?_)
  · simp only [Tm.occ, Tm.size]
    by_cases h1 : k = 1
    · simp [h1]
    · by_cases h2 : k = 2
      · simp only [h2, if_neg (show (2 : Int) ≠ 1 by decide), if_true]
        omega
      · simp [h1, h2]
  · simp only [occL, sizeL, List.length_append]; omega
theorem right_occ {t : Tm} (h : t.right = true) : t.form = true ∧ t.occ.length ≤ 200 := by
  simp only [Tm.right, Bool.and_eq_true, decide_eq_true_eq] at h
  have := occ_sz.1 t
  exact ⟨h.1, by omega⟩
theorem occE_eqs {b : List Bd} (h : rightS b = true) : (occE (eqsB b)).length ≤ 201 * b.length := by
  have h1 : ∀ x ∈ b, x.tm.right = true := fun x hx => (((rightS_iff b).1 h).1.1 x hx).2.2
  clear h
  induction b with
  | nil => simp [eqsB, occE]
  | cons x r ih =>
    have h2 := ih fun y hy => h1 y (by simp [hy])
    have h3 := (right_occ (h1 x (by simp))).2
    simp only [eqsB, occE, List.map_cons, List.flatMap_cons, List.length_append, List.length_cons] at h2 ⊢
    have h4 : (vr x.var).occ.length = 1 := by simp [vr, Tm.occ]
    omega
/-- A store that Tell returned has at most so many bindings. -/
theorem tell_len {b c : List Bd} {s t : Tm} {l : List Int} (h : TellOut b s t (stripB c) l 0) : c.length ≤ 400 + 201 * b.length := by
  obtain ⟨hb, hs, ht, S, _, _⟩ := h.zero
  have h1 := S.len fun p hp => by
    rcases List.mem_cons.1 hp with rfl | hp
    · exact ⟨(right_occ hs).1, (right_occ ht).1⟩
    · obtain ⟨x, hx, rfl⟩ := List.mem_map.1 hp
      have := ((rightS_iff b).1 hb).1.1 x hx
      exact ⟨vr_form this.1 this.2.1, (right_occ this.2.2).1⟩
  have h2 := occE_eqs hb
  have h3 := (right_occ hs).2
  have h4 := (right_occ ht).2
  rw [stripB_len] at h1
  simp only [occE, List.flatMap_cons, List.length_append] at h1 h2
  omega
theorem nodesL_mul {l : List Tm} {k : Nat} (h : ∀ t ∈ l, t.nodes ≤ k) : nodesL l ≤ k * l.length := by
  induction l with
  | nil => simp [nodesL]
  | cons t r ih =>
    have h1 := ih fun x hx => h x (by simp [hx])
    have h2 := h t (by simp)
    simp only [nodesL, List.length_cons]
    have : k * (r.length + 1) = k * r.length + k := Nat.mul_succ _ _
    omega
end Go.Proofs.YtelkmnjoboekmaaGreat
namespace Go.Proofs.YtelkmnjoboekmaaGreat
open Go.RowKit

theorem own_lst {lo : Nat} {W : World} {A : Option Addr} {c : Nat} {acc : List Tm} (h : W.ownsRow lo 26 4 (.slice A acc.length c) acc.length (tcells acc)) (hx : ∀ x ∈ acc, x.At W) : Lst W A acc c :=
  RowT.lies (B := fun V => V = W) (lo := lo) (w := W) ⟨h, fun x h1 V e _ => by rw [e]; exact hx x h1⟩ W rfl (Agree.refl _ _ _)
/-- TwoRow rows of the call's own. -/
structure TwoRow (w wr : World) (zl zm : Value) (la lb : List Tm) : Prop where
  a : wr.ownsRow w.heap.size 26 4 zl la.length (tcells la)
  b : wr.ownsRow w.heap.size 26 4 zm lb.length (tcells lb)
  ne : zl.ownBlock = none ∨ zl.ownBlock ≠ zm.ownBlock
  ext : Ext w wr
section
variable {w wr w3 w4 : World} {zl zm : Value} {la lb : List Tm}
theorem TwoRow.below (h : TwoRow w wr zl zm la lb) (hb : Ext wr w3) : TwoRow w w3 zl zm la lb := ⟨own_below h.a hb, own_below h.b hb, h.ne, h.ext.trans hb⟩
theorem TwoRow.nextA {g cap : Nat} {u : Tm} (h : TwoRow w w3 zl zm la lb)
    (hown : w4.ownsRow w.heap.size 26 4 (.slice (some ⟨g, 0, none⟩) (la.length + 1) cap) (la.length + 1) (tcells la ++ u.cells)) (hg : w3.grownBy w4 zl.ownBlock) (hat : zl.ownBlock = some g ∨ g = w3.heap.size) :
    TwoRow w w4 (.slice (some ⟨g, 0, none⟩) (la.length + 1) cap) zm (la ++ [u]) lb := by
  have hlb := own_lt h.b
  refine ⟨by rw [List.length_append, tcells_append]; simpa [tcells] using hown, h.b.kept hg ?_, ?_, ?_⟩
  · rcases h.ne with e | e
    · cases hz : zm.ownBlock with
      | none => exact .inl rfl
      | some k => exact .inr (by rw [e]; simp)
    · exact .inr (Ne.symm e)
  · refine .inr fun e => ?_
    have e' : some g = zm.ownBlock := e
    rcases hat with h1 | h1
    · rcases h.ne with h2 | h2
      · rw [h2] at h1; cases h1
      · exact h2 (h1.trans e')
    · have := (hlb g e'.symm).2
      omega
  · exact Below.grown h.ext hg (by exact h.ext.size) (fun k hk => (own_lt h.a k hk).1)
theorem TwoRow.swap (h : TwoRow w wr zl zm la lb) : TwoRow w wr zm zl lb la := ⟨h.b, h.a, by
  rcases h.ne with e | e
  · cases hz : zm.ownBlock with
    | none => exact .inl rfl
    | some k => exact .inr (by rw [e]; simp)
  · exact .inr (Ne.symm e), h.ext⟩
theorem TwoRow.nextB {g cap : Nat} {u : Tm} (h : TwoRow w w3 zl zm la lb)
    (hown : w4.ownsRow w.heap.size 26 4 (.slice (some ⟨g, 0, none⟩) (lb.length + 1) cap) (lb.length + 1) (tcells lb ++ u.cells)) (hg : w3.grownBy w4 zm.ownBlock) (hat : zm.ownBlock = some g ∨ g = w3.heap.size) :
    TwoRow w w4 zl (.slice (some ⟨g, 0, none⟩) (lb.length + 1) cap) la (lb ++ [u]) := (h.swap.nextA hown hg hat).swap
theorem own_form {lo : Nat} {e : TypeId} {z : Value} {n : Nat} {xs : List Value} (h : wr.ownsRow lo e 4 z n xs) : ∃ A c, z = .slice A n c := by
  rcases h.2 with ⟨rfl, h1⟩ | ⟨g, cap, cur, rfl, _⟩
  · exact ⟨none, 0, by rw [h1]⟩
  · exact ⟨_, cap, rfl⟩
theorem TwoRow.lsts (h : TwoRow w wr zl zm la lb) (ha : ∀ x ∈ la, x.At w) (hb : ∀ x ∈ lb, x.At w) : ∃ A c B d, zl = .slice A la.length c ∧ zm = .slice B lb.length d ∧ Lst wr A la c ∧ Lst wr B lb d := by
  obtain ⟨A, c, rfl⟩ := own_form h.a
  obtain ⟨B, d, rfl⟩ := own_form h.b
  exact ⟨A, c, B, d, rfl, rfl, own_lst h.a fun x hx => (ha x hx).below h.ext, own_lst h.b fun x hx => (hb x hx).below h.ext⟩
end
/-- A row of one term that was just laid. -/
theorem own_one {lo : Nat} {w : World} (hb : lo ≤ w.heap.size) (u : Tm) : (w.alloc (.cells #[.int .i64 u.kind, .int .i64 u.num, .string u.name, .slice u.at_ u.args.length u.cap] 26)).ownsRow lo 26 4 (.slice (some ⟨w.heap.size, 0, none⟩) 1 1) 1 (tcells [u]) := by
  refine ⟨rfl, .inr ⟨w.heap.size, 1, #[.int .i64 u.kind, .int .i64 u.num, .string u.name, .slice u.at_ u.args.length u.cap], rfl, hb, ?_, Nat.le_refl _, by unfold maxLen; omega, rfl, ?_⟩⟩
  · exact heap_alloc_new w _
  · simp [tcells, Tm.cells]
theorem two_start {w W : World} (hb : Ext w W) (s t : Tm) :
    TwoRow w ((W.alloc (.cells #[.int .i64 s.kind, .int .i64 s.num, .string s.name, .slice s.at_ s.args.length s.cap] 26)).alloc (.cells #[.int .i64 t.kind, .int .i64 t.num, .string t.name, .slice t.at_ t.args.length t.cap] 26)) (.slice (some ⟨W.heap.size, 0, none⟩) 1 1) (.slice (some ⟨W.heap.size + 1, 0, none⟩) 1 1) [s] [t] := by
  have h1 := own_one hb.size s
  have h2 := own_one (lo := w.heap.size) (w := W.alloc (.cells #[.int .i64 s.kind, .int .i64 s.num, .string s.name, .slice s.at_ s.args.length s.cap] 26)) (by have := hb.size; simp; omega) t
  rw [World.size_alloc] at h2
  exact ⟨h1.alloc _, h2, .inr (by simp [Value.ownBlock]), hb.trans ((Ext.al _ _).trans (Ext.al _ _))⟩
theorem vrs_at {b : List Bd} {w : World} (h : ∀ x ∈ b, Fits x.var) : ∀ x ∈ vrs b, x.At w := fun t ht => by
  obtain ⟨x, hx, rfl⟩ := List.mem_map.1 ht
  exact var_at w (h x hx)
theorem vrs_next {b : List Bd} {j : Nat} (h : j < b.length) : vrs (b.take (j + 1)) = vrs (b.take j) ++ [vr (b.getD j default).var] := by unfold vrs; rw [btake_next h, List.map_append]; rfl
theorem tms_next {b : List Bd} {j : Nat} (h : j < b.length) : tms (b.take (j + 1)) = tms (b.take j) ++ [(b.getD j default).tm] := by unfold tms; rw [btake_next h, List.map_append]; rfl
end Go.Proofs.YtelkmnjoboekmaaGreat
