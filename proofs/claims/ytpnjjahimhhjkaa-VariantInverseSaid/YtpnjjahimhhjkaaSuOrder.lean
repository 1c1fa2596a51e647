/-
  Contracts of slices.IsSortedFunc (at bindings), inOrder (of a list in ascending order) and Apply of the program.
-/
import Derived.Test.YtpnjjahimhhjkaaSuApply
namespace Go.Proofs.Ytpnjjahimhhjkaa
open Go.RowKit Go.Sort

/-- In ascending order, with repeats, step by step. -/
def srtB (l : List Bd) : Bool := (List.range (l.length - 1)).all fun i => decide ((l.getD i default).var ≤ (l.getD (i + 1) default).var)
theorem srtB_iff (l : List Bd) : srtB l = true ↔ Srt l := by
  simp only [srtB, List.all_eq_true, List.mem_range, decide_eq_true_eq]
  constructor
  · intro h i j hij hj
    induction j with
    | zero => obtain rfl : i = 0 := by omega
              exact Int.le_refl _
    | succ j ih =>
      rcases Nat.lt_or_ge i (j + 1) with h1 | h1
      · exact Int.le_trans (ih (by omega) (by omega)) (h j (by omega))
      · obtain rfl : i = j + 1 := by omega
        exact Int.le_refl _
  · intro h i hi
    exact h i (i + 1) (by omega) (by omega)
theorem srtB_not {l : List Bd} {i : Nat} (hi : i + 1 < l.length) (h : (l.getD (i + 1) default).var < (l.getD i default).var) : srtB l = false := by
  unfold srtB
  rw [List.all_eq_false]
  exact ⟨i, by simp; omega, fun hc => by have := of_decide_eq_true hc; omega⟩
theorem boxedB (w : World) (x : Bd) : (w.alloc (boxB x)).cell? ⟨w.heap.size, 0, none⟩ = some (.int .i64 x.var) := World.cell?_alloc_at _ _ _ _ rfl

theorem compare_vars_below (x y : Bd) (w : World) {r : Int} (hr : ints x.var y.var = r) : Calls Try.prog 79 #[x.val, y.val] w fun e w' => e = .returned (.int .i64 r) ∧ Below w.heap.size w w' :=
  (compare_vars_at x y w).mono (by
    rintro e w' ⟨rfl, rfl⟩
    exact ⟨by rw [hr], below2 _ _ _⟩)

set_option maxHeartbeats 4000000 in
theorem is_sorted_at (l : List Bd) (A : Option Addr) (c : Nat) (w : World) (hl : BLst w A l c) (hlen : l.length ≤ 1000000) :
    Calls Try.prog 78 #[.slice A l.length c, .func (.func 79) #[] #[]] w fun e w' => e = .returned (.bool (srtB l)) ∧ Below w.heap.size w w' := by
  have HL := Lib.hid hl
  clear hl
  go_enter Try.func78, Try.ntmps78
  go_wp2_with fail
  go_loopw [5] (fun s5 wr => ∃ (k : Nat) (m : Int), k ≤ l.length ∧ m = (k : Int) - 1 ∧ s5 = .int .i64 m ∧ Hid (∀ t, k ≤ t + 1 → t + 1 < l.length → (l.getD t default).var ≤ (l.getD (t + 1) default).var) ∧ Below w.heap.size w wr) (fun s5 _ => (intOf s5).toNat)
  case atStart => exact ⟨l.length, _, Nat.le_refl _, rfl, rfl, Lib.hid (fun t h1 h2 => by omega), Below.refl _ _⟩
  case round =>
    obtain ⟨k, m, hk, hm, rfl, HF, hbw⟩ := hrel
    by_cases h2 : 2 ≤ k
    · obtain ⟨kp, rfl⟩ : ∃ kp, k = kp + 2 := ⟨k - 2, by omega⟩
      obtain rfl : m = (kp : Int) + 1 := by omega
      obtain ⟨b, o, rfl, ⟨c0, c1, c2, c3, c4⟩, _⟩ := (HL.out.below hbw).get (i := kp + 1) (by omega)
      obtain ⟨b', o', e', ⟨p0, p1, p2, p3, p4⟩, _⟩ := (HL.out.below hbw).get (i := kp) (by omega)
      injection e' with e'
      injection e' with e1 e2 _
      subst e1 e2
      have HN := Lib.hid (fun (h : (l.getD (kp + 1) default).var < (l.getD kp default).var) => srtB_not (l := l) (i := kp) (by omega) h)
      have HM := Lib.hid (fun (h : (l.getD kp default).var ≤ (l.getD (kp + 1) default).var) => (fun t h1 h2 => by
        rcases Nat.lt_or_ge t (kp + 1) with h3 | h3
        · obtain rfl : t = kp := by omega
          exact h
        · exact HF.out t (by omega) h2 : ∀ t, kp + 1 ≤ t + 1 → t + 1 < l.length → (l.getD t default).var ≤ (l.getD (t + 1) default).var))
      generalize l.getD (kp + 1) default = x at *
      generalize l.getD kp default = y at *
      obtain ⟨r, hr⟩ : ∃ r, ints x.var y.var = r := ⟨_, rfl⟩
      have Q := Lib.hid (fun W => compare_vars_below x y W hr)
      have HR := Lib.hid (show r < 0 ↔ x.var < y.var by
        rw [← hr]; unfold ints
        split
        · simp [*]
        · split <;> simp [*])
      have hm1 : (kp : Int) + 1 - 1 = (kp : Int) := by omega
      clear hr HF hm h2
      obtain ⟨v, k1, n1, s1, A1, q1, a1⟩ := x
      obtain ⟨v', k2, n2, s2, A2, q2, a2⟩ := y
      simp only [Tm.kind, Tm.num, Tm.name, Tm.at_, Tm.args, Tm.cap] at c0 c1 c2 c3 c4 p0 p1 p2 p3 p4
      have c0' := cell_regrown c0
      have c1' := cell_regrown c1
      have c2' := cell_regrown c2
      have c3' := cell_regrown c3
      have c4' := cell_regrown c4
      have p0' := cell_regrown p0
      have p1' := cell_regrown p1
      have p2' := cell_regrown p2
      have p3' := cell_regrown p3
      have p4' := cell_regrown p4
      by_cases hrn : r < 0
      · have HE := Lib.hid (HN.out (HR.out.1 hrn))
        clear HM HN HR
        go_wp2_with fail
        refine wp_region_quiet_below (by kernel_rfl) (by kernel_rfl) ?_
        repeat (go_big_quiet_step (first | (go_at_call 79; exact Calls.regrown_of (Q.out _))))
        refine wpQuiet_nil ?_
        intro w1 hw'
        have hb1 := regrown_below hw'
        go_wp2_with fail
        go_ret
        exact ⟨by rw [HE.out]; rfl, hbw.trans (hb1.mono hbw.size)⟩
      · have HE := Lib.hid (HM.out (Int.not_lt.1 (fun h => hrn (HR.out.2 h))))
        clear HM HN HR
        go_wp2_with fail
        refine wp_region_quiet_below (by kernel_rfl) (by kernel_rfl) ?_
        repeat (go_big_quiet_step (first | (go_at_call 79; exact Calls.regrown_of (Q.out _))))
        refine wpQuiet_nil ?_
        intro w1 hw'
        have hb1 := regrown_below hw'
        go_wp2_with fail
        go_roundw
        case rel => exact ⟨kp + 1, _, by omega, rfl, by go_num, HE, hbw.trans (hb1.mono hbw.size)⟩
        case measure => simp [intOf]
    · have hm0 : ¬ m > 0 := by omega
      have HE := Lib.hid (show srtB l = true by
        simp only [srtB, List.all_eq_true, List.mem_range, decide_eq_true_eq]
        exact fun t ht => HF.out t (by omega) (by omega))
      clear hm h2
      go_wp2_with fail
      go_ret
      exact ⟨by rw [HE.out]; rfl, hbw⟩

/-- A list of bindings like l, in ascending order. -/
def InOrd (l : List Bd) (w : World) (e : Ending) (w' : World) : Prop :=
  ∃ A c, ∃ l' : List Bd, e = .returned (.slice A l'.length c) ∧ BLst w' A l' c ∧ Good l' ∧ (∀ v, look l' v = look l v) ∧ Below w.heap.size w w'

theorem in_order_at (l : List Bd) (A : Option Addr) (c : Nat) (w : World) (hl : BLst w A l c) (hG : Good l) : Calls Try.prog 56 #[.slice A l.length c] w (InOrd l w) := by
  have Q := Lib.hid (is_sorted_at l A c w hl hG.len)
  rw [(srtB_iff l).2 hG.srt] at Q
  have HL := Lib.hid hl
  clear hl
  go_enter Try.func56, Try.ntmps56
  go_wp2_with fail
  refine (Q.out).mono ?_
  rintro e w' ⟨rfl, hb⟩
  go_wp2_with fail
  go_ret
  exact ⟨A, c, l, rfl, HL.out.below hb, hG, fun _ => rfl, hb⟩

set_option maxHeartbeats 2000000 in
theorem apply_at (l : List Bd) (A : Option Addr) (c : Nat) (t : Tm) (w : World) (ht : t.At w) (hn : t.nodes ≤ 1000000)
    (Q0 : ∀ W, Below w.heap.size w W → Calls Try.prog 56 #[.slice A l.length c] W (InOrd l W)) :
    Calls Try.prog 27 #[.slice A l.length c, t.val] w (Made (t.app l) w) := by
  have Q := Lib.hid Q0
  have QA := Lib.hid (fun l' (hG : Good l') D q W (hb : BLst W D l' q) (h : Below w.heap.size w W) => apply_s_at l' hG D q t W hb (ht.below h) hn)
  have HV := Lib.hid (fun (l' : List Bd) (h : ∀ v, look l' v = look l v) => (app_of_look h).1 t)
  obtain ⟨k, n, s, A', c', a⟩ := t
  obtain ⟨HB0, HB1⟩ := two_boxes w (.int .i64 k) (.int .i64 n) (.string s) (.slice A' a.length c') (.int .i64 0) (.int .i64 0) (.string ⟨#[]⟩) (.slice none 0 0) 24
  have H0 := Lib.hid HB0
  have H1 := Lib.hid HB1
  clear HB0 HB1 ht hn Q0
  show Calls Try.prog 27 #[.slice A l.length c, .agg #[.int .i64 k, .int .i64 n, .string s, .slice A' a.length c']] w _
  go_enter Try.func27, Try.ntmps27
  have d0 : ∀ ob, ((w.alloc ob).alloc zeroBox).cell? ⟨w.heap.size, 0, none⟩ = (w.alloc ob).cell? ⟨w.heap.size, 0, none⟩ := fun ob => World.cell?_alloc_lt _ _ _ (by simp)
  have HH := H0.out
  obtain ⟨_, x0, x1, x2, x3, _⟩ := HH
  clear d0
  go_wp2_with fail
  go_region_with (first
    | (go_at_call 56; refine (Q.out _ (by first | exact below2 _ _ _ | exact (below2 _ _ _).drew)).mono ?_; rintro e w1 ⟨D, q, l', rfl, hD, hG, hlk, hb1⟩; have K1 := Lib.hid (H0.out.below (undrew hb1)); have M1 := Lib.hid (H1.out.below (undrew hb1)); have hz := K1.out.lt; have y0 := K1.out.c0; have y1 := K1.out.c1; have y2 := K1.out.c2; have y3 := K1.out.c3; have HB1 := Lib.hid ((below2 w _ _).trans (undrew (hb1.mono (by simp; omega)))); have HD := Lib.hid hD; have HE := Lib.hid (HV.out l' hlk); clear hD hlk hb1)
    | (go_at_call 57; refine (QA.out _ hG _ _ _ HD.out HB1.out).mono ?_; rintro e w2 ⟨u, rfl, hu, hlie, hb2⟩; have M2 := Lib.hid (M1.out.below hb2); have hz2 := M2.out.lt; have e0 := M2.out.c0; have e1 := M2.out.c1; have e2 := M2.out.c2; have e3 := M2.out.c3; have f0 := M2.out.free 0; have f1 := M2.out.free 1; have f2 := M2.out.free 2; have f3 := M2.out.free 3; have HB2 := Lib.hid (HB1.out.trans (hb2.mono HB1.out.size)); have HU := Lib.hid hu; have HI := Lib.hid (hlie.low (lo' := w.heap.size + 2) (by have := M1.out.lt; omega)); obtain ⟨k2, n2, s2, A2, p2, a2⟩ := u; clear hu hlie hb2))
  all_goals
    go_wp2_with fail
    refine bodyPost_ret (v := .agg #[.int .i64 k2, .int .i64 n2, .string s2, .slice A2 a2.length p2]) (by simp [results, Try.results27, go_sem, e0, e1, e2, e3, Tm.kind, Tm.num, Tm.name, Tm.at_, Tm.args, Tm.cap]) rfl ?_
    refine ⟨.mk k2 n2 s2 A2 p2 a2, rfl, by rw [HU.out, HE.out], ?_, set4c HB2.out (Nat.le_succ _)⟩
    exact Lie.low ((((HI.out.set (p := ⟨w.heap.size + 1, 0, none⟩) (.inl (by show w.heap.size + 1 < _; omega)) _).set (p := ⟨w.heap.size + 1, 1, none⟩) (.inl (by show w.heap.size + 1 < _; omega)) _).set (p := ⟨w.heap.size + 1, 2, none⟩) (.inl (by show w.heap.size + 1 < _; omega)) _).set (p := ⟨w.heap.size + 1, 3, none⟩) (.inl (by show w.heap.size + 1 < _; omega)) _) (by omega)
end Go.Proofs.Ytpnjjahimhhjkaa
