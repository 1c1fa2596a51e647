/-
  Contract of copyOf of the program: a term with lists of its own.
  Contracts of apply and applyAll of the program (at a list of bindings in ascending order).
  Contracts of slices.IsSortedFunc (at bindings), inOrder (of a list in ascending order) and Apply of the program.
  Matching, plainly: environments, the match of terms and of lists, instances. No program.
  Instances of patterns, plainly, and what they have to do with matching. No program.
  Many bindings inserted into an environment, plainly: what is looked up, orders, merging. No program.
  The program's matching in memory: a box with the known environment and the map of what is new.
-/
import Derived.Test.YtceekaodhmncgaaMl8x5
import Derived.Test.YtceekaodhmncgaaMl8x6
import Derived.Deep.RegionLaw
import Derived.Test.YtceekaodhmncgaaMl8x3
import Derived.Test.YtceekaodhmncgaaMl8x1
import Derived.Test.YtceekaodhmncgaaMl8x4
import Derived.Maps.OwnOps
import Derived.Maps.OwnSet
import Derived.Maps.Views
namespace Go.Proofs.Ytceekaodhmncgaa
open Go.RowKit

/-- A term like t, in blocks of the call's own. -/
def Made (t : Tm) (w : World) (e : Ending) (w' : World) : Prop := ∃ u : Tm, e = .returned u.val ∧ u.strip = t.strip ∧ Lie Any w.heap.size No w' u ∧ Below w.heap.size w w'
def MadeL (l : List Tm) (w : World) (e : Ending) (w' : World) : Prop :=
  ∃ A cap, ∃ cur : List Tm, e = .returned (.slice A l.length cap) ∧ cur.length = l.length ∧ stripL cur = stripL l ∧ (∀ W, Agree w.heap.size No w' W → Lst W A cur cap) ∧ Below w.heap.size w w'
theorem length_le_nodes (l : List Tm) : l.length ≤ nodesL l := by
  induction l with
  | nil => simp [nodesL]
  | cons t r ih =>
    have h : 1 ≤ t.nodes := by cases t; simp [Tm.nodes]
    simp only [nodesL, List.length_cons]; omega
theorem two_boxes (w : World) (v0 v1 v2 v3 u0 u1 u2 u3 : Value) (T : TypeId) :
    Held w.heap.size ((w.alloc (.cells #[v0, v1, v2, v3] T)).alloc (.cells #[u0, u1, u2, u3] T)) v0 v1 v2 v3 ∧ Held (w.heap.size + 1) ((w.alloc (.cells #[v0, v1, v2, v3] T)).alloc (.cells #[u0, u1, u2, u3] T)) u0 u1 u2 u3 := by
  have h := held_new (v0 := u0) (v1 := u1) (v2 := u2) (v3 := u3) (w.alloc (.cells #[v0, v1, v2, v3] T)) T
  rw [World.size_alloc] at h
  exact ⟨(held_new w T).alloc _, h⟩
/-- A term whose arguments are made anew. -/
theorem lie_row {w w' : World} {k n : Int} {s : ByteArray} {A : Option Addr} {cap lo : Nat} {cur : List Tm} (hp : Fits k ∧ Fits n ∧ s.size ≤ maxLen) (h : ∀ W, Agree lo No w' W → Lst W A cur cap) (hlo : w.heap.size ≤ lo) : Lie Any w.heap.size No w' (.mk k n s A cap cur) :=
  fun W _ hW => (At_iff _ _).2 ⟨hp, h W fun b h1 h2 h3 => hW b (by omega) h2 h3⟩

set_option maxHeartbeats 4000000 in
theorem copy_at (t : Tm) : ∀ w : World, t.At w → t.nodes ≤ 1000000 → Calls Try.prog 61 #[t.val] w (Made t w) := by
  induction t using Tm.induct with
  | h k n s A c a ih =>
    intro w hat hnodes
    show Calls Try.prog 61 #[.agg #[.int .i64 k, .int .i64 n, .string s, .slice A a.length c]] w _
    have hl : Lst w A a c := hat.lst
    have hna : nodesL a ≤ 1000000 := by simp only [Tm.nodes] at hnodes; omega
    have hln : a.length ≤ 1000000 := by have := length_le_nodes a; omega
    have hlen : a.length ≤ 9223372036854775807 := by omega
    have HP := Lib.hid ((At_iff _ _).1 hat).1
    simp only [Tm.kind, Tm.num, Tm.name] at HP
    obtain ⟨HB0, HB1⟩ := two_boxes w (.int .i64 k) (.int .i64 n) (.string s) (.slice A a.length c) (.int .i64 0) (.int .i64 0) (.string ⟨#[]⟩) (.slice none 0 0) 25
    have H0 := Lib.hid HB0
    have H1 := Lib.hid HB1
    clear HB0 HB1
    by_cases h0 : a.length = 0
    · obtain rfl : a = [] := List.length_eq_zero_iff.1 h0
      have Q := Lib.hid (fun W => clone_none_at A c W)
      clear ih hl hna hln hat hnodes h0 hlen
      show Calls Try.prog 61 #[.agg #[.int .i64 k, .int .i64 n, .string s, .slice A 0 c]] w _
      go_enter Try.func61, Try.ntmps61
      go_wp2_with fail
      refine (Q.out _).mono ?_
      rintro e w1 ⟨A', cap, rfl, g1, g2, _, hb⟩
      have HK := Lib.hid (H0.out.below hb)
      have HM := Lib.hid (H1.out.below hb)
      have hb1 := (below2 w (.cells #[.int .i64 k, .int .i64 n, .string s, .slice A ([] : List Tm).length c] 25) zeroBox).trans (hb.mono (by simp; omega))
      obtain ⟨_, d0, d1, d2, d3, f⟩ := HK.out
      obtain ⟨hz, e0, e1, e2, e3, f'⟩ := HM.out
      have f3 := f 3
      have f0' := f' 0
      have f1' := f' 1
      have f2' := f' 2
      have f3' := f' 3
      have HB := Lib.hid hb1
      have HC := Lib.hid (show Lst w1 A' [] cap from ⟨g1, g2, fun h => by simp at h⟩)
      clear f f' hb hb1 g1 g2
      have hz0 : w.heap.size < w1.heap.size := by omega
      go_wp2_with fail
      go_loopw [12] (fun i wr => i = .int .i64 0 ∧ wr = w1.setCell ⟨w.heap.size, 3, none⟩ (.slice A' 0 cap)) (fun _ _ => 0)
      case atStart => exact ⟨rfl, rfl⟩
      case round =>
        obtain ⟨rfl, rfl⟩ := hrel
        go_wp2_with fail
        refine bodyPost_ret (v := .agg #[.int .i64 k, .int .i64 n, .string s, .slice A' 0 cap]) (by simp [results, Try.results61, go_sem, e0, e1, e2, e3]) rfl ?_
        refine ⟨.mk k n s A' cap [], rfl, rfl, lie_row (lo := w.heap.size) HP.out (fun W _ => ⟨HC.out.1, HC.out.2.1, fun h => by simp at h⟩) (Nat.le_refl _), set4c (HB.out.setCell (Nat.le_refl _) _) (Nat.le_succ _)⟩
    · have hp : 0 < a.length := by omega
      obtain ⟨b, o, rfl, hrow⟩ := hl.2.2 hp
      have Q := Lib.hid (fun W (h : Below w.heap.size w W) => clone_at a b o c W hp ((At_keep h).2 _ _ _ hrow) hln)
      have QI := Lib.hid (fun x (hx : x ∈ a) W (h : Below w.heap.size w W) => ih x hx W ((hl.mem hx).below h) (by have := nodes_mem hx; omega))
      clear ih hl hna hat hnodes h0 hrow hln
      go_enter Try.func61, Try.ntmps61
      go_wp2_with fail
      refine (Q.out _ (below2 _ _ _)).mono ?_
      rintro e w1 ⟨A', cap, rfl, g1, g2, g3, hb⟩
      obtain ⟨g, rfl, hg, hrow⟩ := g3 hp
      have HK := Lib.hid (H0.out.below hb)
      have HM := Lib.hid (H1.out.below hb)
      have hb1 := (below2 w (.cells #[.int .i64 k, .int .i64 n, .string s, .slice (some ⟨b, o, none⟩) a.length c] 25) zeroBox).trans (hb.mono (by simp; omega))
      have hg' : w.heap.size + 2 ≤ g := by simpa using hg
      have hcap : a.length ≤ cap := g1
      have hcap2 : cap ≤ 9223372036854775807 := by unfold maxLen at g2; exact g2
      have HS := Lib.hid (Putting.other (Putting.start (f := id) (lo := w.heap.size + 2) hrow) (p := ⟨w.heap.size, 3, none⟩) (by show w.heap.size < _; omega) (by show w.heap.size ≠ g; omega) (.slice (some ⟨g, 0, none⟩) a.length cap))
      have d3 := HK.out.c3
      have f3 := HK.out.free 3
      have hz0 : w.heap.size < w1.heap.size := HK.out.lt
      have HBs := Lib.hid (hb1.setCell (p := ⟨w.heap.size, 3, none⟩) (Nat.le_refl _) (.slice (some ⟨g, 0, none⟩) a.length cap))
      have K3 := Lib.hid (HK.out.set3 (.slice (some ⟨g, 0, none⟩) a.length cap))
      have M3 := Lib.hid (HM.out.other (p := ⟨w.heap.size, 3, none⟩) (by show w.heap.size ≠ _; omega) (.slice (some ⟨g, 0, none⟩) a.length cap))
      clear g3 hrow hg hb hb1 g1 g2 HK HM Q H0 H1
      go_wp2_with fail
      go_loopw [12] (fun i wr => ∃ j : Nat, j ≤ a.length ∧ i = .int .i64 j ∧ Hid (Putting id a g (w.heap.size + 2) j wr) ∧ Hid (Held w.heap.size wr (.int .i64 k) (.int .i64 n) (.string s) (.slice (some ⟨g, 0, none⟩) a.length cap)) ∧ Hid (Held (w.heap.size + 1) wr (.int .i64 0) (.int .i64 0) (.string ⟨#[]⟩) (.slice none 0 0)) ∧ Hid (Below w.heap.size w wr)) (fun i _ => a.length - (intOf i).toNat)
      case atStart => exact ⟨0, Nat.zero_le _, rfl, HS, K3, M3, HBs⟩
      case round =>
        clear HS K3 M3 HBs d3 f3 hz0
        obtain ⟨j, hj, rfl, HF, K, M, HB⟩ := hrel
        by_cases hlt : j < a.length
        · obtain ⟨x, hx⟩ : ∃ x, x = a.getD j default := ⟨_, rfl⟩
          have hcl := HF.out.cells hlt
          rw [← hx] at hcl
          have c0 := hcl 0 _ rfl
          have c1 := hcl 1 _ rfl
          have c2 := hcl 2 _ rfl
          have c3 := hcl 3 _ rfl
          simp only [Nat.add_zero] at c0
          have hmem : x ∈ a := by rw [hx]; exact getD_mem hlt
          have Q1 := Lib.hid (fun W (h : Below w.heap.size w W) => QI.out x hmem W h)
          have HX := Lib.hid hx
          have hgs : g < wr.heap.size := HF.out.lt
          have d3 := K.out.c3
          have kd : ∀ ob : Obj, (wr.alloc ob).cell? ⟨w.heap.size, 3, none⟩ = some (.slice (some ⟨g, 0, none⟩) a.length cap) := fun ob => (K.out.alloc ob).c3
          clear hx hcl hmem QI
          obtain ⟨k', n', s', A', c', a'⟩ := x
          simp only [Tm.kind, Tm.num, Tm.name, Tm.at_, Tm.args, Tm.cap] at c0 c1 c2 c3
          go_wp2_with fail
          go_region_with (go_at_call 61; refine (Q1.out _ ((HB.out.alloc HB.out.size _).drew)).mono ?_; rintro e w2 ⟨u, rfl, hu, hlie, hb2⟩; have hw : Below wr.heap.size wr w2 := (below1 wr _).trans (undrew (hb2.mono (by simp))); have HN := Lib.hid (putting_next HF.out hlt HX.out (by have := HB.out.size; have := K.out.lt; have := M.out.lt; omega) hu (hlie.low (by simp)) hw _ rfl); have D2 := HF.out.below hw; have K2 := Lib.hid (K.out.below hw); have M2 := Lib.hid (M.out.below hw); have HB2 := Lib.hid (HB.out.trans (hw.mono HB.out.size)); have e0 := D2.cells hlt; rw [← HX.out] at e0; have q0 := e0 0 _ rfl; have q1 := e0 1 _ rfl; have q2 := e0 2 _ rfl; have q3 := e0 3 _ rfl; simp only [Nat.add_zero, Tm.kind, Tm.num, Tm.name, Tm.at_, Tm.args, Tm.cap] at q0 q1 q2 q3; have f0 := D2.free (j * 4); have f1 := D2.free (j * 4 + 1); have f2 := D2.free (j * 4 + 2); have f3 := D2.free (j * 4 + 3); have hgz := D2.lt; have z3 := K2.out.c3; obtain ⟨k2, n2, s2, A2, p2, a2⟩ := u; simp only [Tm.kind, Tm.num, Tm.name, Tm.at_, Tm.args, Tm.cap] at HN; clear e0 hu hlie hb2 D2 hw)
          all_goals
            go_wp2_with fail
            go_roundw
            case rel => exact ⟨j + 1, by omega, by go_num, HN, Lib.hid (K2.out.other4 (by omega) _ _ _ _), Lib.hid (M2.out.other4 (by omega) _ _ _ _), Lib.hid (below4 HB2.out (by omega) _ _ _ _)⟩
            case measure => simp [intOf]; omega
        · obtain rfl : j = a.length := by omega
          have HD := Lib.hid (fun w' => HF.out.done (w' := w') (by omega))
          obtain ⟨hz1, d0, d1, d2, d3, _⟩ := K.out
          obtain ⟨hz, e0, e1, e2, e3, f'⟩ := M.out
          have f0' := f' 0
          have f1' := f' 1
          have f2' := f' 2
          have f3' := f' 3
          clear f' QI HF
          go_wp2_with fail
          refine bodyPost_ret (v := .agg #[.int .i64 k, .int .i64 n, .string s, .slice (some ⟨g, 0, none⟩) a.length cap]) (by simp [results, Try.results61, go_sem, e0, e1, e2, e3]) rfl ?_
          obtain ⟨news, hn, hst, hL⟩ := HD.out ((((wr.setCell ⟨w.heap.size + 1, 0, none⟩ (.int .i64 k)).setCell ⟨w.heap.size + 1, 1, none⟩ (.int .i64 n)).setCell ⟨w.heap.size + 1, 2, none⟩ (.string s)).setCell ⟨w.heap.size + 1, 3, none⟩ (.slice (some ⟨g, 0, none⟩) a.length cap)) (by rw [size_set4]; exact Nat.le_refl _) (fun b h1 h2 => heap_set4 _ (by omega) _ _ _ _) cap hcap (by unfold maxLen; exact hcap2)
          refine ⟨.mk k n s (some ⟨g, 0, none⟩) cap news, by rw [← hn]; rfl, ?_, lie_row (lo := w.heap.size + 2) HP.out hL (by omega), set4c HB.out (Nat.le_succ _)⟩
          simp only [Tm.strip, hst, List.map_id]
end Go.Proofs.Ytceekaodhmncgaa
namespace Go.Proofs.Ytceekaodhmncgaa
open Go.RowKit

/-- A list like m of n terms, in blocks of the call's own. -/
def MadeN (n : Nat) (m : List Tm) (w : World) (e : Ending) (w' : World) : Prop :=
  ∃ A cap, ∃ cur : List Tm, e = .returned (.slice A n cap) ∧ cur.length = n ∧ stripL cur = stripL m ∧ (∀ W, Agree w.heap.size No w' W → Lst W A cur cap) ∧ Below w.heap.size w w'
/-- A list of bindings that can be searched. -/
structure Good (b : List Bd) : Prop where
  len : b.length ≤ 1000000
  srt : Srt b
  nodes : ∀ x ∈ b, x.tm.nodes ≤ 1000000

end Go.Proofs.Ytceekaodhmncgaa
namespace Go.Proofs.Ytceekaodhmncgaa
open Go.RowKit Go.Sort

/-- In ascending order, with repeats, step by step. -/
def srtB (l : List Bd) : Bool := (List.range (l.length - 1)).all fun i => decide ((l.getD i default).var ≤ (l.getD (i + 1) default).var)
theorem srtB_iff (l : List Bd) : srtB l = true ↔ Srt l := by
  simp only [srtB, List.all_eq_true, List.mem_range, decide_eq_true_eq]
  constructor
  · intro h i j hij hj
    induction j with
    | zero => obtain rfl : i = 0 := by omega
              exact Int.le_refl _
    | succ j ih =>
      rcases Nat.lt_or_ge i (j + 1) with h1 | h1
      · exact Int.le_trans (ih (by omega) (by omega)) (h j (by omega))
      · obtain rfl : i = j + 1 := by omega
        exact Int.le_refl _
  · intro h i hi
    exact h i (i + 1) (by omega) (by omega)
theorem srtB_not {l : List Bd} {i : Nat} (hi : i + 1 < l.length) (h : (l.getD (i + 1) default).var < (l.getD i default).var) : srtB l = false := by
  unfold srtB
  rw [List.all_eq_false]
  exact ⟨i, by simp; omega, fun hc => by have := of_decide_eq_true hc; omega⟩
theorem boxedB (w : World) (x : Bd) : (w.alloc (boxB x)).cell? ⟨w.heap.size, 0, none⟩ = some (.int .i64 x.var) := World.cell?_alloc_at _ _ _ _ rfl

theorem compare_vars_below (x y : Bd) (w : World) {r : Int} (hr : ints x.var y.var = r) : Calls Try.prog 56 #[x.val, y.val] w fun e w' => e = .returned (.int .i64 r) ∧ Below w.heap.size w w' :=
  (compare_vars_at x y w).mono (by
    rintro e w' ⟨rfl, rfl⟩
    exact ⟨by rw [hr], below2 _ _ _⟩)

set_option maxHeartbeats 4000000 in
theorem is_sorted_at (l : List Bd) (A : Option Addr) (c : Nat) (w : World) (hl : BLst w A l c) (hlen : l.length ≤ 1000000) :
    Calls Try.prog 55 #[.slice A l.length c, .func (.func 56) #[] #[]] w fun e w' => e = .returned (.bool (srtB l)) ∧ Below w.heap.size w w' := by
  have HL := Lib.hid hl
  clear hl
  go_enter Try.func55, Try.ntmps55
  go_wp2_with fail
  go_loopw [5] (fun s5 wr => ∃ (k : Nat) (m : Int), k ≤ l.length ∧ m = (k : Int) - 1 ∧ s5 = .int .i64 m ∧ Hid (∀ t, k ≤ t + 1 → t + 1 < l.length → (l.getD t default).var ≤ (l.getD (t + 1) default).var) ∧ Below w.heap.size w wr) (fun s5 _ => (intOf s5).toNat)
  case atStart => exact ⟨l.length, _, Nat.le_refl _, rfl, rfl, Lib.hid (fun t h1 h2 => by omega), Below.refl _ _⟩
  case round =>
    obtain ⟨k, m, hk, hm, rfl, HF, hbw⟩ := hrel
    by_cases h2 : 2 ≤ k
    · obtain ⟨kp, rfl⟩ : ∃ kp, k = kp + 2 := ⟨k - 2, by omega⟩
      obtain rfl : m = (kp : Int) + 1 := by omega
      obtain ⟨b, o, rfl, ⟨c0, c1, c2, c3, c4⟩, _⟩ := (HL.out.below hbw).get (i := kp + 1) (by omega)
      obtain ⟨b', o', e', ⟨p0, p1, p2, p3, p4⟩, _⟩ := (HL.out.below hbw).get (i := kp) (by omega)
      injection e' with e'
      injection e' with e1 e2 _
      subst e1 e2
      have HN := Lib.hid (fun (h : (l.getD (kp + 1) default).var < (l.getD kp default).var) => srtB_not (l := l) (i := kp) (by omega) h)
      have HM := Lib.hid (fun (h : (l.getD kp default).var ≤ (l.getD (kp + 1) default).var) => (fun t h1 h2 => by
        rcases Nat.lt_or_ge t (kp + 1) with h3 | h3
        · obtain rfl : t = kp := by omega
          exact h
        · exact HF.out t (by omega) h2 : ∀ t, kp + 1 ≤ t + 1 → t + 1 < l.length → (l.getD t default).var ≤ (l.getD (t + 1) default).var))
      generalize l.getD (kp + 1) default = x at *
      generalize l.getD kp default = y at *
      obtain ⟨r, hr⟩ : ∃ r, ints x.var y.var = r := ⟨_, rfl⟩
      have Q := Lib.hid (fun W => compare_vars_below x y W hr)
      have HR := Lib.hid (show r < 0 ↔ x.var < y.var by
        rw [← hr]; unfold ints
        split
        · simp [*]
        · split <;> simp [*])
      have hm1 : (kp : Int) + 1 - 1 = (kp : Int) := by omega
      clear hr HF hm h2
      obtain ⟨v, k1, n1, s1, A1, q1, a1⟩ := x
      obtain ⟨v', k2, n2, s2, A2, q2, a2⟩ := y
      simp only [Tm.kind, Tm.num, Tm.name, Tm.at_, Tm.args, Tm.cap] at c0 c1 c2 c3 c4 p0 p1 p2 p3 p4
      have c0' := cell_regrown c0
      have c1' := cell_regrown c1
      have c2' := cell_regrown c2
      have c3' := cell_regrown c3
      have c4' := cell_regrown c4
      have p0' := cell_regrown p0
      have p1' := cell_regrown p1
      have p2' := cell_regrown p2
      have p3' := cell_regrown p3
      have p4' := cell_regrown p4
      by_cases hrn : r < 0
      · have HE := Lib.hid (HN.out (HR.out.1 hrn))
        clear HM HN HR
        go_wp2_with fail
        refine wp_region_quiet_below (by kernel_rfl) (by kernel_rfl) ?_
        repeat (go_big_quiet_step (first | (go_at_call 56; exact Calls.regrown_of (Q.out _))))
        refine wpQuiet_nil ?_
        intro w1 hw'
        have hb1 := regrown_below hw'
        go_wp2_with fail
        go_ret
        exact ⟨by rw [HE.out]; rfl, hbw.trans (hb1.mono hbw.size)⟩
      · have HE := Lib.hid (HM.out (Int.not_lt.1 (fun h => hrn (HR.out.2 h))))
        clear HM HN HR
        go_wp2_with fail
        refine wp_region_quiet_below (by kernel_rfl) (by kernel_rfl) ?_
        repeat (go_big_quiet_step (first | (go_at_call 56; exact Calls.regrown_of (Q.out _))))
        refine wpQuiet_nil ?_
        intro w1 hw'
        have hb1 := regrown_below hw'
        go_wp2_with fail
        go_roundw
        case rel => exact ⟨kp + 1, _, by omega, rfl, by go_num, HE, hbw.trans (hb1.mono hbw.size)⟩
        case measure => simp [intOf]
    · have hm0 : ¬ m > 0 := by omega
      have HE := Lib.hid (show srtB l = true by
        simp only [srtB, List.all_eq_true, List.mem_range, decide_eq_true_eq]
        exact fun t ht => HF.out t (by omega) (by omega))
      clear hm h2
      go_wp2_with fail
      go_ret
      exact ⟨by rw [HE.out]; rfl, hbw⟩

/-- A list of bindings like l, in ascending order. -/
def InOrd (l : List Bd) (w : World) (e : Ending) (w' : World) : Prop :=
  ∃ A c, ∃ l' : List Bd, e = .returned (.slice A l'.length c) ∧ BLst w' A l' c ∧ Good l' ∧ (∀ v, look l' v = look l v) ∧ Below w.heap.size w w'

theorem in_order_at (l : List Bd) (A : Option Addr) (c : Nat) (w : World) (hl : BLst w A l c) (hG : Good l) : Calls Try.prog 39 #[.slice A l.length c] w (InOrd l w) := by
  have Q := Lib.hid (is_sorted_at l A c w hl hG.len)
  rw [(srtB_iff l).2 hG.srt] at Q
  have HL := Lib.hid hl
  clear hl
  go_enter Try.func39, Try.ntmps39
  go_wp2_with fail
  refine (Q.out).mono ?_
  rintro e w' ⟨rfl, hb⟩
  go_wp2_with fail
  go_ret
  exact ⟨A, c, l, rfl, HL.out.below hb, hG, fun _ => rfl, hb⟩

end Go.Proofs.Ytceekaodhmncgaa
namespace Go.Proofs.Ytceekaodhmncgaa
open Go

/-! ### Environments -/
/-- A binding is inserted before the first one with a greater variable. -/
def insE (b : Bd) : List Bd → List Bd
  | [] => [b]
  | x :: l => if b.var < x.var then b :: x :: l else x :: insE b l
/-- Identical up to what identity does not see. -/
def sameE (a b : List Bd) : Prop := a.length = b.length ∧ ∀ k, k < a.length → (a.getD k default).var = (b.getD k default).var ∧ cmpT (a.getD k default).tm (b.getD k default).tm = 0
/-- Two results of looking up. -/
def sameO : Option Tm → Option Tm → Prop
  | none, none => True
  | some t, some u => cmpT t u = 0
  | _, _ => False
theorem sameE_nil : sameE [] [] := ⟨rfl, fun k hk => by simp at hk⟩
theorem sameE_cons {x y : Bd} {a b : List Bd} : sameE (x :: a) (y :: b) ↔ (x.var = y.var ∧ cmpT x.tm y.tm = 0) ∧ sameE a b := by
  constructor
  · rintro ⟨h1, h2⟩
    refine ⟨?_, by simpa using h1, fun k hk => ?_⟩
    · have := h2 0 (by simp); simpa using this
    · have := h2 (k + 1) (by simp; omega); simpa using this
  · rintro ⟨⟨h1, h2⟩, h3, h4⟩
    refine ⟨by simp [h3], fun k hk => ?_⟩
    cases k with
    | zero => exact ⟨h1, h2⟩
    | succ k => have := h4 k (by simpa using hk); simpa using this
theorem sameE_refl : ∀ a : List Bd, sameE a a
  | [] => sameE_nil
  | _ :: a => sameE_cons.2 ⟨⟨rfl, cmp_self.1 _⟩, sameE_refl a⟩
theorem sameE_symm : ∀ {a b : List Bd}, sameE a b → sameE b a
  | [], [], _ => sameE_nil
  | [], _ :: _, h => by have := h.1; simp at this
  | _ :: _, [], h => by have := h.1; simp at this
  | x :: a, y :: b, h => by
    rw [sameE_cons] at h ⊢
    exact ⟨⟨h.1.1.symm, cmp_symm h.1.2⟩, sameE_symm h.2⟩
theorem sameE_trans : ∀ {a b c : List Bd}, sameE a b → sameE b c → sameE a c
  | [], [], c, _, h => h
  | [], _ :: _, _, h, _ => by have := h.1; simp at this
  | _ :: _, [], _, h, _ => by have := h.1; simp at this
  | _ :: _, _ :: _, [], _, h => by have := h.1; simp at this
  | x :: a, y :: b, z :: c, h, h' => by
    rw [sameE_cons] at h h' ⊢
    exact ⟨⟨h.1.1.trans h'.1.1, cmp_trans h.1.2 h'.1.2⟩, sameE_trans h.2 h'.2⟩
theorem sameO_refl (o : Option Tm) : sameO o o := by cases o with | none => exact trivial | some t => exact cmp_self.1 t
theorem look_same : ∀ {a b : List Bd} (_ : sameE a b) (v : Int), sameO (look a v) (look b v)
  | [], [], _, _ => trivial
  | [], _ :: _, h, _ => by have := h.1; simp at this
  | _ :: _, [], h, _ => by have := h.1; simp at this
  | x :: a, y :: b, h, v => by
    rw [sameE_cons] at h
    simp only [look]
    rw [← h.1.1]
    split
    · exact h.1.2
    · exact look_same h.2 v
theorem insE_len (b : Bd) (l : List Bd) : (insE b l).length = l.length + 1 := by
  induction l with
  | nil => rfl
  | cons x r ih =>
    simp only [insE]
    split
    · rfl
    · simp [ih]
theorem insE_same {x y : Bd} (hv : x.var = y.var) (ht : cmpT x.tm y.tm = 0) : ∀ {a b : List Bd}, sameE a b → sameE (insE x a) (insE y b)
  | [], [], _ => sameE_cons.2 ⟨⟨hv, ht⟩, sameE_nil⟩
  | [], _ :: _, h => by have := h.1; simp at this
  | _ :: _, [], h => by have := h.1; simp at this
  | u :: a, w :: b, h => by
    have h0 := h
    rw [sameE_cons] at h
    simp only [insE]
    rw [hv, h.1.1]
    split
    · exact sameE_cons.2 ⟨⟨hv, ht⟩, h0⟩
    · exact sameE_cons.2 ⟨h.1, insE_same hv ht h.2⟩
theorem insE_mem {b x : Bd} {l : List Bd} : x ∈ insE b l ↔ x = b ∨ x ∈ l := by
  induction l with
  | nil => simp [insE]
  | cons y r ih =>
    simp only [insE]
    split
    · simp
    · simp only [List.mem_cons, ih]
      constructor
      · rintro (h | h | h)
        · exact .inr (.inl h)
        · exact .inl h
        · exact .inr (.inr h)
      · rintro (h | h | h)
        · exact .inr (.inl h)
        · exact .inl h
        · exact .inr (.inr h)
/-- Looking up behind an insertion, where the variable had no entry. -/
theorem look_insE {b : Bd} {l : List Bd} (h : look l b.var = none) (v : Int) : look (insE b l) v = if b.var = v then some b.tm else look l v := by
  induction l with
  | nil => simp [insE, look]
  | cons x r ih =>
    rw [look_none] at h
    have hx := h x (by simp)
    have hr : look r b.var = none := look_none.2 fun y hy => h y (by simp [hy])
    simp only [insE]
    split
    · simp only [look]
    · simp only [look, ih hr]
      by_cases e : x.var = v
      · rw [if_pos e, if_pos e, if_neg (fun e' => hx (by rw [e, e']))]
      · rw [if_neg e, if_neg e]
theorem insE_asc {b : Bd} {l : List Bd} (ha : Asc l) (h : look l b.var = none) : Asc (insE b l) := by
  unfold Asc at *
  induction l with
  | nil => simp [insE]
  | cons x r ih =>
    rw [look_none] at h
    have hx := h x (by simp)
    rw [List.pairwise_cons] at ha
    simp only [insE]
    split
    · rename_i hlt
      rw [List.pairwise_cons]
      refine ⟨fun y hy => ?_, List.pairwise_cons.2 ha⟩
      rcases List.mem_cons.1 hy with rfl | hy
      · exact hlt
      · exact Int.lt_trans hlt (ha.1 y hy)
    · rw [List.pairwise_cons]
      refine ⟨fun y hy => ?_, ih ha.2 (look_none.2 fun y hy => h y (by simp [hy]))⟩
      rcases insE_mem.1 hy with rfl | hy
      · omega
      · exact ha.1 y hy

/-! ### Matching -/
mutual
def matT (e : List Bd) : Tm → Tm → Option (List Bd)
  | .mk k n s A c a, t =>
    if k = 2 then (if t.kind = 2 ∧ s = t.name then matL e a t.args else none)
    else if k = 1 then (match look e n with
      | some u => if cmpT u t = 0 then some e else none
      | none => some (insE ⟨n, t⟩ e))
    else if cmpT (.mk k n s A c a) t = 0 then some e else none
def matL (e : List Bd) : List Tm → List Tm → Option (List Bd)
  | [], [] => some e
  | [], _ :: _ => none
  | _ :: _, [] => none
  | p :: ps, t :: ts => (match matT e p t with
    | some e' => matL e' ps ts
    | none => none)
end
theorem matL_len {e e' : List Bd} {ps ts : List Tm} (h : matL e ps ts = some e') : ps.length = ts.length := by
  induction ps generalizing e ts with
  | nil =>
    cases ts with
    | nil => rfl
    | cons t r => simp [matL] at h
  | cons p ps ih =>
    cases ts with
    | nil => simp [matL] at h
    | cons t r =>
      simp only [matL] at h
      split at h
      · simp [ih h]
      · cases h
/-- One argument more. -/
theorem matL_next {e : List Bd} {ps ts : List Tm} {p t : Tm} (hl : ps.length = ts.length) : matL e (ps ++ [p]) (ts ++ [t]) = (matL e ps ts).bind fun e' => matT e' p t := by
  induction ps generalizing e ts with
  | nil =>
    cases ts with
    | nil =>
      simp only [List.nil_append, matL]
      show _ = matT e p t
      cases matT e p t <;> rfl
    | cons _ _ => simp at hl
  | cons q r ih =>
    cases ts with
    | nil => simp at hl
    | cons u m =>
      simp only [List.cons_append, matL]
      cases matT e q u with
      | none => rfl
      | some e' => exact ih (by simpa using hl)
theorem matL_ne {e : List Bd} {ps ts : List Tm} (hl : ps.length ≠ ts.length) : matL e ps ts = none := by
  cases h : matL e ps ts with
  | none => rfl
  | some e' => exact absurd (matL_len h) hl
/-- What matching does to an environment. -/
structure Ext8 (e e' : List Bd) (vs : List Int) : Prop where
  keep : ∀ v u, look e v = some u → look e' v = some u
  new : ∀ v u, look e' v = some u → look e v = some u ∨ v ∈ vs
  all : ∀ v ∈ vs, ∃ u, look e' v = some u
  asc : Asc e → Asc e'
theorem Ext8.refl (e : List Bd) : Ext8 e e [] := ⟨fun _ _ h => h, fun _ _ h => .inl h, fun v hv => (by cases hv), fun h => h⟩
theorem mat_ext : (∀ p : Tm, ∀ e t e', matT e p t = some e' → Ext8 e e' p.occ) ∧ (∀ ps : List Tm, ∀ e ts e', matL e ps ts = some e' → Ext8 e e' (occL ps)) := by
  refine Tm.induct2 (fun k n s A c a ih e t e' h => ?_) (fun e ts e' h => ?_) (fun p ps h1 h2 e ts e' h => ?_)
  · simp only [matT] at h
    by_cases h2 : k = 2
    · rw [if_pos h2] at h
      split at h
      · have := ih e _ e' h
        simpa [Tm.occ, h2] using this
      · cases h
    · rw [if_neg h2] at h
      by_cases h1 : k = 1
      · rw [if_pos h1] at h
        have ho : (Tm.mk k n s A c a).occ = [n] := by simp [Tm.occ, h1]
        rw [ho]
        cases hl : look e n with
        | some u =>
          rw [hl] at h
          simp only at h
          split at h
          · injection h with h
            subst h
            exact ⟨fun _ _ h => h, fun _ _ h => .inl h, fun v hv => by rw [List.mem_singleton.1 hv]; exact ⟨u, hl⟩, fun h => h⟩
          · cases h
        | none =>
          rw [hl] at h
          simp only at h
          injection h with h
          subst h
          have hli := look_insE (b := ⟨n, t⟩) hl
          refine ⟨fun v u hv => ?_, fun v u hv => ?_, fun v hv => ?_, fun ha => insE_asc ha hl⟩
          · rw [hli]
            by_cases e : n = v
            · rw [← e, hl] at hv; cases hv
            · rw [if_neg e]; exact hv
          · rw [hli] at hv
            by_cases e : n = v
            · exact .inr (by simp [e])
            · rw [if_neg e] at hv; exact .inl hv
          · rw [List.mem_singleton.1 hv, hli]
            exact ⟨t, if_pos rfl⟩
      · rw [if_neg h1] at h
        split at h
        · injection h with h
          subst h
          have ho : (Tm.mk k n s A c a).occ = [] := by simp [Tm.occ, h1, h2]
          rw [ho]
          exact Ext8.refl e
        · cases h
  · cases ts with
    | nil =>
      simp only [matL, Option.some.injEq] at h
      subst h
      exact Ext8.refl e
    | cons _ _ => simp [matL] at h
  · cases ts with
    | nil => simp [matL] at h
    | cons t r =>
      simp only [matL] at h
      split at h
      · rename_i e1 he1
        have k1 := h1 e t e1 he1
        have k2 := h2 e1 r e' h
        simp only [occL]
        refine ⟨fun v u hv => k2.keep v u (k1.keep v u hv), fun v u hv => ?_, fun v hv => ?_, fun ha => k2.asc (k1.asc ha)⟩
        · rcases k2.new v u hv with h | h
          · rcases k1.new v u h with h | h
            · exact .inl h
            · exact .inr (by simp [h])
          · exact .inr (by simp [h])
        · rcases List.mem_append.1 hv with hv | hv
          · obtain ⟨u, hu⟩ := k1.all v hv
            exact ⟨u, k2.keep v u hu⟩
          · exact k2.all v hv
      · cases h
/-- Matched again in an environment that has what the first match found. -/
theorem mat_again : (∀ p : Tm, ∀ e t e' e'', matT e p t = some e' → (∀ v u, look e' v = some u → look e'' v = some u) → matT e'' p t = some e'') ∧
    (∀ ps : List Tm, ∀ e ts e' e'', matL e ps ts = some e' → (∀ v u, look e' v = some u → look e'' v = some u) → matL e'' ps ts = some e'') := by
  refine Tm.induct2 (fun k n s A c a ih e t e' e'' h hk => ?_) (fun e ts e' e'' h hk => ?_) (fun p ps h1 h2 e ts e' e'' h hk => ?_)
  · simp only [matT] at h ⊢
    by_cases h2 : k = 2
    · rw [if_pos h2] at h ⊢
      split at h
      · rename_i hc
        rw [if_pos hc]
        exact ih e _ e' e'' h hk
      · cases h
    · rw [if_neg h2] at h ⊢
      by_cases h1 : k = 1
      · rw [if_pos h1] at h ⊢
        cases hl : look e n with
        | some u =>
          rw [hl] at h
          simp only at h
          split at h
          · rename_i hc
            injection h with h
            subst h
            rw [hk n u hl]
            simp only
            rw [if_pos hc]
          · cases h
        | none =>
          rw [hl] at h
          simp only at h
          injection h with h
          subst h
          have := look_insE (b := ⟨n, t⟩) hl n
          rw [if_pos rfl] at this
          rw [hk n t this]
          simp only
          rw [if_pos (cmp_self.1 t)]
      · rw [if_neg h1] at h ⊢
        split at h
        · rename_i hc
          rw [if_pos hc]
        · cases h
  · cases ts with
    | nil => rfl
    | cons _ _ => simp [matL] at h
  · cases ts with
    | nil => simp [matL] at h
    | cons t r =>
      simp only [matL] at h ⊢
      split at h
      · rename_i e1 he1
        have k2 := mat_ext.2 ps e1 r e' h
        rw [h1 e t e1 e'' he1 (fun v u hv => hk v u (k2.keep v u hv))]
        exact h2 e1 r e' e'' h hk
      · cases h
end Go.Proofs.Ytceekaodhmncgaa
namespace Go.Proofs.Ytceekaodhmncgaa
open Go

theorem texts_eq : ∀ {a b : List UInt8}, texts a b = 0 → a = b := by
  intro a
  induction a with
  | nil =>
    intro b h
    cases b with
    | nil => rfl
    | cons y q => simp [texts, Op.bytesLess] at h
  | cons x r ih =>
    intro b h
    cases b with
    | nil => simp [texts, Op.bytesLess] at h
    | cons y q =>
      rw [texts_cons] at h
      obtain ⟨h1, h2⟩ := lexz_iff.1 h
      have := ints_zero.1 h1
      rw [ih h2, UInt8.toNat_inj.1 (show x.toNat = y.toNat by omega)]
/-- A variable that has no entry. -/
def shiftV (f v : Int) : Int := if -9223372036854775808 ≤ f + v ∧ f + v ≤ 9223372036854775807 then f + v else v
mutual
def Tm.inst (e : List Bd) (f : Int) : Tm → Tm
  | .mk k n s A c a =>
    if k = 2 then .mk 2 0 s none 0 (instL e f a)
    else if k = 1 then (look e n).getD (.mk 1 (shiftV f n) ByteArray.empty none 0 [])
    else if k = 0 then .mk 0 n ByteArray.empty none 0 []
    else .mk k n s A c a
def instL (e : List Bd) (f : Int) : List Tm → List Tm
  | [] => []
  | t :: r => t.inst e f :: instL e f r
end
theorem instL_map (e : List Bd) (f : Int) (l : List Tm) : instL e f l = l.map (Tm.inst e f) := by
  induction l with
  | nil => rfl
  | cons t r ih => simp [instL, ih]
theorem instL_len (e : List Bd) (f : Int) (l : List Tm) : (instL e f l).length = l.length := by rw [instL_map, List.length_map]
theorem cmp_ints (n : Int) (s s' : ByteArray) (A A' : Option Addr) (c c' : Nat) (a a' : List Tm) : cmpT (.mk 0 n s A c a) (.mk 0 n s' A' c' a') = 0 := by
  simp [cmpT, Tm.kind, Tm.num, ints_self, lex]
theorem cmp_funs {n n' : Int} {s : ByteArray} {A A' : Option Addr} {c c' : Nat} {a a' : List Tm} (h : cmpL a a' = 0) : cmpT (.mk 2 n s A c a) (.mk 2 n' s A' c' a') = 0 :=
  (cmp_fun _ _ _ _ _ _ _ _ _ _).2 ⟨cmpL_len h, texts_self _, h⟩
/-- The instance of a pattern that was matched is the term. -/
theorem inst_made (f : Int) : (∀ p : Tm, ∀ e t e' e'', matT e p t = some e' → (∀ v u, look e' v = some u → look e'' v = some u) → cmpT (p.inst e'' f) t = 0) ∧
    (∀ ps : List Tm, ∀ e ts e' e'', matL e ps ts = some e' → (∀ v u, look e' v = some u → look e'' v = some u) → cmpL (instL e'' f ps) ts = 0) := by
  refine Tm.induct2 (fun k n s A c a ih e t e' e'' h hk => ?_) (fun e ts e' e'' h hk => ?_) (fun p ps h1 h2 e ts e' e'' h hk => ?_)
  · simp only [matT] at h
    simp only [Tm.inst]
    by_cases h2 : k = 2
    · rw [if_pos h2] at h ⊢
      split at h
      · rename_i hc
        obtain ⟨k', n', s', A', c', a'⟩ := t
        simp only [Tm.kind, Tm.name, Tm.args] at h hc
        obtain ⟨rfl, rfl⟩ := hc
        exact cmp_funs (ih e _ e' e'' h hk)
      · cases h
    · rw [if_neg h2] at h ⊢
      by_cases h1 : k = 1
      · rw [if_pos h1] at h ⊢
        cases hl : look e n with
        | some u =>
          rw [hl] at h
          simp only at h
          split at h
          · rename_i hc
            injection h with h
            subst h
            rw [hk n u hl]
            exact hc
          · cases h
        | none =>
          rw [hl] at h
          simp only at h
          injection h with h
          subst h
          have := look_insE (b := ⟨n, t⟩) hl n
          rw [if_pos rfl] at this
          rw [hk n t this]
          exact cmp_self.1 t
      · rw [if_neg h1] at h ⊢
        split at h
        · rename_i hc
          split
          · rename_i h0
            subst h0
            exact cmp_trans (cmp_ints n _ s _ A _ c _ a) hc
          · exact hc
        · cases h
  · cases ts with
    | nil => rfl
    | cons _ _ => simp [matL] at h
  · cases ts with
    | nil => simp [matL] at h
    | cons t r =>
      simp only [matL] at h
      split at h
      · rename_i e1 he1
        have k2 := mat_ext.2 ps e1 r e' h
        simp only [instL, cmpL, lexz_iff]
        exact ⟨h1 e t e1 e'' he1 (fun v u hv => hk v u (k2.keep v u hv)), h2 e1 r e' e'' h hk⟩
      · cases h
theorem inst_fun (e : List Bd) (f n : Int) (s : ByteArray) (A : Option Addr) (c : Nat) (a : List Tm) : (Tm.mk 2 n s A c a).inst e f = .mk 2 0 s none 0 (instL e f a) := by simp [Tm.inst]
theorem inst_var (e : List Bd) (f n : Int) (s : ByteArray) (A : Option Addr) (c : Nat) (a : List Tm) : (Tm.mk 1 n s A c a).inst e f = (look e n).getD (.mk 1 (shiftV f n) ByteArray.empty none 0 []) := by simp [Tm.inst]
theorem inst_int (e : List Bd) (f n : Int) (s : ByteArray) (A : Option Addr) (c : Nat) (a : List Tm) : (Tm.mk 0 n s A c a).inst e f = .mk 0 n ByteArray.empty none 0 [] := by simp [Tm.inst]
theorem inst_else (e : List Bd) (f : Int) {k : Int} (n : Int) (s : ByteArray) (A : Option Addr) (c : Nat) (a : List Tm) (h2 : k ≠ 2) (h1 : k ≠ 1) (h0 : k ≠ 0) : (Tm.mk k n s A c a).inst e f = .mk k n s A c a := by simp [Tm.inst, h2, h1, h0]
theorem mat_fun (e : List Bd) (n n' : Int) (s s' : ByteArray) (A A' : Option Addr) (c c' : Nat) (a a' : List Tm) : matT e (.mk 2 n s A c a) (.mk 2 n' s' A' c' a') = if s = s' then matL e a a' else none := by simp [matT, Tm.kind, Tm.name, Tm.args]
theorem mat_var (e : List Bd) (n : Int) (s : ByteArray) (A : Option Addr) (c : Nat) (a : List Tm) (t : Tm) : matT e (.mk 1 n s A c a) t = (match look e n with
      | some u => if cmpT u t = 0 then some e else none
      | none => some (insE ⟨n, t⟩ e)) := by
  simp only [matT]
  try rw [if_neg (by decide), if_pos trivial]
  try (cases look e n <;> rfl)
theorem mat_else (e : List Bd) {k : Int} (n : Int) (s : ByteArray) (A : Option Addr) (c : Nat) (a : List Tm) (t : Tm) (h2 : k ≠ 2) (h1 : k ≠ 1) : matT e (.mk k n s A c a) t = if cmpT (.mk k n s A c a) t = 0 then some e else none := by simp [matT, h2, h1]
/-- A pattern all of whose variables have entries matches its own instance. -/
theorem mat_inst (f : Int) (env : List Bd) : (∀ p : Tm, ∀ e, (∀ v ∈ p.occ, ∃ u, look env v = some u) → (∀ v u, look e v = some u → look env v = some u) → ∃ e', matT e p (p.inst env f) = some e' ∧ ∀ v u, look e' v = some u → look env v = some u) ∧
    (∀ ps : List Tm, ∀ e, (∀ v ∈ occL ps, ∃ u, look env v = some u) → (∀ v u, look e v = some u → look env v = some u) → ∃ e', matL e ps (instL env f ps) = some e' ∧ ∀ v u, look e' v = some u → look env v = some u) := by
  refine Tm.induct2 (fun k n s A c a ih e ho hk => ?_) (fun e _ hk => ⟨e, rfl, hk⟩) (fun p ps h1 h2 e ho hk => ?_)
  · by_cases h2 : k = 2
    · subst h2
      rw [inst_fun, mat_fun, if_pos rfl]
      exact ih e (by simpa [Tm.occ] using ho) hk
    · by_cases h1 : k = 1
      · subst h1
        rw [inst_var, mat_var]
        obtain ⟨u, hu⟩ := ho n (by simp [Tm.occ])
        rw [hu]
        simp only [Option.getD_some]
        cases hl : look e n with
        | some u' =>
          have := hk n u' hl
          rw [hu] at this
          injection this with this
          subst this
          simp only
          rw [if_pos (cmp_self.1 u)]
          exact ⟨e, rfl, hk⟩
        | none =>
          simp only
          refine ⟨_, rfl, fun v x hx => ?_⟩
          rw [look_insE (b := ⟨n, u⟩) hl] at hx
          by_cases e' : n = v
          · rw [if_pos e'] at hx
            injection hx with hx
            rw [← e', ← hx, hu]
          · rw [if_neg e'] at hx
            exact hk v x hx
      · by_cases h0 : k = 0
        · subst h0
          rw [inst_int, mat_else _ _ _ _ _ _ _ (by decide) (by decide), if_pos (cmp_ints n s _ A _ c _ a _)]
          exact ⟨e, rfl, hk⟩
        · rw [inst_else _ _ _ _ _ _ _ h2 h1 h0, mat_else _ _ _ _ _ _ _ h2 h1, if_pos (cmp_self.1 _)]
          exact ⟨e, rfl, hk⟩
  · simp only [occL] at ho
    obtain ⟨e1, m1, m2⟩ := h1 e (fun v hv => ho v (by simp [hv])) hk
    obtain ⟨e2, m3, m4⟩ := h2 e1 (fun v hv => ho v (by simp [hv])) m2
    refine ⟨e2, ?_, m4⟩
    simp only [matL, instL, m1]
    exact m3
/-- Two results of matching. -/
def sameM : Option (List Bd) → Option (List Bd) → Prop
  | none, none => True
  | some a, some b => sameE a b
  | _, _ => False
theorem sameM_refl (o : Option (List Bd)) : sameM o o := by cases o with | none => exact trivial | some a => exact sameE_refl a
theorem cmp_zero_iff {t u t' u' : Tm} (h1 : cmpT t t' = 0) (h2 : cmpT u u' = 0) : cmpT t u = 0 ↔ cmpT t' u' = 0 :=
  ⟨fun h => cmp_trans (cmp_trans (cmp_symm h1) h) h2, fun h => cmp_trans (cmp_trans h1 h) (cmp_symm h2)⟩
/-- Matching does not see more than identity does. -/
theorem mat_same : (∀ p : Tm, ∀ e e' t t', sameE e e' → cmpT t t' = 0 → sameM (matT e p t) (matT e' p t')) ∧
    (∀ ps : List Tm, ∀ e e' ts ts', sameE e e' → cmpL ts ts' = 0 → sameM (matL e ps ts) (matL e' ps ts')) := by
  refine Tm.induct2 (fun k n s A c a ih e e' t t' he ht => ?_) (fun e e' ts ts' he ht => ?_) (fun p ps h1 h2 e e' ts ts' he ht => ?_)
  · simp only [matT]
    by_cases h2 : k = 2
    · rw [if_pos h2, if_pos h2]
      have hk := cmp_kind ht
      by_cases hc : t.kind = 2
      · have hc' : t'.kind = 2 := cls_two.1 (by rw [← hk, hc]; rfl)
        obtain ⟨k1, n1, s1, A1, c1, a1⟩ := t
        obtain ⟨k3, n3, s3, A3, c3, a3⟩ := t'
        simp only [Tm.kind] at hc hc'
        subst hc hc'
        rw [cmp_fun] at ht
        have hs : s1 = s3 := by
          have := texts_eq ht.2.1
          cases s1; cases s3; simp at this; rw [this]
        subst hs
        simp only [Tm.kind, Tm.name, Tm.args, true_and]
        split
        · exact ih e e' _ _ he ht.2.2
        · exact trivial
      · have hc' : ¬ t'.kind = 2 := fun h => hc (cls_two.1 (by rw [hk, h]; rfl))
        rw [if_neg (fun h => hc h.1), if_neg (fun h => hc' h.1)]
        exact trivial
    · rw [if_neg h2, if_neg h2]
      by_cases h1 : k = 1
      · rw [if_pos h1, if_pos h1]
        have hl := look_same he n
        cases h3 : look e n with
        | none =>
          rw [h3] at hl
          cases h4 : look e' n with
          | none => exact insE_same (x := ⟨n, t⟩) (y := ⟨n, t'⟩) rfl ht he
          | some _ => rw [h4] at hl; exact hl.elim
        | some u =>
          rw [h3] at hl
          cases h4 : look e' n with
          | none => rw [h4] at hl; exact hl.elim
          | some u' =>
            rw [h4] at hl
            simp only
            by_cases hc : cmpT u t = 0
            · rw [if_pos hc, if_pos ((cmp_zero_iff hl ht).1 hc)]
              exact he
            · rw [if_neg hc, if_neg (fun h => hc ((cmp_zero_iff hl ht).2 h))]
              exact trivial
      · rw [if_neg h1, if_neg h1]
        by_cases hc : cmpT (.mk k n s A c a) t = 0
        · rw [if_pos hc, if_pos (cmp_trans hc ht)]
          exact he
        · rw [if_neg hc, if_neg (fun h => hc (cmp_trans h (cmp_symm ht)))]
          exact trivial
  · cases ts with
    | nil =>
      cases ts' with
      | nil => exact he
      | cons _ _ => simp [cmpL] at ht
    | cons _ _ =>
      cases ts' with
      | nil => simp [cmpL] at ht
      | cons _ _ => exact trivial
  · cases ts with
    | nil =>
      cases ts' with
      | nil => exact trivial
      | cons _ _ => simp [cmpL] at ht
    | cons t r =>
      cases ts' with
      | nil => simp [cmpL] at ht
      | cons t' r' =>
        simp only [cmpL, lexz_iff] at ht
        have k1 := h1 e e' t t' he ht.1
        simp only [matL]
        cases h3 : matT e p t with
        | none =>
          rw [h3] at k1
          cases h4 : matT e' p t' with
          | none => exact trivial
          | some _ => rw [h4] at k1; exact k1.elim
        | some e1 =>
          rw [h3] at k1
          cases h4 : matT e' p t' with
          | none => rw [h4] at k1; exact k1.elim
          | some e2 =>
            rw [h4] at k1
            exact h2 e1 e2 r r' k1 ht.2
/-- A pattern without variables. -/
theorem mat_ground : (∀ p : Tm, p.occ = [] → ∀ e t, matT e p t = if cmpT p t = 0 then some e else none) ∧
    (∀ ps : List Tm, occL ps = [] → ∀ e ts, matL e ps ts = if cmpL ps ts = 0 then some e else none) := by
  refine Tm.induct2 (fun k n s A c a ih ho e t => ?_) (fun _ e ts => ?_) (fun p ps h1 h2 ho e ts => ?_)
  · simp only [matT]
    by_cases h2 : k = 2
    · subst h2
      rw [if_pos rfl]
      have ho' : occL a = [] := by simpa [Tm.occ] using ho
      by_cases hc : t.kind = 2
      · obtain ⟨k1, n1, s1, A1, c1, a1⟩ := t
        simp only [Tm.kind] at hc
        subst hc
        simp only [Tm.kind, Tm.name, Tm.args, true_and]
        rw [ih ho']
        by_cases hs : s = s1
        · subst hs
          rw [if_pos rfl]
          by_cases hl : cmpL a a1 = 0
          · rw [if_pos hl, if_pos (cmp_funs hl)]
          · rw [if_neg hl, if_neg (fun h => hl ((cmp_fun _ _ _ _ _ _ _ _ _ _).1 h).2.2)]
        · rw [if_neg hs, if_neg (fun h => hs (by
            have := texts_eq ((cmp_fun _ _ _ _ _ _ _ _ _ _).1 h).2.1
            cases s; cases s1; simp at this; rw [this]))]
      · rw [if_neg (fun h => hc h.1), if_neg (fun h => hc (cls_two.1 (by rw [← cmp_kind h]; rfl)))]
    · rw [if_neg h2]
      by_cases h1 : k = 1
      · simp [Tm.occ, h1] at ho
      · rw [if_neg h1]
  · cases ts with
    | nil => rfl
    | cons _ _ => rfl
  · simp only [occL, List.append_eq_nil_iff] at ho
    cases ts with
    | nil => rfl
    | cons t r =>
      have hcl : cmpL (p :: ps) (t :: r) = 0 ↔ cmpT p t = 0 ∧ cmpL ps r = 0 := by simp only [cmpL, lexz_iff]
      simp only [matL]
      rw [h1 ho.1]
      by_cases hc : cmpT p t = 0
      · rw [if_pos hc]
        simp only
        rw [h2 ho.2]
        by_cases hl : cmpL ps r = 0
        · rw [if_pos hl, if_pos (hcl.2 ⟨hc, hl⟩)]
        · rw [if_neg hl, if_neg (fun h => hl (hcl.1 h).2)]
      · rw [if_neg hc, if_neg (fun h => hc (hcl.1 h).1)]
end Go.Proofs.Ytceekaodhmncgaa
namespace Go.Proofs.Ytceekaodhmncgaa
open Go

def insAll (e N : List Bd) : List Bd := N.foldl (fun e x => insE x e) e
structure New (e N : List Bd) : Prop where
  dis : Dis N
  out : ∀ x ∈ N, look e x.var = none
theorem New.nil (e : List Bd) : New e [] := ⟨List.Pairwise.nil, fun x hx => by cases hx⟩
theorem insAll_next (e N : List Bd) (x : Bd) : insAll e (N ++ [x]) = insE x (insAll e N) := by simp [insAll, List.foldl_append]
theorem look_insAll {e N : List Bd} (h : New e N) (v : Int) : look (insAll e N) v = (look e v).or (look N v) := by
  induction N generalizing e with
  | nil => simp [insAll, look]
  | cons x r ih =>
    have hx := h.out x (by simp)
    have hd := List.pairwise_cons.1 h.dis
    have h2 : New (insE x e) r := ⟨hd.2, fun y hy => by rw [look_insE hx, if_neg (hd.1 y hy)]; exact h.out y (by simp [hy])⟩
    have := ih h2
    simp only [insAll, List.foldl_cons] at this ⊢
    rw [this, look_insE hx]
    simp only [look]
    by_cases e1 : x.var = v
    · rw [if_pos e1, if_pos e1, ← e1, hx]; rfl
    · rw [if_neg e1, if_neg e1]
theorem New.next {e N : List Bd} (h : New e N) {v : Int} (t : Tm) (he : look e v = none) (hN : look N v = none) : New e (N ++ [⟨v, t⟩]) := by
  refine ⟨List.pairwise_append.2 ⟨h.dis, List.pairwise_singleton _ _, fun a ha b hb => ?_⟩, fun x hx => ?_⟩
  · rw [List.mem_singleton.1 hb]; exact look_none.1 hN a ha
  · rcases List.mem_append.1 hx with hx | hx
    · exact h.out x hx
    · rw [List.mem_singleton.1 hx]; exact he
/-- Insertions of different variables can be exchanged. -/
theorem insE_comm {x y : Bd} (h : x.var ≠ y.var) (l : List Bd) : insE x (insE y l) = insE y (insE x l) := by
  induction l with
  | nil =>
    simp only [insE]
    rcases Int.lt_or_gt_of_ne h with h1 | h1
    · rw [if_pos h1, if_neg (by omega)]
    · rw [if_neg (by omega), if_pos h1]
  | cons z r ih =>
    simp only [insE]
    by_cases hy : y.var < z.var
    · rw [if_pos hy]
      by_cases hx : x.var < z.var
      · rw [if_pos hx]
        simp only [insE]
        rcases Int.lt_or_gt_of_ne h with h1 | h1
        · rw [if_pos h1, if_neg (by omega), if_pos hy]
        · rw [if_neg (by omega), if_pos hx, if_pos h1]
      · rw [if_neg hx]
        simp only [insE]
        rw [if_neg (by omega), if_neg hx, if_pos hy]
    · rw [if_neg hy]
      by_cases hx : x.var < z.var
      · rw [if_pos hx]
        simp only [insE]
        rw [if_pos hx, if_neg (by omega), if_neg hy]
      · rw [if_neg hx]
        simp only [insE]
        rw [if_neg hx, if_neg hy, ih]
theorem insAll_insE {x : Bd} {N : List Bd} (h : ∀ y ∈ N, x.var ≠ y.var) (e : List Bd) : insAll (insE x e) N = insE x (insAll e N) := by
  induction N generalizing e with
  | nil => rfl
  | cons y r ih =>
    show insAll (insE y (insE x e)) r = insE x (insAll (insE y e) r)
    rw [← insE_comm (h y (by simp)), ih (fun z hz => h z (by simp [hz]))]
theorem insAll_perm {N S : List Bd} (p : N.Perm S) (hd : Dis N) (e : List Bd) : insAll e N = insAll e S := by
  induction p generalizing e with
  | nil => rfl
  | cons x _ ih => exact ih (List.pairwise_cons.1 hd).2 _
  | swap x y l =>
    show insAll (insE x (insE y e)) l = insAll (insE y (insE x e)) l
    rw [insE_comm]
    have := List.pairwise_cons.1 hd
    exact Ne.symm (this.1 x (by simp))
  | trans p1 _ h1 h2 => rw [h1 hd, h2 (Dis.perm hd p1)]
/-- The merge of an environment and of bindings in order. -/
def mrg : List Bd → List Bd → List Bd
  | [], S => S
  | x :: l, [] => x :: l
  | x :: l, s :: S => if s.var < x.var then s :: mrg (x :: l) S else x :: mrg l (s :: S)
theorem mrg_nil (l : List Bd) : mrg l [] = l := by cases l <;> simp [mrg]
theorem insAll_nil (S : List Bd) : Asc S → insAll [] S = S := by
  intro h
  have : ∀ (A B : List Bd), Asc (A ++ B) → insAll A B = A ++ B := by
    intro A B
    induction B generalizing A with
    | nil => intro _; simp [insAll]
    | cons x r ih =>
      intro h
      have he : insE x A = A ++ [x] := by
        have hA : ∀ y ∈ A, y.var < x.var := fun y hy => (List.pairwise_append.1 h).2.2 y hy x (by simp)
        clear ih h
        induction A with
        | nil => rfl
        | cons y r ih =>
          simp only [insE]
          rw [if_neg (by have := hA y (by simp); omega), ih (fun z hz => hA z (by simp [hz]))]
          rfl
      show insAll (insE x A) r = _
      rw [he, ih _ (by simpa using h)]
      simp
  simpa using this [] S (by simpa using h)
theorem insAll_front {s x : Bd} {l : List Bd} (_h : s.var < x.var) (S : List Bd) (hS : ∀ y ∈ S, s.var < y.var) : insAll (s :: x :: l) S = s :: insAll (x :: l) S := by
  have : ∀ e, insAll (s :: e) S = s :: insAll e S := by
    induction S with
    | nil => intro e; rfl
    | cons y r ih =>
      intro e
      show insAll (insE y (s :: e)) r = s :: insAll (insE y e) r
      simp only [insE]
      rw [if_neg (by have := hS y (by simp); omega)]
      exact ih (fun z hz => hS z (by simp [hz])) _
  exact this _
theorem insAll_behind {x : Bd} {l : List Bd} (S : List Bd) (hS : ∀ y ∈ S, x.var ≤ y.var) : insAll (x :: l) S = x :: insAll l S := by
  induction S generalizing l with
  | nil => rfl
  | cons y r ih =>
    show insAll (insE y (x :: l)) r = x :: insAll (insE y l) r
    simp only [insE]
    rw [if_neg (by have := hS y (by simp); omega)]
    exact ih (fun z hz => hS z (by simp [hz]))
theorem mrg_ins : ∀ (l S : List Bd), Asc S → mrg l S = insAll l S
  | [], S, h => by rw [insAll_nil S h]; simp [mrg]
  | x :: l, [], _ => by simp [mrg, insAll]
  | x :: l, s :: S, h => by
    have hs := List.pairwise_cons.1 h
    simp only [mrg]
    split
    · rename_i hlt
      rw [mrg_ins (x :: l) S hs.2]
      show _ = insAll (insE s (x :: l)) S
      simp only [insE]
      rw [if_pos hlt, insAll_front hlt S hs.1]
    · rename_i hlt
      rw [mrg_ins l (s :: S) h, insAll_behind]
      intro y hy
      rcases List.mem_cons.1 hy with rfl | hy
      · omega
      · have := hs.1 y hy; omega
  termination_by l S => l.length + S.length
/-- What is new, in order. -/
theorem insAll_sort {N : List Bd} (hd : Dis N) (e : List Bd) : mrg e (sortB N) = insAll e N := by
  rw [mrg_ins _ _ (sortB_asc hd), insAll_perm (sortB_perm N) (Dis.perm hd (sortB_perm N).symm)]
theorem insAll_len (e N : List Bd) : (insAll e N).length = e.length + N.length := by
  induction N generalizing e with
  | nil => rfl
  | cons x r ih =>
    show (insAll (insE x e) r).length = _
    rw [ih, insE_len, List.length_cons]; omega
theorem insAll_mem {e N : List Bd} {x : Bd} : x ∈ insAll e N ↔ x ∈ e ∨ x ∈ N := by
  induction N generalizing e with
  | nil => simp [insAll]
  | cons y r ih =>
    show x ∈ insAll (insE y e) r ↔ _
    rw [ih, insE_mem, List.mem_cons]
    constructor
    · rintro ((h | h) | h)
      · exact .inr (.inl h)
      · exact .inl h
      · exact .inr (.inr h)
    · rintro (h | h | h)
      · exact .inl (.inr h)
      · exact .inl (.inl h)
      · exact .inr h
end Go.Proofs.Ytceekaodhmncgaa
namespace Go.Proofs.Ytceekaodhmncgaa
open Go.RowKit Go.Maps

/-- How an entry's term reads: as itself. -/
def heldR (v : Value) : Option (DataW Value × List MemPlace) := some (.held v, [])
abbrev KL (v : Int) : Lit := .int .i64 v
def VMap8 (D : DataW Value) (N : List Bd) : Prop := IsMap D ∧ (∀ v, has D (KL v) = (look N v).isSome) ∧ ∀ v u, look N v = some u → ∀ zd, D.atKey (KL v) zd = .held u.val
theorem VMap8.empty : VMap8 (.map []) [] := ⟨isMap_empty, fun v => rfl, fun v u h => by cases h⟩
theorem VMap8.put {D : DataW Value} {N : List Bd} (h : VMap8 D N) {n : Int} (hf : Fits n) (t : Tm) (hn : look N n = none) : VMap8 (D.put (KL n) (.held t.val)) (N ++ [⟨n, t⟩]) := by
  have hkey : WideAt.IsKeyLit (KL n) := keyed.key (keyOf_int_mk Try.underlying3 (fits_wf hf))
  refine ⟨h.1.put _ _, fun v => ?_, fun v u hv zd => ?_⟩
  · rw [look_append]
    by_cases e : v = n
    · subst e
      rw [has_put_same h.1 hkey, hn]
      simp [look]
    · rw [has_put_other (fun e' => e (by simpa using e')), h.2.1 v]
      simp only [look]
      rw [if_neg (fun e' => e e'.symm)]
      simp
  · rw [look_append] at hv
    by_cases e : v = n
    · subst e
      rw [hn] at hv
      simp only [Option.none_or, look, if_pos, Option.some.injEq] at hv
      rw [atKey_put_same h.1 hkey, hv]
    · rw [atKey_put_other (fun e' => e (by simpa using e'))]
      refine h.2.2 v u ?_ zd
      simp only [look] at hv
      rw [if_neg (fun e' => e e'.symm)] at hv
      simpa using hv

/-- The value of the known environment, and a world whose blocks stay, but for the box. -/
structure Kb where
  v : Value
  w : World
/-- The box M of the matching: zk the known environment, N what is new. Terms lie in w0. -/
structure Mst (w0 : World) (M : Nat) (zk : Kb) (N : List Bd) (W : World) : Prop where
  be : Below w0.heap.size w0 W
  lo : w0.heap.size ≤ M
  lt : M < W.heap.size
  sz : zk.w.heap.size ≤ W.heap.size
  ag : ∀ b, b < zk.w.heap.size → b ≠ M → W.heap[b]? = zk.w.heap[b]?
  c0 : W.cell? ⟨M, 0, none⟩ = some zk.v
  fz : ∀ j, W.frozen? ⟨M, j, none⟩ = false
  mp : (N = [] ∧ W.cell? ⟨M, 1, none⟩ = some (.map none)) ∨ ∃ mb D, W.cell? ⟨M, 1, none⟩ = some (.map (some mb)) ∧ M ≠ mb ∧ (w0.heap.size ≤ mb ∧ zk.w.heap.size ≤ mb) ∧ W.ownsMap Try.prog 3 heldR mb N.length D ∧ VMap8 D N
  tm : ∀ x ∈ N, Fits x.var ∧ x.tm.At w0 ∧ x.tm.nodes ≤ 1000000
section
variable {w0 W W' : World} {M : Nat} {zk : Kb} {N : List Bd}
theorem ownsMap_below {b n : Nat} {D : DataW Value} (h : W.ownsMap Try.prog 3 heldR b n D) (hb : Below W.heap.size W W') : W'.ownsMap Try.prog 3 heldR b n D :=
  h.kept (row := none) ⟨hb.os, hb.tape, hb.output, hb.size, fun k hk _ => hb.block k hk⟩ (by simp)
theorem Mst.below (h : Mst w0 M zk N W) (hb : Below W.heap.size W W') : Mst w0 M zk N W' := by
  refine ⟨h.be.trans (hb.mono h.be.size), h.lo, Nat.lt_of_lt_of_le h.lt hb.size, Nat.le_trans h.sz hb.size, fun b h1 h2 => (hb.block b (Nat.lt_of_lt_of_le h1 h.sz)).trans (h.ag b h1 h2), keepv hb h.c0, fun j => (hb.frozen (p := ⟨M, j, none⟩) h.lt).trans (h.fz j), ?_, h.tm⟩
  rcases h.mp with ⟨h1, h2⟩ | ⟨mb, D, h1, h2, h3, h4, h5⟩
  · exact .inl ⟨h1, keepv hb h2⟩
  · exact .inr ⟨mb, D, keepv hb h1, h2, h3, ownsMap_below h4 hb, h5⟩
theorem Mst.alloc (h : Mst w0 M zk N W) (o : Obj) : Mst w0 M zk N (W.alloc o) := h.below (below1 _ _)
theorem Mst.drew (h : Mst w0 M zk N W) : Mst w0 M zk N W.drew := h.below (Below.refl _ _).drew
end
/-- What a step of matching answers: whether it matches; then, what is new. -/
def MatR (w0 : World) (env : List Bd) (M : Nat) (zk : Kb) (r : Option (List Bd)) (k : Nat) (e : Ending) (W' : World) : Prop :=
  e = .returned (.bool r.isSome) ∧ Below w0.heap.size w0 W' ∧ ∀ e', r = some e' → ∃ N', e' = insAll env N' ∧ New env N' ∧ N'.length ≤ k ∧ Mst w0 M zk N' W'
/-- 'v, ok := m[n]' at the map of what is new. -/
theorem look8 {W : World} {mb c : Nat} {D : DataW Value} {N : List Bd} (h : W.ownsMap Try.prog 3 heldR mb c D) (hv : VMap8 D N) {n : Int} (hf : Fits n) :
    (∀ u, look N n = some u → (Instr.lookup 74 (.map (some mb)) (.int .i64 n) true).run Try.prog W = .ok (.tuple #[u.val, .bool true]) W) ∧
    (look N n = none → (Instr.lookup 74 (.map (some mb)) (.int .i64 n) true).run Try.prog W = .ok (.tuple #[.agg #[.int .i64 0, .int .i64 0, .string ⟨#[]⟩, .slice none 0 0], .bool false]) W) ∧
    (∀ u, look N n = some u → (Instr.lookup 74 (.map (some mb)) (.int .i64 n) false).run Try.prog W = .ok u.val W) := by
  have hz : (zeroValue 25).run Try.prog W = .ok (.agg #[.int .i64 0, .int .i64 0, .string ⟨#[]⟩, .slice none 0 0]) W := by kernel_rfl
  obtain ⟨v, ps, hrun, hR⟩ := World.ownsMap.look_ok h keyed Try.underlying74 hz (zd := .held (.agg #[.int .i64 0, .int .i64 0, .string ⟨#[]⟩, .slice none 0 0])) (zp := []) rfl (keyOf_int_mk Try.underlying3 (fits_wf hf))
  have hR' : DataW.held v = D.atKey (KL n) (.held (.agg #[.int .i64 0, .int .i64 0, .string ⟨#[]⟩, .slice none 0 0])) := by
    have := congrArg (fun o => o.map Prod.fst) hR
    simpa [heldR] using this
  obtain ⟨v2, ps2, hrun2, hR2⟩ := World.ownsMap.lookup h keyed Try.underlying74 hz (zd := .held (.agg #[.int .i64 0, .int .i64 0, .string ⟨#[]⟩, .slice none 0 0])) (zp := []) rfl (keyOf_int_mk Try.underlying3 (fits_wf hf))
  have hR2' : DataW.held v2 = D.atKey (KL n) (.held (.agg #[.int .i64 0, .int .i64 0, .string ⟨#[]⟩, .slice none 0 0])) := by
    have := congrArg (fun o => o.map Prod.fst) hR2
    simpa [heldR] using this
  rw [show Maps.has D (.int .i64 n) = (look N n).isSome from hv.2.1 n] at hrun
  refine ⟨fun u hu => ?_, fun hu => ?_, fun u hu => ?_⟩
  · rw [hv.2.2 n u hu] at hR'
    have e := DataW.held.inj hR'
    rw [hu, e] at hrun
    exact hrun
  · have hno : Maps.has D (KL n) = false := by rw [hv.2.1 n, hu]; rfl
    rw [atKey_of_not_has hno] at hR'
    have e := DataW.held.inj hR'
    rw [hu, e] at hrun
    exact hrun
  · rw [hv.2.2 n u hu] at hR2'
    have e := DataW.held.inj hR2'
    rw [e] at hrun2
    exact hrun2
end Go.Proofs.Ytceekaodhmncgaa
