/-
  Contract of copyOf of the program: a term with lists of its own.
-/
import Derived.Test.YtpnjjahimhhjkaaSuDoing
import Derived.Test.YtpnjjahimhhjkaaSuVarIn
import Derived.Deep.RegionLaw
namespace Go.Proofs.Ytpnjjahimhhjkaa
open Go.RowKit

/-- A term like t, in blocks of the call's own. -/
def Made (t : Tm) (w : World) (e : Ending) (w' : World) : Prop := ∃ u : Tm, e = .returned u.val ∧ u.strip = t.strip ∧ Lie Any w.heap.size No w' u ∧ Below w.heap.size w w'
def MadeL (l : List Tm) (w : World) (e : Ending) (w' : World) : Prop :=
  ∃ A cap, ∃ cur : List Tm, e = .returned (.slice A l.length cap) ∧ cur.length = l.length ∧ stripL cur = stripL l ∧ (∀ W, Agree w.heap.size No w' W → Lst W A cur cap) ∧ Below w.heap.size w w'
theorem length_le_nodes (l : List Tm) : l.length ≤ nodesL l := by
  induction l with
  | nil => simp [nodesL]
  | cons t r ih =>
    have h : 1 ≤ t.nodes := by cases t; simp [Tm.nodes]
    simp only [nodesL, List.length_cons]; omega
theorem two_boxes (w : World) (v0 v1 v2 v3 u0 u1 u2 u3 : Value) (T : TypeId) :
    Held w.heap.size ((w.alloc (.cells #[v0, v1, v2, v3] T)).alloc (.cells #[u0, u1, u2, u3] T)) v0 v1 v2 v3 ∧ Held (w.heap.size + 1) ((w.alloc (.cells #[v0, v1, v2, v3] T)).alloc (.cells #[u0, u1, u2, u3] T)) u0 u1 u2 u3 := by
  have h := held_new (v0 := u0) (v1 := u1) (v2 := u2) (v3 := u3) (w.alloc (.cells #[v0, v1, v2, v3] T)) T
  rw [World.size_alloc] at h
  exact ⟨(held_new w T).alloc _, h⟩
/-- A term whose arguments are made anew. -/
theorem lie_row {w w' : World} {k n : Int} {s : ByteArray} {A : Option Addr} {cap lo : Nat} {cur : List Tm} (hp : Fits k ∧ Fits n ∧ s.size ≤ maxLen) (h : ∀ W, Agree lo No w' W → Lst W A cur cap) (hlo : w.heap.size ≤ lo) : Lie Any w.heap.size No w' (.mk k n s A cap cur) :=
  fun W _ hW => (At_iff _ _).2 ⟨hp, h W fun b h1 h2 h3 => hW b (by omega) h2 h3⟩

set_option maxHeartbeats 4000000 in
theorem copy_at (t : Tm) : ∀ w : World, t.At w → t.nodes ≤ 1000000 → Calls Try.prog 83 #[t.val] w (Made t w) := by
  induction t using Tm.induct with
  | h k n s A c a ih =>
    intro w hat hnodes
    show Calls Try.prog 83 #[.agg #[.int .i64 k, .int .i64 n, .string s, .slice A a.length c]] w _
    have hl : Lst w A a c := hat.lst
    have hna : nodesL a ≤ 1000000 := by simp only [Tm.nodes] at hnodes; omega
    have hln : a.length ≤ 1000000 := by have := length_le_nodes a; omega
    have hlen : a.length ≤ 9223372036854775807 := by omega
    have HP := Lib.hid ((At_iff _ _).1 hat).1
    simp only [Tm.kind, Tm.num, Tm.name] at HP
    obtain ⟨HB0, HB1⟩ := two_boxes w (.int .i64 k) (.int .i64 n) (.string s) (.slice A a.length c) (.int .i64 0) (.int .i64 0) (.string ⟨#[]⟩) (.slice none 0 0) 24
    have H0 := Lib.hid HB0
    have H1 := Lib.hid HB1
    clear HB0 HB1
    by_cases h0 : a.length = 0
    · obtain rfl : a = [] := List.length_eq_zero_iff.1 h0
      have Q := Lib.hid (fun W => clone_none_at A c W)
      clear ih hl hna hln hat hnodes h0 hlen
      show Calls Try.prog 83 #[.agg #[.int .i64 k, .int .i64 n, .string s, .slice A 0 c]] w _
      go_enter Try.func83, Try.ntmps83
      go_wp2_with fail
      refine (Q.out _).mono ?_
      rintro e w1 ⟨A', cap, rfl, g1, g2, _, hb⟩
      have HK := Lib.hid (H0.out.below hb)
      have HM := Lib.hid (H1.out.below hb)
      have hb1 := (below2 w (.cells #[.int .i64 k, .int .i64 n, .string s, .slice A ([] : List Tm).length c] 24) zeroBox).trans (hb.mono (by simp; omega))
      obtain ⟨_, d0, d1, d2, d3, f⟩ := HK.out
      obtain ⟨hz, e0, e1, e2, e3, f'⟩ := HM.out
      have f3 := f 3
      have f0' := f' 0
      have f1' := f' 1
      have f2' := f' 2
      have f3' := f' 3
      have HB := Lib.hid hb1
      have HC := Lib.hid (show Lst w1 A' [] cap from ⟨g1, g2, fun h => by simp at h⟩)
      clear f f' hb hb1 g1 g2
      have hz0 : w.heap.size < w1.heap.size := by omega
      go_wp2_with fail
      go_loopw [12] (fun i wr => i = .int .i64 0 ∧ wr = w1.setCell ⟨w.heap.size, 3, none⟩ (.slice A' 0 cap)) (fun _ _ => 0)
      case atStart => exact ⟨rfl, rfl⟩
      case round =>
        obtain ⟨rfl, rfl⟩ := hrel
        go_wp2_with fail
        refine bodyPost_ret (v := .agg #[.int .i64 k, .int .i64 n, .string s, .slice A' 0 cap]) (by simp [results, Try.results83, go_sem, e0, e1, e2, e3]) rfl ?_
        refine ⟨.mk k n s A' cap [], rfl, rfl, lie_row (lo := w.heap.size) HP.out (fun W _ => ⟨HC.out.1, HC.out.2.1, fun h => by simp at h⟩) (Nat.le_refl _), set4c (HB.out.setCell (Nat.le_refl _) _) (Nat.le_succ _)⟩
    · have hp : 0 < a.length := by omega
      obtain ⟨b, o, rfl, hrow⟩ := hl.2.2 hp
      have Q := Lib.hid (fun W (h : Below w.heap.size w W) => clone_at a b o c W hp ((At_keep h).2 _ _ _ hrow) hln)
      have QI := Lib.hid (fun x (hx : x ∈ a) W (h : Below w.heap.size w W) => ih x hx W ((hl.mem hx).below h) (by have := nodes_mem hx; omega))
      clear ih hl hna hat hnodes h0 hrow hln
      go_enter Try.func83, Try.ntmps83
      go_wp2_with fail
      refine (Q.out _ (below2 _ _ _)).mono ?_
      rintro e w1 ⟨A', cap, rfl, g1, g2, g3, hb⟩
      obtain ⟨g, rfl, hg, hrow⟩ := g3 hp
      have HK := Lib.hid (H0.out.below hb)
      have HM := Lib.hid (H1.out.below hb)
      have hb1 := (below2 w (.cells #[.int .i64 k, .int .i64 n, .string s, .slice (some ⟨b, o, none⟩) a.length c] 24) zeroBox).trans (hb.mono (by simp; omega))
      have hg' : w.heap.size + 2 ≤ g := by simpa using hg
      have hcap : a.length ≤ cap := g1
      have hcap2 : cap ≤ 9223372036854775807 := by unfold maxLen at g2; exact g2
      have HS := Lib.hid (Putting.other (Putting.start (f := id) (lo := w.heap.size + 2) hrow) (p := ⟨w.heap.size, 3, none⟩) (by show w.heap.size < _; omega) (by show w.heap.size ≠ g; omega) (.slice (some ⟨g, 0, none⟩) a.length cap))
      have d3 := HK.out.c3
      have f3 := HK.out.free 3
      have hz0 : w.heap.size < w1.heap.size := HK.out.lt
      have HBs := Lib.hid (hb1.setCell (p := ⟨w.heap.size, 3, none⟩) (Nat.le_refl _) (.slice (some ⟨g, 0, none⟩) a.length cap))
      have K3 := Lib.hid (HK.out.set3 (.slice (some ⟨g, 0, none⟩) a.length cap))
      have M3 := Lib.hid (HM.out.other (p := ⟨w.heap.size, 3, none⟩) (by show w.heap.size ≠ _; omega) (.slice (some ⟨g, 0, none⟩) a.length cap))
      clear g3 hrow hg hb hb1 g1 g2 HK HM Q H0 H1
      go_wp2_with fail
      go_loopw [12] (fun i wr => ∃ j : Nat, j ≤ a.length ∧ i = .int .i64 j ∧ Hid (Putting id a g (w.heap.size + 2) j wr) ∧ Hid (Held w.heap.size wr (.int .i64 k) (.int .i64 n) (.string s) (.slice (some ⟨g, 0, none⟩) a.length cap)) ∧ Hid (Held (w.heap.size + 1) wr (.int .i64 0) (.int .i64 0) (.string ⟨#[]⟩) (.slice none 0 0)) ∧ Hid (Below w.heap.size w wr)) (fun i _ => a.length - (intOf i).toNat)
      case atStart => exact ⟨0, Nat.zero_le _, rfl, HS, K3, M3, HBs⟩
      case round =>
        clear HS K3 M3 HBs d3 f3 hz0
        obtain ⟨j, hj, rfl, HF, K, M, HB⟩ := hrel
        by_cases hlt : j < a.length
        · obtain ⟨x, hx⟩ : ∃ x, x = a.getD j default := ⟨_, rfl⟩
          have hcl := HF.out.cells hlt
          rw [← hx] at hcl
          have c0 := hcl 0 _ rfl
          have c1 := hcl 1 _ rfl
          have c2 := hcl 2 _ rfl
          have c3 := hcl 3 _ rfl
          simp only [Nat.add_zero] at c0
          have hmem : x ∈ a := by rw [hx]; exact getD_mem hlt
          have Q1 := Lib.hid (fun W (h : Below w.heap.size w W) => QI.out x hmem W h)
          have HX := Lib.hid hx
          have hgs : g < wr.heap.size := HF.out.lt
          have d3 := K.out.c3
          have kd : ∀ ob : Obj, (wr.alloc ob).cell? ⟨w.heap.size, 3, none⟩ = some (.slice (some ⟨g, 0, none⟩) a.length cap) := fun ob => (K.out.alloc ob).c3
          clear hx hcl hmem QI
          obtain ⟨k', n', s', A', c', a'⟩ := x
          simp only [Tm.kind, Tm.num, Tm.name, Tm.at_, Tm.args, Tm.cap] at c0 c1 c2 c3
          go_wp2_with fail
          go_region_with (go_at_call 83; refine (Q1.out _ ((HB.out.alloc HB.out.size _).drew)).mono ?_; rintro e w2 ⟨u, rfl, hu, hlie, hb2⟩; have hw : Below wr.heap.size wr w2 := (below1 wr _).trans (undrew (hb2.mono (by simp))); have HN := Lib.hid (putting_next HF.out hlt HX.out (by have := HB.out.size; have := K.out.lt; have := M.out.lt; omega) hu (hlie.low (by simp)) hw _ rfl); have D2 := HF.out.below hw; have K2 := Lib.hid (K.out.below hw); have M2 := Lib.hid (M.out.below hw); have HB2 := Lib.hid (HB.out.trans (hw.mono HB.out.size)); have e0 := D2.cells hlt; rw [← HX.out] at e0; have q0 := e0 0 _ rfl; have q1 := e0 1 _ rfl; have q2 := e0 2 _ rfl; have q3 := e0 3 _ rfl; simp only [Nat.add_zero, Tm.kind, Tm.num, Tm.name, Tm.at_, Tm.args, Tm.cap] at q0 q1 q2 q3; have f0 := D2.free (j * 4); have f1 := D2.free (j * 4 + 1); have f2 := D2.free (j * 4 + 2); have f3 := D2.free (j * 4 + 3); have hgz := D2.lt; have z3 := K2.out.c3; obtain ⟨k2, n2, s2, A2, p2, a2⟩ := u; simp only [Tm.kind, Tm.num, Tm.name, Tm.at_, Tm.args, Tm.cap] at HN; clear e0 hu hlie hb2 D2 hw)
          all_goals
            go_wp2_with fail
            go_roundw
            case rel => exact ⟨j + 1, by omega, by go_num, HN, Lib.hid (K2.out.other4 (by omega) _ _ _ _), Lib.hid (M2.out.other4 (by omega) _ _ _ _), Lib.hid (below4 HB2.out (by omega) _ _ _ _)⟩
            case measure => simp [intOf]; omega
        · obtain rfl : j = a.length := by omega
          have HD := Lib.hid (fun w' => HF.out.done (w' := w') (by omega))
          obtain ⟨hz1, d0, d1, d2, d3, _⟩ := K.out
          obtain ⟨hz, e0, e1, e2, e3, f'⟩ := M.out
          have f0' := f' 0
          have f1' := f' 1
          have f2' := f' 2
          have f3' := f' 3
          clear f' QI HF
          go_wp2_with fail
          refine bodyPost_ret (v := .agg #[.int .i64 k, .int .i64 n, .string s, .slice (some ⟨g, 0, none⟩) a.length cap]) (by simp [results, Try.results83, go_sem, e0, e1, e2, e3]) rfl ?_
          obtain ⟨news, hn, hst, hL⟩ := HD.out ((((wr.setCell ⟨w.heap.size + 1, 0, none⟩ (.int .i64 k)).setCell ⟨w.heap.size + 1, 1, none⟩ (.int .i64 n)).setCell ⟨w.heap.size + 1, 2, none⟩ (.string s)).setCell ⟨w.heap.size + 1, 3, none⟩ (.slice (some ⟨g, 0, none⟩) a.length cap)) (by rw [size_set4]; exact Nat.le_refl _) (fun b h1 h2 => heap_set4 _ (by omega) _ _ _ _) cap hcap (by unfold maxLen; exact hcap2)
          refine ⟨.mk k n s (some ⟨g, 0, none⟩) cap news, by rw [← hn]; rfl, ?_, lie_row (lo := w.heap.size + 2) HP.out hL (by omega), set4c HB.out (Nat.le_succ _)⟩
          simp only [Tm.strip, hst, List.map_id]
end Go.Proofs.Ytpnjjahimhhjkaa
