/-
  Contracts of Term and Atom of the program.
  Contracts of ApplyAtom and ApplyGoal of the program.
  Contracts of Instance, InstanceAtom and InstanceGoal of the program.
  The chapter's examples, plainly: what matching and instances give there; terms and boxes that lie.
  Contracts of Fun of the reference at the examples; rows that were just laid.
  Contracts of InstanceAtom and InstanceGoal of the reference.
  What the laws of matching share: the boxes of the arguments, the argument of MatchTerms opened, results in one form.
-/
import Derived.Test.YtceekaodhmncgaaMl8x14
import Derived.Test.YtceekaodhmncgaaMl8x9
import Derived.Test.YtceekaodhmncgaaMl8x5
import Derived.Test.YtceekaodhmncgaaMl8x10
import Derived.Test.YtceekaodhmncgaaMl8x7
import Derived.KernelRfl
import Derived.Deep.AppendSrc
import Derived.Test.YtceekaodhmncgaaMl8x12
import Derived.Test.YtceekaodhmncgaaMl8x11
import Derived.Test.YtceekaodhmncgaaMl8x6
namespace Go.Proofs.Ytceekaodhmncgaa
open Go.RowKit

theorem matL_one (e : List Bd) (p t : Tm) : matL e [p] [t] = matT e p t := by
  simp only [matL]
  cases matT e p t <;> rfl

set_option maxHeartbeats 2000000 in
theorem match_term_at (env : List Bd) (E : Option Addr) (ce : Nat) (p t : Tm) (w : World) (hE : BLst w E env ce) (hle : env.length ≤ 1000000) (hnE : ∀ x ∈ env, x.tm.nodes ≤ 1000000) (hp : p.At w) (ht : t.At w) (hnp : p.nodes ≤ 1000000) (hnt : t.nodes ≤ 1000000) :
    Calls Try.prog 12 #[.slice E env.length ce, p.val, t.val] w (AllR8 (matT env p t) w) := by
  have Q := Lib.hid (fun W b1 b2 (h : Below w.heap.size w W) (h1 : Lst W (some ⟨b1, 0, none⟩) [p] 1) (h2 : Lst W (some ⟨b2, 0, none⟩) [t] 1) => all_at env E ce [p] [t] (some ⟨b1, 0, none⟩) (some ⟨b2, 0, none⟩) 1 1 W (hE.below h) hle hnE h1 h2 (by simp [nodesL]; omega) (fun x hx => by rw [List.mem_singleton.1 hx]; exact hnt))
  rw [matL_one] at Q
  have HP := Lib.hid (fun W (h : Below w.heap.size w W) => Lst.of_row (row_one p (hp.below h)) (by simp))
  have HT := Lib.hid (fun W (h : Below w.heap.size w W) => Lst.of_row (row_one t (ht.below h)) (by simp))
  generalize matT env p t = r at *
  clear hE hle hnE hp ht hnp hnt
  obtain ⟨k, n, s, A, c, a⟩ := p
  obtain ⟨k', n', s', A', c', a'⟩ := t
  show Calls Try.prog 12 #[.slice E env.length ce, .agg #[.int .i64 k, .int .i64 n, .string s, .slice A a.length c], .agg #[.int .i64 k', .int .i64 n', .string s', .slice A' a'.length c']] w _
  obtain ⟨H0, H1⟩ := two_boxes w (.int .i64 k) (.int .i64 n) (.string s) (.slice A a.length c) (.int .i64 k') (.int .i64 n') (.string s') (.slice A' a'.length c') 25
  have h1x := fun o => H1.alloc o
  have HB2 := Lib.hid (below2 w (.cells #[.int .i64 k, .int .i64 n, .string s, .slice A a.length c] 25) (.cells #[.int .i64 k', .int .i64 n', .string s', .slice A' a'.length c'] 25))
  obtain ⟨_, x0, x1, x2, x3, _⟩ := H0
  have y0 := fun o => (h1x o).c0
  have y1 := fun o => (h1x o).c1
  have y2 := fun o => (h1x o).c2
  have y3 := fun o => (h1x o).c3
  have h1 := HP.out _ HB2.out
  simp only [Tm.kind, Tm.num, Tm.name, Tm.at_, Tm.args, Tm.cap, World.size_alloc] at h1
  have h2 := HT.out _ (HB2.out.trans ((below1 _ (.cells #[.int .i64 k, .int .i64 n, .string s, .slice A a.length c] 25)).mono HB2.out.size))
  simp only [Tm.kind, Tm.num, Tm.name, Tm.at_, Tm.args, Tm.cap, World.size_alloc] at h2
  have HL1 := Lib.hid (h1.below (below1 _ (.cells #[.int .i64 k', .int .i64 n', .string s', .slice A' a'.length c'] 25)))
  have HL2 := Lib.hid h2
  have HB4 := Lib.hid (HB2.out.trans ((below2 _ (.cells #[.int .i64 k, .int .i64 n, .string s, .slice A a.length c] 25) (.cells #[.int .i64 k', .int .i64 n', .string s', .slice A' a'.length c'] 25)).mono HB2.out.size))
  clear h1x H1 h1 h2 HP HT
  go_enter Try.func12, Try.ntmps12
  go_wp2_with fail
  refine (Q.out _ _ _ HB4.out HL1.out HL2.out).mono ?_
  rintro e w2 ⟨D, q, l, rfl, e1, e2, e3⟩
  have HR := Lib.hid (show stripB l = stripB (r.getD []) ∧ BLst w2 D l q ∧ Below w.heap.size w w2 from ⟨e1, e2, HB4.out.trans (e3.mono HB4.out.size)⟩)
  clear e1 e2 e3
  go_wp2_with fail
  go_ret2
  exact ⟨D, q, l, rfl, HR.out⟩

set_option maxHeartbeats 2000000 in
theorem match_atom_at (env : List Bd) (E : Option Addr) (ce : Nat) (p t : Am) (w : World) (hE : BLst w E env ce) (hle : env.length ≤ 1000000) (hnE : ∀ x ∈ env, x.tm.nodes ≤ 1000000) (hp : p.At w) (ht : t.At w) (hnp : nodesL p.args ≤ 1000000) (hnt : nodesL t.args ≤ 1000000) :
    Calls Try.prog 16 #[.slice E env.length ce, p.val, t.val] w (AllR8 (if p.name = t.name then matL env p.args t.args else none) w) := by
  have Q := Lib.hid (fun W (h : Below w.heap.size w W) => all_at env E ce p.args t.args p.at_ t.at_ p.cap t.cap W (hE.below h) hle hnE (hp.2.below h) (ht.2.below h) hnp (fun x hx => by have := nodes_mem hx; omega))
  obtain ⟨s, A, c, a⟩ := p
  obtain ⟨s', A', c', a'⟩ := t
  simp only at Q
  clear hE hle hnE hp ht hnp hnt
  have HB2 := Lib.hid (below2 w (.cells #[.string s, .slice A a.length c] 36) (.cells #[.string s', .slice A' a'.length c'] 36))
  obtain ⟨x0, x1, y0, y1⟩ := box2 (Below.refl _ ((w.alloc (.cells #[.string s, .slice A a.length c] 36)).alloc (.cells #[.string s', .slice A' a'.length c'] 36)))
  show Calls Try.prog 16 #[.slice E env.length ce, .agg #[.string s, .slice A a.length c], .agg #[.string s', .slice A' a'.length c']] w _
  by_cases hs : s = s'
  · subst hs
    rw [if_pos rfl]
    generalize matL env a a' = r at *
    go_enter Try.func16, Try.ntmps16
    go_wp2_with fail
    refine (Q.out _ HB2.out).mono ?_
    rintro e w2 ⟨D, q, l, rfl, e1, e2, e3⟩
    have HR := Lib.hid (show stripB l = stripB (r.getD []) ∧ BLst w2 D l q ∧ Below w.heap.size w w2 from ⟨e1, e2, HB2.out.trans (e3.mono HB2.out.size)⟩)
    clear e1 e2 e3
    go_wp2_with fail
    go_ret2
    exact ⟨D, q, l, rfl, HR.out⟩
  · have g3 : (s.toList == s'.toList) = false := byte_ne hs
    rw [if_neg hs]
    clear Q hs
    go_enter Try.func16, Try.ntmps16
    go_wp2_with fail
    go_ret2
    exact ⟨none, 0, [], rfl, rfl, BLst.nil _, HB2.out⟩
end Go.Proofs.Ytceekaodhmncgaa
namespace Go.Proofs.Ytceekaodhmncgaa
open Go.RowKit

/-- A box that may be written. -/
structure HeldL (B : Nat) (w : World) (vs : List Value) : Prop where
  lt : B < w.heap.size
  cell : ∀ j v, vs[j]? = some v → w.cell? ⟨B, j, none⟩ = some v
  free : ∀ j, w.frozen? ⟨B, j, none⟩ = false
theorem HeldL.below {B : Nat} {w w' : World} {vs : List Value} (h : HeldL B w vs) (hb : Below w.heap.size w w') : HeldL B w' vs :=
  ⟨Nat.lt_of_lt_of_le h.lt hb.size, fun j v hv => keepv hb (h.cell j v hv), fun j => (hb.frozen (p := ⟨B, j, none⟩) h.lt).trans (h.free j)⟩
theorem heldL_new (w : World) (vs : List Value) (T : TypeId) : HeldL w.heap.size (w.alloc (.cells vs.toArray T)) vs :=
  ⟨by simp, fun j v hv => by rw [World.cell?_alloc_at _ _ _ _ rfl, List.getElem?_toArray]; exact hv, fun j => World.frozen?_alloc_at _ _ _ _ rfl⟩
theorem two_boxesL (w : World) (vs us : List Value) (T : TypeId) : HeldL w.heap.size ((w.alloc (.cells vs.toArray T)).alloc (.cells us.toArray T)) vs ∧ HeldL (w.heap.size + 1) ((w.alloc (.cells vs.toArray T)).alloc (.cells us.toArray T)) us := by
  have h := heldL_new (w.alloc (.cells vs.toArray T)) us T
  rw [World.size_alloc] at h
  exact ⟨(heldL_new w vs T).below (below1 _ _), h⟩
/-- In each world of B that has w's blocks from lo on, the list lies. -/
def LL (B : World → Prop) (lo : Nat) (w : World) (A : Option Addr) (cur : List Tm) (cap : Nat) : Prop := ∀ W, B W → Agree lo No w W → Lst W A cur cap
theorem LL.set {B : World → Prop} {lo : Nat} {w : World} {A : Option Addr} {cur : List Tm} {cap : Nat} (h : LL B lo w A cur cap) {p : Addr} (hp : p.block < lo) (v : Value) : LL B lo (w.setCell p v) A cur cap :=
  fun W hB hW => h W hB fun b h1 h2 h3 => (hW b h1 (by simpa [World.setCell] using h2) h3).trans (Below.heap_setCell _ _ _ _ (by omega))
theorem LL.low {B : World → Prop} {lo lo' : Nat} {w : World} {A : Option Addr} {cur : List Tm} {cap : Nat} (h : LL B lo w A cur cap) (hl : lo' ≤ lo) : LL B lo' w A cur cap := fun W hB hW => h W hB fun b h1 h2 h3 => hW b (by omega) h2 h3
theorem LL.lst {B : World → Prop} {lo : Nat} {w : World} {A : Option Addr} {cur : List Tm} {cap : Nat} (h : LL B lo w A cur cap) (hB : B w) : Lst w A cur cap := h w hB (Agree.refl _ _ _)

/-- A thing like t, with the substitution applied. -/
def MadeAm (l : List Bd) (t : Am) (w : World) (e : Ending) (w' : World) : Prop := ∃ u : Am, e = .returned u.val ∧ (u.name = t.name) ∧ stripL u.args = stripL (appL l t.args) ∧ u.At w' ∧ Below w.heap.size w w'
/-- A thing like t, with the substitution applied. -/
def MadeGl (l : List Bd) (t : Gl) (w : World) (e : Ending) (w' : World) : Prop := ∃ u : Gl, e = .returned u.val ∧ (u.op = t.op ∧ u.name = t.name) ∧ stripL u.args = stripL (appL l t.args) ∧ u.At w' ∧ Below w.heap.size w w'
end Go.Proofs.Ytceekaodhmncgaa
namespace Go.Proofs.Ytceekaodhmncgaa
open Go.RowKit

theorem inst_of_look {b b' : List Bd} (f : Int) (h : ∀ v, look b v = look b' v) : (∀ t : Tm, t.inst b f = t.inst b' f) ∧ (∀ l, instL b f l = instL b' f l) := by
  refine Tm.induct2 (fun k n s A c a ih => ?_) rfl (fun t r h1 h2 => ?_)
  · simp only [Tm.inst, h, ih]
  · simp only [instL, h1, h2]

set_option maxHeartbeats 2000000 in
theorem inst_term_at (l : List Bd) (f : Int) (hf : Fits f) (A : Option Addr) (c : Nat) (t : Tm) (w : World) (ht : t.At w) (hn : t.nodes ≤ 1000000)
    (Q0 : ∀ W, Below w.heap.size w W → Calls Try.prog 39 #[.slice A l.length c] W (InOrd l W)) :
    Calls Try.prog 20 #[.slice A l.length c, .int .i64 f, t.val] w (Made (t.inst l f) w) := by
  have Q := Lib.hid Q0
  have QA := Lib.hid (fun l' (hG : Good l') D q W (hb : BLst W D l' q) (h : Below w.heap.size w W) => instance_at l' f hf hG D q t W hb (ht.below h) hn)
  have HV := Lib.hid (fun (l' : List Bd) (h : ∀ v, look l' v = look l v) => (inst_of_look f h).1 t)
  obtain ⟨k, n, s, A', c', a⟩ := t
  obtain ⟨HB0, HB1⟩ := two_boxes w (.int .i64 k) (.int .i64 n) (.string s) (.slice A' a.length c') (.int .i64 0) (.int .i64 0) (.string ⟨#[]⟩) (.slice none 0 0) 25
  have H0 := Lib.hid HB0
  have H1 := Lib.hid HB1
  clear HB0 HB1 ht hn Q0
  show Calls Try.prog 20 #[.slice A l.length c, .int .i64 f, .agg #[.int .i64 k, .int .i64 n, .string s, .slice A' a.length c']] w _
  go_enter Try.func20, Try.ntmps20
  have d0 : ∀ ob, ((w.alloc ob).alloc zeroBox).cell? ⟨w.heap.size, 0, none⟩ = (w.alloc ob).cell? ⟨w.heap.size, 0, none⟩ := fun ob => World.cell?_alloc_lt _ _ _ (by simp)
  have HH := H0.out
  obtain ⟨_, x0, x1, x2, x3, _⟩ := HH
  clear d0
  go_wp2_with fail
  go_region_with (first
    | (go_at_call 39; refine (Q.out _ (by first | exact below2 _ _ _ | exact (below2 _ _ _).drew)).mono ?_; rintro e w1 ⟨D, q, l', rfl, hD, hG, hlk, hb1⟩; have K1 := Lib.hid (H0.out.below (undrew hb1)); have M1 := Lib.hid (H1.out.below (undrew hb1)); have hz := K1.out.lt; have y0 := K1.out.c0; have y1 := K1.out.c1; have y2 := K1.out.c2; have y3 := K1.out.c3; have HB1 := Lib.hid ((below2 w _ _).trans (undrew (hb1.mono (by simp; omega)))); have HD := Lib.hid hD; have HE := Lib.hid (HV.out l' hlk); clear hD hlk hb1)
    | (go_at_call 40; refine (QA.out _ hG _ _ _ HD.out HB1.out).mono ?_; rintro e w2 ⟨u, rfl, hu, hlie, hb2⟩; have M2 := Lib.hid (M1.out.below hb2); have hz2 := M2.out.lt; have e0 := M2.out.c0; have e1 := M2.out.c1; have e2 := M2.out.c2; have e3 := M2.out.c3; have f0 := M2.out.free 0; have f1 := M2.out.free 1; have f2 := M2.out.free 2; have f3 := M2.out.free 3; have HB2 := Lib.hid (HB1.out.trans (hb2.mono HB1.out.size)); have HU := Lib.hid hu; have HI := Lib.hid (hlie.low (lo' := w.heap.size + 2) (by have := M1.out.lt; omega)); obtain ⟨k2, n2, s2, A2, p2, a2⟩ := u; clear hu hlie hb2))
  all_goals
    go_wp2_with fail
    refine bodyPost_ret (v := .agg #[.int .i64 k2, .int .i64 n2, .string s2, .slice A2 a2.length p2]) (by simp [results, Try.results20, go_sem, e0, e1, e2, e3, Tm.kind, Tm.num, Tm.name, Tm.at_, Tm.args, Tm.cap]) rfl ?_
    refine ⟨.mk k2 n2 s2 A2 p2 a2, rfl, by rw [HU.out, HE.out], ?_, set4c HB2.out (Nat.le_succ _)⟩
    exact Lie.low ((((HI.out.set (p := ⟨w.heap.size + 1, 0, none⟩) (.inl (by show w.heap.size + 1 < _; omega)) _).set (p := ⟨w.heap.size + 1, 1, none⟩) (.inl (by show w.heap.size + 1 < _; omega)) _).set (p := ⟨w.heap.size + 1, 2, none⟩) (.inl (by show w.heap.size + 1 < _; omega)) _).set (p := ⟨w.heap.size + 1, 3, none⟩) (.inl (by show w.heap.size + 1 < _; omega)) _) (by omega)
/-- A thing like t, with the substitution applied. -/
def MadeAm8 (l : List Bd) (f : Int) (t : Am) (w : World) (e : Ending) (w' : World) : Prop := ∃ u : Am, e = .returned u.val ∧ (u.name = t.name) ∧ stripL u.args = stripL (instL l f t.args) ∧ u.At w' ∧ Below w.heap.size w w'
set_option maxHeartbeats 4000000 in
theorem inst_atom_at (l : List Bd) (f : Int) (hf : Fits f) (A : Option Addr) (c : Nat) (t : Am) (w : World) (ht : t.At w) (hn : nodesL t.args ≤ 1000000)
    (Q0 : ∀ W, Below w.heap.size w W → Calls Try.prog 39 #[.slice A l.length c] W (InOrd l W)) :
    Calls Try.prog 26 #[.slice A l.length c, .int .i64 f, t.val] w (MadeAm8 l f t w) := by
  have Q := Lib.hid Q0
  obtain ⟨s, A2, c2, a⟩ := t
  have hl : Lst w A2 a c2 := ht.2
  simp only at hn
  have hln : a.length ≤ 1000000 := by have := length_le_nodes a; omega
  have QA := Lib.hid (fun l' (hG : Good l') D q W (hb : BLst W D l' q) (h : Below w.heap.size w W) => instances_at l' f D q a A2 c2 W (hl.below h) hln (fun x hx W' h' => instance_at l' f hf hG D q x W' (hb.below h') ((hl.mem hx).below (h.trans (h'.mono h.size))) (by have := nodes_mem hx; omega)))
  have HV := Lib.hid (fun (l' : List Bd) (h : ∀ v, look l' v = look l v) => (inst_of_look f h).2 a)
  have HT := Lib.hid (show s.size ≤ maxLen from ht.1)
  obtain ⟨HB0, HB1⟩ := two_boxesL w [.string s, .slice A2 a.length c2] [.string ⟨#[]⟩, .slice none 0 0] 36
  have H0 := Lib.hid HB0
  have H1 := Lib.hid HB1
  clear HB0 HB1 ht hn hl hln Q0
  show Calls Try.prog 26 #[.slice A l.length c, .int .i64 f, .agg #[.string s, .slice A2 a.length c2]] w _
  go_enter Try.func26, Try.ntmps26
  have x1 := H0.out.cell 1 _ rfl
  go_wp2_with fail
  go_region_with (first
    | (go_at_call 39; refine (Q.out _ (by first | exact below2 _ _ _ | exact (below2 _ _ _).drew)).mono ?_; rintro e w1 ⟨D, q, l', rfl, hD, hG, hlk, hb1⟩; have K1 := Lib.hid (H0.out.below (undrew hb1)); have M1 := Lib.hid (H1.out.below (undrew hb1)); have hz := K1.out.lt; have y1 := K1.out.cell 1 _ rfl; have HB1 := Lib.hid ((below2 w _ _).trans (undrew (hb1.mono (by simp; omega)))); have HD := Lib.hid hD; have HE := Lib.hid (HV.out l' hlk); clear hD hlk hb1)
    | (go_at_call 45; refine (QA.out _ hG _ _ _ HD.out HB1.out).mono ?_; rintro e w2 ⟨A3, p3, cur, rfl, hcl, hst, hL, hb2⟩; have K2 := Lib.hid (K1.out.below hb2); have M2 := Lib.hid (M1.out.below hb2); have hz2 := M2.out.lt; have hz3 := K2.out.lt; have y10 := K2.out.cell 0 _ rfl; have y11 := K2.out.cell 1 _ rfl; have e0 := M2.out.cell 0 _ rfl; have e1 := M2.out.cell 1 _ rfl; have f0 := M2.out.free 0; have f1 := M2.out.free 1; have g1 := K2.out.free 1; have HB2 := Lib.hid (HB1.out.trans (hb2.mono HB1.out.size)); have HC := Lib.hid hcl; have HS := Lib.hid hst; have HL := Lib.hid (LL.low (B := Any) (lo' := w.heap.size + 2) (fun W _ hW => hL W hW) (by have := M1.out.lt; omega)); clear hcl hst hL hb2))
  all_goals
    go_wp2_with fail
    refine bodyPost_ret (v := .agg #[.string s, .slice A3 a.length p3]) (by simp [results, Try.results26, go_sem, e0, e1]) rfl ?_
    refine ⟨⟨s, A3, p3, cur⟩, by rw [← HC.out], rfl, HS.out.trans (by rw [HE.out]), ⟨HT.out, ((LL.set ((LL.set ((LL.set (HL.out) (p := ⟨w.heap.size, 1, none⟩) (by show w.heap.size < w.heap.size + 2; omega) _)) (p := ⟨w.heap.size + 1, 0, none⟩) (by show w.heap.size + 1 < w.heap.size + 2; omega) _)) (p := ⟨w.heap.size + 1, 1, none⟩) (by show w.heap.size + 1 < w.heap.size + 2; omega) _)).lst trivial⟩, (Below.setCell ((Below.setCell ((Below.setCell (HB2.out) (p := ⟨w.heap.size, 1, none⟩) (by show w.heap.size ≤ w.heap.size; omega) _)) (p := ⟨w.heap.size + 1, 0, none⟩) (by show w.heap.size ≤ w.heap.size + 1; omega) _)) (p := ⟨w.heap.size + 1, 1, none⟩) (by show w.heap.size ≤ w.heap.size + 1; omega) _)⟩

/-- A thing like t, with the substitution applied. -/
def MadeGl8 (l : List Bd) (f : Int) (t : Gl) (w : World) (e : Ending) (w' : World) : Prop := ∃ u : Gl, e = .returned u.val ∧ (u.op = t.op ∧ u.name = t.name) ∧ stripL u.args = stripL (instL l f t.args) ∧ u.At w' ∧ Below w.heap.size w w'
set_option maxHeartbeats 4000000 in
theorem inst_goal_at (l : List Bd) (f : Int) (hf : Fits f) (A : Option Addr) (c : Nat) (t : Gl) (w : World) (ht : t.At w) (hn : nodesL t.args ≤ 1000000)
    (Q0 : ∀ W, Below w.heap.size w W → Calls Try.prog 39 #[.slice A l.length c] W (InOrd l W)) :
    Calls Try.prog 23 #[.slice A l.length c, .int .i64 f, t.val] w (MadeGl8 l f t w) := by
  have Q := Lib.hid Q0
  obtain ⟨o, s, A2, c2, a⟩ := t
  have hl : Lst w A2 a c2 := ht.2.2
  simp only at hn
  have hln : a.length ≤ 1000000 := by have := length_le_nodes a; omega
  have QA := Lib.hid (fun l' (hG : Good l') D q W (hb : BLst W D l' q) (h : Below w.heap.size w W) => instances_at l' f D q a A2 c2 W (hl.below h) hln (fun x hx W' h' => instance_at l' f hf hG D q x W' (hb.below h') ((hl.mem hx).below (h.trans (h'.mono h.size))) (by have := nodes_mem hx; omega)))
  have HV := Lib.hid (fun (l' : List Bd) (h : ∀ v, look l' v = look l v) => (inst_of_look f h).2 a)
  have HT := Lib.hid (show Fits o ∧ s.size ≤ maxLen from ⟨ht.1, ht.2.1⟩)
  obtain ⟨HB0, HB1⟩ := two_boxesL w [.int .i64 o, .string s, .slice A2 a.length c2] [.int .i64 0, .string ⟨#[]⟩, .slice none 0 0] 42
  have H0 := Lib.hid HB0
  have H1 := Lib.hid HB1
  clear HB0 HB1 ht hn hl hln Q0
  show Calls Try.prog 23 #[.slice A l.length c, .int .i64 f, .agg #[.int .i64 o, .string s, .slice A2 a.length c2]] w _
  go_enter Try.func23, Try.ntmps23
  have x1 := H0.out.cell 2 _ rfl
  go_wp2_with fail
  go_region_with (first
    | (go_at_call 39; refine (Q.out _ (by first | exact below2 _ _ _ | exact (below2 _ _ _).drew)).mono ?_; rintro e w1 ⟨D, q, l', rfl, hD, hG, hlk, hb1⟩; have K1 := Lib.hid (H0.out.below (undrew hb1)); have M1 := Lib.hid (H1.out.below (undrew hb1)); have hz := K1.out.lt; have y1 := K1.out.cell 2 _ rfl; have HB1 := Lib.hid ((below2 w _ _).trans (undrew (hb1.mono (by simp; omega)))); have HD := Lib.hid hD; have HE := Lib.hid (HV.out l' hlk); clear hD hlk hb1)
    | (go_at_call 45; refine (QA.out _ hG _ _ _ HD.out HB1.out).mono ?_; rintro e w2 ⟨A3, p3, cur, rfl, hcl, hst, hL, hb2⟩; have K2 := Lib.hid (K1.out.below hb2); have M2 := Lib.hid (M1.out.below hb2); have hz2 := M2.out.lt; have hz3 := K2.out.lt; have y10 := K2.out.cell 0 _ rfl; have y11 := K2.out.cell 1 _ rfl; have y12 := K2.out.cell 2 _ rfl; have e0 := M2.out.cell 0 _ rfl; have e1 := M2.out.cell 1 _ rfl; have e2 := M2.out.cell 2 _ rfl; have f0 := M2.out.free 0; have f1 := M2.out.free 1; have f2 := M2.out.free 2; have g2 := K2.out.free 2; have HB2 := Lib.hid (HB1.out.trans (hb2.mono HB1.out.size)); have HC := Lib.hid hcl; have HS := Lib.hid hst; have HL := Lib.hid (LL.low (B := Any) (lo' := w.heap.size + 2) (fun W _ hW => hL W hW) (by have := M1.out.lt; omega)); clear hcl hst hL hb2))
  all_goals
    go_wp2_with fail
    refine bodyPost_ret (v := .agg #[.int .i64 o, .string s, .slice A3 a.length p3]) (by simp [results, Try.results23, go_sem, e0, e1, e2]) rfl ?_
    refine ⟨⟨o, s, A3, p3, cur⟩, by rw [← HC.out], ⟨rfl, rfl⟩, HS.out.trans (by rw [HE.out]), ⟨HT.out.1, HT.out.2, ((LL.set ((LL.set ((LL.set ((LL.set (HL.out) (p := ⟨w.heap.size, 2, none⟩) (by show w.heap.size < w.heap.size + 2; omega) _)) (p := ⟨w.heap.size + 1, 0, none⟩) (by show w.heap.size + 1 < w.heap.size + 2; omega) _)) (p := ⟨w.heap.size + 1, 1, none⟩) (by show w.heap.size + 1 < w.heap.size + 2; omega) _)) (p := ⟨w.heap.size + 1, 2, none⟩) (by show w.heap.size + 1 < w.heap.size + 2; omega) _)).lst trivial⟩, (Below.setCell ((Below.setCell ((Below.setCell ((Below.setCell (HB2.out) (p := ⟨w.heap.size, 2, none⟩) (by show w.heap.size ≤ w.heap.size; omega) _)) (p := ⟨w.heap.size + 1, 0, none⟩) (by show w.heap.size ≤ w.heap.size + 1; omega) _)) (p := ⟨w.heap.size + 1, 1, none⟩) (by show w.heap.size ≤ w.heap.size + 1; omega) _)) (p := ⟨w.heap.size + 1, 2, none⟩) (by show w.heap.size ≤ w.heap.size + 1; omega) _)⟩
end Go.Proofs.Ytceekaodhmncgaa
namespace Go.Proofs.Ytceekaodhmncgaa
open Go.RowKit

def Ext (w v : World) : Prop := Below w.heap.size w v
theorem Ext.refl (w : World) : Ext w w := Below.refl _ _
theorem Ext.trans {u v w : World} (h1 : Ext u v) (h2 : Ext v w) : Ext u w := Below.trans h1 (h2.mono h1.size)
theorem Ext.al (w : World) (o : Obj) : Ext w (w.alloc o) := (Below.refl _ w).alloc (Nat.le_refl _) o
theorem Ext.drew (w : World) : Ext w w.drew := (Below.refl _ w).drew
theorem Ext.al2 (w : World) (o o2 : Obj) : Ext w ((w.alloc o).alloc o2) := (Ext.al _ _).trans (Ext.al _ _)
theorem Ext.al3 (w : World) (o o2 o3 : Obj) : Ext w (((w.alloc o).alloc o2).alloc o3) := (Ext.al2 _ _ _).trans (Ext.al _ _)
theorem Ext.ald (w : World) (o : Obj) : Ext w (w.alloc o).drew := (Ext.al _ _).trans (Ext.drew _)
theorem Ext.al2d (w : World) (o o2 : Obj) : Ext w ((w.alloc o).alloc o2).drew := (Ext.al2 _ _ _).trans (Ext.drew _)
theorem Ext.al3d (w : World) (o o2 o3 : Obj) : Ext w (((w.alloc o).alloc o2).alloc o3).drew := (Ext.al3 _ _ _ _).trans (Ext.drew _)
theorem Ext.set4 {w W : World} (h : Ext w W) {g : Nat} (hg : w.heap.size ≤ g) (a b c d : Value) : Ext w ((((W.setCell ⟨g, 0, none⟩ a).setCell ⟨g, 1, none⟩ b).setCell ⟨g, 2, none⟩ c).setCell ⟨g, 3, none⟩ d) :=
  (((h.setCell (p := ⟨g, 0, none⟩) hg _).setCell (p := ⟨g, 1, none⟩) hg _).setCell (p := ⟨g, 2, none⟩) hg _).setCell (p := ⟨g, 3, none⟩) hg _

abbrev exV (n : Int) : Tm := .mk 1 n ⟨#[]⟩ none 0 []
/-- A functor of one letter. -/
abbrev exF (b : UInt8) (g c : Nat) (l : List Tm) : Tm := .mk 2 0 ⟨#[b]⟩ (some ⟨g, 0, none⟩) c l
theorem exV_at {n : Int} (W : World) (h : 0 ≤ n ∧ n ≤ 100) : (exV n).At W := (At_iff _ _).2 ⟨⟨by simp only [Tm.kind]; unfold Fits; omega, by simp only [Tm.num]; unfold Fits; omega, by unfold maxLen; simp [Tm.name, ByteArray.size]⟩, Lst.nil W⟩
theorem exF_nil {b : UInt8} {g c : Nat} (W : World) (h : c ≤ maxLen) : (exF b g c []).At W := (At_iff _ _).2 ⟨⟨by simp only [Tm.kind]; unfold Fits; omega, by simp only [Tm.num]; unfold Fits; omega, by unfold maxLen; simp [Tm.name, ByteArray.size]⟩, Nat.zero_le _, h, fun h => absurd h (Nat.lt_irrefl 0)⟩

/-! ### What comes out -/
theorem ex_a_b (g c g' c' : Nat) : cmpT (exF 97 g c []) (exF 98 g' c' []) ≠ 0 := by
  intro h
  have := texts_eq ((cmp_fun _ _ _ _ _ _ _ _ _ _).1 h).2.1
  simp at this
theorem ex_v_v {n m : Int} (h : n ≠ m) : cmpT (exV n) (exV m) ≠ 0 := by
  intro e
  simp only [cmpT, Tm.kind, Tm.num] at e
  have h2 := (lexz_iff.1 e).2
  simp [ints] at h2
  omega
theorem ex1 (A A' : Option Addr) (c c' g0 c0 : Nat) : matT [] (.mk 2 0 ⟨#[102]⟩ A c [exV 0, exV 1, exV 0]) (.mk 2 0 ⟨#[102]⟩ A' c' [exF 97 g0 c0 [], exV 0, exF 97 g0 c0 []]) = some [⟨0, exF 97 g0 c0 []⟩, ⟨1, exV 0⟩] := by
  rw [mat_fun, if_pos rfl]
  simp [matL, mat_var, look, insE, cmp_self.1]
theorem ex2 (A A' : Option Addr) (c c' g0 c0 g1 c1 : Nat) : matT [] (.mk 2 0 ⟨#[102]⟩ A c [exV 0, exV 1, exV 0]) (.mk 2 0 ⟨#[102]⟩ A' c' [exF 97 g0 c0 [], exF 98 g1 c1 [], exF 98 g1 c1 []]) = none := by
  rw [mat_fun, if_pos rfl]
  simp [matL, mat_var, look, insE, ex_a_b]
theorem ex3 : matL [] [exV 0, exV 0] [exV 3, exV 4] = none := by
  simp [matL, mat_var, look, insE, ex_v_v]
theorem ex4 (A : Option Addr) (c : Nat) (A' : Option Addr) (c' g0 c0 : Nat) : ((Tm.mk 2 0 ⟨#[102]⟩ A c [exV 0, exV 1]).inst [⟨0, exF 103 g0 c0 [exV 5]⟩] 10).strip = (Tm.mk 2 0 ⟨#[102]⟩ A' c' [exF 103 g0 c0 [exV 5], exV 11]).strip := by
  rw [inst_fun]
  simp [instL, inst_var, look, shiftV, Tm.strip, stripL]
  rfl

/-! ### The calls -/
theorem t_call {p t : Tm} {r : Option (List Bd)} (W : World) (hp : p.At W) (ht : t.At W) (hnp : p.nodes ≤ 1000000) (hnt : t.nodes ≤ 1000000) (hr : matT [] p t = r) :
    Calls Try.prog 12 #[.slice none 0 0, p.val, t.val] W fun e w' => ∃ A q, ∃ l : List Bd, e = .returned (.tuple #[.slice A l.length q, .bool r.isSome]) ∧ stripB l = stripB (r.getD []) ∧ BLst w' A l q ∧ Ext W w' := by
  rw [← hr]
  exact match_term_at [] none 0 p t W (BLst.nil W) (by simp) (fun x hx => by cases hx) hp ht hnp hnt
theorem a_call (W : World) {A B : Option Addr} {c d : Nat} {l m : List Tm} (hl : Lst W A l c) (hm : Lst W B m d) (hnl : nodesL l ≤ 1000000) (hnm : nodesL m ≤ 1000000) (hr : matL [] l m = none) (s : ByteArray) (hs : s.size ≤ maxLen) :
    Calls Try.prog 16 #[.slice none 0 0, .agg #[.string s, .slice A l.length c], .agg #[.string s, .slice B m.length d]] W fun e w' => ∃ A' q', e = .returned (.tuple #[.slice A' 0 q', .bool false]) ∧ Ext W w' := by
  have h := match_atom_at [] none 0 ⟨s, A, c, l⟩ ⟨s, B, d, m⟩ W (BLst.nil W) (by simp) (fun x hx => by cases hx) ⟨hs, hl⟩ ⟨hs, hm⟩ hnl hnm
  simp only [if_pos, hr] at h
  refine h.mono ?_
  rintro e w' ⟨A', q', l', rfl, h1, h2, h3⟩
  obtain rfl : l' = [] := List.length_eq_zero_iff.1 (by rw [← stripB_len, h1]; rfl)
  exact ⟨A', q', rfl, h3⟩
theorem i_call (W : World) (l : List Bd) (A : Option Addr) (c : Nat) (t : Tm) (hl : BLst W A l c) (hlen : l.length ≤ 1000000) (hnl : ∀ x ∈ l, x.tm.nodes ≤ 1000000) (ht : t.At W) (hn : t.nodes ≤ 1000000) :
    Calls Try.prog 20 #[.slice A l.length c, .int .i64 10, t.val] W (Made (t.inst l 10) W) :=
  inst_term_at l 10 (by unfold Fits; omega) A c t W ht hn fun W' h => in_order_any l A c W' (hl.below h) hlen hnl
end Go.Proofs.Ytceekaodhmncgaa
namespace Go.Proofs.Ytceekaodhmncgaa
open Go.RowKit

theorem wpList_append_nil_t {ops : Array Oper} {rest : List Oper} {o : Oper} {a : Act} {Q : Exit → Act → World → Prop} {w : World} (hgd : o.guard = none) (s x : Operand)
    (ho : o.op = .call { callee := .builtin .append, args := #[s, x], argTypes := #[23, 23] })
    (g n cap c : Nat) (hs : a.eval s = .slice (some ⟨g, 0, none⟩) n cap) (hx : a.eval x = .slice none 0 c) (hcap : n + 0 ≤ cap)
    (h : wpList Try.prog ops Q rest (a.put o.dst (.slice (some ⟨g, 0, none⟩) (n + 0) cap)) w) :
    wpList Try.prog ops Q (o :: rest) a w := by
  obtain ⟨i0, hi, hz0, hz1, hz2⟩ := info_parts term_info
  have ht : Try.prog.underlying 23 = some (.slice 25) := Try.underlying23
  refine wpList_plain hgd fun K hK => ?_
  have hr := run_append_room_src (P := Try.prog) w 23 23 o.type 25 i0 ht hi g 0 n cap (.slice none 0 c) 0 [] (Src.ofNil w ht c) hcap (fun j hj => by simp at hj) (fun j hj => by simp at hj)
  unfold Oper.wp execOp
  simp only [ho, resolve, invoke, builtin, Sem.run_bind, Sem.run_pure, Result.andThen_ok, List.map_toArray, List.map_cons, List.map_nil, hs, hx, hr]
  exact hK _ _ h

set_option maxHeartbeats 1000000 in
theorem ref_fun_none (s : ByteArray) (w : World) : Calls Try.prog 32 #[.string s, .slice none 0 0] w fun e w' => ∃ g c : Nat, e = .returned (.agg #[.int .i64 2, .int .i64 0, .string s, .slice (some ⟨g, 0, none⟩) 0 c]) ∧ c ≤ maxLen ∧ Ext w w' := by
  go_enter Try.func32, Try.ntmps32
  go_wp2_with (at_builtin; refine wpList_append_nil_t rfl _ _ rfl _ 0 0 0 rfl rfl (Nat.le_refl _) ?_)
  refine bodyPost_ret (v := .agg #[.int .i64 2, .int .i64 0, .string s, .slice (some ⟨w.heap.size + 1, 0, none⟩) 0 0]) (by simp [results, Try.results32, go_sem]) rfl ⟨_, 0, rfl, Nat.zero_le _, ?_⟩
  first
    | exact Ext.al2 _ _ _
    | exact ((Ext.al2 _ _ _).set4 (Nat.le_refl _) _ _ _ _)
/-- One, two, three terms in a row that was just laid. -/
theorem row1_of {u W : World} {g : Nat} (hg : g = u.heap.size) (t : Tm) (ht : t.At u) (h : Ext (u.alloc (.cells #[.int .i64 t.kind, .int .i64 t.num, .string t.name, .slice t.at_ t.args.length t.cap] 25)) W) : RowAt W [t] g 0 := by
  subst hg
  exact (At_keep h).2 _ _ _ (row_one t ht)
theorem row2_of {u W : World} {g : Nat} (hg : g = u.heap.size) (t x : Tm) (ht : t.At u) (hx : x.At u) (h : Ext (u.alloc (.cells #[.int .i64 t.kind, .int .i64 t.num, .string t.name, .slice t.at_ t.args.length t.cap, .int .i64 x.kind, .int .i64 x.num, .string x.name, .slice x.at_ x.args.length x.cap] 25)) W) : RowAt W [t, x] g 0 := by
  subst hg
  exact (At_keep h).2 _ _ _ (row_two t x ht hx)
theorem row3_of {u W : World} {g : Nat} (hg : g = u.heap.size) (t x y : Tm) (ht : t.At u) (hx : x.At u) (hy : y.At u) (h : Ext (u.alloc (.cells #[.int .i64 t.kind, .int .i64 t.num, .string t.name, .slice t.at_ t.args.length t.cap, .int .i64 x.kind, .int .i64 x.num, .string x.name, .slice x.at_ x.args.length x.cap, .int .i64 y.kind, .int .i64 y.num, .string y.name, .slice y.at_ y.args.length y.cap] 25)) W) : RowAt W [t, x, y] g 0 := by
  subst hg
  exact (At_keep h).2 _ _ _ (row_three t x y ht hx hy)
/-- What Fun of a row hands out. -/
def FunR (b : UInt8) (l : List Tm) (w : World) (e : Ending) (w' : World) : Prop :=
  ∃ g c : Nat, e = .returned (.agg #[.int .i64 2, .int .i64 0, .string ⟨#[b]⟩, .slice (some ⟨g, 0, none⟩) l.length c]) ∧ (exF b g c l).At w' ∧ Ext w w'
theorem fun_call (b : UInt8) (l : List Tm) {g n c : Nat} {W : World} (hn : n = l.length) (h0 : 0 < l.length) (hl : RowAt W l g 0) (hsz : l.length ≤ 1000000) :
    Calls Try.prog 32 #[.string ⟨#[b]⟩, .slice (some ⟨g, 0, none⟩) n c] W (FunR b l W) := by
  subst hn
  exact (ref_fun_at ⟨#[b]⟩ l g 0 c W h0 hl hsz (by unfold maxLen; simp [ByteArray.size])).mono fun e w' ⟨g, c, h1, h2, h3⟩ => ⟨g, c, h1, h2, h3⟩
/-- A box of a term. -/
structure BX (P : Nat) (t : Tm) (W : World) : Prop where
  lt : P < W.heap.size
  c0 : W.cell? ⟨P, 0, none⟩ = some (.int .i64 t.kind)
  c1 : W.cell? ⟨P, 1, none⟩ = some (.int .i64 t.num)
  c2 : W.cell? ⟨P, 2, none⟩ = some (.string t.name)
  c3 : W.cell? ⟨P, 3, none⟩ = some (.slice t.at_ t.args.length t.cap)
  tm : t.At W
theorem BX.ext {P : Nat} {t : Tm} {W W' : World} (h : BX P t W) (e : Ext W W') : BX P t W' := ⟨Nat.lt_of_lt_of_le h.lt e.size, keepv e h.c0, keepv e h.c1, keepv e h.c2, keepv e h.c3, h.tm.below e⟩
theorem BX.new {W : World} {t : Tm} (ht : t.At W) (T : TypeId) : BX W.heap.size t (W.alloc (.cells #[.int .i64 t.kind, .int .i64 t.num, .string t.name, .slice t.at_ t.args.length t.cap] T)) :=
  ⟨by simp, World.cell?_alloc_at _ _ _ _ rfl, World.cell?_alloc_at _ _ _ _ rfl, World.cell?_alloc_at _ _ _ _ rfl, World.cell?_alloc_at _ _ _ _ rfl, ht.alloc _⟩
/-- A box that was laid with nothing in it, and stored into. -/
theorem BX.set {W u : World} {P : Nat} {T : TypeId} (hP : P = u.heap.size) {t : Tm} (h : Ext (u.alloc (.cells #[.int .i64 0, .int .i64 0, .string ⟨#[]⟩, .slice none 0 0] T)) W) (ht : ∀ a b c d : Value, t.At ((((W.setCell ⟨P, 0, none⟩ a).setCell ⟨P, 1, none⟩ b).setCell ⟨P, 2, none⟩ c).setCell ⟨P, 3, none⟩ d)) :
    BX P t ((((W.setCell ⟨P, 0, none⟩ (.int .i64 t.kind)).setCell ⟨P, 1, none⟩ (.int .i64 t.num)).setCell ⟨P, 2, none⟩ (.string t.name)).setCell ⟨P, 3, none⟩ (.slice t.at_ t.args.length t.cap)) := by
  subst hP
  have e0 : W.cell? ⟨u.heap.size, 0, none⟩ = some (.int .i64 0) := keepv h (World.cell?_alloc_at _ _ _ _ rfl)
  have e1 : W.cell? ⟨u.heap.size, 1, none⟩ = some (.int .i64 0) := keepv h (World.cell?_alloc_at _ _ _ _ rfl)
  have e2 : W.cell? ⟨u.heap.size, 2, none⟩ = some (.string ⟨#[]⟩) := keepv h (World.cell?_alloc_at _ _ _ _ rfl)
  have e3 : W.cell? ⟨u.heap.size, 3, none⟩ = some (.slice none 0 0) := keepv h (World.cell?_alloc_at _ _ _ _ rfl)
  have hz : u.heap.size < W.heap.size := by have := h.size; simp at this; omega
  have ne : ∀ {j k : Nat}, j ≠ k → (⟨u.heap.size, j, none⟩ : Addr) ≠ ⟨u.heap.size, k, none⟩ := fun h e => by injection e with _ e _; exact h e
  refine ⟨by simpa [World.setCell] using hz, ?_, ?_, ?_, ?_, ht _ _ _ _⟩
  · rw [World.cell?_setCell_other _ _ _ _ (ne (by omega)), World.cell?_setCell_other _ _ _ _ (ne (by omega)), World.cell?_setCell_other _ _ _ _ (ne (by omega))]
    exact World.cell?_setCell_same' _ _ _ (by rw [e0]; rfl)
  · rw [World.cell?_setCell_other _ _ _ _ (ne (by omega)), World.cell?_setCell_other _ _ _ _ (ne (by omega))]
    exact World.cell?_setCell_same' _ _ _ (by rw [World.cell?_setCell_other _ _ _ _ (ne (by omega)), e1]; rfl)
  · rw [World.cell?_setCell_other _ _ _ _ (ne (by omega))]
    exact World.cell?_setCell_same' _ _ _ (by rw [World.cell?_setCell_other _ _ _ _ (ne (by omega)), World.cell?_setCell_other _ _ _ _ (ne (by omega)), e2]; rfl)
  · exact World.cell?_setCell_same' _ _ _ (by rw [World.cell?_setCell_other _ _ _ _ (ne (by omega)), World.cell?_setCell_other _ _ _ _ (ne (by omega)), World.cell?_setCell_other _ _ _ _ (ne (by omega)), e3]; rfl)
/-- A functor whose first argument is a variable does not lie in a box of zeros. -/
theorem apart_zero {W u : World} {P g c : Nat} {b : UInt8} {n : Int} {l : List Tm} {T : TypeId} (hP : P = u.heap.size) (h : Ext (u.alloc (.cells #[.int .i64 0, .int .i64 0, .string ⟨#[]⟩, .slice none 0 0] T)) W) (ht : (exF b g c (exV n :: l)).At W) : g ≠ P := by
  subst hP
  rintro rfl
  have hl : Lst W (some ⟨u.heap.size, 0, none⟩) (exV n :: l) c := ht.lst
  obtain ⟨b', o', e, ⟨c0, _⟩, _⟩ := hl.get (i := 0) (by simp)
  injection e with e
  injection e with e1 e2
  subst e1 e2
  have e0 : W.cell? ⟨u.heap.size, 0, none⟩ = some (.int .i64 0) := keepv h (World.cell?_alloc_at _ _ _ _ rfl)
  simp at c0
  rw [e0] at c0
  cases c0
/-- A functor of variables stays while another block changes. -/
theorem exF_keep {W W' : World} {P g c : Nat} {b : UInt8} {l : List Tm} (h : (exF b g c l).At W) (hg : g ≠ P) (hl : ∀ t ∈ l, ∀ W : World, t.At W) (hW : ∀ k, k ≠ P → W'.heap[k]? = W.heap[k]?) : (exF b g c l).At W' := by
  have hL : Lst W (some ⟨g, 0, none⟩) l c := h.lst
  refine (At_iff _ _).2 ⟨((At_iff _ _).1 h).1, hL.1, hL.2.1, fun hn => ?_⟩
  obtain ⟨b', o', e, hr⟩ := hL.2.2 hn
  injection e with e
  injection e with e1 e2
  subst e1 e2
  refine ⟨g, 0, rfl, RowAt.of fun i hi => ⟨fun j u hu => ?_, hl _ (getD_mem hi) W'⟩⟩
  obtain ⟨⟨c0, c1, c2, c3⟩, _⟩ := hr.get hi
  rw [World.cell?_of_block (a := ⟨g, 0 + 4 * i + j, none⟩) (hW g hg)]
  rw [Nat.mul_comm] at c0 c1 c2 c3
  rcases j with _ | _ | _ | _ | j
  · rw [← Option.some.inj hu]; exact c0
  · rw [← Option.some.inj hu]; exact c1
  · rw [← Option.some.inj hu]; exact c2
  · rw [← Option.some.inj hu]; exact c3
  · simp [Tm.cells] at hu
theorem heap_set {W : World} {P k : Nat} (a b c d : Value) (h : k ≠ P) : ((((W.setCell ⟨P, 0, none⟩ a).setCell ⟨P, 1, none⟩ b).setCell ⟨P, 2, none⟩ c).setCell ⟨P, 3, none⟩ d).heap[k]? = W.heap[k]? := by
  rw [Below.heap_setCell _ _ _ _ h, Below.heap_setCell _ _ _ _ h, Below.heap_setCell _ _ _ _ h, Below.heap_setCell _ _ _ _ h]
/-- The box of a functor of variables, stored into. -/
theorem BX.setF {W u : World} {P g c : Nat} {b : UInt8} {n : Int} {l : List Tm} {T : TypeId} (hP : P = u.heap.size) (h : Ext (u.alloc (.cells #[.int .i64 0, .int .i64 0, .string ⟨#[]⟩, .slice none 0 0] T)) W) (ht : (exF b g c (exV n :: l)).At W) (hl : ∀ t ∈ exV n :: l, ∀ W : World, t.At W) :
    BX P (exF b g c (exV n :: l)) ((((W.setCell ⟨P, 0, none⟩ (.int .i64 2)).setCell ⟨P, 1, none⟩ (.int .i64 0)).setCell ⟨P, 2, none⟩ (.string ⟨#[b]⟩)).setCell ⟨P, 3, none⟩ (.slice (some ⟨g, 0, none⟩) (l.length + 1) c)) :=
  BX.set hP h fun x y z v => exF_keep ht (apart_zero hP h ht) hl fun _ hk => heap_set x y z v hk
theorem ex_args {t : Tm} {l : List Int} (h : t ∈ l.map exV) (hl : ∀ n ∈ l, 0 ≤ n ∧ n ≤ 100) (W : World) : t.At W := by
  obtain ⟨n, hn, rfl⟩ := List.mem_map.1 h
  exact exV_at W (hl n hn)
theorem t_yes {g c g' c' n n' : Nat} {l l' : List Tm} (hn : n = l.length) (hn' : n' = l'.length) {r : List Bd} (W : World) (hp : (exF 102 g c l).At W) (ht : (exF 102 g' c' l').At W) (hnp : (exF 102 g c l).nodes ≤ 1000000) (hnt : (exF 102 g' c' l').nodes ≤ 1000000) (hr : matT [] (exF 102 g c l) (exF 102 g' c' l') = some r) :
    Calls Try.prog 12 #[.slice none 0 0, .agg #[.int .i64 2, .int .i64 0, .string ⟨#[102]⟩, .slice (some ⟨g, 0, none⟩) n c], .agg #[.int .i64 2, .int .i64 0, .string ⟨#[102]⟩, .slice (some ⟨g', 0, none⟩) n' c']] W fun e w' => ∃ A q, ∃ m : List Bd, e = .returned (.tuple #[.slice A m.length q, .bool true]) ∧ stripB m = stripB r ∧ BLst w' A m q ∧ Ext W w' := by
  subst hn hn'
  exact t_call W hp ht hnp hnt hr
theorem t_no {g c g' c' n n' : Nat} {l l' : List Tm} (hn : n = l.length) (hn' : n' = l'.length) (W : World) (hp : (exF 102 g c l).At W) (ht : (exF 102 g' c' l').At W) (hnp : (exF 102 g c l).nodes ≤ 1000000) (hnt : (exF 102 g' c' l').nodes ≤ 1000000) (hr : matT [] (exF 102 g c l) (exF 102 g' c' l') = none) :
    Calls Try.prog 12 #[.slice none 0 0, .agg #[.int .i64 2, .int .i64 0, .string ⟨#[102]⟩, .slice (some ⟨g, 0, none⟩) n c], .agg #[.int .i64 2, .int .i64 0, .string ⟨#[102]⟩, .slice (some ⟨g', 0, none⟩) n' c']] W fun e w' => ∃ A q, e = .returned (.tuple #[.slice A 0 q, .bool false]) ∧ Ext W w' := by
  subst hn hn'
  refine (t_call W hp ht hnp hnt hr).mono ?_
  rintro e w' ⟨A, q, m, rfl, h1, h2, h3⟩
  obtain rfl : m = [] := List.length_eq_zero_iff.1 (by rw [← stripB_len, h1]; rfl)
  exact ⟨A, q, rfl, h3⟩
theorem blst_new {u W : World} {g : Nat} (hg : g = u.heap.size) (x : Bd) (hf : Fits x.var) (hx : x.tm.At u) (h : Ext (u.alloc (boxB x)) W) : BLst W (some ⟨g, 0, none⟩) [x] 1 := by
  subst hg
  refine BLst.below ⟨Nat.le_refl _, by unfold maxLen; simp, fun _ => ⟨_, 0, rfl, fun i hi => ?_⟩⟩ h
  obtain rfl : i = 0 := by simpa using hi
  refine ⟨fun j v hv => ?_, hf, hx.alloc _⟩
  have := bnews1 u x j v hv
  rw [add_plain] at this
  simpa using this
theorem blst_two {u W : World} {g : Nat} (hg : g = u.heap.size) (x y : Bd) (hfx : Fits x.var) (hfy : Fits y.var) (hx : x.tm.At u) (hy : y.tm.At u)
    (h : Ext (u.alloc (.cells #[.int .i64 x.var, .int .i64 x.tm.kind, .int .i64 x.tm.num, .string x.tm.name, .slice x.tm.at_ x.tm.args.length x.tm.cap, .int .i64 y.var, .int .i64 y.tm.kind, .int .i64 y.tm.num, .string y.tm.name, .slice y.tm.at_ y.tm.args.length y.tm.cap] 55)) W) : BLst W (some ⟨g, 0, none⟩) [x, y] 2 := by
  subst hg
  refine BLst.below ⟨Nat.le_refl _, by unfold maxLen; simp, fun _ => ⟨_, 0, rfl, fun i hi => ?_⟩⟩ h
  rcases i with _ | _ | i
  · refine ⟨fun j v hv => ?_, hfx, hx.alloc _⟩
    rw [World.cell?_alloc_at _ _ _ _ rfl]
    rcases j with _ | _ | _ | _ | _ | j
    · exact hv
    · exact hv
    · exact hv
    · exact hv
    · exact hv
    · simp [Bd.cells] at hv
  · refine ⟨fun j v hv => ?_, hfy, hy.alloc _⟩
    rw [World.cell?_alloc_at _ _ _ _ rfl]
    rcases j with _ | _ | _ | _ | _ | j
    · exact hv
    · exact hv
    · exact hv
    · exact hv
    · exact hv
    · simp [Bd.cells] at hv
  · exact absurd hi (by simp)
theorem a_no (W : World) {g g' : Nat} (hl : Lst W (some ⟨g, 0, none⟩) [exV 0, exV 0] 2) (hm : Lst W (some ⟨g', 0, none⟩) [exV 3, exV 4] 2) :
    Calls Try.prog 16 #[.slice none 0 0, .agg #[.string ⟨#[108, 101, 113]⟩, .slice (some ⟨g, 0, none⟩) 2 2], .agg #[.string ⟨#[108, 101, 113]⟩, .slice (some ⟨g', 0, none⟩) 2 2]] W fun e w' => ∃ A' q', e = .returned (.tuple #[.slice A' 0 q', .bool false]) ∧ Ext W w' :=
  a_call W hl hm (by simp [nodesL, Tm.nodes]) (by simp [nodesL, Tm.nodes]) ex3 ⟨#[108, 101, 113]⟩ (by unfold maxLen; simp [ByteArray.size])
theorem i_one (W : World) {gB g c g6 c6 : Nat} (hb : BLst W (some ⟨gB, 0, none⟩) [⟨0, exF 103 g c [exV 5]⟩] 1) (ht : (exF 102 g6 c6 [exV 0, exV 1]).At W) :
    Calls Try.prog 20 #[.slice (some ⟨gB, 0, none⟩) 1 1, .int .i64 10, .agg #[.int .i64 2, .int .i64 0, .string ⟨#[102]⟩, .slice (some ⟨g6, 0, none⟩) 2 c6]] W (Made ((exF 102 g6 c6 [exV 0, exV 1]).inst [⟨0, exF 103 g c [exV 5]⟩] 10) W) :=
  i_call W [⟨0, exF 103 g c [exV 5]⟩] (some ⟨gB, 0, none⟩) 1 (exF 102 g6 c6 [exV 0, exV 1]) hb (by simp) (fun x hx => by rw [List.mem_singleton.1 hx]; simp [Tm.nodes, nodesL]) ht (by simp [Tm.nodes, nodesL])
theorem eq_yes (W : World) {A : Option Addr} {l : List Bd} {q g : Nat} {m : List Bd} {n : Nat} (hn : n = m.length) (hl : BLst W A l q) (hm : BLst W (some ⟨g, 0, none⟩) m n) (h : stripB l = stripB m) :
    Calls Try.prog 14 #[.slice A l.length q, .slice (some ⟨g, 0, none⟩) n n] W fun e w' => e = .returned (.bool true) ∧ Ext W w' := by
  subst hn
  refine (ref_equal_at l m A (some ⟨g, 0, none⟩) q m.length W hl hm).mono ?_
  rintro e w' ⟨rfl, hb⟩
  exact ⟨by rw [sameB_strip h], hb⟩
theorem s_yes (W : World) {k n : Int} {s : ByteArray} {A : Option Addr} {c g c' : Nat} {a l : List Tm} {m : Nat} (hm : m = l.length) (ht : (Tm.mk k n s A c a).At W) (hu : (exF 102 g c' l).At W) (h : (Tm.mk k n s A c a).strip = (exF 102 g c' l).strip) :
    Calls Try.prog 19 #[.agg #[.int .i64 k, .int .i64 n, .string s, .slice A a.length c], .agg #[.int .i64 2, .int .i64 0, .string ⟨#[102]⟩, .slice (some ⟨g, 0, none⟩) m c']] W fun e w' => e = .returned (.bool true) ∧ Ext W w' := by
  subst hm
  exact ref_same_at (Tm.mk k n s A c a) (exF 102 g c' l) W ht hu (same_strip h)
/-- A result of its own stays while a box ahead of it changes. -/
theorem lie_set4 {W : World} {lo P : Nat} {u : Tm} (h : Lie Any lo No W u) (hP : P < lo) (a b c d : Value) : u.At ((((W.setCell ⟨P, 0, none⟩ a).setCell ⟨P, 1, none⟩ b).setCell ⟨P, 2, none⟩ c).setCell ⟨P, 3, none⟩ d) :=
  ((((h.set (p := ⟨P, 0, none⟩) (.inl hP) a).set (p := ⟨P, 1, none⟩) (.inl hP) b).set (p := ⟨P, 2, none⟩) (.inl hP) c).set (p := ⟨P, 3, none⟩) (.inl hP) d).at trivial
end Go.Proofs.Ytceekaodhmncgaa
namespace Go.Proofs.Ytceekaodhmncgaa
open Go.RowKit

set_option maxHeartbeats 4000000 in
theorem ref_inst_atom_at (w0 : World) (l : List Bd) (f : Int) (hf : Fits f) (A : Option Addr) (c : Nat) (hb0 : BLst w0 A l c) (hlb : l.length ≤ 1000000) (t : Am) (ht : t.At w0) (hn : nodesL t.args ≤ 1000000) (w : World) (hw : Below w0.heap.size w0 w) :
    Calls Try.prog 27 #[.slice A l.length c, .int .i64 f, t.val] w (MadeAm8 l f t w) := by
  obtain ⟨s, A2, c2, a⟩ := t
  have hl : Lst w0 A2 a c2 := ht.2
  simp only at hn
  have hln : a.length ≤ 1000000 := by have := length_le_nodes a; omega
  have QA := Lib.hid (fun W (h : Below w.heap.size w W) => ref_instances_at w0 l f A c a A2 c2 W (hl.below (hw.trans (h.mono hw.size))) hln (fun x hx W' h' => ref_instance_at w0 l f hf A c hb0 hlb x (hl.mem hx) (by have := nodes_mem hx; omega) W' (hw.trans ((h.trans (h'.mono h.size)).mono hw.size))))
  have HT := Lib.hid (show s.size ≤ maxLen from ht.1)
  have HW := Lib.hid (fun W (h : Below w.heap.size w W) => show From w0 W from hw.trans (h.mono hw.size))
  obtain ⟨HB0, HB1⟩ := two_boxesL w [.string s, .slice A2 a.length c2] [.string ⟨#[]⟩, .slice none 0 0] 36
  have H0 := Lib.hid HB0
  have H1 := Lib.hid HB1
  clear HB0 HB1 ht hn hl hln hw hb0
  show Calls Try.prog 27 #[.slice A l.length c, .int .i64 f, .agg #[.string s, .slice A2 a.length c2]] w _
  go_enter Try.func27, Try.ntmps27
  have x0 := H0.out.cell 0 _ rfl
  have x1 := H0.out.cell 1 _ rfl
  go_wp2_with fail
  go_region_with (first
    | (go_at_call 41; refine (QA.out _ (by first | exact below2 _ _ _ | exact (below2 _ _ _).drew)).mono ?_; rintro e w2 ⟨A3, p3, cur, rfl, hcl, hst, hL, hb2⟩; have K2 := Lib.hid (H0.out.below (undrew hb2)); have M2 := Lib.hid (H1.out.below (undrew hb2)); have hz2 := M2.out.lt; have hz3 := K2.out.lt; have y10 := K2.out.cell 0 _ rfl; have y11 := K2.out.cell 1 _ rfl; have e0 := M2.out.cell 0 _ rfl; have e1 := M2.out.cell 1 _ rfl; have f0 := M2.out.free 0; have f1 := M2.out.free 1; have g1 := K2.out.free 1; have HB2 := Lib.hid ((below2 w _ _).trans (undrew (hb2.mono (by simp; omega)))); have HC := Lib.hid hcl; have HS := Lib.hid hst; have HL := Lib.hid (LL.low (B := From w0) (lo' := w.heap.size + 2) hL (by simp)); clear hcl hst hL hb2))
  all_goals
    go_wp2_with fail
    refine bodyPost_ret (v := .agg #[.string s, .slice A3 a.length p3]) (by simp [results, Try.results27, go_sem, e0, e1]) rfl ?_
    exact ⟨⟨s, A3, p3, cur⟩, by rw [← HC.out], rfl, HS.out, ⟨HT.out, ((LL.set ((LL.set (HL.out) (p := ⟨w.heap.size + 1, 0, none⟩) (by show w.heap.size + 1 < w.heap.size + 2; omega) _)) (p := ⟨w.heap.size + 1, 1, none⟩) (by show w.heap.size + 1 < w.heap.size + 2; omega) _)).lst (HW.out _ (Below.setCell ((Below.setCell (HB2.out) (p := ⟨w.heap.size + 1, 0, none⟩) (by show w.heap.size ≤ w.heap.size + 1; omega) _)) (p := ⟨w.heap.size + 1, 1, none⟩) (by show w.heap.size ≤ w.heap.size + 1; omega) _))⟩, (Below.setCell ((Below.setCell (HB2.out) (p := ⟨w.heap.size + 1, 0, none⟩) (by show w.heap.size ≤ w.heap.size + 1; omega) _)) (p := ⟨w.heap.size + 1, 1, none⟩) (by show w.heap.size ≤ w.heap.size + 1; omega) _)⟩

set_option maxHeartbeats 4000000 in
theorem ref_inst_goal_at (w0 : World) (l : List Bd) (f : Int) (hf : Fits f) (A : Option Addr) (c : Nat) (hb0 : BLst w0 A l c) (hlb : l.length ≤ 1000000) (t : Gl) (ht : t.At w0) (hn : nodesL t.args ≤ 1000000) (w : World) (hw : Below w0.heap.size w0 w) :
    Calls Try.prog 24 #[.slice A l.length c, .int .i64 f, t.val] w (MadeGl8 l f t w) := by
  obtain ⟨o, s, A2, c2, a⟩ := t
  have hl : Lst w0 A2 a c2 := ht.2.2
  simp only at hn
  have hln : a.length ≤ 1000000 := by have := length_le_nodes a; omega
  have QA := Lib.hid (fun W (h : Below w.heap.size w W) => ref_instances_at w0 l f A c a A2 c2 W (hl.below (hw.trans (h.mono hw.size))) hln (fun x hx W' h' => ref_instance_at w0 l f hf A c hb0 hlb x (hl.mem hx) (by have := nodes_mem hx; omega) W' (hw.trans ((h.trans (h'.mono h.size)).mono hw.size))))
  have HT := Lib.hid (show Fits o ∧ s.size ≤ maxLen from ⟨ht.1, ht.2.1⟩)
  have HW := Lib.hid (fun W (h : Below w.heap.size w W) => show From w0 W from hw.trans (h.mono hw.size))
  obtain ⟨HB0, HB1⟩ := two_boxesL w [.int .i64 o, .string s, .slice A2 a.length c2] [.int .i64 0, .string ⟨#[]⟩, .slice none 0 0] 42
  have H0 := Lib.hid HB0
  have H1 := Lib.hid HB1
  clear HB0 HB1 ht hn hl hln hw hb0
  show Calls Try.prog 24 #[.slice A l.length c, .int .i64 f, .agg #[.int .i64 o, .string s, .slice A2 a.length c2]] w _
  go_enter Try.func24, Try.ntmps24
  have x0 := H0.out.cell 0 _ rfl
  have x1 := H0.out.cell 1 _ rfl
  have x2 := H0.out.cell 2 _ rfl
  go_wp2_with fail
  go_region_with (first
    | (go_at_call 41; refine (QA.out _ (by first | exact below2 _ _ _ | exact (below2 _ _ _).drew)).mono ?_; rintro e w2 ⟨A3, p3, cur, rfl, hcl, hst, hL, hb2⟩; have K2 := Lib.hid (H0.out.below (undrew hb2)); have M2 := Lib.hid (H1.out.below (undrew hb2)); have hz2 := M2.out.lt; have hz3 := K2.out.lt; have y10 := K2.out.cell 0 _ rfl; have y11 := K2.out.cell 1 _ rfl; have y12 := K2.out.cell 2 _ rfl; have e0 := M2.out.cell 0 _ rfl; have e1 := M2.out.cell 1 _ rfl; have e2 := M2.out.cell 2 _ rfl; have f0 := M2.out.free 0; have f1 := M2.out.free 1; have f2 := M2.out.free 2; have g2 := K2.out.free 2; have HB2 := Lib.hid ((below2 w _ _).trans (undrew (hb2.mono (by simp; omega)))); have HC := Lib.hid hcl; have HS := Lib.hid hst; have HL := Lib.hid (LL.low (B := From w0) (lo' := w.heap.size + 2) hL (by simp)); clear hcl hst hL hb2))
  all_goals
    go_wp2_with fail
    refine bodyPost_ret (v := .agg #[.int .i64 o, .string s, .slice A3 a.length p3]) (by simp [results, Try.results24, go_sem, e0, e1, e2]) rfl ?_
    exact ⟨⟨o, s, A3, p3, cur⟩, by rw [← HC.out], ⟨rfl, rfl⟩, HS.out, ⟨HT.out.1, HT.out.2, ((LL.set ((LL.set ((LL.set (HL.out) (p := ⟨w.heap.size + 1, 0, none⟩) (by show w.heap.size + 1 < w.heap.size + 2; omega) _)) (p := ⟨w.heap.size + 1, 1, none⟩) (by show w.heap.size + 1 < w.heap.size + 2; omega) _)) (p := ⟨w.heap.size + 1, 2, none⟩) (by show w.heap.size + 1 < w.heap.size + 2; omega) _)).lst (HW.out _ (Below.setCell ((Below.setCell ((Below.setCell (HB2.out) (p := ⟨w.heap.size + 1, 0, none⟩) (by show w.heap.size ≤ w.heap.size + 1; omega) _)) (p := ⟨w.heap.size + 1, 1, none⟩) (by show w.heap.size ≤ w.heap.size + 1; omega) _)) (p := ⟨w.heap.size + 1, 2, none⟩) (by show w.heap.size ≤ w.heap.size + 1; omega) _))⟩, (Below.setCell ((Below.setCell ((Below.setCell (HB2.out) (p := ⟨w.heap.size + 1, 0, none⟩) (by show w.heap.size ≤ w.heap.size + 1; omega) _)) (p := ⟨w.heap.size + 1, 1, none⟩) (by show w.heap.size ≤ w.heap.size + 1; omega) _)) (p := ⟨w.heap.size + 1, 2, none⟩) (by show w.heap.size ≤ w.heap.size + 1; omega) _)⟩
end Go.Proofs.Ytceekaodhmncgaa
namespace Go.Proofs.Ytceekaodhmncgaa
open Go.ChangeShapes Go.WideShapes Go.ChangeAt Go.RowKit

theorem ext_row {u v : World} {cs : Array Value} {T : TypeId} (h : Ext (u.alloc (.cells cs T)) v) (j : Nat) {x : Value} (hx : cs[j]? = some x) : v.cell? ⟨u.heap.size, j, none⟩ = some x :=
  (h.cell (p := ⟨u.heap.size, j, none⟩) (by simp)).trans ((World.cell?_alloc_at _ _ _ _ rfl).trans hx)
theorem ext_row1 {u v : World} {cs : Array Value} {T : TypeId} {o : Obj} (h : Ext ((u.alloc (.cells cs T)).alloc o) v) (j : Nat) {x : Value} (hx : cs[j]? = some x) : v.cell? ⟨u.heap.size, j, none⟩ = some x :=
  ext_row ((Ext.al _ _).trans h) j hx
theorem ext_row2 {u v : World} {cs : Array Value} {T : TypeId} {o : Obj} (h : Ext ((u.alloc o).alloc (.cells cs T)) v) (j : Nat) {x : Value} (hx : cs[j]? = some x) : v.cell? ⟨u.heap.size + 1, j, none⟩ = some x := by
  have := ext_row h j hx
  rwa [World.size_alloc] at this

section
variable {H : Type} {enc : TypeId × Value → H} {W : World} {base : Nat} {spare : Nat → Bool} {held : Bool}
set_option maxRecDepth 100000 in
theorem open_case {r : Reach} {b0 : Nat} {v : Value} {d : DataW H} {p : List MemPlace} (hv : Value.okWide Try.prog W r b0 27 v) (h : DataW.Trod enc Try.prog W base spare held 27 v d p) :
    ∃ (A : Option Addr) (l : List Bd) (c : Nat) (x y : Tm), v = .agg #[.slice A l.length c, .int .i64 x.kind, .int .i64 x.num, .string x.name, .slice x.at_ x.args.length x.cap, .int .i64 y.kind, .int .i64 y.num, .string y.name, .slice y.at_ y.args.length y.cap] ∧ BLst W A l c ∧ x.At W ∧ y.At W := by
  obtain ⟨cs, rfl, hsz⟩ := okWide_struct Try.underlying27 hv
  obtain ⟨fuel, hf⟩ := h
  obtain ⟨xs, m, _, _, hcl, hxl, hg⟩ := DataW.trod_struct Try.underlying27 hf
  have hcl' : cs.toList.length = 9 := hcl.trans (by kernel_rfl)
  have hcs : (Value.agg cs).cells.toList = cs.toList := rfl
  rw [hcs] at hg
  match hl : cs.toList, hcl' with
  | [c0, c1, c2, c3, c4, c5, c6, c7, c8], _ =>
    rw [hl] at hg
    have hxs : xs.length = 3 := hxl
    have g0 := hg 0 _ rfl
    have g1 := hg 1 _ rfl
    have g2 := hg 2 _ rfl
    rw [List.getElem?_eq_getElem (by omega)] at g0 g1 g2
    have e0 : (Try.prog.cellsOf 22) = 1 := by kernel_rfl
    have e1 : (Try.prog.cellsOf 25) = 4 := by kernel_rfl
    simp only [List.getElem_toArray, List.getElem_cons_zero, List.getElem_cons_succ] at g0 g1 g2
    obtain ⟨A, l, c, hv', hl'⟩ := bds_of typesB (v := c0) (by simpa [e0] using g0)
    obtain ⟨x, hx, hax⟩ := tm_of types _ [c1, c2, c3, c4] _ (by simpa [e1] using g1)
    obtain ⟨y, hy, hay⟩ := tm_of types _ [c5, c6, c7, c8] _ (by simpa [e1] using g2)
    refine ⟨A, l, c, x, y, ?_, hl', hax, hay⟩
    rw [← Array.toArray_toList (xs := cs), hl, hv']
    simp only [Tm.cells, List.cons.injEq, and_true] at hx hy
    obtain ⟨rfl, rfl, rfl, rfl⟩ := hx
    obtain ⟨rfl, rfl, rfl, rfl⟩ := hy
    rfl
end
theorem not_great_two {t u : Tm} {most : Int} (h : decide (weigh [t, u] most 64 < 0) = false) : (t.nodes : Int) + u.nodes ≤ most := by
  have := not_great h
  simp only [nodesL] at this
  omega
theorem eq_any (W : World) {A A' : Option Addr} {l m : List Bd} {q q' : Nat} (hl : BLst W A l q) (hm : BLst W A' m q') (h : stripB l = stripB m) :
    Calls Try.prog 14 #[.slice A l.length q, .slice A' m.length q'] W fun e w' => e = .returned (.bool true) ∧ Ext W w' := by
  refine (ref_equal_at l m A A' q q' W hl hm).mono ?_
  rintro e w' ⟨rfl, hb⟩
  exact ⟨by rw [sameB_strip h], hb⟩
theorem not_great_atoms {s s' : ByteArray} {l l' : List Tm} (h : decide (weighN s' l' (weighN s l 150) < 0) = false) : nodesL l ≤ 150 ∧ nodesL l' ≤ 150 := by
  have h1 : 0 ≤ weighN s' l' (weighN s l 150) := Int.not_lt.1 (by simpa using h)
  have h2 : 0 ≤ weighN s l 150 := by
    by_cases hc : weighN s l 150 < 0
    · rw [show weighN s' l' (weighN s l 150) = weighN s l 150 by rw [weighN, if_pos hc]] at h1
      omega
    · omega
  have h3 := weighN_size h2
  have h4 := weighN_size h1
  have h5 := weighN_hi s l 150
  omega
theorem am_below {a : Am} {w W : World} (h : a.At w) (hb : Below w.heap.size w W) : a.At W := ⟨h.1, h.2.below hb⟩
theorem gl_below {a : Gl} {w W : World} (h : a.At w) (hb : Below w.heap.size w W) : a.At W := ⟨h.1, h.2.1, h.2.2.below hb⟩
end Go.Proofs.Ytceekaodhmncgaa
