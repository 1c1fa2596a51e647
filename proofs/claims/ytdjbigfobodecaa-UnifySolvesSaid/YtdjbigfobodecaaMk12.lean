/-
  What the laws say, plainly.
  Contract of build of the program: the term of a class.
  The sizes and depths that fit reckons. No walk.
  A region that draws its order, in a round of a loop over a function. No program.
-/
import Derived.Test.YtdjbigfobodecaaMk2
import Derived.Test.YtdjbigfobodecaaMk11
import Derived.Test.YtdjbigfobodecaaMk4
import Derived.Test.YtdjbigfobodecaaMk1
import Derived.Test.YtdjbigfobodecaaMk10
import Derived.Test.YtdjbigfobodecaaMk8
import Derived.Deep.CutRange
import Derived.Deep.RegionLaw
import Derived.OrdersIn
import Derived.OrdersHeld
import Derived.RangeFuncCalls
import Derived.CallsIn
namespace Go.Proofs.Ytdjbigfobodecaa
open Go.RowKit

/-! ### Equal in the standard order -/
theorem texts_zero : ∀ {a b : List UInt8}, texts a b = 0 → a = b := by
  intro a
  induction a with
  | nil =>
    intro b h
    cases b with
    | nil => rfl
    | cons y q => simp [texts, Op.bytesLess] at h
  | cons x r ih =>
    intro b h
    cases b with
    | nil => simp [texts, Op.bytesLess] at h
    | cons y q =>
      rw [texts_cons] at h
      obtain ⟨h1, h2⟩ := lexz_iff.1 h
      have := ints_zero.1 h1
      rw [ih h2, UInt8.toNat_inj.1 (show x.toNat = y.toNat by omega)]
theorem cls_inj {k k' : Int} (h : cls k = cls k') (hk : k = 0 ∨ k = 1 ∨ k = 2) : k = k' := by
  rcases hk with rfl | rfl | rfl
  · unfold cls at h; simp at h; split at h
    · cases h
    · split at h
      · exact Eq.symm ‹_›
      · split at h <;> cases h
  · exact (cls_one.1 h.symm).symm
  · exact (cls_two.1 h.symm).symm
theorem bytes_eq {s t : ByteArray} (h : s.data.toList = t.data.toList) : s = t := by
  cases s; cases t; simp at h; rw [h]
theorem size0 {s : ByteArray} (h : s.size = 0) : s = ByteArray.empty := by
  apply bytes_eq
  have : s.data.toList.length = 0 := by simpa using h
  rw [List.length_eq_zero_iff.1 this]; rfl
theorem cmp_zero : (∀ t : Tm, t.form = true → ∀ u : Tm, u.form = true → cmpT t u = 0 → t.strip = u.strip) ∧ (∀ l, formL l = true → ∀ m, formL m = true → cmpL l m = 0 → stripL l = stripL m) := by
  refine Tm.induct2 (fun k n s A c a ih h u hu e => ?_) (fun _ m _ e => ?_) (fun t r h1 h2 h m hm e => ?_)
  · obtain ⟨k', n', s', A', c', a'⟩ := u
    simp only [cmpT, Tm.kind, Tm.num, Tm.name, Tm.args] at e
    obtain ⟨e1, e2⟩ := lexz_iff.1 e
    have hk := form_kind h
    simp only [Tm.kind] at hk
    obtain rfl := cls_inj (ints_zero.1 e1) hk
    clear e e1
    rcases hk with rfl | rfl | rfl
    · simp at e2
      have := ints_zero.1 e2
      subst this
      simp [Tm.form] at h hu
      obtain ⟨_, _, h3, h4⟩ := h
      obtain ⟨_, _, h5, h6⟩ := hu
      rw [h3, h4, h5, h6]
      rfl
    · simp at e2
      have := ints_zero.1 e2
      subst this
      have hv := form_var h rfl
      have hv' := form_var hu rfl
      rw [hv.1, hv'.1]
      rfl
    · simp at e2
      obtain ⟨_, e3⟩ := lexz_iff.1 e2
      obtain ⟨e4, e5⟩ := lexz_iff.1 e3
      have hn : n = 0 ∧ n' = 0 := by simp [Tm.form] at h hu; exact ⟨h.1, hu.1⟩
      obtain ⟨rfl, rfl⟩ := hn
      have := bytes_eq (texts_zero e4)
      subst this
      simp only [Tm.strip]
      rw [ih (form_args h).2 _ (form_args hu).2 e5]
      rfl
  · cases m with
    | nil => rfl
    | cons y q => simp [cmpL] at e
  · cases m with
    | nil => simp [cmpL] at e
    | cons y q =>
      simp only [cmpL] at e
      obtain ⟨e1, e2⟩ := lexz_iff.1 e
      simp only [formL, Bool.and_eq_true] at h hm
      simp only [stripL]
      rw [h1 h.1 _ hm.1 e1, h2 h.2 _ hm.2 e2]
theorem right_form {t : Tm} (h : t.right = true) : t.form = true := by
  unfold Tm.right at h
  simp only [Bool.and_eq_true] at h
  exact h.1
theorem app_form {b : List Bd} (hb : ∀ x ∈ b, x.tm.form = true) : (∀ t : Tm, t.form = true → (t.app b).form = true) ∧ (∀ l, formL l = true → formL (appL b l) = true) := by
  refine Tm.induct2 (fun k n s A c a ih h => ?_) (fun _ => rfl) (fun t r h1 h2 h => ?_)
  · simp only [Tm.app]
    split
    · cases hl : look b n with
      | none => simpa using h
      | some u =>
        obtain ⟨x, hx, _, rfl⟩ := look_some hl
        simpa using hb x hx
    · split
      · rename_i h1 h2
        simp only [Tm.form, h2, if_true] at h ⊢
        subst h2
        simp only [show ¬ (2 : Int) = 0 by decide, show ¬ (2 : Int) = 1 by decide, if_false, appL_len, Bool.and_eq_true] at h ⊢
        exact ⟨h.1, h.2.1, ih h.2.2⟩
      · exact h
  · simp only [formL, appL, Bool.and_eq_true] at h ⊢
    exact ⟨h1 h.1, h2 h.2⟩
theorem rightS_forms {b : List Bd} (h : rightS b = true) : ∀ x ∈ b, x.tm.form = true := fun x hx => right_form (((rightS_iff b).1 h).1.1 x hx).2.2

/-! ### The laws -/
theorem arg_right {s : ByteArray} {A : Option Addr} {c : Nat} {a : List Tm} (h : (Tm.mk 2 0 s A c a).right = true) : a.all Tm.right = true := by
  have hf := form_args (right_form h)
  rw [List.all_eq_true]
  intro t ht
  unfold Tm.right at h ⊢
  simp only [Bool.and_eq_true, decide_eq_true_eq, Tm.size, Tm.depth, if_true] at h ⊢
  have h1 := size_mem ht
  have h2 := depth_mem ht
  exact ⟨formL_mem ht hf.2, by omega, by omega⟩
theorem functors_out {s : ByteArray} {A B : Option Addr} {c d : Nat} {a b : List Tm} {m : List Bd} {e : Int} (hx : (Tm.mk 2 0 s A c a).right = true) (hy : (Tm.mk 2 0 s B d b).right = true) (hl : a.length = b.length)
    (h : AllOut [.mk 2 0 s A c a] [.mk 2 0 s B d b] m e) : AllOut a b m e := by
  unfold AllOut at h ⊢
  rw [if_neg (by simp [hx, hy]), if_neg (by simp)] at h
  rw [if_neg (by rw [arg_right hx, arg_right hy]; simp), if_neg (by simp [hl])]
  exact h.of_unif fun f => Unif.one.trans (unif_args hl)
theorem out_zero {a b : Tm} {m : List Bd} (h : AllOut [a] [b] m 0) : a.right = true ∧ b.right = true ∧ Sol ([a].zip [b]) m ∧ allRight m = true := by
  unfold AllOut at h
  split at h
  · exact absurd h.2 (by decide)
  · rename_i hr
    split at h
    · exact absurd h.2 (by decide)
    · have hr' : a.right = true ∧ b.right = true := by simpa using hr
      rcases h with ⟨_, h, _⟩ | ⟨s, hs, ⟨h1, rfl, _⟩ | ⟨_, _, h⟩⟩
      · exact absurd h (by decide)
      · exact ⟨hr'.1, hr'.2, hs, h1⟩
      · exact absurd h (by decide)
theorem out_other {a b : Tm} {m : List Bd} {e : Int} (h : AllOut [a] [b] m e) (he : e ≠ 0) : m = [] := by
  unfold AllOut at h
  split at h
  · exact h.1
  · split at h
    · exact h.1
    · rcases h with ⟨h, _, _⟩ | ⟨s, hs, ⟨_, _, h⟩ | ⟨_, h, _⟩⟩
      · exact h
      · exact absurd h he
      · exact h
theorem sol_right {E : List (Tm × Tm)} {m : List Bd} (h : Sol E m) (hr : allRight m = true) : rightS m = true := by
  rw [rightS_iff]
  refine ⟨⟨fun x hx => ?_, h.asc⟩, h.apart⟩
  exact ⟨(h.cl x hx).2.2.1, (h.cl x hx).2.2.2, List.all_eq_true.1 hr x hx⟩
theorem subOf_strip (b : List Bd) : subOf (stripB b) = subOf b := by
  funext v
  unfold subOf
  rw [look_strip]
  cases look b v with
  | none => rfl
  | some t => simp [(strip_strip).1]
theorem makes_right {a b : Tm} {l : List Bd} (h : AllOut [a] [b] (stripB l) 0) : rightS l = true ∧ (cmpT (a.app l) (b.app l) == 0) = true := by
  obtain ⟨h1, h2, hs, hr⟩ := out_zero h
  refine ⟨by rw [← rightS_strip]; exact sol_right hs hr, same_strip ?_⟩
  rw [(app_sub l).1 a (right_form h1), (app_sub l).1 b (right_form h2), ← subOf_strip]
  exact Unif.one.1 hs.unif
theorem makes_none {a b : Tm} {l : List Bd} {e : Int} (h : AllOut [a] [b] (stripB l) e) (he : e ≠ 0) : l = [] := by
  have := congrArg List.length (out_other h he)
  rw [stripB_len] at this
  exact List.length_eq_zero_iff.1 this
/-- What s does to both is the same. -/
theorem gen_unif {a b : Tm} {s : List Bd} (ha : a.right = true) (hb : b.right = true) (hs : rightS s = true) (h : (cmpT (a.app s) (b.app s) == 0) = true) : a.sub (subOf s) = b.sub (subOf s) := by
  have hf := app_form (rightS_forms hs)
  have := cmp_zero.1 _ (hf.1 a (right_form ha)) _ (hf.1 b (right_form hb)) (by simpa using h)
  rw [(app_sub s).1 a (right_form ha), (app_sub s).1 b (right_form hb)] at this
  exact this
theorem gen_code {a b : Tm} {m : List Bd} {e : Int} (ha : a.right = true) (hb : b.right = true) {f : Int → Tm} (hf : a.sub f = b.sub f) (h : AllOut [a] [b] m e) : e = 0 ∨ e = 6 := by
  unfold AllOut at h
  rw [if_neg (by simp [ha, hb]), if_neg (by simp)] at h
  rcases h with ⟨_, _, h⟩ | ⟨s, hs, ⟨_, _, h⟩ | ⟨_, _, h⟩⟩
  · exact absurd (Unif.one.2 hf) (h f)
  · exact .inl h
  · exact .inr h
theorem gen_all {a b : Tm} {s l : List Bd} (hf : a.sub (subOf s) = b.sub (subOf s)) (h : AllOut [a] [b] (stripB l) 0) : ∀ x ∈ l, (cmpT ((vr x.var).app s) (x.tm.app s) == 0) = true := by
  obtain ⟨_, _, hsol, _⟩ := out_zero h
  intro x hx
  have hm : x.strip ∈ stripB l := List.mem_map.2 ⟨x, hx, rfl⟩
  have hc := hsol.cl _ hm
  have hg := hsol.gen _ (Unif.one.2 hf) _ hm
  simp only [Bd.strip] at hc hg
  refine same_strip ?_
  rw [(app_sub s).1 _ (vr_form hc.2.2.1 hc.2.2.2), app_like (b := s) (b' := s) rfl (t := x.tm) (t' := x.tm.strip) hc.1.symm, (app_sub s).1 _ hc.2.1, ← hg]
  simp [vr, Tm.sub]
end Go.Proofs.Ytdjbigfobodecaa
namespace Go.Proofs.Ytdjbigfobodecaa
open Go.RowKit

/-- The cells of a class's node. -/
theorem root_cells {lo p q n cap rt : Nat} {X : Nat → Prop} {G H : List Nd} {root r : Nat → Nat} {w : World} (h : Gph lo X w p (.slice (some ⟨q, 0, none⟩) n cap) H) (ha : Alike G H) (hu : UF H root r) (hr : rt < G.length) (hf : root rt = rt) :
    w.cell? ⟨p, 0, none⟩ = some (.slice (some ⟨q, 0, none⟩) n cap) ∧ w.cell? ⟨q, rt * 6, none⟩ = some (.int .i64 (nd G rt).tm.kind) ∧ w.cell? ⟨q, rt * 6 + 1, none⟩ = some (.int .i64 (nd G rt).tm.num) ∧ w.cell? ⟨q, rt * 6 + 2, none⟩ = some (.string (nd G rt).tm.name) ∧
    w.cell? ⟨q, rt * 6 + 3, none⟩ = some (.slice (nd G rt).tm.at_ (nd G rt).tm.args.length (nd G rt).tm.cap) ∧ w.cell? ⟨q, rt * 6 + 4, none⟩ = some (.slice (nd G rt).A (nd G rt).kids.length (nd G rt).cap) ∧ w.cell? ⟨q, rt * 6 + 5, none⟩ = some (.int .i64 (rt : Nat)) := by
  have hl : rt < H.length := by rw [ha.len]; exact hr
  obtain ⟨d0, d1, d2, d3, d4, d5⟩ := h.cells hl
  rw [(ha.tm hr).1] at d0 d1 d2 d3
  rw [(ha.tm hr).2.1, (ha.tm hr).2.2.1, (ha.tm hr).2.2.2] at d4
  rw [(hu.fix rt hl).2 hf] at d5
  exact ⟨h.hdr, d0, d1, d2, d3, d4, d5⟩
theorem box_fr {w w' : World} {o : Obj} {cs : Array Value} {T : TypeId} {row : Option Nat} (h : ((w.alloc o).alloc (.cells cs T)).grownBy w' row) (hr : some (w.heap.size + 1) ≠ row) :
    (∀ j, w'.cell? ⟨w.heap.size + 1, j, none⟩ = cs[j]?) ∧ ∀ j, w'.frozen? ⟨w.heap.size + 1, j, none⟩ = false := by
  have e : (w.alloc o).heap.size = w.heap.size + 1 := World.size_alloc _ _
  refine ⟨fun j => ?_, fun j => ?_⟩
  · rw [fr_cell h (p := ⟨w.heap.size + 1, j, none⟩) (by simp) hr]
    exact World.cell?_alloc_at _ _ _ _ e.symm
  · rw [fr_frozen h (p := ⟨w.heap.size + 1, j, none⟩) (by simp) hr]
    exact World.frozen?_alloc_at _ _ _ _ e.symm
theorem Held.fr {B : Nat} {w w' : World} {v0 v1 v2 v3 : Value} {row : Option Nat} (h : Held B w v0 v1 v2 v3) (k : w.grownBy w' row) (hr : some B ≠ row) : Held B w' v0 v1 v2 v3 :=
  ⟨Nat.lt_of_lt_of_le h.lt k.size, (fr_cell k (p := ⟨B, 0, none⟩) h.lt hr).trans h.c0, (fr_cell k (p := ⟨B, 1, none⟩) h.lt hr).trans h.c1, (fr_cell k (p := ⟨B, 2, none⟩) h.lt hr).trans h.c2, (fr_cell k (p := ⟨B, 3, none⟩) h.lt hr).trans h.c3, fun j => (fr_frozen k (p := ⟨B, j, none⟩) h.lt hr).trans (h.free j)⟩
theorem name_strip (t : Tm) : t.strip.name = t.name := by cases t; rfl
/-- What build answers. -/
def BuildR (lo : Nat) (X : Nat → Prop) (p : Nat) (z : Value) (G : List Nd) (root r : Nat → Nat) (D i : Nat) (w : World) (e : Ending) (w' : World) : Prop :=
  ∃ (u : Tm) (H : List Nd), e = .returned u.val ∧ u.strip = sol G root D i ∧ Lie Any w.heap.size No w' u ∧ Alike G H ∧ UF H root r ∧ Gph lo X w' p z H ∧ w.grownBy w' z.ownBlock
/-- The box of the node, in a block of its own. -/
def NodeBox (lo : Nat) (X : Nat → Prop) (p : Nat) (z : Value) (G : List Nd) (root r : Nat → Nat) (x : Nd) (w : World) (bx : Nat) (W : World) : Prop :=
  (∃ H, Alike G H ∧ UF H root r ∧ Gph lo X W p z H) ∧ w.grownBy W z.ownBlock ∧ w.heap.size < bx ∧ bx < W.heap.size ∧
    W.cell? ⟨bx, 0, none⟩ = some (.int .i64 x.tm.kind) ∧ W.cell? ⟨bx, 1, none⟩ = some (.int .i64 x.tm.num) ∧ W.cell? ⟨bx, 2, none⟩ = some (.string x.tm.name) ∧ W.cell? ⟨bx, 3, none⟩ = some (.slice x.tm.at_ x.tm.args.length x.tm.cap) ∧
    W.cell? ⟨bx, 4, none⟩ = some (.slice x.A x.kids.length x.cap) ∧ Held w.heap.size W (.int .i64 0) (.int .i64 0) (.string ⟨#[]⟩) (.slice none 0 0)

theorem cs_other {w : World} {b j j' : Nat} {v : Value} (h : j ≠ j') : (w.setCell ⟨b, j, none⟩ v).cell? ⟨b, j', none⟩ = w.cell? ⟨b, j', none⟩ := World.cell?_setCell_other _ _ _ _ (fun e => h (by injection e))
theorem cs_same {w : World} {b j : Nat} {u v : Value} (h : w.cell? ⟨b, j, none⟩ = some u) : (w.setCell ⟨b, j, none⟩ v).cell? ⟨b, j, none⟩ = some v := World.cell?_setCell_same' _ _ _ (by rw [h]; rfl)
section
variable {lo p : Nat} {X : Nat → Prop} {z : Value} {G H H2 : List Nd} {root r : Nat → Nat} {x : Nd} {w w2 : World} {o : Obj}
theorem NodeBox.drew {bx : Nat} {W : World} (h : NodeBox lo X p z G root r x w bx W) : NodeBox lo X p z G root r x w bx W.drew := by
  obtain ⟨⟨H, h1, h2, h3⟩, h4, h5⟩ := h
  exact ⟨⟨H, h1, h2, h3.drew⟩, fr_drew h4, h5.1, h5.2.1, h5.2.2.1, h5.2.2.2.1, h5.2.2.2.2.1, h5.2.2.2.2.2.1, h5.2.2.2.2.2.2.1, ⟨h5.2.2.2.2.2.2.2.lt, h5.2.2.2.2.2.2.2.c0, h5.2.2.2.2.2.2.2.c1, h5.2.2.2.2.2.2.2.c2, h5.2.2.2.2.2.2.2.c3, h5.2.2.2.2.2.2.2.free⟩⟩
/-- The box was laid behind the call. -/
theorem nodebox_b (hh : Held w.heap.size w2 (.int .i64 0) (.int .i64 0) (.string ⟨#[]⟩) (.slice none 0 0)) (ha : Alike G H) (m1 : Alike H H2) (m2 : UF H2 root r) (m3 : Gph lo X w2 p z H2) (m4 : w.grownBy w2 z.ownBlock) (hs : w.heap.size < w2.heap.size) {v5 : Value} {T : TypeId} :
    NodeBox lo X p z G root r x w w2.heap.size (w2.alloc (.cells #[.int .i64 x.tm.kind, .int .i64 x.tm.num, .string x.tm.name, .slice x.tm.at_ x.tm.args.length x.tm.cap, .slice x.A x.kids.length x.cap, v5] T)) := by
  have hc : ∀ j, (w2.alloc (.cells #[.int .i64 x.tm.kind, .int .i64 x.tm.num, .string x.tm.name, .slice x.tm.at_ x.tm.args.length x.tm.cap, .slice x.A x.kids.length x.cap, v5] T)).cell? ⟨w2.heap.size, j, none⟩ = (#[Value.int .i64 x.tm.kind, .int .i64 x.tm.num, .string x.tm.name, .slice x.tm.at_ x.tm.args.length x.tm.cap, .slice x.A x.kids.length x.cap, v5] : Array Value)[j]? := fun j => World.cell?_alloc_at _ _ _ _ rfl
  exact ⟨⟨H2, ha.trans m1, m2, m3.alloc _⟩, fr_alloc m4 _, hs, by simp, hc 0, hc 1, hc 2, hc 3, hc 4, hh.alloc _⟩
/-- The box was laid ahead of the call. -/
theorem nodebox_a (hh : Held w.heap.size w2 (.int .i64 0) (.int .i64 0) (.string ⟨#[]⟩) (.slice none 0 0)) (hg : Gph lo X w p z H) (ha : Alike G H) (m1 : Alike H H2) (m2 : UF H2 root r) (m3 : Gph lo X w2 p z H2) {b : Nat} (hb : w.heap.size < b) (hb2 : b < w2.heap.size) (m4 : w.grownBy w2 z.ownBlock) {v5 u0 u1 u2 u3 u4 : Value}
    (c0 : w2.cell? ⟨b, 0, none⟩ = some u0) (c1 : w2.cell? ⟨b, 1, none⟩ = some u1) (c2 : w2.cell? ⟨b, 2, none⟩ = some u2) (c3 : w2.cell? ⟨b, 3, none⟩ = some u3) (c4 : w2.cell? ⟨b, 4, none⟩ = some u4) :
    NodeBox lo X p z G root r x w b ((((((w2.setCell ⟨b, 0, none⟩ (.int .i64 x.tm.kind)).setCell ⟨b, 1, none⟩ (.int .i64 x.tm.num)).setCell ⟨b, 2, none⟩ (.string x.tm.name)).setCell ⟨b, 3, none⟩ (.slice x.tm.at_ x.tm.args.length x.tm.cap)).setCell ⟨b, 4, none⟩ (.slice x.A x.kids.length x.cap)).setCell ⟨b, 5, none⟩ v5) := by
  have hf : w2.grownBy ((((((w2.setCell ⟨b, 0, none⟩ (.int .i64 x.tm.kind)).setCell ⟨b, 1, none⟩ (.int .i64 x.tm.num)).setCell ⟨b, 2, none⟩ (.string x.tm.name)).setCell ⟨b, 3, none⟩ (.slice x.tm.at_ x.tm.args.length x.tm.cap)).setCell ⟨b, 4, none⟩ (.slice x.A x.kids.length x.cap)).setCell ⟨b, 5, none⟩ v5) (some b) :=
    fr_set (p := ⟨b, 5, none⟩) (fr_set (p := ⟨b, 4, none⟩) (fr_set (p := ⟨b, 3, none⟩) (fr_set (p := ⟨b, 2, none⟩) (fr_set (p := ⟨b, 1, none⟩) (fr_set (p := ⟨b, 0, none⟩) (fr_refl w2 (some b)) rfl _) rfl _) rfl _) rfl _) rfl _) rfl _
  have hw := fr_grow m4 hf (fun k hk => by injection hk with hk; omega)
  refine ⟨⟨H2, ha.trans m1, m2, Gph.renew hg m1 m3 hw hf ?_⟩, hw, hb, Nat.lt_of_lt_of_le hb2 hf.size, ?_, ?_, ?_, ?_, ?_, hh.fr hf (fun e => by injection e with e; omega)⟩
  · cases hz : z.ownBlock with
    | none => exact .inl rfl
    | some k =>
      refine .inr fun e => ?_
      have := (own_lt hg.row k hz).2
      injection e with e
      omega
  · rw [cs_other (by omega), cs_other (by omega), cs_other (by omega), cs_other (by omega), cs_other (by omega)]; exact cs_same c0
  · rw [cs_other (by omega), cs_other (by omega), cs_other (by omega), cs_other (by omega)]; exact cs_same (by rw [cs_other (by omega)]; exact c1)
  · rw [cs_other (by omega), cs_other (by omega), cs_other (by omega)]; exact cs_same (by rw [cs_other (by omega), cs_other (by omega)]; exact c2)
  · rw [cs_other (by omega), cs_other (by omega)]; exact cs_same (by rw [cs_other (by omega), cs_other (by omega), cs_other (by omega)]; exact c3)
  · rw [cs_other (by omega)]; exact cs_same (by rw [cs_other (by omega), cs_other (by omega), cs_other (by omega), cs_other (by omega)]; exact c4)
end

theorem Alike.flip {G H I : List Nd} (h : Alike G H) (k : Alike G I) : Alike H I := ⟨k.len.trans h.len.symm, fun i hi => by
  rw [h.len] at hi
  obtain ⟨a, ha⟩ := h.2 i hi
  obtain ⟨b, hb⟩ := k.2 i hi
  exact ⟨b, by rw [ha, hb]⟩⟩
theorem RowT.fr {lo : Nat} {w w' : World} {v : Value} {ts : List Tm} {row : Option Nat} (h : RowT Any lo w v ts) (k : w.grownBy w' row) (hr : ∀ b, row = some b → b < lo) : RowT Any lo w' v ts := by
  refine ⟨World.ownsRow.kept h.1 k ?_, fun x hx => (h.2 x hx).less k.size fun b h1 h2 h3 => ⟨h1, h3, k.block b h2 (fun e => by have := hr b e.symm; omega)⟩⟩
  cases hv : v.ownBlock with
  | none => exact .inl rfl
  | some b =>
    refine .inr fun e => ?_
    have h1 := (own_lt h.1 b hv).1
    have h2 := hr b e.symm
    omega
/-- In the loop: j arguments are built. -/
structure Building (lo : Nat) (X : Nat → Prop) (p : Nat) (z : Value) (G : List Nd) (root r : Nat → Nat) (D : Nat) (lk : List Nat) (w : World) (B6 : Nat) (kx nx : Int) (sx : ByteArray) (ov : Value) (ts : List Tm) (j : Nat) (wr : World) : Prop where
  g : ∃ H, Alike G H ∧ UF H root r ∧ Gph lo X wr p z H
  fr : w.grownBy wr z.ownBlock
  res : Held w.heap.size wr (.int .i64 0) (.int .i64 0) (.string ⟨#[]⟩) (.slice none 0 0)
  box : Held B6 wr (.int .i64 kx) (.int .i64 nx) (.string sx) ov
  row : RowT Any (B6 + 1) wr ov ts
  len : ts.length = j
  is : stripL ts = (lk.take j).map (sol G root D)
theorem Building.next {lo p D B6 j g cap : Nat} {X : Nat → Prop} {z ov : Value} {G H0 : List Nd} {root r : Nat → Nat} {lk : List Nat} {kx nx : Int} {sx : ByteArray} {ts : List Tm} {u : Tm} {w wr w2 w4 : World} {ob : Obj}
    (h : Building lo X p z G root r D lk w B6 kx nx sx ov ts j wr) (h0 : Gph lo X w p z H0) (ha0 : Alike G H0) (hw : w.heap.size < B6) (hj : j < lk.length)
    (hG2 : ∃ H, Alike G H ∧ UF H root r ∧ Gph lo X w2 p z H) (hf2 : wr.grownBy w2 z.ownBlock) (hu : u.strip = sol G root D (lk.getD j 0)) (hl : Lie Any wr.heap.size No w2 u)
    (hown : w4.ownsRow (B6 + 1) 24 4 (.slice (some ⟨g, 0, none⟩) (ts.length + 1) cap) (ts.length + 1) (tcells ts ++ u.cells)) (hgr : (w2.alloc ob).grownBy w4 ov.ownBlock) (hat : ov.ownBlock = some g ∨ g = (w2.alloc ob).heap.size) :
    Building lo X p z G root r D lk w B6 kx nx sx (.slice (some ⟨g, 0, none⟩) (ts.length + 1) cap) (ts ++ [u]) (j + 1) (w4.setCell ⟨B6, 3, none⟩ (.slice (some ⟨g, 0, none⟩) (ts.length + 1) cap)) := by
  have hzl : ∀ b, z.ownBlock = some b → b < w.heap.size := fun b e => (own_lt h0.row b e).2
  have hvl : ∀ b, ov.ownBlock = some b → B6 + 1 ≤ b ∧ b < wr.heap.size := fun b e => own_lt h.row.1 b e
  have hB6 := h.box.lt
  have row2 : RowT Any (B6 + 1) w2 ov ts := h.row.fr hf2 fun b e => by have := hzl b e; omega
  have hu2 : Lie Any (B6 + 1) (fun k => ov.ownBlock = some k) w2 u := lie_apart h.row.1 hl (by omega) (Nat.le_refl _)
  have row4 := RowT.next row2 hu2 (below1 w2 ob) hown hgr hat
  have hnz : ∀ b, w.heap.size ≤ b → some b ≠ z.ownBlock := fun b hb e => by have := hzl b e.symm; omega
  have hnv : ∀ b, b ≤ B6 → some b ≠ ov.ownBlock := fun b hb e => by have := (hvl b e.symm).1; omega
  have hset : w4.grownBy (w4.setCell ⟨B6, 3, none⟩ (.slice (some ⟨g, 0, none⟩) (ts.length + 1) cap)) (some B6) := fr_set (fr_refl _ _) rfl _
  have hf4 : w.grownBy w4 z.ownBlock := fr_grow (fr_alloc (fr_trans h.fr hf2) ob) hgr fun b e => by have := (hvl b e).1; omega
  have hf5 : w.grownBy (w4.setCell ⟨B6, 3, none⟩ (.slice (some ⟨g, 0, none⟩) (ts.length + 1) cap)) z.ownBlock := fr_own hf4 (by show w.heap.size ≤ B6; omega) _
  refine ⟨?_, hf5, ?_, ?_, ?_, by rw [List.length_append, h.len]; rfl, ?_⟩
  · obtain ⟨H2, g1, g2, g3⟩ := hG2
    have hr4 : Gph lo X w4 p z H2 := Gph.renew h0 (ha0.flip g1) (g3.alloc ob) hf4 hgr (by
      cases hz : z.ownBlock with
      | none => exact .inl rfl
      | some b => exact .inr fun e => by have := hzl b hz; have := (hvl b e.symm).1; omega)
    exact ⟨H2, g1, g2, Gph.renew h0 (ha0.flip g1) hr4 hf5 hset (.inr fun e => hnz B6 (by omega) e.symm)⟩
  · exact (((h.res.fr hf2 (hnz _ (Nat.le_refl _))).alloc ob).fr hgr (hnv _ (by omega))).other (p := ⟨B6, 3, none⟩) (by show B6 ≠ w.heap.size; omega) _
  · exact (((h.box.fr hf2 (hnz _ (by omega))).alloc ob).fr hgr (hnv _ (Nat.le_refl _))).set3 _
  · refine row4.fr hset fun b e => by injection e with e; omega
  · rw [nat_take_next hj, List.map_append, stripL_append, h.is]
    simp [stripL, hu]

set_option maxHeartbeats 4000000 in
set_option maxRecDepth 100000 in
theorem build_at {lo : Nat} {X : Nat → Prop} {p : Nat} {z : Value} {G : List Nd} {E : List (Nat × Nat)} {root r rk : Nat → Nat} {D : Nat} (hc : Closed G E root) (hrk : Ranked G root rk D) : ∀ (n i : Nat) (H : List Nd) (w : World), i < G.length → rk (root i) < n → Alike G H → UF H root r → Gph lo X w p z H →
    Calls Try.prog 30 #[.pointer (some ⟨p, 0, none⟩), .int .i64 (i : Nat)] w (BuildR lo X p z G root r D i w) := by
  intro n
  induction n with
  | zero => intro i H w _ h; omega
  | succ n ih =>
    intro i H w hi hn hal hu h
    obtain ⟨q, cap, hz, hq1, hq2, _⟩ := h.form (by rw [hal.len]; omega)
    rw [hal.len] at hz
    subst hz
    obtain ⟨rt, hrt⟩ : ∃ rt, root i = rt := ⟨_, rfl⟩
    have hrl : rt < G.length := by rw [← hrt]; exact hc.lt i hi
    have hsm := h.small
    have hlen : H.length = G.length := hal.len
    have hpl := h.lt
    have HL := Lib.hid hlen
    have HG := Lib.hid h
    have HAL := Lib.hid hal
    have c0 := h.hdr
    have c0x := al1 c0
    have c0y := al2 c0
    have HUF := Lib.hid hu
    have HFX := Lib.hid (show root rt = rt by rw [← hrt]; exact hc.idem i hi)
    have QF := Lib.hid (fun W (hW : Gph lo X W p (.slice (some ⟨q, 0, none⟩) G.length cap) H) => find_to hW hu (show i < H.length by omega) hrt)
    have HIH := Lib.hid ih
    have HN := Lib.hid hn
    have HRT := Lib.hid hrt
    have hsm2 : G.length ≤ 1000000 := by omega
    clear h hu hlen hal ih hn hrt hsm
    go_enter Try.func30, Try.ntmps30
    go_upto_region 1 with (fail)
    go_cut [5] from 9 to 17 (fun s5 W => Hid (∃ bx, s5 = .pointer (some ⟨bx, 0, none⟩) ∧ NodeBox lo X p (.slice (some ⟨q, 0, none⟩) G.length cap) G root r (nd G rt) w bx W))
    case first =>
      have HG1 := Lib.hid (fun o => HG.out.alloc o)
      go_region_with (first
        | (go_at_call 49; (with_reducible refine (QF.out _ (HG1.out _).drew).mono ?_); rintro e w2 ⟨H2, rfl, m1, m2, m3, m4, m5⟩; obtain ⟨s0, d0, d1, d2, d3, d4, d5⟩ := root_cells m3 (HAL.out.trans m1) m2 hrl HFX.out; have s0x := al1 s0; have d0x := al1 d0; have d1x := al1 d1; have d2x := al1 d2; have d3x := al1 d3; have d4x := al1 d4; have d5x := al1 d5; have HNB := Lib.hid (show NodeBox lo X p (.slice (some ⟨q, 0, none⟩) G.length cap) G root r (nd G rt) w (w.heap.size + 1) (w2.alloc (.cells #[.int .i64 (nd G rt).tm.kind, .int .i64 (nd G rt).tm.num, .string (nd G rt).tm.name, .slice (nd G rt).tm.at_ (nd G rt).tm.args.length (nd G rt).tm.cap, .slice (nd G rt).A (nd G rt).kids.length (nd G rt).cap, .int .i64 (rt : Nat)] 55)) from (by (have e5 : w2.heap.size = w.heap.size + 1 := (by simpa using m5)); have hb := nodebox_b (x := nd G rt) (((held_new (v0 := .int .i64 0) (v1 := .int .i64 0) (v2 := .string ⟨#[]⟩) (v3 := .slice none 0 0) w 24)).fr (undrew_fr m4) (by simp [Value.ownBlock]; omega)) HAL.out m1 m2 m3 (fr_trans (fr_alloc (fr_refl w _) _) (undrew_fr m4)) (show w.heap.size < w2.heap.size by omega) (v5 := .int .i64 (rt : Nat)) (T := 55); rw [e5] at hb; exact hb)))
        | (go_at_call 49; (with_reducible refine (QF.out _ ((HG1.out _).alloc _).drew).mono ?_); rintro e w2 ⟨H2, rfl, m1, m2, m3, m4, m5⟩; obtain ⟨bc, bf⟩ := box_fr (undrew_fr m4) (by simp [Value.ownBlock]; omega); have b0 := bc 0; have b1 := bc 1; have b2 := bc 2; have b3 := bc 3; have b4 := bc 4; have b5 := bc 5; have f0 := bf 0; have f1 := bf 1; have f2 := bf 2; have f3 := bf 3; have f4 := bf 4; have f5 := bf 5; clear bc bf; obtain ⟨s0, d0, d1, d2, d3, d4, d5⟩ := root_cells m3 (HAL.out.trans m1) m2 hrl HFX.out; have s0x := al1 s0; have d0x := al1 d0; have d1x := al1 d1; have d2x := al1 d2; have d3x := al1 d3; have d4x := al1 d4; have d5x := al1 d5; have HNB := Lib.hid (nodebox_a (x := nd G rt) (((held_new (v0 := .int .i64 0) (v1 := .int .i64 0) (v2 := .string ⟨#[]⟩) (v3 := .slice none 0 0) w 24).alloc _).fr (undrew_fr m4) (by simp [Value.ownBlock]; omega)) HG.out HAL.out m1 m2 m3 (Nat.lt_succ_self _) (show w.heap.size + 1 < w2.heap.size by (have := m4.size; simp at this; omega)) (fr_trans (fr_alloc (fr_alloc (fr_refl w _) _) _) (undrew_fr m4)) (v5 := .int .i64 (rt : Nat)) b0 b1 b2 b3 b4)))
      all_goals
        go_wp2_with fail
        go_meet
        exact Lib.hid ⟨_, rfl, HNB.out⟩
    case rest =>
      obtain ⟨bx, rfl, hnb⟩ := hcut.out
      obtain ⟨⟨H1, e1, e2, e3⟩, hf, hb1, hb2, c1, c2, c3, c4, c5, hh⟩ := hnb
      have HKI := Lib.hid (show ∀ W, w.grownBy W (some q) → IRow W (nd G rt).A (nd G rt).kids (nd G rt).cap from fun W hW => by
        have h1 := ((HG.out.kids rt (by rw [HL.out]; exact hrl)).fr hW fun b hb _ => .inl hb).at
        rw [(HAL.out.tm hrl).2.1, (HAL.out.tm hrl).2.2.1, (HAL.out.tm hrl).2.2.2] at h1
        exact h1)
      have HKM := Lib.hid (fun c hcc => (hc.ok rt hrl).mem (c := c) hcc)
      have hkl : (nd G rt).kids.length ≤ 1000000 := by
        have := (HG.out.fine rt (by rw [HL.out]; exact hrl)).kids
        rw [(HAL.out.tm hrl).2.1] at this
        exact this
      have HFI := Lib.hid (show Fits (nd G rt).tm.kind ∧ Fits (nd G rt).tm.num ∧ (nd G rt).tm.name.size ≤ maxLen from by
        have := HG.out.fine rt (by rw [HL.out]; exact hrl)
        have e := (HAL.out.tm hrl).1
        exact ⟨e ▸ this.kind, e ▸ this.num, e ▸ this.name⟩)
      have HSE := Lib.hid (show ((nd G rt).tm.kind = 1 → sol G root D i = vr (nd G rt).tm.num) ∧ ((nd G rt).tm.kind ≠ 1 → sol G root D i = .mk (nd G rt).tm.kind (nd G rt).tm.num (nd G rt).tm.name none 0 ((nd G rt).kids.map (sol G root D))) from by
        have h1 := sol_eq hc hrk hi
        rw [HRT.out] at h1
        exact ⟨fun hk => h1.trans (if_pos hk), fun hk => h1.trans (if_neg hk)⟩)
      have HRK := Lib.hid (fun c hcc => (hrk i hi).2 c hcc)
      rw [HRT.out] at HRK
      have HVK := Lib.hid (fun hv => (hc.ok rt hrl).var hv)
      have HVN := Lib.hid (show (nd G rt).tm.kind = 1 → (nd G rt).tm.name = ByteArray.empty from fun hv => by
        have h1 := congrArg Tm.name (form_var (hc.ok rt hrl).form hv).1
        rw [name_strip] at h1
        exact h1)
      obtain ⟨lk, hlk⟩ : ∃ l, l = (nd G rt).kids := ⟨_, rfl⟩
      obtain ⟨Aj, hAj⟩ : ∃ l, l = (nd G rt).A := ⟨_, rfl⟩
      obtain ⟨cj, hcj⟩ : ∃ l, l = (nd G rt).cap := ⟨_, rfl⟩
      obtain ⟨tt, htt⟩ : ∃ l, l = (nd G rt).tm := ⟨_, rfl⟩
      rw [← hlk] at HKI HKM hkl HSE HRK HVK c5
      rw [← hAj, ← hcj] at HKI c5
      rw [← htt] at HFI HSE HVK HVN c1 c2 c3 c4
      obtain ⟨kx, nx, sx, Ax, cx, lx⟩ := tt
      simp only [Tm.kind, Tm.num, Tm.name, Tm.at_, Tm.args, Tm.cap] at c1 c2 c3 c4 HFI HSE HVK HVN
      have HF := Lib.hid hf
      have HH := Lib.hid hh
      have HG1 := Lib.hid (show ∃ H, Alike G H ∧ UF H root r ∧ Gph lo X wc p (.slice (some ⟨q, 0, none⟩) G.length cap) H from ⟨H1, e1, e2, e3⟩)
      have hws := hf.size
      clear hlk hAj hcj htt e1 e2 e3 hf hh hcut c0x c0y QF
      obtain ⟨it, hit, iz0, iz1, iz2⟩ := info_parts term_info
      have HB0 := Lib.hid (show Building lo X p (.slice (some ⟨q, 0, none⟩) G.length cap) G root r D lk w wc.heap.size kx nx sx (.slice none 0 0) [] 0 (wc.alloc (.cells #[.int .i64 kx, .int .i64 nx, .string sx, .slice none 0 0] 24)) from by
        obtain ⟨H1, e1, e2, e3⟩ := HG1.out
        exact ⟨⟨H1, e1, e2, e3.alloc _⟩, fr_alloc HF.out _, HH.out.alloc _, held_new _ _, RowT.nil _ _ _, rfl, rfl⟩)
      have hwb : w.heap.size < wc.heap.size := by omega
      go_wp2_with fail
      rename World => wq
      go_loopw [24] (fun s24 wr => ∃ (j : Nat) (ov : Value) (ts : List Tm), j ≤ lk.length ∧ s24 = .int .i64 (j : Nat) ∧ Hid (Building lo X p (.slice (some ⟨q, 0, none⟩) G.length cap) G root r D lk w wq.heap.size kx nx sx ov ts j wr)) (fun s24 _ => lk.length - (intOf s24).toNat)
      case atStart => exact ⟨0, _, [], Nat.zero_le _, rfl, HB0⟩
      case round =>
        clear HB0
        obtain ⟨j, ov, ts, hj, rfl, HB⟩ := hrel
        by_cases hlt : j < lk.length
        · obtain ⟨bk, rfl, hbk⟩ := (HKI.out wr HB.out.fr).2.2 (by omega)
          have b1 := hbk j hlt
          obtain ⟨ck, hck⟩ : ∃ c, c = lk.getD j 0 := ⟨_, rfl⟩
          rw [← hck] at b1
          have hkm : ck ∈ lk := by rw [hck]; exact nat_getD_mem hlt
          have hkG : ck < G.length := HKM.out ck hkm
          obtain ⟨H1, e1, e2, e3⟩ := HB.out.g
          have Q1 := Lib.hid (fun W (hW : Gph lo X W p (.slice (some ⟨q, 0, none⟩) G.length cap) H1) => HIH.out ck H1 W hkG (by have := HRK.out ck hkm; have := HN.out; rw [HRT.out] at this; omega) e1 e2 hW)
          have HE3 := Lib.hid e3
          have q3 := HB.out.box.c3
          have htl : ts.length ≤ 1000000 := by have := HB.out.len; omega
          have hzB := HB.out.box.lt
          have HNX := Lib.hid (fun u w2 w4 g cap ob hG2 hf2 hu hl hown hgr hat => HB.out.next (u := u) (w2 := w2) (w4 := w4) (g := g) (cap := cap) (ob := ob) HG.out HAL.out hwb hlt hG2 hf2 (by rw [← hck]; exact hu) hl hown hgr hat)
          have HOW := Lib.hid (fun w2 (hf2 : wr.grownBy w2 (some q)) => show RowT Any (wq.heap.size + 1) w2 ov ts ∧ Held wq.heap.size w2 (.int .i64 kx) (.int .i64 nx) (.string sx) ov from
            ⟨HB.out.row.fr hf2 fun b e => by injection e with e; omega, HB.out.box.fr hf2 (fun e => by injection e with e; omega)⟩)
          have HE1 := Lib.hid e1
          have HOL := Lib.hid (fun b e => own_lt HB.out.row.1 b e)
          have hne : wq.heap.size ≠ q := by omega
          clear hbk hck hkm hkG e1 e2 e3
          go_wp2_with fail
          go_region_law (first
            | (go_simp; go_at_call 30; refine (Q1.out _ HE3.out.drew).mono ?_; rintro e w2 ⟨u, H2, rfl, m1, m2, m3, m4, m5, m6⟩; have m7 := undrew_fr m6; have OW := Lib.hid (HOW.out w2 m7); have q4 := OW.out.2.c3; have hz4 := OW.out.2.lt; have hm8 := m7.size; have MM := Lib.hid (show u.strip = sol G root D ck ∧ Lie Any wr.heap.size No w2 u ∧ (∃ H, Alike G H ∧ UF H root r ∧ Gph lo X w2 p (.slice (some ⟨q, 0, none⟩) G.length cap) H) ∧ wr.grownBy w2 (some q) from ⟨m1, m2, ⟨H2, m3, m4, m5⟩, m7⟩); clear m1 m2 m3 m4 m5 m6 m7; obtain ⟨k2, n2, s2, A2, p2, a2⟩ := u)
            | (refine step_append_lies _ (by rfl) _ _ _ (by rfl) (wq.heap.size + 1) 24 it _ 4 56 Try.underlying22 hit iz0 iz1 iz2 rfl (by omega) ov ts.length (tcells ts) (by rfl) (OW.out.1.1.alloc _) ⟨w2.heap.size, 0, none⟩ 1 1 [.int .i64 k2, .int .i64 n2, .string s2, .slice A2 a2.length p2] (by rfl) (by rfl) (World.news_of_block (cs := #[.int .i64 k2, .int .i64 n2, .string s2, .slice A2 a2.length p2]) (t := 24) (fr := (0, 0)) (heap_alloc_new w2 _)) (by simp [Value.oneCell']) (by omega) (by unfold maxLen; omega) (by omega) (by simp; omega) (w2.heap.size + 1) (by simp) ?_; intro g cp w4 hown hgrow hat hgl; have B4 := Lib.hid ((OW.out.2.alloc (.cells #[.int .i64 k2, .int .i64 n2, .string s2, .slice A2 a2.length p2] 24)).fr hgrow (fun e => by have := (HOL.out _ e.symm).1; omega)); have q5 := B4.out.c3; have f5 := B4.out.free 3; have hz5 := B4.out.lt))
          all_goals
            have HD := Lib.hid (HNX.out (.mk k2 n2 s2 A2 p2 a2) w2 w4 g cp _ MM.out.2.2.1 MM.out.2.2.2 MM.out.1 MM.out.2.1 hown hgrow (by rcases hat with h | h; exact .inl h; exact .inr (by rw [h]; simp)))
            clear hown hgrow hat hgl B4 OW MM
            go_wp2_with fail
            go_roundw
            case rel => exact ⟨j + 1, _, _, by omega, by go_num, HD⟩
            case measure => simp [intOf]; omega
        · obtain rfl : j = lk.length := by omega
          obtain ⟨A9, c9, rfl, _⟩ := HB.out.row.form
          have HST := Lib.hid (show stripL ts = lk.map (sol G root D) from by have := HB.out.is; rw [List.take_length] at this; exact this)
          have HLI := Lib.hid (fun W hW => HB.out.row.lies W trivial hW)
          have HFR := Lib.hid HB.out.fr
          have HGG := Lib.hid HB.out.g
          obtain ⟨hz6, d0, d1, d2, d3, _⟩ := HB.out.box
          obtain ⟨hz4, e0, e1, e2, e3, ff⟩ := HB.out.res
          have f0 := ff 0
          have f1 := ff 1
          have f2 := ff 2
          have f3 := ff 3
          clear ff HB
          go_wp2_with fail
          refine bodyPost_ret (v := .agg #[.int .i64 kx, .int .i64 nx, .string sx, .slice A9 ts.length c9]) (by simp [results, Try.results30, go_sem, e0, e1, e2, e3]) rfl ?_
          obtain ⟨H2, g1, g2, g3⟩ := HGG.out
          have hset : wr.grownBy ((((wr.setCell ⟨w.heap.size, 0, none⟩ (.int .i64 kx)).setCell ⟨w.heap.size, 1, none⟩ (.int .i64 nx)).setCell ⟨w.heap.size, 2, none⟩ (.string sx)).setCell ⟨w.heap.size, 3, none⟩ (.slice A9 ts.length c9)) (some w.heap.size) :=
            fr_set (p := ⟨w.heap.size, 3, none⟩) (fr_set (p := ⟨w.heap.size, 2, none⟩) (fr_set (p := ⟨w.heap.size, 1, none⟩) (fr_set (p := ⟨w.heap.size, 0, none⟩) (fr_refl wr (some w.heap.size)) rfl _) rfl _) rfl _) rfl _
          have hf9 := fr_grow HFR.out hset (fun b e => by injection e with e; omega)
          refine ⟨.mk kx nx sx A9 c9 ts, H2, rfl, ?_, lie_row (lo := wq.heap.size + 1) HFI.out (fun W hW => HLI.out W fun b h1 h2 h3 => ?_) (by omega), g1, g2, Gph.renew HG.out (HAL.out.flip g1) g3 hf9 hset (.inr fun e => by have : q = w.heap.size := (by simpa [Value.ownBlock] using e); omega), hf9⟩
          · simp only [Tm.strip]
            rw [HST.out]
            by_cases hk : kx = 1
            · rw [HSE.out.1 hk, HVK.out hk, HVN.out hk, hk]
              rfl
            · rw [HSE.out.2 hk]
          · exact (hW b h1 (Nat.lt_of_lt_of_le h2 hset.size) h3).trans (hset.block b h2 (fun e => by injection e with e; omega))
end Go.Proofs.Ytdjbigfobodecaa
namespace Go.Proofs.Ytdjbigfobodecaa
open Go.RowKit

abbrev FS := List Nat × List Nat
def kidF (root : Nat → Nat) (x : Nat) (s : FS) (k : Nat) : FS := (s.1.set x (min (s.1.getD x 0 + s.1.getD (root k) 0) 201), s.2.set x (max (s.2.getD x 0) (s.2.getD (root k) 0)))
def kidsF (root : Nat → Nat) (x : Nat) (ks : List Nat) (s : FS) : FS := ks.foldl (kidF root x) (s.1.set x 1, s.2)
def deepF (x : Nat) (s : FS) : FS := (s.1, s.2.set x (s.2.getD x 0 + 1))
def nodeF (G : List Nd) (root : Nat → Nat) (s : FS) (x : Nat) : FS := deepF x (kidsF root x (nd G x).kids s)
/-- Both rows have n places; no size is more than 201, no depth more than m. -/
structure FOk (n m : Nat) (s : FS) : Prop where
  l1 : s.1.length = n
  l2 : s.2.length = n
  b1 : ∀ v, s.1.getD v 0 ≤ 201
  b2 : ∀ v, s.2.getD v 0 ≤ m
theorem set_get (l : List Nat) {x v y : Nat} : (l.set x y).getD v 0 = if v = x ∧ x < l.length then y else l.getD v 0 := by
  by_cases e : v = x
  · subst e
    by_cases h : v < l.length
    · rw [if_pos ⟨rfl, h⟩]; simp [List.getD, h]
    · rw [if_neg (fun k => h k.2)]; simp [List.getD, h]
  · rw [if_neg (fun k => e k.1)]
    simp [List.getD, Ne.symm e]
section
variable {G : List Nd} {root : Nat → Nat} {n m x : Nat} {s : FS}
theorem FOk.start (h : FOk n m s) : FOk n m (s.1.set x 1, s.2) := ⟨by rw [List.length_set]; exact h.l1, h.l2, fun v => by rw [set_get]; split; exact (by omega); exact h.b1 v, h.b2⟩
theorem FOk.kid (h : FOk n m s) (k : Nat) : FOk n m (kidF root x s k) := ⟨by simp [kidF, h.l1], by simp [kidF, h.l2], fun v => by
    show (s.1.set x _).getD v 0 ≤ 201
    rw [set_get]
    split
    · exact Nat.min_le_right _ _
    · exact h.b1 v, fun v => by
    show (s.2.set x _).getD v 0 ≤ m
    rw [set_get]
    split
    · exact Nat.max_le.2 ⟨h.b2 _, h.b2 _⟩
    · exact h.b2 v⟩
theorem FOk.set1 (h : FOk n m s) {v : Nat} (hv : v ≤ 201) : FOk n m (s.1.set x v, s.2) := ⟨by rw [List.length_set]; exact h.l1, h.l2, fun u => by
    show (s.1.set x _).getD u 0 ≤ 201
    rw [set_get]
    split
    · exact hv
    · exact h.b1 u, h.b2⟩
theorem FOk.set2 (h : FOk n m s) {v m' : Nat} (hv : v ≤ m') (hm : m ≤ m' := by exact Nat.le_refl _) : FOk n m' (s.1, s.2.set x v) := ⟨h.l1, by rw [List.length_set]; exact h.l2, h.b1, fun u => by
    show (s.2.set x _).getD u 0 ≤ m'
    rw [set_get]
    split
    · exact hv
    · exact Nat.le_trans (h.b2 u) hm⟩
theorem FOk.kids (h : FOk n m s) : ∀ ks : List Nat, FOk n m (ks.foldl (kidF root x) s) := by
  intro ks
  induction ks generalizing s with
  | nil => exact h
  | cons k r ih => exact ih (h.kid k)
theorem FOk.deep (h : FOk n m s) : FOk n (m + 1) (deepF x s) := ⟨h.l1, by simp [deepF, h.l2], h.b1, fun v => by
    show (s.2.set x _).getD v 0 ≤ m + 1
    rw [set_get]
    split
    · have := h.b2 x; omega
    · have := h.b2 v; omega⟩
theorem kidsF_next {ks : List Nat} {j : Nat} (hj : j < ks.length) : kidsF root x (ks.take (j + 1)) s = kidF root x (kidsF root x (ks.take j) s) (ks.getD j 0) := by
  unfold kidsF
  rw [nat_take_next hj, List.foldl_append]
  rfl
theorem FOk.node (h : FOk n m s) : FOk n (m + 1) (nodeF G root s x) := (h.start.kids _).deep
theorem kids_val {D : Nat} : ∀ (ks : List Nat) (s : FS), x < s.1.length → x < s.2.length → s.1.getD x 0 ≤ 201 → (∀ c ∈ ks, root c ≠ x ∧ s.1.getD (root c) 0 = min (sol G root D c).size 201 ∧ s.2.getD (root c) 0 = (sol G root D c).depth) →
    (∀ v, v ≠ x → (ks.foldl (kidF root x) s).1.getD v 0 = s.1.getD v 0 ∧ (ks.foldl (kidF root x) s).2.getD v 0 = s.2.getD v 0) ∧
    (ks.foldl (kidF root x) s).1.getD x 0 = min (s.1.getD x 0 + sizeL (ks.map (sol G root D))) 201 ∧ (ks.foldl (kidF root x) s).2.getD x 0 = max (s.2.getD x 0) (depthL (ks.map (sol G root D))) ∧ (ks.foldl (kidF root x) s).2.length = s.2.length := by
  intro ks
  induction ks with
  | nil => intro s h1 h2 h3 _; exact ⟨fun v _ => ⟨rfl, rfl⟩, by show s.1.getD x 0 = min (s.1.getD x 0 + 0) 201; omega, by show s.2.getD x 0 = max (s.2.getD x 0) 0; omega, rfl⟩
  | cons k r ih =>
    intro s h1 h2 h3 h4
    obtain ⟨a1, a2, a3⟩ := h4 k (by simp)
    have o1 : ∀ v, v ≠ x → (kidF root x s k).1.getD v 0 = s.1.getD v 0 := fun v hv => by
      show (s.1.set x _).getD v 0 = _
      rw [set_get, if_neg (fun k => hv k.1)]
    have o2 : ∀ v, v ≠ x → (kidF root x s k).2.getD v 0 = s.2.getD v 0 := fun v hv => by
      show (s.2.set x _).getD v 0 = _
      rw [set_get, if_neg (fun k => hv k.1)]
    have v1 : (kidF root x s k).1.getD x 0 = min (s.1.getD x 0 + min (sol G root D k).size 201) 201 := by
      show (s.1.set x _).getD x 0 = _
      rw [set_get, if_pos ⟨rfl, h1⟩, a2]
    have v2 : (kidF root x s k).2.getD x 0 = max (s.2.getD x 0) (sol G root D k).depth := by
      show (s.2.set x _).getD x 0 = _
      rw [set_get, if_pos ⟨rfl, h2⟩, a3]
    obtain ⟨i1, i2, i3, i4⟩ := ih (kidF root x s k) (by simp [kidF]; exact h1) (by simp [kidF]; exact h2) (by rw [v1]; omega) fun c hc => by
      obtain ⟨b1, b2, b3⟩ := h4 c (by simp [hc])
      exact ⟨b1, by rw [o1 _ b1]; exact b2, by rw [o2 _ b1]; exact b3⟩
    refine ⟨fun v hv => ?_, ?_, ?_, ?_⟩
    · rw [List.foldl_cons, (i1 v hv).1, (i1 v hv).2, o1 v hv, o2 v hv]; exact ⟨rfl, rfl⟩
    · rw [List.foldl_cons, i2, v1, List.map_cons]
      simp only [sizeL]
      omega
    · rw [List.foldl_cons, i3, v2, List.map_cons]
      simp only [depthL]
      omega
    · rw [List.foldl_cons, i4]; simp [kidF]
/-- What a node's places hold. -/
def FHas (G : List Nd) (root : Nat → Nat) (D : Nat) (s : FS) (x : Nat) : Prop := s.1.getD x 0 = min (1 + sizeL ((nd G x).kids.map (sol G root D))) 201 ∧ s.2.getD x 0 = depthL ((nd G x).kids.map (sol G root D)) + 1
theorem foldl_ok (xs : List Nat) : FOk n m s → FOk n (m + xs.length) (xs.foldl (nodeF G root) s) := by
  induction xs generalizing s m with
  | nil => intro h; exact h
  | cons x r ih =>
    intro h
    have := ih (h.node (G := G) (root := root) (x := x))
    rw [List.foldl_cons, List.length_cons]
    exact ⟨this.l1, this.l2, this.b1, fun v => by have := this.b2 v; omega⟩
end
section
variable {G : List Nd} {root : Nat → Nat} {n : Nat}
theorem mid_index {p suf : List Nat} {x v : Nat} (hn : (p ++ x :: suf).Nodup) {t : Nat} (ht : t < (p ++ x :: suf).length) (hv : (p ++ x :: suf).getD t 0 = v) (hx : x ∈ (p ++ x :: suf).take t) : v ∈ suf := by
  have hpt : p.length < t := by
    refine Classical.byContradiction fun h => ?_
    have hxp : x ∈ p := by
      rw [List.take_append_of_le_length (by omega)] at hx
      exact List.mem_of_mem_take hx
    rw [List.nodup_append] at hn
    exact hn.2.2 x hxp x (by simp) rfl
  have h2 : (p ++ x :: suf).getD t 0 = suf.getD (t - p.length - 1) 0 := by
    obtain ⟨k, rfl⟩ : ∃ k, t = p.length + (k + 1) := ⟨t - p.length - 1, by omega⟩
    simp only [List.getD]
    rw [List.getElem?_append_right (by omega)]
    simp
  rw [← hv, h2]
  exact nat_getD_mem (by simp at ht; omega)
theorem kids_other {v x : Nat} (hv : v ≠ x) : ∀ (ks : List Nat) (s : FS), (ks.foldl (kidF root x) s).2.getD v 0 = s.2.getD v 0 := by
  intro ks
  induction ks with
  | nil => intro s; rfl
  | cons k r ih =>
    intro s
    rw [List.foldl_cons, ih]
    show (s.2.set x _).getD v 0 = _
    rw [set_get, if_neg (fun k => hv k.1)]
theorem fold_other {v : Nat} : ∀ (xs : List Nat) (s : FS), v ∉ xs → (xs.foldl (nodeF G root) s).2.getD v 0 = s.2.getD v 0 := by
  intro xs
  induction xs with
  | nil => intro s _; rfl
  | cons x r ih =>
    intro s h
    have hv : v ≠ x := fun e => h (by rw [e]; simp)
    rw [List.foldl_cons, ih _ (fun e => h (by simp [e]))]
    show ((kidsF root x (nd G x).kids s).2.set x _).getD v 0 = _
    rw [set_get, if_neg (fun k => hv k.1)]
    exact kids_other hv _ _
/-- The nodes in reverse order: each one's places are reckoned when its turn comes. -/
theorem fit_all {ord us : List Nat} {D : Nat} (ho : Ordering G root ord ord.length [] us) (hall : ord.length = G.length) (hrl : ∀ i, i < G.length → root i < G.length) (hok : Ok G)
    (hs : ∀ c, c < G.length → (sol G root D c).size = 1 + sizeL ((nd G (root c)).kids.map (sol G root D)) ∧ (sol G root D c).depth = depthL ((nd G (root c)).kids.map (sol G root D)) + 1) {s0 : FS} (h0 : FOk G.length 0 s0) :
    ∀ (suf p : List Nat), ord = p ++ suf → ∀ x ∈ suf, FHas G root D (suf.reverse.foldl (nodeF G root) s0) x := by
  have hmem := (pigeon _ _ ho.nodup ho.lt).2 hall
  intro suf
  induction suf with
  | nil => intro p _ x hx; cases hx
  | cons x suf ih =>
    intro p e y hy
    have ih2 := ih (p ++ [x]) (by simpa using e)
    have hf := foldl_ok (G := G) (root := root) suf.reverse h0
    rw [List.reverse_cons, List.foldl_append, List.foldl_cons, List.foldl_nil]
    generalize hS : suf.reverse.foldl (nodeF G root) s0 = s at *
    have hn := ho.nodup
    rw [e] at hn
    have hxl : x < G.length := ho.lt x (by rw [e]; simp)
    have hxs : x ∉ suf := by
      rw [List.nodup_append] at hn
      exact (List.nodup_cons.1 hn.2.1).1
    have hk : ∀ c ∈ (nd G x).kids, root c ∈ suf := fun c hc => by
      have hcl := (hok x hxl).mem hc
      obtain ⟨t, ht, he⟩ := List.mem_iff_getElem.1 (hmem (root c) (hrl c hcl))
      have he2 : ord.getD t 0 = root c := by simp [List.getD, ht, he]
      have h1 := ho.pre t ht x hxl (by rw [he2, uses_pos]; exact ⟨c, hc, rfl⟩)
      rw [e] at h1 ht he2
      exact mid_index hn ht he2 h1
    obtain ⟨i1, i2, i3, i4⟩ := kids_val (G := G) (root := root) (x := x) (D := D) (nd G x).kids (s.1.set x 1, s.2) (by rw [List.length_set, hf.l1]; exact hxl) (by rw [hf.l2]; exact hxl) (by rw [set_get, if_pos ⟨rfl, by rw [hf.l1]; exact hxl⟩]; omega) fun c hc => by
      have hcs := hk c hc
      have hcl := (hok x hxl).mem hc
      obtain ⟨a1, a2⟩ := ih2 _ hcs
      have hne : root c ≠ x := fun e => hxs (e ▸ hcs)
      refine ⟨hne, ?_, ?_⟩
      · rw [set_get, if_neg (fun k => hne k.1), a1, (hs c hcl).1]
      · rw [a2, (hs c hcl).2]
    by_cases hyx : y = x
    · subst hyx
      refine ⟨?_, ?_⟩
      · show (kidsF root y (nd G y).kids s).1.getD y 0 = _
        unfold kidsF
        rw [i2, set_get, if_pos ⟨rfl, by rw [hf.l1]; exact hxl⟩]
      · show ((kidsF root y (nd G y).kids s).2.set y _).getD y 0 = _
        unfold kidsF
        rw [set_get, if_pos ⟨rfl, by rw [i4, hf.l2]; exact hxl⟩, i3]
        have h3 := fold_other (G := G) (root := root) (v := y) suf.reverse s0 (by simpa using hxs)
        rw [hS] at h3
        have h4 := h0.b2 y
        have h5 : s.2.getD y 0 = 0 := by omega
        show max (s.2.getD y 0) _ + 1 = _
        rw [h5, Nat.zero_max]
    · have hys : y ∈ suf := by
        rcases List.mem_cons.1 hy with h | h
        · exact absurd h hyx
        · exact h
      obtain ⟨a1, a2⟩ := ih2 y hys
      refine ⟨?_, ?_⟩
      · show (kidsF root x (nd G x).kids s).1.getD y 0 = _
        unfold kidsF
        rw [(i1 y hyx).1, set_get, if_neg (fun k => hyx k.1), a1]
      · show ((kidsF root x (nd G x).kids s).2.set x _).getD y 0 = _
        unfold kidsF
        rw [set_get, if_neg (fun k => hyx k.1), (i1 y hyx).2, a2]
theorem sol_size {E : List (Nat × Nat)} {root r : Nat → Nat} {D : Nat} (h : Closed G E root) (hr : Ranked G root r D) : ∀ c, c < G.length → (sol G root D c).size = 1 + sizeL ((nd G (root c)).kids.map (sol G root D)) ∧ (sol G root D c).depth = depthL ((nd G (root c)).kids.map (sol G root D)) + 1 := by
  intro c hc
  have hk := h.ok _ (h.lt c hc)
  rw [sol_eq h hr hc]
  by_cases h1 : (nd G (root c)).tm.kind = 1
  · rw [if_pos h1, hk.var h1]
    simp [vr, Tm.size, Tm.depth, sizeL, depthL]
  · rw [if_neg h1]
    by_cases h2 : (nd G (root c)).tm.kind = 2
    · simp only [Tm.size, Tm.depth, if_pos h2]
      exact ⟨trivial, trivial⟩
    · have h3 : (nd G (root c)).kids = [] := List.length_eq_zero_iff.1 (by rw [hk.len, (form_args hk.form).1 h2]; rfl)
      rw [h3]
      simp [Tm.size, Tm.depth, sizeL, depthL, h2]
end
end Go.Proofs.Ytdjbigfobodecaa
namespace Go.Proofs.Ytdjbigfobodecaa

section
variable {P : Program} {l n : Nat} {ops : Array Oper} {md : Region.Mode} {Q : Exit → Act → World → Prop} {S : World → Prop}
theorem round_rows {row : String} {args : Array Value} {w : World} {R : Value → World → Prop} (h : Go.Rows P row args w R) : RowsIn (Fence.wide.inRound l) n P row args w R := fun c cs _ => by
  obtain ⟨v, w', r, s⟩ := h c cs
  exact ⟨v, w', r, stepsIn_wide.2 s⟩
theorem round_calls {f : FuncId} {args : Array Value} {w : World} {R : Ending → World → Prop} (h : Calls P f args w R) : CallsIn (Fence.wide.inRound l) n P f args w R := CallsIn.inRound l (callsIn_wide.2 h)
theorem round_op {o : Oper} {a : Act} {w : World} {K : Act → World → Prop} (hd : ∀ c, o.op ≠ .defer c) (h : o.wp P a w K Q) : o.wpIn (Fence.wide.inRound l) n P a w K Q := by
  refine ⟨fun f _ => trivial, ?_⟩
  rw [Oper.semAt_eq _ _ _ hd]
  unfold Oper.wp at h
  generalize (execOp a.eval o).run P w = r at *
  cases r with
  | ok x w' =>
    cases x with
    | value v => exact h
    | skip => exact h
    | defer d => exact h
    | enter f args => exact ⟨fun e => (by cases e), round_calls h⟩
    | row row args => exact ⟨fun e => (by cases e), round_rows h⟩
    | _ => exact h.elim
  | halt x w' => cases x <;> first | exact h | exact h.elim
theorem round_any (hd : ∀ (i : Nat) (o : Oper), ops[i]? = some o → ∀ c, o.op ≠ .defer c) (hq : ¬ LetsOut Q) : ∀ (fuel : Nat) (listed : Array Bool) (a : Act) (w : World), wpAny P md ops Q fuel listed a w → wpAnyIn (Fence.wide.inRound l) n P md ops Q fuel listed a w
  | 0, _, _, _, h => h
  | fuel + 1, _, a, _, h => ⟨h.1, fun i hi => by
      have h2 := h.2 i hi
      unfold wpOp at h2
      unfold wpOpIn
      cases ho : ops[i]? with
      | none =>
        rw [ho] at h2
        exact round_any hd hq fuel _ _ _ h2
      | some o =>
        rw [ho] at h2
        simp only at h2 ⊢
        by_cases hw : Region.wanted o (yielded ops a.tmps) = true
        · rw [if_pos hw] at h2 ⊢
          rcases h2 with h2 | h2
          · exact Oper.wpIn_mono (fun a' w' h' => round_any hd hq fuel _ a' w' h') (round_op (hd i o ho) h2)
          · exact absurd h2.2 hq
        · rw [if_neg hw] at h2 ⊢
          exact ⟨fun f _ => trivial, round_any hd hq fuel _ _ _ h2⟩⟩
/-- Only the ordinary way out. -/
def Only (Q : Exit → Act → World → Prop) (e : Exit) (a : Act) (w : World) : Prop := e = .normal ∧ Q e a w
theorem round_start {id : Nat} {a : Act} {w : World} (fuel : Nat) (hf : ops.size = fuel) (S : World → Prop) (hm : P.follows .mixedOrders = true) (hd : ∀ (i : Nat) (o : Oper), ops[i]? = some o → ∀ c, o.op ≠ .defer c)
    (h : wpAnyH P .any ops (Only Q) S fuel (Array.replicate fuel false) a w.drew) : (Code.region id ops true).wpIn (Fence.wide.inRound l) n P Q a w := by
  subst hf
  refine wpIn_mono (Q := Only Q) (wpIn_region_any hm (round_any hd ?_ _ _ _ _ (wpAny_of_held _ _ _ _ h))) ?_
  · rintro ⟨a, w, h, _⟩
    cases h
  · rintro e a w ⟨rfl, h⟩
    exact h
theorem round_take {i : Nat} {oi : Oper} {dst : Option Tmp} {v : Value} {fuel : Nat} {listed : Array Bool} {a : Act} {w : World} (hi : ops[i]? = some oi) (hdst : oi.dst = dst)
    (hs : Region.noSelect ops = true) (hf : Region.free md ops listed i = true) (hr : (Region.ready md ops listed).contains i = true) (hwt : Region.wanted oi (yielded ops a.tmps) = true)
    (hS : S w) (hy : ∀ w, S w → (execOp a.eval oi).run P w = .ok (.value v) w)
    (h : wpAnyH P md ops (Only Q) S fuel (listed.setIfInBounds i true) (a.put dst v) w) : wpAnyH P md ops (Only Q) S (fuel + 1) listed a w :=
  wpAnyH_take hi hs hf hr (fun _ _ _ h => by cases h.1) (.inl ⟨hwt, hy⟩) hS (hdst ▸ h)
theorem round_do {i : Nat} {oi : Oper} {dst : Option Tmp} {v : Value} {fuel : Nat} {listed : Array Bool} {a : Act} {w w2 : World} (hi : ops[i]? = some oi) (hdst : oi.dst = dst) (hwt : Region.wanted oi (yielded ops a.tmps) = true)
    (hy : (execOp a.eval oi).run P w = .ok (.value v) w2) (hS : S w2)
    (h : wpAnyH P md ops (Only Q) S fuel (listed.setIfInBounds i true) (a.put dst v) w2) : wpOp P ops (Only Q) i (fun a' w' => S w' ∧ wpAnyH P md ops (Only Q) S fuel (listed.setIfInBounds i true) a' w') a w := by
  unfold wpOp
  rw [hi]
  simp only
  rw [if_pos hwt]
  refine .inl ?_
  unfold Oper.wp
  rw [hy]
  exact ⟨hS, hdst ▸ h⟩
theorem round_skip {i : Nat} {oi : Oper} {fuel : Nat} {listed : Array Bool} {a : Act} {w w2 : World} (hi : ops[i]? = some oi) (hwt : Region.wanted oi (yielded ops a.tmps) = true)
    (hy : (execOp a.eval oi).run P w = .ok .skip w2) (hS : S w2)
    (h : wpAnyH P md ops (Only Q) S fuel (listed.setIfInBounds i true) (a.put oi.dst undef) w2) : wpOp P ops (Only Q) i (fun a' w' => S w' ∧ wpAnyH P md ops (Only Q) S fuel (listed.setIfInBounds i true) a' w') a w := by
  unfold wpOp
  rw [hi]
  simp only
  rw [if_pos hwt]
  refine .inl ?_
  unfold Oper.wp
  rw [hy]
  exact ⟨hS, h⟩
theorem round_one {i : Nat} {fuel : Nat} {listed : Array Bool} {a : Act} {w : World} (hr : Region.ready md ops listed = [i])
    (h : wpOp P ops (Only Q) i (fun a' w' => S w' ∧ wpAnyH P md ops (Only Q) S fuel (listed.setIfInBounds i true) a' w') a w) : wpAnyH P md ops (Only Q) S (fuel + 1) listed a w :=
  wpAnyH_all hr (by simp) fun j hj => by rw [List.mem_singleton.1 hj]; exact h
theorem round_two {i k : Nat} {fuel : Nat} {listed : Array Bool} {a : Act} {w : World} (hr : Region.ready md ops listed = [i, k])
    (h : wpOp P ops (Only Q) i (fun a' w' => S w' ∧ wpAnyH P md ops (Only Q) S fuel (listed.setIfInBounds i true) a' w') a w)
    (h' : wpOp P ops (Only Q) k (fun a' w' => S w' ∧ wpAnyH P md ops (Only Q) S fuel (listed.setIfInBounds k true) a' w') a w) : wpAnyH P md ops (Only Q) S (fuel + 1) listed a w :=
  wpAnyH_all hr (by simp) fun j hj => by
    rcases List.mem_cons.1 hj with rfl | hj
    · exact h
    · rw [List.mem_singleton.1 hj]; exact h'
def noDefer (o : Oper) : Bool := match o.op with
  | .defer _ => false
  | _ => true
theorem no_defer (h : ops.all noDefer = true) (i : Nat) (o : Oper) (ho : ops[i]? = some o) (c : Call) : o.op ≠ .defer c := by
  intro e
  have h2 := (Array.all_eq_true_iff_forall_mem.1 h) o (Array.mem_of_getElem? ho)
  unfold noDefer at h2
  rw [e] at h2
  cases h2
theorem round_end {fuel : Nat} {listed : Array Bool} {a : Act} {w : World} (hr : Region.ready md ops listed = []) (h : Q .normal a w) : wpAnyH P md ops (Only Q) S fuel listed a w := wpAnyH_done hr ⟨rfl, h⟩ _
theorem round_end2 {fuel : Nat} {listed : Array Bool} {a : Act} {w w2 : World} (hw : w2 = w) (hr : Region.ready md ops listed = []) (h : Q .normal a w2) : wpAnyH P md ops (Only Q) S fuel listed a w := by
  subst hw
  exact round_end hr h
/-- The same in a plain walk, one way after another: what is wanted. -/
theorem held_take {i : Nat} {oi : Oper} {dst : Option Tmp} {v : Value} {fuel : Nat} {listed : Array Bool} {a : Act} {w : World} (hi : ops[i]? = some oi) (hdst : oi.dst = dst)
    (hs : Region.noSelect ops = true) (hf : Region.free md ops listed i = true) (hr : (Region.ready md ops listed).contains i = true) (hwt : Region.wanted oi (yielded ops a.tmps) = true)
    (hS : S w) (hy : ∀ w, S w → (execOp a.eval oi).run P w = .ok (.value v) w)
    (h : wpAnyH P md ops (Only Q) S fuel (listed.setIfInBounds i true) (a.put dst v) w) : wpAnyH P md ops (Only Q) S (fuel + 1) listed a w := round_take hi hdst hs hf hr hwt hS hy h
/-- What its guard passes over. -/
theorem held_pass {i : Nat} {oi : Oper} {dst : Option Tmp} {fuel : Nat} {listed : Array Bool} {a : Act} {w : World} (hi : ops[i]? = some oi) (hdst : oi.dst = dst)
    (hs : Region.noSelect ops = true) (hf : Region.free md ops listed i = true) (hr : (Region.ready md ops listed).contains i = true) (hwt : Region.wanted oi (yielded ops a.tmps) = false)
    (hS : S w) (h : wpAnyH P md ops (Only Q) S fuel (listed.setIfInBounds i true) (a.put dst undef) w) : wpAnyH P md ops (Only Q) S (fuel + 1) listed a w :=
  wpAnyH_take hi hs hf hr (fun _ _ _ h => by cases h.1) (.inr ⟨hwt, rfl⟩) hS (hdst ▸ h)
/-- A call. -/
theorem held_call {i : Nat} {oi : Oper} {dst : Option Tmp} {f : FuncId} {args : Array Value} {fuel : Nat} {listed : Array Bool} {a : Act} {w w1 : World} {R : Ending → World → Prop} (hi : ops[i]? = some oi) (hdst : oi.dst = dst) (hwt : Region.wanted oi (yielded ops a.tmps) = true)
    (hy : (execOp a.eval oi).run P w = .ok (.enter f args) w1) (hc : Calls P f args w1 R) (hR : ∀ e w', R e w' → ∃ v, e = .returned v ∧ S w' ∧ wpAnyH P md ops (Only Q) S fuel (listed.setIfInBounds i true) (a.put dst v) w') :
    wpOp P ops (Only Q) i (fun a' w' => S w' ∧ wpAnyH P md ops (Only Q) S fuel (listed.setIfInBounds i true) a' w') a w := by
  unfold wpOp
  rw [hi]
  simp only
  rw [if_pos hwt]
  refine .inl ?_
  unfold Oper.wp
  rw [hy]
  refine Calls.mono hc fun e w' h => ?_
  obtain ⟨v, rfl, h1, h2⟩ := hR e w' h
  exact ⟨h1, hdst ▸ h2⟩
theorem held_start {id : Nat} {a : Act} {w : World} (fuel : Nat) (hf : ops.size = fuel) (S : World → Prop) (hm : P.follows .mixedOrders = true)
    (h : wpAnyH P .any ops (Only Q) S fuel (Array.replicate fuel false) a w.drew) : (Code.region id ops true).wp P Q a w := by
  subst hf
  refine wp_mono (Q := Only Q) (wp_region_held hm h) ?_
  rintro e a w ⟨rfl, h⟩
  exact h
end
end Go.Proofs.Ytdjbigfobodecaa
