/-
  The chapter's examples: terms and boxes that lie, and the calls at them.
-/
import Derived.Test.YtpnjjahimhhjkaaVaShiftP
import Derived.Test.YtpnjjahimhhjkaaVrNum
import Derived.Test.YtpnjjahimhhjkaaSuFun
import Derived.Test.YtpnjjahimhhjkaaSuOpen
import Derived.Test.YtpnjjahimhhjkaaTmTop
import Derived.KernelRfl
namespace Go.Proofs.Ytpnjjahimhhjkaa
open Go.RowKit

def Ext (w v : World) : Prop := Below w.heap.size w v
theorem Ext.refl (w : World) : Ext w w := Below.refl _ _
theorem Ext.trans {u v w : World} (h1 : Ext u v) (h2 : Ext v w) : Ext u w := Below.trans h1 (h2.mono h1.size)
theorem Ext.al (w : World) (o : Obj) : Ext w (w.alloc o) := (Below.refl _ w).alloc (Nat.le_refl _) o
theorem Ext.drew (w : World) : Ext w w.drew := (Below.refl _ w).drew
theorem Ext.al2 (w : World) (o o2 : Obj) : Ext w ((w.alloc o).alloc o2) := (Ext.al _ _).trans (Ext.al _ _)
theorem Ext.al3 (w : World) (o o2 o3 : Obj) : Ext w (((w.alloc o).alloc o2).alloc o3) := (Ext.al2 _ _ _).trans (Ext.al _ _)
theorem Ext.ald (w : World) (o : Obj) : Ext w (w.alloc o).drew := (Ext.al _ _).trans (Ext.drew _)
theorem Ext.al2d (w : World) (o o2 : Obj) : Ext w ((w.alloc o).alloc o2).drew := (Ext.al2 _ _ _).trans (Ext.drew _)
theorem ext_row {u v : World} {cs : Array Value} {T : TypeId} (h : Ext (u.alloc (.cells cs T)) v) (j : Nat) {x : Value} (hx : cs[j]? = some x) : v.cell? ⟨u.heap.size, j, none⟩ = some x :=
  (h.cell (p := ⟨u.heap.size, j, none⟩) (by simp)).trans ((World.cell?_alloc_at _ _ _ _ rfl).trans hx)

abbrev exV (n : Int) : Tm := .mk 1 n ⟨#[]⟩ none 0 []
/-- A functor of one letter. -/
abbrev exF (b : UInt8) (g c : Nat) (l : List Tm) : Tm := .mk 2 0 ⟨#[b]⟩ (some ⟨g, 0, none⟩) c l
theorem exV_at {n : Int} (W : World) (h : 0 ≤ n ∧ n ≤ 100) : (exV n).At W := (At_iff _ _).2 ⟨⟨by simp only [Tm.kind]; unfold Fits; omega, by simp only [Tm.num]; unfold Fits; omega, by unfold maxLen; simp [Tm.name, ByteArray.size]⟩, Lst.nil W⟩
/-- One, two terms in a row that was just laid. -/
theorem row1_of {u W : World} {g : Nat} (hg : g = u.heap.size) (t : Tm) (ht : t.At u) (h : Ext (u.alloc (.cells #[.int .i64 t.kind, .int .i64 t.num, .string t.name, .slice t.at_ t.args.length t.cap] 24)) W) : RowAt W [t] g 0 := by
  subst hg
  exact (At_keep h).2 _ _ _ (row_one t ht)
theorem row2_of {u W : World} {g : Nat} (hg : g = u.heap.size) (t x : Tm) (ht : t.At u) (hx : x.At u) (h : Ext (u.alloc (.cells #[.int .i64 t.kind, .int .i64 t.num, .string t.name, .slice t.at_ t.args.length t.cap, .int .i64 x.kind, .int .i64 x.num, .string x.name, .slice x.at_ x.args.length x.cap] 24)) W) : RowAt W [t, x] g 0 := by
  subst hg
  exact (At_keep h).2 _ _ _ (row_two t x ht hx)
/-- What Fun of a row hands out. -/
def FunR (b : UInt8) (l : List Tm) (w : World) (e : Ending) (w' : World) : Prop :=
  ∃ g c : Nat, e = .returned (.agg #[.int .i64 2, .int .i64 0, .string ⟨#[b]⟩, .slice (some ⟨g, 0, none⟩) l.length c]) ∧ (exF b g c l).At w' ∧ Ext w w'
theorem fun_call (b : UInt8) (l : List Tm) {g n c : Nat} {W : World} (hn : n = l.length) (h0 : 0 < l.length) (hl : RowAt W l g 0) (hsz : l.length ≤ 1000000) :
    Calls Try.prog 41 #[.string ⟨#[b]⟩, .slice (some ⟨g, 0, none⟩) n c] W (FunR b l W) := by
  subst hn
  exact (ref_fun_at ⟨#[b]⟩ l g 0 c W h0 hl hsz (by unfold maxLen; simp [ByteArray.size])).mono fun e w' ⟨g, c, h1, h2, h3⟩ => ⟨g, c, h1, h2, h3⟩

/-! ### What comes out -/
theorem ex_shift (g c : Nat) : ((exF 102 g c [exV 0, exV 2]).ren (shiftV 3)).strip = (exF 102 0 0 [exV 3, exV 5]).strip := by
  simp [Tm.ren, renL, shiftV, Tm.strip, stripL]
theorem ex_vars (g c : Nat) : varsL [exF 102 g c [exV 5, exV 2], exV 5] = [5, 2] := by
  simp [varsL, occL, Tm.occ, addAll, addV]
theorem ex_number (g c : Nat) : stripL (renL [exF 102 g c [exV 5, exV 2], exV 5] (plc [5, 2])) = stripL [exF 102 0 0 [exV 0, exV 1], exV 0] := by
  have h5 : plc [5, 2] 5 = 0 := by decide
  have h2 : plc [5, 2] 2 = 1 := by decide
  simp [Tm.ren, renL, Tm.strip, stripL, h5, h2]
theorem ex_occ {u : Tm} (h : u.strip = (exF 102 0 0 [exV 3, exV 5]).strip) : topL (occL [u]) = 6 := by
  have e : u.occ = [3, 5] := by rw [occ_like (canon_strip h)]; simp [Tm.occ, occL]
  simp only [occL, e]
  decide

/-! ### The calls -/
theorem shift_call (W : World) {g c n : Nat} (hn : n = 2) (hat : (exF 102 g c [exV 0, exV 2]).At W) : Calls Try.prog 12 #[.agg #[.int .i64 2, .int .i64 0, .string ⟨#[102]⟩, .slice (some ⟨g, 0, none⟩) n c], .int .i64 3] W fun e w' => ∃ u : Tm, e = .returned u.val ∧ u.strip = (exF 102 0 0 [exV 3, exV 5]).strip ∧ u.At w' ∧ Ext W w' := by
  subst hn
  exact (shift_term_at (exF 102 g c [exV 0, exV 2]) 3 (by unfold Fits; omega) W hat (by simp [Tm.nodes, nodesL])).mono fun e w' ⟨u, he, hs, hl, hb⟩ => ⟨u, he, hs.trans (ex_shift g c), hl.at trivial, hb⟩
def NumE (W : World) (e : Ending) (w' : World) : Prop := ∃ A cap B cb, ∃ cur : List Tm, e = .returned (.tuple #[.slice A 2 cap, .slice B 2 cb]) ∧ cur.length = 2 ∧ stripL cur = stripL [exF 102 0 0 [exV 0, exV 1], exV 0] ∧ Lst w' A cur cap ∧ Ints w' B [5, 2] ∧ Ext W w'
theorem number_call (W : World) {g c r n : Nat} (hn : n = 2) (hl : RowAt W [exF 102 g c [exV 5, exV 2], exV 5] r 0) : Calls Try.prog 19 #[.slice (some ⟨r, 0, none⟩) n n] W (NumE W) := by
  subst hn
  have h := number_at [exF 102 g c [exV 5, exV 2], exV 5] (some ⟨r, 0, none⟩) 2 W (Lst.of_row hl (by simp)) (by simp [Tm.nodes, nodesL])
  rw [ex_vars] at h
  exact h.mono fun e w' ⟨A, cap, B, cb, cur, he, h1, h2, h3, h4, h5⟩ => ⟨A, cap, B, cb, cur, he, h1, h2.trans (ex_number g c), h3, h4, h5⟩
theorem same_call (W : World) {u : Tm} {g c n : Nat} (hn : n = 2) (hu : u.At W) (hs : u.strip = (exF 102 0 0 [exV 3, exV 5]).strip) (hat : (exF 102 g c [exV 3, exV 5]).At W) :
    Calls Try.prog 11 #[u.val, .agg #[.int .i64 2, .int .i64 0, .string ⟨#[102]⟩, .slice (some ⟨g, 0, none⟩) n c]] W fun e w' => e = .returned (.bool true) ∧ Ext W w' := by
  subst hn
  exact ref_same_at u (exF 102 g c [exV 3, exV 5]) W hu hat (same_strip (by rw [hs]; simp [Tm.strip]))
theorem same_call2 (W : World) {k q : Int} {s : ByteArray} {A : Option Addr} {cc : Nat} {a : List Tm} {g c n m : Nat} (hn : n = 2) (hm : m = a.length) (hu : (Tm.mk k q s A cc a).At W) (hs : (Tm.mk k q s A cc a).strip = (exF 102 0 0 [exV 3, exV 5]).strip) (hat : (exF 102 g c [exV 3, exV 5]).At W) :
    Calls Try.prog 11 #[.agg #[.int .i64 k, .int .i64 q, .string s, .slice A m cc], .agg #[.int .i64 2, .int .i64 0, .string ⟨#[102]⟩, .slice (some ⟨g, 0, none⟩) n c]] W fun e w' => e = .returned (.bool true) ∧ Ext W w' := by
  subst hm
  have h := same_call W (u := .mk k q s A cc a) (g := g) (c := c) (n := n) hn hu hs hat
  simp only [Tm.val, Tm.kind, Tm.num, Tm.name, Tm.at_, Tm.args, Tm.cap] at h
  exact h
theorem top_call (W : World) {u : Tm} {r n : Nat} (hn : n = 1) (hs : u.strip = (exF 102 0 0 [exV 3, exV 5]).strip) (hl : RowAt W [u] r 0) :
    Calls Try.prog 23 #[.slice (some ⟨r, 0, none⟩) n n] W fun e w' => e = .returned (.int .i64 6) ∧ Ext W w' := by
  subst hn
  have h := top_at [u] (some ⟨r, 0, none⟩) 1 W (Lst.of_row hl (by simp)) (by
    have := nodesL_strip (l := [u]) (m := [exF 102 0 0 [exV 3, exV 5]]) (by simp only [stripL, hs])
    rw [this]
    simp [Tm.nodes, nodesL])
  rw [ex_occ hs] at h
  exact h
theorem terms_call (W : World) {A : Option Addr} {cap : Nat} {cur : List Tm} {g c r n m : Nat} (hn : n = 2) (hm : m = 2) (hlen : cur.length = 2) (hs : stripL cur = stripL [exF 102 0 0 [exV 0, exV 1], exV 0]) (hc : Lst W A cur cap) (hl : RowAt W [exF 102 g c [exV 0, exV 1], exV 0] r 0) :
    Calls Try.prog 21 #[.slice A n cap, .slice (some ⟨r, 0, none⟩) m m] W fun e w' => e = .returned (.bool true) ∧ Ext W w' := by
  subst hn hm
  have h := same_terms_at cur [exF 102 g c [exV 0, exV 1], exV 0] A (some ⟨r, 0, none⟩) cap 2 W hc (Lst.of_row hl (by simp)) (r := true) (by
    rw [← cmp_strip.2, hs, show stripL [exF 102 g c [exV 0, exV 1], exV 0] = stripL [exF 102 0 0 [exV 0, exV 1], exV 0] by simp [stripL, Tm.strip], cmp_self.2]
    rfl)
  rw [hlen] at h
  exact h
theorem ints_call (W : World) {B : Option Addr} {cb : Nat} {u : World} {r n m : Nat} (hr : r = u.heap.size) (hn : n = 2) (hm : m = 2) (hI : Ints W B [5, 2]) (h : Ext (u.alloc (.cells #[.int .i64 5, .int .i64 2] 3)) W) :
    Calls Try.prog 22 #[.slice B n cb, .slice (some ⟨r, 0, none⟩) m m] W fun e w' => e = .returned (.bool true) ∧ Ext W w' := by
  subst hn hm hr
  exact same_ints_at B (some ⟨u.heap.size, 0, none⟩) [5, 2] [5, 2] cb 2 W hI (fun _ => ⟨_, 0, rfl, fun i hi => by
    rw [Nat.zero_add]
    match i, hi with
    | 0, _ => exact ext_row h 0 rfl
    | 1, _ => exact ext_row h 1 rfl⟩) (by simp) (by simp) (by simp)
theorem variants_call (W : World) {A : Option Addr} {cap : Nat} {cur : List Tm} {n : Nat} (hn : n = 2) (hlen : cur.length = 2) (hs : stripL cur = stripL [exF 102 0 0 [exV 0, exV 1], exV 0]) (hc : Lst W A cur cap) :
    Calls Try.prog 32 #[.slice A n cap, .slice A n cap] W fun e w' => e = .returned (.bool true) ∧ Ext W w' := by
  subst hn
  have hnn : nodesL cur ≤ 1000000 := by rw [nodesL_strip hs]; simp [Tm.nodes, nodesL]
  have h := variants_at cur cur A A cap cap W hc hc hnn hnn
  rw [variantB_refl, hlen] at h
  exact h
theorem var_call (n : Int) (w : World) : Calls Try.prog 25 #[.int .i64 n] w fun e w' => e = .returned (.agg #[.int .i64 1, .int .i64 n, .string ⟨#[]⟩, .slice none 0 0]) ∧ Ext w w' := ref_var_at3 n w
end Go.Proofs.Ytpnjjahimhhjkaa
