/-
  Rules in memory; an argument that is one, opened; contract of ShiftRule of the program.
-/
import Derived.Test.YtpnjjahimhhjkaaVpAm
import Derived.Test.YtpnjjahimhhjkaaVpGl
import Derived.Test.YtpnjjahimhhjkaaVaShiftP
import Derived.Test.YtpnjjahimhhjkaaVlP
import Derived.Deep.Cut
namespace Go.Proofs.Ytpnjjahimhhjkaa
open Go.ChangeShapes Go.WideShapes Go.ChangeAt Go.RowKit

/-- A rule. -/
structure Rl where
  name : ByteArray
  kA : Option Addr
  kc : Nat
  keep : List Am
  rA : Option Addr
  rc : Nat
  remove : List Am
  gA : Option Addr
  gc : Nat
  guard : List Gl
  bA : Option Addr
  bc : Nat
  body : List Gl
  vars : Int
abbrev Rl.val (r : Rl) : Value := .agg #[.string r.name, .slice r.kA r.keep.length r.kc, .slice r.rA r.remove.length r.rc, .slice r.gA r.guard.length r.gc, .slice r.bA r.body.length r.bc, .int .i64 r.vars]
structure Rl.At (w : World) (r : Rl) : Prop where
  name : r.name.size ≤ maxLen
  keep : AmLst w r.kA r.keep r.kc
  remove : AmLst w r.rA r.remove r.rc
  guard : GlLst w r.gA r.guard r.gc
  body : GlLst w r.bA r.body r.bc
  vars : Fits r.vars
theorem Rl.At.below {w w' : World} {r : Rl} (h : r.At w) (hb : Below w.heap.size w w') : r.At w' := ⟨h.name, h.keep.below hb, h.remove.below hb, h.guard.below hb, h.body.below hb, h.vars⟩
/-- Not too large. -/
structure Rl.Small (r : Rl) : Prop where
  k1 : r.keep.length ≤ 1000000
  k2 : ∀ x ∈ r.keep, nodesL x.args ≤ 1000000
  r1 : r.remove.length ≤ 1000000
  r2 : ∀ x ∈ r.remove, nodesL x.args ≤ 1000000
  g1 : r.guard.length ≤ 1000000
  g2 : ∀ x ∈ r.guard, nodesL x.args ≤ 1000000
  b1 : r.body.length ≤ 1000000
  b2 : ∀ x ∈ r.body, nodesL x.args ≤ 1000000
/-- u is r with its constraints and goals made anew. -/
structure Like (fA : Am → Am) (fG : Gl → Gl) (u r : Rl) : Prop where
  name : u.name = r.name
  vars : u.vars = r.vars
  kl : u.keep.length = r.keep.length
  keep : u.keep.map Am.key = (r.keep.map fA).map Am.key
  rl : u.remove.length = r.remove.length
  remove : u.remove.map Am.key = (r.remove.map fA).map Am.key
  gl : u.guard.length = r.guard.length
  guard : u.guard.map Gl.key = (r.guard.map fG).map Gl.key
  bl : u.body.length = r.body.length
  body : u.body.map Gl.key = (r.body.map fG).map Gl.key
def RlMade (fA : Am → Am) (fG : Gl → Gl) (r : Rl) (w : World) (e : Ending) (w' : World) : Prop := ∃ u : Rl, e = .returned u.val ∧ Like fA fG u r ∧ u.At w' ∧ Below w.heap.size w w'

section
variable {H : Type} {enc : TypeId × Value → H} {W : World} {base : Nat} {spare : Nat → Bool} {held : Bool}
set_option maxRecDepth 100000 in
theorem open_rl {r : Reach} {b0 : Nat} {v : Value} {d : DataW H} {p : List MemPlace} (hv : Value.okWide Try.prog W r b0 33 v) (h : DataW.Trod enc Try.prog W base spare held 33 v d p) :
    ∃ u : Rl, v = u.val ∧ u.At W := by
  obtain ⟨cs, rfl, hsz⟩ := okWide_struct Try.underlying33 hv
  obtain ⟨fuel, hf⟩ := h
  obtain ⟨xs, m, _, _, hcl, hxl, hg⟩ := DataW.trod_struct Try.underlying33 hf
  have hcl' : cs.toList.length = 6 := hcl.trans (by kernel_rfl)
  have hcs : (Value.agg cs).cells.toList = cs.toList := rfl
  rw [hcs] at hg
  match hl : cs.toList, hcl' with
  | [c0, c1, c2, c3, c4, c5], _ =>
    rw [hl] at hg
    have hxs : xs.length = 6 := hxl
    have g0 := hg 0 _ rfl
    have g1 := hg 1 _ rfl
    have g2 := hg 2 _ rfl
    have g3 := hg 3 _ rfl
    have g4 := hg 4 _ rfl
    have g5 := hg 5 _ rfl
    rw [List.getElem?_eq_getElem (by omega)] at g0 g1 g2 g3 g4 g5
    have e0 : (Try.prog.cellsOf 9) = 1 := by kernel_rfl
    have e1 : (Try.prog.cellsOf 30) = 1 := by kernel_rfl
    have e2 : (Try.prog.cellsOf 31) = 1 := by kernel_rfl
    have e3 : (Try.prog.cellsOf 3) = 1 := by kernel_rfl
    simp only [List.getElem_toArray, List.getElem_cons_zero, List.getElem_cons_succ] at g0 g1 g2 g3 g4 g5
    obtain ⟨s, hs, _, ws⟩ := DataW.trod_string (cs := [c0]) Try.underlying9 (by simpa [e0] using g0)
    obtain ⟨A1, l1, n1, hv1, hl1⟩ := ams_of (v := c1) (by simpa [e1] using g1)
    obtain ⟨A2, l2, n2, hv2, hl2⟩ := ams_of (v := c2) (by simpa [e1] using g2)
    obtain ⟨A3, l3, n3, hv3, hl3⟩ := gls_of (v := c3) (by simpa [e2] using g3)
    obtain ⟨A4, l4, n4, hv4, hl4⟩ := gls_of (v := c4) (by simpa [e2] using g4)
    obtain ⟨k, hk, _, wk⟩ := DataW.trod_int (cs := [c5]) Try.underlying3 (by simpa [e3] using g5)
    obtain rfl : c0 = .string s := by simpa using hs
    obtain rfl : c5 = .int .i64 k := by simpa using hk
    subst hv1 hv2 hv3 hv4
    refine ⟨⟨s, A1, n1, l1, A2, n2, l2, A3, n3, l3, A4, n4, l4, k⟩, ?_, ⟨ws, hl1, hl2, hl3, hl4, int_fits wk⟩⟩
    rw [← Array.toArray_toList (xs := cs), hl]
end

/-! ### Boxes -/
/-- A box that may be written. -/
structure HeldL (B : Nat) (w : World) (vs : List Value) : Prop where
  lt : B < w.heap.size
  cell : ∀ j v, vs[j]? = some v → w.cell? ⟨B, j, none⟩ = some v
  free : ∀ j, w.frozen? ⟨B, j, none⟩ = false
theorem HeldL.below {B : Nat} {w w' : World} {vs : List Value} (h : HeldL B w vs) (hb : Below w.heap.size w w') : HeldL B w' vs :=
  ⟨Nat.lt_of_lt_of_le h.lt hb.size, fun j v hv => keepv hb (h.cell j v hv), fun j => (hb.frozen (p := ⟨B, j, none⟩) h.lt).trans (h.free j)⟩
theorem heldL_new (w : World) (vs : List Value) (T : TypeId) : HeldL w.heap.size (w.alloc (.cells vs.toArray T)) vs :=
  ⟨by simp, fun j v hv => by rw [World.cell?_alloc_at _ _ _ _ rfl, List.getElem?_toArray]; exact hv, fun j => World.frozen?_alloc_at _ _ _ _ rfl⟩
theorem two_boxesL (w : World) (vs us : List Value) (T : TypeId) : HeldL w.heap.size ((w.alloc (.cells vs.toArray T)).alloc (.cells us.toArray T)) vs ∧ HeldL (w.heap.size + 1) ((w.alloc (.cells vs.toArray T)).alloc (.cells us.toArray T)) us := by
  have h := heldL_new (w.alloc (.cells vs.toArray T)) us T
  rw [World.size_alloc] at h
  exact ⟨(heldL_new w vs T).below (below1 _ _), h⟩
theorem HeldL.set {B : Nat} {w : World} {vs : List Value} (h : HeldL B w vs) {j : Nat} (hj : j < vs.length) (v : Value) : HeldL B (w.setCell ⟨B, j, none⟩ v) (vs.set j v) := by
  refine ⟨by simpa [World.setCell] using h.lt, fun i u hu => ?_, fun i => by rw [World.frozen?_setCell]; exact h.free i⟩
  by_cases e : i = j
  · subst e
    rw [List.getElem?_set_self hj] at hu
    injection hu with hu
    subst hu
    exact World.cell?_setCell_same' _ _ _ (by rw [h.cell i vs[i] (List.getElem?_eq_getElem hj)]; rfl)
  · rw [List.getElem?_set_ne (Ne.symm e)] at hu
    rw [World.cell?_setCell_other _ _ _ _ (fun e2 => by injection e2 with _ e2 _; omega)]
    exact h.cell i u hu
theorem HeldL.other {B : Nat} {w : World} {vs : List Value} (h : HeldL B w vs) {p : Addr} (hp : p.block ≠ B) (v : Value) : HeldL B (w.setCell p v) vs :=
  ⟨by simpa [World.setCell] using h.lt, fun i u hu => by rw [World.cell?_setCell_other _ _ _ _ (fun e => hp (by rw [e]))]; exact h.cell i u hu, fun i => by rw [World.frozen?_setCell]; exact h.free i⟩
/-- In each world that has w's blocks from lo on, P holds. -/
def LP (P : World → Prop) (lo : Nat) (w : World) : Prop := ∀ W, Agree lo No w W → P W
section
variable {P : World → Prop} {lo lo' : Nat} {w w' : World}
theorem LP.low (h : LP P lo w) (hl : lo' ≤ lo) : LP P lo' w := fun W hW => h W fun b h1 h2 h3 => hW b (by omega) h2 h3
theorem LP.below (h : LP P lo w) (hb : Below w.heap.size w w') : LP P lo w' := fun W hW => h W fun b h1 h2 h3 => (hW b h1 (Nat.lt_of_lt_of_le h2 hb.size) h3).trans (hb.block b h2)
theorem LP.set (h : LP P lo w) {p : Addr} (hp : p.block < lo) (v : Value) : LP P lo (w.setCell p v) := fun W hW => h W fun b h1 h2 h3 => (hW b h1 (by simpa [World.setCell] using h2) h3).trans (Below.heap_setCell _ _ _ _ (by omega))
theorem LP.now (h : LP P lo w) : P w := h w (Agree.refl _ _ _)
end

set_option maxHeartbeats 16000000 in
set_option maxRecDepth 100000 in
theorem shift_rule_at (r : Rl) (kk : Int) (hk : Fits kk) (w : World) (h : r.At w) (hs : r.Small) :
    Calls Try.prog 17 #[r.val, .int .i64 kk] w (RlMade (fun x => x.ren (shiftV kk)) (fun x => x.ren (shiftV kk)) r w) := by
  have QS := Lib.hid (fun W => shift_fn kk W)
  have QK := Lib.hid (fun (P : Nat) (W : World) (hc : W.cell? ⟨P, 0, none⟩ = some (.int .i64 kk)) (hb : Ext w W) => rename_ams_at r.keep r.kA r.kc W _ _ _ (shift_renames hk hc) (h.keep.below hb) hs.k1 hs.k2)
  have QR := Lib.hid (fun (P : Nat) (W : World) (hc : W.cell? ⟨P, 0, none⟩ = some (.int .i64 kk)) (hb : Ext w W) => rename_ams_at r.remove r.rA r.rc W _ _ _ (shift_renames hk hc) (h.remove.below hb) hs.r1 hs.r2)
  have QG := Lib.hid (fun (P : Nat) (W : World) (hc : W.cell? ⟨P, 0, none⟩ = some (.int .i64 kk)) (hb : Ext w W) => rename_gls_at r.guard r.gA r.gc W _ _ _ (shift_renames hk hc) (h.guard.below hb) hs.g1 hs.g2)
  have QB := Lib.hid (fun (P : Nat) (W : World) (hc : W.cell? ⟨P, 0, none⟩ = some (.int .i64 kk)) (hb : Ext w W) => rename_gls_at r.body r.bA r.bc W _ _ _ (shift_renames hk hc) (h.body.below hb) hs.b1 hs.b2)
  have HA := Lib.hid (And.intro h.name h.vars)
  obtain ⟨X, hX⟩ : ∃ X, (w.alloc (.cells #[.string r.name, .slice r.kA r.keep.length r.kc, .slice r.rA r.remove.length r.rc, .slice r.gA r.guard.length r.gc, .slice r.bA r.body.length r.bc, .int .i64 r.vars] 33)).alloc (.cells #[.string ⟨#[]⟩, .slice none 0 0, .slice none 0 0, .slice none 0 0, .slice none 0 0, .int .i64 0] 33) = X := ⟨_, rfl⟩
  obtain ⟨HB0, HB1⟩ := two_boxesL w [.string r.name, .slice r.kA r.keep.length r.kc, .slice r.rA r.remove.length r.rc, .slice r.gA r.guard.length r.gc, .slice r.bA r.body.length r.bc, .int .i64 r.vars] [.string ⟨#[]⟩, .slice none 0 0, .slice none 0 0, .slice none 0 0, .slice none 0 0, .int .i64 0] 33
  have H0 := Lib.hid (show HeldL w.heap.size X [.string r.name, .slice r.kA r.keep.length r.kc, .slice r.rA r.remove.length r.rc, .slice r.gA r.guard.length r.gc, .slice r.bA r.body.length r.bc, .int .i64 r.vars] from by rw [← hX]; exact HB0)
  have H1 := Lib.hid (show HeldL (w.heap.size + 1) X [.string ⟨#[]⟩, .slice none 0 0, .slice none 0 0, .slice none 0 0, .slice none 0 0, .int .i64 0] from by rw [← hX]; exact HB1)
  have HX := Lib.hid (show Ext w X ∧ X.heap.size = w.heap.size + 2 from by rw [← hX]; exact ⟨Ext.al2 _ _ _, by simp⟩)
  clear HB0 HB1 h hs
  show Calls Try.prog 17 #[.agg #[.string r.name, .slice r.kA r.keep.length r.kc, .slice r.rA r.remove.length r.rc, .slice r.gA r.guard.length r.gc, .slice r.bA r.body.length r.bc, .int .i64 r.vars], .int .i64 kk] w _
  go_enter Try.func17, Try.ntmps17
  go_upto_region 1 with (fail)
  (try rw [hX])
  clear hX
  go_cut [] from 5 (fun W => Hid (∃ (k m : List Am) (A1 A2 : Option Addr) (c1 c2 : Nat), HeldL w.heap.size W [.string r.name, .slice A1 r.keep.length c1, .slice A2 r.remove.length c2, .slice r.gA r.guard.length r.gc, .slice r.bA r.body.length r.bc, .int .i64 r.vars] ∧ HeldL (w.heap.size + 1) W [.string ⟨#[]⟩, .slice none 0 0, .slice none 0 0, .slice none 0 0, .slice none 0 0, .int .i64 0] ∧ Ext w W ∧ (k.length = r.keep.length ∧ k.map Am.key = (r.keep.map fun x => x.ren (shiftV kk)).map Am.key ∧ LP (fun W => AmLst W A1 k c1) (w.heap.size + 2) W) ∧ (m.length = r.remove.length ∧ m.map Am.key = (r.remove.map fun x => x.ren (shiftV kk)).map Am.key ∧ LP (fun W => AmLst W A2 m c2) (w.heap.size + 2) W)))
  case first =>
    have x01 := H0.out.cell 1 _ rfl
    have x02 := H0.out.cell 2 _ rfl
    go_region_with (first
    | (go_at_call 38; (with_reducible refine (QS.out X.drew).mono ?_); rintro e y1 ⟨P1, rfl, hc, h1⟩; have E1 := Lib.hid (show Ext X y1 from Ext.trans (Ext.drew _) h1); have HC1 := Lib.hid hc; have K1 := Lib.hid (H0.out.below E1.out); have x11 := K1.out.cell 1 _ rfl; have x12 := K1.out.cell 2 _ rfl; have hz1 := K1.out.lt; clear hc h1)
    | (go_at_call 46; (with_reducible refine (QK.out P1 y1 HC1.out (Ext.trans HX.out.1 E1.out)).mono ?_); rintro e y2 ⟨A1, c1, k, rfl, hl, hs, hL, h1⟩; have E2 := Lib.hid (show Ext X y2 from Ext.trans E1.out h1); have K2 := Lib.hid (H0.out.below E2.out); have x21 := K2.out.cell 1 _ rfl; have x22 := K2.out.cell 2 _ rfl; have hz2 := K2.out.lt; have LLk := Lib.hid (LP.low (lo' := w.heap.size + 2) (w := y2) (fun W hW => hL W trivial hW) (by have := E1.out.size; have := HX.out.2; omega)); have SSk := Lib.hid (And.intro hl hs); clear hL h1 hl hs)
    | (go_at_call 38; (with_reducible refine (QS.out y2).mono ?_); rintro e y3 ⟨P3, rfl, hc, h1⟩; have E3 := Lib.hid (show Ext X y3 from Ext.trans E2.out h1); have HC3 := Lib.hid hc; have K3 := Lib.hid (H0.out.below E3.out); have x31 := K3.out.cell 1 _ rfl; have x32 := K3.out.cell 2 _ rfl; have hz3 := K3.out.lt; have LBk := Lib.hid (LLk.out.below h1); clear hc h1)
    | (go_at_call 46; (with_reducible refine (QR.out P3 y3 HC3.out (Ext.trans HX.out.1 E3.out)).mono ?_); rintro e y4 ⟨A2, c2, m, rfl, hl, hs, hL, h1⟩; have E4 := Lib.hid (show Ext X y4 from Ext.trans E3.out h1); have K4 := Lib.hid (H0.out.below E4.out); have x41 := K4.out.cell 1 _ rfl; have x42 := K4.out.cell 2 _ rfl; have hz4 := K4.out.lt; have LLm := Lib.hid (LP.low (lo' := w.heap.size + 2) (w := y4) (fun W hW => hL W trivial hW) (by have := E3.out.size; have := HX.out.2; omega)); have SSm := Lib.hid (And.intro hl hs); have LCk := Lib.hid (LBk.out.below h1); have f1 := K4.out.free 1; have f2 := K4.out.free 2; clear hL h1 hl hs)
    | fail)
    all_goals
      go_wp2_with fail
      go_meet
      case rel => exact Lib.hid ⟨k, m, A1, A2, c1, c2, (K4.out.set (j := 1) (by simp) _).set (j := 2) (by simp) _, ((H1.out.below E4.out).other (p := ⟨w.heap.size, 1, none⟩) (by show w.heap.size ≠ w.heap.size + 1; omega) _).other (p := ⟨w.heap.size, 2, none⟩) (by show w.heap.size ≠ w.heap.size + 1; omega) _, (Below.setCell (Below.setCell (show Below w.heap.size w y4 from Ext.trans HX.out.1 E4.out) (p := ⟨w.heap.size, 1, none⟩) (Nat.le_refl _) _) (p := ⟨w.heap.size, 2, none⟩) (Nat.le_refl _) _), ⟨SSk.out.1, SSk.out.2, ((LCk.out.set (p := ⟨w.heap.size, 1, none⟩) (by show w.heap.size < w.heap.size + 2; omega) _).set (p := ⟨w.heap.size, 2, none⟩) (by show w.heap.size < w.heap.size + 2; omega) _)⟩, ⟨SSm.out.1, SSm.out.2, ((LLm.out.set (p := ⟨w.heap.size, 1, none⟩) (by show w.heap.size < w.heap.size + 2; omega) _).set (p := ⟨w.heap.size, 2, none⟩) (by show w.heap.size < w.heap.size + 2; omega) _)⟩⟩
  case rest =>
    obtain ⟨k, m, A1, A2, c1, c2, h0, h1, he, hk1, hm1⟩ := hcut.out
    have HK := Lib.hid hk1
    have HM := Lib.hid hm1
    have hsz := h1.lt
    clear H0 H1 HX hcut hk1 hm1
    have H0 := Lib.hid h0
    have H1 := Lib.hid h1
    have HX := Lib.hid (show Ext w wc ∧ w.heap.size + 2 ≤ wc.heap.size from ⟨he, by omega⟩)
    clear h0 h1 he hsz
    rename World => X
    go_upto_region 2 with (fail)
    go_cut [] from 5 (fun W => Hid (∃ (g b : List Gl) (A3 A4 : Option Addr) (c3 c4 : Nat), HeldL w.heap.size W [.string r.name, .slice A1 r.keep.length c1, .slice A2 r.remove.length c2, .slice A3 r.guard.length c3, .slice A4 r.body.length c4, .int .i64 r.vars] ∧ HeldL (w.heap.size + 1) W [.string ⟨#[]⟩, .slice none 0 0, .slice none 0 0, .slice none 0 0, .slice none 0 0, .int .i64 0] ∧ Ext w W ∧ (k.length = r.keep.length ∧ k.map Am.key = (r.keep.map fun x => x.ren (shiftV kk)).map Am.key ∧ LP (fun W => AmLst W A1 k c1) (w.heap.size + 2) W) ∧ (m.length = r.remove.length ∧ m.map Am.key = (r.remove.map fun x => x.ren (shiftV kk)).map Am.key ∧ LP (fun W => AmLst W A2 m c2) (w.heap.size + 2) W) ∧ (g.length = r.guard.length ∧ g.map Gl.key = (r.guard.map fun x => x.ren (shiftV kk)).map Gl.key ∧ LP (fun W => GlLst W A3 g c3) (w.heap.size + 2) W) ∧ (b.length = r.body.length ∧ b.map Gl.key = (r.body.map fun x => x.ren (shiftV kk)).map Gl.key ∧ LP (fun W => GlLst W A4 b c4) (w.heap.size + 2) W)))
    case first =>
      have x03 := H0.out.cell 3 _ rfl
      have x04 := H0.out.cell 4 _ rfl
      go_region_with (first
      | (go_at_call 38; (with_reducible refine (QS.out X.drew).mono ?_); rintro e y1 ⟨P1, rfl, hc, h1⟩; have E1 := Lib.hid (show Ext X y1 from Ext.trans (Ext.drew _) h1); have HC1 := Lib.hid hc; have K1 := Lib.hid (H0.out.below E1.out); have x13 := K1.out.cell 3 _ rfl; have x14 := K1.out.cell 4 _ rfl; have hz1 := K1.out.lt; clear hc h1)
      | (go_at_call 47; (with_reducible refine (QG.out P1 y1 HC1.out (Ext.trans HX.out.1 E1.out)).mono ?_); rintro e y2 ⟨A3, c3, g, rfl, hl, hs, hL, h1⟩; have E2 := Lib.hid (show Ext X y2 from Ext.trans E1.out h1); have K2 := Lib.hid (H0.out.below E2.out); have x23 := K2.out.cell 3 _ rfl; have x24 := K2.out.cell 4 _ rfl; have hz2 := K2.out.lt; have LLg := Lib.hid (LP.low (lo' := w.heap.size + 2) (w := y2) (fun W hW => hL W trivial hW) (by have := E1.out.size; have := HX.out.2; omega)); have SSg := Lib.hid (And.intro hl hs); clear hL h1 hl hs)
      | (go_at_call 38; (with_reducible refine (QS.out y2).mono ?_); rintro e y3 ⟨P3, rfl, hc, h1⟩; have E3 := Lib.hid (show Ext X y3 from Ext.trans E2.out h1); have HC3 := Lib.hid hc; have K3 := Lib.hid (H0.out.below E3.out); have x33 := K3.out.cell 3 _ rfl; have x34 := K3.out.cell 4 _ rfl; have hz3 := K3.out.lt; have LBg := Lib.hid (LLg.out.below h1); clear hc h1)
      | (go_at_call 47; (with_reducible refine (QB.out P3 y3 HC3.out (Ext.trans HX.out.1 E3.out)).mono ?_); rintro e y4 ⟨A4, c4, b, rfl, hl, hs, hL, h1⟩; have E4 := Lib.hid (show Ext X y4 from Ext.trans E3.out h1); have K4 := Lib.hid (H0.out.below E4.out); have x43 := K4.out.cell 3 _ rfl; have x44 := K4.out.cell 4 _ rfl; have hz4 := K4.out.lt; have LLb := Lib.hid (LP.low (lo' := w.heap.size + 2) (w := y4) (fun W hW => hL W trivial hW) (by have := E3.out.size; have := HX.out.2; omega)); have SSb := Lib.hid (And.intro hl hs); have LCg := Lib.hid (LBg.out.below h1); have f1 := K4.out.free 3; have f2 := K4.out.free 4; clear hL h1 hl hs)
      | fail)
      all_goals
        go_wp2_with fail
        go_meet
        case rel => exact Lib.hid ⟨g, b, A3, A4, c3, c4, (K4.out.set (j := 3) (by simp) _).set (j := 4) (by simp) _, ((H1.out.below E4.out).other (p := ⟨w.heap.size, 3, none⟩) (by show w.heap.size ≠ w.heap.size + 1; omega) _).other (p := ⟨w.heap.size, 4, none⟩) (by show w.heap.size ≠ w.heap.size + 1; omega) _, (Below.setCell (Below.setCell (show Below w.heap.size w y4 from Ext.trans HX.out.1 E4.out) (p := ⟨w.heap.size, 3, none⟩) (Nat.le_refl _) _) (p := ⟨w.heap.size, 4, none⟩) (Nat.le_refl _) _), ⟨HK.out.1, HK.out.2.1, (((HK.out.2.2.below E4.out).set (p := ⟨w.heap.size, 3, none⟩) (by show w.heap.size < w.heap.size + 2; omega) _).set (p := ⟨w.heap.size, 4, none⟩) (by show w.heap.size < w.heap.size + 2; omega) _)⟩, ⟨HM.out.1, HM.out.2.1, (((HM.out.2.2.below E4.out).set (p := ⟨w.heap.size, 3, none⟩) (by show w.heap.size < w.heap.size + 2; omega) _).set (p := ⟨w.heap.size, 4, none⟩) (by show w.heap.size < w.heap.size + 2; omega) _)⟩, ⟨SSg.out.1, SSg.out.2, ((LCg.out.set (p := ⟨w.heap.size, 3, none⟩) (by show w.heap.size < w.heap.size + 2; omega) _).set (p := ⟨w.heap.size, 4, none⟩) (by show w.heap.size < w.heap.size + 2; omega) _)⟩, ⟨SSb.out.1, SSb.out.2, ((LLb.out.set (p := ⟨w.heap.size, 3, none⟩) (by show w.heap.size < w.heap.size + 2; omega) _).set (p := ⟨w.heap.size, 4, none⟩) (by show w.heap.size < w.heap.size + 2; omega) _)⟩⟩
    case rest =>
      obtain ⟨g, b, A3, A4, c3, c4, h0, h1, he, hk2, hm2, hg2, hb2⟩ := hcut.out
      have HK2 := Lib.hid hk2
      have HM2 := Lib.hid hm2
      have HG2 := Lib.hid hg2
      have HB2 := Lib.hid hb2
      have HE := Lib.hid he
      obtain ⟨hz, p, _⟩ := h0
      obtain ⟨hz1, q, f⟩ := h1
      have p0 := p 0 _ rfl
      have p1 := p 1 _ rfl
      have p2 := p 2 _ rfl
      have p3 := p 3 _ rfl
      have p4 := p 4 _ rfl
      have p5 := p 5 _ rfl
      have q0 := q 0 _ rfl
      have q1 := q 1 _ rfl
      have q2 := q 2 _ rfl
      have q3 := q 3 _ rfl
      have q4 := q 4 _ rfl
      have q5 := q 5 _ rfl
      have f0 := f 0
      have f1 := f 1
      have f2 := f 2
      have f3 := f 3
      have f4 := f 4
      have f5 := f 5
      clear hcut hk2 hm2 hg2 hb2 he p q f H0 H1 HX HK HM QK QR QG QB QS
      go_wp2_with fail
      refine bodyPost_ret (v := .agg #[.string r.name, .slice A1 r.keep.length c1, .slice A2 r.remove.length c2, .slice A3 r.guard.length c3, .slice A4 r.body.length c4, .int .i64 r.vars]) (by simp [results, Try.results17, go_sem, q0, q1, q2, q3, q4, q5]) rfl ?_
      refine ⟨⟨r.name, A1, c1, k, A2, c2, m, A3, c3, g, A4, c4, b, r.vars⟩, by rw [← HK2.out.1, ← HM2.out.1, ← HG2.out.1, ← HB2.out.1], ⟨rfl, rfl, HK2.out.1, HK2.out.2.1, HM2.out.1, HM2.out.2.1, HG2.out.1, HG2.out.2.1, HB2.out.1, HB2.out.2.1⟩, ⟨HA.out.1, LP.now ((LP.set (LP.set (LP.set (LP.set (LP.set (LP.set HK2.out.2.2 (p := ⟨w.heap.size + 1, 0, none⟩) (by show w.heap.size + 1 < w.heap.size + 2; omega) _) (p := ⟨w.heap.size + 1, 1, none⟩) (by show w.heap.size + 1 < w.heap.size + 2; omega) _) (p := ⟨w.heap.size + 1, 2, none⟩) (by show w.heap.size + 1 < w.heap.size + 2; omega) _) (p := ⟨w.heap.size + 1, 3, none⟩) (by show w.heap.size + 1 < w.heap.size + 2; omega) _) (p := ⟨w.heap.size + 1, 4, none⟩) (by show w.heap.size + 1 < w.heap.size + 2; omega) _) (p := ⟨w.heap.size + 1, 5, none⟩) (by show w.heap.size + 1 < w.heap.size + 2; omega) _)), LP.now ((LP.set (LP.set (LP.set (LP.set (LP.set (LP.set HM2.out.2.2 (p := ⟨w.heap.size + 1, 0, none⟩) (by show w.heap.size + 1 < w.heap.size + 2; omega) _) (p := ⟨w.heap.size + 1, 1, none⟩) (by show w.heap.size + 1 < w.heap.size + 2; omega) _) (p := ⟨w.heap.size + 1, 2, none⟩) (by show w.heap.size + 1 < w.heap.size + 2; omega) _) (p := ⟨w.heap.size + 1, 3, none⟩) (by show w.heap.size + 1 < w.heap.size + 2; omega) _) (p := ⟨w.heap.size + 1, 4, none⟩) (by show w.heap.size + 1 < w.heap.size + 2; omega) _) (p := ⟨w.heap.size + 1, 5, none⟩) (by show w.heap.size + 1 < w.heap.size + 2; omega) _)), LP.now ((LP.set (LP.set (LP.set (LP.set (LP.set (LP.set HG2.out.2.2 (p := ⟨w.heap.size + 1, 0, none⟩) (by show w.heap.size + 1 < w.heap.size + 2; omega) _) (p := ⟨w.heap.size + 1, 1, none⟩) (by show w.heap.size + 1 < w.heap.size + 2; omega) _) (p := ⟨w.heap.size + 1, 2, none⟩) (by show w.heap.size + 1 < w.heap.size + 2; omega) _) (p := ⟨w.heap.size + 1, 3, none⟩) (by show w.heap.size + 1 < w.heap.size + 2; omega) _) (p := ⟨w.heap.size + 1, 4, none⟩) (by show w.heap.size + 1 < w.heap.size + 2; omega) _) (p := ⟨w.heap.size + 1, 5, none⟩) (by show w.heap.size + 1 < w.heap.size + 2; omega) _)), LP.now ((LP.set (LP.set (LP.set (LP.set (LP.set (LP.set HB2.out.2.2 (p := ⟨w.heap.size + 1, 0, none⟩) (by show w.heap.size + 1 < w.heap.size + 2; omega) _) (p := ⟨w.heap.size + 1, 1, none⟩) (by show w.heap.size + 1 < w.heap.size + 2; omega) _) (p := ⟨w.heap.size + 1, 2, none⟩) (by show w.heap.size + 1 < w.heap.size + 2; omega) _) (p := ⟨w.heap.size + 1, 3, none⟩) (by show w.heap.size + 1 < w.heap.size + 2; omega) _) (p := ⟨w.heap.size + 1, 4, none⟩) (by show w.heap.size + 1 < w.heap.size + 2; omega) _) (p := ⟨w.heap.size + 1, 5, none⟩) (by show w.heap.size + 1 < w.heap.size + 2; omega) _)), HA.out.2⟩, (Below.setCell (Below.setCell (Below.setCell (Below.setCell (Below.setCell (Below.setCell HE.out (p := ⟨w.heap.size + 1, 0, none⟩) (Nat.le_succ _) _) (p := ⟨w.heap.size + 1, 1, none⟩) (Nat.le_succ _) _) (p := ⟨w.heap.size + 1, 2, none⟩) (Nat.le_succ _) _) (p := ⟨w.heap.size + 1, 3, none⟩) (Nat.le_succ _) _) (p := ⟨w.heap.size + 1, 4, none⟩) (Nat.le_succ _) _) (p := ⟨w.heap.size + 1, 5, none⟩) (Nat.le_succ _) _)⟩
  end Go.Proofs.Ytpnjjahimhhjkaa
