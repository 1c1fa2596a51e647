/-
  Contract of build of the program: the term of a class.
  Contract of enter of the reference: the nodes of a term.
-/
import Derived.Test.YtelkmnjoboekmaaGreatMb13
import Derived.Test.YtelkmnjoboekmaaGreatMb9
import Derived.Deep.CutRange
import Derived.Deep.RegionLaw
import Derived.Test.YtelkmnjoboekmaaGreatMb16
import Derived.Test.YtelkmnjoboekmaaGreatMb14
import Derived.Deep.AppendLies
namespace Go.Proofs.YtelkmnjoboekmaaGreat
open Go.RowKit

/-- The cells of a class's node. -/
theorem root_cells {lo p q n cap rt : Nat} {X : Nat → Prop} {G H : List Nd} {root r : Nat → Nat} {w : World} (h : Gph lo X w p (.slice (some ⟨q, 0, none⟩) n cap) H) (ha : Alike G H) (hu : UF H root r) (hr : rt < G.length) (hf : root rt = rt) :
    w.cell? ⟨p, 0, none⟩ = some (.slice (some ⟨q, 0, none⟩) n cap) ∧ w.cell? ⟨q, rt * 6, none⟩ = some (.int .i64 (nd G rt).tm.kind) ∧ w.cell? ⟨q, rt * 6 + 1, none⟩ = some (.int .i64 (nd G rt).tm.num) ∧ w.cell? ⟨q, rt * 6 + 2, none⟩ = some (.string (nd G rt).tm.name) ∧
    w.cell? ⟨q, rt * 6 + 3, none⟩ = some (.slice (nd G rt).tm.at_ (nd G rt).tm.args.length (nd G rt).tm.cap) ∧ w.cell? ⟨q, rt * 6 + 4, none⟩ = some (.slice (nd G rt).A (nd G rt).kids.length (nd G rt).cap) ∧ w.cell? ⟨q, rt * 6 + 5, none⟩ = some (.int .i64 (rt : Nat)) := by
  have hl : rt < H.length := by rw [ha.len]; exact hr
  obtain ⟨d0, d1, d2, d3, d4, d5⟩ := h.cells hl
  rw [(ha.tm hr).1] at d0 d1 d2 d3
  rw [(ha.tm hr).2.1, (ha.tm hr).2.2.1, (ha.tm hr).2.2.2] at d4
  rw [(hu.fix rt hl).2 hf] at d5
  exact ⟨h.hdr, d0, d1, d2, d3, d4, d5⟩
theorem box_fr {w w' : World} {o : Obj} {cs : Array Value} {T : TypeId} {row : Option Nat} (h : ((w.alloc o).alloc (.cells cs T)).grownBy w' row) (hr : some (w.heap.size + 1) ≠ row) :
    (∀ j, w'.cell? ⟨w.heap.size + 1, j, none⟩ = cs[j]?) ∧ ∀ j, w'.frozen? ⟨w.heap.size + 1, j, none⟩ = false := by
  have e : (w.alloc o).heap.size = w.heap.size + 1 := World.size_alloc _ _
  refine ⟨fun j => ?_, fun j => ?_⟩
  · rw [fr_cell h (p := ⟨w.heap.size + 1, j, none⟩) (by simp) hr]
    exact World.cell?_alloc_at _ _ _ _ e.symm
  · rw [fr_frozen h (p := ⟨w.heap.size + 1, j, none⟩) (by simp) hr]
    exact World.frozen?_alloc_at _ _ _ _ e.symm
theorem Held.fr {B : Nat} {w w' : World} {v0 v1 v2 v3 : Value} {row : Option Nat} (h : Held B w v0 v1 v2 v3) (k : w.grownBy w' row) (hr : some B ≠ row) : Held B w' v0 v1 v2 v3 :=
  ⟨Nat.lt_of_lt_of_le h.lt k.size, (fr_cell k (p := ⟨B, 0, none⟩) h.lt hr).trans h.c0, (fr_cell k (p := ⟨B, 1, none⟩) h.lt hr).trans h.c1, (fr_cell k (p := ⟨B, 2, none⟩) h.lt hr).trans h.c2, (fr_cell k (p := ⟨B, 3, none⟩) h.lt hr).trans h.c3, fun j => (fr_frozen k (p := ⟨B, j, none⟩) h.lt hr).trans (h.free j)⟩
theorem name_strip (t : Tm) : t.strip.name = t.name := by cases t; rfl
/-- What build answers. -/
def BuildR (lo : Nat) (X : Nat → Prop) (p : Nat) (z : Value) (G : List Nd) (root r : Nat → Nat) (D i : Nat) (w : World) (e : Ending) (w' : World) : Prop :=
  ∃ (u : Tm) (H : List Nd), e = .returned u.val ∧ u.strip = sol G root D i ∧ Lie Any w.heap.size No w' u ∧ Alike G H ∧ UF H root r ∧ Gph lo X w' p z H ∧ w.grownBy w' z.ownBlock
/-- The box of the node, in a block of its own. -/
def NodeBox (lo : Nat) (X : Nat → Prop) (p : Nat) (z : Value) (G : List Nd) (root r : Nat → Nat) (x : Nd) (w : World) (bx : Nat) (W : World) : Prop :=
  (∃ H, Alike G H ∧ UF H root r ∧ Gph lo X W p z H) ∧ w.grownBy W z.ownBlock ∧ w.heap.size < bx ∧ bx < W.heap.size ∧
    W.cell? ⟨bx, 0, none⟩ = some (.int .i64 x.tm.kind) ∧ W.cell? ⟨bx, 1, none⟩ = some (.int .i64 x.tm.num) ∧ W.cell? ⟨bx, 2, none⟩ = some (.string x.tm.name) ∧ W.cell? ⟨bx, 3, none⟩ = some (.slice x.tm.at_ x.tm.args.length x.tm.cap) ∧
    W.cell? ⟨bx, 4, none⟩ = some (.slice x.A x.kids.length x.cap) ∧ Held w.heap.size W (.int .i64 0) (.int .i64 0) (.string ⟨#[]⟩) (.slice none 0 0)

theorem cs_other {w : World} {b j j' : Nat} {v : Value} (h : j ≠ j') : (w.setCell ⟨b, j, none⟩ v).cell? ⟨b, j', none⟩ = w.cell? ⟨b, j', none⟩ := World.cell?_setCell_other _ _ _ _ (fun e => h (by injection e))
theorem cs_same {w : World} {b j : Nat} {u v : Value} (h : w.cell? ⟨b, j, none⟩ = some u) : (w.setCell ⟨b, j, none⟩ v).cell? ⟨b, j, none⟩ = some v := World.cell?_setCell_same' _ _ _ (by rw [h]; rfl)
section
variable {lo p : Nat} {X : Nat → Prop} {z : Value} {G H H2 : List Nd} {root r : Nat → Nat} {x : Nd} {w w2 : World} {o : Obj}
theorem NodeBox.drew {bx : Nat} {W : World} (h : NodeBox lo X p z G root r x w bx W) : NodeBox lo X p z G root r x w bx W.drew := by
  obtain ⟨⟨H, h1, h2, h3⟩, h4, h5⟩ := h
  exact ⟨⟨H, h1, h2, h3.drew⟩, fr_drew h4, h5.1, h5.2.1, h5.2.2.1, h5.2.2.2.1, h5.2.2.2.2.1, h5.2.2.2.2.2.1, h5.2.2.2.2.2.2.1, ⟨h5.2.2.2.2.2.2.2.lt, h5.2.2.2.2.2.2.2.c0, h5.2.2.2.2.2.2.2.c1, h5.2.2.2.2.2.2.2.c2, h5.2.2.2.2.2.2.2.c3, h5.2.2.2.2.2.2.2.free⟩⟩
/-- The box was laid behind the call. -/
theorem nodebox_b (hh : Held w.heap.size w2 (.int .i64 0) (.int .i64 0) (.string ⟨#[]⟩) (.slice none 0 0)) (ha : Alike G H) (m1 : Alike H H2) (m2 : UF H2 root r) (m3 : Gph lo X w2 p z H2) (m4 : w.grownBy w2 z.ownBlock) (hs : w.heap.size < w2.heap.size) {v5 : Value} {T : TypeId} :
    NodeBox lo X p z G root r x w w2.heap.size (w2.alloc (.cells #[.int .i64 x.tm.kind, .int .i64 x.tm.num, .string x.tm.name, .slice x.tm.at_ x.tm.args.length x.tm.cap, .slice x.A x.kids.length x.cap, v5] T)) := by
  have hc : ∀ j, (w2.alloc (.cells #[.int .i64 x.tm.kind, .int .i64 x.tm.num, .string x.tm.name, .slice x.tm.at_ x.tm.args.length x.tm.cap, .slice x.A x.kids.length x.cap, v5] T)).cell? ⟨w2.heap.size, j, none⟩ = (#[Value.int .i64 x.tm.kind, .int .i64 x.tm.num, .string x.tm.name, .slice x.tm.at_ x.tm.args.length x.tm.cap, .slice x.A x.kids.length x.cap, v5] : Array Value)[j]? := fun j => World.cell?_alloc_at _ _ _ _ rfl
  exact ⟨⟨H2, ha.trans m1, m2, m3.alloc _⟩, fr_alloc m4 _, hs, by simp, hc 0, hc 1, hc 2, hc 3, hc 4, hh.alloc _⟩
/-- The box was laid ahead of the call. -/
theorem nodebox_a (hh : Held w.heap.size w2 (.int .i64 0) (.int .i64 0) (.string ⟨#[]⟩) (.slice none 0 0)) (hg : Gph lo X w p z H) (ha : Alike G H) (m1 : Alike H H2) (m2 : UF H2 root r) (m3 : Gph lo X w2 p z H2) {b : Nat} (hb : w.heap.size < b) (hb2 : b < w2.heap.size) (m4 : w.grownBy w2 z.ownBlock) {v5 u0 u1 u2 u3 u4 : Value}
    (c0 : w2.cell? ⟨b, 0, none⟩ = some u0) (c1 : w2.cell? ⟨b, 1, none⟩ = some u1) (c2 : w2.cell? ⟨b, 2, none⟩ = some u2) (c3 : w2.cell? ⟨b, 3, none⟩ = some u3) (c4 : w2.cell? ⟨b, 4, none⟩ = some u4) :
    NodeBox lo X p z G root r x w b ((((((w2.setCell ⟨b, 0, none⟩ (.int .i64 x.tm.kind)).setCell ⟨b, 1, none⟩ (.int .i64 x.tm.num)).setCell ⟨b, 2, none⟩ (.string x.tm.name)).setCell ⟨b, 3, none⟩ (.slice x.tm.at_ x.tm.args.length x.tm.cap)).setCell ⟨b, 4, none⟩ (.slice x.A x.kids.length x.cap)).setCell ⟨b, 5, none⟩ v5) := by
  have hf : w2.grownBy ((((((w2.setCell ⟨b, 0, none⟩ (.int .i64 x.tm.kind)).setCell ⟨b, 1, none⟩ (.int .i64 x.tm.num)).setCell ⟨b, 2, none⟩ (.string x.tm.name)).setCell ⟨b, 3, none⟩ (.slice x.tm.at_ x.tm.args.length x.tm.cap)).setCell ⟨b, 4, none⟩ (.slice x.A x.kids.length x.cap)).setCell ⟨b, 5, none⟩ v5) (some b) :=
    fr_set (p := ⟨b, 5, none⟩) (fr_set (p := ⟨b, 4, none⟩) (fr_set (p := ⟨b, 3, none⟩) (fr_set (p := ⟨b, 2, none⟩) (fr_set (p := ⟨b, 1, none⟩) (fr_set (p := ⟨b, 0, none⟩) (fr_refl w2 (some b)) rfl _) rfl _) rfl _) rfl _) rfl _) rfl _
  have hw := fr_grow m4 hf (fun k hk => by injection hk with hk; omega)
  refine ⟨⟨H2, ha.trans m1, m2, Gph.renew hg m1 m3 hw hf ?_⟩, hw, hb, Nat.lt_of_lt_of_le hb2 hf.size, ?_, ?_, ?_, ?_, ?_, hh.fr hf (fun e => by injection e with e; omega)⟩
  · cases hz : z.ownBlock with
    | none => exact .inl rfl
    | some k =>
      refine .inr fun e => ?_
      have := (own_lt hg.row k hz).2
      injection e with e
      omega
  · rw [cs_other (by omega), cs_other (by omega), cs_other (by omega), cs_other (by omega), cs_other (by omega)]; exact cs_same c0
  · rw [cs_other (by omega), cs_other (by omega), cs_other (by omega), cs_other (by omega)]; exact cs_same (by rw [cs_other (by omega)]; exact c1)
  · rw [cs_other (by omega), cs_other (by omega), cs_other (by omega)]; exact cs_same (by rw [cs_other (by omega), cs_other (by omega)]; exact c2)
  · rw [cs_other (by omega), cs_other (by omega)]; exact cs_same (by rw [cs_other (by omega), cs_other (by omega), cs_other (by omega)]; exact c3)
  · rw [cs_other (by omega)]; exact cs_same (by rw [cs_other (by omega), cs_other (by omega), cs_other (by omega), cs_other (by omega)]; exact c4)
end

theorem Alike.flip {G H I : List Nd} (h : Alike G H) (k : Alike G I) : Alike H I := ⟨k.len.trans h.len.symm, fun i hi => by
  rw [h.len] at hi
  obtain ⟨a, ha⟩ := h.2 i hi
  obtain ⟨b, hb⟩ := k.2 i hi
  exact ⟨b, by rw [ha, hb]⟩⟩
theorem RowT.fr {lo : Nat} {w w' : World} {v : Value} {ts : List Tm} {row : Option Nat} (h : RowT Any lo w v ts) (k : w.grownBy w' row) (hr : ∀ b, row = some b → b < lo) : RowT Any lo w' v ts := by
  refine ⟨World.ownsRow.kept h.1 k ?_, fun x hx => (h.2 x hx).less k.size fun b h1 h2 h3 => ⟨h1, h3, k.block b h2 (fun e => by have := hr b e.symm; omega)⟩⟩
  cases hv : v.ownBlock with
  | none => exact .inl rfl
  | some b =>
    refine .inr fun e => ?_
    have h1 := (own_lt h.1 b hv).1
    have h2 := hr b e.symm
    omega
/-- In the loop: j arguments are built. -/
structure Building (lo : Nat) (X : Nat → Prop) (p : Nat) (z : Value) (G : List Nd) (root r : Nat → Nat) (D : Nat) (lk : List Nat) (w : World) (B6 : Nat) (kx nx : Int) (sx : ByteArray) (ov : Value) (ts : List Tm) (j : Nat) (wr : World) : Prop where
  g : ∃ H, Alike G H ∧ UF H root r ∧ Gph lo X wr p z H
  fr : w.grownBy wr z.ownBlock
  res : Held w.heap.size wr (.int .i64 0) (.int .i64 0) (.string ⟨#[]⟩) (.slice none 0 0)
  box : Held B6 wr (.int .i64 kx) (.int .i64 nx) (.string sx) ov
  row : RowT Any (B6 + 1) wr ov ts
  len : ts.length = j
  is : stripL ts = (lk.take j).map (sol G root D)
theorem Building.next {lo p D B6 j g cap : Nat} {X : Nat → Prop} {z ov : Value} {G H0 : List Nd} {root r : Nat → Nat} {lk : List Nat} {kx nx : Int} {sx : ByteArray} {ts : List Tm} {u : Tm} {w wr w2 w4 : World} {ob : Obj}
    (h : Building lo X p z G root r D lk w B6 kx nx sx ov ts j wr) (h0 : Gph lo X w p z H0) (ha0 : Alike G H0) (hw : w.heap.size < B6) (hj : j < lk.length)
    (hG2 : ∃ H, Alike G H ∧ UF H root r ∧ Gph lo X w2 p z H) (hf2 : wr.grownBy w2 z.ownBlock) (hu : u.strip = sol G root D (lk.getD j 0)) (hl : Lie Any wr.heap.size No w2 u)
    (hown : w4.ownsRow (B6 + 1) 26 4 (.slice (some ⟨g, 0, none⟩) (ts.length + 1) cap) (ts.length + 1) (tcells ts ++ u.cells)) (hgr : (w2.alloc ob).grownBy w4 ov.ownBlock) (hat : ov.ownBlock = some g ∨ g = (w2.alloc ob).heap.size) :
    Building lo X p z G root r D lk w B6 kx nx sx (.slice (some ⟨g, 0, none⟩) (ts.length + 1) cap) (ts ++ [u]) (j + 1) (w4.setCell ⟨B6, 3, none⟩ (.slice (some ⟨g, 0, none⟩) (ts.length + 1) cap)) := by
  have hzl : ∀ b, z.ownBlock = some b → b < w.heap.size := fun b e => (own_lt h0.row b e).2
  have hvl : ∀ b, ov.ownBlock = some b → B6 + 1 ≤ b ∧ b < wr.heap.size := fun b e => own_lt h.row.1 b e
  have hB6 := h.box.lt
  have row2 : RowT Any (B6 + 1) w2 ov ts := h.row.fr hf2 fun b e => by have := hzl b e; omega
  have hu2 : Lie Any (B6 + 1) (fun k => ov.ownBlock = some k) w2 u := lie_apart h.row.1 hl (by omega) (Nat.le_refl _)
  have row4 := RowT.next row2 hu2 (below1 w2 ob) hown hgr hat
  have hnz : ∀ b, w.heap.size ≤ b → some b ≠ z.ownBlock := fun b hb e => by have := hzl b e.symm; omega
  have hnv : ∀ b, b ≤ B6 → some b ≠ ov.ownBlock := fun b hb e => by have := (hvl b e.symm).1; omega
  have hset : w4.grownBy (w4.setCell ⟨B6, 3, none⟩ (.slice (some ⟨g, 0, none⟩) (ts.length + 1) cap)) (some B6) := fr_set (fr_refl _ _) rfl _
  have hf4 : w.grownBy w4 z.ownBlock := fr_grow (fr_alloc (fr_trans h.fr hf2) ob) hgr fun b e => by have := (hvl b e).1; omega
  have hf5 : w.grownBy (w4.setCell ⟨B6, 3, none⟩ (.slice (some ⟨g, 0, none⟩) (ts.length + 1) cap)) z.ownBlock := fr_own hf4 (by show w.heap.size ≤ B6; omega) _
  refine ⟨?_, hf5, ?_, ?_, ?_, by rw [List.length_append, h.len]; rfl, ?_⟩
  · obtain ⟨H2, g1, g2, g3⟩ := hG2
    have hr4 : Gph lo X w4 p z H2 := Gph.renew h0 (ha0.flip g1) (g3.alloc ob) hf4 hgr (by
      cases hz : z.ownBlock with
      | none => exact .inl rfl
      | some b => exact .inr fun e => by have := hzl b hz; have := (hvl b e.symm).1; omega)
    exact ⟨H2, g1, g2, Gph.renew h0 (ha0.flip g1) hr4 hf5 hset (.inr fun e => hnz B6 (by omega) e.symm)⟩
  · exact (((h.res.fr hf2 (hnz _ (Nat.le_refl _))).alloc ob).fr hgr (hnv _ (by omega))).other (p := ⟨B6, 3, none⟩) (by show B6 ≠ w.heap.size; omega) _
  · exact (((h.box.fr hf2 (hnz _ (by omega))).alloc ob).fr hgr (hnv _ (Nat.le_refl _))).set3 _
  · refine row4.fr hset fun b e => by injection e with e; omega
  · rw [nat_take_next hj, List.map_append, stripL_append, h.is]
    simp [stripL, hu]

set_option maxHeartbeats 4000000 in
set_option maxRecDepth 100000 in
theorem build_at {lo : Nat} {X : Nat → Prop} {p : Nat} {z : Value} {G : List Nd} {E : List (Nat × Nat)} {root r rk : Nat → Nat} {D : Nat} (hc : Closed G E root) (hrk : Ranked G root rk D) : ∀ (n i : Nat) (H : List Nd) (w : World), i < G.length → rk (root i) < n → Alike G H → UF H root r → Gph lo X w p z H →
    Calls Tryz.prog 41 #[.pointer (some ⟨p, 0, none⟩), .int .i64 (i : Nat)] w (BuildR lo X p z G root r D i w) := by
  intro n
  induction n with
  | zero => intro i H w _ h; omega
  | succ n ih =>
    intro i H w hi hn hal hu h
    obtain ⟨q, cap, hz, hq1, hq2, _⟩ := h.form (by rw [hal.len]; omega)
    rw [hal.len] at hz
    subst hz
    obtain ⟨rt, hrt⟩ : ∃ rt, root i = rt := ⟨_, rfl⟩
    have hrl : rt < G.length := by rw [← hrt]; exact hc.lt i hi
    have hsm := h.small
    have hlen : H.length = G.length := hal.len
    have hpl := h.lt
    have HL := Lib.hid hlen
    have HG := Lib.hid h
    have HAL := Lib.hid hal
    have c0 := h.hdr
    have c0x := al1 c0
    have c0y := al2 c0
    have HUF := Lib.hid hu
    have HFX := Lib.hid (show root rt = rt by rw [← hrt]; exact hc.idem i hi)
    have QF := Lib.hid (fun W (hW : Gph lo X W p (.slice (some ⟨q, 0, none⟩) G.length cap) H) => find_to hW hu (show i < H.length by omega) hrt)
    have HIH := Lib.hid ih
    have HN := Lib.hid hn
    have HRT := Lib.hid hrt
    have hsm2 : G.length ≤ 2500000 := by omega
    clear h hu hlen hal ih hn hrt hsm
    go_enter Tryz.func41, Tryz.ntmps41
    go_upto_region 1 with (fail)
    go_cut [5] from 9 to 17 (fun s5 W => Hid (∃ bx, s5 = .pointer (some ⟨bx, 0, none⟩) ∧ NodeBox lo X p (.slice (some ⟨q, 0, none⟩) G.length cap) G root r (nd G rt) w bx W))
    case first =>
      have HG1 := Lib.hid (fun o => HG.out.alloc o)
      go_region_with (first
        | (go_at_call 72; (with_reducible refine (QF.out _ (HG1.out _).drew).mono ?_); rintro e w2 ⟨H2, rfl, m1, m2, m3, m4, m5⟩; obtain ⟨s0, d0, d1, d2, d3, d4, d5⟩ := root_cells m3 (HAL.out.trans m1) m2 hrl HFX.out; have s0x := al1 s0; have d0x := al1 d0; have d1x := al1 d1; have d2x := al1 d2; have d3x := al1 d3; have d4x := al1 d4; have d5x := al1 d5; have HNB := Lib.hid (show NodeBox lo X p (.slice (some ⟨q, 0, none⟩) G.length cap) G root r (nd G rt) w (w.heap.size + 1) (w2.alloc (.cells #[.int .i64 (nd G rt).tm.kind, .int .i64 (nd G rt).tm.num, .string (nd G rt).tm.name, .slice (nd G rt).tm.at_ (nd G rt).tm.args.length (nd G rt).tm.cap, .slice (nd G rt).A (nd G rt).kids.length (nd G rt).cap, .int .i64 (rt : Nat)] 66)) from (by (have e5 : w2.heap.size = w.heap.size + 1 := (by simpa using m5)); have hb := nodebox_b (x := nd G rt) (((held_new (v0 := .int .i64 0) (v1 := .int .i64 0) (v2 := .string ⟨#[]⟩) (v3 := .slice none 0 0) w 26)).fr (undrew_fr m4) (by simp [Value.ownBlock]; omega)) HAL.out m1 m2 m3 (fr_trans (fr_alloc (fr_refl w _) _) (undrew_fr m4)) (show w.heap.size < w2.heap.size by omega) (v5 := .int .i64 (rt : Nat)) (T := 66); rw [e5] at hb; exact hb)))
        | (go_at_call 72; (with_reducible refine (QF.out _ ((HG1.out _).alloc _).drew).mono ?_); rintro e w2 ⟨H2, rfl, m1, m2, m3, m4, m5⟩; obtain ⟨bc, bf⟩ := box_fr (undrew_fr m4) (by simp [Value.ownBlock]; omega); have b0 := bc 0; have b1 := bc 1; have b2 := bc 2; have b3 := bc 3; have b4 := bc 4; have b5 := bc 5; have f0 := bf 0; have f1 := bf 1; have f2 := bf 2; have f3 := bf 3; have f4 := bf 4; have f5 := bf 5; clear bc bf; obtain ⟨s0, d0, d1, d2, d3, d4, d5⟩ := root_cells m3 (HAL.out.trans m1) m2 hrl HFX.out; have s0x := al1 s0; have d0x := al1 d0; have d1x := al1 d1; have d2x := al1 d2; have d3x := al1 d3; have d4x := al1 d4; have d5x := al1 d5; have HNB := Lib.hid (nodebox_a (x := nd G rt) (((held_new (v0 := .int .i64 0) (v1 := .int .i64 0) (v2 := .string ⟨#[]⟩) (v3 := .slice none 0 0) w 26).alloc _).fr (undrew_fr m4) (by simp [Value.ownBlock]; omega)) HG.out HAL.out m1 m2 m3 (Nat.lt_succ_self _) (show w.heap.size + 1 < w2.heap.size by (have := m4.size; simp at this; omega)) (fr_trans (fr_alloc (fr_alloc (fr_refl w _) _) _) (undrew_fr m4)) (v5 := .int .i64 (rt : Nat)) b0 b1 b2 b3 b4)))
      all_goals
        go_wp2_with fail
        go_meet
        exact Lib.hid ⟨_, rfl, HNB.out⟩
    case rest =>
      obtain ⟨bx, rfl, hnb⟩ := hcut.out
      obtain ⟨⟨H1, e1, e2, e3⟩, hf, hb1, hb2, c1, c2, c3, c4, c5, hh⟩ := hnb
      have HKI := Lib.hid (show ∀ W, w.grownBy W (some q) → IRow W (nd G rt).A (nd G rt).kids (nd G rt).cap from fun W hW => by
        have h1 := ((HG.out.kids rt (by rw [HL.out]; exact hrl)).fr hW fun b hb _ => .inl hb).at
        rw [(HAL.out.tm hrl).2.1, (HAL.out.tm hrl).2.2.1, (HAL.out.tm hrl).2.2.2] at h1
        exact h1)
      have HKM := Lib.hid (fun c hcc => (hc.ok rt hrl).mem (c := c) hcc)
      have hkl : (nd G rt).kids.length ≤ 2500000 := by
        have := (HG.out.fine rt (by rw [HL.out]; exact hrl)).kids
        rw [(HAL.out.tm hrl).2.1] at this
        exact this
      have HFI := Lib.hid (show Fits (nd G rt).tm.kind ∧ Fits (nd G rt).tm.num ∧ (nd G rt).tm.name.size ≤ maxLen from by
        have := HG.out.fine rt (by rw [HL.out]; exact hrl)
        have e := (HAL.out.tm hrl).1
        exact ⟨e ▸ this.kind, e ▸ this.num, e ▸ this.name⟩)
      have HSE := Lib.hid (show ((nd G rt).tm.kind = 1 → sol G root D i = vr (nd G rt).tm.num) ∧ ((nd G rt).tm.kind ≠ 1 → sol G root D i = .mk (nd G rt).tm.kind (nd G rt).tm.num (nd G rt).tm.name none 0 ((nd G rt).kids.map (sol G root D))) from by
        have h1 := sol_eq hc hrk hi
        rw [HRT.out] at h1
        exact ⟨fun hk => h1.trans (if_pos hk), fun hk => h1.trans (if_neg hk)⟩)
      have HRK := Lib.hid (fun c hcc => (hrk i hi).2 c hcc)
      rw [HRT.out] at HRK
      have HVK := Lib.hid (fun hv => (hc.ok rt hrl).var hv)
      have HVN := Lib.hid (show (nd G rt).tm.kind = 1 → (nd G rt).tm.name = ByteArray.empty from fun hv => by
        have h1 := congrArg Tm.name (form_var (hc.ok rt hrl).form hv).1
        rw [name_strip] at h1
        exact h1)
      obtain ⟨lk, hlk⟩ : ∃ l, l = (nd G rt).kids := ⟨_, rfl⟩
      obtain ⟨Aj, hAj⟩ : ∃ l, l = (nd G rt).A := ⟨_, rfl⟩
      obtain ⟨cj, hcj⟩ : ∃ l, l = (nd G rt).cap := ⟨_, rfl⟩
      obtain ⟨tt, htt⟩ : ∃ l, l = (nd G rt).tm := ⟨_, rfl⟩
      rw [← hlk] at HKI HKM hkl HSE HRK HVK c5
      rw [← hAj, ← hcj] at HKI c5
      rw [← htt] at HFI HSE HVK HVN c1 c2 c3 c4
      obtain ⟨kx, nx, sx, Ax, cx, lx⟩ := tt
      simp only [Tm.kind, Tm.num, Tm.name, Tm.at_, Tm.args, Tm.cap] at c1 c2 c3 c4 HFI HSE HVK HVN
      have HF := Lib.hid hf
      have HH := Lib.hid hh
      have HG1 := Lib.hid (show ∃ H, Alike G H ∧ UF H root r ∧ Gph lo X wc p (.slice (some ⟨q, 0, none⟩) G.length cap) H from ⟨H1, e1, e2, e3⟩)
      have hws := hf.size
      clear hlk hAj hcj htt e1 e2 e3 hf hh hcut c0x c0y QF
      obtain ⟨it, hit, iz0, iz1, iz2⟩ := info_parts term_info
      have HB0 := Lib.hid (show Building lo X p (.slice (some ⟨q, 0, none⟩) G.length cap) G root r D lk w wc.heap.size kx nx sx (.slice none 0 0) [] 0 (wc.alloc (.cells #[.int .i64 kx, .int .i64 nx, .string sx, .slice none 0 0] 26)) from by
        obtain ⟨H1, e1, e2, e3⟩ := HG1.out
        exact ⟨⟨H1, e1, e2, e3.alloc _⟩, fr_alloc HF.out _, HH.out.alloc _, held_new _ _, RowT.nil _ _ _, rfl, rfl⟩)
      have hwb : w.heap.size < wc.heap.size := by omega
      go_wp2_with fail
      rename World => wq
      go_loopw [24] (fun s24 wr => ∃ (j : Nat) (ov : Value) (ts : List Tm), j ≤ lk.length ∧ s24 = .int .i64 (j : Nat) ∧ Hid (Building lo X p (.slice (some ⟨q, 0, none⟩) G.length cap) G root r D lk w wq.heap.size kx nx sx ov ts j wr)) (fun s24 _ => lk.length - (intOf s24).toNat)
      case atStart => exact ⟨0, _, [], Nat.zero_le _, rfl, HB0⟩
      case round =>
        clear HB0
        obtain ⟨j, ov, ts, hj, rfl, HB⟩ := hrel
        by_cases hlt : j < lk.length
        · obtain ⟨bk, rfl, hbk⟩ := (HKI.out wr HB.out.fr).2.2 (by omega)
          have b1 := hbk j hlt
          obtain ⟨ck, hck⟩ : ∃ c, c = lk.getD j 0 := ⟨_, rfl⟩
          rw [← hck] at b1
          have hkm : ck ∈ lk := by rw [hck]; exact nat_getD_mem hlt
          have hkG : ck < G.length := HKM.out ck hkm
          obtain ⟨H1, e1, e2, e3⟩ := HB.out.g
          have Q1 := Lib.hid (fun W (hW : Gph lo X W p (.slice (some ⟨q, 0, none⟩) G.length cap) H1) => HIH.out ck H1 W hkG (by have := HRK.out ck hkm; have := HN.out; rw [HRT.out] at this; omega) e1 e2 hW)
          have HE3 := Lib.hid e3
          have q3 := HB.out.box.c3
          have htl : ts.length ≤ 2500000 := by have := HB.out.len; omega
          have hzB := HB.out.box.lt
          have HNX := Lib.hid (fun u w2 w4 g cap ob hG2 hf2 hu hl hown hgr hat => HB.out.next (u := u) (w2 := w2) (w4 := w4) (g := g) (cap := cap) (ob := ob) HG.out HAL.out hwb hlt hG2 hf2 (by rw [← hck]; exact hu) hl hown hgr hat)
          have HOW := Lib.hid (fun w2 (hf2 : wr.grownBy w2 (some q)) => show RowT Any (wq.heap.size + 1) w2 ov ts ∧ Held wq.heap.size w2 (.int .i64 kx) (.int .i64 nx) (.string sx) ov from
            ⟨HB.out.row.fr hf2 fun b e => by injection e with e; omega, HB.out.box.fr hf2 (fun e => by injection e with e; omega)⟩)
          have HE1 := Lib.hid e1
          have HOL := Lib.hid (fun b e => own_lt HB.out.row.1 b e)
          have hne : wq.heap.size ≠ q := by omega
          clear hbk hck hkm hkG e1 e2 e3
          go_wp2_with fail
          go_region_law (first
            | (go_simp; go_at_call 41; refine (Q1.out _ HE3.out.drew).mono ?_; rintro e w2 ⟨u, H2, rfl, m1, m2, m3, m4, m5, m6⟩; have m7 := undrew_fr m6; have OW := Lib.hid (HOW.out w2 m7); have q4 := OW.out.2.c3; have hz4 := OW.out.2.lt; have hm8 := m7.size; have MM := Lib.hid (show u.strip = sol G root D ck ∧ Lie Any wr.heap.size No w2 u ∧ (∃ H, Alike G H ∧ UF H root r ∧ Gph lo X w2 p (.slice (some ⟨q, 0, none⟩) G.length cap) H) ∧ wr.grownBy w2 (some q) from ⟨m1, m2, ⟨H2, m3, m4, m5⟩, m7⟩); clear m1 m2 m3 m4 m5 m6 m7; obtain ⟨k2, n2, s2, A2, p2, a2⟩ := u)
            | (refine step_append_lies _ (by rfl) _ _ _ (by rfl) (wq.heap.size + 1) 26 it _ 4 56 Tryz.underlying24 hit iz0 iz1 iz2 rfl (by omega) ov ts.length (tcells ts) (by rfl) (OW.out.1.1.alloc _) ⟨w2.heap.size, 0, none⟩ 1 1 [.int .i64 k2, .int .i64 n2, .string s2, .slice A2 a2.length p2] (by rfl) (by rfl) (World.news_of_block (cs := #[.int .i64 k2, .int .i64 n2, .string s2, .slice A2 a2.length p2]) (t := 26) (fr := (0, 0)) (heap_alloc_new w2 _)) (by simp [Value.oneCell']) (by omega) (by unfold maxLen; omega) (by omega) (by simp; omega) (w2.heap.size + 1) (by simp) ?_; intro g cp w4 hown hgrow hat hgl; have B4 := Lib.hid ((OW.out.2.alloc (.cells #[.int .i64 k2, .int .i64 n2, .string s2, .slice A2 a2.length p2] 26)).fr hgrow (fun e => by have := (HOL.out _ e.symm).1; omega)); have q5 := B4.out.c3; have f5 := B4.out.free 3; have hz5 := B4.out.lt))
          all_goals
            have HD := Lib.hid (HNX.out (.mk k2 n2 s2 A2 p2 a2) w2 w4 g cp _ MM.out.2.2.1 MM.out.2.2.2 MM.out.1 MM.out.2.1 hown hgrow (by rcases hat with h | h; exact .inl h; exact .inr (by rw [h]; simp)))
            clear hown hgrow hat hgl B4 OW MM
            go_wp2_with fail
            go_roundw
            case rel => exact ⟨j + 1, _, _, by omega, by go_num, HD⟩
            case measure => simp [intOf]; omega
        · obtain rfl : j = lk.length := by omega
          obtain ⟨A9, c9, rfl, _⟩ := HB.out.row.form
          have HST := Lib.hid (show stripL ts = lk.map (sol G root D) from by have := HB.out.is; rw [List.take_length] at this; exact this)
          have HLI := Lib.hid (fun W hW => HB.out.row.lies W trivial hW)
          have HFR := Lib.hid HB.out.fr
          have HGG := Lib.hid HB.out.g
          obtain ⟨hz6, d0, d1, d2, d3, _⟩ := HB.out.box
          obtain ⟨hz4, e0, e1, e2, e3, ff⟩ := HB.out.res
          have f0 := ff 0
          have f1 := ff 1
          have f2 := ff 2
          have f3 := ff 3
          clear ff HB
          go_wp2_with fail
          refine bodyPost_ret (v := .agg #[.int .i64 kx, .int .i64 nx, .string sx, .slice A9 ts.length c9]) (by simp [results, Tryz.results41, go_sem, e0, e1, e2, e3]) rfl ?_
          obtain ⟨H2, g1, g2, g3⟩ := HGG.out
          have hset : wr.grownBy ((((wr.setCell ⟨w.heap.size, 0, none⟩ (.int .i64 kx)).setCell ⟨w.heap.size, 1, none⟩ (.int .i64 nx)).setCell ⟨w.heap.size, 2, none⟩ (.string sx)).setCell ⟨w.heap.size, 3, none⟩ (.slice A9 ts.length c9)) (some w.heap.size) :=
            fr_set (p := ⟨w.heap.size, 3, none⟩) (fr_set (p := ⟨w.heap.size, 2, none⟩) (fr_set (p := ⟨w.heap.size, 1, none⟩) (fr_set (p := ⟨w.heap.size, 0, none⟩) (fr_refl wr (some w.heap.size)) rfl _) rfl _) rfl _) rfl _
          have hf9 := fr_grow HFR.out hset (fun b e => by injection e with e; omega)
          refine ⟨.mk kx nx sx A9 c9 ts, H2, rfl, ?_, lie_row (lo := wq.heap.size + 1) HFI.out (fun W hW => HLI.out W fun b h1 h2 h3 => ?_) (by omega), g1, g2, Gph.renew HG.out (HAL.out.flip g1) g3 hf9 hset (.inr fun e => by have : q = w.heap.size := (by simpa [Value.ownBlock] using e); omega), hf9⟩
          · simp only [Tm.strip]
            rw [HST.out]
            by_cases hk : kx = 1
            · rw [HSE.out.1 hk, HVK.out hk, HVN.out hk, hk]
              rfl
            · rw [HSE.out.2 hk]
          · exact (hW b h1 (Nat.lt_of_lt_of_le h2 hset.size) h3).trans (hset.block b h2 (fun e => by injection e with e; omega))
end Go.Proofs.YtelkmnjoboekmaaGreat
namespace Go.Proofs.YtelkmnjoboekmaaGreat
open Go.RowKit

theorem wrap_small {n : Nat} (h : n ≤ 2500000) : IntKind.i64.wrap ((n : Nat) : Int) = ((n : Nat) : Int) := by
  unfold IntKind.wrap
  simp [IntKind.bits, IntKind.signed]
  omega
/-- Ahead of the new node: the term is not there yet. -/
structure PreE (lo : Nat) (Y : Nat → Prop) (p : Nat) (zL zC : Value) (G : List Nd) (cls : List Nat) (k n : Int) (s : ByteArray) (A : Option Addr) (l c : Nat) (w wr : World) : Prop where
  g : RG lo Y wr p zL zC G cls
  b : Held w.heap.size wr (.int .i64 k) (.int .i64 n) (.string s) (.slice A l c)
  e : Ext w wr
  no : k = 1 → ∀ i, i < G.length → (nd G i).tm.kind = 1 → (nd G i).tm.num ≠ n
theorem EnterO.same {lo p i : Nat} {Y : Nat → Prop} {zL zC : Value} {G : List Nd} {cls : List Nat} {t : Tm} {w W : World} (hg : RG lo Y W p zL zC G cls) (hv : VarU G) (hW : Ext w W) (hi : i < G.length) (ht : (nd G i).tm.strip = t.strip) : EnterO lo Y p zL zC G cls t w (.returned (.int .i64 (i : Nat))) W :=
  ⟨zL, zC, G, cls, i, rfl, hg, ⟨[], by simp⟩, fun j h1 h2 => by omega, rfl, hv, hi, ht, by omega, FrX.of hW, OwnN.refl _ _, OwnN.refl _ _⟩
set_option maxHeartbeats 8000000 in
set_option maxRecDepth 100000 in
theorem enter_at (w0 : World) (p : Nat) (t : Tm) : ∀ (Y : Nat → Prop) (G : List Nd) (cls : List Nat) (zL zC : Value) (w : World), t.At w0 → t.form = true → Ext w0 w → RG w0.heap.size Y w p zL zC G cls → (∀ i, i < G.length → (nd G i).tm.form = true) → VarU G → (∀ b, Y b → b < w.heap.size) → G.length + t.nodes ≤ 2500000 →
    Calls Tryz.prog 113 #[.pointer (some ⟨p, 0, none⟩), t.val] w (EnterO w0.heap.size Y p zL zC G cls t w) := by
  induction t using Tm.induct with
  | h k n s A c a ih =>
    intro Y G cls zL zC w hat hform hbw hg hfm hvu hY hsz
    show Calls Tryz.prog 113 #[.pointer (some ⟨p, 0, none⟩), .agg #[.int .i64 k, .int .i64 n, .string s, .slice A a.length c]] w _
    obtain ⟨⟨zA, ca, rfl, _⟩, zB, cb, rfl, _⟩ := hg.slices
    have hfits := ((At_iff _ _).1 hat).1
    simp only [Tm.kind, Tm.num, Tm.name] at hfits
    have hsm := hg.small
    have hnod : (Tm.mk k n s A c a).nodes = 1 + nodesL a := rfl
    have hln : a.length ≤ 2500000 := by have := length_le_nodes a; omega
    have c0 := al1 hg.hl (.cells #[.int .i64 k, .int .i64 n, .string s, .slice A a.length c] 26)
    have HLS := Lib.hid (show Lst w0 A a c from hat.lst)
    have HF := Lib.hid hform
    have HBW := Lib.hid hbw
    have HFM := Lib.hid hfm
    have HVU := Lib.hid hvu
    have HG0 := Lib.hid hg
    have QI := Lib.hid ih
    have HSZ := Lib.hid hsz
    have HP0 := Lib.hid (show RG w0.heap.size Y (w.alloc (.cells #[.int .i64 k, .int .i64 n, .string s, .slice A a.length c] 26)) p (.slice zA G.length ca) (.slice zB G.length cb) G cls ∧ Held w.heap.size (w.alloc (.cells #[.int .i64 k, .int .i64 n, .string s, .slice A a.length c] 26)) (.int .i64 k) (.int .i64 n) (.string s) (.slice A a.length c) ∧ Ext w (w.alloc (.cells #[.int .i64 k, .int .i64 n, .string s, .slice A a.length c] 26)) from ⟨hg.alloc _, held_new w _, Ext.al _ _⟩)
    clear ih hat hform hbw hg hfm hvu hsz hnod
    by_cases hk : k = 1
    case' pos =>
      have hkb : (k == 1) = true := by simpa using hk
      have HK := Lib.hid hk
      clear hk
      have HS0 := Lib.hid (show (RG w0.heap.size Y (w.alloc (.cells #[.int .i64 k, .int .i64 n, .string s, .slice A a.length c] 26)) p (.slice zA G.length ca) (.slice zB G.length cb) G cls ∧ Held w.heap.size (w.alloc (.cells #[.int .i64 k, .int .i64 n, .string s, .slice A a.length c] 26)) (.int .i64 k) (.int .i64 n) (.string s) (.slice A a.length c) ∧ Ext w (w.alloc (.cells #[.int .i64 k, .int .i64 n, .string s, .slice A a.length c] 26))) ∧ ∀ i, i < 0 → (nd G i).tm.kind = 1 → (nd G i).tm.num ≠ n from ⟨HP0.out, fun i hi => by omega⟩)
      clear HP0
      go_enter Tryz.func113, Tryz.ntmps113
      go_wp2_with fail
      go_loopw [5] (fun s5 wr => ∃ j : Nat, j ≤ G.length ∧ s5 = .int .i64 (j : Nat) ∧ Hid ((RG w0.heap.size Y wr p (.slice zA G.length ca) (.slice zB G.length cb) G cls ∧ Held w.heap.size wr (.int .i64 k) (.int .i64 n) (.string s) (.slice A a.length c) ∧ Ext w wr) ∧ ∀ i, i < j → (nd G i).tm.kind = 1 → (nd G i).tm.num ≠ n)) (fun s5 _ => G.length - (intOf s5).toNat)
      case atStart => exact ⟨0, Nat.zero_le _, rfl, HS0⟩
      case' round =>
        clear HS0 c0
        obtain ⟨j, hj, rfl, HS⟩ := hrel
        have c0 := HS.out.1.1.hl
        have b1 := HS.out.1.2.1.c1
        by_cases hlt : j < G.length
        case pos =>
          obtain ⟨q, c1, q2, c2, e1, e2, _⟩ := HS.out.1.1.form (by omega)
          injection e1 with e1 _ e1'
          injection e2 with e2 _ e2'
          subst e1 e1' e2 e2'
          have d0 := (HS.out.1.1.cells hlt).1
          have d1 := (HS.out.1.1.cells hlt).2.1
          have HD := Lib.hid (show (RG w0.heap.size Y wr.drew p (.slice (some ⟨q, 0, none⟩) G.length ca) (.slice (some ⟨q2, 0, none⟩) G.length cb) G cls ∧ Held w.heap.size wr.drew (.int .i64 k) (.int .i64 n) (.string s) (.slice A a.length c) ∧ Ext w wr.drew) from ⟨HS.out.1.1.drew, HS.out.1.2.1.below (Below.refl _ _).drew, Below.drew HS.out.1.2.2⟩)
          have HN := Lib.hid (show ((nd G j).tm.kind = 1 → (nd G j).tm.num ≠ n) → ∀ i, i < j + 1 → (nd G i).tm.kind = 1 → (nd G i).tm.num ≠ n from fun h i hi => by
            by_cases e : i = j
            · rw [e]; exact h
            · exact HS.out.2 i (by omega))
          by_cases hkj : (nd G j).tm.kind = 1
          · have hkj' : ((nd G j).tm.kind == 1) = true := by simp [hkj]
            by_cases hnj : (nd G j).tm.num = n
            · have hnj' : ((nd G j).tm.num == n) = true := by simp [hnj]
              have HE := Lib.hid (EnterO.same (t := .mk k n s A c a) HD.out.1 HVU.out HD.out.2.2 hlt (by rw [(form_var (HFM.out j hlt) hkj).1, (form_var HF.out HK.out).1, hnj]; rfl))
              clear hkj hnj HN HS
              generalize (nd G j).tm.kind = kj at *
              generalize (nd G j).tm.num = nj at *
              go_wp2_with fail
              go_region
              go_wp2_with fail
              go_ret
              exact HE.out
            · have hnj' : ((nd G j).tm.num == n) = false := by simpa using hnj
              have HE := Lib.hid (And.intro HD.out (HN.out fun _ => hnj))
              clear hkj hnj HN HS HD
              generalize (nd G j).tm.kind = kj at *
              generalize (nd G j).tm.num = nj at *
              go_wp2_with fail
              go_region
              go_wp2_with fail
              go_roundw
              case rel => exact ⟨j + 1, by omega, by go_num, HE⟩
              case measure => simp [intOf]; omega
          · have hkj' : ((nd G j).tm.kind == 1) = false := by simpa using hkj
            have HE := Lib.hid (And.intro HD.out (HN.out fun h => absurd h hkj))
            clear hkj HN HS HD
            generalize (nd G j).tm.kind = kj at *
            go_wp2_with fail
            go_region
            go_wp2_with fail
            go_roundw
            case rel => exact ⟨j + 1, by omega, by go_num, HE⟩
            case measure => simp [intOf]; omega
        case' neg =>
          have hjj : j = G.length := by omega
          subst hjj
          have HPE := Lib.hid (show PreE w0.heap.size Y p (.slice zA G.length ca) (.slice zB G.length cb) G cls k n s A a.length c w wr from ⟨HS.out.1.1, HS.out.1.2.1, HS.out.1.2.2, fun _ => HS.out.2⟩)
          clear HS b1 hlt
          go_upto_region 7 with fail
    case' neg =>
      have hk1 : (k == 1) = false := by simpa using hk
      go_enter Tryz.func113, Tryz.ntmps113
      go_upto_region 7 with fail
      have HPE := Lib.hid (show PreE w0.heap.size Y p (.slice zA G.length ca) (.slice zB G.length cb) G cls k n s A a.length c w (w.alloc (.cells #[.int .i64 k, .int .i64 n, .string s, .slice A a.length c] 26)) from ⟨HP0.out.1, HP0.out.2.1, HP0.out.2.2, fun h => absurd h hk⟩)
      clear HP0 hk1
      generalize w.alloc (.cells #[.int .i64 k, .int .i64 n, .string s, .slice A a.length c] 26) = wr at *
    all_goals
      obtain ⟨-, b0, b1, b2, b3, -⟩ := HPE.out.b
      have c0' := HPE.out.g.hl
      have hltw : w.heap.size < wr.heap.size := HPE.out.b.lt
      have HE0 := Lib.hid (show Entering w0.heap.size Y p (.slice zA G.length ca) (.slice zB G.length cb) G cls a k n s wr wr.heap.size 0 (.slice none 0 0) (wr.alloc (.cells #[.int .i64 k, .int .i64 n, .string s, .slice none 0 0] 123)) from
        ⟨_, _, G, cls, [], (HPE.out.g.out (Y' := fun b => Y b ∨ b = wr.heap.size ∨ (Value.slice none 0 0).ownBlock = some b) (fun b hb e => by
          rcases e with e | e | e
          · exact e
          · omega
          · simp [Value.ownBlock] at e)).alloc _, ⟨[], by simp⟩, fun m h1 h2 => by omega, rfl, HVU.out, rfl, fun m hm => by omega, by simp [nodesL], held_new wr _, ⟨rfl, .inl ⟨rfl, rfl⟩⟩, FrX.of (Ext.al _ _), OwnN.refl _ _, OwnN.refl _ _, fun b e => by simp [Value.ownBlock] at e, fun e => by have := (HPE.out.g.ownlt e).2; omega⟩)
      go_wp2_with fail
      rename World => wq
      obtain ⟨i1, hi1, hy0, hy1, hy2⟩ := info_parts int_info
      obtain ⟨i0, hi0, hz0, hz1, hz2⟩ := info_parts rnode_info
      go_loopw [7] (fun s7 wz => ∃ (j : Nat) (zK : Value), j ≤ a.length ∧ s7 = .int .i64 (j : Nat) ∧ Hid (Entering w0.heap.size Y p (.slice zA G.length ca) (.slice zB G.length cb) G cls a k n s wq wq.heap.size j zK wz)) (fun s7 _ => a.length - (intOf s7).toNat)
      case atStart => exact ⟨0, _, Nat.zero_le _, rfl, HE0⟩
      case round =>
        clear HE0 b0 b1 b2 b3 c0'
        obtain ⟨j, zK, hj, rfl, HE⟩ := hrel
        have HB3 := Lib.hid (show ∀ W, FrX (Own3 p (.slice zA G.length ca) (.slice zB G.length cb)) wq W → Held w.heap.size W (.int .i64 k) (.int .i64 n) (.string s) (.slice A a.length c) from fun W hW => held_fx2 HPE.out.b hW fun e => by
          have h1 := HG0.out.ownlt e
          exact absurd h1.2 (Nat.lt_irrefl _))
        by_cases hlt : j < a.length
        · obtain ⟨zL', zC', G', cls', ks, h1, h2, h3, h4, h5, h6, h7, h8, h9, h10, h11, h12, h13, h14, h15⟩ := HE.out
          have HW := Lib.hid (show Ext w0 wr from h11.ext (HBW.out.trans HPE.out.e) fun b e => (HPE.out.g.ownlt e).1)
          obtain ⟨b, o, rfl, ⟨d0, d1, d2, d3⟩, _⟩ := (HLS.out.below HW.out).get hlt
          obtain ⟨-, -, -, -, b3, -⟩ := HB3.out wr h11
          have q3 := h9.c3
          have hzB := h9.lt
          obtain ⟨x, hx⟩ : ∃ x, x = a.getD j default := ⟨_, rfl⟩
          have hxa : x ∈ a := by rw [hx]; exact getD_mem hlt
          rw [← hx] at d0 d1 d2 d3
          have hnx := nodesL_next hlt
          have htk := nodesL_take a (j + 1)
          have hnod : (Tm.mk k n s (some ⟨b, o, none⟩) c a).nodes = 1 + nodesL a := rfl
          have HQ := Lib.hid (QI.out x hxa (fun b => Y b ∨ b = wq.heap.size ∨ zK.ownBlock = some b) G' cls' zL' zC' wr.drew (HLS.out.mem hxa) (formL_mem hxa (form_args HF.out).2) (Below.drew HW.out) h1.drew (fun i hi => by
              obtain ⟨N, rfl⟩ := h2
              by_cases h1 : i < G.length
              · rw [nd_left h1]; exact HFM.out i h1
              · exact (h3 i (by omega) hi).form) h5 (fun y hy => by
              show y < wr.heap.size
              have hs := h11.size
              rcases hy with hy | hy | hy
              · have := hY y hy; have := HPE.out.e.size; omega
              · omega
              · exact (own_lt h10 y hy).2) (by
              have := HSZ.out
              rw [← hx] at hnx
              omega))
          have HNX := Lib.hid (fun zL2 zC2 G2 cls2 i w2 w4 g cap ob k1 k2 k3 k4 k5 k6 k7 k8 k9 k10 k11 hown hgr hat => entering_next (zL2 := zL2) (zC2 := zC2) (G2 := G2) (cls2 := cls2) (i := i) (w2 := w2) (w4 := w4) (g := g) (cap := cap) (ob := ob) hlt h1 h2 h3 h4 h6 h7 h8 h9 h10 h11 h12 h13 h14 h15 k1 k2 k3 k4 k5 k6 k7 k8 k9 k10 k11 hown hgr hat (Nat.le_refl _))
          have HROW := Lib.hid (fun w2 (k9 : FrX (Own3 p zL' zC') wr w2) => show w2.ownsRow (wq.heap.size + 1) 3 1 zK ks.length (nums ks) ∧ Held wq.heap.size w2 (.int .i64 k) (.int .i64 n) (.string s) zK from ⟨k9.row h10 (fun b e => h14 b e), held_fx2 h9 k9 h15⟩)
          have HKL := Lib.hid (fun b e => own_lt h10 b e)
          have HX2 := Lib.hid hx
          have hkl : ks.length ≤ 2500000 := by omega
          clear h1 h2 h3 h4 h5 h6 h7 h8 h9 h10 h11 h12 h13 h14 h15 hxa hx hnx htk hnod HE
          obtain ⟨kx, nx, sx, Ax, cx, lx⟩ := x
          simp only [Tm.kind, Tm.num, Tm.name, Tm.at_, Tm.args, Tm.cap] at d0 d1 d2 d3
          go_wp2_with fail
          go_region_law (first
            | (go_simp; go_at_call 113; refine (HQ.out).mono ?_; rintro e w2 ⟨zL2, zC2, G2, cls2, i, rfl, m1, m2, m3, m4, m5, m6, m7, m8, m9, m10, m11⟩; have M9 := Lib.hid (FrX.undrew m9); obtain ⟨or, ox⟩ := HROW.out w2 M9.out; have q4 := ox.c3; have hz4 := ox.lt; have hs4 := M9.out.size; have OR := Lib.hid or; have OX := Lib.hid ox; have MM := Lib.hid (And.intro m1 (And.intro m2 (And.intro m3 (And.intro m4 (And.intro m5 (And.intro m6 (And.intro m7 (And.intro m8 (And.intro m10 m11))))))))); clear or ox m1 m2 m3 m4 m5 m6 m7 m8 m9 m10 m11)
            | (refine step_append_lies _ (by rfl) _ _ _ (by rfl) (wq.heap.size + 1) 3 i1 _ 1 8 Tryz.underlying30 hi1 hy0 hy1 hy2 rfl (by omega) zK ks.length (nums ks) (by rfl) (own_below OR.out (below1 w2 _)) ⟨w2.heap.size, 0, none⟩ 1 1 [.int .i64 (i : Nat)] (by rfl) (by rfl) (World.news_of_block (cs := #[.int .i64 (i : Nat)]) (t := 3) (fr := (0, 0)) (heap_alloc_new w2 _)) (by simp [Value.oneCell']) (by omega) (by unfold maxLen; omega) (by omega) (by simp; omega) (w2.heap.size + 1) (by simp) ?_; intro g cp w4 hown hgrow hat hgl; have B4 := Lib.hid (((OX.out).alloc (.cells #[.int .i64 (i : Nat)] 3)).fr hgrow (fun e => by have := (HKL.out _ e.symm).1; omega)); have q5 := B4.out.c3; have f5 := B4.out.free 3; have hz5 := B4.out.lt))
          all_goals
            have HD := Lib.hid (HNX.out zL2 zC2 G2 cls2 i w2 w4 g cp _ MM.out.1 MM.out.2.1 MM.out.2.2.1 MM.out.2.2.2.1 MM.out.2.2.2.2.1 MM.out.2.2.2.2.2.1 (by rw [← HX2.out]; exact MM.out.2.2.2.2.2.2.1) (by rw [← HX2.out]; exact MM.out.2.2.2.2.2.2.2.1) M9.out MM.out.2.2.2.2.2.2.2.2.1 MM.out.2.2.2.2.2.2.2.2.2 hown hgrow (by rcases hat with h | h; exact .inl h; exact .inr (by rw [h]; simp)))
            clear hown hgrow hat hgl B4 OR OX MM HNX HROW HQ
            go_wp2_with fail
            go_roundw
            case rel => exact ⟨j + 1, _, by omega, by go_num, HD⟩
            case measure => simp [intOf]; omega
        · obtain rfl : j = a.length := by omega
          obtain ⟨_, _, _, _, _, _, _, _, _, _, _, _, _, _, _, e11, _⟩ := HE.out
          obtain ⟨-, -, -, -, tb3, -⟩ := HB3.out wr e11
          clear e11
          obtain ⟨zL', zC', G', cls', A', c', ks, rfl, h1, h2, h3, h4, h5, h6⟩ := enter_done HE.out HF.out hfits HPE.out.no HPE.out.e (by have := HBW.out.size; have := HPE.out.e.size; omega) (fun b hb => by have := hY b hb; omega) HSZ.out
          obtain ⟨⟨zA', ca', rfl, _⟩, zB', cb', rfl, _⟩ := h1.slices
          have HH1 := Lib.hid h1
          have HH2 := Lib.hid h2
          have HH3 := Lib.hid h3
          have HH6 := Lib.hid h6
          have hcl' : cls'.length = G'.length := h1.cl
          have p0 := h1.hl
          have p0x := al1 p0
          obtain ⟨-, b0, b1, b2, b3, -⟩ := h5
          have b0x := al1 b0
          have b1x := al1 b1
          have b2x := al1 b2
          have b3x := al1 b3
          have fz0 := h1.fz 0
          have hpl := h1.lt
          have hw0 : w0.heap.size ≤ wr.heap.size := Nat.le_trans h1.lp (Nat.le_of_lt hpl)
          clear h1 h2 h3 h6 HE QI HB3
          go_upto_region 12 with fail
          go_cut [6] from 69 to 78 (fun s6 W => s6 = .pointer (some ⟨wq.heap.size, 0, none⟩) ∧ Hid (∃ g cp, Half w0.heap.size Y W p (.slice (some ⟨g, 0, none⟩) (G'.length + 1) cp) (.slice zB' G'.length cb') (G' ++ [⟨.mk k n s A c a, A', c', ks, 0⟩]) cls' ∧ FrX (Own3 p (.slice zA' G'.length ca') (.slice zB' G'.length cb')) wr W ∧ OwnN wr (.slice zA' G'.length ca') (.slice (some ⟨g, 0, none⟩) (G'.length + 1) cp)))
          case first =>
            go_region_law (first
              | (refine step_append_lies _ (by rfl) _ _ _ (by rfl) w0.heap.size 123 i0 _ 4 56 Tryz.underlying116 hi0 hz0 hz1 hz2 rfl (by omega) (.slice zA' G'.length ca') G'.length (rgcells G') (by rfl) (HH1.out.row.alloc _) ⟨wr.heap.size, 0, none⟩ 1 1 [.int .i64 k, .int .i64 n, .string s, .slice A' ks.length c'] (by rfl) (by rfl) (World.news_of_block (cs := #[.int .i64 k, .int .i64 n, .string s, .slice A' ks.length c']) (t := 123) (fr := (0, 0)) (heap_alloc_new wr _)) (by simp [Value.oneCell']) (by omega) (by unfold maxLen; omega) (by omega) (by simp; omega) (wr.heap.size + 1) (by simp) ?_; intro g cp w5 hown hgrow hat hgl; have p5 := (fr_cell (fr_trans (World.grownBy_alloc wr _ _) (undrew_gr hgrow)) (p := ⟨p, 0, none⟩) hpl (fun e => HH1.out.nl e.symm)).trans p0; have fz5 := (fr_frozen (fr_trans (World.grownBy_alloc wr _ _) (undrew_gr hgrow)) (p := ⟨p, 0, none⟩) hpl (fun e => HH1.out.nl e.symm)).trans fz0))
            all_goals
              have HHF := Lib.hid (half_of (x := ⟨.mk k n s A c a, A', c', ks, 0⟩) HH1.out HH2.out HH3.out h4 hown (undrew_gr hgrow) (by rcases hat with h | h; exact .inl h; exact .inr (by rw [h]; simp)))
              go_wp2_with fail
              go_meet
              exact ⟨rfl, Lib.hid ⟨_, _, HHF.out⟩⟩
          case rest =>
            obtain ⟨rfl, hx⟩ := hcut
            obtain ⟨g, cp, hx⟩ := hx.out
            have HHF := Lib.hid hx
            clear hx
            have l0 := HHF.out.1.hl
            have l1 := HHF.out.1.hc
            have fz1 := HHF.out.1.fz 1
            have hph := HHF.out.1.lt
            have hlh := HHF.out.1.lp
            clear p0 p0x b0 b0x b1 b1x b2 b2x b3 b3x fz0
            rename World => wh
            have hwr : IntKind.i64.wrap ((G'.length : Nat) : Int) = ((G'.length : Nat) : Int) := wrap_small (by omega)
            have l0x := al1 l0
            have l1x := al1 l1
            go_wp2_with fail
            go_region_law (first
              | (refine step_append_lies _ (by rfl) _ _ _ (by rfl) w0.heap.size 3 i1 _ 1 8 Tryz.underlying30 hi1 hy0 hy1 hy2 rfl (by omega) (.slice zB' G'.length cb') cls'.length (nums cls') (by rfl) ((own_below HHF.out.1.crow (below1 wh _)).drew) ⟨wh.heap.size, 0, none⟩ 1 1 [.int .i64 (G'.length : Nat)] (by rfl) (by rfl) (World.news_of_block (cs := #[.int .i64 (G'.length : Nat)]) (t := 3) (fr := (0, 0)) (by exact heap_alloc_new wh (.cells #[.int .i64 (G'.length : Nat)] 3))) (by simp [Value.oneCell']) (by omega) (by unfold maxLen; omega) (by omega) (by simp; omega) (wh.heap.size + 1) (by simp) ?_; intro g2 cp2 w6 hown hgrow hat hgl; have p6 := (fr_cell (fr_trans (World.grownBy_alloc wh _ _) (undrew_gr hgrow)) (p := ⟨p, 1, none⟩) hph (fun e => HHF.out.1.nc e.symm)).trans l1; have fz6 := (fr_frozen (fr_trans (World.grownBy_alloc wh _ _) (undrew_gr hgrow)) (p := ⟨p, 1, none⟩) hph (fun e => HHF.out.1.nc e.symm)).trans fz1))
            all_goals
              have HRG := Lib.hid (rg_of_half HHF.out.1 (by rw [hcl'] at hown ⊢; exact hown) (undrew_gr hgrow) (by rcases hat with h | h; exact .inl h; exact .inr (by rw [h]; simp)))
              rw [hcl'] at HRG
              have p60 := (fr_cell (fr_trans (World.grownBy_alloc wh _ _) (undrew_gr hgrow)) (p := ⟨p, 0, none⟩) hph (fun e => HHF.out.1.nc e.symm)).trans l0
              have HE := Lib.hid (HH6.out _ _ _ _ (by rw [hcl']; exact HRG.out.1) ((HHF.out.2.1.mono (X' := fun b => Own3 p (.slice zA' G'.length ca') (.slice zB' G'.length cb') b ∨ Own3 p (.slice (some ⟨g, 0, none⟩) (G'.length + 1) cp) (.slice zB' G'.length cb') b) (fun b _ e => .inl e)).trans HRG.out.2.1 (fun b _ e => .inr e)) HHF.out.2.2 (OwnN.refl _ _) (by
                rcases HRG.out.2.2 with e | e
                · exact .inl e
                · exact .inr fun b eb => Nat.le_trans HHF.out.2.1.size (e b eb)))
              clear hown hgrow hat hgl HRG l0x l1x l0 l1
              go_wp2_with fail
              go_ret
              exact HE.out
end Go.Proofs.YtelkmnjoboekmaaGreat
