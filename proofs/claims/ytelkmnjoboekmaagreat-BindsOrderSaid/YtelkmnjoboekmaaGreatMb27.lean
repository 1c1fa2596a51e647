/-
  What fit of the program holds in memory.
  Contracts of fit's test of one node, and of slices.ContainsFunc at numbers with it.
  Contract of fit of the program: whether the terms that are bound are small enough.
-/
import Derived.Test.YtelkmnjoboekmaaGreatMb18
import Derived.Test.YtelkmnjoboekmaaGreatMb24
import Derived.Test.YtelkmnjoboekmaaGreatMb26
import Derived.Test.YtelkmnjoboekmaaGreatMb11
import Derived.Test.YtelkmnjoboekmaaGreatMb12
import Derived.Deep.RegionHeld3
import Derived.Deep.Cut
import Derived.Deep.CutRange
namespace Go.Proofs.YtelkmnjoboekmaaGreat
open Go.RowKit
attribute [local go_sem] Oper.semAt_some

theorem make_nums (n : Nat) (hn : n ≤ 2500000) (W : World) :
    (Instr.makeSlice 30 (.int .i64 (n : Int)) (.int .i64 (n : Int))).run Tryz.prog W = .ok (.slice (some ⟨W.heap.size, 0, none⟩) n n) (W.alloc (.cells (madeCells (Value.int .i64 0).cells (n * 1)) 3)) := by
  obtain ⟨i0, hi0, hz0, hz1, hz2⟩ := info_parts int_info
  have h := run_makeSlice (P := Tryz.prog) (w := W) 30 3 i0 _ Tryz.underlying30 hi0 hz0 .i64 .i64 n n (by omega) (Int.le_refl _) (by rw [hz1]; omega) (by rw [hz2]; omega) (by omega)
  rw [h, hz1, Int.toNat_natCast]

/-- The two rows and their boxes. -/
def Two (w : World) (p n : Nat) (v7 v8 : Value) (W : World) : Prop :=
  ∃ sb db b7 b8 : Nat, v7 = .pointer (some ⟨b7, 0, none⟩) ∧ v8 = .pointer (some ⟨b8, 0, none⟩) ∧ Below w.heap.size w W ∧ W.cell? ⟨w.heap.size, 0, none⟩ = some (.pointer (some ⟨p, 0, none⟩)) ∧
    W.cell? ⟨b7, 0, none⟩ = some (.slice (some ⟨sb, 0, none⟩) n n) ∧ W.cell? ⟨b8, 0, none⟩ = some (.slice (some ⟨db, 0, none⟩) n n) ∧
    W.heap[sb]? = some (.cells (madeCells (Value.int .i64 0).cells (n * 1)) 3) ∧ W.heap[db]? = some (.cells (madeCells (Value.int .i64 0).cells (n * 1)) 3) ∧
    sb ≠ db ∧ sb ≠ b7 ∧ sb ≠ b8 ∧ db ≠ b7 ∧ db ≠ b8 ∧ w.heap.size < b7 ∧ w.heap.size < b8 ∧ w.heap.size < sb ∧ w.heap.size < db

theorem cell_heap {W : World} {b : Nat} {v : Value} {T : TypeId} (h : W.heap[b]? = some (.cells #[v] T)) : W.cell? ⟨b, 0, none⟩ = some v := by
  unfold World.cell?
  simp [h]
theorem two5 {w : World} {p n : Nat} {v7 v8 : Value} {o0 o1 o2 o3 o4 : Obj} (f : ∀ W : World, Below w.heap.size w W → W.heap[w.heap.size]? = some o0 → W.heap[w.heap.size + 1]? = some o1 → W.heap[w.heap.size + 1 + 1]? = some o2 → W.heap[w.heap.size + 1 + 1 + 1]? = some o3 → W.heap[w.heap.size + 1 + 1 + 1 + 1]? = some o4 → Two w p n v7 v8 W) :
    Two w p n v7 v8 (((((w.alloc o0).alloc o1).alloc o2).alloc o3).alloc o4).drew := by
  refine f _ ?_ ?_ ?_ ?_ ?_ ?_
  · exact (((((Below.refl _ w).alloc (Nat.le_refl _) _).alloc (by simp) _).alloc (by simp; omega) _).alloc (by simp; omega) _).alloc (by simp; omega) _ |>.drew
  · exact (Below.heap_alloc _ _ _ (by simp <;> omega)).trans ((Below.heap_alloc _ _ _ (by simp <;> omega)).trans ((Below.heap_alloc _ _ _ (by simp <;> omega)).trans ((Below.heap_alloc _ _ _ (by simp <;> omega)).trans (World.alloc_heap_new w _))))
  · exact (Below.heap_alloc _ _ _ (by simp <;> omega)).trans ((Below.heap_alloc _ _ _ (by simp <;> omega)).trans ((Below.heap_alloc _ _ _ (by simp <;> omega)).trans (by have := World.alloc_heap_new (w.alloc o0) o1; simpa using this)))
  · exact (Below.heap_alloc _ _ _ (by simp <;> omega)).trans ((Below.heap_alloc _ _ _ (by simp <;> omega)).trans (by have := World.alloc_heap_new ((w.alloc o0).alloc o1) o2; simpa using this))
  · exact (Below.heap_alloc _ _ _ (by simp <;> omega)).trans (by have := World.alloc_heap_new (((w.alloc o0).alloc o1).alloc o2) o3; simpa using this)
  · have := World.alloc_heap_new ((((w.alloc o0).alloc o1).alloc o2).alloc o3) o4
    rw [World.size_alloc, World.size_alloc, World.size_alloc, World.size_alloc] at this
    exact this

theorem row_heap {W : World} {g n base : Nat} (h : W.heap[g]? = some (.cells (madeCells (Value.int .i64 0).cells (n * 1)) 3)) (hb : base ≤ g) (hn : n ≤ 2500000) : W.ownsRow base 3 1 (.slice (some ⟨g, 0, none⟩) n n) n (nums (List.replicate n 0)) := by
  have h1 := made_nums n
  refine ⟨by simp, .inr ⟨g, n, _, rfl, hb, h, Nat.le_refl _, by unfold maxLen; omega, ?_, ?_⟩⟩
  · have := congrArg List.length h1
    simpa using this
  · rw [h1]
    exact List.take_of_length_le (by simp)
theorem rep_get (n v : Nat) : (List.replicate n 0).getD v 0 = 0 := by
  by_cases h : v < n
  · simp [List.getD, h]
  · simp [List.getD, List.getElem?_eq_none_iff.2 (show (List.replicate n 0).length ≤ v by simp; omega)]
/-- Two rows of the call's own, s.1 in block sb and s.2 in block db, beside the graph. -/
structure Fit0 (lo p sb db b7 b8 Bw : Nat) (X : Nat → Prop) (z : Value) (G : List Nd) (root r : Nat → Nat) (w : World) (m : Nat) (s : FS) (W : World) : Prop where
  g : ∃ H, Alike G H ∧ UF H root r ∧ Gph lo X W p z H
  fr : w.grownBy W z.ownBlock
  c3 : W.cell? ⟨w.heap.size, 0, none⟩ = some (.pointer (some ⟨p, 0, none⟩))
  c7 : W.cell? ⟨b7, 0, none⟩ = some (.slice (some ⟨sb, 0, none⟩) G.length G.length)
  c8 : W.cell? ⟨b8, 0, none⟩ = some (.slice (some ⟨db, 0, none⟩) G.length G.length)
  r1 : W.ownsRow (w.heap.size + 1) 3 1 (.slice (some ⟨sb, 0, none⟩) G.length G.length) G.length (nums s.1)
  r2 : W.ownsRow (w.heap.size + 1) 3 1 (.slice (some ⟨db, 0, none⟩) G.length G.length) G.length (nums s.2)
  ok : FOk G.length m s
  big : Bw + 1 ≤ W.heap.size
/-- Where the blocks lie. -/
structure Places (sb db b7 b8 B Bw : Nat) : Prop where
  sd : sb ≠ db
  s7 : sb ≠ b7
  s8 : sb ≠ b8
  d7 : db ≠ b7
  d8 : db ≠ b8
  b7 : B < b7 ∧ b7 < Bw
  b8 : B < b8 ∧ b8 < Bw
  sb : B < sb ∧ sb < Bw
  db : B < db ∧ db < Bw
section
variable {lo p sb db b7 b8 Bw m : Nat} {X : Nat → Prop} {z : Value} {G : List Nd} {root r : Nat → Nat} {w W W' : World} {s : FS}
theorem own_none {v : Value} {b base n e sz : Nat} {xs : List Value} (h : W.ownsRow base e sz v n xs) (hb : b < base) : v.ownBlock = none ∨ v.ownBlock ≠ some b := by
  cases hv : v.ownBlock with
  | none => exact .inl rfl
  | some c => refine .inr fun e => ?_; have := (own_lt h c hv).1; injection e with e; omega
/-- A change of another block, that is new. -/
theorem Fit0.other {row : Option Nat} (h : Fit0 lo p sb db b7 b8 Bw X z G root r w m s W) (h0 : Gph lo X w p z G) (hp : Places sb db b7 b8 w.heap.size Bw) (k : W.grownBy W' row) (hr : ∀ b, row = some b → Bw ≤ b) : Fit0 lo p sb db b7 b8 Bw X z G root r w m s W' := by
  have hsz := h.fr.size
  have hne : ∀ b, b < Bw → some b ≠ row := fun b hb e => by have := hr b e.symm; omega
  have hzl : ∀ b, z.ownBlock = some b → b < w.heap.size := fun b e => (own_lt h0.row b e).2
  have hBw : w.heap.size < Bw := by have := hp.b7; omega
  have hfr : w.grownBy W' z.ownBlock := fr_grow h.fr k fun b e => by have := hr b e; omega
  obtain ⟨H, h1, h2, h3⟩ := h.g
  have hz : z.ownBlock = none ∨ z.ownBlock ≠ row := by
    cases hz : z.ownBlock with
    | none => exact .inl rfl
    | some b => exact .inr (hne b (by have := hzl b hz; omega))
  refine ⟨⟨H, h1, h2, Gph.renew h0 h1 h3 hfr k hz⟩, hfr, ?_, ?_, ?_, World.ownsRow.kept h.r1 k (.inr (hne sb hp.sb.2)), World.ownsRow.kept h.r2 k (.inr (hne db hp.db.2)), h.ok, Nat.le_trans h.big k.size⟩
  · exact (fr_cell k (p := ⟨w.heap.size, 0, none⟩) (World.block_lt_of_cell? _ _ h.c3) (hne _ hBw)).trans h.c3
  · exact (fr_cell k (p := ⟨b7, 0, none⟩) (World.block_lt_of_cell? _ _ h.c7) (hne _ hp.b7.2)).trans h.c7
  · exact (fr_cell k (p := ⟨b8, 0, none⟩) (World.block_lt_of_cell? _ _ h.c8) (hne _ hp.b8.2)).trans h.c8
/-- A call that changes the graph alone. -/
theorem Fit0.call {H2 : List Nd} (h : Fit0 lo p sb db b7 b8 Bw X z G root r w m s W) (h0 : Gph lo X w p z G) (hp : Places sb db b7 b8 w.heap.size Bw) (k : W.grownBy W' z.ownBlock) (e1 : Alike G H2) (e2 : UF H2 root r) (e3 : Gph lo X W' p z H2) : Fit0 lo p sb db b7 b8 Bw X z G root r w m s W' := by
  have hzl : ∀ b, z.ownBlock = some b → b < w.heap.size := fun b e => (own_lt h0.row b e).2
  have hne : ∀ b, w.heap.size ≤ b → some b ≠ z.ownBlock := fun b hb e => by have := hzl b e.symm; omega
  refine ⟨⟨H2, e1, e2, e3⟩, fr_trans h.fr k, ?_, ?_, ?_, World.ownsRow.kept h.r1 k (.inr (hne sb (by have := hp.sb; omega))), World.ownsRow.kept h.r2 k (.inr (hne db (by have := hp.db; omega))), h.ok, Nat.le_trans h.big k.size⟩
  · exact (fr_cell k (p := ⟨w.heap.size, 0, none⟩) (World.block_lt_of_cell? _ _ h.c3) (hne _ (Nat.le_refl _))).trans h.c3
  · exact (fr_cell k (p := ⟨b7, 0, none⟩) (World.block_lt_of_cell? _ _ h.c7) (hne b7 (by have := hp.b7; omega))).trans h.c7
  · exact (fr_cell k (p := ⟨b8, 0, none⟩) (World.block_lt_of_cell? _ _ h.c8) (hne b8 (by have := hp.b8; omega))).trans h.c8
theorem Fit0.drew (h : Fit0 lo p sb db b7 b8 Bw X z G root r w m s W) : Fit0 lo p sb db b7 b8 Bw X z G root r w m s W.drew := by
  obtain ⟨H, h1, h2, h3⟩ := h.g
  exact ⟨⟨H, h1, h2, h3.drew⟩, fr_drew h.fr, h.c3, h.c7, h.c8, World.ownsRow.drew h.r1, World.ownsRow.drew h.r2, h.ok, h.big⟩
/-- A store into a row. -/
theorem Fit0.store1 (h : Fit0 lo p sb db b7 b8 Bw X z G root r w m s W) (h0 : Gph lo X w p z G) (hp : Places sb db b7 b8 w.heap.size Bw) {m' i v : Nat} (hok : FOk G.length m' (s.1.set i v, s.2)) : Fit0 lo p sb db b7 b8 Bw X z G root r w m' (s.1.set i v, s.2) (W.setCell ⟨sb, i, none⟩ (.int .i64 (v : Nat))) := by
  have k : W.grownBy (W.setCell ⟨sb, i, none⟩ (.int .i64 (v : Nat))) (some sb) := fr_set (fr_refl _ _) rfl _
  obtain ⟨g1, g2⟩ := own_store h0 h.g h.fr (show w.heap.size ≤ sb by have := hp.sb; omega) i (.int .i64 (v : Nat))
  have hB := hp.sb
  refine ⟨g1, g2, ?_, ?_, ?_, nums_set h.r1 i v, World.ownsRow.kept h.r2 k (.inr (fun e => hp.sd (by injection e with e; exact e.symm))), hok, Nat.le_trans h.big k.size⟩
  · exact (fr_cell k (p := ⟨w.heap.size, 0, none⟩) (World.block_lt_of_cell? _ _ h.c3) (fun e => by injection e with e; simp at e; omega)).trans h.c3
  · exact (fr_cell k (p := ⟨b7, 0, none⟩) (World.block_lt_of_cell? _ _ h.c7) (fun e => hp.s7 (by injection e with e; exact e.symm))).trans h.c7
  · exact (fr_cell k (p := ⟨b8, 0, none⟩) (World.block_lt_of_cell? _ _ h.c8) (fun e => hp.s8 (by injection e with e; exact e.symm))).trans h.c8
theorem Fit0.store2 (h : Fit0 lo p sb db b7 b8 Bw X z G root r w m s W) (h0 : Gph lo X w p z G) (hp : Places sb db b7 b8 w.heap.size Bw) {m' i v : Nat} (hok : FOk G.length m' (s.1, s.2.set i v)) : Fit0 lo p sb db b7 b8 Bw X z G root r w m' (s.1, s.2.set i v) (W.setCell ⟨db, i, none⟩ (.int .i64 (v : Nat))) := by
  have k : W.grownBy (W.setCell ⟨db, i, none⟩ (.int .i64 (v : Nat))) (some db) := fr_set (fr_refl _ _) rfl _
  obtain ⟨g1, g2⟩ := own_store h0 h.g h.fr (show w.heap.size ≤ db by have := hp.db; omega) i (.int .i64 (v : Nat))
  have hB := hp.db
  refine ⟨g1, g2, ?_, ?_, ?_, World.ownsRow.kept h.r1 k (.inr (fun e => hp.sd (by injection e with e))), nums_set h.r2 i v, hok, Nat.le_trans h.big k.size⟩
  · exact (fr_cell k (p := ⟨w.heap.size, 0, none⟩) (World.block_lt_of_cell? _ _ h.c3) (fun e => by injection e with e; simp at e; omega)).trans h.c3
  · exact (fr_cell k (p := ⟨b7, 0, none⟩) (World.block_lt_of_cell? _ _ h.c7) (fun e => hp.d7 (by injection e with e; exact e.symm))).trans h.c7
  · exact (fr_cell k (p := ⟨b8, 0, none⟩) (World.block_lt_of_cell? _ _ h.c8) (fun e => hp.d8 (by injection e with e; exact e.symm))).trans h.c8
end

/-- What a round leaves as it was. -/
def Link (Bs ob : Nat) (W W' : World) : Prop := KeepsFrom (Bs + 1) W W' ∧ Kept2 Bs ob W W' ∧ Bs < W'.heap.size ∧ ob < W'.heap.size
theorem Link.refl {Bs ob : Nat} {W : World} (h1 : Bs < W.heap.size) (h2 : ob < W.heap.size) : Link Bs ob W W := ⟨KeepsFrom.refl _ _, Kept2.refl _ _ _, h1, h2⟩
theorem Link.gr {Bs ob b : Nat} {W wr w3 : World} {row : Option Nat} (h : Link Bs ob W wr) (k : wr.grownBy w3 row) (he : row = some b) (hb : b < Bs) (ho : b ≠ ob) : Link Bs ob W w3 := by
  subst he
  obtain ⟨h1, h2, h3, h4⟩ := h
  exact ⟨h1.trans (KeepsFrom.of_grownBy k fun j e => by injection e with e; omega), h2.trans ⟨k.block Bs h3 (fun e => by injection e with e; omega), k.block ob h4 (fun e => by injection e with e; exact ho e.symm)⟩, Nat.lt_of_lt_of_le h3 k.size, Nat.lt_of_lt_of_le h4 k.size⟩
theorem Link.set {Bs ob b i : Nat} {W wr : World} {v : Value} (h : Link Bs ob W wr) (hb : b < Bs) (ho : b ≠ ob) : Link Bs ob W (wr.setCell ⟨b, i, none⟩ v) := h.gr (fr_set (fr_refl wr (some b)) rfl v) rfl hb ho
theorem Link.drew {Bs ob : Nat} {W wr : World} (h : Link Bs ob W wr) : Link Bs ob W wr.drew := ⟨⟨h.1.size, h.1.same⟩, h.2.1, h.2.2.1, h.2.2.2⟩
end Go.Proofs.YtelkmnjoboekmaaGreat
namespace Go.Proofs.YtelkmnjoboekmaaGreat
open Go.RowKit

abbrev tooBig (root : Nat → Nat) (s : FS) (i : Nat) : Bool := decide (200 < s.1.getD (root i) 0) || decide (20 < s.2.getD (root i) 0)
set_option maxHeartbeats 4000000 in
set_option maxRecDepth 100000 in
theorem fit_one_at {lo p sb db b7 b8 Bw m i : Nat} {X : Nat → Prop} {z : Value} {G : List Nd} {root r : Nat → Nat} {w W : World} {s : FS} (h : Fit0 lo p sb db b7 b8 Bw X z G root r w m s W) (h0 : Gph lo X w p z G) (hu : UF G root r) (hp : Places sb db b7 b8 w.heap.size Bw) (hi : i < G.length) :
    Calls Tryz.prog 73 #[.int .i64 (i : Nat), .pointer (some ⟨b7, 0, none⟩), .pointer (some ⟨w.heap.size, 0, none⟩), .pointer (some ⟨b8, 0, none⟩)] W fun e W' => e = .returned (.bool (tooBig root s i)) ∧ Fit0 lo p sb db b7 b8 Bw X z G root r w m s W' ∧ W.grownBy W' z.ownBlock := by
  have hrl : root i < G.length := (hu.root_lt i hi).1
  have HQ := Lib.hid (show ∀ W1, Fit0 lo p sb db b7 b8 Bw X z G root r w m s W1 → Calls Tryz.prog 72 #[.pointer (some ⟨p, 0, none⟩), .int .i64 (i : Nat)] W1 fun e W' => e = .returned (.int .i64 ((root i : Nat) : Int)) ∧ Fit0 lo p sb db b7 b8 Bw X z G root r w m s W' ∧ W1.grownBy W' z.ownBlock from fun W1 h1 => by
    obtain ⟨H, e1, e2, e3⟩ := h1.g
    refine (find_to e3 e2 (show i < H.length by rw [e1.len]; exact hi) rfl).mono ?_
    rintro e w3 ⟨H3, rfl, m1, m2, m3, m4, m5⟩
    exact ⟨rfl, h1.call h0 hp m4 (e1.trans m1) m2 m3, m4⟩)
  have HV := Lib.hid (show ∀ W1, Fit0 lo p sb db b7 b8 Bw X z G root r w m s W1 → W1.cell? ⟨w.heap.size, 0, none⟩ = some (.pointer (some ⟨p, 0, none⟩)) ∧ W1.cell? ⟨b7, 0, none⟩ = some (.slice (some ⟨sb, 0, none⟩) G.length G.length) ∧ W1.cell? ⟨b8, 0, none⟩ = some (.slice (some ⟨db, 0, none⟩) G.length G.length) ∧
      W1.cell? ⟨sb, root i, none⟩ = some (.int .i64 ((s.1.getD (root i) 0 : Nat) : Int)) ∧ W1.cell? ⟨db, root i, none⟩ = some (.int .i64 ((s.2.getD (root i) 0 : Nat) : Int)) from fun W1 h1 =>
    ⟨h1.c3, h1.c7, h1.c8, nums_cell h1.r1 (v := root i) (by rw [h1.ok.l1]; exact hrl), nums_cell h1.r2 (v := root i) (by rw [h1.ok.l2]; exact hrl)⟩)
  have o1 := h.ok.b1 (root i)
  have o2 := h.ok.b2 (root i)
  have H0 := Lib.hid h
  unfold tooBig
  clear h h0 hu
  generalize s.1.getD (root i) 0 = a at *
  generalize s.2.getD (root i) 0 = d at *
  generalize root i = rt at *
  have y0 := HV.out _ H0.out.drew
  obtain ⟨x0, x1, x2, x3, x4⟩ := HV.out W H0.out
  by_cases ha : 200 < a
  · have hda : decide (200 < a) = true := decide_eq_true ha
    have hdi : (200 : Int) < (a : Int) := by omega
    rw [hda, Bool.true_or]
    clear hda
    go_enter Tryz.func73, Tryz.ntmps73
    go_wp2_with fail
    have hS := y0
    refine held_start 17 rfl (fun W' => W'.cell? ⟨w.heap.size, 0, none⟩ = some (.pointer (some ⟨p, 0, none⟩)) ∧ W'.cell? ⟨b7, 0, none⟩ = some (.slice (some ⟨sb, 0, none⟩) G.length G.length) ∧ W'.cell? ⟨b8, 0, none⟩ = some (.slice (some ⟨db, 0, none⟩) G.length G.length) ∧ W'.cell? ⟨sb, rt, none⟩ = some (.int .i64 (a : Nat)) ∧ W'.cell? ⟨db, rt, none⟩ = some (.int .i64 (d : Nat))) (by kernel_rfl) ?_
    refine held_take (i := 0) (dst := some 6) (v := ?_) rfl rfl (by kernel_rfl) (by kernel_rfl) (by kernel_rfl) rfl hS ?_ ?_; rotate_left
    · rintro w' ⟨q0, q1, q2, q3, q4⟩; go_simp; with_reducible rfl
    go_frame
    refine held_take (i := 1) (dst := some 7) (v := ?_) rfl rfl (by kernel_rfl) (by kernel_rfl) (by kernel_rfl) rfl hS ?_ ?_; rotate_left
    · rintro w' ⟨q0, q1, q2, q3, q4⟩; go_simp; with_reducible rfl
    go_frame
    refine held_take (i := 2) (dst := some 8) (v := ?_) rfl rfl (by kernel_rfl) (by kernel_rfl) (by kernel_rfl) rfl hS ?_ ?_; rotate_left
    · rintro w' ⟨q0, q1, q2, q3, q4⟩; go_simp; with_reducible rfl
    go_frame
    refine round_one (i := 3) (by kernel_rfl) ?_
    refine held_call (dst := some 9) rfl rfl rfl ?_ (HQ.out _ H0.out.drew) ?_
    · go_simp
    rintro e w3 ⟨rfl, g1, g2⟩
    have hS := HV.out _ g1
    refine ⟨_, rfl, hS, ?_⟩
    have H1 := Lib.hid (And.intro g1 (undrew_fr g2))
    clear g1 g2
    go_frame
    refine held_take (i := 4) (dst := some 10) (v := ?_) rfl rfl (by kernel_rfl) (by kernel_rfl) (by kernel_rfl) rfl hS ?_ ?_; rotate_left
    · rintro w' ⟨q0, q1, q2, q3, q4⟩; go_simp; with_reducible rfl
    go_frame
    refine held_take (i := 5) (dst := some 11) (v := ?_) rfl rfl (by kernel_rfl) (by kernel_rfl) (by kernel_rfl) rfl hS ?_ ?_; rotate_left
    · rintro w' ⟨q0, q1, q2, q3, q4⟩; go_simp; with_reducible rfl
    go_frame
    refine held_take (i := 6) (dst := some 12) (v := ?_) rfl rfl (by kernel_rfl) (by kernel_rfl) (by kernel_rfl) rfl hS ?_ ?_; rotate_left
    · rintro w' ⟨q0, q1, q2, q3, q4⟩; go_simp; with_reducible rfl
    go_frame
    refine held_take (i := 7) (dst := some 13) (v := ?_) rfl rfl (by kernel_rfl) (by kernel_rfl) (by kernel_rfl) rfl hS ?_ ?_; rotate_left
    · rintro w' ⟨q0, q1, q2, q3, q4⟩; go_simp; with_reducible rfl
    go_frame
    refine held_pass (i := 8) (dst := some 14) rfl rfl (by kernel_rfl) (by kernel_rfl) (by kernel_rfl) rfl hS ?_
    go_frame
    refine held_pass (i := 9) (dst := some 15) rfl rfl (by kernel_rfl) (by kernel_rfl) (by kernel_rfl) rfl hS ?_
    go_frame
    refine held_pass (i := 10) (dst := some 16) rfl rfl (by kernel_rfl) (by kernel_rfl) (by kernel_rfl) rfl hS ?_
    go_frame
    refine held_pass (i := 11) (dst := some 17) rfl rfl (by kernel_rfl) (by kernel_rfl) (by kernel_rfl) rfl hS ?_
    go_frame
    refine held_pass (i := 12) (dst := some 18) rfl rfl (by kernel_rfl) (by kernel_rfl) (by kernel_rfl) rfl hS ?_
    go_frame
    refine held_pass (i := 13) (dst := some 19) rfl rfl (by kernel_rfl) (by kernel_rfl) (by kernel_rfl) rfl hS ?_
    go_frame
    refine held_pass (i := 14) (dst := some 20) rfl rfl (by kernel_rfl) (by kernel_rfl) (by kernel_rfl) rfl hS ?_
    go_frame
    refine held_take (i := 15) (dst := some 21) (v := ?_) rfl rfl (by kernel_rfl) (by kernel_rfl) (by kernel_rfl) rfl hS ?_ ?_; rotate_left
    · rintro w' ⟨q0, q1, q2, q3, q4⟩; go_simp; with_reducible rfl
    go_frame
    refine held_take (i := 16) (dst := some 5) (v := ?_) rfl rfl (by kernel_rfl) (by kernel_rfl) (by kernel_rfl) rfl hS ?_ ?_; rotate_left
    · rintro w' ⟨q0, q1, q2, q3, q4⟩; go_simp; with_reducible rfl
    go_frame
    refine round_end (by kernel_rfl) ?_
    go_wp2_with fail
    go_ret
    exact ⟨rfl, H1.out.1, H1.out.2⟩
  · have hda : decide (200 < a) = false := decide_eq_false ha
    have hdi : decide ((200 : Int) < (a : Int)) = false := decide_eq_false (by omega)
    have hdd : decide ((20 : Int) < (d : Int)) = decide (20 < d) := by rw [Bool.eq_iff_iff]; simp; omega
    rw [hda, Bool.false_or]
    clear hda
    obtain ⟨bb, hbb⟩ : ∃ b, b = decide (20 < d) := ⟨_, rfl⟩
    rw [← hbb] at hdd ⊢
    clear hbb
    go_enter Tryz.func73, Tryz.ntmps73
    go_wp2_with fail
    first | (go_region_held3 (fun W' => W'.cell? ⟨w.heap.size, 0, none⟩ = some (.pointer (some ⟨p, 0, none⟩)) ∧ W'.cell? ⟨b7, 0, none⟩ = some (.slice (some ⟨sb, 0, none⟩) G.length G.length) ∧ W'.cell? ⟨b8, 0, none⟩ = some (.slice (some ⟨db, 0, none⟩) G.length G.length) ∧ W'.cell? ⟨sb, rt, none⟩ = some (.int .i64 (a : Nat)) ∧ W'.cell? ⟨db, rt, none⟩ = some (.int .i64 (d : Nat))) (assumption)
      (first
        | (go_at_call 72; (with_reducible refine (HQ.out _ H0.out.drew).mono ?_); rintro e w3 ⟨rfl, g1, g2⟩; have y1 := HV.out _ g1; have H1 := Lib.hid (And.intro g1 (undrew_fr g2)); clear g1 g2)
        | (go_at_call 72; (with_reducible refine (HQ.out _ H1.out.1).mono ?_); rintro e w4 ⟨rfl, g1, g2⟩; have y2 := HV.out _ g1; have H2 := Lib.hid (And.intro g1 (fr_trans H1.out.2 g2)); clear g1 g2)))
    all_goals go_wp2_with fail
    all_goals go_ret
    all_goals exact ⟨rfl, H2.out.1, H2.out.2⟩
/-- What the search for a node that is too great keeps. -/
abbrev fitFV (b7 B b8 : Nat) : Value := .func (.func 73) #[] #[.pointer (some ⟨b7, 0, none⟩), .pointer (some ⟨B, 0, none⟩), .pointer (some ⟨b8, 0, none⟩)]
set_option maxHeartbeats 4000000 in
set_option maxRecDepth 100000 in
theorem index_fit_at {lo p sb db b7 b8 Bw m c : Nat} {X : Nat → Prop} {z : Value} {A : Option Addr} {bd : List Nat} {G : List Nd} {root r : Nat → Nat} {w W : World} {s : FS} (h : Fit0 lo p sb db b7 b8 Bw X z G root r w m s W) (h0 : Gph lo X w p z G) (hu : UF G root r) (hp : Places sb db b7 b8 w.heap.size Bw)
    (hbd : ∀ i ∈ bd, i < G.length) (hA : ∀ W, w.grownBy W z.ownBlock → IRow W A bd c) :
    Calls Tryz.prog 98 #[.slice A bd.length c, fitFV b7 w.heap.size b8] W fun e W' => ∃ k : Int, e = .returned (.int .i64 k) ∧ decide (0 ≤ k) = bd.any (tooBig root s) ∧ Fit0 lo p sb db b7 b8 Bw X z G root r w m s W' ∧ W.grownBy W' z.ownBlock := by
  have hlen : bd.length ≤ maxLen := Nat.le_trans (hA W h.fr).1 (hA W h.fr).2.1
  unfold maxLen at hlen
  have HQ := Lib.hid (fun i (hi : i < G.length) W1 h1 => fit_one_at (lo := lo) (p := p) (sb := sb) (db := db) (b7 := b7) (b8 := b8) (Bw := Bw) (m := m) (X := X) (z := z) (root := root) (r := r) (s := s) (w := w) (W := W1) h1 h0 hu hp hi)
  have HB := Lib.hid hbd
  have HA := Lib.hid hA
  have H0 := Lib.hid (And.intro h (fr_refl W z.ownBlock))
  clear h h0 hu hp hbd hA
  unfold fitFV
  go_enter Tryz.func98, Tryz.ntmps98
  go_wp2_with fail
  go_loopw [8] (fun s8 wr => ∃ j : Nat, j ≤ bd.length ∧ s8 = .int .i64 (j : Nat) ∧ Hid ((Fit0 lo p sb db b7 b8 Bw X z G root r w m s wr ∧ W.grownBy wr z.ownBlock) ∧ (bd.take j).any (tooBig root s) = false)) (fun s8 _ => bd.length - (intOf s8).toNat)
  case atStart => exact ⟨0, Nat.zero_le _, rfl, Lib.hid ⟨H0.out, rfl⟩⟩
  case round =>
    clear H0
    obtain ⟨j, hj, rfl, HF⟩ := hrel
    by_cases hlt : j < bd.length
    · obtain ⟨b, rfl, hb⟩ := (HA.out wr HF.out.1.1.fr).2.2 (by omega)
      have b1 := hb j hlt
      have hnx := nat_take_next hlt
      have hall : bd.any (tooBig root s) = true ∨ tooBig root s (bd.getD j 0) = false := by
        cases ht : tooBig root s (bd.getD j 0) with
        | false => exact .inr rfl
        | true => exact .inl (List.any_eq_true.2 ⟨_, nat_getD_mem hlt, ht⟩)
      have hstep : tooBig root s (bd.getD j 0) = false → (bd.take (j + 1)).any (tooBig root s) = false := fun ht => by rw [hnx, List.any_append, HF.out.2, Bool.false_or, List.any_cons, List.any_nil, Bool.or_false]; exact ht
      have HC := Lib.hid (HQ.out (bd.getD j 0) (HB.out _ (nat_getD_mem hlt)) wr HF.out.1.1)
      have HW := Lib.hid HF.out.1.2
      clear hb hnx HF
      have HST := Lib.hid hstep
      clear hstep
      generalize bd.getD j 0 = i at *
      generalize tooBig root s i = t at *
      cases t with
      | true =>
        have hz : decide ((0 : Int) ≤ (j : Int)) = true := decide_eq_true (by omega)
        have HZ := Lib.hid hz
        have HAL := Lib.hid hall
        clear hz hall
        go_wp2_with (go_at_call 73; refine (HC.out).mono ?_; rintro e w3 ⟨rfl, g1, g2⟩; have H1 := Lib.hid (And.intro g1 (fr_trans HW.out g2)); clear g1 g2)
        go_ret
        refine ⟨_, rfl, ?_, H1.out.1, H1.out.2⟩
        rcases HAL.out with h | h
        · rw [h, HZ.out]
        · cases h
      | false =>
        clear hall
        go_wp2_with (go_at_call 73; refine (HC.out).mono ?_; rintro e w3 ⟨rfl, g1, g2⟩; have H1 := Lib.hid (And.intro g1 (fr_trans HW.out g2)); clear g1 g2)
        go_roundw
        case rel => exact ⟨j + 1, by omega, by go_num, Lib.hid ⟨H1.out, HST.out (by trivial)⟩⟩
        case measure => simp [intOf]; omega
    · obtain rfl : j = bd.length := by omega
      have HE := HF.out
      rw [List.take_length] at HE
      have HE := Lib.hid HE
      clear HF
      go_wp2_with fail
      go_ret
      exact ⟨_, rfl, by rw [HE.out.2]; rfl, HE.out.1.1, HE.out.1.2⟩
set_option maxHeartbeats 4000000 in
theorem contains_fit_at {lo p sb db b7 b8 Bw m c : Nat} {X : Nat → Prop} {z : Value} {A : Option Addr} {bd : List Nat} {G : List Nd} {root r : Nat → Nat} {w W : World} {s : FS} (h : Fit0 lo p sb db b7 b8 Bw X z G root r w m s W) (h0 : Gph lo X w p z G) (hu : UF G root r) (hp : Places sb db b7 b8 w.heap.size Bw)
    (hbd : ∀ i ∈ bd, i < G.length) (hA : ∀ W, w.grownBy W z.ownBlock → IRow W A bd c) :
    Calls Tryz.prog 59 #[.slice A bd.length c, fitFV b7 w.heap.size b8] W fun e W' => e = .returned (.bool (bd.any (tooBig root s))) ∧ Fit0 lo p sb db b7 b8 Bw X z G root r w m s W' ∧ W.grownBy W' z.ownBlock := by
  have HQ := Lib.hid (index_fit_at h h0 hu hp hbd hA)
  clear h h0 hu hp hbd hA
  unfold fitFV at *
  go_enter Tryz.func59, Tryz.ntmps59
  go_wp2_with (go_at_call 98; refine (HQ.out).mono ?_; rintro e w3 ⟨k, rfl, g0, g1, g2⟩; have H1 := Lib.hid (And.intro g1 g2); clear g1 g2; have G0 := Lib.hid g0; clear g0)
  go_ret
  exact ⟨by rw [← G0.out]; rfl, H1.out.1, H1.out.2⟩
end Go.Proofs.YtelkmnjoboekmaaGreat
namespace Go.Proofs.YtelkmnjoboekmaaGreat
open Go.RowKit
attribute [local go_sem] Oper.semAt_some

theorem all_any {f g : Nat → Bool} : ∀ l : List Nat, (∀ i ∈ l, f i = !g i) → (!(l.any f)) = l.all g := by
  intro l
  induction l with
  | nil => intro _; rfl
  | cons x r ih =>
    intro h
    have h1 := h x (by simp)
    have h2 := ih fun i hi => h i (by simp [hi])
    rw [List.any_cons, List.all_cons, h1, Bool.not_or, Bool.not_not, h2]
/-- What fit answers. -/
def FitR (lo : Nat) (X : Nat → Prop) (p : Nat) (z : Value) (G : List Nd) (root r : Nat → Nat) (D : Nat) (bd : List Nat) (w : World) (e : Ending) (w' : World) : Prop :=
  ∃ H, e = .returned (.bool (bd.all fun i => decide ((sol G root D i).size ≤ 200) && decide ((sol G root D i).depth ≤ 20))) ∧ Alike G H ∧ UF H root r ∧ Gph lo X w' p z H ∧ w.grownBy w' z.ownBlock

set_option maxHeartbeats 8000000 in
set_option maxRecDepth 100000 in
theorem fitg_at {lo p D : Nat} {X : Nat → Prop} {z : Value} {G : List Nd} {root r r2 : Nat → Nat} {E : List (Nat × Nat)} {A B : Option Addr} {ca cb : Nat} {bd ord us : List Nat} {w : World} (h : Gph lo X w p z G) (hu : UF G root r) (hcl : Closed G E root) (hrk : Ranked G root r2 D)
    (ho : Ordering G root ord ord.length [] us) (hall : ord.length = G.length) (hbd : ∀ i ∈ bd, i < G.length) (hA : ∀ W, w.grownBy W z.ownBlock → IRow W A bd ca) (hB : ∀ W, w.grownBy W z.ownBlock → IRow W B ord cb) (hBz : ∀ b, B = some b → z.ownBlock ≠ some b.block) :
    Calls Tryz.prog 40 #[.pointer (some ⟨p, 0, none⟩), .slice A bd.length ca, .slice B ord.length cb] w (FitR lo X p z G root r D bd w) := by
  obtain ⟨zA, zc, rfl, _⟩ := h.slice
  have hsm := h.small
  have c0 := h.hdr
  have hpl := h.lt
  have HG := Lib.hid h
  have HU := Lib.hid hu
  have HCL := Lib.hid hcl
  have HRK := Lib.hid hrk
  have HO := Lib.hid ho
  have HALL := Lib.hid hall
  have HBD := Lib.hid hbd
  have HA := Lib.hid hA
  have HB := Lib.hid hB
  have HBZ := Lib.hid hBz
  have hb2 : w.heap.size < w.heap.size + 1 + 1 := by omega
  have hb3 : w.heap.size < w.heap.size + 1 + 1 + 1 := by omega
  have hb4 : w.heap.size < w.heap.size + 1 + 1 + 1 + 1 := by omega
  have hp1 : p < w.heap.size + 1 := by omega
  have hp2 : p < w.heap.size + 1 + 1 := by omega
  have hp3 : p < w.heap.size + 1 + 1 + 1 := by omega
  have hp4 : p < w.heap.size + 1 + 1 + 1 + 1 := by omega
  have hmk := fun W => make_nums G.length hsm W
  obtain ⟨mc, hmc⟩ : ∃ mc, mc = madeCells (Value.int .i64 0).cells (G.length * 1) := ⟨_, rfl⟩
  rw [← hmc] at hmk
  have HMC := Lib.hid hmc
  clear hmc h hu hcl hrk ho hall hbd hA hB hBz
  refine (callsIn_wide (n := 5)).1 (callsIn_of_wp_marks Tryz.func40 rfl trivial (wpIn_wide.2 ?_) rfl)
  simp only [Tryz.ntmps40, List.size_toArray, List.length_cons, List.length_nil, Nat.reduceAdd, Nat.reduceSub, Array.replicate_succ, Array.replicate_zero, List.push_toArray, List.append_toArray, List.nil_append, List.cons_append]
  go_upto_region 1 with (fail)
  go_cut [7, 8] from 14 to 25 (fun s7 s8 W => Hid (Two w p G.length s7 s8 W))
  case first =>
    go_region_held3 (fun w' => w'.cell? ⟨w.heap.size, 0, none⟩ = some (.pointer (some ⟨p, 0, none⟩)) ∧ w'.cell? ⟨p, 0, none⟩ = some (.slice zA G.length zc)) (simp [*, World.cell?_alloc_past]) (fail)
    all_goals go_wp2_with fail
    all_goals go_meet
    all_goals
      refine Lib.hid (two5 fun W hB a0 a1 a2 a3 a4 => ?_)
      exact ⟨_, _, _, _, rfl, rfl, hB, cell_heap a0, by first | exact cell_heap a1 | exact cell_heap a2 | exact cell_heap a3 | exact cell_heap a4, by first | exact cell_heap a1 | exact cell_heap a2 | exact cell_heap a3 | exact cell_heap a4, by rw [← HMC.out]; first | exact a1 | exact a2 | exact a3 | exact a4, by rw [← HMC.out]; first | exact a1 | exact a2 | exact a3 | exact a4, by omega, by omega, by omega, by omega, by omega, by omega, by omega, by omega, by omega⟩
  case rest =>
    obtain ⟨sb, db, b7, b8, rfl, rfl, hB0, t3, t7, t8, ts, td, n1, n2, n3, n4, n5, n6, n7, n8, n9⟩ := hcut.out
    clear hcut hmk hb2 hb3 hb4 hp1 hp2 hp3 hp4
    rename World => w1
    go_wp2_with (go_at_call 71; refine (backward_at B ord.length cb _).mono ?_; rintro e w' ⟨rfl, rfl⟩)
    have hplc : Places sb db b7 b8 w.heap.size w1.heap.size := by
      have a1 := World.block_lt_of_cell? _ _ t7
      have a2 := World.block_lt_of_cell? _ _ t8
      have a3 := (Array.getElem?_eq_some_iff.1 ts).1
      have a4 := (Array.getElem?_eq_some_iff.1 td).1
      simp only at a1 a2
      exact ⟨n1, n2, n3, n4, n5, by omega, by omega, by omega, by omega⟩
    have hsz1 := hB0.size
    have HPL := Lib.hid hplc
    have HS1 := Lib.hid (show Fit0 lo p sb db b7 b8 w1.heap.size X (.slice zA G.length zc) G root r w 0 (List.replicate G.length 0, List.replicate G.length 0) (w1.alloc (.cells #[.slice B ord.length cb] 30)) from by
      have hg1 := (HG.out.below hB0).alloc (.cells #[.slice B ord.length cb] 30)
      have k := World.grownBy_alloc w1 (.cells #[.slice B ord.length cb] 30) none
      have r1 := row_heap (base := w.heap.size + 1) ts (by omega) hsm
      have r2 := row_heap (base := w.heap.size + 1) td (by omega) hsm
      refine ⟨⟨G, Alike.refl _, HU.out, hg1⟩, fr_alloc (fr_below hB0 _) _, ?_, ?_, ?_, World.ownsRow.kept r1 k (.inr (by simp [Value.ownBlock])), World.ownsRow.kept r2 k (.inr (by simp [Value.ownBlock])), ⟨by simp, by simp, fun v => by rw [rep_get]; omega, fun v => by rw [rep_get]; omega⟩, by simp⟩
      · exact (fr_cell k (p := ⟨w.heap.size, 0, none⟩) (World.block_lt_of_cell? _ _ t3) (by simp)).trans t3
      · exact (fr_cell k (p := ⟨b7, 0, none⟩) (World.block_lt_of_cell? _ _ t7) (by simp)).trans t7
      · exact (fr_cell k (p := ⟨b8, 0, none⟩) (World.block_lt_of_cell? _ _ t8) (by simp)).trans t8)
    obtain ⟨ob, hobw, hob⟩ : ∃ ob, ob < w.heap.size ∧ (0 < ord.length → B = some ⟨ob, 0, none⟩ ∧ (∀ j, j < ord.length → (w1.alloc (.cells #[.slice B ord.length cb] 30)).cell? ⟨ob, j, none⟩ = some (.int .i64 (ord.getD j 0 : Nat)))) := by
      by_cases hz : 0 < ord.length
      · obtain ⟨ob, h1, h2⟩ := (HB.out w (fr_refl _ _)).2.2 hz
        have h3 := (HB.out _ HS1.out.fr).2.2 hz
        obtain ⟨ob', h4, h5⟩ := h3
        rw [h1] at h4
        injection h4 with h4
        injection h4 with h4
        subst h4
        exact ⟨ob, World.block_lt_of_cell? _ _ (h2 0 hz), fun _ => ⟨h1, h5⟩⟩
      · exact ⟨0, by omega, fun h => absurd h hz⟩
    have HOB := Lib.hid hob
    clear t3 t7 t8 ts td n1 n2 n3 n4 n5 n6 n7 n8 n9 hob hplc
    have hlen1 : ord.length ≤ 2500000 := by rw [HALL.out]; exact hsm
    refine wpIn_wide (n := 5).1 ?_
    refine wpIn_rangeFunc_ownG rfl (by decide) (gf := 108) (lb := #[.pointer (some ⟨w1.heap.size, 0, none⟩)]) rfl trivial (enters_of Tryz.func108 (by kernel_rfl) rfl)
      (back_stops (m := G.length) 4 w1.heap.size ob cb B ord HO.out.lt hlen1 (w1.alloc (.cells #[.slice B ord.length cb] 30)) (World.cell?_alloc_at _ _ _ _ rfl) (fun h => HOB.out h))
      Kept2.trans ?keep (Below.refl _ _) (fun _ => rfl)
      (fun pre W => Hid (Fit0 lo p sb db b7 b8 w1.heap.size X (.slice zA G.length zc) G root r w pre.length ((valsP pre).foldl (nodeF G root) (List.replicate G.length 0, List.replicate G.length 0)) W))
      (fun _ _ _ => False) ?own (fun _ _ _ _ _ h _ _ => h) HS1
      (fun x => { tmps := #[.pointer (some ⟨p, 0, none⟩), .slice A bd.length ca, .slice B ord.length cb, .pointer (some ⟨w.heap.size, 0, none⟩), undef, undef, .bool false, .pointer (some ⟨b7, 0, none⟩), .pointer (some ⟨b8, 0, none⟩), undef, .int .i64 ((x.1.2 : Nat) : Int), undef, undef, undef, u14, u15, u16, u17, u18, u19, u20, u21, u22, u23, u24, u25, .slice B ord.length cb, .func (.func 108) #[] #[.pointer (some ⟨w1.heap.size, 0, none⟩)], .int .i64 ((x.1.1 : Nat) : Int), .int .i64 ((x.1.2 : Nat) : Int), undef, undef, undef, undef, undef, undef, undef, undef, undef, undef, undef, undef, undef, undef, undef, undef, undef, undef, undef, undef, undef, undef, undef, undef, undef, undef, undef, undef, undef, undef, undef, undef, undef, undef, undef, undef, undef, undef, undef, undef, undef, undef, undef, undef, undef, undef, undef, undef, undef, undef, undef, undef, undef, undef, undef], defers := [] }) ?assign ?body ?done ?stop
    case keep =>
      intro W l o o' hl _ _ _
      rw [World.size_alloc] at hl
      exact ⟨World.putObj_heap_other (by omega), World.putObj_heap_other (by omega)⟩
    case own =>
      intro pre W W' row h k hr
      refine Lib.hid (h.out.other HG.out HPL.out k fun b hb => ?_)
      have := (hr b hb).1
      rw [World.size_alloc] at this
      omega
    case assign =>
      intro l x W K hK
      gi_wp2
      exact hK
    case body =>
      rintro l pre ⟨⟨xi, xv⟩, hx⟩ W hI hlt
      obtain ⟨hoB, _⟩ := HOB.out (by omega)
      simp only at hx
      have hpn : valsP (pre ++ [(⟨(xi, xv), hx⟩ : Pos G.length)]) = valsP pre ++ [xv] := by simp [valsP]
      have hpl2 : (pre ++ [(⟨(xi, xv), hx⟩ : Pos G.length)]).length = pre.length + 1 := by simp
      have hnode : (valsP pre ++ [xv]).foldl (nodeF G root) (List.replicate G.length 0, List.replicate G.length 0) = nodeF G root ((valsP pre).foldl (nodeF G root) (List.replicate G.length 0, List.replicate G.length 0)) xv := by rw [List.foldl_append]; rfl
      have HPN := Lib.hid (show ∀ W', Fit0 lo p sb db b7 b8 w1.heap.size X (.slice zA G.length zc) G root r w (pre.length + 1) (nodeF G root ((valsP pre).foldl (nodeF G root) (List.replicate G.length 0, List.replicate G.length 0)) xv) W' → Hid (Fit0 lo p sb db b7 b8 w1.heap.size X (.slice zA G.length zc) G root r w (pre ++ [(⟨(xi, xv), hx⟩ : Pos G.length)]).length ((valsP (pre ++ [(⟨(xi, xv), hx⟩ : Pos G.length)])).foldl (nodeF G root) (List.replicate G.length 0, List.replicate G.length 0)) W') from fun W' h => by
        rw [hpl2, hpn, hnode]
        exact h)
      clear hpn hpl2 hnode
      generalize (valsP pre).foldl (nodeF G root) (List.replicate G.length 0, List.replicate G.length 0) = s at *
      generalize pre ++ [(⟨(xi, xv), hx⟩ : Pos G.length)] = pn at *
      generalize hm : pre.length = m at *
      have hmn : m ≤ 2500000 := by omega
      -- the graph's row
      obtain ⟨H, e1, e2, e3⟩ := hI.out.g
      obtain ⟨q, cap, hzz, _⟩ := HG.out.form (by omega)
      injection hzz with hz1 hz3 hz2
      subst hz1 hz2
      clear hz3
      have hqz : q < w.heap.size := (own_lt HG.out.row q rfl).2
      have hp := HPL.out
      have hoq : q ≠ ob := fun e => HBZ.out _ hoB (by rw [e]; rfl)
      have HLS := Lib.hid (show sb < w1.heap.size ∧ sb ≠ ob ∧ db < w1.heap.size ∧ db ≠ ob ∧ q < w1.heap.size ∧ q ≠ ob from ⟨hp.sb.2, by have := hp.sb; omega, hp.db.2, by have := hp.db; omega, by omega, hoq⟩)
      have HL1 := Lib.hid ((Link.refl (Bs := w1.heap.size) (ob := ob) (W := W) (by have := hI.out.big; omega) (by have := hI.out.big; omega)).set (b := sb) (i := xv) (v := .int .i64 1) HLS.out.1 HLS.out.2.1)
      have j1 : p ≠ sb := by have := hp.sb; omega
      have j2 : q ≠ sb := by have := hp.sb; omega
      have j3 : w.heap.size ≠ sb := by have := hp.sb; omega
      have j4 : b7 ≠ sb := Ne.symm hp.s7
      have j5 : b8 ≠ sb := Ne.symm hp.s8
      have HKI := Lib.hid (show ∀ W, w.grownBy W (some q) → IRow W (nd G xv).A (nd G xv).kids (nd G xv).cap from fun W hW => ((HG.out.kids xv hx).fr hW fun b hb _ => .inl hb).at)
      have HKM := Lib.hid (fun c hc => (HCL.out.ok xv hx).mem (c := c) hc)
      have hkl := (HG.out.fine xv hx).kids
      have k3 := hI.out.c3
      have k7 := hI.out.c7
      have kp := e3.hdr
      have d4 := (e3.cells (i := xv) (by rw [e1.len]; exact hx)).2.2.2.2.1
      rw [(e1.tm hx).2.1, (e1.tm hx).2.2.1, (e1.tm hx).2.2.2] at d4
      have s1 := nums_cell hI.out.r1 (v := xv) (by rw [hI.out.ok.l1]; exact hx)
      have s2 := World.ownsRow.frozenAt hI.out.r1 xv
      have HF1 := Lib.hid (hI.out.store1 HG.out HPL.out (i := xv) (v := 1) hI.out.ok.start)
      obtain ⟨lk, hlk⟩ : ∃ l, l = (nd G xv).kids := ⟨_, rfl⟩
      obtain ⟨Ax, hAx⟩ : ∃ l, l = (nd G xv).A := ⟨_, rfl⟩
      obtain ⟨cx, hcx⟩ : ∃ l, l = (nd G xv).cap := ⟨_, rfl⟩
      rw [← hlk, ← hAx, ← hcx] at HKI d4
      rw [← hlk] at HKM hkl
      have HLK := Lib.hid hlk
      have HIB := Lib.hid hI.out
      have hlk9 : lk.length ≤ 9223372036854775807 := by omega
      clear hlk hAx hcx e1 e2 e3 hI hp
      generalize s.1.getD xv 0 = sx at *
      gi_wp2
      gi_loopw [42] (fun s42 wr => ∃ k : Nat, k ≤ lk.length ∧ s42 = .int .i64 (k : Nat) ∧ Hid (Fit0 lo p sb db b7 b8 w1.heap.size X (.slice (some ⟨q, 0, none⟩) G.length zc) G root r w m (kidsF root xv (lk.take k) s) wr) ∧ Hid (Link w1.heap.size ob W wr)) (fun s42 _ => lk.length - (intOf s42).toNat)
      case atStart => exact ⟨0, Nat.zero_le _, rfl, HF1, HL1⟩
      case round =>
        clear HF1 HL1 s1 s2 k3 k7 kp d4
        obtain ⟨k, hk, rfl, HF, HL⟩ := hrel
        by_cases hlk2 : k < lk.length
        · obtain ⟨b, rfl, hb⟩ := (HKI.out wr HF.out.fr).2.2 (by omega)
          have b1 := hb k hlk2
          obtain ⟨c, hc⟩ : ∃ c, c = lk.getD k 0 := ⟨_, rfl⟩
          rw [← hc] at b1
          have hcG : c < G.length := HKM.out c (by rw [hc]; exact nat_getD_mem hlk2)
          obtain ⟨rc, hrc⟩ : ∃ rc, root c = rc := ⟨_, rfl⟩
          have hrl : rc < G.length := by rw [← hrc]; exact (HU.out.root_lt c hcG).1
          obtain ⟨H2, e1, e2, e3⟩ := HF.out.g
          have HQ := Lib.hid (find_to e3 e2 (show c < H2.length by rw [e1.len]; exact hcG) hrc)
          have HE1 := Lib.hid e1
          have k3 := HF.out.c3
          obtain ⟨sn, hsn⟩ : ∃ sn, sn = kidsF root xv (lk.take (k + 1)) s := ⟨_, rfl⟩
          have hsn2 := hsn
          rw [kidsF_next hlk2, ← hc] at hsn2
          obtain ⟨so, hso⟩ : ∃ so, so = kidsF root xv (lk.take k) s := ⟨_, rfl⟩
          rw [← hso] at hsn2 HF
          unfold kidF at hsn2
          rw [hrc] at hsn2
          have HSN := Lib.hid hsn
          have HS2 := Lib.hid hsn2
          clear hb hc hcG hrc e1 e2 e3 hsn hso hsn2
          gi_wp2_with (refine ⟨trivial, ?_⟩; gi_at_call 72; refine (round_calls (HQ.out)).mono ?_; rintro e w3 ⟨H3, rfl, m1, m2, m3, m4, m5⟩)
          have HL3 := Lib.hid (HL.out.gr m4 rfl HLS.out.2.2.2.2.1 HLS.out.2.2.2.2.2)
          have HF3 := Lib.hid (HF.out.call HG.out HPL.out m4 (HE1.out.trans m1) m2 m3)
          have k7 := HF3.out.c7
          have ob1 := HF3.out.ok.b1 xv
          have ob2 := HF3.out.ok.b1 rc
          have s1 := nums_cell HF3.out.r1 (v := xv) (by rw [HF3.out.ok.l1]; exact hx)
          have s2 := nums_cell HF3.out.r1 (v := rc) (by rw [HF3.out.ok.l1]; exact hrl)
          have s3 := World.ownsRow.frozenAt HF3.out.r1 xv
          have hS : w3.drew.cell? ⟨b7, 0, none⟩ = some (.slice (some ⟨sb, 0, none⟩) G.length G.length) := k7
          have hmx : Tryz.prog.follows .mixedOrders = true := by kernel_rfl
          obtain ⟨v1, hv⟩ : ∃ v1, v1 = min (so.1.getD xv 0 + so.1.getD rc 0) 201 := ⟨_, rfl⟩
          have HF4 := Lib.hid (HF3.out.store1 HG.out HPL.out (m' := m) (i := xv) (v := v1) (HF3.out.ok.set1 (by omega))).drew
          obtain ⟨w4, hw4⟩ : ∃ w4, w4 = (w3.setCell ⟨sb, xv, none⟩ (.int .i64 ((v1 : Nat) : Int))).drew := ⟨_, rfl⟩
          rw [← hv] at HS2
          have HW4 := Lib.hid hw4
          have HL4 := Lib.hid (show Link w1.heap.size ob W w4 from by rw [hw4]; exact (HL3.out.set HLS.out.1 HLS.out.2.1).drew)
          generalize so.1.getD xv 0 = a1 at *
          generalize so.1.getD rc 0 = a2 at *
          have hv1 : (if 201 < IntKind.i64.wrap ((a1 : Int) + (a2 : Int)) then (201 : Int) else IntKind.i64.wrap ((a1 : Int) + (a2 : Int))) = ((v1 : Nat) : Int) := by
            rw [show IntKind.i64.wrap ((a1 : Int) + (a2 : Int)) = (a1 : Int) + a2 from by rw [IntKind.wrap_i64]; omega]; split <;> omega
          clear hv hw4 m1 m2 m3 m4 m5 HQ
          refine round_start 14 rfl (fun W' => W'.cell? ⟨b7, 0, none⟩ = some (.slice (some ⟨sb, 0, none⟩) G.length G.length)) hmx (no_defer (by kernel_rfl)) ?_
          refine round_take (i := 0) (dst := some 49) (v := ?_) rfl rfl (by kernel_rfl) (by kernel_rfl) (by kernel_rfl) rfl hS ?_ ?_; rotate_left
          · intro w' hs; go_simp; with_reducible rfl
          go_frame
          refine round_take (i := 1) (dst := some 50) (v := ?_) rfl rfl (by kernel_rfl) (by kernel_rfl) (by kernel_rfl) rfl hS ?_ ?_; rotate_left
          · intro w' hs; go_simp; with_reducible rfl
          go_frame
          refine round_take (i := 2) (dst := some 51) (v := ?_) rfl rfl (by kernel_rfl) (by kernel_rfl) (by kernel_rfl) rfl hS ?_ ?_; rotate_left
          · intro w' hs; go_simp; with_reducible rfl
          go_frame
          refine round_take (i := 3) (dst := some 52) (v := ?_) rfl rfl (by kernel_rfl) (by kernel_rfl) (by kernel_rfl) rfl hS ?_ ?_; rotate_left
          · intro w' hs; go_simp; with_reducible rfl
          go_frame
          refine round_take (i := 4) (dst := some 53) (v := ?_) rfl rfl (by kernel_rfl) (by kernel_rfl) (by kernel_rfl) rfl hS ?_ ?_; rotate_left
          · intro w' hs; go_simp; with_reducible rfl
          go_frame
          refine round_take (i := 6) (dst := some 55) (v := ?_) rfl rfl (by kernel_rfl) (by kernel_rfl) (by kernel_rfl) rfl hS ?_ ?_; rotate_left
          · intro w' hs; go_simp; with_reducible rfl
          go_frame
          refine round_take (i := 7) (dst := some 56) (v := ?_) rfl rfl (by kernel_rfl) (by kernel_rfl) (by kernel_rfl) rfl hS ?_ ?_; rotate_left
          · intro w' hs; go_simp; with_reducible rfl
          go_frame
          refine round_take (i := 8) (dst := some 57) (v := ?_) rfl rfl (by kernel_rfl) (by kernel_rfl) (by kernel_rfl) rfl hS ?_ ?_; rotate_left
          · intro w' hs; go_simp; with_reducible rfl
          go_frame
          refine round_two (i := 5) (k := 9) (by kernel_rfl) ?first ?second
          case' first =>
            refine round_do (dst := some 54) (v := ?_) rfl rfl rfl ?_ hS ?_; rotate_left
            · go_simp; with_reducible rfl
            go_frame
            refine round_one (i := 9) (by kernel_rfl) ?_
            refine round_do (dst := some 58) (v := ?_) rfl rfl rfl ?_ hS ?_; rotate_left
            · go_simp; with_reducible rfl
            go_frame
            refine round_take (i := 10) (dst := some 59) (v := ?_) rfl rfl (by kernel_rfl) (by kernel_rfl) (by kernel_rfl) rfl hS ?_ ?_; rotate_left
            · intro w' hs; go_simp; with_reducible rfl
            go_frame
            refine round_take (i := 11) (dst := some 60) (v := ?_) rfl rfl (by kernel_rfl) (by kernel_rfl) (by kernel_rfl) rfl hS ?_ ?_; rotate_left
            · intro w' hs; go_simp; with_reducible rfl
            go_frame
            refine round_take (i := 12) (dst := some 61) (v := ?_) rfl rfl (by kernel_rfl) (by kernel_rfl) (by kernel_rfl) rfl hS ?_ ?_; rotate_left
            · intro w' hs; go_simp; with_reducible rfl
            go_frame
            refine round_one (i := 13) (by kernel_rfl) ?_
            refine round_skip (w2 := ?_) rfl rfl ?_ ?_ ?_; rotate_left
            · go_simp; with_reducible rfl
            · exact HF4.out.c7
            refine round_end2 HW4.out (by kernel_rfl) ?_
            gi_wp2
          case' second =>
            refine round_do (dst := some 58) (v := ?_) rfl rfl rfl ?_ hS ?_; rotate_left
            · go_simp; with_reducible rfl
            go_frame
            refine round_one (i := 5) (by kernel_rfl) ?_
            refine round_do (dst := some 54) (v := ?_) rfl rfl rfl ?_ hS ?_; rotate_left
            · go_simp; with_reducible rfl
            go_frame
            refine round_take (i := 10) (dst := some 59) (v := ?_) rfl rfl (by kernel_rfl) (by kernel_rfl) (by kernel_rfl) rfl hS ?_ ?_; rotate_left
            · intro w' hs; go_simp; with_reducible rfl
            go_frame
            refine round_take (i := 11) (dst := some 60) (v := ?_) rfl rfl (by kernel_rfl) (by kernel_rfl) (by kernel_rfl) rfl hS ?_ ?_; rotate_left
            · intro w' hs; go_simp; with_reducible rfl
            go_frame
            refine round_take (i := 12) (dst := some 61) (v := ?_) rfl rfl (by kernel_rfl) (by kernel_rfl) (by kernel_rfl) rfl hS ?_ ?_; rotate_left
            · intro w' hs; go_simp; with_reducible rfl
            go_frame
            refine round_one (i := 13) (by kernel_rfl) ?_
            refine round_skip (w2 := ?_) rfl rfl ?_ ?_ ?_; rotate_left
            · go_simp; with_reducible rfl
            · exact HF4.out.c7
            refine round_end2 HW4.out (by kernel_rfl) ?_
            gi_wp2
          all_goals
            clear hv1 hS s1 s2 s3 k7
            have HF4 := Lib.hid (HW4.out ▸ HF4.out)
            have k8 := HF4.out.c8
            have ob3 := HF4.out.ok.b2 xv
            have ob4 := HF4.out.ok.b2 rc
            have s1 := nums_cell HF4.out.r2 (v := xv) (by rw [HF4.out.ok.l2]; exact hx)
            have s2 := nums_cell HF4.out.r2 (v := rc) (by rw [HF4.out.ok.l2]; exact hrl)
            have s3 := World.ownsRow.frozenAt HF4.out.r2 xv
            have hS : w4.drew.cell? ⟨b8, 0, none⟩ = some (.slice (some ⟨db, 0, none⟩) G.length G.length) := k8
            simp only at ob3 ob4 s1 s2
            obtain ⟨v2, hv⟩ : ∃ v2, v2 = max (so.2.getD xv 0) (so.2.getD rc 0) := ⟨_, rfl⟩
            have HF5 := Lib.hid (HF4.out.store2 HG.out HPL.out (m' := m) (i := xv) (v := v2) (HF4.out.ok.set2 (by omega))).drew
            obtain ⟨w5, hw5⟩ : ∃ w5, w5 = (w4.setCell ⟨db, xv, none⟩ (.int .i64 ((v2 : Nat) : Int))).drew := ⟨_, rfl⟩
            rw [← hv] at HS2
            have HW5 := Lib.hid hw5
            have HL5 := Lib.hid (show Link w1.heap.size ob W w5 from by rw [hw5]; exact (HL4.out.set HLS.out.2.2.1 HLS.out.2.2.2.1).drew)
            generalize so.2.getD xv 0 = d1 at *
            generalize so.2.getD rc 0 = d2 at *
            have hv2 : (if d1 < d2 then (d2 : Int) else (d1 : Int)) = ((v2 : Nat) : Int) := by split <;> omega
            have HE := Lib.hid (show Fit0 lo p sb db b7 b8 w1.heap.size X (.slice (some ⟨q, 0, none⟩) G.length zc) G root r w m (kidsF root xv (lk.take (k + 1)) s) w5 from by rw [← HSN.out, HS2.out, HW5.out]; exact HF5.out)
            clear hv hw5
            refine round_start 13 rfl (fun W' => W'.cell? ⟨b8, 0, none⟩ = some (.slice (some ⟨db, 0, none⟩) G.length G.length)) hmx (no_defer (by kernel_rfl)) ?_
            refine round_take (i := 0) (dst := some 62) (v := ?_) rfl rfl (by kernel_rfl) (by kernel_rfl) (by kernel_rfl) rfl hS ?_ ?_; rotate_left
            · intro w' hs; go_simp; with_reducible rfl
            go_frame
            refine round_take (i := 1) (dst := some 63) (v := ?_) rfl rfl (by kernel_rfl) (by kernel_rfl) (by kernel_rfl) rfl hS ?_ ?_; rotate_left
            · intro w' hs; go_simp; with_reducible rfl
            go_frame
            refine round_take (i := 2) (dst := some 64) (v := ?_) rfl rfl (by kernel_rfl) (by kernel_rfl) (by kernel_rfl) rfl hS ?_ ?_; rotate_left
            · intro w' hs; go_simp; with_reducible rfl
            go_frame
            refine round_take (i := 3) (dst := some 65) (v := ?_) rfl rfl (by kernel_rfl) (by kernel_rfl) (by kernel_rfl) rfl hS ?_ ?_; rotate_left
            · intro w' hs; go_simp; with_reducible rfl
            go_frame
            refine round_take (i := 4) (dst := some 66) (v := ?_) rfl rfl (by kernel_rfl) (by kernel_rfl) (by kernel_rfl) rfl hS ?_ ?_; rotate_left
            · intro w' hs; go_simp; with_reducible rfl
            go_frame
            refine round_take (i := 6) (dst := some 68) (v := ?_) rfl rfl (by kernel_rfl) (by kernel_rfl) (by kernel_rfl) rfl hS ?_ ?_; rotate_left
            · intro w' hs; go_simp; with_reducible rfl
            go_frame
            refine round_take (i := 7) (dst := some 69) (v := ?_) rfl rfl (by kernel_rfl) (by kernel_rfl) (by kernel_rfl) rfl hS ?_ ?_; rotate_left
            · intro w' hs; go_simp; with_reducible rfl
            go_frame
            refine round_take (i := 8) (dst := some 70) (v := ?_) rfl rfl (by kernel_rfl) (by kernel_rfl) (by kernel_rfl) rfl hS ?_ ?_; rotate_left
            · intro w' hs; go_simp; with_reducible rfl
            go_frame
            refine round_two (i := 5) (k := 9) (by kernel_rfl) ?_ ?_
            · refine round_do (dst := some 67) (v := ?_) rfl rfl rfl ?_ hS ?_; rotate_left
              · go_simp; with_reducible rfl
              go_frame
              refine round_one (i := 9) (by kernel_rfl) ?_
              refine round_do (dst := some 71) (v := ?_) rfl rfl rfl ?_ hS ?_; rotate_left
              · go_simp; with_reducible rfl
              go_frame
              refine round_take (i := 10) (dst := some 72) (v := ?_) rfl rfl (by kernel_rfl) (by kernel_rfl) (by kernel_rfl) rfl hS ?_ ?_; rotate_left
              · intro w' hs; go_simp; with_reducible rfl
              go_frame
              refine round_take (i := 11) (dst := some 73) (v := ?_) rfl rfl (by kernel_rfl) (by kernel_rfl) (by kernel_rfl) rfl hS ?_ ?_; rotate_left
              · intro w' hs; go_simp; with_reducible rfl
              go_frame
              refine round_one (i := 12) (by kernel_rfl) ?_
              refine round_skip (w2 := ?_) rfl rfl ?_ ?_ ?_; rotate_left
              · go_simp; with_reducible rfl
              · exact HF5.out.c8
              refine round_end2 HW5.out (by kernel_rfl) ?_
              gi_wp2
              go_roundw
              case rel => exact ⟨k + 1, by omega, by go_num, HE, HL5⟩
              case measure => simp [intOf]; omega
            · refine round_do (dst := some 71) (v := ?_) rfl rfl rfl ?_ hS ?_; rotate_left
              · go_simp; with_reducible rfl
              go_frame
              refine round_one (i := 5) (by kernel_rfl) ?_
              refine round_do (dst := some 67) (v := ?_) rfl rfl rfl ?_ hS ?_; rotate_left
              · go_simp; with_reducible rfl
              go_frame
              refine round_take (i := 10) (dst := some 72) (v := ?_) rfl rfl (by kernel_rfl) (by kernel_rfl) (by kernel_rfl) rfl hS ?_ ?_; rotate_left
              · intro w' hs; go_simp; with_reducible rfl
              go_frame
              refine round_take (i := 11) (dst := some 73) (v := ?_) rfl rfl (by kernel_rfl) (by kernel_rfl) (by kernel_rfl) rfl hS ?_ ?_; rotate_left
              · intro w' hs; go_simp; with_reducible rfl
              go_frame
              refine round_one (i := 12) (by kernel_rfl) ?_
              refine round_skip (w2 := ?_) rfl rfl ?_ ?_ ?_; rotate_left
              · go_simp; with_reducible rfl
              · exact HF5.out.c8
              refine round_end2 HW5.out (by kernel_rfl) ?_
              gi_wp2
              go_roundw
              case rel => exact ⟨k + 1, by omega, by go_num, HE, HL5⟩
              case measure => simp [intOf]; omega
        · obtain rfl : k = lk.length := by omega
          have HF6 := HF.out
          rw [List.take_length] at HF6
          have k8 := HF6.c8
          have ob4 := HF6.ok.b2 xv
          have s1 := nums_cell HF6.r2 (v := xv) (by rw [HF6.ok.l2]; exact hx)
          have s3 := World.ownsRow.frozenAt HF6.r2 xv
          have HF7 := Lib.hid (HF6.store2 HG.out HPL.out (m' := m + 1) (i := xv) (v := (kidsF root xv lk s).2.getD xv 0 + 1) (HF6.ok.set2 (by omega) (by omega)))
          have HE := Lib.hid (show Fit0 lo p sb db b7 b8 w1.heap.size X (.slice (some ⟨q, 0, none⟩) G.length zc) G root r w (m + 1) (nodeF G root s xv) (wr.setCell ⟨db, xv, none⟩ (.int .i64 (((kidsF root xv lk s).2.getD xv 0 + 1 : Nat) : Int))) from by
            have h9 := HF7.out
            unfold nodeF deepF
            rw [← HLK.out]
            exact h9)
          have HL6 := Lib.hid (HL.out.set (i := xv) (v := .int .i64 (((kidsF root xv lk s).2.getD xv 0 + 1 : Nat) : Int)) HLS.out.2.2.1 HLS.out.2.2.2.1)
          clear HF HF6 HF7
          generalize hdx : (kidsF root xv lk s).2.getD xv 0 = dx at *
          clear hdx
          have hdi : ((dx : Int) + 1) = ((dx + 1 : Nat) : Int) := by omega
          have HDI := Lib.hid hdi
          clear hdi
          gi_wp2
          rw [HDI.out]
          exact ⟨by rw [World.size_alloc]; exact HL6.out.1, HL6.out.2.1, HPN.out _ HE.out⟩
    case done =>
      rintro D' xs W hD hxs hI hK
      rw [World.size_alloc] at hD
      rw [hxs] at hI
      have hsum : (!(bd.any (tooBig root (ord.reverse.foldl (nodeF G root) (List.replicate G.length 0, List.replicate G.length 0))))) = bd.all fun i => decide ((sol G root D i).size ≤ 200) && decide ((sol G root D i).depth ≤ 20) := by
        refine all_any bd fun i hi => ?_
        have hil := HBD.out i hi
        have hroot := (HCL.out.lt i hil)
        have hmem := (pigeon _ _ HO.out.nodup HO.out.lt).2 HALL.out (root i) hroot
        obtain ⟨v1, v2⟩ := fit_all HO.out HALL.out (fun i hi => HCL.out.lt i hi) HCL.out.ok (sol_size HCL.out HRK.out) HS1.out.ok ord [] rfl (root i) hmem
        obtain ⟨z1, z2⟩ := sol_size HCL.out HRK.out i hil
        unfold tooBig
        rw [v1, v2, ← z1, ← z2]
        generalize (sol G root D i).size = a
        generalize (sol G root D i).depth = d
        have e1 : decide (200 < min a 201) = !decide (a ≤ 200) := by rw [Bool.eq_iff_iff]; simp; omega
        have e2 : decide (20 < d) = !decide (d ≤ 20) := by rw [Bool.eq_iff_iff]; simp
        rw [e1, e2, Bool.not_and]
      have HSUM := Lib.hid hsum
      have HQ := Lib.hid (contains_fit_at hI.out HG.out HU.out HPL.out HBD.out HA.out)
      have HZL := Lib.hid (fun b e => (own_lt HG.out.row b e).2)
      clear hxs hI hsum
      generalize ord.reverse.foldl (nodeF G root) (List.replicate G.length 0, List.replicate G.length 0) = s at *
      unfold fitFV at HQ
      go_wp2_with (go_at_call 59; refine (HQ.out).mono ?_; rintro e w3 ⟨rfl, g1, g2⟩; have H1 := Lib.hid (And.intro g1 g2); clear g1 g2)
      have hK3 : w3.heap[D']? = some (.deferred (some [])) := (H1.out.2.block D' (Array.getElem?_eq_some_iff.1 hK).1 (fun e => by have := HZL.out D' e.symm; omega)).trans hK
      have HF := H1.out.1.other HG.out HPL.out (grownBy_putObj' w3 D' (.deferred none)) (fun b e => by injection e with e; omega)
      refine ⟨by simp, .inl ⟨_, _, rfl, run_takeDeferred hK3, ?_⟩⟩
      obtain ⟨H, f1, f2, f3⟩ := HF.g
      exact ⟨_, results_tmp rfl _ _ _, H, by rw [← HSUM.out]; rfl, f1, f2, f3, HF.fr⟩
    case stop =>
      rintro D' c pre W _ _ h _
      exact h.elim
end Go.Proofs.YtelkmnjoboekmaaGreat
