/-
  Contract of slices.Backward at a list of numbers.
  What fit of the program holds in memory.
  Contracts of fit's test of one node, and of slices.ContainsFunc at numbers with it.
-/
import Derived.RangeFuncNested
import Derived.RangeFuncBound
import Derived.RangeFuncCalls
import Derived.RangeFuncLeaves
import Derived.Shelf.Abstract
import Derived.Shelf.RegionOpen
import Derived.WalkKit
import Derived.OwnWalkIn
import Derived.TacticsInMore
import Derived.LoopNIn
import Derived.LoopIn
import Derived.Test.YtdjbigfobodecaaMk5
import Derived.Test.YtdjbigfobodecaaMk12
import Derived.Test.YtdjbigfobodecaaMk6
import Derived.Test.YtdjbigfobodecaaMk9
import Derived.Deep.RegionHeld3
import Derived.Deep.Cut
import Derived.Deep.CutRange
namespace Go.Proofs.Ytdjbigfobodecaa
open Go.RowKit Go.Shelf
attribute [local go_sem] Oper.semAt_some

/-- An index and a number below m. -/
abbrev Pos (m : Nat) := { t : Nat × Nat // t.2 < m }
abbrev encP {m : Nat} (x : Pos m) : Array Value := #[.int .i64 ((x.1.1 : Nat) : Int), .int .i64 ((x.1.2 : Nat) : Int)]
def Kept2 (b c : Nat) (A B : World) : Prop := B.heap[b]? = A.heap[b]? ∧ B.heap[c]? = A.heap[c]?
theorem Kept2.trans {b c : Nat} {X Y Z : World} (h : Kept2 b c X Y) (k : Kept2 b c Y Z) : Kept2 b c X Z := ⟨k.1.trans h.1, k.2.trans h.2⟩
theorem Kept2.refl (b c : Nat) (X : World) : Kept2 b c X X := ⟨rfl, rfl⟩
theorem cell_same {A B : World} {p : Addr} (h : B.heap[p.block]? = A.heap[p.block]?) : B.cell? p = A.cell? p := by
  unfold World.cell?
  rw [h]
def valsP {m : Nat} (l : List (Pos m)) : List Nat := l.map fun x => x.1.2

set_option maxHeartbeats 1000000 in
theorem backward_at (A : Option Addr) (N c : Nat) (w : World) : Calls Try.prog 48 #[.slice A N c] w fun e w' => e = .returned (.func (.func 75) #[] #[.pointer (some ⟨w.heap.size, 0, none⟩)]) ∧ w' = w.alloc (.cells #[.slice A N c] 49) := by
  go_enter Try.func48, Try.ntmps48
  go_wp2_with fail
  go_ret
  exact ⟨rfl, rfl⟩

set_option maxRecDepth 100000 in
set_option maxHeartbeats 2000000 in
theorem back_in {m : Nat} (n l Bs ob c : Nat) (A : Option Addr) (ord : List Nat) (hlt : ∀ i ∈ ord, i < m) (hlen : ord.length ≤ 1000000) (J Jx : List (Pos m) → World → Prop)
    (hY : ∀ pre x W, J pre W → pre.length < ord.length → YieldAt Fence.wide (n - 1) Try.prog l (encP x) W fun e W' =>
      (e = .returned (.bool true) ∧ J (pre ++ [x]) W' ∧ Kept2 Bs ob W W') ∨ (e = .returned (.bool false) ∧ Jx (pre ++ [x]) W'))
    (W : World) (hBs : W.cell? ⟨Bs, 0, none⟩ = some (.slice A ord.length c)) (hc : 0 < ord.length → A = some ⟨ob, 0, none⟩ ∧ ∀ j, j < ord.length → W.cell? ⟨ob, j, none⟩ = some (.int .i64 (ord.getD j 0 : Nat))) (h0 : J [] W) :
    CallsIn Fence.wide n Try.prog 75 #[.func (.yield l) #[] #[], .pointer (some ⟨Bs, 0, none⟩)] W fun e W' => (∃ v, e = .returned v) ∧
      ((∃ ys, valsP ys = ord.reverse ∧ J ys W') ∨ (∃ pre, True ∧ Jx pre W')) := by
  have HC := Lib.hid hc
  have HL := Lib.hid hlt
  clear hc hlt
  refine callsIn_of_wp Try.func75 rfl trivial ?_ rfl
  simp only [Try.ntmps75, List.size_toArray, List.length_cons, List.length_nil, Nat.reduceAdd, Nat.reduceSub, Array.replicate_succ, Array.replicate_zero, List.push_toArray, List.append_toArray, List.nil_append, List.cons_append]
  gi_wp2
  gi_loopw [3] (fun s3 wr => ∃ (k : Nat) (pre : List (Pos m)), k ≤ ord.length ∧ s3 = .int .i64 ((ord.length : Int) - 1 - k) ∧ Hid (pre.length = k ∧ valsP pre = ord.reverse.take k ∧ J pre wr ∧ Kept2 Bs ob W wr)) (fun s3 _ => (intOf s3 + 1).toNat)
  case atStart =>
    exact ⟨0, [], Nat.zero_le _, by go_num, Lib.hid ⟨rfl, by simp [valsP], h0, Kept2.refl _ _ _⟩⟩
  case round =>
    obtain ⟨k, pre, hk, rfl, HJ⟩ := hrel
    by_cases hlt : k < ord.length
    · obtain ⟨rfl, hcs⟩ := HC.out (by omega)
      obtain ⟨j, hj⟩ : ∃ j : Nat, j = ord.length - 1 - k := ⟨_, rfl⟩
      have hje : ((ord.length : Int) - 1 - k) = (j : Nat) := by omega
      rw [hje] at *
      have hb1 := (cell_same (p := ⟨Bs, 0, none⟩) HJ.out.2.2.2.1).trans hBs
      have hb2 := (cell_same (p := ⟨ob, j, none⟩) HJ.out.2.2.2.2).trans (hcs j (by omega))
      have hmem : ord.getD j 0 < m := HL.out _ (by simp only [List.getD, List.getElem?_eq_getElem (show j < ord.length by omega), Option.getD_some]; exact List.getElem_mem _)
      obtain ⟨fn, tmps, assign, body, hy, hR⟩ := hY pre ⟨(j, ord.getD j 0), hmem⟩ wr HJ.out.2.2.1 (by rw [HJ.out.1]; exact hlt)
      have hjl : j < ord.length := by omega
      have hNX := Lib.hid (show valsP (pre ++ [(⟨(j, ord.getD j 0), hmem⟩ : Pos m)]) = ord.reverse.take (k + 1) from by
        have h1 := HJ.out.2.1
        unfold valsP at h1 ⊢
        rw [List.map_append, h1, List.take_succ_eq_append_getElem (by rw [List.length_reverse]; exact hlt)]
        simp only [List.map_cons, List.map_nil, List.getElem_reverse]
        rw [show ord[ord.length - 1 - k] = ord.getD j 0 from by simp [List.getD, hj, show ord.length - 1 - k < ord.length by omega]])
      have hpl := HJ.out.1
      have hKP := Lib.hid HJ.out.2.2.2
      obtain ⟨pn, hpn⟩ : ∃ pn, pn = pre ++ [(⟨(j, ord.getD j 0), hmem⟩ : Pos m)] := ⟨_, rfl⟩
      have hpnl : pn.length = k + 1 := by rw [hpn, List.length_append, hpl]; rfl
      rw [← hpn] at hNX hR
      have HJ2 := Lib.hid (show j + 1 + k = ord.length from by omega)
      have hmz : m = m := rfl
      clear HJ hpn hcs hj hje hmz
      generalize ord.getD j 0 = oj at *
      gi_wp2
      refine ⟨fun h => (by cases h), hR.mono ?_⟩
      rintro e W3 (⟨rfl, hJ3, hk3⟩ | ⟨rfl, hJx3⟩)
      · have HE := Lib.hid (show pn.length = k + 1 ∧ valsP pn = ord.reverse.take (k + 1) ∧ J pn W3 ∧ Kept2 Bs ob W W3 from ⟨hpnl, hNX.out, hJ3, hKP.out.trans hk3⟩)
        clear hJ3 hk3 hNX hKP
        gi_wp2
        go_roundw
        case rel => exact ⟨k + 1, pn, by omega, by have := HJ2.out; congr 1; omega, HE⟩
        case measure => have := HJ2.out; simp [intOf]
      · gi_wp2
        refine bodyPost_ret (results_none rfl _ _ _) rfl ?_
        exact ⟨⟨_, rfl⟩, .inr ⟨_, trivial, hJx3⟩⟩
    · obtain rfl : k = ord.length := by omega
      have HE := Lib.hid (show valsP pre = ord.reverse ∧ J pre wr from ⟨by have := HJ.out.2.1; rwa [show ord.length = ord.reverse.length from by simp, List.take_length] at this, HJ.out.2.2.1⟩)
      clear HJ
      gi_wp2
      go_end0
      exact ⟨⟨_, rfl⟩, .inl ⟨pre, HE.out⟩⟩
theorem back_stops {m : Nat} (n Bs ob c : Nat) (A : Option Addr) (ord : List Nat) (hlt : ∀ i ∈ ord, i < m) (hlen : ord.length ≤ 1000000) (w : World) (hBs : w.cell? ⟨Bs, 0, none⟩ = some (.slice A ord.length c))
    (hc : 0 < ord.length → A = some ⟨ob, 0, none⟩ ∧ ∀ j, j < ord.length → w.cell? ⟨ob, j, none⟩ = some (.int .i64 (ord.getD j 0 : Nat))) :
    SeqStopsK Fence.wide n Try.prog 75 #[.pointer (some ⟨Bs, 0, none⟩)] (encP (m := m)) (Kept2 Bs ob) (fun xs => valsP xs = ord.reverse) (fun _ => True) ord.length w := fun l J Jx W hW _ _ hY h0 => by
  refine back_in n l Bs ob c A ord hlt hlen J Jx hY W ((hW.cell (World.block_lt_of_cell? _ _ hBs)).trans hBs) (fun h => ⟨(hc h).1, fun j hj => ?_⟩) h0
  have h1 := (hc h).2 j hj
  exact (hW.cell (World.block_lt_of_cell? _ _ h1)).trans h1
end Go.Proofs.Ytdjbigfobodecaa
namespace Go.Proofs.Ytdjbigfobodecaa
open Go.RowKit
attribute [local go_sem] Oper.semAt_some

theorem make_nums (n : Nat) (hn : n ≤ 1000000) (W : World) :
    (Instr.makeSlice 49 (.int .i64 (n : Int)) (.int .i64 (n : Int))).run Try.prog W = .ok (.slice (some ⟨W.heap.size, 0, none⟩) n n) (W.alloc (.cells (madeCells (Value.int .i64 0).cells (n * 1)) 3)) := by
  obtain ⟨i0, hi0, hz0, hz1, hz2⟩ := info_parts int_info
  have h := run_makeSlice (P := Try.prog) (w := W) 49 3 i0 _ Try.underlying49 hi0 hz0 .i64 .i64 n n (by omega) (Int.le_refl _) (by rw [hz1]; omega) (by rw [hz2]; omega) (by omega)
  rw [h, hz1, Int.toNat_natCast]

/-- The two rows and their boxes. -/
def Two (w : World) (p n : Nat) (v7 v8 : Value) (W : World) : Prop :=
  ∃ sb db b7 b8 : Nat, v7 = .pointer (some ⟨b7, 0, none⟩) ∧ v8 = .pointer (some ⟨b8, 0, none⟩) ∧ Below w.heap.size w W ∧ W.cell? ⟨w.heap.size, 0, none⟩ = some (.pointer (some ⟨p, 0, none⟩)) ∧
    W.cell? ⟨b7, 0, none⟩ = some (.slice (some ⟨sb, 0, none⟩) n n) ∧ W.cell? ⟨b8, 0, none⟩ = some (.slice (some ⟨db, 0, none⟩) n n) ∧
    W.heap[sb]? = some (.cells (madeCells (Value.int .i64 0).cells (n * 1)) 3) ∧ W.heap[db]? = some (.cells (madeCells (Value.int .i64 0).cells (n * 1)) 3) ∧
    sb ≠ db ∧ sb ≠ b7 ∧ sb ≠ b8 ∧ db ≠ b7 ∧ db ≠ b8 ∧ w.heap.size < b7 ∧ w.heap.size < b8 ∧ w.heap.size < sb ∧ w.heap.size < db

theorem cell_heap {W : World} {b : Nat} {v : Value} {T : TypeId} (h : W.heap[b]? = some (.cells #[v] T)) : W.cell? ⟨b, 0, none⟩ = some v := by
  unfold World.cell?
  simp [h]
theorem two5 {w : World} {p n : Nat} {v7 v8 : Value} {o0 o1 o2 o3 o4 : Obj} (f : ∀ W : World, Below w.heap.size w W → W.heap[w.heap.size]? = some o0 → W.heap[w.heap.size + 1]? = some o1 → W.heap[w.heap.size + 1 + 1]? = some o2 → W.heap[w.heap.size + 1 + 1 + 1]? = some o3 → W.heap[w.heap.size + 1 + 1 + 1 + 1]? = some o4 → Two w p n v7 v8 W) :
    Two w p n v7 v8 (((((w.alloc o0).alloc o1).alloc o2).alloc o3).alloc o4).drew := by
  refine f _ ?_ ?_ ?_ ?_ ?_ ?_
  · exact (((((Below.refl _ w).alloc (Nat.le_refl _) _).alloc (by simp) _).alloc (by simp; omega) _).alloc (by simp; omega) _).alloc (by simp; omega) _ |>.drew
  · exact (Below.heap_alloc _ _ _ (by simp <;> omega)).trans ((Below.heap_alloc _ _ _ (by simp <;> omega)).trans ((Below.heap_alloc _ _ _ (by simp <;> omega)).trans ((Below.heap_alloc _ _ _ (by simp <;> omega)).trans (World.alloc_heap_new w _))))
  · exact (Below.heap_alloc _ _ _ (by simp <;> omega)).trans ((Below.heap_alloc _ _ _ (by simp <;> omega)).trans ((Below.heap_alloc _ _ _ (by simp <;> omega)).trans (by have := World.alloc_heap_new (w.alloc o0) o1; simpa using this)))
  · exact (Below.heap_alloc _ _ _ (by simp <;> omega)).trans ((Below.heap_alloc _ _ _ (by simp <;> omega)).trans (by have := World.alloc_heap_new ((w.alloc o0).alloc o1) o2; simpa using this))
  · exact (Below.heap_alloc _ _ _ (by simp <;> omega)).trans (by have := World.alloc_heap_new (((w.alloc o0).alloc o1).alloc o2) o3; simpa using this)
  · have := World.alloc_heap_new ((((w.alloc o0).alloc o1).alloc o2).alloc o3) o4
    rw [World.size_alloc, World.size_alloc, World.size_alloc, World.size_alloc] at this
    exact this

theorem row_heap {W : World} {g n base : Nat} (h : W.heap[g]? = some (.cells (madeCells (Value.int .i64 0).cells (n * 1)) 3)) (hb : base ≤ g) (hn : n ≤ 1000000) : W.ownsRow base 3 1 (.slice (some ⟨g, 0, none⟩) n n) n (nums (List.replicate n 0)) := by
  have h1 := made_nums n
  refine ⟨by simp, .inr ⟨g, n, _, rfl, hb, h, Nat.le_refl _, by unfold maxLen; omega, ?_, ?_⟩⟩
  · have := congrArg List.length h1
    simpa using this
  · rw [h1]
    exact List.take_of_length_le (by simp)
theorem rep_get (n v : Nat) : (List.replicate n 0).getD v 0 = 0 := by
  by_cases h : v < n
  · simp [List.getD, h]
  · simp [List.getD, List.getElem?_eq_none_iff.2 (show (List.replicate n 0).length ≤ v by simp; omega)]
/-- Two rows of the call's own, s.1 in block sb and s.2 in block db, beside the graph. -/
structure Fit0 (lo p sb db b7 b8 Bw : Nat) (X : Nat → Prop) (z : Value) (G : List Nd) (root r : Nat → Nat) (w : World) (m : Nat) (s : FS) (W : World) : Prop where
  g : ∃ H, Alike G H ∧ UF H root r ∧ Gph lo X W p z H
  fr : w.grownBy W z.ownBlock
  c3 : W.cell? ⟨w.heap.size, 0, none⟩ = some (.pointer (some ⟨p, 0, none⟩))
  c7 : W.cell? ⟨b7, 0, none⟩ = some (.slice (some ⟨sb, 0, none⟩) G.length G.length)
  c8 : W.cell? ⟨b8, 0, none⟩ = some (.slice (some ⟨db, 0, none⟩) G.length G.length)
  r1 : W.ownsRow (w.heap.size + 1) 3 1 (.slice (some ⟨sb, 0, none⟩) G.length G.length) G.length (nums s.1)
  r2 : W.ownsRow (w.heap.size + 1) 3 1 (.slice (some ⟨db, 0, none⟩) G.length G.length) G.length (nums s.2)
  ok : FOk G.length m s
  big : Bw + 1 ≤ W.heap.size
/-- Where the blocks lie. -/
structure Places (sb db b7 b8 B Bw : Nat) : Prop where
  sd : sb ≠ db
  s7 : sb ≠ b7
  s8 : sb ≠ b8
  d7 : db ≠ b7
  d8 : db ≠ b8
  b7 : B < b7 ∧ b7 < Bw
  b8 : B < b8 ∧ b8 < Bw
  sb : B < sb ∧ sb < Bw
  db : B < db ∧ db < Bw
section
variable {lo p sb db b7 b8 Bw m : Nat} {X : Nat → Prop} {z : Value} {G : List Nd} {root r : Nat → Nat} {w W W' : World} {s : FS}
theorem own_none {v : Value} {b base n e sz : Nat} {xs : List Value} (h : W.ownsRow base e sz v n xs) (hb : b < base) : v.ownBlock = none ∨ v.ownBlock ≠ some b := by
  cases hv : v.ownBlock with
  | none => exact .inl rfl
  | some c => refine .inr fun e => ?_; have := (own_lt h c hv).1; injection e with e; omega
/-- A change of another block, that is new. -/
theorem Fit0.other {row : Option Nat} (h : Fit0 lo p sb db b7 b8 Bw X z G root r w m s W) (h0 : Gph lo X w p z G) (hp : Places sb db b7 b8 w.heap.size Bw) (k : W.grownBy W' row) (hr : ∀ b, row = some b → Bw ≤ b) : Fit0 lo p sb db b7 b8 Bw X z G root r w m s W' := by
  have hsz := h.fr.size
  have hne : ∀ b, b < Bw → some b ≠ row := fun b hb e => by have := hr b e.symm; omega
  have hzl : ∀ b, z.ownBlock = some b → b < w.heap.size := fun b e => (own_lt h0.row b e).2
  have hBw : w.heap.size < Bw := by have := hp.b7; omega
  have hfr : w.grownBy W' z.ownBlock := fr_grow h.fr k fun b e => by have := hr b e; omega
  obtain ⟨H, h1, h2, h3⟩ := h.g
  have hz : z.ownBlock = none ∨ z.ownBlock ≠ row := by
    cases hz : z.ownBlock with
    | none => exact .inl rfl
    | some b => exact .inr (hne b (by have := hzl b hz; omega))
  refine ⟨⟨H, h1, h2, Gph.renew h0 h1 h3 hfr k hz⟩, hfr, ?_, ?_, ?_, World.ownsRow.kept h.r1 k (.inr (hne sb hp.sb.2)), World.ownsRow.kept h.r2 k (.inr (hne db hp.db.2)), h.ok, Nat.le_trans h.big k.size⟩
  · exact (fr_cell k (p := ⟨w.heap.size, 0, none⟩) (World.block_lt_of_cell? _ _ h.c3) (hne _ hBw)).trans h.c3
  · exact (fr_cell k (p := ⟨b7, 0, none⟩) (World.block_lt_of_cell? _ _ h.c7) (hne _ hp.b7.2)).trans h.c7
  · exact (fr_cell k (p := ⟨b8, 0, none⟩) (World.block_lt_of_cell? _ _ h.c8) (hne _ hp.b8.2)).trans h.c8
/-- A call that changes the graph alone. -/
theorem Fit0.call {H2 : List Nd} (h : Fit0 lo p sb db b7 b8 Bw X z G root r w m s W) (h0 : Gph lo X w p z G) (hp : Places sb db b7 b8 w.heap.size Bw) (k : W.grownBy W' z.ownBlock) (e1 : Alike G H2) (e2 : UF H2 root r) (e3 : Gph lo X W' p z H2) : Fit0 lo p sb db b7 b8 Bw X z G root r w m s W' := by
  have hzl : ∀ b, z.ownBlock = some b → b < w.heap.size := fun b e => (own_lt h0.row b e).2
  have hne : ∀ b, w.heap.size ≤ b → some b ≠ z.ownBlock := fun b hb e => by have := hzl b e.symm; omega
  refine ⟨⟨H2, e1, e2, e3⟩, fr_trans h.fr k, ?_, ?_, ?_, World.ownsRow.kept h.r1 k (.inr (hne sb (by have := hp.sb; omega))), World.ownsRow.kept h.r2 k (.inr (hne db (by have := hp.db; omega))), h.ok, Nat.le_trans h.big k.size⟩
  · exact (fr_cell k (p := ⟨w.heap.size, 0, none⟩) (World.block_lt_of_cell? _ _ h.c3) (hne _ (Nat.le_refl _))).trans h.c3
  · exact (fr_cell k (p := ⟨b7, 0, none⟩) (World.block_lt_of_cell? _ _ h.c7) (hne b7 (by have := hp.b7; omega))).trans h.c7
  · exact (fr_cell k (p := ⟨b8, 0, none⟩) (World.block_lt_of_cell? _ _ h.c8) (hne b8 (by have := hp.b8; omega))).trans h.c8
theorem Fit0.drew (h : Fit0 lo p sb db b7 b8 Bw X z G root r w m s W) : Fit0 lo p sb db b7 b8 Bw X z G root r w m s W.drew := by
  obtain ⟨H, h1, h2, h3⟩ := h.g
  exact ⟨⟨H, h1, h2, h3.drew⟩, fr_drew h.fr, h.c3, h.c7, h.c8, World.ownsRow.drew h.r1, World.ownsRow.drew h.r2, h.ok, h.big⟩
/-- A store into a row. -/
theorem Fit0.store1 (h : Fit0 lo p sb db b7 b8 Bw X z G root r w m s W) (h0 : Gph lo X w p z G) (hp : Places sb db b7 b8 w.heap.size Bw) {m' i v : Nat} (hok : FOk G.length m' (s.1.set i v, s.2)) : Fit0 lo p sb db b7 b8 Bw X z G root r w m' (s.1.set i v, s.2) (W.setCell ⟨sb, i, none⟩ (.int .i64 (v : Nat))) := by
  have k : W.grownBy (W.setCell ⟨sb, i, none⟩ (.int .i64 (v : Nat))) (some sb) := fr_set (fr_refl _ _) rfl _
  obtain ⟨g1, g2⟩ := own_store h0 h.g h.fr (show w.heap.size ≤ sb by have := hp.sb; omega) i (.int .i64 (v : Nat))
  have hB := hp.sb
  refine ⟨g1, g2, ?_, ?_, ?_, nums_set h.r1 i v, World.ownsRow.kept h.r2 k (.inr (fun e => hp.sd (by injection e with e; exact e.symm))), hok, Nat.le_trans h.big k.size⟩
  · exact (fr_cell k (p := ⟨w.heap.size, 0, none⟩) (World.block_lt_of_cell? _ _ h.c3) (fun e => by injection e with e; simp at e; omega)).trans h.c3
  · exact (fr_cell k (p := ⟨b7, 0, none⟩) (World.block_lt_of_cell? _ _ h.c7) (fun e => hp.s7 (by injection e with e; exact e.symm))).trans h.c7
  · exact (fr_cell k (p := ⟨b8, 0, none⟩) (World.block_lt_of_cell? _ _ h.c8) (fun e => hp.s8 (by injection e with e; exact e.symm))).trans h.c8
theorem Fit0.store2 (h : Fit0 lo p sb db b7 b8 Bw X z G root r w m s W) (h0 : Gph lo X w p z G) (hp : Places sb db b7 b8 w.heap.size Bw) {m' i v : Nat} (hok : FOk G.length m' (s.1, s.2.set i v)) : Fit0 lo p sb db b7 b8 Bw X z G root r w m' (s.1, s.2.set i v) (W.setCell ⟨db, i, none⟩ (.int .i64 (v : Nat))) := by
  have k : W.grownBy (W.setCell ⟨db, i, none⟩ (.int .i64 (v : Nat))) (some db) := fr_set (fr_refl _ _) rfl _
  obtain ⟨g1, g2⟩ := own_store h0 h.g h.fr (show w.heap.size ≤ db by have := hp.db; omega) i (.int .i64 (v : Nat))
  have hB := hp.db
  refine ⟨g1, g2, ?_, ?_, ?_, World.ownsRow.kept h.r1 k (.inr (fun e => hp.sd (by injection e with e))), nums_set h.r2 i v, hok, Nat.le_trans h.big k.size⟩
  · exact (fr_cell k (p := ⟨w.heap.size, 0, none⟩) (World.block_lt_of_cell? _ _ h.c3) (fun e => by injection e with e; simp at e; omega)).trans h.c3
  · exact (fr_cell k (p := ⟨b7, 0, none⟩) (World.block_lt_of_cell? _ _ h.c7) (fun e => hp.d7 (by injection e with e; exact e.symm))).trans h.c7
  · exact (fr_cell k (p := ⟨b8, 0, none⟩) (World.block_lt_of_cell? _ _ h.c8) (fun e => hp.d8 (by injection e with e; exact e.symm))).trans h.c8
end

/-- What a round leaves as it was. -/
def Link (Bs ob : Nat) (W W' : World) : Prop := KeepsFrom (Bs + 1) W W' ∧ Kept2 Bs ob W W' ∧ Bs < W'.heap.size ∧ ob < W'.heap.size
theorem Link.refl {Bs ob : Nat} {W : World} (h1 : Bs < W.heap.size) (h2 : ob < W.heap.size) : Link Bs ob W W := ⟨KeepsFrom.refl _ _, Kept2.refl _ _ _, h1, h2⟩
theorem Link.gr {Bs ob b : Nat} {W wr w3 : World} {row : Option Nat} (h : Link Bs ob W wr) (k : wr.grownBy w3 row) (he : row = some b) (hb : b < Bs) (ho : b ≠ ob) : Link Bs ob W w3 := by
  subst he
  obtain ⟨h1, h2, h3, h4⟩ := h
  exact ⟨h1.trans (KeepsFrom.of_grownBy k fun j e => by injection e with e; omega), h2.trans ⟨k.block Bs h3 (fun e => by injection e with e; omega), k.block ob h4 (fun e => by injection e with e; exact ho e.symm)⟩, Nat.lt_of_lt_of_le h3 k.size, Nat.lt_of_lt_of_le h4 k.size⟩
theorem Link.set {Bs ob b i : Nat} {W wr : World} {v : Value} (h : Link Bs ob W wr) (hb : b < Bs) (ho : b ≠ ob) : Link Bs ob W (wr.setCell ⟨b, i, none⟩ v) := h.gr (fr_set (fr_refl wr (some b)) rfl v) rfl hb ho
theorem Link.drew {Bs ob : Nat} {W wr : World} (h : Link Bs ob W wr) : Link Bs ob W wr.drew := ⟨⟨h.1.size, h.1.same⟩, h.2.1, h.2.2.1, h.2.2.2⟩
end Go.Proofs.Ytdjbigfobodecaa
namespace Go.Proofs.Ytdjbigfobodecaa
open Go.RowKit

abbrev tooBig (root : Nat → Nat) (s : FS) (i : Nat) : Bool := decide (200 < s.1.getD (root i) 0) || decide (20 < s.2.getD (root i) 0)
set_option maxHeartbeats 4000000 in
set_option maxRecDepth 100000 in
theorem fit_one_at {lo p sb db b7 b8 Bw m i : Nat} {X : Nat → Prop} {z : Value} {G : List Nd} {root r : Nat → Nat} {w W : World} {s : FS} (h : Fit0 lo p sb db b7 b8 Bw X z G root r w m s W) (h0 : Gph lo X w p z G) (hu : UF G root r) (hp : Places sb db b7 b8 w.heap.size Bw) (hi : i < G.length) :
    Calls Try.prog 51 #[.int .i64 (i : Nat), .pointer (some ⟨b7, 0, none⟩), .pointer (some ⟨w.heap.size, 0, none⟩), .pointer (some ⟨b8, 0, none⟩)] W fun e W' => e = .returned (.bool (tooBig root s i)) ∧ Fit0 lo p sb db b7 b8 Bw X z G root r w m s W' ∧ W.grownBy W' z.ownBlock := by
  have hrl : root i < G.length := (hu.root_lt i hi).1
  have HQ := Lib.hid (show ∀ W1, Fit0 lo p sb db b7 b8 Bw X z G root r w m s W1 → Calls Try.prog 49 #[.pointer (some ⟨p, 0, none⟩), .int .i64 (i : Nat)] W1 fun e W' => e = .returned (.int .i64 ((root i : Nat) : Int)) ∧ Fit0 lo p sb db b7 b8 Bw X z G root r w m s W' ∧ W1.grownBy W' z.ownBlock from fun W1 h1 => by
    obtain ⟨H, e1, e2, e3⟩ := h1.g
    refine (find_to e3 e2 (show i < H.length by rw [e1.len]; exact hi) rfl).mono ?_
    rintro e w3 ⟨H3, rfl, m1, m2, m3, m4, m5⟩
    exact ⟨rfl, h1.call h0 hp m4 (e1.trans m1) m2 m3, m4⟩)
  have HV := Lib.hid (show ∀ W1, Fit0 lo p sb db b7 b8 Bw X z G root r w m s W1 → W1.cell? ⟨w.heap.size, 0, none⟩ = some (.pointer (some ⟨p, 0, none⟩)) ∧ W1.cell? ⟨b7, 0, none⟩ = some (.slice (some ⟨sb, 0, none⟩) G.length G.length) ∧ W1.cell? ⟨b8, 0, none⟩ = some (.slice (some ⟨db, 0, none⟩) G.length G.length) ∧
      W1.cell? ⟨sb, root i, none⟩ = some (.int .i64 ((s.1.getD (root i) 0 : Nat) : Int)) ∧ W1.cell? ⟨db, root i, none⟩ = some (.int .i64 ((s.2.getD (root i) 0 : Nat) : Int)) from fun W1 h1 =>
    ⟨h1.c3, h1.c7, h1.c8, nums_cell h1.r1 (v := root i) (by rw [h1.ok.l1]; exact hrl), nums_cell h1.r2 (v := root i) (by rw [h1.ok.l2]; exact hrl)⟩)
  have o1 := h.ok.b1 (root i)
  have o2 := h.ok.b2 (root i)
  have H0 := Lib.hid h
  unfold tooBig
  clear h h0 hu
  generalize s.1.getD (root i) 0 = a at *
  generalize s.2.getD (root i) 0 = d at *
  generalize root i = rt at *
  have y0 := HV.out _ H0.out.drew
  obtain ⟨x0, x1, x2, x3, x4⟩ := HV.out W H0.out
  by_cases ha : 200 < a
  · have hda : decide (200 < a) = true := decide_eq_true ha
    have hdi : (200 : Int) < (a : Int) := by omega
    rw [hda, Bool.true_or]
    clear hda
    go_enter Try.func51, Try.ntmps51
    go_wp2_with fail
    have hS := y0
    refine held_start 17 rfl (fun W' => W'.cell? ⟨w.heap.size, 0, none⟩ = some (.pointer (some ⟨p, 0, none⟩)) ∧ W'.cell? ⟨b7, 0, none⟩ = some (.slice (some ⟨sb, 0, none⟩) G.length G.length) ∧ W'.cell? ⟨b8, 0, none⟩ = some (.slice (some ⟨db, 0, none⟩) G.length G.length) ∧ W'.cell? ⟨sb, rt, none⟩ = some (.int .i64 (a : Nat)) ∧ W'.cell? ⟨db, rt, none⟩ = some (.int .i64 (d : Nat))) (by kernel_rfl) ?_
    refine held_take (i := 0) (dst := some 6) (v := ?_) rfl rfl (by kernel_rfl) (by kernel_rfl) (by kernel_rfl) rfl hS ?_ ?_; rotate_left
    · rintro w' ⟨q0, q1, q2, q3, q4⟩; go_simp; with_reducible rfl
    go_frame
    refine held_take (i := 1) (dst := some 7) (v := ?_) rfl rfl (by kernel_rfl) (by kernel_rfl) (by kernel_rfl) rfl hS ?_ ?_; rotate_left
    · rintro w' ⟨q0, q1, q2, q3, q4⟩; go_simp; with_reducible rfl
    go_frame
    refine held_take (i := 2) (dst := some 8) (v := ?_) rfl rfl (by kernel_rfl) (by kernel_rfl) (by kernel_rfl) rfl hS ?_ ?_; rotate_left
    · rintro w' ⟨q0, q1, q2, q3, q4⟩; go_simp; with_reducible rfl
    go_frame
    refine round_one (i := 3) (by kernel_rfl) ?_
    refine held_call (dst := some 9) rfl rfl rfl ?_ (HQ.out _ H0.out.drew) ?_
    · go_simp
    rintro e w3 ⟨rfl, g1, g2⟩
    have hS := HV.out _ g1
    refine ⟨_, rfl, hS, ?_⟩
    have H1 := Lib.hid (And.intro g1 (undrew_fr g2))
    clear g1 g2
    go_frame
    refine held_take (i := 4) (dst := some 10) (v := ?_) rfl rfl (by kernel_rfl) (by kernel_rfl) (by kernel_rfl) rfl hS ?_ ?_; rotate_left
    · rintro w' ⟨q0, q1, q2, q3, q4⟩; go_simp; with_reducible rfl
    go_frame
    refine held_take (i := 5) (dst := some 11) (v := ?_) rfl rfl (by kernel_rfl) (by kernel_rfl) (by kernel_rfl) rfl hS ?_ ?_; rotate_left
    · rintro w' ⟨q0, q1, q2, q3, q4⟩; go_simp; with_reducible rfl
    go_frame
    refine held_take (i := 6) (dst := some 12) (v := ?_) rfl rfl (by kernel_rfl) (by kernel_rfl) (by kernel_rfl) rfl hS ?_ ?_; rotate_left
    · rintro w' ⟨q0, q1, q2, q3, q4⟩; go_simp; with_reducible rfl
    go_frame
    refine held_take (i := 7) (dst := some 13) (v := ?_) rfl rfl (by kernel_rfl) (by kernel_rfl) (by kernel_rfl) rfl hS ?_ ?_; rotate_left
    · rintro w' ⟨q0, q1, q2, q3, q4⟩; go_simp; with_reducible rfl
    go_frame
    refine held_pass (i := 8) (dst := some 14) rfl rfl (by kernel_rfl) (by kernel_rfl) (by kernel_rfl) rfl hS ?_
    go_frame
    refine held_pass (i := 9) (dst := some 15) rfl rfl (by kernel_rfl) (by kernel_rfl) (by kernel_rfl) rfl hS ?_
    go_frame
    refine held_pass (i := 10) (dst := some 16) rfl rfl (by kernel_rfl) (by kernel_rfl) (by kernel_rfl) rfl hS ?_
    go_frame
    refine held_pass (i := 11) (dst := some 17) rfl rfl (by kernel_rfl) (by kernel_rfl) (by kernel_rfl) rfl hS ?_
    go_frame
    refine held_pass (i := 12) (dst := some 18) rfl rfl (by kernel_rfl) (by kernel_rfl) (by kernel_rfl) rfl hS ?_
    go_frame
    refine held_pass (i := 13) (dst := some 19) rfl rfl (by kernel_rfl) (by kernel_rfl) (by kernel_rfl) rfl hS ?_
    go_frame
    refine held_pass (i := 14) (dst := some 20) rfl rfl (by kernel_rfl) (by kernel_rfl) (by kernel_rfl) rfl hS ?_
    go_frame
    refine held_take (i := 15) (dst := some 21) (v := ?_) rfl rfl (by kernel_rfl) (by kernel_rfl) (by kernel_rfl) rfl hS ?_ ?_; rotate_left
    · rintro w' ⟨q0, q1, q2, q3, q4⟩; go_simp; with_reducible rfl
    go_frame
    refine held_take (i := 16) (dst := some 5) (v := ?_) rfl rfl (by kernel_rfl) (by kernel_rfl) (by kernel_rfl) rfl hS ?_ ?_; rotate_left
    · rintro w' ⟨q0, q1, q2, q3, q4⟩; go_simp; with_reducible rfl
    go_frame
    refine round_end (by kernel_rfl) ?_
    go_wp2_with fail
    go_ret
    exact ⟨rfl, H1.out.1, H1.out.2⟩
  · have hda : decide (200 < a) = false := decide_eq_false ha
    have hdi : decide ((200 : Int) < (a : Int)) = false := decide_eq_false (by omega)
    have hdd : decide ((20 : Int) < (d : Int)) = decide (20 < d) := by rw [Bool.eq_iff_iff]; simp; omega
    rw [hda, Bool.false_or]
    clear hda
    obtain ⟨bb, hbb⟩ : ∃ b, b = decide (20 < d) := ⟨_, rfl⟩
    rw [← hbb] at hdd ⊢
    clear hbb
    go_enter Try.func51, Try.ntmps51
    go_wp2_with fail
    first | (go_region_held3 (fun W' => W'.cell? ⟨w.heap.size, 0, none⟩ = some (.pointer (some ⟨p, 0, none⟩)) ∧ W'.cell? ⟨b7, 0, none⟩ = some (.slice (some ⟨sb, 0, none⟩) G.length G.length) ∧ W'.cell? ⟨b8, 0, none⟩ = some (.slice (some ⟨db, 0, none⟩) G.length G.length) ∧ W'.cell? ⟨sb, rt, none⟩ = some (.int .i64 (a : Nat)) ∧ W'.cell? ⟨db, rt, none⟩ = some (.int .i64 (d : Nat))) (assumption)
      (first
        | (go_at_call 49; (with_reducible refine (HQ.out _ H0.out.drew).mono ?_); rintro e w3 ⟨rfl, g1, g2⟩; have y1 := HV.out _ g1; have H1 := Lib.hid (And.intro g1 (undrew_fr g2)); clear g1 g2)
        | (go_at_call 49; (with_reducible refine (HQ.out _ H1.out.1).mono ?_); rintro e w4 ⟨rfl, g1, g2⟩; have y2 := HV.out _ g1; have H2 := Lib.hid (And.intro g1 (fr_trans H1.out.2 g2)); clear g1 g2)))
    all_goals go_wp2_with fail
    all_goals go_ret
    all_goals exact ⟨rfl, H2.out.1, H2.out.2⟩
/-- What the search for a node that is too great keeps. -/
abbrev fitFV (b7 B b8 : Nat) : Value := .func (.func 51) #[] #[.pointer (some ⟨b7, 0, none⟩), .pointer (some ⟨B, 0, none⟩), .pointer (some ⟨b8, 0, none⟩)]
set_option maxHeartbeats 4000000 in
set_option maxRecDepth 100000 in
theorem index_fit_at {lo p sb db b7 b8 Bw m c : Nat} {X : Nat → Prop} {z : Value} {A : Option Addr} {bd : List Nat} {G : List Nd} {root r : Nat → Nat} {w W : World} {s : FS} (h : Fit0 lo p sb db b7 b8 Bw X z G root r w m s W) (h0 : Gph lo X w p z G) (hu : UF G root r) (hp : Places sb db b7 b8 w.heap.size Bw)
    (hbd : ∀ i ∈ bd, i < G.length) (hA : ∀ W, w.grownBy W z.ownBlock → IRow W A bd c) :
    Calls Try.prog 76 #[.slice A bd.length c, fitFV b7 w.heap.size b8] W fun e W' => ∃ k : Int, e = .returned (.int .i64 k) ∧ decide (0 ≤ k) = bd.any (tooBig root s) ∧ Fit0 lo p sb db b7 b8 Bw X z G root r w m s W' ∧ W.grownBy W' z.ownBlock := by
  have hlen : bd.length ≤ maxLen := Nat.le_trans (hA W h.fr).1 (hA W h.fr).2.1
  unfold maxLen at hlen
  have HQ := Lib.hid (fun i (hi : i < G.length) W1 h1 => fit_one_at (lo := lo) (p := p) (sb := sb) (db := db) (b7 := b7) (b8 := b8) (Bw := Bw) (m := m) (X := X) (z := z) (root := root) (r := r) (s := s) (w := w) (W := W1) h1 h0 hu hp hi)
  have HB := Lib.hid hbd
  have HA := Lib.hid hA
  have H0 := Lib.hid (And.intro h (fr_refl W z.ownBlock))
  clear h h0 hu hp hbd hA
  unfold fitFV
  go_enter Try.func76, Try.ntmps76
  go_wp2_with fail
  go_loopw [8] (fun s8 wr => ∃ j : Nat, j ≤ bd.length ∧ s8 = .int .i64 (j : Nat) ∧ Hid ((Fit0 lo p sb db b7 b8 Bw X z G root r w m s wr ∧ W.grownBy wr z.ownBlock) ∧ (bd.take j).any (tooBig root s) = false)) (fun s8 _ => bd.length - (intOf s8).toNat)
  case atStart => exact ⟨0, Nat.zero_le _, rfl, Lib.hid ⟨H0.out, rfl⟩⟩
  case round =>
    clear H0
    obtain ⟨j, hj, rfl, HF⟩ := hrel
    by_cases hlt : j < bd.length
    · obtain ⟨b, rfl, hb⟩ := (HA.out wr HF.out.1.1.fr).2.2 (by omega)
      have b1 := hb j hlt
      have hnx := nat_take_next hlt
      have hall : bd.any (tooBig root s) = true ∨ tooBig root s (bd.getD j 0) = false := by
        cases ht : tooBig root s (bd.getD j 0) with
        | false => exact .inr rfl
        | true => exact .inl (List.any_eq_true.2 ⟨_, nat_getD_mem hlt, ht⟩)
      have hstep : tooBig root s (bd.getD j 0) = false → (bd.take (j + 1)).any (tooBig root s) = false := fun ht => by rw [hnx, List.any_append, HF.out.2, Bool.false_or, List.any_cons, List.any_nil, Bool.or_false]; exact ht
      have HC := Lib.hid (HQ.out (bd.getD j 0) (HB.out _ (nat_getD_mem hlt)) wr HF.out.1.1)
      have HW := Lib.hid HF.out.1.2
      clear hb hnx HF
      have HST := Lib.hid hstep
      clear hstep
      generalize bd.getD j 0 = i at *
      generalize tooBig root s i = t at *
      cases t with
      | true =>
        have hz : decide ((0 : Int) ≤ (j : Int)) = true := decide_eq_true (by omega)
        have HZ := Lib.hid hz
        have HAL := Lib.hid hall
        clear hz hall
        go_wp2_with (go_at_call 51; refine (HC.out).mono ?_; rintro e w3 ⟨rfl, g1, g2⟩; have H1 := Lib.hid (And.intro g1 (fr_trans HW.out g2)); clear g1 g2)
        go_ret
        refine ⟨_, rfl, ?_, H1.out.1, H1.out.2⟩
        rcases HAL.out with h | h
        · rw [h, HZ.out]
        · cases h
      | false =>
        clear hall
        go_wp2_with (go_at_call 51; refine (HC.out).mono ?_; rintro e w3 ⟨rfl, g1, g2⟩; have H1 := Lib.hid (And.intro g1 (fr_trans HW.out g2)); clear g1 g2)
        go_roundw
        case rel => exact ⟨j + 1, by omega, by go_num, Lib.hid ⟨H1.out, HST.out (by trivial)⟩⟩
        case measure => simp [intOf]; omega
    · obtain rfl : j = bd.length := by omega
      have HE := HF.out
      rw [List.take_length] at HE
      have HE := Lib.hid HE
      clear HF
      go_wp2_with fail
      go_ret
      exact ⟨_, rfl, by rw [HE.out.2]; rfl, HE.out.1.1, HE.out.1.2⟩
set_option maxHeartbeats 4000000 in
theorem contains_fit_at {lo p sb db b7 b8 Bw m c : Nat} {X : Nat → Prop} {z : Value} {A : Option Addr} {bd : List Nat} {G : List Nd} {root r : Nat → Nat} {w W : World} {s : FS} (h : Fit0 lo p sb db b7 b8 Bw X z G root r w m s W) (h0 : Gph lo X w p z G) (hu : UF G root r) (hp : Places sb db b7 b8 w.heap.size Bw)
    (hbd : ∀ i ∈ bd, i < G.length) (hA : ∀ W, w.grownBy W z.ownBlock → IRow W A bd c) :
    Calls Try.prog 50 #[.slice A bd.length c, fitFV b7 w.heap.size b8] W fun e W' => e = .returned (.bool (bd.any (tooBig root s))) ∧ Fit0 lo p sb db b7 b8 Bw X z G root r w m s W' ∧ W.grownBy W' z.ownBlock := by
  have HQ := Lib.hid (index_fit_at h h0 hu hp hbd hA)
  clear h h0 hu hp hbd hA
  unfold fitFV at *
  go_enter Try.func50, Try.ntmps50
  go_wp2_with (go_at_call 76; refine (HQ.out).mono ?_; rintro e w3 ⟨k, rfl, g0, g1, g2⟩; have H1 := Lib.hid (And.intro g1 g2); clear g1 g2; have G0 := Lib.hid g0; clear g0)
  go_ret
  exact ⟨by rw [← G0.out]; rfl, H1.out.1, H1.out.2⟩
end Go.Proofs.Ytdjbigfobodecaa
