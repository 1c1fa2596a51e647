/-
  TmStrip.
  PaKeep.
  SyScan.
  SyPlain.
  PrTok.
  PrFail.
  PaRest.
  SyExt.
  SySuf.
  SyApp.
  SyProg.
  SyValid.
  SyRule.
  SyNames.
  SiPlain.
  NmBytes.
  NmWord.
-/
import Derived.Test.YtnghanpmmbcbbaaGreatDoorMp1
import Derived.Deep.QuietTactic
import Derived.BigQuiet
import Derived.BigRegion
import Derived.Deep.LoopGhost
import Derived.WalkSpells
import Derived.Lib.Strings
import Derived.Test.YtnghanpmmbcbbaaGreatDoorProg
import Derived.WalkKit
import Derived.Below
import Derived.Lib.Hide
import Derived.Outline
namespace Go.Proofs.YtnghanpmmbcbbaaGreatDoor
open Go
mutual
def Tm.strip : Tm → Tm
  | .mk k n s _ _ a => .mk k n s none 0 (stripL a)
def stripL : List Tm → List Tm
  | [] => []
  | t :: r => t.strip :: stripL r
end
theorem stripL_map (l : List Tm) : stripL l = l.map Tm.strip := by
  induction l with
  | nil => rfl
  | cons t r ih => simp [stripL, ih]
theorem stripL_len (l : List Tm) : (stripL l).length = l.length := by rw [stripL_map, List.length_map]
theorem stripL_append (l m : List Tm) : stripL (l ++ m) = stripL l ++ stripL m := by simp [stripL_map]
theorem strip_strip : (∀ t : Tm, t.strip.strip = t.strip) ∧ (∀ l, stripL (stripL l) = stripL l) := by
  refine Tm.induct2 (fun k n s A c a ih => ?_) rfl (fun t r h1 h2 => ?_)
  · simp only [Tm.strip, ih]
  · simp only [stripL, h1, h2]
theorem form_strip : (∀ t : Tm, t.strip.form = t.form) ∧ (∀ l, formL (stripL l) = formL l) := by
  refine Tm.induct2 (fun k n s A c a ih => ?_) rfl (fun t r h1 h2 => ?_)
  · simp only [Tm.strip, Tm.form, ih, stripL_len]
  · simp only [stripL, formL, h1, h2]
theorem size_strip : (∀ t : Tm, t.strip.size = t.size) ∧ (∀ l, sizeL (stripL l) = sizeL l) := by
  refine Tm.induct2 (fun k n s A c a ih => ?_) rfl (fun t r h1 h2 => ?_)
  · simp only [Tm.strip, Tm.size, ih]
  · simp only [stripL, sizeL, h1, h2]
theorem depth_strip : (∀ t : Tm, t.strip.depth = t.depth) ∧ (∀ l, depthL (stripL l) = depthL l) := by
  refine Tm.induct2 (fun k n s A c a ih => ?_) rfl (fun t r h1 h2 => ?_)
  · simp only [Tm.strip, Tm.depth, ih]
  · simp only [stripL, depthL, h1, h2]
theorem cmp_strip : (∀ t u : Tm, cmpT t.strip u.strip = cmpT t u) ∧ (∀ l m, cmpL (stripL l) (stripL m) = cmpL l m) := by
  suffices H : (∀ t : Tm, ∀ u : Tm, cmpT t.strip u.strip = cmpT t u) ∧ (∀ l, ∀ m, cmpL (stripL l) (stripL m) = cmpL l m) from ⟨H.1, H.2⟩
  refine Tm.induct2 (fun k n s A c a ih u => ?_) (fun m => ?_) (fun t r h1 h2 m => ?_)
  · obtain ⟨k', n', s', A', c', a'⟩ := u
    simp only [Tm.strip, cmpT, Tm.kind, Tm.num, Tm.name, Tm.args, ih, stripL_len]
  · cases m <;> simp [stripL, cmpL]
  · cases m with
    | nil => simp [stripL, cmpL]
    | cons u q => simp only [stripL, cmpL, h1, h2]
end Go.Proofs.YtnghanpmmbcbbaaGreatDoor
namespace Go.Proofs.YtnghanpmmbcbbaaGreatDoor
open Go.RowKit
structure Kp (R : Nat) (z z' : Value) (w w' : World) : Prop where
  os : w'.os = w.os
  tape : w'.tape = w.tape
  output : w'.output = w.output
  size : w.heap.size ≤ w'.heap.size
  block : ∀ k, k < w.heap.size → k ≠ R → z.ownBlock ≠ some k → w'.heap[k]? = w.heap[k]?
  own : ∀ k, z'.ownBlock = some k → z.ownBlock = some k ∨ w.heap.size ≤ k
section
variable {R : Nat} {z z1 z2 : Value} {a b c w w' : World}
theorem Kp.refl (R : Nat) (z : Value) (w : World) : Kp R z z w w := ⟨rfl, rfl, rfl, Nat.le_refl _, fun _ _ _ _ => rfl, fun _ h => .inl h⟩
theorem Kp.trans (h : Kp R z z1 a b) (k : Kp R z1 z2 b c) : Kp R z z2 a c := by
  refine ⟨k.os.trans h.os, k.tape.trans h.tape, k.output.trans h.output, Nat.le_trans h.size k.size, fun i hi hr ho => ?_, fun i hi => ?_⟩
  · refine (k.block i (Nat.lt_of_lt_of_le hi h.size) hr fun e => ?_).trans (h.block i hi hr ho)
    rcases h.own i e with h1 | h1
    · exact ho h1
    · omega
  · rcases k.own i hi with h1 | h1
    · exact h.own i h1
    · exact .inr (Nat.le_trans h.size h1)
theorem Below.kp (h : Below w.heap.size w w') (R : Nat) (z : Value) : Kp R z z w w' := ⟨h.os, h.tape, h.output, h.size, fun k hk _ _ => h.block k hk, fun _ h => .inl h⟩
theorem Kp.drewN (h : Kp R z z1 a w) (n : Nat) : Kp R z z1 a (w.drewN n) := ⟨h.os, h.tape, h.output, h.size, h.block, h.own⟩
theorem Kp.drew (h : Kp R z z1 a w) : Kp R z z1 a w.drew := ⟨h.os, h.tape, h.output, h.size, h.block, h.own⟩
theorem Kp.alloc (h : Kp R z z1 a w) (o : Obj) : Kp R z z1 a (w.alloc o) := h.trans (Below.kp ((Below.refl _ _).alloc (Nat.le_refl _) o) R z1)
theorem Kp.set (h : Kp R z z1 a w) (q : Nat) (sp : Option Nat) (v : Value) : Kp R z z1 a (w.setCell ⟨R, q, sp⟩ v) :=
  h.trans ⟨rfl, rfl, rfl, by simp [World.setCell], fun k _ hr _ => Below.heap_setCell _ _ _ _ hr, fun _ h => .inl h⟩
theorem Kp.put (h : Kp R z z1 a w) {p : Addr} (hp : a.heap.size ≤ p.block) (v : Value) : Kp R z z1 a (w.setCell p v) :=
  ⟨h.os, h.tape, h.output, by simpa [World.setCell] using h.size, fun k hk hr ho => (Below.heap_setCell _ _ _ _ (by omega)).trans (h.block k hk hr ho), h.own⟩
theorem Kp.grown {row : Option Nat} (h : Kp R z z1 a w) (hg : w.grownBy w' row) (hr : ∀ k, row = some k → a.heap.size ≤ k) : Kp R z z1 a w' :=
  ⟨hg.os.trans h.os, hg.tape.trans h.tape, hg.output.trans h.output, Nat.le_trans h.size hg.size, fun k hk hR ho =>
    (hg.block k (Nat.lt_of_lt_of_le hk h.size) (fun e => by have := hr k e.symm; omega)).trans (h.block k hk hR ho), h.own⟩
theorem Kp.cell (h : Kp R z z1 w w') {p : Addr} (hp : p.block < w.heap.size) (hr : p.block ≠ R) (ho : z.ownBlock ≠ some p.block) : w'.cell? p = w.cell? p := by
  have := h.block p.block hp hr ho
  simp only [World.cell?, this]
end
def Agr (lo : Nat) (X : Nat → Prop) (w W : World) : Prop := ∀ b, lo ≤ b → b < w.heap.size → ¬ X b → W.heap[b]? = w.heap[b]?
theorem Agr.refl (lo : Nat) (X : Nat → Prop) (w : World) : Agr lo X w w := fun _ _ _ _ => rfl
theorem Agr.cell {lo : Nat} {X : Nat → Prop} {w W : World} (h : Agr lo X w W) {p : Addr} (h1 : lo ≤ p.block) (h2 : p.block < w.heap.size) (h3 : ¬ X p.block) : W.cell? p = w.cell? p := by
  have := h p.block h1 h2 h3
  simp only [World.cell?, this]
abbrev Own (z : Value) : Nat → Prop := fun k => z.ownBlock = some k
abbrev Own2 (r z : Value) : Nat → Prop := fun k => r.ownBlock = some k ∨ z.ownBlock = some k
def Liv (lo : Nat) (X : Nat → Prop) (w : World) (t : Tm) : Prop := ∀ W, Agr lo X w W → t.At W
def LivL (lo : Nat) (X : Nat → Prop) (w : World) (A : Option Addr) (l : List Tm) (c : Nat) : Prop := ∀ W, Agr lo X w W → Lst W A l c
section
variable {lo lo' : Nat} {X Y : Nat → Prop} {w w' : World} {t : Tm} {A : Option Addr} {l : List Tm} {c : Nat}
theorem Liv.at (h : Liv lo X w t) : t.At w := h w (Agr.refl _ _ _)
theorem LivL.lst (h : LivL lo X w A l c) : Lst w A l c := h w (Agr.refl _ _ _)
theorem Agr.less {W : World} (h : Agr lo X w' W) (hs : w.heap.size ≤ w'.heap.size) (hc : ∀ b, lo' ≤ b → b < w.heap.size → ¬ Y b → lo ≤ b ∧ ¬ X b ∧ w'.heap[b]? = w.heap[b]?) : Agr lo' Y w W := fun b h1 h2 h3 =>
  (h b (hc b h1 h2 h3).1 (Nat.lt_of_lt_of_le h2 hs) (hc b h1 h2 h3).2.1).trans (hc b h1 h2 h3).2.2
theorem Liv.less (h : Liv lo' Y w t) (hs : w.heap.size ≤ w'.heap.size) (hc : ∀ b, lo' ≤ b → b < w.heap.size → ¬ Y b → lo ≤ b ∧ ¬ X b ∧ w'.heap[b]? = w.heap[b]?) : Liv lo X w' t := fun W hW => h W (hW.less hs hc)
theorem LivL.less (h : LivL lo' Y w A l c) (hs : w.heap.size ≤ w'.heap.size) (hc : ∀ b, lo' ≤ b → b < w.heap.size → ¬ Y b → lo ≤ b ∧ ¬ X b ∧ w'.heap[b]? = w.heap[b]?) : LivL lo X w' A l c := fun W hW => h W (hW.less hs hc)
theorem Liv.below (h : Liv lo X w t) (k : Below w.heap.size w w') : Liv lo X w' t := h.less k.size fun b h1 h2 h3 => ⟨h1, h3, k.block b h2⟩
theorem LivL.below (h : LivL lo X w A l c) (k : Below w.heap.size w w') : LivL lo X w' A l c := h.less k.size fun b h1 h2 h3 => ⟨h1, h3, k.block b h2⟩
theorem Liv.alloc (h : Liv lo X w t) (o : Obj) : Liv lo X (w.alloc o) t := h.below ((Below.refl _ _).alloc (Nat.le_refl _) o)
theorem LivL.alloc (h : LivL lo X w A l c) (o : Obj) : LivL lo X (w.alloc o) A l c := h.below ((Below.refl _ _).alloc (Nat.le_refl _) o)
theorem Liv.drewN (h : Liv lo X w t) (n : Nat) : Liv lo X (w.drewN n) t := h
theorem LivL.drewN (h : LivL lo X w A l c) (n : Nat) : LivL lo X (w.drewN n) A l c := h
theorem Liv.low (h : Liv lo X w t) (hl : lo' ≤ lo) : Liv lo' X w t := h.less (Nat.le_refl _) fun b h1 _ h3 => ⟨by omega, h3, rfl⟩
theorem LivL.low (h : LivL lo X w A l c) (hl : lo' ≤ lo) : LivL lo' X w A l c := h.less (Nat.le_refl _) fun b h1 _ h3 => ⟨by omega, h3, rfl⟩
theorem Liv.out (h : Liv lo Y w t) (hY : ∀ b, lo ≤ b → b < w.heap.size → X b → Y b) : Liv lo X w t := h.less (Nat.le_refl _) fun b h1 h2 h3 => ⟨h1, fun hx => h3 (hY b h1 h2 hx), rfl⟩
theorem LivL.out (h : LivL lo Y w A l c) (hY : ∀ b, lo ≤ b → b < w.heap.size → X b → Y b) : LivL lo X w A l c := h.less (Nat.le_refl _) fun b h1 h2 h3 => ⟨h1, fun hx => h3 (hY b h1 h2 hx), rfl⟩
theorem Liv.set (h : Liv lo X w t) {p : Addr} (hp : p.block < lo ∨ X p.block) (v : Value) : Liv lo X (w.setCell p v) t := h.less (by simp [World.setCell]) fun b h1 _ h3 => ⟨h1, h3, Below.heap_setCell _ _ _ _ (fun e => hp.elim (fun h => by omega) (fun h => h3 (e ▸ h)))⟩
theorem LivL.set (h : LivL lo X w A l c) {p : Addr} (hp : p.block < lo ∨ X p.block) (v : Value) : LivL lo X (w.setCell p v) A l c := h.less (by simp [World.setCell]) fun b h1 _ h3 => ⟨h1, h3, Below.heap_setCell _ _ _ _ (fun e => hp.elim (fun h => by omega) (fun h => h3 (e ▸ h)))⟩
theorem Liv.any (ht : ∀ W, t.At W) : Liv lo X w t := fun W _ => ht W
variable {R : Nat} {z z' : Value}
theorem Liv.kp (h : Liv lo (Own z) w t) (k : Kp R z z' w w') (hR : R < lo) : Liv lo (Own z') w' t := h.less k.size fun b h1 h2 h3 => ⟨h1, fun e => (k.own b e).elim h3 (fun h => by omega), k.block b h2 (by omega) h3⟩
theorem LivL.kp (h : LivL lo (Own z) w A l c) (k : Kp R z z' w w') (hR : R < lo) : LivL lo (Own z') w' A l c := h.less k.size fun b h1 h2 h3 => ⟨h1, fun e => (k.own b e).elim h3 (fun h => by omega), k.block b h2 (by omega) h3⟩
end
def pcells (l : List Tm) : List Value := l.flatMap Tm.cells
theorem pcell_len (t : Tm) : t.cells.length = 4 := rfl
theorem pcells_length (l : List Tm) : (pcells l).length = l.length * 4 := by
  induction l with
  | nil => rfl
  | cons t r ih => simp only [pcells, List.flatMap_cons, List.length_append, pcell_len, List.length_cons] at *; omega
theorem pcells_get (l : List Tm) {i j : Nat} (hi : i < l.length) (hj : j < 4) : (pcells l)[4 * i + j]? = (l.getD i default).cells[j]? := by
  induction l generalizing i with
  | nil => simp at hi
  | cons t r ih =>
    simp only [pcells, List.flatMap_cons]
    cases i with
    | zero =>
      rw [List.getElem?_append_left (by rw [pcell_len]; omega)]
      simp
    | succ i =>
      rw [List.getElem?_append_right (by rw [pcell_len]; omega), pcell_len, show 4 * (i + 1) + j - 4 = 4 * i + j by omega]
      simpa [pcells] using ih (by simpa using hi)
theorem own_of {w w' : World} {base : Nat} {e : TypeId} {size : Nat} {v : Value} {n : Nat} {xs : List Value} (h : w.ownsRow base e size v n xs) (hb : ∀ k, v.ownBlock = some k → w'.heap[k]? = w.heap[k]?) : w'.ownsRow base e size v n xs := by
  refine ⟨h.1, ?_⟩
  rcases h.2 with hn | ⟨g, cap, cur, rfl, hb1, hgg, rest⟩
  · exact .inl hn
  · exact .inr ⟨g, cap, cur, rfl, hb1, by rw [hb g rfl]; exact hgg, rest⟩
structure RowP (lo : Nat) (w : World) (z r : Value) (acc : List Tm) : Prop where
  row : w.ownsRow lo 69 4 r acc.length (pcells acc)
  apart : ∀ k, r.ownBlock = some k → z.ownBlock ≠ some k
  each : ∀ x ∈ acc, Liv lo (Own2 r z) w x
theorem RowP.kp {lo R : Nat} {w w' : World} {z z' r : Value} {acc : List Tm} (h : RowP lo w z r acc) (k : Kp R z z' w w') (hR : R < lo) : RowP lo w' z' r acc := by
  have hlt := own_lt h.row
  refine ⟨own_of h.row fun j hj => k.block j (hlt j hj).2 (by have := (hlt j hj).1; omega) (h.apart j hj), fun j hj e => ?_, fun x hx => (h.each x hx).less k.size fun b h1 h2 h3 => ?_⟩
  · rcases k.own j e with h1 | h1
    · exact h.apart j hj h1
    · have := (hlt j hj).2; omega
  · refine ⟨h1, fun e => ?_, k.block b h2 (by omega) (fun e => h3 (.inr e))⟩
    rcases e with e | e
    · exact h3 (.inl e)
    · rcases k.own b e with h4 | h4
      · exact h3 (.inr h4)
      · omega
theorem RowP.nil (lo : Nat) (w : World) (z : Value) : RowP lo w z (.slice none 0 0) [] := ⟨⟨rfl, .inl ⟨rfl, rfl⟩⟩, fun k hk => (by cases hk), fun x hx => (by cases hx)⟩
theorem pcells_append (l m : List Tm) : pcells (l ++ m) = pcells l ++ pcells m := by simp [pcells]
theorem RowP.next {lo g cap : Nat} {w2 w3 w4 : World} {z r : Value} {acc : List Tm} {u : Tm} (h : RowP lo w2 z r acc) (hz : ∀ k, z.ownBlock = some k → k < w2.heap.size) (hu : Liv lo (Own2 r z) w2 u) (hb : Below w2.heap.size w2 w3)
    (hown : w4.ownsRow lo 69 4 (.slice (some ⟨g, 0, none⟩) (acc.length + 1) cap) (acc.length + 1) (pcells acc ++ u.cells)) (hg : w3.grownBy w4 r.ownBlock) (hat : r.ownBlock = some g ∨ g = w3.heap.size) :
    RowP lo w4 z (.slice (some ⟨g, 0, none⟩) (acc.length + 1) cap) (acc ++ [u]) := by
  refine ⟨by rw [List.length_append, pcells_append]; simpa [pcells] using hown, fun k hk e => ?_, fun x hx => ?_⟩
  · have e' : g = k := by simpa [Value.ownBlock] using hk
    subst e'
    rcases hat with h1 | h1
    · exact h.apart g h1 e
    · have := hz g e; have := hb.size; omega
  have hx2 : Liv lo (Own2 r z) w2 x := by
    rcases List.mem_append.1 hx with hx | hx
    · exact h.each x hx
    · rw [List.mem_singleton.1 hx]; exact hu
  refine (hx2.below hb).less hg.size fun b h1 h2 h3 => ⟨h1, fun e => ?_, hg.block b h2 (fun e => h3 (.inl e.symm))⟩
  rcases e with e | e
  · have e' : g = b := by simpa [Value.ownBlock] using e
    rcases hat with h | h
    · exact h3 (.inl (by rw [h, e']))
    · omega
  · exact h3 (.inr e)
theorem RowP.lst {lo : Nat} {w : World} {z r : Value} {acc : List Tm} (h : RowP lo w z r acc) (h0 : 0 < acc.length) : ∃ g c, r = .slice (some ⟨g, 0, none⟩) acc.length c ∧ LivL lo (Own z) w (some ⟨g, 0, none⟩) acc c := by
  rcases h.row.2 with ⟨_, h1⟩ | ⟨g, cap, cur, rfl, hb, hg, hle, hcap, hcs, hcur⟩
  · omega
  · have hlt := own_lt h.row g rfl
    have hap := h.apart g rfl
    have hl := pcells_length acc
    refine ⟨g, cap, rfl, fun W hW => ⟨hle, hcap, fun _ => ⟨g, 0, rfl, RowAt.of fun i hi => ⟨fun j u hu => ?_, ?_⟩⟩⟩⟩
    · have hj : j < 4 := by
        have := (List.getElem?_eq_some_iff.1 hu).1
        simpa [Tm.cells] using this
      rw [hW.cell (p := ⟨g, 0 + 4 * i + j, none⟩) hlt.1 hlt.2 hap]
      have hc := World.ownsRow.cellAt h.row (4 * i + j) (by omega)
      rw [Nat.zero_add, hc]
      exact (pcells_get acc hi hj).trans hu
    · exact h.each _ (getD_mem hi) W fun b h1 h2 h3 => hW b h1 h2 (fun h => h3 (.inr h))
def nmC (ns : List (List UInt8)) : List Value := ns.map fun x => .string (S x)
structure Pr (w : World) (R : Nat) (A : Option Addr) (c : Nat) (l : List Tk) (i : Nat) (z : Value) (ns : List (List UInt8)) (at_ : Nat) (er : Int) : Prop where
  lt : R < w.heap.size
  l0 : w.cell? ⟨R, 0, none⟩ = some (.slice A l.length c)
  l1 : w.cell? ⟨R, 1, none⟩ = some (.int .i64 (i : Int))
  l2 : w.cell? ⟨R, 2, none⟩ = some z
  l3 : w.cell? ⟨R, 3, none⟩ = some (.int .i64 (at_ : Int))
  l4 : w.cell? ⟨R, 4, none⟩ = some (.int .i64 er)
  fr : ∀ j, w.frozen? ⟨R, j, none⟩ = false
  toks : TLst w A l c
  low : ∀ g, A = some ⟨g, 0, none⟩ → g < R
  ilt : i < l.length
  own : w.ownsRow (R + 1) 9 1 z ns.length (nmC ns)
section
variable {w w' : World} {R : Nat} {A : Option Addr} {c : Nat} {l : List Tk} {i : Nat} {z : Value} {ns : List (List UInt8)} {at_ : Nat} {er : Int}
theorem Pr.of (h : Pr w R A c l i z ns at_ er) (hs : w.heap.size ≤ w'.heap.size) (hb : ∀ k, k < w.heap.size → (k ≤ R ∨ z.ownBlock = some k) → w'.heap[k]? = w.heap[k]?) : Pr w' R A c l i z ns at_ er := by
  have hR := hb R h.lt (.inl (Nat.le_refl _))
  have hc : ∀ j, w'.cell? ⟨R, j, none⟩ = w.cell? ⟨R, j, none⟩ := fun j => World.cell?_of_block hR
  refine ⟨Nat.lt_of_lt_of_le h.lt hs, by rw [hc, h.l0], by rw [hc, h.l1], by rw [hc, h.l2], by rw [hc, h.l3], by rw [hc, h.l4], fun j => by rw [World.frozen?_of_block (a := ⟨R, j, none⟩) hR]; exact h.fr j, ?_, h.low, h.ilt, own_of h.own fun k hk => hb k (own_lt h.own k hk).2 (.inr hk)⟩
  refine ⟨h.toks.1, h.toks.2.1, fun hn => ?_⟩
  obtain ⟨g, e, hr⟩ := h.toks.2.2 hn
  have hg := h.low g e
  have hlt := h.lt
  exact ⟨g, e, fun i hi j u hu => by rw [World.cell?_of_block (a := ⟨g, i * 3 + j, none⟩) (hb g (by omega) (.inl (by omega)))]; exact hr i hi j u hu⟩
theorem Pr.below (h : Pr w R A c l i z ns at_ er) (hb : Below w.heap.size w w') : Pr w' R A c l i z ns at_ er := h.of hb.size fun k hk _ => hb.block k hk
theorem Pr.drewN (h : Pr w R A c l i z ns at_ er) (n : Nat) : Pr (w.drewN n) R A c l i z ns at_ er := h.of (Nat.le_refl _) fun _ _ _ => rfl
theorem Pr.drew (h : Pr w R A c l i z ns at_ er) : Pr w.drew R A c l i z ns at_ er := h.of (Nat.le_refl _) fun _ _ _ => rfl
theorem Pr.alloc (h : Pr w R A c l i z ns at_ er) (o : Obj) : Pr (w.alloc o) R A c l i z ns at_ er := h.below ((Below.refl _ _).alloc (Nat.le_refl _) o)
theorem Pr.put (h : Pr w R A c l i z ns at_ er) {p : Addr} (hp : R < p.block) (hz : z.ownBlock ≠ some p.block) (v : Value) : Pr (w.setCell p v) R A c l i z ns at_ er :=
  h.of (by simp [World.setCell]) fun k _ hk => Below.heap_setCell _ _ _ _ (fun e => hk.elim (fun h => by omega) (fun h => hz (e ▸ h)))
theorem Pr.grown {row : Option Nat} (h : Pr w R A c l i z ns at_ er) (hg : w.grownBy w' row) (hr : ∀ k, row = some k → R < k ∧ z.ownBlock ≠ some k) : Pr w' R A c l i z ns at_ er :=
  h.of hg.size fun k hk ho => hg.block k hk fun e => by
    obtain ⟨h1, h2⟩ := hr k e.symm
    exact ho.elim (fun h => by omega) h2
theorem Pr.apart (h : Pr w R A c l i z ns at_ er) : ∀ k, z.ownBlock = some k → R < k ∧ k < w.heap.size := own_lt h.own
theorem Pr.tok (h : Pr w R A c l i z ns at_ er) : ∃ g, A = some ⟨g, 0, none⟩ ∧ w.cell? ⟨g, i * 3, none⟩ = some (.int .i64 (l.getD i default).1) ∧ w.cell? ⟨g, i * 3 + 1, none⟩ = some (.int .i64 ((l.getD i default).2.1 : Int)) ∧ w.cell? ⟨g, i * 3 + 2, none⟩ = some (.string (S (l.getD i default).2.2)) := h.toks.get h.ilt
end
end Go.Proofs.YtnghanpmmbcbbaaGreatDoor
namespace Go.Proofs.YtnghanpmmbcbbaaGreatDoor
open Go
abbrev Tok := Int × List UInt8 × Bool
def scanG : Nat → List UInt8 → List UInt8 → Option (List Tok)
  | 0, _, _ => some []
  | n + 1, prev, l =>
    let g := gap false l
    let t := tokL g
    if t.2.2 ≠ 0 then none
    else if t.1 = 0 then some [(0, [], false)]
    else (scanG n t.2.1 (g.drop t.2.1.length)).map fun r => (t.1, t.2.1, (t.1 == 3 && (prev == [45] && g.length == l.length))) :: r
def SepIn (sep : List UInt8) : Prop := ∀ s, gap false (sep ++ s) = gap false s
def spreadT (l : List (List UInt8 × Tok)) : List UInt8 := l.flatMap fun x => x.1 ++ x.2.2.1
def Spread : List UInt8 → List (List UInt8 × Tok) → Prop
  | _, [] => False
  | _, [(sep, k, t, f)] => SepOk sep ∧ k = 0 ∧ t = [] ∧ f = false
  | prev, (sep, k, t, f) :: r => k ≠ 0 ∧ (∃ l, tokL l = (k, t, 0)) ∧ ((f = false ∧ SepOk sep) ∨ (f = true ∧ sep = [] ∧ k = 3 ∧ prev = [45])) ∧ Spread t r
def TokOk : Tok → Prop := fun t => t.1 = 0 ∨ ∃ l, tokL l = (t.1, t.2.1, 0)
end Go.Proofs.YtnghanpmmbcbbaaGreatDoor
namespace Go.Proofs.YtnghanpmmbcbbaaGreatDoor
open Go
inductive PS (α : Type) where
  | ok (v : α) (ts : List Tok) (ns : List (List UInt8))
  | err (left : Nat) (e : Int)
abbrev Rd1 (α : Type) := List Tok → List (List UInt8) → PS α
def isS (s : List UInt8) : List Tok → Bool
  | [] => false
  | (k, t, _) :: _ => k == 4 && t == s
def isW (s : List UInt8) : List Tok → Bool
  | [] => false
  | (k, t, _) :: _ => k == 1 && t == s
def wantS (s : List UInt8) {α : Type} (v : α) : Rd1 α := fun ts ns => if isS s ts then .ok v ts.tail ns else .err ts.length 16
def intS (n : Int) : Tm := .mk 0 n ⟨#[]⟩ none 0 []
def varS (n : Nat) : Tm := .mk 1 (n : Int) ⟨#[]⟩ none 0 []
def funS (s : List UInt8) (l : List Tm) : Tm := .mk 2 0 ⟨s.toArray⟩ none 0 l
def nameS (t : List UInt8) (ns : List (List UInt8)) : Nat × List (List UInt8) :=
  if t ≠ [95] ∧ t ∈ ns then (ns.idxOf t, ns) else (ns.length, ns ++ [t])
def argsS (ex : Rd1 Tm) (acc : List Tm) (ts : List Tok) (ns : List (List UInt8)) : PS (List Tm) :=
  match ex ts.tail ns with
  | .err l e => .err l e
  | .ok x r ns2 => if isS [44] r then (if _h : r.length < ts.length then argsS ex (acc ++ [x]) r ns2 else .err 0 0) else wantS [41] (acc ++ [x]) r ns2
termination_by ts.length
def nmS : Rd1 (List UInt8) := fun ts ns =>
  match ts with
  | [] => .err 0 0
  | (k, t, _) :: r => if k ≠ 1 then .err ts.length 16 else if resB t then .err ts.length 7 else .ok t r ns
def atomS (ex : Rd1 Tm) : Rd1 (List UInt8 × List Tm) := fun ts ns =>
  match nmS ts ns with
  | .err l e => .err l e
  | .ok t r ns1 => if isS [40] r then (match argsS ex [] r ns1 with
      | .ok l r2 ns2 => .ok (t, l) r2 ns2
      | .err l e => .err l e) else .ok (t, []) r ns1
def opndS (ex : Rd1 Tm) : Rd1 Tm := fun ts ns =>
  match ts with
  | [] => .err 0 0
  | (k, t, _) :: r =>
    if k = 3 then .ok (intS (valD t)) r ns
    else if k = 2 then .ok (varS (nameS t ns).1) r (nameS t ns).2
    else if k = 1 then (match atomS ex ts ns with
      | .ok x r2 ns2 => .ok (funS x.1 x.2) r2 ns2
      | .err l e => .err l e)
    else if isS [45] ts then (match r with
      | [] => .err 0 0
      | (k2, t2, g2) :: r2 => if k2 = 3 ∧ g2 = true then .ok (intS (-valD t2)) r2 ns else .err r.length 16)
    else if isS [40] ts then (match ex r ns with
      | .ok x r2 ns2 => wantS [41] x r2 ns2
      | .err l e => .err l e)
    else .err ts.length 16
def chainS (ops : List (List UInt8)) (o : Rd1 Tm) (x : Tm) (ts : List Tok) (ns : List (List UInt8)) : PS Tm :=
  match ts with
  | [] => .ok x [] ns
  | (k, t, g) :: r => if k = 4 ∧ t ∈ ops then (match o r ns with
      | .ok y r2 ns2 => if _h : r2.length < ((k, t, g) :: r).length then chainS ops o (funS t [x, y]) r2 ns2 else .err 0 0
      | .err l e => .err l e) else .ok x ((k, t, g) :: r) ns
termination_by ts.length
def levelS (ops : List (List UInt8)) (o : Rd1 Tm) : Rd1 Tm := fun ts ns =>
  match o ts ns with
  | .ok x r ns2 => chainS ops o x r ns2
  | .err l e => .err l e
def mulS : List (List UInt8) := [[42], [47], [37]]
def addS : List (List UInt8) := [[43], [45]]
def exprS : Nat → Rd1 Tm
  | 0 => fun _ _ => .err 0 0
  | n + 1 => levelS addS (levelS mulS (opndS (exprS n)))
abbrev Gs := Int × List UInt8 × List Tm
def cmpS : List Tok → Int × Bool
  | [] => (0, false)
  | (k, t, _) :: _ =>
    if k = 1 ∧ t = [105, 115] then (4, false)
    else if k ≠ 4 then (0, false)
    else if t = [61] then (3, false)
    else if t = [61, 61] then (5, false)
    else if t = [92, 61] then (6, false)
    else if t = [60] then (7, false)
    else if t = [61, 60] then (8, false)
    else if t = [62] then (7, true)
    else if t = [62, 61] then (8, true)
    else if t = [61, 58, 61] then (9, false)
    else if t = [61, 92, 61] then (10, false)
    else (0, false)
def goalS (ex : Rd1 Tm) : Rd1 Gs := fun ts ns =>
  match ts with
  | [] => .err 0 0
  | (k, t, _) :: r =>
    if k = 1 ∧ resB t = true then
      if t = [116, 114, 117, 101] then .ok (1, [], []) r ns
      else if t = [102, 97, 105, 108] then .ok (2, [], []) r ns
      else if t = [105, 110, 116] ∨ t = [103, 114, 111, 117, 110, 100] then
        (if isS [40] r then (match ex r.tail ns with
          | .ok x r2 ns2 => wantS [41] (if t = [105, 110, 116] then 11 else 12, [], [x]) r2 ns2
          | .err l e => .err l e) else .err r.length 16)
      else .err ts.length 7
    else (match ex ts ns with
      | .err l e => .err l e
      | .ok x r2 ns2 =>
        if (cmpS r2).1 = 0 then (if k = 1 ∧ x.name.data.toList = t then .ok (0, t, x.args) r2 ns2 else .err r2.length 16)
        else (match ex r2.tail ns2 with
          | .ok y r3 ns3 => .ok ((cmpS r2).1, [], if (cmpS r2).2 then [y, x] else [x, y]) r3 ns3
          | .err l e => .err l e))
def rightT (l : List Tm) : Bool := formL l && (decide (sizeL l ≤ 200) && decide (depthL l ≤ 20))
def rightA (s : List UInt8) (l : List Tm) : Bool := rightB s && (decide (l.length ≤ 6) && rightT l)
def arityS (op : Int) : Int := if op = 1 ∨ op = 2 then 0 else if op = 11 ∨ op = 12 then 1 else if 2 < op ∧ op < 11 then 2 else -1
def rightG (g : Gs) : Bool := if g.1 = 0 then rightA g.2.1 g.2.2 else decide (g.2.1 = []) && (decide ((g.2.2.length : Int) = arityS g.1) && rightT g.2.2)
def goalsS (ex : Rd1 Tm) (most : Nat) (acc : List Gs) (ts : List Tok) (ns : List (List UInt8)) : PS (List Gs) :=
  if most ≤ acc.length then .err ts.length 6
  else match goalS ex ts ns with
    | .err l e => .err l e
    | .ok g r ns2 =>
      if rightG g = false then .err ts.length 6
      else if isS [44] r then (if _h : r.tail.length < ts.length then goalsS ex most (acc ++ [g]) r.tail ns2 else .err 0 0)
      else .ok (acc ++ [g]) r ns2
termination_by ts.length
decreasing_by exact _h
abbrev As := List UInt8 × List Tm
def headsS (ex : Rd1 Tm) (before : Nat) (acc : List As) (ts : List Tok) (ns : List (List UInt8)) : PS (List As) :=
  if 4 ≤ before + acc.length then .err ts.length 6
  else match atomS ex ts ns with
    | .err l e => .err l e
    | .ok a r ns2 =>
      if rightA a.1 a.2 = false then .err ts.length 6
      else if isS [44] r then (if _h : r.tail.length < ts.length then headsS ex before (acc ++ [a]) r.tail ns2 else .err 0 0)
      else .ok (acc ++ [a]) r ns2
termination_by ts.length
decreasing_by exact _h
structure Rs where
  name : List UInt8
  keep : List As
  remove : List As
  guard : List Gs
  body : List Gs
  vars : Nat
def bothS (ex : Rd1 Tm) : Rd1 (List As × List As) := fun ts ns =>
  match headsS ex 0 [] ts ns with
  | .err l e => .err l e
  | .ok h r ns2 =>
    if isS [60, 61, 62] r then .ok ([], h) r.tail ns2
    else if isS [61, 61, 62] r then .ok (h, []) r.tail ns2
    else if isS [92] r then (match headsS ex h.length [] r.tail ns2 with
      | .err l e => .err l e
      | .ok h2 r2 ns3 => if isS [60, 61, 62] r2 then .ok (h, h2) r2.tail ns3 else .err r2.length 16)
    else .err r.length 16
def goals2S (ex : Rd1 Tm) : Rd1 (List Gs × List Gs) := fun ts ns =>
  match goalsS ex 12 [] ts ns with
  | .err l e => .err l e
  | .ok b r ns2 =>
    if isS [124] r then (match goalsS ex 12 [] r.tail ns2 with
      | .err l e => .err l e
      | .ok b2 r2 ns3 => wantS [46] (b, b2) r2 ns3)
    else wantS [46] ([], b) r ns2
def labelS : Rd1 (List UInt8) := fun ts ns =>
  match ts with
  | [] => .ok [] ts ns
  | (k, _, _) :: r => if k = 1 ∧ isS [64] r = true then (match nmS ts ns with
      | .ok t r2 ns2 => .ok t r2.tail ns2
      | .err l e => .err l e) else .ok [] ts ns
def bodyS (b : List Gs) : List Gs := match b with
  | [g] => if g.1 = 1 then [] else b
  | _ => b
def partsS (ex : Rd1 Tm) : Rd1 Rs := fun ts ns =>
  match labelS ts ns with
  | .err l e => .err l e
  | .ok t r ns1 => match bothS ex r ns1 with
    | .err l e => .err l e
    | .ok h r2 ns2 => match goals2S ex r2 ns2 with
      | .err l e => .err l e
      | .ok g r3 ns3 => .ok ⟨t, h.1, h.2, g.1, bodyS g.2, 0⟩ r3 ns3
def Rs.terms (r : Rs) : List Tm := r.keep.flatMap (·.2) ++ (r.remove.flatMap (·.2) ++ (r.guard.flatMap (·.2.2) ++ r.body.flatMap (·.2.2)))
mutual
def Tm.num2 (f : Int → Int) : Tm → Tm
  | .mk k n s _ _ a => .mk k (if k = 1 then f n else n) s none 0 (numL2 f a)
def numL2 (f : Int → Int) : List Tm → List Tm
  | [] => []
  | t :: r => t.num2 f :: numL2 f r
end
def placeS (vs : List Int) (n : Int) : Int := if n ∈ vs then (vs.idxOf n : Int) else -1
def As.num2 (f : Int → Int) (a : As) : As := (a.1, numL2 f a.2)
def Gs.num2 (f : Int → Int) (g : Gs) : Gs := (g.1, g.2.1, numL2 f g.2.2)
def putS (l : List Int) (x : Int) : List Int := if x ∈ l then l else l ++ [x]
def orderS (l : List Tm) : List Int := (occL l).foldl putS []
def numberS (r : Rs) : Rs :=
  let f := placeS (orderS r.terms)
  ⟨r.name, r.keep.map (As.num2 f), r.remove.map (As.num2 f), r.guard.map (Gs.num2 f), r.body.map (Gs.num2 f), (orderS r.terms).length⟩
def ruleS (ex : Rd1 Tm) : List Tok → PS Rs := fun ts =>
  match partsS ex ts [] with
  | .err l e => .err l e
  | .ok r ts2 ns => .ok (numberS r) ts2 ns
def declsS (acc : List (List UInt8 × Int)) (ts : List Tok) : PS (List (List UInt8 × Int)) :=
  if 30 ≤ acc.length then .err ts.tail.length 6
  else match nmS ts.tail [] with
    | .err l e => .err l e
    | .ok t r _ => match wantS [47] t r [] with
      | .err l e => .err l e
      | .ok _ r2 _ => match r2 with
        | [] => .err 0 0
        | (k, d, _) :: r3 => if k ≠ 3 then .err r2.length 16 else if 6 < valD d then .err r2.length 6
            else if isS [44] r3 then (if _h : r3.length < ts.length then declsS (acc ++ [(t, valD d)]) r3 else .err 0 0) else wantS [46] (acc ++ [(t, valD d)]) r3 []
termination_by ts.length
def allDecls (acc : List (List UInt8 × Int)) (ts : List Tok) : PS (List (List UInt8 × Int)) :=
  if isW [99, 111, 110, 115, 116, 114, 97, 105, 110, 116] ts then
    match declsS acc ts with
    | .ok l r _ => if _h : r.length < ts.length then allDecls l r else .err 0 0
    | .err l e => .err l e
  else .ok acc ts []
termination_by ts.length
def rulesS (ex : Rd1 Tm) (acc : List Rs) (ts : List Tok) : PS (List Rs) :=
  match ts with
  | [] => .err 0 0
  | (k, t, g) :: r =>
    if k = 0 then .ok acc ((k, t, g) :: r) []
    else if 40 ≤ acc.length then .err ((k, t, g) :: r).length 6
    else match ruleS ex ((k, t, g) :: r) with
      | .ok x r2 _ => if _h : r2.length < ((k, t, g) :: r).length then rulesS ex (acc ++ [x]) r2 else .err 0 0
      | .err l e => .err l e
termination_by ts.length
def programS (ex : Rd1 Tm) (ts : List Tok) : PS (List (List UInt8 × Int) × List Rs) :=
  match allDecls [] ts with
  | .err l e => .err l e
  | .ok d r _ => match rulesS ex [] r with
    | .ok l r2 _ => .ok (d, l) r2 []
    | .err l e => .err l e
def onlyS {α : Type} : PS α → PS α
  | .ok v ts ns => if (ts.headD (0, [], false)).1 = 0 then .ok v ts ns else .err ts.length 16
  | .err l e => .err l e
def queryS (ex : Rd1 Tm) (ts : List Tok) : PS (List Gs × List (List UInt8)) :=
  match onlyS (goalsS ex 40 [] ts []) with
  | .ok l r ns => .ok (l.map (Gs.num2 (placeS (orderS (l.flatMap (·.2.2))))), (orderS (l.flatMap (·.2.2))).map fun v => ns.getD v.toNat []) r ns
  | .err l e => .err l e
end Go.Proofs.YtnghanpmmbcbbaaGreatDoor
namespace Go.Proofs.YtnghanpmmbcbbaaGreatDoor
open Go.RowKit
section
variable {w : World} {R : Nat} {A : Option Addr} {c : Nat} {l : List Tk} {i : Nat} {z : Value} {ns : List (List UInt8)} {at_ : Nat} {er : Int}
end
end Go.Proofs.YtnghanpmmbcbbaaGreatDoor
namespace Go.Proofs.YtnghanpmmbcbbaaGreatDoor
open Go.RowKit
section
variable {w : World} {R : Nat} {A : Option Addr} {c : Nat} {l : List Tk} {i : Nat} {z : Value} {ns : List (List UInt8)} {at_ : Nat} {er : Int}
def FailedAt (R : Nat) (A : Option Addr) (c : Nat) (l : List Tk) (i : Nat) (z : Value) (ns : List (List UInt8)) (w : World) (p : Nat) (e : Int) (w' : World) : Prop := Kp R z z w w' ∧ Pr w' R A c l i z ns p e
def stepI (l : List Tk) (i : Nat) : Nat := if i + 1 < l.length then i + 1 else i
def isT (kd : Int) (s : List UInt8) (t : Tk) : Bool := t.1 == kd && t.2.2 == s
end
end Go.Proofs.YtnghanpmmbcbbaaGreatDoor
namespace Go.Proofs.YtnghanpmmbcbbaaGreatDoor
open Go
def markT (l : List Tk) (i : Nat) : Bool := match i with
  | 0 => false
  | j + 1 => (l.getD (j + 1) default).1 == 3 && ((l.getD j default).2.2 == [45] && (l.getD (j + 1) default).2.1 == (l.getD j default).2.1 + 1)
def leftT (l : List Tk) (i : Nat) : List Tok := if i < l.length then ((l.getD i default).1, (l.getD i default).2.2, markT l i) :: leftT l (i + 1) else []
termination_by l.length - i
def Ended (l : List Tk) : Prop := 0 < l.length ∧ ∀ i, i < l.length → ((l.getD i default).1 = 0 ↔ i + 1 = l.length)
def offT (l : List Tk) (left : Nat) : Nat := (l.getD (l.length - left) default).2.1
def absP (at_ : Nat) (prev : List UInt8) : List Tk → List Tok
  | [] => []
  | x :: r => (x.1, x.2.2, (x.1 == 3 && (prev == [45] && x.2.1 == at_ + 1))) :: absP x.2.1 x.2.2 r
end Go.Proofs.YtnghanpmmbcbbaaGreatDoor
namespace Go.Proofs.YtnghanpmmbcbbaaGreatDoor
open Go
abbrev EndT : List Tok := [(0, [], false)]
def ExtW {α : Type} (f : Rd1 α) : Prop := ∀ a ns v r ns2, f (a ++ EndT) ns = .ok v r ns2 → ∃ b, r = b ++ EndT ∧ b.length < a.length ∧ ∀ x, b ≠ [] → f (a ++ x) ns = .ok v (b ++ x) ns2
def ExtS {α : Type} (f : Rd1 α) : Prop := ∀ a ns v r ns2, f (a ++ EndT) ns = .ok v r ns2 → ∃ b, r = b ++ EndT ∧ b.length < a.length ∧ ∀ x, f (a ++ x) ns = .ok v (b ++ x) ns2
section
variable {ex : Rd1 Tm} (hex : ExtW ex)
include hex
end
section
variable {ex : Rd1 Tm} (hex : ExtW ex)
include hex
end
end Go.Proofs.YtnghanpmmbcbbaaGreatDoor
namespace Go.Proofs.YtnghanpmmbcbbaaGreatDoor
open Go
def Suf {α : Type} (f : Rd1 α) : Prop := ∀ ts ns v r ns2, f ts ns = .ok v r ns2 → r <:+ ts
section
variable {ex : Rd1 Tm} (hex : Suf ex)
include hex
end
section
variable {ex : Rd1 Tm} (hex : Suf ex)
include hex
end
end Go.Proofs.YtnghanpmmbcbbaaGreatDoor
namespace Go.Proofs.YtnghanpmmbcbbaaGreatDoor
open Go
section
variable {ex : Rd1 Tm} (hex : ExtW ex)
include hex
end
def NoEnd (l : List Tok) : Prop := ∀ t ∈ l, t.1 ≠ 0
end Go.Proofs.YtnghanpmmbcbbaaGreatDoor
namespace Go.Proofs.YtnghanpmmbcbbaaGreatDoor
open Go
abbrev constraintW : List UInt8 := [99, 111, 110, 115, 116, 114, 97, 105, 110, 116]
end Go.Proofs.YtnghanpmmbcbbaaGreatDoor
namespace Go.Proofs.YtnghanpmmbcbbaaGreatDoor
open Go
def dedS (l : List Int) : List Int := l.foldl putS []
theorem putS_mem (l : List Int) (x y : Int) : y ∈ putS l x ↔ y ∈ l ∨ y = x := by
  unfold putS
  split
  · constructor
    · exact .inl
    · rintro (h | rfl)
      · exact h
      · assumption
  · simp
def stepC (n v : Int) : Int := if n < 0 ∨ n < v ∨ v < 0 then -1 else max n (v + 1)
def cntS (n : Int) (xs : List Int) : Int := xs.foldl stepC n
theorem place_in {vs : List Int} {v : Int} (h : v ∈ vs) : placeS vs v = (vs.idxOf v : Int) := by unfold placeS; rw [if_pos h]
theorem ded_map {f : Int → Int} (o : List Int) : ∀ (l : List Int), (∀ x ∈ l ++ o, ∀ y ∈ l ++ o, f x = f y → x = y) → (o.map f).foldl putS (l.map f) = (o.foldl putS l).map f := by
  induction o with
  | nil => intro l _; rfl
  | cons x o ih =>
    intro l hi
    rw [List.map_cons, List.foldl_cons, List.foldl_cons]
    have e : putS (l.map f) (f x) = (putS l x).map f := by
      unfold putS
      by_cases hx : x ∈ l
      · rw [if_pos (List.mem_map_of_mem hx), if_pos hx]
      · rw [if_neg hx, if_neg ?_]
        · simp
        · intro hm
          obtain ⟨y, hy, e⟩ := List.mem_map.1 hm
          have := hi y (by simp [hy]) x (by simp) e
          exact hx (this ▸ hy)
    rw [e]
    refine ih _ fun a ha b hb hab => hi a ?_ b ?_ hab
    · rcases List.mem_append.1 ha with h | h
      · rcases (putS_mem l x a).1 h with h | rfl
        · simp [h]
        · simp
      · simp [h]
    · rcases List.mem_append.1 hb with h | h
      · rcases (putS_mem l x b).1 h with h | rfl
        · simp [h]
        · simp
      · simp [h]
theorem place_inj {vs : List Int} {x y : Int} (hx : x ∈ vs) (hy : y ∈ vs) (h : placeS vs x = placeS vs y) : x = y := by
  rw [place_in hx, place_in hy] at h
  have h1 : vs.idxOf x = vs.idxOf y := by omega
  have h2 := List.getElem_idxOf (List.idxOf_lt_length_iff.2 hx)
  have h3 := List.getElem_idxOf (List.idxOf_lt_length_iff.2 hy)
  rw [← h2, ← h3]
  simp only [h1]
def cntT (n : Int) (l : List Tm) : Int := l.foldl (fun n t => cntS n (dedS t.occ)) n
end Go.Proofs.YtnghanpmmbcbbaaGreatDoor
namespace Go.Proofs.YtnghanpmmbcbbaaGreatDoor
open Go
def AllA (l : List As) : Prop := ∀ a ∈ l, rightA a.1 a.2 = true
def AllG (l : List Gs) : Prop := ∀ g ∈ l, rightG g = true
theorem AllA.nil : AllA [] := fun _ h => by cases h
theorem AllG.nil : AllG [] := fun _ h => by cases h
structure RuleOk (q : Rs) : Prop where
  some : 1 ≤ q.keep.length + q.remove.length
  heads : q.keep.length + q.remove.length ≤ 4
  guards : q.guard.length ≤ 12
  bodies : q.body.length ≤ 12
  keepR : AllA q.keep
  removeR : AllA q.remove
  guardR : AllG q.guard
  bodyR : AllG q.body
  count : cntT 0 q.terms = (q.vars : Int)
end Go.Proofs.YtnghanpmmbcbbaaGreatDoor
namespace Go.Proofs.YtnghanpmmbcbbaaGreatDoor
open Go
def Named (ns : List (List UInt8)) (l : List Tm) : Prop := ∀ v ∈ occL l, 0 ≤ v ∧ v < (ns.length : Int)
theorem Named.nil (ns : List (List UInt8)) : Named ns [] := fun _ h => by cases h
def Nms {α : Type} (tm : α → List Tm) (f : Rd1 α) : Prop := ∀ ts ns v r ns2, f ts ns = .ok v r ns2 → ns <+: ns2 ∧ Named ns2 (tm v)
abbrev one (t : Tm) : List Tm := [t]
section
variable {ex : Rd1 Tm} (hex : Nms one ex)
include hex
end
def Nrm (f : Rd1 Tm) : Prop := ∀ ts ns v r ns2, f ts ns = .ok v r ns2 → v.kind = 2 ∨ v.args = []
theorem place_map {g : Int → Int} {vs : List Int} (hg : ∀ x ∈ vs, ∀ y ∈ vs, g x = g y → x = y) {v : Int} (hv : v ∈ vs) : placeS (vs.map g) (g v) = placeS vs v := by
  rw [place_in hv, place_in (List.mem_map_of_mem hv)]
  congr 1
  induction vs with
  | nil => cases hv
  | cons a vs ih =>
    rw [List.map_cons]
    by_cases h : a = v
    · subst h; simp
    · have hga : g a ≠ g v := fun e => h (hg a (by simp) v hv e)
      have hv2 : v ∈ vs := by
        rcases List.mem_cons.1 hv with e | h2
        · exact absurd e.symm h
        · exact h2
      have i := ih (fun x hx y hy => hg x (List.mem_cons_of_mem _ hx) y (List.mem_cons_of_mem _ hy)) hv2
      have e1 : (g a == g v) = false := by simpa using hga
      have e2 : (a == v) = false := by simpa using h
      rw [List.idxOf_cons, List.idxOf_cons, e1, e2, i]
end Go.Proofs.YtnghanpmmbcbbaaGreatDoor
namespace Go.Proofs.YtnghanpmmbcbbaaGreatDoor
open Go
section
variable (K : Nat → Bool) (X : Nat → List UInt8) (a : Nat)
def nsU : Nat → List (List UInt8)
  | 0 => []
  | i + 1 => if a ≤ i ∧ K i = true then (nameS (X i) (nsU i)).2 else nsU i
def gU (v : Int) : Int := ((nameS (X v.toNat) (nsU K X a v.toNat)).1 : Int)
end
section
variable {K : Nat → Bool} {X : Nat → List UInt8} {a : Nat}
def VTok (K : Nat → Bool) (a : Nat) (i : Nat) : Prop := a ≤ i ∧ K i = true
def nsO (X : Nat → List UInt8) (P : List Int) : List (List UInt8) := P.foldl (fun ns v => (nameS (X v.toNat) ns).2) []
def OkP (K : Nat → Bool) (a : Nat) (P : List Int) : Prop := P.Nodup ∧ ∀ v ∈ P, 0 ≤ v ∧ VTok K a v.toNat
theorem OkP.left {P Q : List Int} (h : OkP K a (P ++ Q)) : OkP K a P := ⟨(List.nodup_append.1 h.1).1, fun v hv => h.2 v (List.mem_append.2 (.inl hv))⟩
mutual
def Tm.neat : Tm → Prop
  | .mk k n s _ _ a => (k = 0 ∧ s.size = 0 ∧ a = []) ∨ (k = 1 ∧ s.size = 0 ∧ a = []) ∨ (k = 2 ∧ n = 0 ∧ neatL a)
def neatL : List Tm → Prop
  | [] => True
  | t :: r => t.neat ∧ neatL r
end
mutual
def Tm.numP (X : Nat → List UInt8) : Tm → List (List UInt8) → Tm × List (List UInt8)
  | .mk k n s A c a, ns => if k = 1 then (.mk k ((nameS (X n.toNat) ns).1 : Int) s A c a, (nameS (X n.toNat) ns).2) else (.mk k n s A c (numPL X a ns).1, (numPL X a ns).2)
def numPL (X : Nat → List UInt8) : List Tm → List (List UInt8) → List Tm × List (List UInt8)
  | [], ns => ([], ns)
  | t :: r, ns => ((t.numP X ns).1 :: (numPL X r (t.numP X ns).2).1, (numPL X r (t.numP X ns).2).2)
end
end
end Go.Proofs.YtnghanpmmbcbbaaGreatDoor
namespace Go.Proofs.YtnghanpmmbcbbaaGreatDoor
open Go.RowKit
theorem ret_bool {a b : Bool} (h : a = b) : Ending.returned (.bool a) = .returned (.bool b) := by rw [h]
theorem len_str (s : ByteArray) : s.data.toList.length = s.size := Array.length_toList
theorem low_at (x : UInt8) (w : World) {r : Bool} (h : lowB x = r) :
    Calls Tryz.prog 111 #[.int .u8 (x.toNat : Int)] w fun e w' => e = .returned (.bool r) ∧ w = w' := by
  subst h
  by_cases h1 : 97 ≤ x.toNat
  · have h1' : (97 : Int) ≤ (x.toNat : Int) := by omega
    by_cases h2 : x.toNat ≤ 122
    · have h2' : (x.toNat : Int) ≤ 122 := by omega
      have HV := Lib.hid (show lowB x = true by simp only [lowB, h1, h2, and_self, decide_true])
      clear h1 h2
      go_enter Tryz.func111, Tryz.ntmps111
      go_wp2
      go_ret
      exact ⟨ret_bool (by rw [HV.out]), rfl⟩
    · have h2' : decide ((x.toNat : Int) ≤ 122) = false := by simp; omega
      have HV := Lib.hid (show lowB x = false by simp only [lowB, h2, and_false, decide_false])
      clear h1 h2
      go_enter Tryz.func111, Tryz.ntmps111
      go_wp2
      go_ret
      exact ⟨ret_bool (by rw [HV.out]), rfl⟩
  · have h1' : decide ((97 : Int) ≤ (x.toNat : Int)) = false := by simp; omega
    have HV := Lib.hid (show lowB x = false by simp only [lowB, h1, false_and, decide_false])
    clear h1
    go_enter Tryz.func111, Tryz.ntmps111
    go_wp2
    go_ret
    exact ⟨ret_bool (by rw [HV.out]), rfl⟩
theorem upp_at (x : UInt8) (w : World) {r : Bool} (h : uppB x = r) :
    Calls Tryz.prog 149 #[.int .u8 (x.toNat : Int)] w fun e w' => e = .returned (.bool r) ∧ w = w' := by
  subst h
  by_cases h1 : 65 ≤ x.toNat
  · have h1' : (65 : Int) ≤ (x.toNat : Int) := by omega
    by_cases h2 : x.toNat ≤ 90
    · have h2' : (x.toNat : Int) ≤ 90 := by omega
      have HV := Lib.hid (show uppB x = true by simp only [uppB, h1, h2, and_self, decide_true])
      clear h1 h2
      go_enter Tryz.func149, Tryz.ntmps149
      go_wp2
      go_ret
      exact ⟨ret_bool (by rw [HV.out]), rfl⟩
    · have h2' : decide ((x.toNat : Int) ≤ 90) = false := by simp; omega
      have HV := Lib.hid (show uppB x = false by simp only [uppB, h2, and_false, decide_false])
      clear h1 h2
      go_enter Tryz.func149, Tryz.ntmps149
      go_wp2
      go_ret
      exact ⟨ret_bool (by rw [HV.out]), rfl⟩
  · have h1' : decide ((65 : Int) ≤ (x.toNat : Int)) = false := by simp; omega
    have HV := Lib.hid (show uppB x = false by simp only [uppB, h1, false_and, decide_false])
    clear h1
    go_enter Tryz.func149, Tryz.ntmps149
    go_wp2
    go_ret
    exact ⟨ret_bool (by rw [HV.out]), rfl⟩
theorem dig_at (x : UInt8) (w : World) {r : Bool} (h : digB x = r) :
    Calls Tryz.prog 150 #[.int .u8 (x.toNat : Int)] w fun e w' => e = .returned (.bool r) ∧ w = w' := by
  subst h
  by_cases h1 : 48 ≤ x.toNat
  · have h1' : (48 : Int) ≤ (x.toNat : Int) := by omega
    by_cases h2 : x.toNat ≤ 57
    · have h2' : (x.toNat : Int) ≤ 57 := by omega
      have HV := Lib.hid (show digB x = true by simp only [digB, h1, h2, and_self, decide_true])
      clear h1 h2
      go_enter Tryz.func150, Tryz.ntmps150
      go_wp2
      go_ret
      exact ⟨ret_bool (by rw [HV.out]), rfl⟩
    · have h2' : decide ((x.toNat : Int) ≤ 57) = false := by simp; omega
      have HV := Lib.hid (show digB x = false by simp only [digB, h2, and_false, decide_false])
      clear h1 h2
      go_enter Tryz.func150, Tryz.ntmps150
      go_wp2
      go_ret
      exact ⟨ret_bool (by rw [HV.out]), rfl⟩
  · have h1' : decide ((48 : Int) ≤ (x.toNat : Int)) = false := by simp; omega
    have HV := Lib.hid (show digB x = false by simp only [digB, h1, false_and, decide_false])
    clear h1
    go_enter Tryz.func150, Tryz.ntmps150
    go_wp2
    go_ret
    exact ⟨ret_bool (by rw [HV.out]), rfl⟩
theorem ref_low_at (x : UInt8) (w : World) {r : Bool} (h : lowB x = r) :
    Calls Tryz.prog 78 #[.int .u8 (x.toNat : Int)] w fun e w' => e = .returned (.bool r) ∧ w = w' := by
  subst h
  by_cases h1 : 97 ≤ x.toNat
  · have h1' : (97 : Int) ≤ (x.toNat : Int) := by omega
    by_cases h2 : x.toNat ≤ 122
    · have h2' : (x.toNat : Int) ≤ 122 := by omega
      have HV := Lib.hid (show lowB x = true by simp only [lowB, h1, h2, and_self, decide_true])
      clear h1 h2
      go_enter Tryz.func78, Tryz.ntmps78
      go_wp2
      go_ret
      exact ⟨ret_bool (by rw [HV.out]), rfl⟩
    · have h2' : decide ((x.toNat : Int) ≤ 122) = false := by simp; omega
      have HV := Lib.hid (show lowB x = false by simp only [lowB, h2, and_false, decide_false])
      clear h1 h2
      go_enter Tryz.func78, Tryz.ntmps78
      go_wp2
      go_ret
      exact ⟨ret_bool (by rw [HV.out]), rfl⟩
  · have h1' : decide ((97 : Int) ≤ (x.toNat : Int)) = false := by simp; omega
    have HV := Lib.hid (show lowB x = false by simp only [lowB, h1, false_and, decide_false])
    clear h1
    go_enter Tryz.func78, Tryz.ntmps78
    go_wp2
    go_ret
    exact ⟨ret_bool (by rw [HV.out]), rfl⟩
theorem ref_upp_at (x : UInt8) (w : World) {r : Bool} (h : uppB x = r) :
    Calls Tryz.prog 122 #[.int .u8 (x.toNat : Int)] w fun e w' => e = .returned (.bool r) ∧ w = w' := by
  subst h
  by_cases h1 : 65 ≤ x.toNat
  · have h1' : (65 : Int) ≤ (x.toNat : Int) := by omega
    by_cases h2 : x.toNat ≤ 90
    · have h2' : (x.toNat : Int) ≤ 90 := by omega
      have HV := Lib.hid (show uppB x = true by simp only [uppB, h1, h2, and_self, decide_true])
      clear h1 h2
      go_enter Tryz.func122, Tryz.ntmps122
      go_wp2
      go_ret
      exact ⟨ret_bool (by rw [HV.out]), rfl⟩
    · have h2' : decide ((x.toNat : Int) ≤ 90) = false := by simp; omega
      have HV := Lib.hid (show uppB x = false by simp only [uppB, h2, and_false, decide_false])
      clear h1 h2
      go_enter Tryz.func122, Tryz.ntmps122
      go_wp2
      go_ret
      exact ⟨ret_bool (by rw [HV.out]), rfl⟩
  · have h1' : decide ((65 : Int) ≤ (x.toNat : Int)) = false := by simp; omega
    have HV := Lib.hid (show uppB x = false by simp only [uppB, h1, false_and, decide_false])
    clear h1
    go_enter Tryz.func122, Tryz.ntmps122
    go_wp2
    go_ret
    exact ⟨ret_bool (by rw [HV.out]), rfl⟩
end Go.Proofs.YtnghanpmmbcbbaaGreatDoor
namespace Go.Proofs.YtnghanpmmbcbbaaGreatDoor
open Go.RowKit
theorem take_next {s : ByteArray} {k : Nat} (h : k < s.size) : s.data.toList.take (k + 1) = s.data.toList.take k ++ [s[k]] := by
  rw [List.take_succ_eq_append_getElem (by simpa using h)]; rfl
theorem all_next {s : ByteArray} {k : Nat} (h : k < s.size) (ha : ∀ c ∈ s.data.toList.take k, inB c = true) (hc : inB s[k] = true) : ∀ c ∈ s.data.toList.take (k + 1), inB c = true := by
  intro c hm
  rw [take_next h] at hm
  rcases List.mem_append.1 hm with h1 | h1
  · exact ha c h1
  · obtain rfl := List.mem_singleton.1 h1
    exact hc
theorem word_stop {s : ByteArray} {k : Nat} (h : k < s.size) (hc : inB s[k] = false) : wordB s.data.toList = false := by
  cases hw : wordB s.data.toList
  · rfl
  · have := ((wordB_iff _).1 hw).2.2 s[k] (List.getElem_mem (l := s.data.toList) (n := k) (by simpa using h))
    rw [this] at hc
    cases hc
theorem word_end {s : ByteArray} (h1 : 1 ≤ s.size) (h2 : s.size ≤ 40) (ha : ∀ c ∈ s.data.toList.take s.size, inB c = true) : wordB s.data.toList = true := by
  rw [wordB_iff, len_str]
  refine ⟨h1, h2, fun c hc => ha c ?_⟩
  rw [List.take_of_length_le (by rw [len_str]; omega)]
  exact hc
theorem word_short {s : ByteArray} (h : s.size < 1) : wordB s.data.toList = false := by
  cases hw : wordB s.data.toList
  · rfl
  · have := ((wordB_iff _).1 hw).1
    rw [len_str] at this
    omega
theorem word_long {s : ByteArray} (h : 40 < s.size) : wordB s.data.toList = false := by
  cases hw : wordB s.data.toList
  · rfl
  · have := ((wordB_iff _).1 hw).2.1
    rw [len_str] at this
    omega
set_option maxRecDepth 100000 in
set_option maxHeartbeats 1000000 in
theorem word_at (s : ByteArray) (w : World) (hs : s.size ≤ 9223372036854775807) {r : Bool} (hr : wordB s.data.toList = r) :
    Calls Tryz.prog 110 #[.string s] w fun e w' => e = .returned (.bool r) ∧ w = w' := by
  subst hr
  by_cases h1 : s.size < 1
  · have h1' : ((s.size : Nat) : Int) < 1 := by omega
    have HV := Lib.hid (word_short h1)
    clear h1
    go_enter Tryz.func110, Tryz.ntmps110
    go_wp2
    go_ret
    exact ⟨ret_bool (by rw [HV.out]), rfl⟩
  by_cases h2 : 40 < s.size
  · have h1' : decide (((s.size : Nat) : Int) < 1) = false := by simp; omega
    have h2' : (40 : Int) < ((s.size : Nat) : Int) := by omega
    have HV := Lib.hid (word_long h2)
    clear h1 h2
    go_enter Tryz.func110, Tryz.ntmps110
    go_wp2
    go_ret
    exact ⟨ret_bool (by rw [HV.out]), rfl⟩
  have h1' : decide (((s.size : Nat) : Int) < 1) = false := by simp; omega
  have h2' : decide ((40 : Int) < ((s.size : Nat) : Int)) = false := by simp; omega
  have H1 := Lib.hid (show 1 ≤ s.size by omega)
  have H2 := Lib.hid (show s.size ≤ 40 by omega)
  clear h1 h2
  go_enter Tryz.func110, Tryz.ntmps110
  go_wp2
  go_loop [14] (fun i => ∃ k : Nat, k ≤ s.size ∧ i = .int .i64 (k : Int) ∧ Hid (∀ c ∈ s.data.toList.take k, inB c = true)) (fun i => s.size - (intOf i).toNat)
  case atStart => exact ⟨0, Nat.zero_le _, rfl, fun c hc => by simp at hc⟩
  case round =>
    obtain ⟨k, hk, rfl, ha⟩ := hrel
    by_cases hlt : k < s.size
    · obtain ⟨b1, hb1⟩ : ∃ b, lowB s[k] = b := ⟨_, rfl⟩
      obtain ⟨b2, hb2⟩ : ∃ b, uppB s[k] = b := ⟨_, rfl⟩
      obtain ⟨b3, hb3⟩ : ∃ b, digB s[k] = b := ⟨_, rfl⟩
      have HI := Lib.hid (show inB s[k] = (b1 || b2 || b3 || undB s[k]) by unfold inB; rw [hb1, hb2, hb3])
      have q1 := Lib.hid hb1
      have q2 := Lib.hid hb2
      have q3 := Lib.hid hb3
      clear hb1 hb2 hb3
      cases b1
      · cases b2
        · cases b3
          · by_cases h4 : s[k].toNat = 95
            · have h4' : ((s[k].toNat : Int) != 95) = false := by simp; omega
              have HN := Lib.hid (all_next hlt ha.out (by rw [HI.out]; simp only [undB, h4, decide_true, Bool.or_true]))
              clear h4
              go_wp2_with (first | (go_at_call 111; refine (low_at _ _ q1).mono ?_; rintro e w' ⟨rfl, rfl⟩) | (go_at_call 149; refine (upp_at _ _ q2).mono ?_; rintro e w' ⟨rfl, rfl⟩) | (go_at_call 150; refine (dig_at _ _ q3).mono ?_; rintro e w' ⟨rfl, rfl⟩))
              go_round
              case rel => exact ⟨k + 1, by omega, by go_num, HN.out⟩
              case measure => simp [intOf]; omega
            · have h4' : ((s[k].toNat : Int) != 95) = true := by simp; omega
              have HN := Lib.hid (word_stop hlt (by rw [HI.out]; simp only [undB, h4, decide_false, Bool.or_false]))
              clear h4
              go_wp2_with (first | (go_at_call 111; refine (low_at _ _ q1).mono ?_; rintro e w' ⟨rfl, rfl⟩) | (go_at_call 149; refine (upp_at _ _ q2).mono ?_; rintro e w' ⟨rfl, rfl⟩) | (go_at_call 150; refine (dig_at _ _ q3).mono ?_; rintro e w' ⟨rfl, rfl⟩))
              go_ret
              exact ⟨ret_bool (by rw [HN.out]), rfl⟩
          · have HN := Lib.hid (all_next hlt ha.out (by rw [HI.out]; simp))
            go_wp2_with (first | (go_at_call 111; refine (low_at _ _ q1).mono ?_; rintro e w' ⟨rfl, rfl⟩) | (go_at_call 149; refine (upp_at _ _ q2).mono ?_; rintro e w' ⟨rfl, rfl⟩) | (go_at_call 150; refine (dig_at _ _ q3).mono ?_; rintro e w' ⟨rfl, rfl⟩))
            go_round
            case rel => exact ⟨k + 1, by omega, by go_num, HN.out⟩
            case measure => simp [intOf]; omega
        · have HN := Lib.hid (all_next hlt ha.out (by rw [HI.out]; simp))
          go_wp2_with (first | (go_at_call 111; refine (low_at _ _ q1).mono ?_; rintro e w' ⟨rfl, rfl⟩) | (go_at_call 149; refine (upp_at _ _ q2).mono ?_; rintro e w' ⟨rfl, rfl⟩) | (go_at_call 150; refine (dig_at _ _ q3).mono ?_; rintro e w' ⟨rfl, rfl⟩))
          go_round
          case rel => exact ⟨k + 1, by omega, by go_num, HN.out⟩
          case measure => simp [intOf]; omega
      · have HN := Lib.hid (all_next hlt ha.out (by rw [HI.out]; simp))
        go_wp2_with (first | (go_at_call 111; refine (low_at _ _ q1).mono ?_; rintro e w' ⟨rfl, rfl⟩) | (go_at_call 149; refine (upp_at _ _ q2).mono ?_; rintro e w' ⟨rfl, rfl⟩) | (go_at_call 150; refine (dig_at _ _ q3).mono ?_; rintro e w' ⟨rfl, rfl⟩))
        go_round
        case rel => exact ⟨k + 1, by omega, by go_num, HN.out⟩
        case measure => simp [intOf]; omega
    · obtain rfl : k = s.size := by omega
      have HN := Lib.hid (word_end H1.out H2.out ha.out)
      go_wp2
      go_ret
      exact ⟨ret_bool (by rw [HN.out]), rfl⟩
end Go.Proofs.YtnghanpmmbcbbaaGreatDoor
