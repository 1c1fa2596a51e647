/-
  A reader in memory (a text and a place in it), and what a call of its methods leaves as it was: all blocks but the reader's own.
-/
import Derived.Test.YtlpibnbabgfiiaaGreatDoorTtPlain
import Derived.Test.YtlpibnbabgfiiaaGreatDoorTmBelow
import Derived.Test.YtlpibnbabgfiiaaGreatDoorLaid
namespace Go.Proofs.YtlpibnbabgfiiaaGreatDoor
open Go.RowKit

/-- All blocks that were there are as they were, but for block R. -/
structure Keeps (R : Nat) (w w' : World) : Prop where
  os : w'.os = w.os
  tape : w'.tape = w.tape
  output : w'.output = w.output
  size : w.heap.size ≤ w'.heap.size
  block : ∀ k, k < w.heap.size → k ≠ R → w'.heap[k]? = w.heap[k]?

theorem Keeps.refl (R : Nat) (w : World) : Keeps R w w := ⟨rfl, rfl, rfl, Nat.le_refl _, fun _ _ _ => rfl⟩
theorem Keeps.trans {R : Nat} {a b c : World} (h : Keeps R a b) (k : Keeps R b c) : Keeps R a c :=
  ⟨k.os.trans h.os, k.tape.trans h.tape, k.output.trans h.output, Nat.le_trans h.size k.size, fun i hi hr => (k.block i (Nat.lt_of_lt_of_le hi h.size) hr).trans (h.block i hi hr)⟩
theorem Below.keeps {w w' : World} (h : Below w.heap.size w w') (R : Nat) : Keeps R w w' := ⟨h.os, h.tape, h.output, h.size, fun k hk _ => h.block k hk⟩
theorem Keeps.drew {R : Nat} {a w : World} (h : Keeps R a w) : Keeps R a w.drew := ⟨h.os, h.tape, h.output, h.size, h.block⟩
theorem Keeps.drewN {R : Nat} {a w : World} (h : Keeps R a w) (n : Nat) : Keeps R a (w.drewN n) := ⟨h.os, h.tape, h.output, h.size, h.block⟩
theorem Keeps.alloc {R : Nat} {a w : World} (h : Keeps R a w) (o : Obj) : Keeps R a (w.alloc o) := h.trans (Below.keeps ((Below.refl _ _).alloc (Nat.le_refl _) o) R)
theorem Keeps.set {R : Nat} {a w : World} (h : Keeps R a w) (q : Nat) (sp : Option Nat) (v : Value) : Keeps R a (w.setCell ⟨R, q, sp⟩ v) :=
  h.trans ⟨rfl, rfl, rfl, by simp [World.setCell], fun k _ hr => Below.heap_setCell _ _ _ _ hr⟩
/-- A store into a block that is new since a. -/
theorem Keeps.own {R : Nat} {a w : World} (h : Keeps R a w) {p : Addr} (hp : a.heap.size ≤ p.block) (v : Value) : Keeps R a (w.setCell p v) :=
  ⟨h.os, h.tape, h.output, by simpa [World.setCell] using h.size, fun k hk hr => (Below.heap_setCell _ _ _ _ (by omega)).trans (h.block k hk hr)⟩
theorem Keeps.cell {R : Nat} {w w' : World} (h : Keeps R w w') {p : Addr} (hp : p.block < w.heap.size) (hr : p.block ≠ R) : w'.cell? p = w.cell? p := by
  have := h.block p.block hp hr
  simp only [World.cell?, this]
theorem Keeps.frozen {R : Nat} {w w' : World} (h : Keeps R w w') {p : Addr} (hp : p.block < w.heap.size) (hr : p.block ≠ R) : w'.frozen? p = w.frozen? p := by
  have := h.block p.block hp hr
  simp only [World.frozen?, this]
/-- A reader that is new since a: below a's end nothing has turned. -/
theorem Keeps.below {R : Nat} {a w w' : World} (hb : Below a.heap.size a w) (h : Keeps R w w') (hR : a.heap.size ≤ R) : Below a.heap.size a w' :=
  hb.trans ⟨h.os, h.tape, h.output, h.size, fun k hk => h.block k (Nat.lt_of_lt_of_le hk hb.size) (by omega)⟩

/-- W has w's blocks from lo on, but for those of X. -/
def Agree (lo : Nat) (X : Nat → Prop) (w W : World) : Prop := ∀ b, lo ≤ b → b < w.heap.size → ¬ X b → W.heap[b]? = w.heap[b]?
theorem Agree.refl (lo : Nat) (X : Nat → Prop) (w : World) : Agree lo X w w := fun _ _ _ _ => rfl
theorem Agree.cell {lo : Nat} {X : Nat → Prop} {w W : World} (h : Agree lo X w W) {p : Addr} (h1 : lo ≤ p.block) (h2 : p.block < w.heap.size) (h3 : ¬ X p.block) : W.cell? p = w.cell? p := by
  have := h p.block h1 h2 h3
  simp only [World.cell?, this]
abbrev No : Nat → Prop := fun _ => False
abbrev Is (b : Nat) : Nat → Prop := fun k => k = b
abbrev Is2 (b c : Nat) : Nat → Prop := fun k => k = b ∨ k = c
/-- A term that lies in w's blocks from lo on, but for those of X. -/
def Live (lo : Nat) (X : Nat → Prop) (w : World) (t : Tm) : Prop := ∀ W, Agree lo X w W → t.At W
/-- A list that does. -/
def LiveL (lo : Nat) (X : Nat → Prop) (w : World) (A : Option Addr) (l : List Tm) (c : Nat) : Prop := ∀ W, Agree lo X w W → Lst W A l c
section
variable {lo : Nat} {X : Nat → Prop} {w w' : World} {t : Tm} {A : Option Addr} {l : List Tm} {c : Nat}
theorem Live.at (h : Live lo X w t) : t.At w := h w (Agree.refl _ _ _)
theorem LiveL.lst (h : LiveL lo X w A l c) : Lst w A l c := h w (Agree.refl _ _ _)
theorem Agree.less {W : World} (h : Agree lo X w' W) {lo' : Nat} {Y : Nat → Prop} (hs : w.heap.size ≤ w'.heap.size) (hc : ∀ b, lo' ≤ b → b < w.heap.size → ¬ Y b → lo ≤ b ∧ ¬ X b ∧ w'.heap[b]? = w.heap[b]?) : Agree lo' Y w W := fun b h1 h2 h3 =>
  (h b (hc b h1 h2 h3).1 (Nat.lt_of_lt_of_le h2 hs) (hc b h1 h2 h3).2.1).trans (hc b h1 h2 h3).2.2
theorem Live.less {lo' : Nat} {Y : Nat → Prop} (h : Live lo' Y w t) (hs : w.heap.size ≤ w'.heap.size) (hc : ∀ b, lo' ≤ b → b < w.heap.size → ¬ Y b → lo ≤ b ∧ ¬ X b ∧ w'.heap[b]? = w.heap[b]?) : Live lo X w' t := fun W hW => h W (hW.less hs hc)
theorem LiveL.less {lo' : Nat} {Y : Nat → Prop} (h : LiveL lo' Y w A l c) (hs : w.heap.size ≤ w'.heap.size) (hc : ∀ b, lo' ≤ b → b < w.heap.size → ¬ Y b → lo ≤ b ∧ ¬ X b ∧ w'.heap[b]? = w.heap[b]?) : LiveL lo X w' A l c := fun W hW => h W (hW.less hs hc)
/-- Behind a call that writes into block R, which is older. -/
theorem Live.keeps {R : Nat} (h : Live lo X w t) (k : Keeps R w w') (hR : R < lo) : Live lo X w' t := h.less k.size fun b h1 h2 h3 => ⟨h1, h3, k.block b h2 (by omega)⟩
theorem LiveL.keeps {R : Nat} (h : LiveL lo X w A l c) (k : Keeps R w w') (hR : R < lo) : LiveL lo X w' A l c := h.less k.size fun b h1 h2 h3 => ⟨h1, h3, k.block b h2 (by omega)⟩
theorem Live.below (h : Live lo X w t) (k : Below w.heap.size w w') : Live lo X w' t := h.less k.size fun b h1 h2 h3 => ⟨h1, h3, k.block b h2⟩
theorem LiveL.below (h : LiveL lo X w A l c) (k : Below w.heap.size w w') : LiveL lo X w' A l c := h.less k.size fun b h1 h2 h3 => ⟨h1, h3, k.block b h2⟩
theorem Live.low (h : Live lo X w t) {lo' : Nat} (hl : lo' ≤ lo) : Live lo' X w t := h.less (Nat.le_refl _) fun b h1 _ h3 => ⟨by omega, h3, rfl⟩
theorem LiveL.low (h : LiveL lo X w A l c) {lo' : Nat} (hl : lo' ≤ lo) : LiveL lo' X w A l c := h.less (Nat.le_refl _) fun b h1 _ h3 => ⟨by omega, h3, rfl⟩
/-- Blocks that the term does not use may be left out. -/
theorem Live.out {Y : Nat → Prop} (h : Live lo Y w t) (hY : ∀ b, lo ≤ b → b < w.heap.size → X b → Y b) : Live lo X w t := h.less (Nat.le_refl _) fun b h1 h2 h3 => ⟨h1, fun hx => h3 (hY b h1 h2 hx), rfl⟩
theorem LiveL.out {Y : Nat → Prop} (h : LiveL lo Y w A l c) (hY : ∀ b, lo ≤ b → b < w.heap.size → X b → Y b) : LiveL lo X w A l c := h.less (Nat.le_refl _) fun b h1 h2 h3 => ⟨h1, fun hx => h3 (hY b h1 h2 hx), rfl⟩
theorem Live.set (h : Live lo X w t) {p : Addr} (hp : p.block < lo ∨ X p.block) (v : Value) : Live lo X (w.setCell p v) t := h.less (by simp [World.setCell]) fun b h1 _ h3 => ⟨h1, h3, Below.heap_setCell _ _ _ _ (fun e => hp.elim (fun h => by omega) (fun h => h3 (e ▸ h)))⟩
theorem LiveL.set (h : LiveL lo X w A l c) {p : Addr} (hp : p.block < lo ∨ X p.block) (v : Value) : LiveL lo X (w.setCell p v) A l c := h.less (by simp [World.setCell]) fun b h1 _ h3 => ⟨h1, h3, Below.heap_setCell _ _ _ _ (fun e => hp.elim (fun h => by omega) (fun h => h3 (e ▸ h)))⟩
theorem Live.alloc (h : Live lo X w t) (o : Obj) : Live lo X (w.alloc o) t := h.below ((Below.refl _ _).alloc (Nat.le_refl _) o)
theorem LiveL.alloc (h : LiveL lo X w A l c) (o : Obj) : LiveL lo X (w.alloc o) A l c := h.below ((Below.refl _ _).alloc (Nat.le_refl _) o)
/-- A block that is laid behind it is not the term's. -/
theorem Live.new (h : Live lo X w t) (o : Obj) : Live lo (fun k => X k ∨ k = w.heap.size) (w.alloc o) t := h.less (by simp) fun b h1 h2 h3 => ⟨h1, fun hx => hx.elim h3 (by omega), Below.heap_alloc _ _ _ h2⟩
theorem Live.drewN (h : Live lo X w t) (n : Nat) : Live lo X (w.drewN n) t := h
theorem LiveL.drewN (h : LiveL lo X w A l c) (n : Nat) : LiveL lo X (w.drewN n) A l c := h
theorem Live.any (ht : ∀ W, t.At W) : Live lo X w t := fun W _ => ht W
end

/-- The laid variables are older than block R. -/
def LaidAt (R : Nat) (w : World) : Prop := ∃ w0, Laid w0 ∧ w0.heap.size ≤ R ∧ Below w0.heap.size w0 w
theorem LaidAt.laid {R : Nat} {w : World} (h : LaidAt R w) : Laid w := by
  obtain ⟨w0, h1, _, h3⟩ := h
  exact h1.below h3
/-- Two cells: a text and a place in it. -/
structure Rd (w : World) (R : Nat) (s : ByteArray) (p : Nat) : Prop where
  lt : R < w.heap.size
  txt : w.cell? ⟨R, 0, none⟩ = some (.string s)
  pos : w.cell? ⟨R, 1, none⟩ = some (.int .i64 (p : Int))
  free : w.frozen? ⟨R, 1, none⟩ = false
  le : p ≤ s.size
  laid : LaidAt R w
theorem Rd.below {w w' : World} {R : Nat} {s : ByteArray} {p : Nat} (h : Rd w R s p) (hb : Below w.heap.size w w') : Rd w' R s p :=
  ⟨Nat.lt_of_lt_of_le h.lt hb.size, by rw [hb.cell (p := ⟨R, 0, none⟩) h.lt, h.txt], by rw [hb.cell (p := ⟨R, 1, none⟩) h.lt, h.pos], by rw [hb.frozen (p := ⟨R, 1, none⟩) h.lt, h.free], h.le, by
    obtain ⟨w0, h1, h2, h3⟩ := h.laid
    exact ⟨w0, h1, h2, h3.trans (hb.mono h3.size)⟩⟩
theorem Rd.drewN {w : World} {R : Nat} {s : ByteArray} {p : Nat} (h : Rd w R s p) (n : Nat) : Rd (w.drewN n) R s p := ⟨h.lt, h.txt, h.pos, h.free, h.le, by
    obtain ⟨w0, h1, h2, h3⟩ := h.laid
    exact ⟨w0, h1, h2, below_drewN h3 n⟩⟩
theorem Rd.drew {w : World} {R : Nat} {s : ByteArray} {p : Nat} (h : Rd w R s p) : Rd w.drew R s p := ⟨h.lt, h.txt, h.pos, h.free, h.le, by
    obtain ⟨w0, h1, h2, h3⟩ := h.laid
    exact ⟨w0, h1, h2, h3.drew⟩⟩
theorem Rd.alloc {w : World} {R : Nat} {s : ByteArray} {p : Nat} (h : Rd w R s p) (o : Obj) : Rd (w.alloc o) R s p := h.below ((Below.refl _ _).alloc (Nat.le_refl _) o)
theorem LaidAt.set {R : Nat} {w : World} (h : LaidAt R w) {a : Addr} (ha : R ≤ a.block) (v : Value) : LaidAt R (w.setCell a v) := by
  obtain ⟨w0, h1, h2, h3⟩ := h
  exact ⟨w0, h1, h2, h3.setCell (by omega) v⟩
theorem Rd.set {w : World} {R : Nat} {s : ByteArray} {p q : Nat} (h : Rd w R s p) (hq : q ≤ s.size) : Rd (w.setCell ⟨R, 1, none⟩ (.int .i64 (q : Int))) R s q := by
  refine ⟨by simpa [World.setCell] using h.lt, ?_, ?_, ?_, hq, h.laid.set (Nat.le_refl _) _⟩
  · rw [World.cell?_setCell_other _ _ _ _ (by simp)]; exact h.txt
  · exact World.cell?_setCell_same _ _ _ (by rw [h.pos])
  · rw [World.frozen?_setCell]; exact h.free
/-- A store elsewhere. -/
theorem Rd.other {w : World} {R : Nat} {s : ByteArray} {p : Nat} (h : Rd w R s p) {a : Addr} (ha : R < a.block) (v : Value) : Rd (w.setCell a v) R s p := by
  refine ⟨by simpa [World.setCell] using h.lt, ?_, ?_, ?_, h.le, h.laid.set (by omega) _⟩
  · rw [World.cell?_setCell_other _ _ _ _ (by rintro rfl; exact absurd ha (Nat.lt_irrefl _))]; exact h.txt
  · rw [World.cell?_setCell_other _ _ _ _ (by rintro rfl; exact absurd ha (Nat.lt_irrefl _))]; exact h.pos
  · rw [World.frozen?_setCell]; exact h.free

/-- Behind an append to a row that is newer. -/
theorem Rd.grown {w w' : World} {R : Nat} {s : ByteArray} {p : Nat} {row : Option Nat} (h : Rd w R s p) (hg : w.grownBy w' row) (hr : ∀ k, row = some k → R < k) : Rd w' R s p := by
  have hne : some R ≠ row := fun e => absurd (hr R e.symm) (Nat.lt_irrefl _)
  have hb := hg.block R h.lt hne
  refine ⟨Nat.lt_of_lt_of_le h.lt hg.size, ?_, ?_, ?_, h.le, ?_⟩
  · rw [World.cell?_of_block (a := ⟨R, 0, none⟩) hb]; exact h.txt
  · rw [World.cell?_of_block (a := ⟨R, 1, none⟩) hb]; exact h.pos
  · rw [World.frozen?_of_block (a := ⟨R, 1, none⟩) hb]; exact h.free
  · obtain ⟨w0, h1, h2, h3⟩ := h.laid
    exact ⟨w0, h1, h2, h3.grown hg h3.size (fun k hk => by have := hr k hk; omega)⟩
theorem Keeps.grown {R : Nat} {a w w' : World} {row : Option Nat} (h : Keeps R a w) (hg : w.grownBy w' row) (hr : ∀ k, row = some k → a.heap.size ≤ k) : Keeps R a w' :=
  ⟨hg.os.trans h.os, hg.tape.trans h.tape, hg.output.trans h.output, Nat.le_trans h.size hg.size, fun k hk hR =>
    (hg.block k (Nat.lt_of_lt_of_le hk h.size) (fun e => by have := hr k e.symm; omega)).trans (h.block k hk hR)⟩

/-- A struct of cells that was laid, behind a call that writes into block R, which is older. -/
theorem boxK {R : Nat} {w w' : World} {cs : Array Value} {T : TypeId} (hR : R < w.heap.size) (hk : Keeps R (w.alloc (.cells cs T)) w') :
    (∀ j v, cs[j]? = some v → w'.cell? ⟨w.heap.size, j, none⟩ = some v) ∧ (∀ j, w'.frozen? ⟨w.heap.size, j, none⟩ = false) ∧ w.heap.size < w'.heap.size := by
  have hs := hk.size
  simp only [World.size_alloc] at hs
  refine ⟨fun j v h => ?_, fun j => ?_, by omega⟩
  · rw [hk.cell (p := ⟨w.heap.size, j, none⟩) (by simp) (by simp only; omega), World.cell?_alloc_at _ _ _ _ rfl, h]
  · rw [hk.frozen (p := ⟨w.heap.size, j, none⟩) (by simp) (by simp only; omega), World.frozen?_alloc_at _ _ _ _ rfl]
/-- Four stores into one block. -/
def put4 (w : World) (b : Nat) (v0 v1 v2 v3 : Value) : World := (((w.setCell ⟨b, 0, none⟩ v0).setCell ⟨b, 1, none⟩ v1).setCell ⟨b, 2, none⟩ v2).setCell ⟨b, 3, none⟩ v3
section
variable {w : World} {b : Nat} {v0 v1 v2 v3 : Value}
theorem Keeps.put4 {R : Nat} {a : World} (h : Keeps R a w) (hb : a.heap.size ≤ b) : Keeps R a (put4 w b v0 v1 v2 v3) := (((h.own (p := ⟨b, 0, none⟩) hb _).own (p := ⟨b, 1, none⟩) hb _).own (p := ⟨b, 2, none⟩) hb _).own (p := ⟨b, 3, none⟩) hb _
theorem Rd.put4 {R p : Nat} {s : ByteArray} (h : Rd w R s p) (hb : R < b) : Rd (put4 w b v0 v1 v2 v3) R s p := (((h.other (a := ⟨b, 0, none⟩) hb _).other (a := ⟨b, 1, none⟩) hb _).other (a := ⟨b, 2, none⟩) hb _).other (a := ⟨b, 3, none⟩) hb _
theorem Live.put4 {lo : Nat} {X : Nat → Prop} {t : Tm} (h : Live lo X w t) (hb : b < lo ∨ X b) : Live lo X (put4 w b v0 v1 v2 v3) t := (((h.set (p := ⟨b, 0, none⟩) hb _).set (p := ⟨b, 1, none⟩) hb _).set (p := ⟨b, 2, none⟩) hb _).set (p := ⟨b, 3, none⟩) hb _
theorem LiveL.put4 {lo : Nat} {X : Nat → Prop} {A : Option Addr} {l : List Tm} {c : Nat} (h : LiveL lo X w A l c) (hb : b < lo ∨ X b) : LiveL lo X (put4 w b v0 v1 v2 v3) A l c := (((h.set (p := ⟨b, 0, none⟩) hb _).set (p := ⟨b, 1, none⟩) hb _).set (p := ⟨b, 2, none⟩) hb _).set (p := ⟨b, 3, none⟩) hb _
end

/-- What is still to be read. -/
def rest (s : ByteArray) (p : Nat) : List UInt8 := s.data.toList.drop p
theorem rest_len (s : ByteArray) (p : Nat) : (rest s p).length = s.size - p := by rw [rest, List.length_drop, Array.length_toList]; rfl
theorem rest_cons {s : ByteArray} {p : Nat} (h : p < s.size) : rest s p = s[p] :: rest s (p + 1) := by
  unfold rest
  rw [List.drop_eq_getElem_cons (by rw [Array.length_toList]; exact h)]
  rfl
theorem rest_end {s : ByteArray} {p : Nat} (h : s.size ≤ p) : rest s p = [] := by
  unfold rest
  rw [List.drop_eq_nil_of_le (by rw [Array.length_toList]; exact h)]
theorem rest_drop (s : ByteArray) (p k : Nat) : rest s (p + k) = (rest s p).drop k := by
  unfold rest
  rw [List.drop_drop]
theorem rest_head {s : ByteArray} {p : Nat} (h : p < s.size) : (rest s p).headD 0 = s[p] := by rw [rest_cons h]; rfl
theorem rest_tail {s : ByteArray} {p : Nat} (h : p < s.size) : (rest s p).tail = rest s (p + 1) := by rw [rest_cons h]; rfl
end Go.Proofs.YtlpibnbabgfiiaaGreatDoor
