/-
  Worlds that agree in some blocks, and what lies in them; a term that lies in blocks of a call's own.
-/
import Derived.Test.YtgialbcohkpogaaGreatTmMem
import Derived.Test.YtgialbcohkpogaaGreatTmBelow
namespace Go.Proofs.YtgialbcohkpogaaGreat
open Go.RowKit

/-- W has w's blocks from lo on, but for those of X. -/
def Agree (lo : Nat) (X : Nat → Prop) (w W : World) : Prop := ∀ b, lo ≤ b → b < w.heap.size → ¬ X b → W.heap[b]? = w.heap[b]?
theorem Agree.refl (lo : Nat) (X : Nat → Prop) (w : World) : Agree lo X w w := fun _ _ _ _ => rfl
theorem Agree.cell {lo : Nat} {X : Nat → Prop} {w W : World} (h : Agree lo X w W) {p : Addr} (h1 : lo ≤ p.block) (h2 : p.block < w.heap.size) (h3 : ¬ X p.block) : W.cell? p = w.cell? p := by
  have := h p.block h1 h2 h3
  simp only [World.cell?, this]
abbrev No : Nat → Prop := fun _ => False
abbrev Is (b : Nat) : Nat → Prop := fun k => k = b
/-- In each world of B that has w's blocks from lo on, but for those of X, the term lies. -/
def Lie (B : World → Prop) (lo : Nat) (X : Nat → Prop) (w : World) (t : Tm) : Prop := ∀ W, B W → Agree lo X w W → t.At W
abbrev Any : World → Prop := fun _ => True
section
variable {B : World → Prop} {lo : Nat} {X : Nat → Prop} {w w' : World} {t : Tm}
theorem Lie.at (h : Lie B lo X w t) (hB : B w) : t.At w := h w hB (Agree.refl _ _ _)
theorem Agree.less {W : World} (h : Agree lo X w' W) {lo' : Nat} {Y : Nat → Prop} (hs : w.heap.size ≤ w'.heap.size) (hc : ∀ b, lo' ≤ b → b < w.heap.size → ¬ Y b → lo ≤ b ∧ ¬ X b ∧ w'.heap[b]? = w.heap[b]?) : Agree lo' Y w W := fun b h1 h2 h3 =>
  (h b (hc b h1 h2 h3).1 (Nat.lt_of_lt_of_le h2 hs) (hc b h1 h2 h3).2.1).trans (hc b h1 h2 h3).2.2
theorem Lie.less {lo' : Nat} {Y : Nat → Prop} (h : Lie B lo' Y w t) (hs : w.heap.size ≤ w'.heap.size) (hc : ∀ b, lo' ≤ b → b < w.heap.size → ¬ Y b → lo ≤ b ∧ ¬ X b ∧ w'.heap[b]? = w.heap[b]?) : Lie B lo X w' t := fun W hB hW => h W hB (hW.less hs hc)
theorem Lie.below (h : Lie B lo X w t) (k : Below w.heap.size w w') : Lie B lo X w' t := h.less k.size fun b h1 h2 h3 => ⟨h1, h3, k.block b h2⟩
theorem Lie.low (h : Lie B lo X w t) {lo' : Nat} (hl : lo' ≤ lo) : Lie B lo' X w t := h.less (Nat.le_refl _) fun b h1 _ h3 => ⟨by omega, h3, rfl⟩
theorem Lie.out {Y : Nat → Prop} (h : Lie B lo Y w t) (hY : ∀ b, lo ≤ b → b < w.heap.size → X b → Y b) : Lie B lo X w t := h.less (Nat.le_refl _) fun b h1 h2 h3 => ⟨h1, fun hx => h3 (hY b h1 h2 hx), rfl⟩
theorem Lie.set (h : Lie B lo X w t) {p : Addr} (hp : p.block < lo ∨ X p.block) (v : Value) : Lie B lo X (w.setCell p v) t := h.less (by simp [World.setCell]) fun b h1 _ h3 => ⟨h1, h3, Below.heap_setCell _ _ _ _ (fun e => hp.elim (fun h => by omega) (fun h => h3 (e ▸ h)))⟩
theorem Lie.alloc (h : Lie B lo X w t) (o : Obj) : Lie B lo X (w.alloc o) t := h.below ((Below.refl _ _).alloc (Nat.le_refl _) o)
/-- A block that is laid behind it is not the term's. -/
theorem Lie.new (h : Lie B lo X w t) (o : Obj) : Lie B lo (fun k => X k ∨ k = w.heap.size) (w.alloc o) t := h.less (by simp) fun b h1 h2 h3 => ⟨h1, fun hx => hx.elim h3 (by omega), Below.heap_alloc _ _ _ h2⟩
theorem Lie.any (ht : ∀ W, B W → t.At W) : Lie B lo X w t := fun W hB _ => ht W hB
theorem Lie.of (h : Lie Any lo X w t) : Lie B lo X w t := fun W _ hW => h W trivial hW
/-- A term that lies in blocks that are newer than block T. -/
theorem Lie.new_is {T : Nat} (h : Lie B lo No w t) (hT : T < lo) : Lie B lo (Is T) w t := h.out fun b h1 _ h3 => by have : b = T := h3; omega
end
/-- All blocks that were there are as they were, but for block R. -/
structure Keeps (R : Nat) (w w' : World) : Prop where
  os : w'.os = w.os
  tape : w'.tape = w.tape
  output : w'.output = w.output
  size : w.heap.size ≤ w'.heap.size
  block : ∀ k, k < w.heap.size → k ≠ R → w'.heap[k]? = w.heap[k]?

theorem Keeps.refl (R : Nat) (w : World) : Keeps R w w := ⟨rfl, rfl, rfl, Nat.le_refl _, fun _ _ _ => rfl⟩
theorem Keeps.trans {R : Nat} {a b c : World} (h : Keeps R a b) (k : Keeps R b c) : Keeps R a c :=
  ⟨k.os.trans h.os, k.tape.trans h.tape, k.output.trans h.output, Nat.le_trans h.size k.size, fun i hi hr => (k.block i (Nat.lt_of_lt_of_le hi h.size) hr).trans (h.block i hi hr)⟩
theorem Below.keeps {w w' : World} (h : Below w.heap.size w w') (R : Nat) : Keeps R w w' := ⟨h.os, h.tape, h.output, h.size, fun k hk _ => h.block k hk⟩
theorem Keeps.drew {R : Nat} {a w : World} (h : Keeps R a w) : Keeps R a w.drew := ⟨h.os, h.tape, h.output, h.size, h.block⟩
theorem Keeps.drewN {R : Nat} {a w : World} (h : Keeps R a w) (n : Nat) : Keeps R a (w.drewN n) := ⟨h.os, h.tape, h.output, h.size, h.block⟩
theorem Keeps.alloc {R : Nat} {a w : World} (h : Keeps R a w) (o : Obj) : Keeps R a (w.alloc o) := h.trans (Below.keeps ((Below.refl _ _).alloc (Nat.le_refl _) o) R)
theorem Keeps.set {R : Nat} {a w : World} (h : Keeps R a w) (q : Nat) (sp : Option Nat) (v : Value) : Keeps R a (w.setCell ⟨R, q, sp⟩ v) :=
  h.trans ⟨rfl, rfl, rfl, by simp [World.setCell], fun k _ hr => Below.heap_setCell _ _ _ _ hr⟩
/-- A store into a block that is new since a. -/
theorem Keeps.own {R : Nat} {a w : World} (h : Keeps R a w) {p : Addr} (hp : a.heap.size ≤ p.block) (v : Value) : Keeps R a (w.setCell p v) :=
  ⟨h.os, h.tape, h.output, by simpa [World.setCell] using h.size, fun k hk hr => (Below.heap_setCell _ _ _ _ (by omega)).trans (h.block k hk hr)⟩
theorem Keeps.cell {R : Nat} {w w' : World} (h : Keeps R w w') {p : Addr} (hp : p.block < w.heap.size) (hr : p.block ≠ R) : w'.cell? p = w.cell? p := by
  have := h.block p.block hp hr
  simp only [World.cell?, this]
theorem Keeps.frozen {R : Nat} {w w' : World} (h : Keeps R w w') {p : Addr} (hp : p.block < w.heap.size) (hr : p.block ≠ R) : w'.frozen? p = w.frozen? p := by
  have := h.block p.block hp hr
  simp only [World.frozen?, this]
/-- A reader that is new since a: below a's end nothing has turned. -/
theorem Keeps.below {R : Nat} {a w w' : World} (hb : Below a.heap.size a w) (h : Keeps R w w') (hR : a.heap.size ≤ R) : Below a.heap.size a w' :=
  hb.trans ⟨h.os, h.tape, h.output, h.size, fun k hk => h.block k (Nat.lt_of_lt_of_le hk hb.size) (by omega)⟩

theorem Keeps.grown {R : Nat} {a w w' : World} {row : Option Nat} (h : Keeps R a w) (hg : w.grownBy w' row) (hr : ∀ k, row = some k → a.heap.size ≤ k) : Keeps R a w' :=
  ⟨hg.os.trans h.os, hg.tape.trans h.tape, hg.output.trans h.output, Nat.le_trans h.size hg.size, fun k hk hR =>
    (hg.block k (Nat.lt_of_lt_of_le hk h.size) (fun e => by have := hr k e.symm; omega)).trans (h.block k hk hR)⟩

theorem Lie.keeps {B : World → Prop} {lo R : Nat} {X : Nat → Prop} {w w' : World} {t : Tm} (h : Lie B lo X w t) (k : Keeps R w w') (hR : R < lo ∨ X R) : Lie B lo X w' t := h.less k.size fun b h1 h2 h3 => ⟨h1, h3, k.block b h2 (fun e => hR.elim (fun h => by omega) (fun h => h3 (e ▸ h)))⟩
theorem keepv {w w' : World} (hb : Below w.heap.size w w') {p : Addr} {v : Value} (h : w.cell? p = some v) : w'.cell? p = some v := by
  rw [hb.cell (World.block_lt_of_cell? w _ h)]; exact h
end Go.Proofs.YtgialbcohkpogaaGreat
