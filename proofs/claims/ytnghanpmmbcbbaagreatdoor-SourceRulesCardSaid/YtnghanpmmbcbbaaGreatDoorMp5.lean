/-
  PgMem.
  PrWant.
  PrName.
  PgTok.
  PgFun.
  TmEach.
  TmGround.
  TmInts.
  TmVars.
  TmFirst.
  TmKeep.
  SuClone.
-/
import Derived.Test.YtnghanpmmbcbbaaGreatDoorMp2
import Derived.Test.YtnghanpmmbcbbaaGreatDoorMp4
import Derived.Test.YtnghanpmmbcbbaaGreatDoorMp3
import Derived.Maps.AppendAt
import Derived.WalkSpells
import Derived.Lib.SliceRun
import Derived.Laws.Rows
import Derived.BigQuiet
import Derived.Deep.QuietTactic
import Derived.OwnWalk
import Derived.Laws.OwnMore
import Derived.Maps.OwnOps
import Derived.Maps.OwnSet
import Derived.Maps.Views
import Derived.Carry
import Derived.Test.YtnghanpmmbcbbaaGreatDoorMp1
namespace Go.Proofs.YtnghanpmmbcbbaaGreatDoor
open Go.RowKit
def blkO : Option Addr → List Nat
  | some p => [p.block]
  | none => []
def blkA (A : Option Addr) (n : Nat) : List Nat := if n = 0 then [] else blkO A
mutual
def Tm.blk : Tm → List Nat
  | .mk _ _ _ A _ a => blkA A a.length ++ blkL a
def blkL : List Tm → List Nat
  | [] => []
  | t :: r => t.blk ++ blkL r
end
theorem blkL_flat (l : List Tm) : blkL l = l.flatMap Tm.blk := by
  induction l with
  | nil => rfl
  | cons t r ih => rw [blkL, ih, List.flatMap_cons]
theorem blkL_append (l m : List Tm) : blkL (l ++ m) = blkL l ++ blkL m := by rw [blkL_flat, blkL_flat, blkL_flat, List.flatMap_append]
theorem at_blk {w w' : World} : (∀ t : Tm, t.At w → (∀ b ∈ t.blk, w'.heap[b]? = w.heap[b]?) → t.At w') ∧ (∀ (l : List Tm) b o, RowAt w l b o → (l ≠ [] → w'.heap[b]? = w.heap[b]?) → (∀ k ∈ blkL l, w'.heap[k]? = w.heap[k]?) → RowAt w' l b o) := by
  refine Tm.induct2 (p := fun t => t.At w → (∀ b ∈ t.blk, w'.heap[b]? = w.heap[b]?) → t.At w') (q := fun l => ∀ b o, RowAt w l b o → (l ≠ [] → w'.heap[b]? = w.heap[b]?) → (∀ k ∈ blkL l, w'.heap[k]? = w.heap[k]?) → RowAt w' l b o) (fun k n s A c a ih => ?_) (fun _ _ _ _ _ => by simp [RowAt]) (fun t r h1 h2 => ?_)
  · intro h hb
    simp only [Tm.At] at h ⊢
    refine ⟨h.1, h.2.1, h.2.2.1, fun hn => ?_⟩
    obtain ⟨b, o, rfl, hr⟩ := h.2.2.2 hn
    refine ⟨b, o, rfl, ih b o hr (fun _ => hb b ?_) fun j hj => hb j ?_⟩
    · simp only [Tm.blk, blkA, if_neg (show ¬ a.length = 0 by omega), blkO, List.mem_append, List.mem_singleton, true_or]
    · simp only [Tm.blk, List.mem_append]; exact .inr hj
  · intro b o h hb hk
    simp only [RowAt] at h ⊢
    have e : ∀ j, w'.cell? ⟨b, j, none⟩ = w.cell? ⟨b, j, none⟩ := fun j => World.cell?_of_block (hb (by simp))
    refine ⟨by rw [e, e, e, e]; exact h.1, h1 h.2.1 fun j hj => hk j (by simp [blkL, hj]), h2 b (o + 4) h.2.2 (fun _ => hb (by simp)) fun j hj => hk j (by simp [blkL, hj])⟩
theorem lst_blk {w w' : World} {A : Option Addr} {l : List Tm} {c : Nat} (h : Lst w A l c) (hb : ∀ b ∈ blkA A l.length ++ blkL l, w'.heap[b]? = w.heap[b]?) : Lst w' A l c := by
  refine ⟨h.1, h.2.1, fun hn => ?_⟩
  obtain ⟨b, o, rfl, hr⟩ := h.2.2 hn
  refine ⟨b, o, rfl, at_blk.2 l b o hr (fun _ => hb b ?_) fun j hj => hb j (List.mem_append.2 (.inr hj))⟩
  simp [blkA, blkO, show ¬ l.length = 0 by omega]
structure Elt (α : Type) where
  k : Nat
  cells : α → List Value
  len : ∀ x, (cells x).length = k
  one : ∀ x, ∀ v ∈ cells x, v.oneCell' = true
  blk : α → List Nat
  At : World → α → Prop
  frame : ∀ {x w w'}, At w x → (∀ b ∈ blk x, w'.heap[b]? = w.heap[b]?) → At w' x
def elTm : Elt Tm := ⟨4, Tm.cells, fun _ => rfl, fun x v hv => by
  simp only [Tm.cells, List.mem_cons, List.not_mem_nil, or_false] at hv
  rcases hv with rfl | rfl | rfl | rfl <;> rfl, Tm.blk, fun w t => t.At w, fun h hb => at_blk.1 _ h hb⟩
def elAm : Elt Am := ⟨2, fun x => [.string x.name, .slice x.at_ x.args.length x.cap], fun _ => rfl, fun x v hv => by
  simp only [List.mem_cons, List.not_mem_nil, or_false] at hv
  rcases hv with rfl | rfl <;> rfl, fun x => blkA x.at_ x.args.length ++ blkL x.args, fun w x => x.At w ∧ (x.args = [] → x.at_ = none ∧ x.cap = 0) ∧ x.args.length ≤ 16385, fun h hb => ⟨⟨h.1.1, lst_blk h.1.2 hb⟩, h.2⟩⟩
def elGl : Elt Gl := ⟨3, fun x => [.int .i64 x.op, .string x.name, .slice x.at_ x.args.length x.cap], fun _ => rfl, fun x v hv => by
  simp only [List.mem_cons, List.not_mem_nil, or_false] at hv
  rcases hv with rfl | rfl | rfl <;> rfl, fun x => blkA x.at_ x.args.length ++ blkL x.args, fun w x => x.At w, fun h hb => ⟨h.1, h.2.1, lst_blk h.2.2 hb⟩⟩
abbrev Dl := List UInt8 × Int
def elDl : Elt Dl := ⟨2, fun x => [.string (S x.1), .int .i64 x.2], fun _ => rfl, fun x v hv => by
  simp only [List.mem_cons, List.not_mem_nil, or_false] at hv
  rcases hv with rfl | rfl <;> rfl, fun _ => [], fun _ _ => True, fun h _ => h⟩
section
variable {α : Type} (E : Elt α)
def Elt.cellsL (l : List α) : List Value := l.flatMap E.cells
def Elt.blkL (l : List α) : List Nat := l.flatMap E.blk
theorem Elt.cellsL_len (l : List α) : (E.cellsL l).length = l.length * E.k := by
  induction l with
  | nil => simp [Elt.cellsL]
  | cons t r ih => simp only [Elt.cellsL, List.flatMap_cons, List.length_append, E.len, List.length_cons, Nat.add_mul] at *; omega
theorem Elt.cellsL_append (l m : List α) : E.cellsL (l ++ m) = E.cellsL l ++ E.cellsL m := by simp [Elt.cellsL]
theorem Elt.blkL_append (l m : List α) : E.blkL (l ++ m) = E.blkL l ++ E.blkL m := by simp [Elt.blkL]
structure SitG (lo : Nat) (w : World) (l : List α) : Prop where
  at_ : ∀ x ∈ l, E.At w x
  nd : (E.blkL l).Nodup
  bd : ∀ b ∈ E.blkL l, lo ≤ b ∧ b < w.heap.size
  fz : ∀ b ∈ E.blkL l, ∀ j, w.frozen? ⟨b, j, none⟩ = false
variable {E}
theorem SitG.frame {lo : Nat} {w w' : World} {l : List α} (h : SitG E lo w l) (hs : w.heap.size ≤ w'.heap.size) (hb : ∀ b ∈ E.blkL l, w'.heap[b]? = w.heap[b]?) : SitG E lo w' l :=
  ⟨fun x hx => E.frame (h.at_ x hx) fun b hbx => hb b (List.mem_flatMap.2 ⟨x, hx, hbx⟩), h.nd, fun b hx => ⟨(h.bd b hx).1, Nat.lt_of_lt_of_le (h.bd b hx).2 hs⟩, fun b hx j => by rw [World.frozen?_of_block (a := ⟨b, j, none⟩) (hb b hx)]; exact h.fz b hx j⟩
theorem SitG.below {lo : Nat} {w w' : World} {l : List α} (h : SitG E lo w l) (hb : Below w.heap.size w w') : SitG E lo w' l := h.frame hb.size fun b hx => hb.block b (h.bd b hx).2
theorem SitG.low {lo lo' : Nat} {w : World} {l : List α} (h : SitG E lo w l) (hl : lo' ≤ lo) : SitG E lo' w l := ⟨h.at_, h.nd, fun b hb => ⟨Nat.le_trans hl (h.bd b hb).1, (h.bd b hb).2⟩, h.fz⟩
theorem SitG.nil (lo : Nat) (w : World) : SitG E lo w [] := ⟨fun _ h => (by cases h), by simp [Elt.blkL], fun _ h => (by simp [Elt.blkL] at h), fun _ h => (by simp [Elt.blkL] at h)⟩
theorem SitG.append {lo m : Nat} {w : World} {l k : List α} (h : SitG E lo w l) (h2 : SitG E m w k) (hm : lo ≤ m) (hlt : ∀ b ∈ E.blkL l, b < m) : SitG E lo w (l ++ k) := by
  refine ⟨fun x hx => (List.mem_append.1 hx).elim (h.at_ x) (h2.at_ x), ?_, fun b hb => ?_, fun b hb => ?_⟩
  · rw [Elt.blkL_append, List.nodup_append]
    refine ⟨h.nd, h2.nd, fun a ha b hb e => ?_⟩
    have := hlt a ha
    have := (h2.bd b hb).1
    omega
  · rw [Elt.blkL_append] at hb
    rcases List.mem_append.1 hb with hb | hb
    · exact h.bd b hb
    · exact ⟨Nat.le_trans hm (h2.bd b hb).1, (h2.bd b hb).2⟩
  · rw [Elt.blkL_append] at hb
    exact (List.mem_append.1 hb).elim (h.fz b) (h2.fz b)
structure RowG (E : Elt α) (T : TypeId) (lo : Nat) (w : World) (r : Value) (l : List α) : Prop where
  row : w.ownsRow lo T E.k r l.length (E.cellsL l)
  sit : SitG E lo w l
  apart : ∀ k, r.ownBlock = some k → k ∉ E.blkL l
variable {T : TypeId} {lo : Nat} {w w' : World} {r : Value} {l : List α}
theorem RowG.frame (h : RowG E T lo w r l) (hs : w.heap.size ≤ w'.heap.size) (hb : ∀ b, lo ≤ b → b < w.heap.size → w'.heap[b]? = w.heap[b]?) : RowG E T lo w' r l :=
  ⟨own_of h.row fun k hk => hb k (own_lt h.row k hk).1 (own_lt h.row k hk).2, h.sit.frame hs fun b hx => hb b (h.sit.bd b hx).1 (h.sit.bd b hx).2, h.apart⟩
theorem RowG.below (h : RowG E T lo w r l) (hb : Below w.heap.size w w') : RowG E T lo w' r l := h.frame hb.size fun b _ h2 => hb.block b h2
theorem RowG.nil (E : Elt α) (T : TypeId) (lo : Nat) (w : World) : RowG E T lo w (.slice none 0 0) [] := ⟨⟨by simp [Elt.cellsL], .inl ⟨rfl, rfl⟩⟩, SitG.nil _ _, fun k hk => (by cases hk)⟩
theorem RowG.next {m g cap : Nat} {w2 w3 w4 : World} {u : α} (h : RowG E T lo w2 r l) (hm : lo ≤ m) (hrm : ∀ k, r.ownBlock = some k → k < m) (hlm : ∀ b ∈ E.blkL l, b < m) (hu : SitG E m w2 [u]) (hb : Below w2.heap.size w2 w3)
    (hown : w4.ownsRow lo T E.k (.slice (some ⟨g, 0, none⟩) (l.length + 1) cap) (l.length + 1) (E.cellsL l ++ E.cells u)) (hg : w3.grownBy w4 r.ownBlock) (hat : r.ownBlock = some g ∨ g = w3.heap.size) :
    RowG E T lo w4 (.slice (some ⟨g, 0, none⟩) (l.length + 1) cap) (l ++ [u]) := by
  have hall := h.sit.append hu hm hlm
  have h3 := hall.below hb
  refine ⟨by rw [List.length_append, Elt.cellsL_append]; simpa [Elt.cellsL] using hown, h3.frame hg.size fun b hx => hg.block b (h3.bd b hx).2 fun e => ?_, fun k hk hx => ?_⟩
  · rw [Elt.blkL_append] at hx
    rcases List.mem_append.1 hx with hx | hx
    · exact h.apart b e.symm hx
    · have h1 := hrm b e.symm
      have h2 := (hu.bd b hx).1
      omega
  · have e' : g = k := by simpa [Value.ownBlock] using hk
    subst e'
    rcases hat with h1 | h1
    · rw [Elt.blkL_append] at hx
      rcases List.mem_append.1 hx with hx | hx
      · exact h.apart g h1 hx
      · have h2 := hrm g h1
        have h4 := (hu.bd g hx).1
        omega
    · have h2 := (hall.bd g hx).2
      have := hb.size
      omega
theorem RowG.form (h : RowG E T lo w r l) (h0 : 0 < l.length) : ∃ g c, r = .slice (some ⟨g, 0, none⟩) l.length c ∧ l.length ≤ c ∧ c ≤ maxLen ∧ lo ≤ g ∧ g < w.heap.size ∧ g ∉ E.blkL l ∧ (∀ j, w.frozen? ⟨g, j, none⟩ = false) ∧ ∀ j u, (E.cellsL l)[j]? = some u → w.cell? ⟨g, j, none⟩ = some u := by
  rcases h.row.2 with ⟨_, h1⟩ | ⟨g, cap, cur, rfl, hb, hg, hle, hcap, hcs, hcur⟩
  · omega
  · have hlt := own_lt h.row g rfl
    refine ⟨g, cap, rfl, hle, hcap, hlt.1, hlt.2, h.apart g rfl, fun j => ?_, fun j u hu => ?_⟩
    · simp [World.frozen?, hg]
    · have hj : j < (E.cellsL l).length := (List.getElem?_eq_some_iff.1 hu).1
      rw [Elt.cellsL_len] at hj
      rw [World.ownsRow.cellAt h.row j hj]; exact hu
end
abbrev Z0 : Value := .slice none 0 0
structure Pq (w : World) (R : Nat) (A : Option Addr) (c : Nat) (l : List Tk) (i : Nat) : Prop where
  lt : R < w.heap.size
  l0 : w.cell? ⟨R, 0, none⟩ = some (.slice A l.length c)
  l1 : w.cell? ⟨R, 1, none⟩ = some (.int .i64 (i : Int))
  fr : ∀ j, w.frozen? ⟨R, j, none⟩ = false
  toks : TLst w A l c
  low : ∀ g, A = some ⟨g, 0, none⟩ → g < R
  ilt : i < l.length
section
variable {w w' : World} {R : Nat} {A : Option Addr} {c : Nat} {l : List Tk} {i : Nat}
theorem Pq.of (h : Pq w R A c l i) (hs : w.heap.size ≤ w'.heap.size) (hb : ∀ k, k ≤ R → w'.heap[k]? = w.heap[k]?) : Pq w' R A c l i := by
  have hR := hb R (Nat.le_refl _)
  have hc : ∀ j, w'.cell? ⟨R, j, none⟩ = w.cell? ⟨R, j, none⟩ := fun j => World.cell?_of_block hR
  refine ⟨Nat.lt_of_lt_of_le h.lt hs, by rw [hc, h.l0], by rw [hc, h.l1], fun j => by rw [World.frozen?_of_block (a := ⟨R, j, none⟩) hR]; exact h.fr j, ?_, h.low, h.ilt⟩
  refine ⟨h.toks.1, h.toks.2.1, fun hn => ?_⟩
  obtain ⟨g, e, hr⟩ := h.toks.2.2 hn
  have hg := h.low g e
  exact ⟨g, e, fun i hi j u hu => by rw [World.cell?_of_block (a := ⟨g, i * 3 + j, none⟩) (hb g (by omega))]; exact hr i hi j u hu⟩
theorem Pq.below (h : Pq w R A c l i) (hb : Below w.heap.size w w') : Pq w' R A c l i := h.of hb.size fun k hk => hb.block k (by have := h.lt; omega)
theorem Pq.drewN (h : Pq w R A c l i) (n : Nat) : Pq (w.drewN n) R A c l i := h.of (Nat.le_refl _) fun _ _ => rfl
theorem Pq.alloc (h : Pq w R A c l i) (o : Obj) : Pq (w.alloc o) R A c l i := h.below ((Below.refl _ _).alloc (Nat.le_refl _) o)
theorem Pq.put (h : Pq w R A c l i) {p : Addr} (hp : R < p.block) (v : Value) : Pq (w.setCell p v) R A c l i :=
  h.of (by simp [World.setCell]) fun k hk => Below.heap_setCell _ _ _ _ (by omega)
theorem Pq.grown {row : Option Nat} (h : Pq w R A c l i) (hg : w.grownBy w' row) (hr : ∀ k, row = some k → R < k) : Pq w' R A c l i :=
  h.of hg.size fun k hk => hg.block k (by have := h.lt; omega) fun e => by have := hr k e.symm; omega
theorem Pq.set (h : Pq w R A c l i) {q : Nat} (hq : q < l.length) : Pq (w.setCell ⟨R, 1, none⟩ (.int .i64 (q : Int))) R A c l q := by
  refine ⟨by simpa [World.setCell] using h.lt, ?_, World.cell?_setCell_same _ _ _ (by rw [h.l1]), fun j => by rw [World.frozen?_setCell]; exact h.fr j, ?_, h.low, hq⟩
  · rw [World.cell?_setCell_other _ _ _ _ (by simp)]; exact h.l0
  · refine ⟨h.toks.1, h.toks.2.1, fun hn => ?_⟩
    obtain ⟨g, e, hr⟩ := h.toks.2.2 hn
    have hg := h.low g e
    exact ⟨g, e, fun i hi j u hu => by rw [World.cell?_setCell_other _ _ _ _ (by simp only [ne_eq, Addr.mk.injEq]; omega)]; exact hr i hi j u hu⟩
theorem Pq.tok (h : Pq w R A c l i) : ∃ g, A = some ⟨g, 0, none⟩ ∧ w.cell? ⟨g, i * 3, none⟩ = some (.int .i64 (l.getD i default).1) ∧ w.cell? ⟨g, i * 3 + 1, none⟩ = some (.int .i64 ((l.getD i default).2.1 : Int)) ∧ w.cell? ⟨g, i * 3 + 2, none⟩ = some (.string (S (l.getD i default).2.2)) := h.toks.get h.ilt
abbrev Kq (R : Nat) (w w' : World) : Prop := Kp R Z0 Z0 w w'
end
structure BoxL (w : World) (T : Nat) (vs : List Value) : Prop where
  lt : T < w.heap.size
  cells : ∀ j v, vs[j]? = some v → w.cell? ⟨T, j, none⟩ = some v
  free : ∀ j, w.frozen? ⟨T, j, none⟩ = false
section
variable {w w' : World} {T : Nat} {vs : List Value}
theorem BoxL.of (h : BoxL w T vs) (hs : w.heap.size ≤ w'.heap.size) (hb : w'.heap[T]? = w.heap[T]?) : BoxL w' T vs :=
  ⟨Nat.lt_of_lt_of_le h.lt hs, fun j v hv => by rw [World.cell?_of_block (a := ⟨T, j, none⟩) hb]; exact h.cells j v hv, fun j => by rw [World.frozen?_of_block (a := ⟨T, j, none⟩) hb]; exact h.free j⟩
theorem BoxL.below (h : BoxL w T vs) (hb : Below w.heap.size w w') : BoxL w' T vs := h.of hb.size (hb.block T h.lt)
theorem BoxL.alloc (h : BoxL w T vs) (o : Obj) : BoxL (w.alloc o) T vs := h.below ((Below.refl _ _).alloc (Nat.le_refl _) o)
theorem BoxL.put (h : BoxL w T vs) {p : Addr} (hp : p.block ≠ T) (v : Value) : BoxL (w.setCell p v) T vs := h.of (by simp [World.setCell]) (Below.heap_setCell _ _ _ _ hp.symm)
theorem BoxL.grown {row : Option Nat} (h : BoxL w T vs) (hg : w.grownBy w' row) (hr : row ≠ some T) : BoxL w' T vs := h.of hg.size (hg.block T h.lt (fun e => hr e.symm))
theorem BoxL.new (w : World) (vs : List Value) (t : TypeId) : BoxL (w.alloc (.cells vs.toArray t)) w.heap.size vs :=
  ⟨by simp, fun j v hv => by rw [World.cell?_alloc_at _ _ _ _ rfl, List.getElem?_toArray]; exact hv, fun j => World.frozen?_alloc_at _ _ _ _ rfl⟩
theorem BoxL.set (h : BoxL w T vs) {j : Nat} (hj : j < vs.length) (v : Value) : BoxL (w.setCell ⟨T, j, none⟩ v) T (vs.set j v) := by
  refine ⟨by simpa [World.setCell] using h.lt, fun i u hu => ?_, fun i => by rw [World.frozen?_setCell]; exact h.free i⟩
  by_cases e : i = j
  · subst e
    rw [List.getElem?_set_self hj] at hu
    injection hu with hu
    subst hu
    exact World.cell?_setCell_same _ _ _ (by rw [h.cells i _ (List.getElem?_eq_getElem hj)])
  · rw [List.getElem?_set_ne (fun h => e h.symm)] at hu
    rw [World.cell?_setCell_other _ _ _ _ (by simp only [ne_eq, Addr.mk.injEq, true_and, and_true]; omega)]
    exact h.cells i u hu
theorem BoxL.set4 {a b c d : Value} (h : BoxL w T [a, b, c, d]) (a' b' c' d' : Value) : BoxL ((((w.setCell ⟨T, 0, none⟩ a').setCell ⟨T, 1, none⟩ b').setCell ⟨T, 2, none⟩ c').setCell ⟨T, 3, none⟩ d') T [a', b', c', d'] :=
  (((h.set (j := 0) (by simp) a').set (j := 1) (by simp) b').set (j := 2) (by simp) c').set (j := 3) (by simp) d'
theorem SitG.put {α : Type} {E : Elt α} {lo : Nat} {L : List α} (h : SitG E lo w L) {p : Addr} (hp : p.block ∉ E.blkL L) (v : Value) : SitG E lo (w.setCell p v) L :=
  h.frame (by simp [World.setCell]) fun b hb => Below.heap_setCell _ _ _ _ (fun e => hp (e ▸ hb))
end
def kindO : List UInt8 → Int
  | [] => 0
  | c :: _ => if lowB c then 1 else if wordyB c then 2 else if digB c then 3 else 4
structure GoodT (l : List Tk) : Prop where
  ended : Ended l
  kinds : ∀ i, i < l.length → (l.getD i default).1 = kindO (l.getD i default).2.2
  nums : ∀ i, i < l.length → (l.getD i default).1 = 3 → (∀ c ∈ (l.getD i default).2.2, digB c = true) ∧ valD (l.getD i default).2.2 ≤ 2147483648
  offs : ∀ i, i < l.length → (l.getD i default).2.1 ≤ 16384
  small : l.length ≤ 16385
  texts : ∀ i, i < l.length → (l.getD i default).2.2.length ≤ 16384
theorem GoodT.acc {l : List Tk} (h : GoodT l) {i : Nat} (hi : i < l.length) {s : List UInt8} {k : Int} (hs : kindO s = k) : ((l.getD i default).2.2 == s) = isT k s (l.getD i default) := by
  unfold isT
  by_cases e : (l.getD i default).2.2 = s
  · rw [h.kinds i hi, e, hs]; simp
  · rw [beq_eq_false_iff_ne.2 e, Bool.and_false]
end Go.Proofs.YtnghanpmmbcbbaaGreatDoor
namespace Go.Proofs.YtnghanpmmbcbbaaGreatDoor
open Go.RowKit
section
variable {w : World} {R : Nat} {A : Option Addr} {c : Nat} {l : List Tk} {i : Nat} {z : Value} {ns : List (List UInt8)} {at_ : Nat} {er : Int}
def WantR (R : Nat) (A : Option Addr) (c : Nat) (l : List Tk) (i : Nat) (z : Value) (ns : List (List UInt8)) (s : List UInt8) (w : World) (en : Ending) (w' : World) : Prop :=
  (isT 4 s (l.getD i default) = true ∧ en = .returned (.bool true) ∧ Kp R z z w w' ∧ ∃ a, Pr w' R A c l (stepI l i) z ns a 0) ∨
  (isT 4 s (l.getD i default) = false ∧ en = .returned (.bool false) ∧ FailedAt R A c l i z ns w (l.getD i default).2.1 16 w')
end
end Go.Proofs.YtnghanpmmbcbbaaGreatDoor
namespace Go.Proofs.YtnghanpmmbcbbaaGreatDoor
open Go.RowKit
section
variable {w : World} {R : Nat} {A : Option Addr} {c : Nat} {l : List Tk} {i : Nat} {z : Value} {ns : List (List UInt8)} {at_ : Nat} {er : Int}
def NameR (R : Nat) (A : Option Addr) (c : Nat) (l : List Tk) (i : Nat) (z : Value) (ns : List (List UInt8)) (w : World) (en : Ending) (w' : World) : Prop :=
  ((l.getD i default).1 = 1 ∧ resB (l.getD i default).2.2 = false ∧ en = .returned (.tuple #[.string (S (l.getD i default).2.2), .bool true]) ∧ Kp R z z w w' ∧ ∃ a, Pr w' R A c l (stepI l i) z ns a 0) ∨
  (∃ e, ((l.getD i default).1 ≠ 1 ∧ e = 16 ∨ (l.getD i default).1 = 1 ∧ resB (l.getD i default).2.2 = true ∧ e = 7) ∧ en = .returned (.tuple #[.string ⟨#[]⟩, .bool false]) ∧ FailedAt R A c l i z ns w (l.getD i default).2.1 e w')
end
end Go.Proofs.YtnghanpmmbcbbaaGreatDoor
namespace Go.Proofs.YtnghanpmmbcbbaaGreatDoor
open Go.RowKit
section
variable {w : World} {R : Nat} {A : Option Addr} {c : Nat} {l : List Tk} {i : Nat}
def AccR (R : Nat) (A : Option Addr) (c : Nat) (l : List Tk) (i : Nat) (b : Bool) (w : World) (en : Ending) (w' : World) : Prop :=
  en = .returned (.bool b) ∧ Kq R w w' ∧ Pq w' R A c l (if b then i + 1 else i)
def NameQ (R : Nat) (A : Option Addr) (c : Nat) (l : List Tk) (i : Nat) (w : World) (en : Ending) (w' : World) : Prop :=
  ∃ (t : List UInt8) (er : Int) (j : Nat), en = .returned (.tuple #[.string (S t), .int .i64 er]) ∧ Kq R w w' ∧ Pq w' R A c l j ∧ t.length ≤ 16384 ∧
    ((er = 0 ∧ j = i + 1 ∧ t = (l.getD i default).2.2 ∧ ∀ ns, nmS (leftT l i) ns = .ok t (leftT l j) ns) ∨ ((er = 16 ∨ er = 7) ∧ j = i ∧ t = [] ∧ ∀ ns, nmS (leftT l i) ns = .err (leftT l j).length er))
end
end Go.Proofs.YtnghanpmmbcbbaaGreatDoor
namespace Go.Proofs.YtnghanpmmbcbbaaGreatDoor
open Go.RowKit
theorem term_info : (Tryz.prog.info? 69).map (fun i => (i.zero, i.size, i.bytes)) = some (some (.agg #[.int .i64 0, .int .i64 0, .string ⟨#[]⟩, .slice none 0 0]), 4, 56) := by kernel_rfl
def PCloned (w : World) (l : List Tm) (e : Ending) (w' : World) : Prop := ∃ g cap, e = .returned (.slice (some ⟨g, 0, none⟩) l.length cap) ∧ w.heap.size ≤ g ∧ g < w'.heap.size ∧ l.length ≤ cap ∧ cap ≤ maxLen ∧ (∀ j u, (pcells l)[j]? = some u → w'.cell? ⟨g, j, none⟩ = some u) ∧ Below w.heap.size w w' ∧ ∀ j, w'.frozen? ⟨g, j, none⟩ = false
def FunQ (lo : Nat) (w : World) (s : ByteArray) (l : List Tm) (e : Ending) (w' : World) : Prop :=
  ∃ A, e = .returned (Tm.mk 2 0 s A l.length l).val ∧ Below w.heap.size w w' ∧ SitG elTm lo w' [.mk 2 0 s A l.length l] ∧ ∀ b ∈ blkA A l.length, w.heap.size ≤ b
end Go.Proofs.YtnghanpmmbcbbaaGreatDoor
namespace Go.Proofs.YtnghanpmmbcbbaaGreatDoor
open Go.RowKit
section
variable {σ : Type}
def runV (step : σ → Int → Bool × σ) : σ → List Int → Bool × σ
  | s, [] => (true, s)
  | s, x :: r => if (step s x).1 then runV step (step s x).2 r else (false, (step s x).2)
structure Visits (step : σ → Int → Bool × σ) (Inv : Nat → σ → World → Prop) (w0 : World) (F : FuncId) (caps : Array Value) : Prop where
  enter : ∀ (args : Array Value) (W : World), (callFunc F args).run Tryz.prog W = .ok (.enter F args) W
  call : ∀ (f : Nat) (s : σ) (n : Int) (W : World), Fits n → Inv (f + 1) s W → Calls Tryz.prog F (#[.int .i64 n] ++ caps) W fun e W' => e = .returned (.bool (step s n).1) ∧ Inv f (step s n).2 W'
  keep : ∀ (f : Nat) (s : σ) (W W' : World), Inv f s W → Below W.heap.size W W' → Inv f s W'
  less : ∀ (f g : Nat) (s : σ) (W : World), g ≤ f → Inv f s W → Inv g s W
  base : ∀ (f : Nat) (s : σ) (W : World), Inv f s W → Below w0.heap.size w0 W
end
end Go.Proofs.YtnghanpmmbcbbaaGreatDoor
namespace Go.Proofs.YtnghanpmmbcbbaaGreatDoor
open Go.RowKit
theorem enters_fn {f : FuncId} {fn : Func} {c : Code} (hf : Tryz.prog.funcs[f]? = some fn) (hname : (fn.name == "runtime.NumGoroutine") = false) (hb : fn.body = some c) (args : Array Value) (W : World) :
    (callFunc f args).run Tryz.prog W = .ok (.enter f args) W := by
  have h1 : fn.name ≠ "runtime.NumGoroutine" := by simpa using hname
  simp [callFunc, hf, h1, hb, mark]
def noStep (_ : Unit) (_ : Int) : Bool × Unit := (false, ())
def otherStep (v : Int) (_ : Unit) (n : Int) : Bool × Unit := (n != v, ())
end Go.Proofs.YtnghanpmmbcbbaaGreatDoor
namespace Go.Proofs.YtnghanpmmbcbbaaGreatDoor
open Go.RowKit
def icells (l : List Int) : List Value := l.map (Value.int .i64)
theorem icells_append (l m : List Int) : icells (l ++ m) = icells l ++ icells m := by simp [icells]
theorem icells_one (l : List Int) : ∀ u ∈ icells l, u.oneCell' = true := by
  intro u hu
  obtain ⟨_, _, rfl⟩ := List.mem_map.1 hu
  rfl
theorem icells_get {l : List Int} {i : Nat} (h : i < l.length) : (icells l)[i]? = some (.int .i64 (l.getD i 0)) := by simp [icells, List.getD, h]
def Ints (w : World) (A : Option Addr) (l : List Int) : Prop := 0 < l.length → ∃ b o, A = some ⟨b, o, none⟩ ∧ ∀ i, i < l.length → w.cell? ⟨b, o + i, none⟩ = some (.int .i64 (l.getD i 0))
theorem Ints.get {w : World} {A : Option Addr} {l : List Int} (h : Ints w A l) {i : Nat} (hi : i < l.length) : ∃ b o, A = some ⟨b, o, none⟩ ∧ w.cell? ⟨b, o + i, none⟩ = some (.int .i64 (l.getD i 0)) := by
  obtain ⟨b, o, e, hc⟩ := h (by omega)
  exact ⟨b, o, e, hc i hi⟩
theorem Ints.below {w w' : World} {A : Option Addr} {l : List Int} (h : Ints w A l) (hb : Below w.heap.size w w') : Ints w' A l := fun hn => by
  obtain ⟨b, o, e, hc⟩ := h hn
  refine ⟨b, o, e, fun i hi => ?_⟩
  rw [hb.cell (World.block_lt_of_cell? w _ (hc i hi))]
  exact hc i hi
def OwnI (w : World) (base : Nat) (v : Value) (l : List Int) : Prop := w.ownsRow base 3 1 v l.length (icells l)
theorem OwnI.nil (w : World) (base : Nat) : OwnI w base (.slice none 0 0) [] := World.ownsRow_nil w base _ _
theorem OwnI.form {w : World} {base : Nat} {v : Value} {l : List Int} (h : OwnI w base v l) : ∃ A c, v = .slice A l.length c ∧ Ints w A l ∧ l.length ≤ c := by
  rcases h.2 with ⟨rfl, h0⟩ | ⟨g, cap, cur, rfl, _, _, hn, _, _, _⟩
  · exact ⟨none, 0, by rw [h0], fun hn => absurd hn (by omega), by omega⟩
  · refine ⟨_, cap, rfl, fun _ => ⟨g, 0, rfl, fun i hi => ?_⟩, hn⟩
    rw [Nat.zero_add, World.ownsRow.cellAt h i (by omega), icells_get hi]
theorem OwnI.alloc {w : World} {base : Nat} {v : Value} {l : List Int} (h : OwnI w base v l) (o : Obj) : OwnI (w.alloc o) base v l := World.ownsRow.alloc h o
theorem OwnI.below {w w' : World} {base : Nat} {v : Value} {l : List Int} (h : OwnI w base v l) (hb : Below w.heap.size w w') : OwnI w' base v l :=
  World.ownsRow.kept (row := none) h ⟨hb.os, hb.tape, hb.output, hb.size, fun k hk _ => hb.block k hk⟩ (by
    rcases h.2 with ⟨rfl, _⟩ | ⟨g, cap, cur, rfl, _⟩
    · exact .inl rfl
    · exact .inr (by simp [Value.ownBlock]))
theorem take_int {l : List Int} {k : Nat} (h : k < l.length) : l.take (k + 1) = l.take k ++ [l.getD k 0] := by
  rw [List.take_succ_eq_append_getElem h]
  simp [List.getD, List.getElem?_eq_getElem h]
theorem getD_int {l : List Int} {k : Nat} (h : k < l.length) : l.getD k 0 ∈ l := by
  simp only [List.getD, List.getElem?_eq_getElem h, Option.getD_some]
  exact List.getElem_mem h
set_option maxHeartbeats 400000 in
theorem has_at (A : Option Addr) (l : List Int) (c : Nat) (n : Int) (w : World) (hI : Ints w A l) (hlen : l.length ≤ 9223372036854775807) {r : Bool} (hr : decide (n ∈ l) = r) :
    Calls Tryz.prog 102 #[.slice A l.length c, .int .i64 n] w fun e w' => e = .returned (.bool r) ∧ w = w' := by
  have HR := Lib.hid hr
  clear hr
  go_enter Tryz.func102, Tryz.ntmps102
  go_wp2
  go_loop [5] (fun i => ∃ j : Nat, j ≤ l.length ∧ i = .int .i64 j ∧ Hid (n ∉ l.take j)) (fun i => l.length - (intOf i).toNat)
  case atStart => exact ⟨0, Nat.zero_le _, rfl, Lib.hid (by simp)⟩
  case round =>
    obtain ⟨j, hj, rfl, HN⟩ := hrel
    by_cases hlt : j < l.length
    · obtain ⟨b, o, rfl, hc⟩ := hI.get hlt
      have HT := Lib.hid (take_int hlt)
      have HM := Lib.hid (getD_int hlt)
      generalize l.getD j 0 = x at *
      by_cases hx : x = n
      · subst hx
        have HE := Lib.hid (show true = r by rw [← HR.out]; simp [HM.out])
        go_wp2
        go_ret
        exact ⟨by rw [← HE.out]; rfl, rfl⟩
      · have hx' : (x == n) = false := by simpa using hx
        have HN' := Lib.hid (show n ∉ l.take (j + 1) by
          rw [HT.out, List.mem_append, List.mem_singleton]
          exact fun h => h.elim HN.out (fun e => hx e.symm))
        clear hx
        go_wp2
        go_round
        case rel => exact ⟨j + 1, by omega, by go_num, HN'⟩
        case measure => simp [intOf]; omega
    · obtain rfl : j = l.length := by omega
      have HE := Lib.hid (show false = r by
        have := HN.out
        rw [List.take_length] at this
        rw [← HR.out]; simp [this])
      go_wp2
      go_ret
      exact ⟨by rw [← HE.out]; rfl, rfl⟩
end Go.Proofs.YtnghanpmmbcbbaaGreatDoor
namespace Go.Proofs.YtnghanpmmbcbbaaGreatDoor
open Go.RowKit
def addV (l : List Int) (x : Int) : List Int := if x ∈ l then l else l ++ [x]
def addAll (l xs : List Int) : List Int := xs.foldl addV l
theorem addAll_append (l xs ys : List Int) : addAll l (xs ++ ys) = addAll (addAll l xs) ys := by simp [addAll]
theorem addAll_one (l : List Int) (x : Int) : addAll l [x] = addV l x := rfl
theorem addV_length (l : List Int) (x : Int) : (addV l x).length ≤ l.length + 1 := by unfold addV; split <;> simp
theorem addAll_length (l xs : List Int) : (addAll l xs).length ≤ l.length + xs.length := by
  induction xs generalizing l with
  | nil => simp [addAll]
  | cons x r ih =>
    have h1 := ih (addV l x)
    have h2 := addV_length l x
    simp only [addAll, List.foldl_cons, List.length_cons] at *
    omega
theorem occ_length : (∀ t : Tm, t.occ.length ≤ t.size) ∧ (∀ l, (occL l).length ≤ sizeL l) := by
  refine Tm.induct2 (fun k n s A c a ih => ?_) (Nat.le_refl _) (fun t r h1 h2 => ?_)
  · simp only [Tm.occ, Tm.size]
    by_cases h1 : k = 1
    · simp [h1]
    · by_cases h2 : k = 2
      · simp [h2]; omega
      · simp [h1, h2]
  · simp only [occL, sizeL, List.length_append]; omega
theorem mem_addV (l : List Int) (x y : Int) : y ∈ addV l x ↔ y ∈ l ∨ y = x := by
  unfold addV
  split
  · constructor
    · exact .inl
    · rintro (h | rfl)
      · exact h
      · assumption
  · simp
theorem mem_addAll (l xs : List Int) (y : Int) : y ∈ addAll l xs ↔ y ∈ l ∨ y ∈ xs := by
  induction xs generalizing l with
  | nil => simp [addAll]
  | cons x r ih =>
    have := ih (addV l x)
    simp only [addAll, List.foldl_cons] at this ⊢
    rw [this, mem_addV]
    simp [or_assoc]
def Grows (w0 : World) (l : List Int) (e : Ending) (w' : World) : Prop := ∃ v, e = .returned v ∧ OwnI w' w0.heap.size v l ∧ Below w0.heap.size w0 w'
theorem int_info : (Tryz.prog.info? 3).map (fun i => (i.zero, i.size, i.bytes)) = some (some (.int .i64 0), 1, 8) := by kernel_rfl
theorem box4g {w w' : World} {v0 v1 v2 v3 : Value} {T : TypeId} {o : Obj} {row : Option Nat} (hg : ((w.alloc (.cells #[v0, v1, v2, v3] T)).alloc o).grownBy w' row) (hr : ∀ k, row = some k → k < w.heap.size) :
    w'.cell? ⟨w.heap.size, 0, none⟩ = some v0 ∧ w'.cell? ⟨w.heap.size, 1, none⟩ = some v1 ∧ w'.cell? ⟨w.heap.size, 2, none⟩ = some v2 ∧ w'.cell? ⟨w.heap.size, 3, none⟩ = some v3 := by
  have h : ∀ j, w'.cell? ⟨w.heap.size, j, none⟩ = (#[v0, v1, v2, v3] : Array Value)[j]? := fun j => by
    rw [World.cell?_of_block (a := ⟨w.heap.size, j, none⟩) (hg.block w.heap.size (by simp; omega) (fun e => by have := hr _ e.symm; omega)), World.cell?_alloc_lt _ _ _ (by simp), World.cell?_alloc_at _ _ _ _ rfl]
  exact ⟨h 0, h 1, h 2, h 3⟩
theorem Grows.mk {w0 w' : World} {l : List Int} {e : Ending} {v : Value} (he : e = .returned v) (h : OwnI w' w0.heap.size v l) (hb : Below w0.heap.size w0 w') : Grows w0 l e w' := ⟨v, he, h, hb⟩
theorem one_new (w : World) (o : Obj) (T : TypeId) (x : Value) : ∀ (j : Nat) (u : Value), [x][j]? = some u → ((w.alloc o).alloc (.cells #[x] T)).cell? ((⟨w.heap.size + 1, 0, none⟩ : Addr).add j) = some u := by
  intro j u hu
  cases j with
  | zero =>
    have e : (w.alloc o).heap.size = w.heap.size + 1 := by simp
    rw [add_plain, Nat.add_zero, ← e, World.cell?_alloc_at _ _ _ _ rfl]
    simpa using hu
  | succ j => simp at hu
theorem OwnI.put {w : World} {base : Nat} {v : Value} {l : List Int} {n : Int} (h : w.ownsRow base 3 1 v (l.length + 1) (icells l ++ [.int .i64 n])) (hn : n ∉ l) : OwnI w base v (addV l n) := by
  unfold OwnI addV
  rw [if_neg hn, List.length_append, icells_append]
  exact h
def VarsAt (t : Tm) : Prop := ∀ (v : Value) (l : List Int) (w0 w : World), t.At w0 → Below w0.heap.size w0 w → OwnI w w0.heap.size v l → l.length + t.size ≤ 1000000 →
    Calls Tryz.prog 61 #[v, t.val] w (Grows w0 (addAll l t.occ))
set_option maxHeartbeats 1000000 in
theorem vars_at (t : Tm) : VarsAt t := by
  induction t using Tm.induct with
  | h k n s A c a ih0 =>
    intro v l w0 w hat hw hown hsz
    obtain ⟨V, q, rfl, hI, hq⟩ := hown.form
    have hat1 := hat.below hw
    have qa := Lib.hid (args_at (.mk k n s A c a))
    have hocc := occ_used (.mk k n s A c a)
    have hsu := size_used (.mk k n s A c a)
    by_cases k1 : k = 1
    · subst k1
      have hus : (Tm.mk 1 n s A c a).used = [] := by simp [Tm.used, Tm.kind]
      have HO := Lib.hid (show (Tm.mk 1 n s A c a).occ = [n] by rw [hocc]; simp [Tm.kind, Tm.num])
      rw [hus] at qa hsu
      generalize (Tm.mk 1 n s A c a).uat = U at qa
      generalize (Tm.mk 1 n s A c a).ucap = uq at qa
      have hlen : l.length ≤ 9223372036854775807 := by omega
      obtain ⟨b1, hb1⟩ : ∃ b, decide (n ∈ l) = b := ⟨_, rfl⟩
      have qh := Lib.hid (fun W (h : Below w.heap.size w W) => has_at V l q n W (hI.below h) hlen hb1)
      have B0 := Lib.hid (show ∀ o, Below w.heap.size w (w.alloc o) from fun o => (Below.refl _ _).alloc (Nat.le_refl _) o)
      have HB := Lib.hid hb1
      have HW := Lib.hid hown
      clear ih0 hocc hb1 hat hat1 hI hown
      show Calls Tryz.prog 61 #[.slice V l.length q, .agg #[.int .i64 1, .int .i64 n, .string s, .slice A a.length c]] w _
      cases b1
      · have hn : n ∉ l := by simpa using HB.out
        have HN := Lib.hid hn
        obtain ⟨i0, hi, hz0, hz1, hz2⟩ := info_parts int_info
        have hw1 := (hw.alloc hw.size (.cells #[.int .i64 1, .int .i64 n, .string s, .slice A a.length c] 69)).alloc (by have := hw.size; simp; omega) (.cells #[.int .i64 n] 3)
        have HS := Lib.hid hw1.size
        clear hn
        go_enter Tryz.func61, Tryz.ntmps61
        go_wp2_with fail
        refine (qh.out _ (B0.out _)).mono ?_
        rintro e w' ⟨rfl, rfl⟩
        go_wp2_with (at_builtin; refine wpList_append_own _ rfl _ _ 49 rfl w0.heap.size 3 i0 (.int .i64 0) 1 8 Tryz.underlying49 hi hz0 hz1 hz2 rfl (by decide) _ l.length (icells l) rfl ((HW.out.alloc _).alloc _) ⟨w.heap.size + 1, 0, none⟩ 1 1 [.int .i64 n] rfl rfl (one_new _ _ _ _) (icells_one [n]) (by unfold maxLen; omega) (by omega) HS.out ?_; intro v' w1 hown1 hg1 _; obtain ⟨d0, d1, d2, d3⟩ := box4g hg1 (fun k hk => (World.ownsRow.lt HW.out k hk).2))
        have hb1 : Below w0.heap.size w0 w1 := hw1.grown hg1 HS.out (fun k hk => (World.ownsRow.lt HW.out k hk).1)
        have HP := Lib.hid (OwnI.put hown1 HN.out)
        clear hown1 hg1
        go_wp2_with fail
        refine (qa.out _).mono ?_
        rintro e w2 ⟨rfl, hb2⟩
        go_wp2_with fail
        refine wp_loop_rounds 1 ?_
        rw [rounds_succ]
        go_wp2_with fail
        go_ret
        refine Grows.mk rfl ?_ (hb1.trans (hb2.mono hb1.size))
        rw [HO.out, addAll_one]
        exact HP.out.below hb2
      · have hn : n ∈ l := by simpa using HB.out
        have HN := Lib.hid hn
        clear hn
        go_enter Tryz.func61, Tryz.ntmps61
        go_wp2_with fail
        refine (qh.out _ (B0.out _)).mono ?_
        rintro e w' ⟨rfl, rfl⟩
        go_wp2_with fail
        refine (qa.out _).mono ?_
        rintro e w2 ⟨rfl, hb2⟩
        have hb3 : Below w.heap.size w w2 := (B0.out _).trans (hb2.mono (by simp))
        go_wp2_with fail
        refine wp_loop_rounds 1 ?_
        rw [rounds_succ]
        go_wp2_with fail
        go_ret
        refine Grows.mk rfl ?_ (hw.trans (hb3.mono hw.size))
        rw [HO.out, addAll_one]
        unfold addV
        rw [if_pos HN.out]
        exact HW.out.below hb3
    · have k1' : (k == 1) = false := by simp [k1]
      have hl := hat.ulst
      have ih : ∀ x ∈ (Tm.mk k n s A c a).used, VarsAt x := by
        unfold Tm.used
        split
        · exact ih0
        · intro x hx; cases hx
      have HO := Lib.hid (show (Tm.mk k n s A c a).occ = occL (Tm.mk k n s A c a).used by rw [hocc]; exact if_neg k1)
      have hol := occ_length.2 (Tm.mk k n s A c a).used
      rw [hsu] at hsz
      rw [HO.out]
      clear ih0 hocc hat hat1 hI k1 HO hsu
      generalize (Tm.mk k n s A c a).used = us at *
      generalize (Tm.mk k n s A c a).uat = U at *
      generalize (Tm.mk k n s A c a).ucap = uq at *
      have QI := Lib.hid ih
      have hlen : us.length ≤ 9223372036854775807 := by have := hl.1; have := hl.2.1; unfold maxLen at *; omega
      have HW := Lib.hid hown
      clear ih hown
      show Calls Tryz.prog 61 #[.slice V l.length q, .agg #[.int .i64 k, .int .i64 n, .string s, .slice A a.length c]] w _
      go_enter Tryz.func61, Tryz.ntmps61
      go_wp2_with fail
      refine (qa.out _).mono ?_
      rintro e w2 ⟨rfl, hb2⟩
      have hb3 : Below w.heap.size w w2 := ((Below.refl _ _).alloc (Nat.le_refl _) _).trans (hb2.mono (by simp))
      have hb4 : Below w0.heap.size w0 w2 := hw.trans (hb3.mono hw.size)
      go_wp2_with fail
      go_loopw [0, 6] (fun z i wr => ∃ (j : Nat) (x : Value), j ≤ us.length ∧ i = .int .i64 j ∧ z = x ∧ Hid (OwnI wr w0.heap.size x (addAll l (occL (us.take j)))) ∧ Below w0.heap.size w0 wr) (fun _ i _ => us.length - (intOf i).toNat)
      case atStart => exact ⟨0, _, Nat.zero_le _, rfl, rfl, Lib.hid (HW.out.below hb3), hb4⟩
      case round =>
        obtain ⟨j, x, hj, rfl, rfl, HX, hb⟩ := hrel
        by_cases hlt : j < us.length
        · obtain ⟨b, o, rfl, ⟨c0, c1, c2, c3⟩, _⟩ := (hl.below hb).get hlt
          have hy := hl.mem (getD_mem hlt)
          have hmem := getD_mem hlt
          have hn := sizeL_next hlt
          have ht := sizeL_take us (j + 1)
          have ho := occ_length.2 (us.take j)
          have ha := addAll_length l (occL (us.take j))
          have HN := Lib.hid (occL_next hlt)
          generalize us.getD j default = y at *
          have hB : (addAll l (occL (us.take j))).length + y.size ≤ 1000000 := by omega
          have Q1 := Lib.hid (QI.out y hmem _ (addAll l (occL (us.take j))) w0 wr hy hb HX.out hB)
          clear hy QI hmem hn ht ho ha hB
          obtain ⟨k', n', s', A', c', a'⟩ := y
          simp only [Tm.kind, Tm.num, Tm.name, Tm.at_, Tm.args, Tm.cap] at c0 c1 c2 c3
          go_wp2_with fail
          refine Q1.out.mono ?_
          rintro e w5 ⟨v5, rfl, hown5, hb5⟩
          go_wp2_with fail
          go_roundw
          case rel => exact ⟨j + 1, v5, by omega, by go_num, rfl, Lib.hid (by rw [HN.out, addAll_append]; exact hown5), hb5⟩
          case measure => simp [intOf]; omega
        · obtain rfl : j = us.length := by omega
          go_wp2_with fail
          go_ret
          refine Grows.mk rfl ?_ hb
          have := HX.out
          rw [List.take_length] at this
          exact this
end Go.Proofs.YtnghanpmmbcbbaaGreatDoor
namespace Go.Proofs.YtnghanpmmbcbbaaGreatDoor
open Go.RowKit Go.Maps
theorem keyed : Keyed Tryz.prog 3 := int_keyed Tryz.underlying3
theorem fits_wf {n : Int} (h : Fits n) : (Lit.int .i64 n).wf = true := by
  have h1 : IntKind.i64.min = -9223372036854775808 := rfl
  have h2 : IntKind.i64.max = 9223372036854775807 := rfl
  unfold Fits at h
  simp only [Lit.wf, Bool.and_eq_true, decide_eq_true_eq]
  omega
def seenD (l : List Int) : DataW Unit := setOf (.lit (.bool true)) (l.map (Lit.int .i64))
def Seen (w : World) (b : Nat) (l : List Int) : Prop := (∀ n ∈ l, Fits n) ∧ w.ownsMap Tryz.prog 3 (plainElem Tryz.prog 4) b l.length (seenD l)
def addStep (l : List Int) (n : Int) : Bool × List Int := (true, addV l n)
theorem Seen.keep {w w' : World} {b : Nat} {l : List Int} (h : Seen w b l) (hb : Below w.heap.size w w') : Seen w' b l :=
  ⟨h.1, h.2.kept (row := none) ⟨hb.os, hb.tape, hb.output, hb.size, fun k hk _ => hb.block k hk⟩ (by simp)⟩
end Go.Proofs.YtnghanpmmbcbbaaGreatDoor
namespace Go.Proofs.YtnghanpmmbcbbaaGreatDoor
open Go.RowKit
def Agree (lo : Nat) (X : Nat → Prop) (w W : World) : Prop := ∀ b, lo ≤ b → b < w.heap.size → ¬ X b → W.heap[b]? = w.heap[b]?
theorem Agree.refl (lo : Nat) (X : Nat → Prop) (w : World) : Agree lo X w w := fun _ _ _ _ => rfl
theorem Agree.cell {lo : Nat} {X : Nat → Prop} {w W : World} (h : Agree lo X w W) {p : Addr} (h1 : lo ≤ p.block) (h2 : p.block < w.heap.size) (h3 : ¬ X p.block) : W.cell? p = w.cell? p := by
  have := h p.block h1 h2 h3
  simp only [World.cell?, this]
abbrev No : Nat → Prop := fun _ => False
abbrev Is (b : Nat) : Nat → Prop := fun k => k = b
def Lie (B : World → Prop) (lo : Nat) (X : Nat → Prop) (w : World) (t : Tm) : Prop := ∀ W, B W → Agree lo X w W → t.At W
abbrev Any : World → Prop := fun _ => True
section
variable {B : World → Prop} {lo : Nat} {X : Nat → Prop} {w w' : World} {t : Tm}
theorem Lie.at (h : Lie B lo X w t) (hB : B w) : t.At w := h w hB (Agree.refl _ _ _)
theorem Agree.less {W : World} (h : Agree lo X w' W) {lo' : Nat} {Y : Nat → Prop} (hs : w.heap.size ≤ w'.heap.size) (hc : ∀ b, lo' ≤ b → b < w.heap.size → ¬ Y b → lo ≤ b ∧ ¬ X b ∧ w'.heap[b]? = w.heap[b]?) : Agree lo' Y w W := fun b h1 h2 h3 =>
  (h b (hc b h1 h2 h3).1 (Nat.lt_of_lt_of_le h2 hs) (hc b h1 h2 h3).2.1).trans (hc b h1 h2 h3).2.2
theorem Lie.less {lo' : Nat} {Y : Nat → Prop} (h : Lie B lo' Y w t) (hs : w.heap.size ≤ w'.heap.size) (hc : ∀ b, lo' ≤ b → b < w.heap.size → ¬ Y b → lo ≤ b ∧ ¬ X b ∧ w'.heap[b]? = w.heap[b]?) : Lie B lo X w' t := fun W hB hW => h W hB (hW.less hs hc)
theorem Lie.below (h : Lie B lo X w t) (k : Below w.heap.size w w') : Lie B lo X w' t := h.less k.size fun b h1 h2 h3 => ⟨h1, h3, k.block b h2⟩
theorem Lie.low (h : Lie B lo X w t) {lo' : Nat} (hl : lo' ≤ lo) : Lie B lo' X w t := h.less (Nat.le_refl _) fun b h1 _ h3 => ⟨by omega, h3, rfl⟩
theorem Lie.out {Y : Nat → Prop} (h : Lie B lo Y w t) (hY : ∀ b, lo ≤ b → b < w.heap.size → X b → Y b) : Lie B lo X w t := h.less (Nat.le_refl _) fun b h1 h2 h3 => ⟨h1, fun hx => h3 (hY b h1 h2 hx), rfl⟩
theorem Lie.set (h : Lie B lo X w t) {p : Addr} (hp : p.block < lo ∨ X p.block) (v : Value) : Lie B lo X (w.setCell p v) t := h.less (by simp [World.setCell]) fun b h1 _ h3 => ⟨h1, h3, Below.heap_setCell _ _ _ _ (fun e => hp.elim (fun h => by omega) (fun h => h3 (e ▸ h)))⟩
theorem Lie.alloc (h : Lie B lo X w t) (o : Obj) : Lie B lo X (w.alloc o) t := h.below ((Below.refl _ _).alloc (Nat.le_refl _) o)
theorem Lie.new (h : Lie B lo X w t) (o : Obj) : Lie B lo (fun k => X k ∨ k = w.heap.size) (w.alloc o) t := h.less (by simp) fun b h1 h2 h3 => ⟨h1, fun hx => hx.elim h3 (by omega), Below.heap_alloc _ _ _ h2⟩
theorem Lie.any (ht : ∀ W, B W → t.At W) : Lie B lo X w t := fun W hB _ => ht W hB
theorem Lie.of (h : Lie Any lo X w t) : Lie B lo X w t := fun W _ hW => h W trivial hW
theorem Lie.new_is {T : Nat} (h : Lie B lo No w t) (hT : T < lo) : Lie B lo (Is T) w t := h.out fun b h1 _ h3 => by have : b = T := h3; omega
end
structure Keeps (R : Nat) (w w' : World) : Prop where
  os : w'.os = w.os
  tape : w'.tape = w.tape
  output : w'.output = w.output
  size : w.heap.size ≤ w'.heap.size
  block : ∀ k, k < w.heap.size → k ≠ R → w'.heap[k]? = w.heap[k]?
theorem Keeps.refl (R : Nat) (w : World) : Keeps R w w := ⟨rfl, rfl, rfl, Nat.le_refl _, fun _ _ _ => rfl⟩
theorem Keeps.trans {R : Nat} {a b c : World} (h : Keeps R a b) (k : Keeps R b c) : Keeps R a c :=
  ⟨k.os.trans h.os, k.tape.trans h.tape, k.output.trans h.output, Nat.le_trans h.size k.size, fun i hi hr => (k.block i (Nat.lt_of_lt_of_le hi h.size) hr).trans (h.block i hi hr)⟩
theorem Below.keeps {w w' : World} (h : Below w.heap.size w w') (R : Nat) : Keeps R w w' := ⟨h.os, h.tape, h.output, h.size, fun k hk _ => h.block k hk⟩
theorem Keeps.drew {R : Nat} {a w : World} (h : Keeps R a w) : Keeps R a w.drew := ⟨h.os, h.tape, h.output, h.size, h.block⟩
theorem Keeps.drewN {R : Nat} {a w : World} (h : Keeps R a w) (n : Nat) : Keeps R a (w.drewN n) := ⟨h.os, h.tape, h.output, h.size, h.block⟩
theorem Keeps.alloc {R : Nat} {a w : World} (h : Keeps R a w) (o : Obj) : Keeps R a (w.alloc o) := h.trans (Below.keeps ((Below.refl _ _).alloc (Nat.le_refl _) o) R)
theorem Keeps.set {R : Nat} {a w : World} (h : Keeps R a w) (q : Nat) (sp : Option Nat) (v : Value) : Keeps R a (w.setCell ⟨R, q, sp⟩ v) :=
  h.trans ⟨rfl, rfl, rfl, by simp [World.setCell], fun k _ hr => Below.heap_setCell _ _ _ _ hr⟩
theorem Keeps.own {R : Nat} {a w : World} (h : Keeps R a w) {p : Addr} (hp : a.heap.size ≤ p.block) (v : Value) : Keeps R a (w.setCell p v) :=
  ⟨h.os, h.tape, h.output, by simpa [World.setCell] using h.size, fun k hk hr => (Below.heap_setCell _ _ _ _ (by omega)).trans (h.block k hk hr)⟩
theorem Keeps.cell {R : Nat} {w w' : World} (h : Keeps R w w') {p : Addr} (hp : p.block < w.heap.size) (hr : p.block ≠ R) : w'.cell? p = w.cell? p := by
  have := h.block p.block hp hr
  simp only [World.cell?, this]
theorem Keeps.frozen {R : Nat} {w w' : World} (h : Keeps R w w') {p : Addr} (hp : p.block < w.heap.size) (hr : p.block ≠ R) : w'.frozen? p = w.frozen? p := by
  have := h.block p.block hp hr
  simp only [World.frozen?, this]
theorem Keeps.below {R : Nat} {a w w' : World} (hb : Below a.heap.size a w) (h : Keeps R w w') (hR : a.heap.size ≤ R) : Below a.heap.size a w' :=
  hb.trans ⟨h.os, h.tape, h.output, h.size, fun k hk => h.block k (Nat.lt_of_lt_of_le hk hb.size) (by omega)⟩
theorem Keeps.grown {R : Nat} {a w w' : World} {row : Option Nat} (h : Keeps R a w) (hg : w.grownBy w' row) (hr : ∀ k, row = some k → a.heap.size ≤ k) : Keeps R a w' :=
  ⟨hg.os.trans h.os, hg.tape.trans h.tape, hg.output.trans h.output, Nat.le_trans h.size hg.size, fun k hk hR =>
    (hg.block k (Nat.lt_of_lt_of_le hk h.size) (fun e => by have := hr k e.symm; omega)).trans (h.block k hk hR)⟩
theorem Lie.keeps {B : World → Prop} {lo R : Nat} {X : Nat → Prop} {w w' : World} {t : Tm} (h : Lie B lo X w t) (k : Keeps R w w') (hR : R < lo ∨ X R) : Lie B lo X w' t := h.less k.size fun b h1 h2 h3 => ⟨h1, h3, k.block b h2 (fun e => hR.elim (fun h => by omega) (fun h => h3 (e ▸ h)))⟩
theorem keepv {w w' : World} (hb : Below w.heap.size w w') {p : Addr} {v : Value} (h : w.cell? p = some v) : w'.cell? p = some v := by
  rw [hb.cell (World.block_lt_of_cell? w _ h)]; exact h
end Go.Proofs.YtnghanpmmbcbbaaGreatDoor
namespace Go.Proofs.YtnghanpmmbcbbaaGreatDoor
open Go.RowKit
def tcells (l : List Tm) : List Value := l.flatMap Tm.cells
theorem cells_length (t : Tm) : t.cells.length = 4 := rfl
theorem tcells_length (l : List Tm) : (tcells l).length = l.length * 4 := by
  induction l with
  | nil => rfl
  | cons t r ih => simp only [tcells, List.flatMap_cons, List.length_append, cells_length, List.length_cons] at *; omega
theorem tcells_one (l : List Tm) : ∀ u ∈ tcells l, u.oneCell' = true := by
  intro u hu
  obtain ⟨t, _, ht⟩ := List.mem_flatMap.1 hu
  simp only [Tm.cells, List.mem_cons, List.not_mem_nil, or_false] at ht
  rcases ht with rfl | rfl | rfl | rfl <;> rfl
theorem tcells_get (l : List Tm) {i j : Nat} (hi : i < l.length) (hj : j < 4) : (tcells l)[4 * i + j]? = (l.getD i default).cells[j]? := by
  induction l generalizing i with
  | nil => simp at hi
  | cons t r ih =>
    simp only [tcells, List.flatMap_cons]
    cases i with
    | zero =>
      rw [List.getElem?_append_left (by rw [cells_length]; omega)]
      simp
    | succ i =>
      rw [List.getElem?_append_right (by rw [cells_length]; omega), cells_length, show 4 * (i + 1) + j - 4 = 4 * i + j by omega]
      simpa [tcells] using ih (by simpa using hi)
theorem RowAt.cells {w : World} {l : List Tm} {b o : Nat} (h : RowAt w l b o) : ∀ (j : Nat) (u : Value), (tcells l)[j]? = some u → w.cell? ((⟨b, o, none⟩ : Addr).add j) = some u := by
  induction l generalizing o with
  | nil => intro j u hu; simp [tcells] at hu
  | cons t r ih =>
    intro j u hu
    simp only [RowAt] at h
    obtain ⟨⟨h0, h1, h2, h3⟩, _, hr⟩ := h
    rw [add_plain]
    simp only [tcells, List.flatMap_cons] at hu
    by_cases hj : j < 4
    · rw [List.getElem?_append_left (by rw [cells_length]; exact hj)] at hu
      match j, hj with
      | 0, _ => rw [← hu]; exact h0
      | 1, _ => rw [← hu]; exact h1
      | 2, _ => rw [← hu]; exact h2
      | 3, _ => rw [← hu]; exact h3
    · rw [List.getElem?_append_right (by rw [cells_length]; omega), cells_length] at hu
      have := ih hr (j - 4) u hu
      rw [add_plain, show o + 4 + (j - 4) = o + j by omega] at this
      exact this
def Row4 (w : World) (g : Nat) (l : List Tm) : Prop := g < w.heap.size ∧ (∀ j, w.frozen? ⟨g, j, none⟩ = false) ∧ ∀ i j u, i < l.length → (l.getD i default).cells[j]? = some u → w.cell? ⟨g, 4 * i + j, none⟩ = some u
theorem Row4.below {w w' : World} {g : Nat} {l : List Tm} (h : Row4 w g l) (hb : Below w.heap.size w w') : Row4 w' g l := by
  refine ⟨Nat.lt_of_lt_of_le h.1 hb.size, fun j => ?_, fun i j u hi hu => ?_⟩
  · rw [hb.frozen (p := ⟨g, j, none⟩) h.1]; exact h.2.1 j
  · rw [hb.cell (p := ⟨g, 4 * i + j, none⟩) h.1]; exact h.2.2 i j u hi hu
theorem own_block_lt {w : World} {base : Nat} {e : TypeId} {size : Nat} {g n c : Nat} {xs : List Value} (h : w.ownsRow base e size (.slice (some ⟨g, 0, none⟩) n c) n xs) : g < w.heap.size := (World.ownsRow.lt h g rfl).2
theorem Row4.of {w : World} {base g c : Nat} {l : List Tm} (h : w.ownsRow base 69 4 (.slice (some ⟨g, 0, none⟩) l.length c) l.length (tcells l)) : Row4 w g l := by
  refine ⟨own_block_lt h, fun j => World.ownsRow.frozenAt h j, fun i j u hi hu => ?_⟩
  have hj : j < 4 := by
    have := (List.getElem?_eq_some_iff.1 hu).1
    simpa [Tm.cells] using this
  rw [World.ownsRow.cellAt h (4 * i + j) (by omega), tcells_get l hi hj]
  exact hu
def Cloned (w : World) (l : List Tm) (e : Ending) (w' : World) : Prop := ∃ A cap, e = .returned (.slice A l.length cap) ∧ l.length ≤ cap ∧ cap ≤ maxLen ∧ (0 < l.length → ∃ g, A = some ⟨g, 0, none⟩ ∧ w.heap.size ≤ g ∧ Row4 w' g l) ∧ Below w.heap.size w w'
set_option maxHeartbeats 1000000 in
theorem clone_at (l : List Tm) (b o c : Nat) (w : World) (h0 : 0 < l.length) (hl : RowAt w l b o) (hsz : l.length ≤ 1000000) :
    Calls Tryz.prog 124 #[.slice (some ⟨b, o, none⟩) l.length c] w (Cloned w l) := by
  obtain ⟨i0, hi, hz0, hz1, hz2⟩ := info_parts term_info
  have hn := fun (W : World) => Lib.run_eql_slice_nil (P := Tryz.prog) W 51 69 (some ⟨b, o, none⟩) l.length c 0 0 Tryz.underlying51
  go_enter Tryz.func124, Tryz.ntmps124
  have hl1 : RowAt (w.alloc (.cells #[] 69)) l b o := (At_keep ((Below.refl _ _).alloc (Nat.le_refl _) _)).2 _ _ _ hl
  have HC := Lib.hid hl1.cells
  have HO := Lib.hid (World.ownsRow_lit (base := w.heap.size) (e := 69) (size := 4) w #[] 0 (Nat.le_refl _) (Nat.zero_le _) rfl)
  clear hl hl1
  go_wp2_with (at_builtin; refine wpList_append_own _ rfl _ _ 51 rfl w.heap.size 69 i0 _ 4 56 Tryz.underlying51 hi hz0 hz1 hz2 rfl (by decide) _ 0 [] rfl HO.out ⟨b, o, none⟩ l.length c (tcells l) rfl (tcells_length l) HC.out (tcells_one l) (by unfold maxLen; omega) (by omega) (by simp) ?_; intro v' w1 hown1 hg1 _)
  have HG := Lib.hid hg1
  have HW := Lib.hid hown1
  clear hg1 hown1
  go_ret
  have hw := HW.out
  simp only [Nat.zero_add, List.nil_append] at hw
  obtain ⟨hlen, hv⟩ := hw
  rcases hv with ⟨_, h⟩ | ⟨g, cap, cur, rfl, hb, hheap, hle, hcap, _, hcur⟩
  · omega
  · refine ⟨_, cap, rfl, hle, hcap, fun _ => ⟨g, rfl, hb, Row4.of (base := w.heap.size) (c := cap) ?_⟩, ?_⟩
    · have hw := HW.out
      simpa only [Nat.zero_add, List.nil_append] using hw
    · exact ((Below.refl _ _).alloc (Nat.le_refl _) _).grown HG.out (by simp) (fun k hk => (World.ownsRow.lt HO.out k hk).1)
set_option maxHeartbeats 1000000 in
theorem clone_none_at (A : Option Addr) (c : Nat) (w : World) :
    Calls Tryz.prog 124 #[.slice A 0 c] w (Cloned w []) := by
  obtain ⟨i0, hi, hz0, hz1, hz2⟩ := info_parts term_info
  have hn := fun (W : World) => Lib.run_eql_slice_nil (P := Tryz.prog) W 51 69 A 0 c 0 0 Tryz.underlying51
  cases A with
  | none =>
    go_enter Tryz.func124, Tryz.ntmps124
    go_wp2_with fail
    go_ret
    exact ⟨none, 0, rfl, Nat.le_refl _, Nat.zero_le _, fun h => by simp at h, Below.refl _ _⟩
  | some a =>
    go_enter Tryz.func124, Tryz.ntmps124
    have HO := Lib.hid (World.ownsRow_lit (base := w.heap.size) (e := 69) (size := 4) w #[] 0 (Nat.le_refl _) (Nat.zero_le _) rfl)
    go_wp2_with (at_builtin; refine wpList_append_own _ rfl _ _ 51 rfl w.heap.size 69 i0 _ 4 56 Tryz.underlying51 hi hz0 hz1 hz2 rfl (by decide) _ 0 [] rfl HO.out a 0 c [] rfl rfl (fun _ _ h => by simp at h) (fun _ h => by simp at h) (by unfold maxLen; omega) (by omega) (by simp) ?_; intro v' w1 hown1 hg1 _)
    have HG := Lib.hid hg1
    have HW := Lib.hid hown1
    clear hg1 hown1
    go_ret
    have hb : Below w.heap.size w w1 := ((Below.refl _ _).alloc (Nat.le_refl _) _).grown HG.out (by simp) (fun k hk => (World.ownsRow.lt HO.out k hk).1)
    rcases HW.out.2 with ⟨rfl, _⟩ | ⟨g, cap, cur, rfl, _, _, _, hcap, _, _⟩
    · exact ⟨none, 0, rfl, Nat.le_refl _, Nat.zero_le _, fun h => by simp at h, hb⟩
    · exact ⟨_, cap, rfl, Nat.zero_le _, hcap, fun h => by simp at h, hb⟩
theorem set4 (w : World) (g q : Nat) (v0 v1 v2 v3 : Value) (h0 : ∀ j, j < 4 → (w.cell? ⟨g, q + j, none⟩).isSome = true) :
    ∀ p : Addr, ((((w.setCell ⟨g, q, none⟩ v0).setCell ⟨g, q + 1, none⟩ v1).setCell ⟨g, q + 2, none⟩ v2).setCell ⟨g, q + 3, none⟩ v3).cell? p =
      if p = ⟨g, q, none⟩ then some v0 else if p = ⟨g, q + 1, none⟩ then some v1 else if p = ⟨g, q + 2, none⟩ then some v2 else if p = ⟨g, q + 3, none⟩ then some v3 else w.cell? p := by
  intro p
  have ne : ∀ i j : Nat, i ≠ j → (⟨g, q + i, none⟩ : Addr) ≠ ⟨g, q + j, none⟩ := fun i j h e => by injection e with _ e _; omega
  have n01 : (⟨g, q, none⟩ : Addr) ≠ ⟨g, q + 1, none⟩ := ne 0 1 (by omega)
  have n02 : (⟨g, q, none⟩ : Addr) ≠ ⟨g, q + 2, none⟩ := ne 0 2 (by omega)
  have n03 : (⟨g, q, none⟩ : Addr) ≠ ⟨g, q + 3, none⟩ := ne 0 3 (by omega)
  have n12 := ne 1 2 (by omega)
  have n13 := ne 1 3 (by omega)
  have n23 := ne 2 3 (by omega)
  have s0 := h0 0 (by omega)
  have s1 := h0 1 (by omega)
  have s2 := h0 2 (by omega)
  have s3 := h0 3 (by omega)
  simp only [Nat.add_zero] at s0
  by_cases e0 : p = ⟨g, q, none⟩
  · subst e0
    rw [if_pos rfl, World.cell?_setCell_other _ _ _ _ n03.symm, World.cell?_setCell_other _ _ _ _ n02.symm, World.cell?_setCell_other _ _ _ _ n01.symm, World.cell?_setCell_same' _ _ _ s0]
  rw [if_neg e0]
  by_cases e1 : p = ⟨g, q + 1, none⟩
  · subst e1
    rw [if_pos rfl, World.cell?_setCell_other _ _ _ _ n13.symm, World.cell?_setCell_other _ _ _ _ n12.symm, World.cell?_setCell_same' _ _ _ (by rw [World.cell?_setCell_other _ _ _ _ n01]; exact s1)]
  rw [if_neg e1]
  by_cases e2 : p = ⟨g, q + 2, none⟩
  · subst e2
    rw [if_pos rfl, World.cell?_setCell_other _ _ _ _ n23.symm, World.cell?_setCell_same' _ _ _ (by rw [World.cell?_setCell_other _ _ _ _ n12, World.cell?_setCell_other _ _ _ _ n02]; exact s2)]
  rw [if_neg e2]
  by_cases e3 : p = ⟨g, q + 3, none⟩
  · subst e3
    rw [if_pos rfl, World.cell?_setCell_same' _ _ _ (by rw [World.cell?_setCell_other _ _ _ _ n23, World.cell?_setCell_other _ _ _ _ n13, World.cell?_setCell_other _ _ _ _ n03]; exact s3)]
  rw [if_neg e3, World.cell?_setCell_other _ _ _ _ (Ne.symm e3), World.cell?_setCell_other _ _ _ _ (Ne.symm e2), World.cell?_setCell_other _ _ _ _ (Ne.symm e1), World.cell?_setCell_other _ _ _ _ (Ne.symm e0)]
theorem Row4.some_cell {w : World} {g : Nat} {l : List Tm} (h : Row4 w g l) {i : Nat} (hi : i < l.length) : ∀ j, j < 4 → (w.cell? ⟨g, i * 4 + j, none⟩).isSome = true := by
  intro j hj
  have e : (l.getD i default).cells.length = 4 := rfl
  rw [Nat.mul_comm, h.2.2 i j _ hi (List.getElem?_eq_getElem (by omega))]
  rfl
theorem Row4.store {w : World} {g : Nat} {l : List Tm} (h : Row4 w g l) {i : Nat} (hi : i < l.length) (u : Tm) :
    Row4 ((((w.setCell ⟨g, i * 4, none⟩ (.int .i64 u.kind)).setCell ⟨g, i * 4 + 1, none⟩ (.int .i64 u.num)).setCell ⟨g, i * 4 + 2, none⟩ (.string u.name)).setCell ⟨g, i * 4 + 3, none⟩ (.slice u.at_ u.args.length u.cap)) g (l.set i u) := by
  refine ⟨by simpa using h.1, fun j => by simp only [World.frozen?_setCell]; exact h.2.1 j, fun i' j v hi' hv => ?_⟩
  rw [List.length_set] at hi'
  rw [set4 _ _ _ _ _ _ _ (h.some_cell hi)]
  have hj : j < 4 := by
    have := (List.getElem?_eq_some_iff.1 hv).1
    simpa [Tm.cells] using this
  by_cases e : i' = i
  · subst e
    have ev : (l.set i' u).getD i' default = u := by simp [List.getD, hi']
    rw [ev] at hv
    have ad : ∀ a b : Nat, a ≠ b → ¬ (⟨g, 4 * i' + a, none⟩ : Addr) = ⟨g, i' * 4 + b, none⟩ := fun a b hab h => by injection h with _ h _; omega
    have ad0 : ∀ a : Nat, a ≠ 0 → ¬ (⟨g, 4 * i' + a, none⟩ : Addr) = ⟨g, i' * 4, none⟩ := fun a ha h => by injection h with _ h _; omega
    match j, hj with
    | 0, _ => rw [if_pos (by rw [Nat.mul_comm]; rfl)]; exact hv
    | 1, _ => rw [if_neg (ad0 1 (by omega)), if_pos (by rw [Nat.mul_comm])]; exact hv
    | 2, _ => rw [if_neg (ad0 2 (by omega)), if_neg (ad 2 1 (by omega)), if_pos (by rw [Nat.mul_comm])]; exact hv
    | 3, _ => rw [if_neg (ad0 3 (by omega)), if_neg (ad 3 1 (by omega)), if_neg (ad 3 2 (by omega)), if_pos (by rw [Nat.mul_comm])]; exact hv
  · have ev : (l.set i u).getD i' default = l.getD i' default := by simp [List.getD, Ne.symm e]
    rw [ev] at hv
    have ad : ∀ b : Nat, b < 4 → ¬ (⟨g, 4 * i' + j, none⟩ : Addr) = ⟨g, i * 4 + b, none⟩ := fun b hb h => by injection h with _ h _; omega
    have ad0 : ¬ (⟨g, 4 * i' + j, none⟩ : Addr) = ⟨g, i * 4, none⟩ := fun h => by injection h with _ h _; omega
    rw [if_neg ad0, if_neg (ad 1 (by omega)), if_neg (ad 2 (by omega)), if_neg (ad 3 (by omega))]
    exact h.2.2 i' j v hi' hv
theorem Row4.at {w : World} {g : Nat} {l : List Tm} (h : Row4 w g l) (W : World) (hc : ∀ j, W.cell? ⟨g, j, none⟩ = w.cell? ⟨g, j, none⟩) (ha : ∀ x ∈ l, x.At W) : RowAt W l g 0 := by
  refine RowAt.of fun i hi => ⟨fun j u hu => ?_, ha _ (getD_mem hi)⟩
  rw [Nat.zero_add, hc]
  exact h.2.2 i j u hi hu
end Go.Proofs.YtnghanpmmbcbbaaGreatDoor
