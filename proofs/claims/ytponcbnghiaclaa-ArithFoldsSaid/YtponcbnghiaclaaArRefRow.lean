/-
  What Fold of the reference keeps: three boxes, and the row to which the folded arguments are appended.
-/
import Derived.Test.YtponcbnghiaclaaArFold
import Derived.Deep.AppendLies
namespace Go.Proofs.Ytponcbnghiaclaa
open Go.RowKit

/-- The three boxes of a call that began in w: the argument, the result (still zero), what is built (v3: its arguments). -/
def Boxes3 (w w' : World) (v0 v1 v2 v3 u3 : Value) : Prop :=
  (w'.cell? ⟨w.heap.size, 0, none⟩ = some v0 ∧ w'.cell? ⟨w.heap.size, 1, none⟩ = some v1 ∧ w'.cell? ⟨w.heap.size, 2, none⟩ = some v2 ∧ w'.cell? ⟨w.heap.size, 3, none⟩ = some v3) ∧
  (w'.cell? ⟨w.heap.size + 1, 0, none⟩ = some (.int .i64 0) ∧ w'.cell? ⟨w.heap.size + 1, 1, none⟩ = some (.int .i64 0) ∧ w'.cell? ⟨w.heap.size + 1, 2, none⟩ = some (.string ⟨#[]⟩) ∧ w'.cell? ⟨w.heap.size + 1, 3, none⟩ = some (.slice none 0 0)) ∧
  (w'.cell? ⟨w.heap.size + 1 + 1, 0, none⟩ = some v0 ∧ w'.cell? ⟨w.heap.size + 1 + 1, 1, none⟩ = some v1 ∧ w'.cell? ⟨w.heap.size + 1 + 1, 2, none⟩ = some v2 ∧ w'.cell? ⟨w.heap.size + 1 + 1, 3, none⟩ = some u3) ∧
  (∀ j, w'.frozen? ⟨w.heap.size + 1, j, none⟩ = false) ∧ (∀ j, w'.frozen? ⟨w.heap.size + 1 + 1, j, none⟩ = false) ∧ w.heap.size + 1 + 1 < w'.heap.size
/-- Cells and marks of the three boxes are as they were. -/
theorem Boxes3.same {w w' w'' : World} {v0 v1 v2 v3 u3 : Value} (h : Boxes3 w w' v0 v1 v2 v3 u3) (hc : ∀ p : Addr, w.heap.size ≤ p.block → p.block ≤ w.heap.size + 1 + 1 → w''.cell? p = w'.cell? p ∧ w''.frozen? p = w'.frozen? p) (hs : w'.heap.size ≤ w''.heap.size) : Boxes3 w w'' v0 v1 v2 v3 u3 := by
  obtain ⟨⟨d0, d1, d2, d3⟩, ⟨e0, e1, e2, e3⟩, ⟨g0, g1, g2, g3⟩, hf, hg, hz⟩ := h
  have a0 := fun j => hc ⟨w.heap.size, j, none⟩ (Nat.le_refl _) (by show w.heap.size ≤ _; omega)
  have a1 := fun j => hc ⟨w.heap.size + 1, j, none⟩ (Nat.le_succ _) (by show w.heap.size + 1 ≤ _; omega)
  have a2 := fun j => hc ⟨w.heap.size + 1 + 1, j, none⟩ (by show w.heap.size ≤ w.heap.size + 1 + 1; omega) (Nat.le_refl _)
  exact ⟨⟨(a0 0).1.trans d0, (a0 1).1.trans d1, (a0 2).1.trans d2, (a0 3).1.trans d3⟩, ⟨(a1 0).1.trans e0, (a1 1).1.trans e1, (a1 2).1.trans e2, (a1 3).1.trans e3⟩,
    ⟨(a2 0).1.trans g0, (a2 1).1.trans g1, (a2 2).1.trans g2, (a2 3).1.trans g3⟩, fun j => (a1 j).2.trans (hf j), fun j => (a2 j).2.trans (hg j), Nat.lt_of_lt_of_le hz hs⟩
theorem Boxes3.below {w w' w'' : World} {v0 v1 v2 v3 u3 : Value} (h : Boxes3 w w' v0 v1 v2 v3 u3) (hb : Below w'.heap.size w' w'') : Boxes3 w w'' v0 v1 v2 v3 u3 :=
  h.same (fun _ _ h2 => ⟨hb.cell (Nat.lt_of_le_of_lt h2 h.2.2.2.2.2), hb.frozen (Nat.lt_of_le_of_lt h2 h.2.2.2.2.2)⟩) hb.size
theorem Boxes3.grown {w w' w'' : World} {v0 v1 v2 v3 u3 : Value} {row : Option Nat} (h : Boxes3 w w' v0 v1 v2 v3 u3) (hg : w'.grownBy w'' row) (hr : ∀ k, row = some k → w.heap.size + 3 ≤ k) : Boxes3 w w'' v0 v1 v2 v3 u3 :=
  h.same (fun p _ h2 => by
    have hne : some p.block ≠ row := fun e => by have := hr _ e.symm; omega
    exact ⟨hg.cell_far p (Nat.lt_of_le_of_lt h2 h.2.2.2.2.2) hne, hg.frozen_far p (Nat.lt_of_le_of_lt h2 h.2.2.2.2.2) hne⟩) hg.size
theorem Boxes3.set {w w' : World} {v0 v1 v2 v3 u3 : Value} (h : Boxes3 w w' v0 v1 v2 v3 u3) (v : Value) : Boxes3 w (w'.setCell ⟨w.heap.size + 1 + 1, 3, none⟩ v) v0 v1 v2 v3 v := by
  obtain ⟨⟨d0, d1, d2, d3⟩, ⟨e0, e1, e2, e3⟩, ⟨g0, g1, g2, g3⟩, hf, hg, hz⟩ := h
  have n0 : ∀ j, (⟨w.heap.size + 1 + 1, 3, none⟩ : Addr) ≠ ⟨w.heap.size, j, none⟩ := fun j e => by injection e with e _ _; omega
  have n1 : ∀ j, (⟨w.heap.size + 1 + 1, 3, none⟩ : Addr) ≠ ⟨w.heap.size + 1, j, none⟩ := fun j e => by injection e with e _ _; omega
  have n2 : ∀ j, j ≠ 3 → (⟨w.heap.size + 1 + 1, 3, none⟩ : Addr) ≠ ⟨w.heap.size + 1 + 1, j, none⟩ := fun j hj e => by injection e with _ e _; omega
  refine ⟨⟨?_, ?_, ?_, ?_⟩, ⟨?_, ?_, ?_, ?_⟩, ⟨?_, ?_, ?_, ?_⟩, fun j => by rw [World.frozen?_setCell]; exact hf j, fun j => by rw [World.frozen?_setCell]; exact hg j, by simpa using hz⟩
  · rw [World.cell?_setCell_other _ _ _ _ (n0 0)]; exact d0
  · rw [World.cell?_setCell_other _ _ _ _ (n0 1)]; exact d1
  · rw [World.cell?_setCell_other _ _ _ _ (n0 2)]; exact d2
  · rw [World.cell?_setCell_other _ _ _ _ (n0 3)]; exact d3
  · rw [World.cell?_setCell_other _ _ _ _ (n1 0)]; exact e0
  · rw [World.cell?_setCell_other _ _ _ _ (n1 1)]; exact e1
  · rw [World.cell?_setCell_other _ _ _ _ (n1 2)]; exact e2
  · rw [World.cell?_setCell_other _ _ _ _ (n1 3)]; exact e3
  · rw [World.cell?_setCell_other _ _ _ _ (n2 0 (by omega))]; exact g0
  · rw [World.cell?_setCell_other _ _ _ _ (n2 1 (by omega))]; exact g1
  · rw [World.cell?_setCell_other _ _ _ _ (n2 2 (by omega))]; exact g2
  · exact World.cell?_setCell_same' _ _ _ (by rw [g3]; rfl)
/-- The boxes, just laid. -/
theorem boxes3_laid (w : World) (v0 v1 v2 v3 u3 : Value) (T : TypeId) : Boxes3 w (((w.alloc (.cells #[v0, v1, v2, v3] T)).alloc (.cells #[.int .i64 0, .int .i64 0, .string ⟨#[]⟩, .slice none 0 0] T)).alloc (.cells #[v0, v1, v2, u3] T)) v0 v1 v2 v3 u3 := by
  have hb := below1 ((w.alloc (.cells #[v0, v1, v2, v3] T)).alloc (.cells #[.int .i64 0, .int .i64 0, .string ⟨#[]⟩, .slice none 0 0] T)) (.cells #[v0, v1, v2, u3] T)
  obtain ⟨h1, h2, _⟩ := box8 hb
  have hz : ((w.alloc (.cells #[v0, v1, v2, v3] T)).alloc (.cells #[.int .i64 0, .int .i64 0, .string ⟨#[]⟩, .slice none 0 0] T)).heap.size = w.heap.size + 1 + 1 := by simp
  have h3 : ∀ j, (((w.alloc (.cells #[v0, v1, v2, v3] T)).alloc (.cells #[.int .i64 0, .int .i64 0, .string ⟨#[]⟩, .slice none 0 0] T)).alloc (.cells #[v0, v1, v2, u3] T)).cell? ⟨w.heap.size + 1 + 1, j, none⟩ = (#[v0, v1, v2, u3] : Array Value)[j]? := fun j => World.cell?_alloc_at _ _ _ _ hz.symm
  exact ⟨h1, h2, ⟨h3 0, h3 1, h3 2, h3 3⟩, fun j => free2 hb j, fun j => World.frozen?_alloc_at _ _ _ _ hz.symm, by simp⟩

/-- The first j terms are folded, and appended to a row of the call's own. -/
def RDoing (l : List Tm) (lo j : Nat) (ov : Value) (wr : World) : Prop :=
  ∃ news : List Tm, news.length = j ∧ stripL news = stripL (foldL (l.take j)) ∧ wr.ownsRow lo 30 4 ov j (tcells news) ∧ ∀ x ∈ news, Stays lo wr (fun k => ov.ownBlock = some k) l x
theorem own_below {w w' : World} {base : Nat} {e : TypeId} {size : Nat} {v : Value} {n : Nat} {xs : List Value} (h : w.ownsRow base e size v n xs) (hb : Below w.heap.size w w') : w'.ownsRow base e size v n xs :=
  World.ownsRow.kept (row := none) h ⟨hb.os, hb.tape, hb.output, hb.size, fun k hk _ => hb.block k hk⟩ (by
    rcases h.2 with ⟨rfl, _⟩ | ⟨g, cap, cur, rfl, _⟩
    · exact .inl rfl
    · exact .inr (by simp [Value.ownBlock]))
theorem RDoing.below {l : List Tm} {lo j : Nat} {ov : Value} {wr w' : World} (h : RDoing l lo j ov wr) (hb : Below wr.heap.size wr w') : RDoing l lo j ov w' := by
  obtain ⟨news, hn, hs, hr, hk⟩ := h
  refine ⟨news, hn, hs, ?_, fun x hx => (hk x hx).less hb.size fun p _ h2 _ => hb.cell h2⟩
  exact World.ownsRow.kept (row := none) hr ⟨hb.os, hb.tape, hb.output, hb.size, fun k hk _ => hb.block k hk⟩ (by
    rcases hr.2 with ⟨rfl, _⟩ | ⟨g, cap, cur, rfl, _⟩
    · exact .inl rfl
    · exact .inr (by simp [Value.ownBlock]))
theorem tcells_append (l m : List Tm) : tcells (l ++ m) = tcells l ++ tcells m := by simp [tcells]
/-- One term more: the call (w2), the block of the new element (w3), the append (w4), the store into the box (w5). -/
theorem rdoing_next {l : List Tm} {lo j g cap : Nat} {ov : Value} {wr w2 w3 w4 w5 : World} {u x : Tm} (news : List Tm) (hn : news.length = j) (hs : stripL news = stripL (foldL (l.take j)))
    (hk : ∀ x ∈ news, Stays lo wr (fun k => ov.ownBlock = some k) l x) (hrow : ∀ k, ov.ownBlock = some k → k < wr.heap.size)
    (hj : j < l.length) (hx : x = l.getD j default) (hlo : lo ≤ wr.heap.size) (hu : u.strip = x.fold.strip) (hst : Stays wr.heap.size w2 (fun _ => False) [x] u) (hb : Below wr.heap.size wr w2) (hb3 : Below w2.heap.size w2 w3)
    (hown : w4.ownsRow lo 30 4 (.slice (some ⟨g, 0, none⟩) (j + 1) cap) (j + 1) (tcells news ++ u.cells)) (hg : w3.grownBy w4 ov.ownBlock) (hat : ov.ownBlock = some g ∨ g = w3.heap.size)
    (q : Addr) (v : Value) (hq : q.block < lo) (h5 : w5 = w4.setCell q v) : RDoing l lo (j + 1) (.slice (some ⟨g, 0, none⟩) (j + 1) cap) w5 := by
  have hsz : w5.heap.size = w4.heap.size := by rw [h5]; simp
  have hcell : ∀ p : Addr, lo ≤ p.block → p.block < w3.heap.size → some p.block ≠ ov.ownBlock → w5.cell? p = w3.cell? p := fun p h1 h2 h3 => by
    rw [h5, World.cell?_setCell_other _ _ _ _ (fun e => by rw [e] at hq; omega), hg.cell_far p h2 h3]
  have hs23 := hb3.size
  have hs12 := hb.size
  have hs34 := hg.size
  refine ⟨news ++ [u], by simp [hn], ?_, ?_, fun y hy => ?_⟩
  · have ap : ∀ a b : List Tm, stripL (a ++ b) = stripL a ++ stripL b := fun a b => by simp [stripL_map]
    have fp : ∀ a b : List Tm, foldL (a ++ b) = foldL a ++ foldL b := fun a b => by simp [foldL_map]
    rw [ttake_next hj, fp, ap, ap, hs, ← hx]
    simp [stripL, foldL, hu]
  · rw [tcells_append, h5]
    have e : tcells [u] = u.cells := by simp [tcells]
    rw [e]
    exact ownsRow_setCell_below hown hq v
  · rcases List.mem_append.1 hy with hy | hy
    · intro W hl hW
      refine hk y hy W hl fun p h1 h2 h3 => ?_
      have hne : some p.block ≠ ov.ownBlock := fun e => h3 e.symm
      have hpg : ¬ (Value.slice (some ⟨g, 0, none⟩) (j + 1) cap).ownBlock = some p.block := fun e => by
        have e' : g = p.block := by simpa [Value.ownBlock] using e
        rcases hat with h | h
        · exact h3 (by rw [h, e'])
        · omega
      rw [hW p h1 (by omega) hpg, hcell p h1 (by omega) hne, hb3.cell (show p.block < w2.heap.size by omega), hb.cell h2]
    · obtain rfl : y = u := by simpa using hy
      intro W hl hW
      refine hst W (fun z hz => ?_) fun p h1 h2 _ => ?_
      · rw [List.mem_singleton.1 hz, hx]; exact hl _ (getD_mem hj)
      · have hne : some p.block ≠ ov.ownBlock := fun e => by have := hrow _ e.symm; omega
        have hpg : ¬ (Value.slice (some ⟨g, 0, none⟩) (j + 1) cap).ownBlock = some p.block := fun e => by
          have e' : g = p.block := by simpa [Value.ownBlock] using e
          rcases hat with h | h
          · have := hrow _ h; omega
          · omega
        rw [hW p (by omega) (by omega) hpg, hcell p (by omega) (by omega) hne, hb3.cell h2]
/-- All are folded. -/
theorem RDoing.done {l : List Tm} {lo : Nat} {ov : Value} {wr : World} (h : RDoing l lo l.length ov wr) : ∃ A cap cur, ov = .slice A l.length cap ∧ cur.length = l.length ∧ stripL cur = stripL (foldL l) ∧
    ∀ W : World, (∀ x ∈ l, x.At W) → Agree lo wr.heap.size wr W → Lst W A cur cap := by
  obtain ⟨news, hn, hs, hr, hk⟩ := h
  rw [List.take_length] at hs
  rcases hr.2 with ⟨rfl, h0⟩ | ⟨g, cap, cur, rfl, hlo, hheap, hle, hcap, _, _⟩
  · refine ⟨none, 0, news, by rw [h0], hn, hs, fun W _ _ => ?_⟩
    obtain rfl : news = [] := List.length_eq_zero_iff.1 (by omega)
    exact Lst.nil W
  · refine ⟨_, cap, news, rfl, hn, hs, fun W hW hc => ⟨by omega, hcap, fun _ => ⟨g, 0, rfl, ?_⟩⟩⟩
    have hrow : Row4 wr g news := Row4.of (base := lo) (c := cap) (by rw [hn]; exact hr)
    refine hrow.at W (fun j => hc _ hlo hrow.1) fun x hx => hk x hx W hW fun p h1 h2 _ => hc p h1 h2
theorem stays_row' {w w1 w' : World} {lo : Nat} {a cur : List Tm} {k n : Int} {s : ByteArray} {A A' : Option Addr} {c cap : Nat}
    (hcl : ∀ W : World, (∀ x ∈ a, x.At W) → Agree lo w1.heap.size w1 W → Lst W A' cur cap)
    (hag : Agree lo w1.heap.size w1 w') (h1 : w.heap.size ≤ lo) (h2 : w1.heap.size ≤ w'.heap.size) :
    Stays w.heap.size w' (fun _ => False) [.mk k n s A c a] (.mk k n s A' cap cur) := by
  intro W hl hW
  have ht := hl (.mk k n s A c a) (by simp)
  exact (At_iff _ _).2 ⟨((At_iff _ _).1 ht).1, hcl W (fun x hx => ht.lst.mem hx) fun p h3 h4 => (hW p (by omega) (by omega) (fun h => h)).trans (hag p h3 h4)⟩
end Go.Proofs.Ytponcbnghiaclaa
