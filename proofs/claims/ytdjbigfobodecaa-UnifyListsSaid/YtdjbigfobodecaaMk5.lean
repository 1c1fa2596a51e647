/-
  The cells of a list of terms; a row of the call's own; slices.Clone of the program.
  Bindings and terms that are appended to a row of the call's own.
  Unification on a graph of the terms, plainly: from classes of nodes that are closed under equality of arguments, and that lead nowhere in a circle, to the solved form. No program.
  The program's graph in memory: a box with the slice of nodes; the nodes in a row of the call's own; the lists of their arguments in blocks of their own.
-/
import Derived.Test.YtdjbigfobodecaaMk4
import Derived.Test.YtdjbigfobodecaaMk2
import Derived.Maps.AppendAt
import Derived.WalkSpells
import Derived.Lib.SliceRun
import Derived.Laws.Rows
import Derived.Laws.OwnMore
import Derived.Deep.AppendLies
namespace Go.Proofs.Ytdjbigfobodecaa
open Go.RowKit

def tcells (l : List Tm) : List Value := l.flatMap Tm.cells
theorem cells_length (t : Tm) : t.cells.length = 4 := rfl
theorem tcells_length (l : List Tm) : (tcells l).length = l.length * 4 := by
  induction l with
  | nil => rfl
  | cons t r ih => simp only [tcells, List.flatMap_cons, List.length_append, cells_length, List.length_cons] at *; omega
theorem tcells_one (l : List Tm) : ∀ u ∈ tcells l, u.oneCell' = true := by
  intro u hu
  obtain ⟨t, _, ht⟩ := List.mem_flatMap.1 hu
  simp only [Tm.cells, List.mem_cons, List.not_mem_nil, or_false] at ht
  rcases ht with rfl | rfl | rfl | rfl <;> rfl
theorem tcells_get (l : List Tm) {i j : Nat} (hi : i < l.length) (hj : j < 4) : (tcells l)[4 * i + j]? = (l.getD i default).cells[j]? := by
  induction l generalizing i with
  | nil => simp at hi
  | cons t r ih =>
    simp only [tcells, List.flatMap_cons]
    cases i with
    | zero =>
      rw [List.getElem?_append_left (by rw [cells_length]; omega)]
      simp
    | succ i =>
      rw [List.getElem?_append_right (by rw [cells_length]; omega), cells_length, show 4 * (i + 1) + j - 4 = 4 * i + j by omega]
      simpa [tcells] using ih (by simpa using hi)
theorem RowAt.cells {w : World} {l : List Tm} {b o : Nat} (h : RowAt w l b o) : ∀ (j : Nat) (u : Value), (tcells l)[j]? = some u → w.cell? ((⟨b, o, none⟩ : Addr).add j) = some u := by
  induction l generalizing o with
  | nil => intro j u hu; simp [tcells] at hu
  | cons t r ih =>
    intro j u hu
    simp only [RowAt] at h
    obtain ⟨⟨h0, h1, h2, h3⟩, _, hr⟩ := h
    rw [add_plain]
    simp only [tcells, List.flatMap_cons] at hu
    by_cases hj : j < 4
    · rw [List.getElem?_append_left (by rw [cells_length]; exact hj)] at hu
      match j, hj with
      | 0, _ => rw [← hu]; exact h0
      | 1, _ => rw [← hu]; exact h1
      | 2, _ => rw [← hu]; exact h2
      | 3, _ => rw [← hu]; exact h3
    · rw [List.getElem?_append_right (by rw [cells_length]; omega), cells_length] at hu
      have := ih hr (j - 4) u hu
      rw [add_plain, show o + 4 + (j - 4) = o + j by omega] at this
      exact this

theorem term_info : (Try.prog.info? 24).map (fun i => (i.zero, i.size, i.bytes)) = some (some (.agg #[.int .i64 0, .int .i64 0, .string ⟨#[]⟩, .slice none 0 0]), 4, 56) := by kernel_rfl

/-- A row of its own: block g holds the terms, and may be written. -/
def Row4 (w : World) (g : Nat) (l : List Tm) : Prop := g < w.heap.size ∧ (∀ j, w.frozen? ⟨g, j, none⟩ = false) ∧ ∀ i j u, i < l.length → (l.getD i default).cells[j]? = some u → w.cell? ⟨g, 4 * i + j, none⟩ = some u
theorem Row4.below {w w' : World} {g : Nat} {l : List Tm} (h : Row4 w g l) (hb : Below w.heap.size w w') : Row4 w' g l := by
  refine ⟨Nat.lt_of_lt_of_le h.1 hb.size, fun j => ?_, fun i j u hi hu => ?_⟩
  · rw [hb.frozen (p := ⟨g, j, none⟩) h.1]; exact h.2.1 j
  · rw [hb.cell (p := ⟨g, 4 * i + j, none⟩) h.1]; exact h.2.2 i j u hi hu
theorem own_block_lt {w : World} {base : Nat} {e : TypeId} {size : Nat} {g n c : Nat} {xs : List Value} (h : w.ownsRow base e size (.slice (some ⟨g, 0, none⟩) n c) n xs) : g < w.heap.size := (World.ownsRow.lt h g rfl).2
theorem Row4.of {w : World} {base g c : Nat} {l : List Tm} (h : w.ownsRow base 24 4 (.slice (some ⟨g, 0, none⟩) l.length c) l.length (tcells l)) : Row4 w g l := by
  refine ⟨own_block_lt h, fun j => World.ownsRow.frozenAt h j, fun i j u hi hu => ?_⟩
  have hj : j < 4 := by
    have := (List.getElem?_eq_some_iff.1 hu).1
    simpa [Tm.cells] using this
  rw [World.ownsRow.cellAt h (4 * i + j) (by omega), tcells_get l hi hj]
  exact hu

/-- What Clone gives back. -/
def Cloned (w : World) (l : List Tm) (e : Ending) (w' : World) : Prop := ∃ A cap, e = .returned (.slice A l.length cap) ∧ l.length ≤ cap ∧ cap ≤ maxLen ∧ (0 < l.length → ∃ g, A = some ⟨g, 0, none⟩ ∧ w.heap.size ≤ g ∧ Row4 w' g l) ∧ Below w.heap.size w w'

theorem set4 (w : World) (g q : Nat) (v0 v1 v2 v3 : Value) (h0 : ∀ j, j < 4 → (w.cell? ⟨g, q + j, none⟩).isSome = true) :
    ∀ p : Addr, ((((w.setCell ⟨g, q, none⟩ v0).setCell ⟨g, q + 1, none⟩ v1).setCell ⟨g, q + 2, none⟩ v2).setCell ⟨g, q + 3, none⟩ v3).cell? p =
      if p = ⟨g, q, none⟩ then some v0 else if p = ⟨g, q + 1, none⟩ then some v1 else if p = ⟨g, q + 2, none⟩ then some v2 else if p = ⟨g, q + 3, none⟩ then some v3 else w.cell? p := by
  intro p
  have ne : ∀ i j : Nat, i ≠ j → (⟨g, q + i, none⟩ : Addr) ≠ ⟨g, q + j, none⟩ := fun i j h e => by injection e with _ e _; omega
  have n01 : (⟨g, q, none⟩ : Addr) ≠ ⟨g, q + 1, none⟩ := ne 0 1 (by omega)
  have n02 : (⟨g, q, none⟩ : Addr) ≠ ⟨g, q + 2, none⟩ := ne 0 2 (by omega)
  have n03 : (⟨g, q, none⟩ : Addr) ≠ ⟨g, q + 3, none⟩ := ne 0 3 (by omega)
  have n12 := ne 1 2 (by omega)
  have n13 := ne 1 3 (by omega)
  have n23 := ne 2 3 (by omega)
  have s0 := h0 0 (by omega)
  have s1 := h0 1 (by omega)
  have s2 := h0 2 (by omega)
  have s3 := h0 3 (by omega)
  simp only [Nat.add_zero] at s0
  by_cases e0 : p = ⟨g, q, none⟩
  · subst e0
    rw [if_pos rfl, World.cell?_setCell_other _ _ _ _ n03.symm, World.cell?_setCell_other _ _ _ _ n02.symm, World.cell?_setCell_other _ _ _ _ n01.symm, World.cell?_setCell_same' _ _ _ s0]
  rw [if_neg e0]
  by_cases e1 : p = ⟨g, q + 1, none⟩
  · subst e1
    rw [if_pos rfl, World.cell?_setCell_other _ _ _ _ n13.symm, World.cell?_setCell_other _ _ _ _ n12.symm, World.cell?_setCell_same' _ _ _ (by rw [World.cell?_setCell_other _ _ _ _ n01]; exact s1)]
  rw [if_neg e1]
  by_cases e2 : p = ⟨g, q + 2, none⟩
  · subst e2
    rw [if_pos rfl, World.cell?_setCell_other _ _ _ _ n23.symm, World.cell?_setCell_same' _ _ _ (by rw [World.cell?_setCell_other _ _ _ _ n12, World.cell?_setCell_other _ _ _ _ n02]; exact s2)]
  rw [if_neg e2]
  by_cases e3 : p = ⟨g, q + 3, none⟩
  · subst e3
    rw [if_pos rfl, World.cell?_setCell_same' _ _ _ (by rw [World.cell?_setCell_other _ _ _ _ n23, World.cell?_setCell_other _ _ _ _ n13, World.cell?_setCell_other _ _ _ _ n03]; exact s3)]
  rw [if_neg e3, World.cell?_setCell_other _ _ _ _ (Ne.symm e3), World.cell?_setCell_other _ _ _ _ (Ne.symm e2), World.cell?_setCell_other _ _ _ _ (Ne.symm e1), World.cell?_setCell_other _ _ _ _ (Ne.symm e0)]

theorem Row4.some_cell {w : World} {g : Nat} {l : List Tm} (h : Row4 w g l) {i : Nat} (hi : i < l.length) : ∀ j, j < 4 → (w.cell? ⟨g, i * 4 + j, none⟩).isSome = true := by
  intro j hj
  have e : (l.getD i default).cells.length = 4 := rfl
  rw [Nat.mul_comm, h.2.2 i j _ hi (List.getElem?_eq_getElem (by omega))]
  rfl
/-- A term stored into the row. -/
theorem Row4.store {w : World} {g : Nat} {l : List Tm} (h : Row4 w g l) {i : Nat} (hi : i < l.length) (u : Tm) :
    Row4 ((((w.setCell ⟨g, i * 4, none⟩ (.int .i64 u.kind)).setCell ⟨g, i * 4 + 1, none⟩ (.int .i64 u.num)).setCell ⟨g, i * 4 + 2, none⟩ (.string u.name)).setCell ⟨g, i * 4 + 3, none⟩ (.slice u.at_ u.args.length u.cap)) g (l.set i u) := by
  refine ⟨by simpa using h.1, fun j => by simp only [World.frozen?_setCell]; exact h.2.1 j, fun i' j v hi' hv => ?_⟩
  rw [List.length_set] at hi'
  rw [set4 _ _ _ _ _ _ _ (h.some_cell hi)]
  have hj : j < 4 := by
    have := (List.getElem?_eq_some_iff.1 hv).1
    simpa [Tm.cells] using this
  by_cases e : i' = i
  · subst e
    have ev : (l.set i' u).getD i' default = u := by simp [List.getD, hi']
    rw [ev] at hv
    have ad : ∀ a b : Nat, a ≠ b → ¬ (⟨g, 4 * i' + a, none⟩ : Addr) = ⟨g, i' * 4 + b, none⟩ := fun a b hab h => by injection h with _ h _; omega
    have ad0 : ∀ a : Nat, a ≠ 0 → ¬ (⟨g, 4 * i' + a, none⟩ : Addr) = ⟨g, i' * 4, none⟩ := fun a ha h => by injection h with _ h _; omega
    match j, hj with
    | 0, _ => rw [if_pos (by rw [Nat.mul_comm]; rfl)]; exact hv
    | 1, _ => rw [if_neg (ad0 1 (by omega)), if_pos (by rw [Nat.mul_comm])]; exact hv
    | 2, _ => rw [if_neg (ad0 2 (by omega)), if_neg (ad 2 1 (by omega)), if_pos (by rw [Nat.mul_comm])]; exact hv
    | 3, _ => rw [if_neg (ad0 3 (by omega)), if_neg (ad 3 1 (by omega)), if_neg (ad 3 2 (by omega)), if_pos (by rw [Nat.mul_comm])]; exact hv
  · have ev : (l.set i u).getD i' default = l.getD i' default := by simp [List.getD, Ne.symm e]
    rw [ev] at hv
    have ad : ∀ b : Nat, b < 4 → ¬ (⟨g, 4 * i' + j, none⟩ : Addr) = ⟨g, i * 4 + b, none⟩ := fun b hb h => by injection h with _ h _; omega
    have ad0 : ¬ (⟨g, 4 * i' + j, none⟩ : Addr) = ⟨g, i * 4, none⟩ := fun h => by injection h with _ h _; omega
    rw [if_neg ad0, if_neg (ad 1 (by omega)), if_neg (ad 2 (by omega)), if_neg (ad 3 (by omega))]
    exact h.2.2 i' j v hi' hv

theorem Row4.at {w : World} {g : Nat} {l : List Tm} (h : Row4 w g l) (W : World) (hc : ∀ j, W.cell? ⟨g, j, none⟩ = w.cell? ⟨g, j, none⟩) (ha : ∀ x ∈ l, x.At W) : RowAt W l g 0 := by
  refine RowAt.of fun i hi => ⟨fun j u hu => ?_, ha _ (getD_mem hi)⟩
  rw [Nat.zero_add, hc]
  exact h.2.2 i j u hi hu

end Go.Proofs.Ytdjbigfobodecaa
namespace Go.Proofs.Ytdjbigfobodecaa
open Go.RowKit

theorem BLst.getA {w : World} {b o c : Nat} {l : List Bd} (h : BLst w (some ⟨b, o, none⟩) l c) {i : Nat} (hi : i < l.length) :
    w.cell? ⟨b, o + i * 5, none⟩ = some (.int .i64 (l.getD i default).var) ∧ w.cell? ⟨b, o + i * 5 + 1, none⟩ = some (.int .i64 (l.getD i default).tm.kind) ∧ w.cell? ⟨b, o + i * 5 + 2, none⟩ = some (.int .i64 (l.getD i default).tm.num) ∧ w.cell? ⟨b, o + i * 5 + 3, none⟩ = some (.string (l.getD i default).tm.name) ∧
      w.cell? ⟨b, o + i * 5 + 4, none⟩ = some (.slice (l.getD i default).tm.at_ (l.getD i default).tm.args.length (l.getD i default).tm.cap) := by
  obtain ⟨b1, o1, e, h2, _⟩ := h.get hi
  injection e with e
  injection e with e1 e2 _
  subst e1 e2
  exact h2
def bcells (l : List Bd) : List Value := l.flatMap Bd.cells
theorem bcells_len (l : List Bd) : (bcells l).length = l.length * 5 := by
  induction l with
  | nil => rfl
  | cons t r ih => simp only [bcells, List.flatMap_cons, List.length_append, bcells_length, List.length_cons] at *; omega
theorem bcells_append (l m : List Bd) : bcells (l ++ m) = bcells l ++ bcells m := by simp [bcells]
theorem bcells_one (x : Bd) : ∀ v ∈ x.cells, v.oneCell' = true := by
  intro v hv
  simp only [Bd.cells, List.mem_cons, List.not_mem_nil, or_false] at hv
  rcases hv with rfl | rfl | rfl | rfl | rfl <;> rfl
theorem bcells_get (l : List Bd) {i j : Nat} (hi : i < l.length) (hj : j < 5) : (bcells l)[i * 5 + j]? = (l.getD i default).cells[j]? := by
  induction l generalizing i with
  | nil => simp at hi
  | cons t r ih =>
    simp only [bcells, List.flatMap_cons]
    cases i with
    | zero =>
      rw [List.getElem?_append_left (by rw [bcells_length]; omega)]
      simp
    | succ i =>
      rw [List.getElem?_append_right (by rw [bcells_length]; omega), bcells_length, show (i + 1) * 5 + j - 5 = i * 5 + j by omega]
      simpa [bcells] using ih (by simpa using hi)
theorem bind_info : (Try.prog.info? 40).map (fun i => (i.zero, i.size, i.bytes)) = some (some (.agg #[.int .i64 0, .int .i64 0, .int .i64 0, .string ⟨#[]⟩, .slice none 0 0]), 5, 64) := by kernel_rfl

theorem own_lt {w : World} {base : Nat} {e : TypeId} {size : Nat} {v : Value} {n : Nat} {xs : List Value} (h : w.ownsRow base e size v n xs) : ∀ k, v.ownBlock = some k → base ≤ k ∧ k < w.heap.size := by
  intro k hk
  rcases h.2 with ⟨rfl, _⟩ | ⟨g, cap, cur, rfl, hb, hg, _⟩
  · simp [Value.ownBlock] at hk
  · simp only [Value.ownBlock, Option.some.injEq] at hk
    subst hk
    refine ⟨hb, ?_⟩
    rcases Nat.lt_or_ge g w.heap.size with h | h
    · exact h
    · rw [Array.getElem?_eq_none h] at hg; cases hg
theorem own_below {w w' : World} {base : Nat} {e : TypeId} {size : Nat} {v : Value} {n : Nat} {xs : List Value} (h : w.ownsRow base e size v n xs) (hb : Below w.heap.size w w') : w'.ownsRow base e size v n xs :=
  World.ownsRow.kept (row := none) h ⟨hb.os, hb.tape, hb.output, hb.size, fun k hk _ => hb.block k hk⟩ (by
    rcases h.2 with ⟨rfl, _⟩ | ⟨g, cap, cur, rfl, _⟩
    · exact .inl rfl
    · exact .inr (by simp [Value.ownBlock]))

/-- Bindings in a row of the call's own. -/
def RowB (B : World → Prop) (lo : Nat) (w : World) (z : Value) (acc : List Bd) : Prop :=
  w.ownsRow lo 40 5 z acc.length (bcells acc) ∧ ∀ x ∈ acc, Fits x.var ∧ Lie B lo (fun k => z.ownBlock = some k) w x.tm
section
variable {B : World → Prop} {lo : Nat} {w w' : World} {z : Value} {acc : List Bd}
theorem RowB.nil (B : World → Prop) (lo : Nat) (w : World) : RowB B lo w (.slice none 0 0) [] := ⟨⟨rfl, .inl ⟨rfl, rfl⟩⟩, fun x hx => by cases hx⟩
theorem RowB.below (h : RowB B lo w z acc) (hb : Below w.heap.size w w') : RowB B lo w' z acc := ⟨own_below h.1 hb, fun x hx => ⟨(h.2 x hx).1, (h.2 x hx).2.below hb⟩⟩
/-- One binding more: behind the call (w2), the blocks of the new element (w3), the append (w4). -/
theorem RowB.next {g cap : Nat} {w2 w3 w4 : World} {u : Bd} (h : RowB B lo w2 z acc) (hf : Fits u.var) (hu : Lie B lo (fun k => z.ownBlock = some k) w2 u.tm) (hb : Below w2.heap.size w2 w3)
    (hown : w4.ownsRow lo 40 5 (.slice (some ⟨g, 0, none⟩) (acc.length + 1) cap) (acc.length + 1) (bcells acc ++ u.cells)) (hg : w3.grownBy w4 z.ownBlock) (hat : z.ownBlock = some g ∨ g = w3.heap.size) :
    RowB B lo w4 (.slice (some ⟨g, 0, none⟩) (acc.length + 1) cap) (acc ++ [u]) := by
  refine ⟨by rw [List.length_append, bcells_append]; simpa [bcells] using hown, fun x hx => ?_⟩
  have hx2 : Fits x.var ∧ Lie B lo (fun k => z.ownBlock = some k) w2 x.tm := by
    rcases List.mem_append.1 hx with hx | hx
    · exact h.2 x hx
    · rw [List.mem_singleton.1 hx]; exact ⟨hf, hu⟩
  refine ⟨hx2.1, (hx2.2.below hb).less hg.size fun b h1 h2 h3 => ⟨h1, fun e => ?_, hg.block b h2 (fun e => h3 e.symm)⟩⟩
  have e' : g = b := by simpa [Value.ownBlock] using e
  rcases hat with h | h
  · exact h3 (by rw [h, e'])
  · omega
/-- An element that was made behind the row lies apart from it. -/
theorem lie_apart {x : Tm} {B : World → Prop} {lo lo' : Nat} {w0 w2 : World} {z : Value} {n : Nat} {e : TypeId} {size : Nat} {xs : List Value} (hown : w0.ownsRow lo e size z n xs) (hx : Lie B lo' No w2 x) (h1 : lo ≤ lo') (h2 : w0.heap.size ≤ lo') : Lie B lo (fun k => z.ownBlock = some k) w2 x :=
  (hx.out (X := fun k => z.ownBlock = some k) (fun b h3 _ h4 => by have := (own_lt hown b h4).2; omega)).low h1
theorem RowB.form (h : RowB B lo w z acc) : ∃ A c, z = .slice A acc.length c ∧ acc.length ≤ c ∧ (0 < acc.length → ∃ g, A = some ⟨g, 0, none⟩ ∧ lo ≤ g) := by
  rcases h.1.2 with ⟨rfl, h1⟩ | ⟨g, cap, cur, rfl, hb, hg, hle, _⟩
  · exact ⟨none, 0, by rw [h1], by omega, fun h => by omega⟩
  · exact ⟨_, cap, rfl, hle, fun _ => ⟨g, rfl, hb⟩⟩
theorem RowB.blst {A : Option Addr} {c : Nat} (h : RowB B lo w (.slice A acc.length c) acc) (hB : B w) : BLst w A acc c := by
  have hl := bcells_len acc
  rcases h.1.2 with ⟨e, h1⟩ | ⟨g, cap, cur, e, hb, hg, hle, hcap, hcs, hcur⟩
  · injection e with e1 _ e3
    obtain rfl : acc = [] := List.length_eq_zero_iff.1 h1
    rw [e1, e3]; exact BLst.nil w
  · injection e with e1 _ e3
    subst e1 e3
    refine ⟨hle, hcap, fun h0 => ⟨g, 0, rfl, fun i hi => ⟨fun j u hu => ?_, (h.2 _ (bgetD_mem hi)).1, (h.2 _ (bgetD_mem hi)).2.at hB⟩⟩⟩
    have hj := bcells_lt hu
    have hc := World.ownsRow.cellAt h.1 (i * 5 + j) (by omega)
    rw [Nat.zero_add, hc]
    exact (bcells_get acc hi hj).trans hu
theorem RowB.row5 {g c n : Nat} (h : RowB B lo w (.slice (some ⟨g, 0, none⟩) n c) acc) : Row5 w g acc := by
  have hl := bcells_len acc
  obtain rfl : n = acc.length := by
    rcases h.1.2 with ⟨e, _⟩ | ⟨_, _, _, e, _⟩
    · injection e with e; cases e
    · injection e
  refine ⟨(own_lt h.1 g rfl).2, fun j => World.ownsRow.frozenAt h.1 j, fun i j u hi hu => ?_⟩
  have hj := bcells_lt hu
  rw [World.ownsRow.cellAt h.1 (i * 5 + j) (by omega)]
  exact (bcells_get acc hi hj).trans hu
end
/-- The cells of an element that was just laid. -/
theorem bnews1 (w : World) (u : Bd) : ∀ j v, u.cells[j]? = some v → (w.alloc (boxB u)).cell? ((⟨w.heap.size, 0, none⟩ : Addr).add j) = some v := by
  intro j v hv
  rw [add_plain, Nat.zero_add, World.cell?_alloc_at _ _ _ _ rfl, ← hv, show (#[Value.int .i64 u.var, .int .i64 u.tm.kind, .int .i64 u.tm.num, .string u.tm.name, .slice u.tm.at_ u.tm.args.length u.tm.cap] : Array Value) = u.cells.toArray from rfl, List.getElem?_toArray]
theorem bnews2 (w : World) (o : Obj) (u : Bd) : ∀ j v, u.cells[j]? = some v → ((w.alloc o).alloc (boxB u)).cell? ((⟨w.heap.size + 1, 0, none⟩ : Addr).add j) = some v := by
  have := bnews1 (w.alloc o) u
  rwa [World.size_alloc] at this

/-! ### Terms -/
theorem tcells_append (l m : List Tm) : tcells (l ++ m) = tcells l ++ tcells m := by simp [tcells]
theorem cells_one (u : Tm) : ∀ v ∈ u.cells, v.oneCell' = true := by
  intro v hv
  simp only [Tm.cells, List.mem_cons, List.not_mem_nil, or_false] at hv
  rcases hv with rfl | rfl | rfl | rfl <;> rfl
/-- Terms in a row of the call's own. -/
def RowT (B : World → Prop) (lo : Nat) (w : World) (z : Value) (acc : List Tm) : Prop :=
  w.ownsRow lo 24 4 z acc.length (tcells acc) ∧ ∀ x ∈ acc, Lie B lo (fun k => z.ownBlock = some k) w x
section
variable {B : World → Prop} {lo : Nat} {w w' : World} {z : Value} {acc : List Tm}
theorem RowT.nil (B : World → Prop) (lo : Nat) (w : World) : RowT B lo w (.slice none 0 0) [] := ⟨⟨rfl, .inl ⟨rfl, rfl⟩⟩, fun x hx => by cases hx⟩
theorem RowT.below (h : RowT B lo w z acc) (hb : Below w.heap.size w w') : RowT B lo w' z acc := ⟨own_below h.1 hb, fun x hx => (h.2 x hx).below hb⟩
theorem RowT.next {g cap : Nat} {w2 w3 w4 : World} {u : Tm} (h : RowT B lo w2 z acc) (hu : Lie B lo (fun k => z.ownBlock = some k) w2 u) (hb : Below w2.heap.size w2 w3)
    (hown : w4.ownsRow lo 24 4 (.slice (some ⟨g, 0, none⟩) (acc.length + 1) cap) (acc.length + 1) (tcells acc ++ u.cells)) (hg : w3.grownBy w4 z.ownBlock) (hat : z.ownBlock = some g ∨ g = w3.heap.size) :
    RowT B lo w4 (.slice (some ⟨g, 0, none⟩) (acc.length + 1) cap) (acc ++ [u]) := by
  refine ⟨by rw [List.length_append, tcells_append]; simpa [tcells] using hown, fun x hx => ?_⟩
  have hx2 : Lie B lo (fun k => z.ownBlock = some k) w2 x := by
    rcases List.mem_append.1 hx with hx | hx
    · exact h.2 x hx
    · rw [List.mem_singleton.1 hx]; exact hu
  refine (hx2.below hb).less hg.size fun b h1 h2 h3 => ⟨h1, fun e => ?_, hg.block b h2 (fun e => h3 e.symm)⟩
  have e' : g = b := by simpa [Value.ownBlock] using e
  rcases hat with h | h
  · exact h3 (by rw [h, e'])
  · omega
theorem RowT.form (h : RowT B lo w z acc) : ∃ A c, z = .slice A acc.length c ∧ acc.length ≤ c := by
  rcases h.1.2 with ⟨rfl, h1⟩ | ⟨g, cap, cur, rfl, hb, hg, hle, _⟩
  · exact ⟨none, 0, by rw [h1], by omega⟩
  · exact ⟨_, cap, rfl, hle⟩
/-- The list lies in each world of B that agrees from lo on. -/
theorem RowT.lies {A : Option Addr} {c n : Nat} (h : RowT B lo w (.slice A n c) acc) : ∀ W, B W → Agree lo No w W → Lst W A acc c := by
  intro W hB hW
  have hl := tcells_length acc
  rcases h.1.2 with ⟨e, h1⟩ | ⟨g, cap, cur, e, hb, hg, hle, hcap, hcs, hcur⟩
  · injection e with e1 _ e3
    obtain rfl : acc = [] := List.length_eq_zero_iff.1 h1
    rw [e1, e3]; exact Lst.nil W
  · injection e with e1 e2 e3
    subst e1 e2 e3
    have hlt := own_lt h.1 g rfl
    refine ⟨hle, hcap, fun _ => ⟨g, 0, rfl, RowAt.of fun i hi => ⟨fun j u hu => ?_, ?_⟩⟩⟩
    · have hj : j < 4 := by
        have := (List.getElem?_eq_some_iff.1 hu).1
        simpa [Tm.cells] using this
      rw [hW.cell (p := ⟨g, 0 + 4 * i + j, none⟩) hlt.1 hlt.2 (fun h => h)]
      have hc := World.ownsRow.cellAt h.1 (4 * i + j) (by omega)
      rw [Nat.zero_add, hc]
      exact (tcells_get acc hi hj).trans hu
    · exact h.2 _ (getD_mem hi) W hB fun b h1 h2 h3 => hW b h1 h2 (fun h => h)
end
theorem tnews1 (w : World) (u : Tm) (T : TypeId) : ∀ j v, u.cells[j]? = some v → (w.alloc (.cells #[.int .i64 u.kind, .int .i64 u.num, .string u.name, .slice u.at_ u.args.length u.cap] T)).cell? ((⟨w.heap.size, 0, none⟩ : Addr).add j) = some v := by
  intro j v hv
  rw [add_plain, Nat.zero_add, World.cell?_alloc_at _ _ _ _ rfl, ← hv, show (#[Value.int .i64 u.kind, .int .i64 u.num, .string u.name, .slice u.at_ u.args.length u.cap] : Array Value) = u.cells.toArray from rfl, List.getElem?_toArray]
end Go.Proofs.Ytdjbigfobodecaa
namespace Go.Proofs.Ytdjbigfobodecaa
open Go

/-- A node: its term, where the list of its arguments' nodes lies, and these; the next node (of the program). -/
structure Nd where
  tm : Tm
  A : Option Addr
  cap : Nat
  kids : List Nat
  next : Nat
instance : Inhabited Nd := ⟨⟨default, none, 0, [], 0⟩⟩
def nd (G : List Nd) (i : Nat) : Nd := G.getD i default
/-- The node's term under a substitution. -/
def ndv (f : Int → Tm) (G : List Nd) (i : Nat) : Tm := (nd G i).tm.sub f
/-- A node whose arguments are entered. -/
structure OkAt (G : List Nd) (i : Nat) : Prop where
  form : (nd G i).tm.form = true
  len : (nd G i).kids.length = (nd G i).tm.args.length
  kid : ∀ j, j < (nd G i).kids.length → (nd G i).kids.getD j 0 < G.length ∧ (nd G ((nd G i).kids.getD j 0)).tm.strip = ((nd G i).tm.args.getD j default).strip
def Ok (G : List Nd) : Prop := ∀ i, i < G.length → OkAt G i
/-- Each variable has one node. -/
def VarU (G : List Nd) : Prop := ∀ i j, i < G.length → j < G.length → (nd G i).tm.kind = 1 → (nd G j).tm.kind = 1 → (nd G i).tm.num = (nd G j).tm.num → i = j
theorem OkAt.mem {G : List Nd} {i c : Nat} (h : OkAt G i) (hc : c ∈ (nd G i).kids) : c < G.length := by
  obtain ⟨j, hj, e⟩ := List.mem_iff_getElem.1 hc
  have := (h.kid j hj).1
  rwa [List.getD, List.getElem?_eq_getElem hj, Option.getD_some, e] at this
theorem OkAt.var {G : List Nd} {i : Nat} (h : OkAt G i) (hk : (nd G i).tm.kind = 1) : (nd G i).kids = [] := by
  have := (form_var h.form hk).2.2.2
  exact List.length_eq_zero_iff.1 (by rw [h.len, this]; rfl)
theorem ndv_eq {f : Int → Tm} {G : List Nd} {i : Nat} (h : OkAt G i) : ndv f G i = if (nd G i).tm.kind = 1 then f (nd G i).tm.num else .mk (nd G i).tm.kind (nd G i).tm.num (nd G i).tm.name none 0 ((nd G i).kids.map (ndv f G)) := by
  have e : (nd G i).kids.map (ndv f G) = subL f (nd G i).tm.args := by
    rw [subL_map]
    refine List.ext_getElem (by simp [h.len]) fun j h1 h2 => ?_
    have hj : j < (nd G i).kids.length := by simpa using h1
    have ha : j < (nd G i).tm.args.length := by simpa using h2
    have := (h.kid j hj).2
    rw [List.getElem_map, List.getElem_map]
    rw [List.getD, List.getElem?_eq_getElem hj, Option.getD_some, List.getD, List.getElem?_eq_getElem ha, Option.getD_some] at this
    exact sub_like f this
  unfold ndv at e ⊢
  rw [e]
  cases hn : (nd G i).tm with
  | mk k n s A c a => rfl

/-! ### The term of a class -/
def sol (G : List Nd) (top : Nat → Nat) : Nat → Nat → Tm
  | 0, _ => default
  | d + 1, i => if (nd G (top i)).tm.kind = 1 then vr (nd G (top i)).tm.num else .mk (nd G (top i)).tm.kind (nd G (top i)).tm.num (nd G (top i)).tm.name none 0 ((nd G (top i)).kids.map (sol G top d))
/-- Classes of nodes, closed, in an order; top: the node that stands for a class. -/
structure Closed (G : List Nd) (E : List (Nat × Nat)) (top : Nat → Nat) : Prop where
  ok : Ok G
  varu : VarU G
  lt : ∀ i, i < G.length → top i < G.length
  idem : ∀ i, i < G.length → top (top i) = top i
  sound : ∀ f, (∀ p ∈ E, ndv f G p.1 = ndv f G p.2) → ∀ i j, i < G.length → j < G.length → top i = top j → ndv f G i = ndv f G j
  cong : ∀ i j, i < G.length → j < G.length → (nd G i).tm.kind ≠ 1 → (nd G j).tm.kind ≠ 1 → top i = top j →
    ((nd G i).tm.kind = (nd G j).tm.kind ∧ (nd G i).tm.num = (nd G j).tm.num ∧ (nd G i).tm.name = (nd G j).tm.name) ∧ (nd G i).kids.map top = (nd G j).kids.map top
  eqs : ∀ p ∈ E, p.1 < G.length ∧ p.2 < G.length ∧ top p.1 = top p.2
  nonvar : ∀ i, i < G.length → (nd G i).tm.kind ≠ 1 → (nd G (top i)).tm.kind ≠ 1
  least : ∀ i, i < G.length → (nd G (top i)).tm.kind = 1 → (nd G (top i)).tm.num ≤ (nd G i).tm.num
/-- No class leads to itself: r goes down from a class to those of its arguments, and D is above it. -/
def Ranked (G : List Nd) (top r : Nat → Nat) (D : Nat) : Prop := ∀ i, i < G.length → r (top i) < D ∧ ∀ c ∈ (nd G (top i)).kids, r (top c) < r (top i)
section
variable {G : List Nd} {E : List (Nat × Nat)} {top r : Nat → Nat} {D : Nat}
theorem sol_stable (h : Closed G E top) (hr : Ranked G top r D) : ∀ (n i : Nat), i < G.length → r (top i) < n → ∀ d d', r (top i) < d → r (top i) < d' → sol G top d i = sol G top d' i := by
  intro n
  induction n with
  | zero => intro i _ h; omega
  | succ n ih =>
    intro i hi hn d d' hd hd'
    obtain ⟨d, rfl⟩ : ∃ x, d = x + 1 := ⟨d - 1, by omega⟩
    obtain ⟨d', rfl⟩ : ∃ x, d' = x + 1 := ⟨d' - 1, by omega⟩
    simp only [sol]
    split
    · rfl
    · have : ∀ c ∈ (nd G (top i)).kids, sol G top d c = sol G top d' c := fun c hc => by
        have h1 := (hr i hi).2 c hc
        exact ih c ((h.ok _ (h.lt i hi)).mem hc) (by omega) d d' (by omega) (by omega)
      rw [List.map_congr_left this]
theorem sol_eq (h : Closed G E top) (hr : Ranked G top r D) {i : Nat} (hi : i < G.length) : sol G top D i =
    if (nd G (top i)).tm.kind = 1 then vr (nd G (top i)).tm.num else .mk (nd G (top i)).tm.kind (nd G (top i)).tm.num (nd G (top i)).tm.name none 0 ((nd G (top i)).kids.map (sol G top D)) := by
  have hd := (hr i hi).1
  rw [sol_stable h hr (D + 1) i hi (by omega) D (D + 1) hd (by omega)]
  rfl
theorem sol_top (h : Closed G E top) (hr : Ranked G top r D) {i j : Nat} (hi : i < G.length) (hj : j < G.length) (e : top i = top j) : sol G top D i = sol G top D j := by
  rw [sol_eq h hr hi, sol_eq h hr hj, e]
theorem sol_induct (h : Closed G E top) (hr : Ranked G top r D) {p : Nat → Prop} (hp : ∀ i, i < G.length → (∀ c ∈ (nd G (top i)).kids, p c) → p i) : ∀ i, i < G.length → p i := by
  suffices H : ∀ n i, i < G.length → r (top i) < n → p i from fun i hi => H _ i hi (Nat.lt_succ_self _)
  intro n
  induction n with
  | zero => intro i _ h; omega
  | succ n ih =>
    intro i hi hn
    refine hp i hi fun c hc => ih c ((h.ok _ (h.lt i hi)).mem hc) ?_
    have := (hr i hi).2 c hc
    omega
theorem formL_of {l : List Tm} (h : ∀ t ∈ l, t.form = true) : formL l = true := formL_all l h
/-- The name and the number of arguments are enough. -/
theorem form_mk {t : Tm} (h : t.form = true) {l : List Tm} (hl : l.length = t.args.length) (hf : formL l = true) : (Tm.mk t.kind t.num t.name none 0 l).form = true := by
  obtain ⟨k, n, s, A, c, a⟩ := t
  simp only [Tm.kind, Tm.num, Tm.name, Tm.args] at *
  simp only [Tm.form, hl, hf] at h ⊢
  split at h
  · rename_i h0; rw [if_pos h0]; exact h
  · rename_i h0
    rw [if_neg h0]
    split at h
    · rename_i h1; rw [if_pos h1]; exact h
    · rename_i h1
      rw [if_neg h1]
      split at h
      · rename_i h2
        rw [if_pos h2]
        simp only [Bool.and_eq_true] at h ⊢
        exact ⟨h.1, h.2.1, trivial⟩
      · cases h
theorem stripL_id {l : List Tm} (h : ∀ t ∈ l, t.strip = t) : stripL l = l := by
  rw [stripL_map]
  exact (List.map_congr_left h).trans (List.map_id l)
theorem sol_form (h : Closed G E top) (hr : Ranked G top r D) : ∀ i, i < G.length → (sol G top D i).strip = sol G top D i ∧ (sol G top D i).form = true := by
  refine sol_induct h hr fun i hi ih => ?_
  rw [sol_eq h hr hi]
  have hk := h.ok _ (h.lt i hi)
  split
  · rename_i hv
    have := form_var hk.form hv
    exact ⟨rfl, vr_form this.2.1 this.2.2.1⟩
  · have h1 : ∀ t ∈ (nd G (top i)).kids.map (sol G top D), t.strip = t ∧ t.form = true := fun t ht => by
      obtain ⟨c, hc, rfl⟩ := List.mem_map.1 ht
      exact ih c hc
    refine ⟨?_, form_mk hk.form (by simp [hk.len]) (formL_of fun t ht => (h1 t ht).2)⟩
    simp only [Tm.strip]
    rw [stripL_id fun t ht => (h1 t ht).1]
theorem mem_occL {l : List Tm} {v : Int} : v ∈ occL l ↔ ∃ t ∈ l, v ∈ t.occ := by
  induction l with
  | nil => simp [occL]
  | cons t r ih => simp [occL, ih]
theorem sol_occ (h : Closed G E top) (hr : Ranked G top r D) : ∀ i, i < G.length → ∀ v ∈ (sol G top D i).occ, ∃ j, j < G.length ∧ (nd G j).tm.kind = 1 ∧ top j = j ∧ (nd G j).tm.num = v := by
  refine sol_induct h hr fun i hi ih v hv => ?_
  rw [sol_eq h hr hi] at hv
  split at hv
  · rename_i hk
    simp only [vr, Tm.occ, if_true, List.mem_singleton] at hv
    exact ⟨top i, h.lt i hi, hk, h.idem i hi, hv.symm⟩
  · rename_i hk
    simp only [Tm.occ, if_neg hk] at hv
    split at hv
    · obtain ⟨t, ht, hv⟩ := mem_occL.1 hv
      obtain ⟨c, hc, rfl⟩ := List.mem_map.1 ht
      exact ih c hc v hv
    · cases hv
theorem sol_gen (h : Closed G E top) (hr : Ranked G top r D) {f : Int → Tm} (hf : ∀ p ∈ E, ndv f G p.1 = ndv f G p.2) : ∀ i, i < G.length → (sol G top D i).sub f = ndv f G i := by
  refine sol_induct h hr fun i hi ih => ?_
  have ht := h.lt i hi
  rw [h.sound f hf i (top i) hi ht (h.idem i hi).symm, sol_eq h hr hi, ndv_eq (h.ok _ ht)]
  split
  · simp [vr, Tm.sub]
  · rename_i hk
    simp only [Tm.sub, if_neg hk, subL_map, List.map_map]
    have : List.map (Tm.sub f ∘ sol G top D) (nd G (top i)).kids = List.map (ndv f G) (nd G (top i)).kids := List.map_congr_left fun c hc => ih c hc
    rw [this]
/-- The list that the call answers: bd are the nodes of the bound variables. -/
def bindsOf (G : List Nd) (top : Nat → Nat) (D : Nat) (bd : List Nat) : List Bd := bd.map fun i => ⟨(nd G i).tm.num, sol G top D i⟩
def BoundIs (G : List Nd) (top : Nat → Nat) (bd : List Nat) : Prop :=
  (∀ i, i ∈ bd ↔ i < G.length ∧ (nd G i).tm.kind = 1 ∧ top i ≠ i) ∧ bd.Pairwise fun i j => (nd G i).tm.num < (nd G j).tm.num
theorem BoundIs.asc {bd : List Nat} (h : BoundIs G top bd) : Asc (bindsOf G top D bd) := by
  unfold Asc bindsOf
  rw [List.pairwise_map]
  exact h.2
theorem look_bound_node {bd : List Nat} (hb : BoundIs G top bd) {i : Nat} (hi : i ∈ bd) : look (bindsOf G top D bd) (nd G i).tm.num = some (sol G top D i) :=
  look_mem (x := ⟨(nd G i).tm.num, sol G top D i⟩) hb.asc.dis (List.mem_map.2 ⟨i, hi, rfl⟩)
theorem look_free_node (h : Closed G E top) {bd : List Nat} (hb : BoundIs G top bd) {j : Nat} (hj : j < G.length) (hk : (nd G j).tm.kind = 1) (ht : top j = j) : look (bindsOf G top D bd) (nd G j).tm.num = none := by
  rw [look_none]
  intro x hx e
  obtain ⟨i, hi, rfl⟩ := List.mem_map.1 hx
  obtain ⟨h1, h2, h3⟩ := (hb.1 i).1 hi
  exact h3 (by rw [h.varu i j h1 hj h2 hk e]; exact ht)
theorem sol_unif (h : Closed G E top) (hr : Ranked G top r D) {bd : List Nat} (hb : BoundIs G top bd) : ∀ i, i < G.length → ndv (subOf (bindsOf G top D bd)) G i = sol G top D i := by
  have hkey : ∀ n i, i < G.length → r (top i) < n → ndv (subOf (bindsOf G top D bd)) G i = sol G top D i := by
    intro n
    induction n with
    | zero => intro i _ h; omega
    | succ n ih =>
      intro i hi hn
      have hk := h.ok i hi
      rw [ndv_eq hk]
      split
      · rename_i hv
        by_cases ht : top i = i
        · unfold subOf
          rw [look_free_node h hb hi hv ht, sol_eq h hr hi, ht, if_pos hv]
          rfl
        · unfold subOf
          rw [look_bound_node hb ((hb.1 i).2 ⟨hi, hv, ht⟩)]
          exact (sol_form h hr i hi).1
      · rename_i hv
        obtain ⟨⟨e1, e2, e3⟩, e4⟩ := h.cong i (top i) hi (h.lt i hi) hv (h.nonvar i hi hv) (h.idem i hi).symm
        rw [sol_eq h hr hi, if_neg (h.nonvar i hi hv), e1, e2, e3]
        have hlen : (nd G i).kids.length = (nd G (top i)).kids.length := by simpa using congrArg List.length e4
        have hmap : (nd G i).kids.map (ndv (subOf (bindsOf G top D bd)) G) = (nd G (top i)).kids.map (sol G top D) := by
          refine List.ext_getElem (by simp [hlen]) fun j h1 h2 => ?_
          have hj : j < (nd G i).kids.length := by simpa using h1
          have hj' : j < (nd G (top i)).kids.length := by simpa using h2
          rw [List.getElem_map, List.getElem_map]
          have ec : top ((nd G i).kids[j]) = top ((nd G (top i)).kids[j]) := by
            have := List.getElem_of_eq e4 (by simpa using hj)
            simpa using this
          have hc := hk.mem (List.getElem_mem hj)
          have hc' := (h.ok _ (h.lt i hi)).mem (List.getElem_mem hj')
          have hlt := (hr i hi).2 _ (List.getElem_mem hj')
          rw [ih _ hc (by rw [ec]; omega)]
          exact sol_top h hr hc hc' ec
        rw [hmap]
  exact fun i hi => hkey _ i hi (Nat.lt_succ_self _)
/-- The list is the solved form. -/
theorem closed_sol (h : Closed G E top) (hr : Ranked G top r D) {bd : List Nat} (hb : BoundIs G top bd) {F : List (Tm × Tm)} (hF : ∀ f, Unif F f ↔ ∀ p ∈ E, ndv f G p.1 = ndv f G p.2) : Sol F (bindsOf G top D bd) := by
  have hm : ∀ x ∈ bindsOf G top D bd, ∃ i, i < G.length ∧ (nd G i).tm.kind = 1 ∧ top i ≠ i ∧ x = ⟨(nd G i).tm.num, sol G top D i⟩ := fun x hx => by
    obtain ⟨i, hi, rfl⟩ := List.mem_map.1 hx
    obtain ⟨h1, h2, h3⟩ := (hb.1 i).1 hi
    exact ⟨i, h1, h2, h3, rfl⟩
  refine ⟨hb.asc, fun x hx => ?_, fun x hx v hv => ?_, ?_, fun f hf x hx => ?_, fun x hx hk => ?_⟩
  · obtain ⟨i, h1, h2, h3, rfl⟩ := hm x hx
    have := form_var (h.ok i h1).form h2
    exact ⟨(sol_form h hr i h1).1, (sol_form h hr i h1).2, this.2.1, this.2.2.1⟩
  · obtain ⟨i, h1, h2, h3, rfl⟩ := hm x hx
    obtain ⟨j, hj, hk, ht, rfl⟩ := sol_occ h hr i h1 v hv
    exact look_free_node h hb hj hk ht
  · rw [hF]
    intro p hp
    obtain ⟨h1, h2, h3⟩ := h.eqs p hp
    rw [sol_unif h hr hb _ h1, sol_unif h hr hb _ h2, sol_top h hr h1 h2 h3]
  · obtain ⟨i, h1, h2, h3, rfl⟩ := hm x hx
    show f (nd G i).tm.num = (sol G top D i).sub f
    rw [sol_gen h hr ((hF f).1 hf) i h1, ndv_eq (h.ok i h1), if_pos h2]
  · obtain ⟨i, h1, h2, h3, rfl⟩ := hm x hx
    simp only at hk ⊢
    rw [sol_eq h hr h1] at hk ⊢
    split at hk
    · rename_i hv
      rw [if_pos hv]
      show (nd G (top i)).tm.num < (nd G i).tm.num
      have hle := h.least i h1 hv
      have hne : (nd G (top i)).tm.num ≠ (nd G i).tm.num := fun e => h3 (h.varu _ _ (h.lt i h1) h1 hv h2 e)
      omega
    · rename_i hv
      exact absurd hk hv
end

/-! ### No unifier -/
theorem nodesL_map_mem {α : Type} (f : α → Tm) {l : List α} {c : α} (hc : c ∈ l) : (f c).nodes ≤ nodesL (l.map f) := nodes_mem (List.mem_map.2 ⟨c, hc, rfl⟩)
/-- An argument is smaller. -/
theorem ndv_lt {f : Int → Tm} {G : List Nd} {i c : Nat} (h : OkAt G i) (hk : (nd G i).tm.kind ≠ 1) (hc : c ∈ (nd G i).kids) : (ndv f G c).nodes < (ndv f G i).nodes := by
  have := nodesL_map_mem (ndv f G) hc
  rw [ndv_eq h, if_neg hk]
  simp only [Tm.nodes]
  omega
theorem no_infinite {U : List Nat} (μ : Nat → Nat) (hU : U ≠ []) (h : ∀ u ∈ U, ∃ u' ∈ U, μ u' < μ u) : False := by
  obtain ⟨u0, hu0⟩ := List.exists_mem_of_ne_nil U hU
  have : ∀ n u, u ∈ U → μ u < n → False := by
    intro n
    induction n with
    | zero => intro u _ h; omega
    | succ n ih =>
      intro u hu hn
      obtain ⟨u', h1, h2⟩ := h u hu
      exact ih u' h1 (by omega)
  exact this _ u0 hu0 (Nat.lt_succ_self _)
theorem no_growth {U : List Nat} (μ : Nat → Nat) (hU : U ≠ []) (h : ∀ u ∈ U, ∃ u' ∈ U, μ u < μ u') : False := by
  have hb : ∃ B, ∀ u ∈ U, μ u ≤ B := by
    clear h hU
    induction U with
    | nil => exact ⟨0, fun u hu => by cases hu⟩
    | cons x r ih =>
      obtain ⟨B, hB⟩ := ih
      refine ⟨max B (μ x), fun u hu => ?_⟩
      rcases List.mem_cons.1 hu with rfl | hu
      · omega
      · have := hB u hu; omega
  obtain ⟨B, hB⟩ := hb
  refine no_infinite (fun u => B - μ u) hU fun u hu => ?_
  obtain ⟨u', h1, h2⟩ := h u hu
  exact ⟨u', h1, by have := hB u' h1; omega⟩
/-- Nodes that differ at once. -/
theorem clash {f : Int → Tm} {G : List Nd} {i j : Nat} (hi : OkAt G i) (hj : OkAt G j) (hki : (nd G i).tm.kind ≠ 1) (hkj : (nd G j).tm.kind ≠ 1)
    (h : ¬ (((nd G i).tm.kind = (nd G j).tm.kind ∧ (nd G i).tm.num = (nd G j).tm.num ∧ (nd G i).tm.name = (nd G j).tm.name) ∧ (nd G i).kids.length = (nd G j).kids.length)) : ndv f G i ≠ ndv f G j := by
  intro e
  rw [ndv_eq hi, ndv_eq hj, if_neg hki, if_neg hkj] at e
  simp only [Tm.mk.injEq, true_and] at e
  obtain ⟨e1, e2, e3, e4⟩ := e
  exact h ⟨⟨e1, e2, e3⟩, by simpa using congrArg List.length e4⟩
theorem kids_eq {f : Int → Tm} {G : List Nd} {i j : Nat} (hi : OkAt G i) (hj : OkAt G j) (hki : (nd G i).tm.kind ≠ 1) (hkj : (nd G j).tm.kind ≠ 1) (e : ndv f G i = ndv f G j) : (nd G i).kids.map (ndv f G) = (nd G j).kids.map (ndv f G) := by
  rw [ndv_eq hi, ndv_eq hj, if_neg hki, if_neg hkj] at e
  simp only [Tm.mk.injEq, true_and] at e
  exact e.2.2.2
end Go.Proofs.Ytdjbigfobodecaa
namespace Go.Proofs.Ytdjbigfobodecaa
open Go.RowKit

/-! ### The frame -/
theorem fr_refl (w : World) (row : Option Nat) : w.grownBy w row := ⟨rfl, rfl, rfl, Nat.le_refl _, fun _ _ _ => rfl⟩
theorem fr_trans {a b c : World} {row : Option Nat} (h : a.grownBy b row) (k : b.grownBy c row) : a.grownBy c row :=
  ⟨k.os.trans h.os, k.tape.trans h.tape, k.output.trans h.output, Nat.le_trans h.size k.size, fun i hi hr => (k.block i (Nat.lt_of_lt_of_le hi h.size) hr).trans (h.block i hi hr)⟩
theorem fr_below {w w' : World} (h : Below w.heap.size w w') (row : Option Nat) : w.grownBy w' row := ⟨h.os, h.tape, h.output, h.size, fun k hk _ => h.block k hk⟩
theorem fr_drew {a w : World} {row : Option Nat} (h : a.grownBy w row) : a.grownBy w.drew row := ⟨h.os, h.tape, h.output, h.size, h.block⟩
theorem fr_drewN {a w : World} {row : Option Nat} (h : a.grownBy w row) (n : Nat) : a.grownBy (w.drewN n) row := ⟨h.os, h.tape, h.output, h.size, h.block⟩
theorem fr_alloc {a w : World} {row : Option Nat} (h : a.grownBy w row) (o : Obj) : a.grownBy (w.alloc o) row := fr_trans h (World.grownBy_alloc w o row)
theorem fr_set {a w : World} {row : Option Nat} (h : a.grownBy w row) {p : Addr} (hp : some p.block = row) (v : Value) : a.grownBy (w.setCell p v) row :=
  fr_trans h ⟨rfl, rfl, rfl, by simp [World.setCell], fun k _ hr => Below.heap_setCell _ _ _ _ (fun e => hr (by rw [e]; exact hp))⟩
/-- A store into a block that is new since a. -/
theorem fr_own {a w : World} {row : Option Nat} (h : a.grownBy w row) {p : Addr} (hp : a.heap.size ≤ p.block) (v : Value) : a.grownBy (w.setCell p v) row :=
  ⟨h.os, h.tape, h.output, by simpa [World.setCell] using h.size, fun k hk hr => (Below.heap_setCell _ _ _ _ (by omega)).trans (h.block k hk hr)⟩
theorem fr_cell {w w' : World} {row : Option Nat} (h : w.grownBy w' row) {p : Addr} (hp : p.block < w.heap.size) (hr : some p.block ≠ row) : w'.cell? p = w.cell? p := World.cell?_of_block (h.block _ hp hr)
theorem fr_frozen {w w' : World} {row : Option Nat} (h : w.grownBy w' row) {p : Addr} (hp : p.block < w.heap.size) (hr : some p.block ≠ row) : w'.frozen? p = w.frozen? p := World.frozen?_of_block (h.block _ hp hr)
/-- Where the row is new since a, nothing of a has turned. -/
theorem below_fr {a w w' : World} {row : Option Nat} (hb : Below a.heap.size a w) (h : w.grownBy w' row) (hr : ∀ k, row = some k → a.heap.size ≤ k) : Below a.heap.size a w' :=
  hb.trans ⟨h.os, h.tape, h.output, h.size, fun k hk => h.block k (Nat.lt_of_lt_of_le hk hb.size) (fun e => by have := hr k e.symm; omega)⟩

/-! ### Lists of numbers of nodes -/
/-- The slice at A of capacity c holds the numbers l. -/
def IRow (w : World) (A : Option Addr) (l : List Nat) (c : Nat) : Prop := l.length ≤ c ∧ c ≤ maxLen ∧ (0 < l.length → ∃ b, A = some ⟨b, 0, none⟩ ∧ ∀ j, j < l.length → w.cell? ⟨b, j, none⟩ = some (.int .i64 (l.getD j 0 : Nat)))
/-- .. in each world that has w's blocks from lo on, but for those of X. -/
def KidsAt (lo : Nat) (X : Nat → Prop) (w : World) (x : Nd) : Prop := ∀ W, Agree lo X w W → IRow W x.A x.kids x.cap
section
variable {lo : Nat} {X : Nat → Prop} {w w' : World} {x : Nd}
theorem KidsAt.at (h : KidsAt lo X w x) : IRow w x.A x.kids x.cap := h w (Agree.refl _ _ _)
theorem KidsAt.less {lo' : Nat} {Y : Nat → Prop} (h : KidsAt lo' Y w x) (hs : w.heap.size ≤ w'.heap.size) (hc : ∀ b, lo' ≤ b → b < w.heap.size → ¬ Y b → lo ≤ b ∧ ¬ X b ∧ w'.heap[b]? = w.heap[b]?) : KidsAt lo X w' x := fun W hW => h W (hW.less hs hc)
theorem KidsAt.fr {row : Option Nat} (h : KidsAt lo X w x) (k : w.grownBy w' row) (hr : ∀ b, row = some b → lo ≤ b → X b) : KidsAt lo X w' x := h.less k.size fun b h1 h2 h3 => ⟨h1, h3, k.block b h2 (fun e => h3 (hr b e.symm h1))⟩
theorem KidsAt.out {Y : Nat → Prop} (h : KidsAt lo Y w x) (hY : ∀ b, lo ≤ b → b < w.heap.size → X b → Y b) : KidsAt lo X w x := h.less (Nat.le_refl _) fun b h1 h2 h3 => ⟨h1, fun hx => h3 (hY b h1 h2 hx), rfl⟩
theorem KidsAt.low (h : KidsAt lo X w x) {lo' : Nat} (hl : lo' ≤ lo) : KidsAt lo' X w x := h.less (Nat.le_refl _) fun b h1 _ h3 => ⟨by omega, h3, rfl⟩
theorem KidsAt.next (h : KidsAt lo X w x) (k : Nat) : KidsAt lo X w { x with next := k } := h
end

/-! ### Nodes -/
def ncells (x : Nd) : List Value := [.int .i64 x.tm.kind, .int .i64 x.tm.num, .string x.tm.name, .slice x.tm.at_ x.tm.args.length x.tm.cap, .slice x.A x.kids.length x.cap, .int .i64 (x.next : Nat)]
def gcells (G : List Nd) : List Value := G.flatMap ncells
theorem ncells_length (x : Nd) : (ncells x).length = 6 := rfl
theorem gcells_len (G : List Nd) : (gcells G).length = G.length * 6 := by
  induction G with
  | nil => rfl
  | cons t r ih => simp only [gcells, List.flatMap_cons, List.length_append, ncells_length, List.length_cons] at *; omega
theorem gcells_append (l m : List Nd) : gcells (l ++ m) = gcells l ++ gcells m := by simp [gcells]
theorem ncells_one (x : Nd) : ∀ v ∈ ncells x, v.oneCell' = true := by
  intro v hv
  simp only [ncells, List.mem_cons, List.not_mem_nil, or_false] at hv
  rcases hv with rfl | rfl | rfl | rfl | rfl | rfl <;> rfl
theorem ncells_lt {x : Nd} {j : Nat} {u : Value} (h : (ncells x)[j]? = some u) : j < 6 := by
  have := (List.getElem?_eq_some_iff.1 h).1
  simpa [ncells] using this
theorem gcells_get (G : List Nd) {i j : Nat} (hi : i < G.length) (hj : j < 6) : (gcells G)[i * 6 + j]? = (ncells (nd G i))[j]? := by
  induction G generalizing i with
  | nil => simp at hi
  | cons t r ih =>
    simp only [gcells, List.flatMap_cons]
    cases i with
    | zero =>
      rw [List.getElem?_append_left (by rw [ncells_length]; omega)]
      simp [nd]
    | succ i =>
      rw [List.getElem?_append_right (by rw [ncells_length]; omega), ncells_length, show (i + 1) * 6 + j - 6 = i * 6 + j by omega]
      simpa [gcells, nd] using ih (by simpa using hi)
theorem gcells_ext {G H : List Nd} {xs : List Value} (hl : xs.length = G.length * 6) (hlen : H.length = G.length) (h : ∀ i j, i < G.length → j < 6 → xs[i * 6 + j]? = (ncells (nd H i))[j]?) : xs = gcells H := by
  refine List.ext_getElem? fun m => ?_
  by_cases hm : m < G.length * 6
  · have h1 := h (m / 6) (m % 6) (by omega) (by omega)
    rw [show m / 6 * 6 + m % 6 = m by omega] at h1
    rw [h1, ← gcells_get H (by omega) (by omega), show m / 6 * 6 + m % 6 = m by omega]
  · rw [List.getElem?_eq_none (by omega), List.getElem?_eq_none (by rw [gcells_len, hlen]; omega)]
theorem nd_set (G : List Nd) (i : Nat) (x : Nd) (k : Nat) (hi : i < G.length) : nd (G.set i x) k = if k = i then x else nd G k := by
  unfold nd
  by_cases h : k = i
  · subst h; simp [List.getD, hi]
  · rw [if_neg h]; simp [List.getD, Ne.symm h]
theorem gcells_set {G : List Nd} {i j : Nat} {x : Nd} {u : Value} (hi : i < G.length) (hj : j < 6) (h : (ncells (nd G i)).set j u = ncells x) : (gcells G).set (i * 6 + j) u = gcells (G.set i x) := by
  refine gcells_ext (G := G) (by rw [List.length_set, gcells_len]) (by rw [List.length_set]) fun i' j' hi' hj' => ?_
  rw [nd_set _ _ _ _ hi, List.getElem?_set]
  by_cases hij : i' = i
  · subst hij
    rw [if_pos rfl, ← h, List.getElem?_set]
    by_cases hjj : j = j'
    · subst hjj
      rw [if_pos rfl, if_pos rfl, if_pos (by rw [gcells_len]; omega), if_pos (by rw [ncells_length]; omega)]
    · rw [if_neg (by omega), if_neg hjj, gcells_get G hi' hj']
  · rw [if_neg (by omega), if_neg hij, gcells_get G hi' hj']
theorem node_info : (Try.prog.info? 55).map (fun i => (i.zero, i.size, i.bytes)) = some (some (.agg #[.int .i64 0, .int .i64 0, .string ⟨#[]⟩, .slice none 0 0, .slice none 0 0, .int .i64 0]), 6, 88) := by kernel_rfl

/-- What each node's fields are. -/
structure Fine (x : Nd) : Prop where
  kind : Fits x.tm.kind
  num : Fits x.tm.num
  name : x.tm.name.size ≤ maxLen
  args : x.tm.args.length ≤ x.tm.cap ∧ x.tm.cap ≤ maxLen
  kids : x.kids.length ≤ 1000000
/-- The graph: its box p holds the slice z of nodes. X: blocks besides the nodes' that may turn. -/
structure Gph (lo : Nat) (X : Nat → Prop) (w : World) (p : Nat) (z : Value) (G : List Nd) : Prop where
  hdr : w.cell? ⟨p, 0, none⟩ = some z
  row : w.ownsRow lo 55 6 z G.length (gcells G)
  kids : ∀ i, i < G.length → KidsAt lo (fun k => z.ownBlock = some k ∨ X k) w (nd G i)
  np : z.ownBlock ≠ some p
  fine : ∀ i, i < G.length → Fine (nd G i)
  small : G.length ≤ 1000000
section
variable {lo p : Nat} {X : Nat → Prop} {w w' : World} {z : Value} {G : List Nd}
theorem Gph.lt (h : Gph lo X w p z G) : p < w.heap.size := World.block_lt_of_cell? w _ h.hdr
theorem Gph.form (h : Gph lo X w p z G) (hn : 0 < G.length) : ∃ q cap, z = .slice (some ⟨q, 0, none⟩) G.length cap ∧ lo ≤ q ∧ q < w.heap.size ∧ G.length ≤ cap ∧ cap ≤ maxLen := by
  rcases h.row.2 with ⟨_, h1⟩ | ⟨q, cap, cur, rfl, hb, hg, hle, hcap, _⟩
  · omega
  · exact ⟨q, cap, rfl, hb, (own_lt h.row q rfl).2, hle, hcap⟩
/-- The slice's length is the number of nodes. -/
theorem Gph.slice (h : Gph lo X w p z G) : ∃ A cap, z = .slice A G.length cap ∧ G.length ≤ cap ∧ cap ≤ maxLen := by
  rcases h.row.2 with ⟨rfl, h1⟩ | ⟨q, cap, cur, rfl, hb, hg, hle, hcap, _⟩
  · exact ⟨none, 0, by rw [h1], by omega, Nat.zero_le _⟩
  · exact ⟨_, cap, rfl, hle, hcap⟩
theorem Gph.cellAt {q cap n : Nat} (h : Gph lo X w p (.slice (some ⟨q, 0, none⟩) n cap) G) {i j : Nat} {u : Value} (hi : i < G.length) (hu : (ncells (nd G i))[j]? = some u) : w.cell? ⟨q, i * 6 + j, none⟩ = some u := by
  have hj := ncells_lt hu
  have hrow := h.row
  obtain rfl : n = G.length := by
    rcases hrow.2 with ⟨e, _⟩ | ⟨_, _, _, e, _⟩
    · injection e with e; cases e
    · injection e
  have hc := World.ownsRow.cellAt hrow (i * 6 + j) (by omega)
  rw [hc]
  exact (gcells_get G hi hj).trans hu
theorem Gph.cells {q cap n : Nat} (h : Gph lo X w p (.slice (some ⟨q, 0, none⟩) n cap) G) {i : Nat} (hi : i < G.length) :
    w.cell? ⟨q, i * 6, none⟩ = some (.int .i64 (nd G i).tm.kind) ∧ w.cell? ⟨q, i * 6 + 1, none⟩ = some (.int .i64 (nd G i).tm.num) ∧ w.cell? ⟨q, i * 6 + 2, none⟩ = some (.string (nd G i).tm.name) ∧
    w.cell? ⟨q, i * 6 + 3, none⟩ = some (.slice (nd G i).tm.at_ (nd G i).tm.args.length (nd G i).tm.cap) ∧ w.cell? ⟨q, i * 6 + 4, none⟩ = some (.slice (nd G i).A (nd G i).kids.length (nd G i).cap) ∧ w.cell? ⟨q, i * 6 + 5, none⟩ = some (.int .i64 ((nd G i).next : Nat)) :=
  ⟨h.cellAt (j := 0) hi rfl, h.cellAt (j := 1) hi rfl, h.cellAt (j := 2) hi rfl, h.cellAt (j := 3) hi rfl, h.cellAt (j := 4) hi rfl, h.cellAt (j := 5) hi rfl⟩
theorem Gph.free {q cap n : Nat} (h : Gph lo X w p (.slice (some ⟨q, 0, none⟩) n cap) G) (j : Nat) : w.frozen? ⟨q, j, none⟩ = false := by
  have hrow := h.row
  obtain rfl : n = G.length := by
    rcases hrow.2 with ⟨e, _⟩ | ⟨_, _, _, e, _⟩
    · injection e with e; cases e
    · injection e
  exact World.ownsRow.frozenAt hrow j
/-- Behind what leaves the box and the row alone, and of the rest writes to blocks of X alone. -/
theorem Gph.fr {row : Option Nat} (h : Gph lo X w p z G) (k : w.grownBy w' row) (hp : row ≠ some p) (hz : z.ownBlock = none ∨ z.ownBlock ≠ row) (hX : ∀ b, row = some b → lo ≤ b → X b) : Gph lo X w' p z G :=
  ⟨(fr_cell k h.lt (Ne.symm hp)).trans h.hdr, World.ownsRow.kept h.row k hz, fun i hi => (h.kids i hi).fr k fun b hb hl => .inr (hX b hb hl), h.np, h.fine, h.small⟩
theorem Gph.below (h : Gph lo X w p z G) (hb : Below w.heap.size w w') : Gph lo X w' p z G :=
  h.fr (row := none) (fr_below hb none) (by simp) (by cases z.ownBlock <;> simp) (fun b hb => by cases hb)
theorem Gph.alloc (h : Gph lo X w p z G) (o : Obj) : Gph lo X (w.alloc o) p z G := h.below ((Below.refl _ _).alloc (Nat.le_refl _) o)
theorem Gph.drew (h : Gph lo X w p z G) : Gph lo X w.drew p z G := ⟨h.hdr, h.row, h.kids, h.np, h.fine, h.small⟩
/-- A store into a block that is new. -/
theorem Gph.out {Y : Nat → Prop} (h : Gph lo Y w p z G) (hY : ∀ b, lo ≤ b → b < w.heap.size → X b → Y b) : Gph lo X w p z G :=
  ⟨h.hdr, h.row, fun i hi => (h.kids i hi).out fun b h1 h2 h3 => h3.elim .inl (fun hx => .inr (hY b h1 h2 hx)), h.np, h.fine, h.small⟩
/-- A node of another make. -/
theorem Gph.setNext {q cap n i k : Nat} (h : Gph lo X w p (.slice (some ⟨q, 0, none⟩) n cap) G) (hi : i < G.length) :
    Gph lo X (w.setCell ⟨q, i * 6 + 5, none⟩ (.int .i64 (k : Nat))) p (.slice (some ⟨q, 0, none⟩) n cap) (G.set i { nd G i with next := k }) := by
  have hpq : p ≠ q := fun e => h.np (by rw [e]; rfl)
  have hg : w.grownBy (w.setCell ⟨q, i * 6 + 5, none⟩ (.int .i64 (k : Nat))) (some q) := fr_set (fr_refl _ _) rfl _
  refine ⟨(fr_cell hg h.lt (by simpa using hpq)).trans h.hdr, ?_, fun j hj => ?_, h.np, fun j hj => ?_, by rw [List.length_set]; exact h.small⟩
  · have hrow := h.row
    obtain rfl : n = G.length := by
      rcases hrow.2 with ⟨e, _⟩ | ⟨_, _, _, e, _⟩
      · injection e with e; cases e
      · injection e
    have hs := (World.ownsRow.stored hrow (i * 6 + 5) (.int .i64 (k : Nat))).1
    rw [gcells_set hi (by omega) (x := { nd G i with next := k }) rfl] at hs
    rw [List.length_set]
    exact hs
  · rw [List.length_set] at hj
    rw [nd_set _ _ _ _ hi]
    have h1 : ∀ j, j < G.length → KidsAt lo (fun b => (Value.slice (some ⟨q, 0, none⟩) n cap).ownBlock = some b ∨ X b) (w.setCell ⟨q, i * 6 + 5, none⟩ (.int .i64 (k : Nat))) (nd G j) := fun j hj => (h.kids j hj).fr hg fun b e _ => .inl e
    split
    · exact (h1 i hi).next k
    · exact h1 j hj
  · rw [List.length_set] at hj
    rw [nd_set _ _ _ _ hi]
    split
    · exact ⟨(h.fine i hi).kind, (h.fine i hi).num, (h.fine i hi).name, (h.fine i hi).args, (h.fine i hi).kids⟩
    · exact h.fine j hj
end
end Go.Proofs.Ytdjbigfobodecaa
