/-
  Bindings and terms that are appended to a row of the call's own.
-/
import Derived.Test.YtpnjjahimhhjkaaSuSort
import Derived.Test.YtpnjjahimhhjkaaSuClone
import Derived.Deep.AppendLies
namespace Go.Proofs.Ytpnjjahimhhjkaa
open Go.RowKit

theorem BLst.getA {w : World} {b o c : Nat} {l : List Bd} (h : BLst w (some ⟨b, o, none⟩) l c) {i : Nat} (hi : i < l.length) :
    w.cell? ⟨b, o + i * 5, none⟩ = some (.int .i64 (l.getD i default).var) ∧ w.cell? ⟨b, o + i * 5 + 1, none⟩ = some (.int .i64 (l.getD i default).tm.kind) ∧ w.cell? ⟨b, o + i * 5 + 2, none⟩ = some (.int .i64 (l.getD i default).tm.num) ∧ w.cell? ⟨b, o + i * 5 + 3, none⟩ = some (.string (l.getD i default).tm.name) ∧
      w.cell? ⟨b, o + i * 5 + 4, none⟩ = some (.slice (l.getD i default).tm.at_ (l.getD i default).tm.args.length (l.getD i default).tm.cap) := by
  obtain ⟨b1, o1, e, h2, _⟩ := h.get hi
  injection e with e
  injection e with e1 e2 _
  subst e1 e2
  exact h2
def bcells (l : List Bd) : List Value := l.flatMap Bd.cells
theorem bcells_len (l : List Bd) : (bcells l).length = l.length * 5 := by
  induction l with
  | nil => rfl
  | cons t r ih => simp only [bcells, List.flatMap_cons, List.length_append, bcells_length, List.length_cons] at *; omega
theorem bcells_append (l m : List Bd) : bcells (l ++ m) = bcells l ++ bcells m := by simp [bcells]
theorem bcells_one (x : Bd) : ∀ v ∈ x.cells, v.oneCell' = true := by
  intro v hv
  simp only [Bd.cells, List.mem_cons, List.not_mem_nil, or_false] at hv
  rcases hv with rfl | rfl | rfl | rfl | rfl <;> rfl
theorem bcells_get (l : List Bd) {i j : Nat} (hi : i < l.length) (hj : j < 5) : (bcells l)[i * 5 + j]? = (l.getD i default).cells[j]? := by
  induction l generalizing i with
  | nil => simp at hi
  | cons t r ih =>
    simp only [bcells, List.flatMap_cons]
    cases i with
    | zero =>
      rw [List.getElem?_append_left (by rw [bcells_length]; omega)]
      simp
    | succ i =>
      rw [List.getElem?_append_right (by rw [bcells_length]; omega), bcells_length, show (i + 1) * 5 + j - 5 = i * 5 + j by omega]
      simpa [bcells] using ih (by simpa using hi)
theorem bind_info : (Try.prog.info? 50).map (fun i => (i.zero, i.size, i.bytes)) = some (some (.agg #[.int .i64 0, .int .i64 0, .int .i64 0, .string ⟨#[]⟩, .slice none 0 0]), 5, 64) := by kernel_rfl

theorem own_lt {w : World} {base : Nat} {e : TypeId} {size : Nat} {v : Value} {n : Nat} {xs : List Value} (h : w.ownsRow base e size v n xs) : ∀ k, v.ownBlock = some k → base ≤ k ∧ k < w.heap.size := by
  intro k hk
  rcases h.2 with ⟨rfl, _⟩ | ⟨g, cap, cur, rfl, hb, hg, _⟩
  · simp [Value.ownBlock] at hk
  · simp only [Value.ownBlock, Option.some.injEq] at hk
    subst hk
    refine ⟨hb, ?_⟩
    rcases Nat.lt_or_ge g w.heap.size with h | h
    · exact h
    · rw [Array.getElem?_eq_none h] at hg; cases hg
theorem own_below {w w' : World} {base : Nat} {e : TypeId} {size : Nat} {v : Value} {n : Nat} {xs : List Value} (h : w.ownsRow base e size v n xs) (hb : Below w.heap.size w w') : w'.ownsRow base e size v n xs :=
  World.ownsRow.kept (row := none) h ⟨hb.os, hb.tape, hb.output, hb.size, fun k hk _ => hb.block k hk⟩ (by
    rcases h.2 with ⟨rfl, _⟩ | ⟨g, cap, cur, rfl, _⟩
    · exact .inl rfl
    · exact .inr (by simp [Value.ownBlock]))

/-- Bindings in a row of the call's own. -/
def RowB (B : World → Prop) (lo : Nat) (w : World) (z : Value) (acc : List Bd) : Prop :=
  w.ownsRow lo 50 5 z acc.length (bcells acc) ∧ ∀ x ∈ acc, Fits x.var ∧ Lie B lo (fun k => z.ownBlock = some k) w x.tm
section
variable {B : World → Prop} {lo : Nat} {w w' : World} {z : Value} {acc : List Bd}
theorem RowB.nil (B : World → Prop) (lo : Nat) (w : World) : RowB B lo w (.slice none 0 0) [] := ⟨⟨rfl, .inl ⟨rfl, rfl⟩⟩, fun x hx => by cases hx⟩
theorem RowB.below (h : RowB B lo w z acc) (hb : Below w.heap.size w w') : RowB B lo w' z acc := ⟨own_below h.1 hb, fun x hx => ⟨(h.2 x hx).1, (h.2 x hx).2.below hb⟩⟩
/-- One binding more: behind the call (w2), the blocks of the new element (w3), the append (w4). -/
theorem RowB.next {g cap : Nat} {w2 w3 w4 : World} {u : Bd} (h : RowB B lo w2 z acc) (hf : Fits u.var) (hu : Lie B lo (fun k => z.ownBlock = some k) w2 u.tm) (hb : Below w2.heap.size w2 w3)
    (hown : w4.ownsRow lo 50 5 (.slice (some ⟨g, 0, none⟩) (acc.length + 1) cap) (acc.length + 1) (bcells acc ++ u.cells)) (hg : w3.grownBy w4 z.ownBlock) (hat : z.ownBlock = some g ∨ g = w3.heap.size) :
    RowB B lo w4 (.slice (some ⟨g, 0, none⟩) (acc.length + 1) cap) (acc ++ [u]) := by
  refine ⟨by rw [List.length_append, bcells_append]; simpa [bcells] using hown, fun x hx => ?_⟩
  have hx2 : Fits x.var ∧ Lie B lo (fun k => z.ownBlock = some k) w2 x.tm := by
    rcases List.mem_append.1 hx with hx | hx
    · exact h.2 x hx
    · rw [List.mem_singleton.1 hx]; exact ⟨hf, hu⟩
  refine ⟨hx2.1, (hx2.2.below hb).less hg.size fun b h1 h2 h3 => ⟨h1, fun e => ?_, hg.block b h2 (fun e => h3 e.symm)⟩⟩
  have e' : g = b := by simpa [Value.ownBlock] using e
  rcases hat with h | h
  · exact h3 (by rw [h, e'])
  · omega
/-- An element that was made behind the row lies apart from it. -/
theorem lie_apart {x : Tm} {B : World → Prop} {lo lo' : Nat} {w0 w2 : World} {z : Value} {n : Nat} {e : TypeId} {size : Nat} {xs : List Value} (hown : w0.ownsRow lo e size z n xs) (hx : Lie B lo' No w2 x) (h1 : lo ≤ lo') (h2 : w0.heap.size ≤ lo') : Lie B lo (fun k => z.ownBlock = some k) w2 x :=
  (hx.out (X := fun k => z.ownBlock = some k) (fun b h3 _ h4 => by have := (own_lt hown b h4).2; omega)).low h1
theorem RowB.form (h : RowB B lo w z acc) : ∃ A c, z = .slice A acc.length c ∧ acc.length ≤ c ∧ (0 < acc.length → ∃ g, A = some ⟨g, 0, none⟩ ∧ lo ≤ g) := by
  rcases h.1.2 with ⟨rfl, h1⟩ | ⟨g, cap, cur, rfl, hb, hg, hle, _⟩
  · exact ⟨none, 0, by rw [h1], by omega, fun h => by omega⟩
  · exact ⟨_, cap, rfl, hle, fun _ => ⟨g, rfl, hb⟩⟩
theorem RowB.blst {A : Option Addr} {c : Nat} (h : RowB B lo w (.slice A acc.length c) acc) (hB : B w) : BLst w A acc c := by
  have hl := bcells_len acc
  rcases h.1.2 with ⟨e, h1⟩ | ⟨g, cap, cur, e, hb, hg, hle, hcap, hcs, hcur⟩
  · injection e with e1 _ e3
    obtain rfl : acc = [] := List.length_eq_zero_iff.1 h1
    rw [e1, e3]; exact BLst.nil w
  · injection e with e1 _ e3
    subst e1 e3
    refine ⟨hle, hcap, fun h0 => ⟨g, 0, rfl, fun i hi => ⟨fun j u hu => ?_, (h.2 _ (bgetD_mem hi)).1, (h.2 _ (bgetD_mem hi)).2.at hB⟩⟩⟩
    have hj := bcells_lt hu
    have hc := World.ownsRow.cellAt h.1 (i * 5 + j) (by omega)
    rw [Nat.zero_add, hc]
    exact (bcells_get acc hi hj).trans hu
theorem RowB.row5 {g c n : Nat} (h : RowB B lo w (.slice (some ⟨g, 0, none⟩) n c) acc) : Row5 w g acc := by
  have hl := bcells_len acc
  obtain rfl : n = acc.length := by
    rcases h.1.2 with ⟨e, _⟩ | ⟨_, _, _, e, _⟩
    · injection e with e; cases e
    · injection e
  refine ⟨(own_lt h.1 g rfl).2, fun j => World.ownsRow.frozenAt h.1 j, fun i j u hi hu => ?_⟩
  have hj := bcells_lt hu
  rw [World.ownsRow.cellAt h.1 (i * 5 + j) (by omega)]
  exact (bcells_get acc hi hj).trans hu
end
/-- The cells of an element that was just laid. -/
theorem bnews1 (w : World) (u : Bd) : ∀ j v, u.cells[j]? = some v → (w.alloc (boxB u)).cell? ((⟨w.heap.size, 0, none⟩ : Addr).add j) = some v := by
  intro j v hv
  rw [add_plain, Nat.zero_add, World.cell?_alloc_at _ _ _ _ rfl, ← hv, show (#[Value.int .i64 u.var, .int .i64 u.tm.kind, .int .i64 u.tm.num, .string u.tm.name, .slice u.tm.at_ u.tm.args.length u.tm.cap] : Array Value) = u.cells.toArray from rfl, List.getElem?_toArray]
theorem bnews2 (w : World) (o : Obj) (u : Bd) : ∀ j v, u.cells[j]? = some v → ((w.alloc o).alloc (boxB u)).cell? ((⟨w.heap.size + 1, 0, none⟩ : Addr).add j) = some v := by
  have := bnews1 (w.alloc o) u
  rwa [World.size_alloc] at this

/-! ### Terms -/
theorem tcells_append (l m : List Tm) : tcells (l ++ m) = tcells l ++ tcells m := by simp [tcells]
theorem cells_one (u : Tm) : ∀ v ∈ u.cells, v.oneCell' = true := by
  intro v hv
  simp only [Tm.cells, List.mem_cons, List.not_mem_nil, or_false] at hv
  rcases hv with rfl | rfl | rfl | rfl <;> rfl
/-- Terms in a row of the call's own. -/
def RowT (B : World → Prop) (lo : Nat) (w : World) (z : Value) (acc : List Tm) : Prop :=
  w.ownsRow lo 24 4 z acc.length (tcells acc) ∧ ∀ x ∈ acc, Lie B lo (fun k => z.ownBlock = some k) w x
section
variable {B : World → Prop} {lo : Nat} {w w' : World} {z : Value} {acc : List Tm}
theorem RowT.nil (B : World → Prop) (lo : Nat) (w : World) : RowT B lo w (.slice none 0 0) [] := ⟨⟨rfl, .inl ⟨rfl, rfl⟩⟩, fun x hx => by cases hx⟩
theorem RowT.below (h : RowT B lo w z acc) (hb : Below w.heap.size w w') : RowT B lo w' z acc := ⟨own_below h.1 hb, fun x hx => (h.2 x hx).below hb⟩
theorem RowT.next {g cap : Nat} {w2 w3 w4 : World} {u : Tm} (h : RowT B lo w2 z acc) (hu : Lie B lo (fun k => z.ownBlock = some k) w2 u) (hb : Below w2.heap.size w2 w3)
    (hown : w4.ownsRow lo 24 4 (.slice (some ⟨g, 0, none⟩) (acc.length + 1) cap) (acc.length + 1) (tcells acc ++ u.cells)) (hg : w3.grownBy w4 z.ownBlock) (hat : z.ownBlock = some g ∨ g = w3.heap.size) :
    RowT B lo w4 (.slice (some ⟨g, 0, none⟩) (acc.length + 1) cap) (acc ++ [u]) := by
  refine ⟨by rw [List.length_append, tcells_append]; simpa [tcells] using hown, fun x hx => ?_⟩
  have hx2 : Lie B lo (fun k => z.ownBlock = some k) w2 x := by
    rcases List.mem_append.1 hx with hx | hx
    · exact h.2 x hx
    · rw [List.mem_singleton.1 hx]; exact hu
  refine (hx2.below hb).less hg.size fun b h1 h2 h3 => ⟨h1, fun e => ?_, hg.block b h2 (fun e => h3 e.symm)⟩
  have e' : g = b := by simpa [Value.ownBlock] using e
  rcases hat with h | h
  · exact h3 (by rw [h, e'])
  · omega
theorem RowT.form (h : RowT B lo w z acc) : ∃ A c, z = .slice A acc.length c ∧ acc.length ≤ c := by
  rcases h.1.2 with ⟨rfl, h1⟩ | ⟨g, cap, cur, rfl, hb, hg, hle, _⟩
  · exact ⟨none, 0, by rw [h1], by omega⟩
  · exact ⟨_, cap, rfl, hle⟩
/-- The list lies in each world of B that agrees from lo on. -/
theorem RowT.lies {A : Option Addr} {c n : Nat} (h : RowT B lo w (.slice A n c) acc) : ∀ W, B W → Agree lo No w W → Lst W A acc c := by
  intro W hB hW
  have hl := tcells_length acc
  rcases h.1.2 with ⟨e, h1⟩ | ⟨g, cap, cur, e, hb, hg, hle, hcap, hcs, hcur⟩
  · injection e with e1 _ e3
    obtain rfl : acc = [] := List.length_eq_zero_iff.1 h1
    rw [e1, e3]; exact Lst.nil W
  · injection e with e1 e2 e3
    subst e1 e2 e3
    have hlt := own_lt h.1 g rfl
    refine ⟨hle, hcap, fun _ => ⟨g, 0, rfl, RowAt.of fun i hi => ⟨fun j u hu => ?_, ?_⟩⟩⟩
    · have hj : j < 4 := by
        have := (List.getElem?_eq_some_iff.1 hu).1
        simpa [Tm.cells] using this
      rw [hW.cell (p := ⟨g, 0 + 4 * i + j, none⟩) hlt.1 hlt.2 (fun h => h)]
      have hc := World.ownsRow.cellAt h.1 (4 * i + j) (by omega)
      rw [Nat.zero_add, hc]
      exact (tcells_get acc hi hj).trans hu
    · exact h.2 _ (getD_mem hi) W hB fun b h1 h2 h3 => hW b h1 h2 (fun h => h)
end
theorem tnews1 (w : World) (u : Tm) (T : TypeId) : ∀ j v, u.cells[j]? = some v → (w.alloc (.cells #[.int .i64 u.kind, .int .i64 u.num, .string u.name, .slice u.at_ u.args.length u.cap] T)).cell? ((⟨w.heap.size, 0, none⟩ : Addr).add j) = some v := by
  intro j v hv
  rw [add_plain, Nat.zero_add, World.cell?_alloc_at _ _ _ _ rfl, ← hv, show (#[Value.int .i64 u.kind, .int .i64 u.num, .string u.name, .slice u.at_ u.args.length u.cap] : Array Value) = u.cells.toArray from rfl, List.getElem?_toArray]
end Go.Proofs.Ytpnjjahimhhjkaa
