/-
  A chain opened: two operators' numbers and three terms, by value.
-/
import Derived.Test.YtlpibnbabgfiiaaGreatDoorTmOpen
namespace Go.Proofs.YtlpibnbabgfiiaaGreatDoor
open Go.ChangeShapes Go.WideShapes Go.ChangeAt Go.RowKit

/-- A chain. -/
structure Ch where
  o1 : Int
  o2 : Int
  x : Tm
  y : Tm
  z : Tm
abbrev Ch.val (c : Ch) : Value := .agg #[.int .i64 c.o1, .int .i64 c.o2, .int .i64 c.x.kind, .int .i64 c.x.num, .string c.x.name, .slice c.x.at_ c.x.args.length c.x.cap, .int .i64 c.y.kind, .int .i64 c.y.num, .string c.y.name, .slice c.y.at_ c.y.args.length c.y.cap, .int .i64 c.z.kind, .int .i64 c.z.num, .string c.z.name, .slice c.z.at_ c.z.args.length c.z.cap]
def Ch.At (w : World) (c : Ch) : Prop := Fits c.o1 ∧ Fits c.o2 ∧ c.x.At w ∧ c.y.At w ∧ c.z.At w
theorem Ch.At.below {w w' : World} {c : Ch} (h : c.At w) (hb : Below w.heap.size w w') : c.At w' := ⟨h.1, h.2.1, h.2.2.1.below hb, h.2.2.2.1.below hb, h.2.2.2.2.below hb⟩

section
variable {H : Type} {enc : TypeId × Value → H} {W : World} {base : Nat} {spare : Nat → Bool} {held : Bool}
set_option maxRecDepth 100000 in
theorem open_ch {r : Reach} {b0 : Nat} {v : Value} {d : DataW H} {p : List MemPlace} (hv : Value.okWide Tryz.prog W r b0 51 v) (h : DataW.Trod enc Tryz.prog W base spare held 51 v d p) :
    ∃ c : Ch, v = c.val ∧ c.At W := by
  obtain ⟨cs, rfl, hsz⟩ := okWide_struct Tryz.underlying51 hv
  obtain ⟨fuel, hf⟩ := h
  obtain ⟨xs, m, _, _, hcl, hxl, hg⟩ := DataW.trod_struct Tryz.underlying51 hf
  have hcl' : cs.toList.length = 14 := hcl.trans (by kernel_rfl)
  have hcs : (Value.agg cs).cells.toList = cs.toList := rfl
  rw [hcs] at hg
  match hl : cs.toList, hcl' with
  | [c0, c1, c2, c3, c4, c5, c6, c7, c8, c9, c10, c11, c12, c13], _ =>
    rw [hl] at hg
    have hxs : xs.length = 5 := hxl
    have g0 := hg 0 _ rfl
    have g1 := hg 1 _ rfl
    have g2 := hg 2 _ rfl
    have g3 := hg 3 _ rfl
    have g4 := hg 4 _ rfl
    rw [List.getElem?_eq_getElem (by omega)] at g0 g1 g2 g3 g4
    have e0 : (Tryz.prog.cellsOf 3) = 1 := by kernel_rfl
    have e1 : (Tryz.prog.cellsOf 24) = 4 := by kernel_rfl
    simp only [List.getElem_toArray, List.getElem_cons_zero, List.getElem_cons_succ] at g0 g1 g2 g3 g4
    obtain ⟨k, hk, _, wk⟩ := DataW.trod_int (cs := [c0]) Tryz.underlying3 (by simpa [e0] using g0)
    obtain ⟨k', hk', _, wk'⟩ := DataW.trod_int (cs := [c1]) Tryz.underlying3 (by simpa [e0] using g1)
    obtain ⟨x, hx, ax⟩ := tm_of types m [c2, c3, c4, c5] _ (by simpa [e0, e1] using g2)
    obtain ⟨y, hy, ay⟩ := tm_of types m [c6, c7, c8, c9] _ (by simpa [e0, e1] using g3)
    obtain ⟨z, hz, az⟩ := tm_of types m [c10, c11, c12, c13] _ (by simpa [e0, e1] using g4)
    obtain rfl : c0 = .int .i64 k := by simpa using hk
    obtain rfl : c1 = .int .i64 k' := by simpa using hk'
    simp only [Tm.cells, List.cons.injEq, and_true] at hx hy hz
    obtain ⟨rfl, rfl, rfl, rfl⟩ := hx
    obtain ⟨rfl, rfl, rfl, rfl⟩ := hy
    obtain ⟨rfl, rfl, rfl, rfl⟩ := hz
    refine ⟨⟨k, k', x, y, z⟩, ?_, int_fits wk, int_fits wk', ax, ay, az⟩
    rw [← Array.toArray_toList (xs := cs), hl]
end
end Go.Proofs.YtlpibnbabgfiiaaGreatDoor
