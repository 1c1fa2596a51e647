/-
  Arguments opened: terms, constraints and goals by value; what the statements lay of them (a slice of one, two or three).
-/
import Derived.Test.YtpnjjahimhhjkaaTmWeigh
import Derived.Test.YtpnjjahimhhjkaaTmAtom
import Derived.Test.YtpnjjahimhhjkaaTmRefOrd
namespace Go.Proofs.Ytpnjjahimhhjkaa
open Go.ChangeShapes Go.WideShapes Go.ChangeAt Go.RowKit

theorem types : Types Try.prog 3 9 22 24 :=
  ⟨Try.underlying3, Try.underlying9, Try.underlying22, ⟨_, _, _, _, Try.underlying24, ⟨rfl, rfl⟩, ⟨rfl, rfl⟩, ⟨rfl, rfl⟩, ⟨rfl, rfl⟩⟩, by kernel_rfl, by kernel_rfl, by kernel_rfl, by kernel_rfl⟩

section
variable {H : Type} {enc : TypeId × Value → H} {W : World} {base : Nat} {spare : Nat → Bool} {held : Bool}
set_option maxRecDepth 100000 in
theorem open_am {r : Reach} {b0 : Nat} {v : Value} {d : DataW H} {p : List MemPlace} (hv : Value.okWide Try.prog W r b0 85 v) (h : DataW.Trod enc Try.prog W base spare held 85 v d p) :
    ∃ a : Am, v = a.val ∧ a.At W := by
  obtain ⟨cs, rfl, hsz⟩ := okWide_struct Try.underlying85 hv
  obtain ⟨fuel, hf⟩ := h
  obtain ⟨xs, m, _, _, hcl, hxl, hg⟩ := DataW.trod_struct Try.underlying85 hf
  have hcl' : cs.toList.length = 2 := hcl.trans (by kernel_rfl)
  have hcs : (Value.agg cs).cells.toList = cs.toList := rfl
  rw [hcs] at hg
  match hl : cs.toList, hcl' with
  | [c0, c1], _ =>
    rw [hl] at hg
    have hxs : xs.length = 2 := hxl
    have g0 := hg 0 _ rfl
    have g1 := hg 1 _ rfl
    rw [List.getElem?_eq_getElem (by omega)] at g0 g1
    have e0 : (Try.prog.cellsOf 9) = 1 := by kernel_rfl
    have e1 : (Try.prog.cellsOf 22) = 1 := by kernel_rfl
    simp only [List.getElem_toArray, List.getElem_cons_zero, List.getElem_cons_succ] at g0 g1
    obtain ⟨s, hs, _, ws⟩ := DataW.trod_string (cs := [c0]) Try.underlying9 (by simpa [e0] using g0)
    obtain ⟨A, l, c, hv', hl'⟩ := open_lst types (v := c1) (by simpa [e1] using g1)
    obtain rfl : c0 = .string s := by simpa using hs
    subst hv'
    refine ⟨⟨s, A, c, l⟩, ?_, ws, hl'⟩
    rw [← Array.toArray_toList (xs := cs), hl]
set_option maxRecDepth 100000 in
theorem open_gl {r : Reach} {b0 : Nat} {v : Value} {d : DataW H} {p : List MemPlace} (hv : Value.okWide Try.prog W r b0 87 v) (h : DataW.Trod enc Try.prog W base spare held 87 v d p) :
    ∃ g : Gl, v = g.val ∧ g.At W := by
  obtain ⟨cs, rfl, hsz⟩ := okWide_struct Try.underlying87 hv
  obtain ⟨fuel, hf⟩ := h
  obtain ⟨xs, m, _, _, hcl, hxl, hg⟩ := DataW.trod_struct Try.underlying87 hf
  have hcl' : cs.toList.length = 3 := hcl.trans (by kernel_rfl)
  have hcs : (Value.agg cs).cells.toList = cs.toList := rfl
  rw [hcs] at hg
  match hl : cs.toList, hcl' with
  | [c0, c1, c2], _ =>
    rw [hl] at hg
    have hxs : xs.length = 3 := hxl
    have g0 := hg 0 _ rfl
    have g1 := hg 1 _ rfl
    have g2 := hg 2 _ rfl
    rw [List.getElem?_eq_getElem (by omega)] at g0 g1 g2
    have e0 : (Try.prog.cellsOf 9) = 1 := by kernel_rfl
    have e1 : (Try.prog.cellsOf 22) = 1 := by kernel_rfl
    have e2 : (Try.prog.cellsOf 3) = 1 := by kernel_rfl
    simp only [List.getElem_toArray, List.getElem_cons_zero, List.getElem_cons_succ] at g0 g1 g2
    obtain ⟨k, hk, _, wk⟩ := DataW.trod_int (cs := [c0]) Try.underlying3 (by simpa [e2] using g0)
    obtain ⟨s, hs, _, ws⟩ := DataW.trod_string (cs := [c1]) Try.underlying9 (by simpa [e0] using g1)
    obtain ⟨A, l, c, hv', hl'⟩ := open_lst types (v := c2) (by simpa [e1] using g2)
    obtain rfl : c0 = .int .i64 k := by simpa using hk
    obtain rfl : c1 = .string s := by simpa using hs
    subst hv'
    refine ⟨⟨k, s, A, c, l⟩, ?_, int_fits wk, ws, hl'⟩
    rw [← Array.toArray_toList (xs := cs), hl]
end

/-- A slice of terms that was just laid. -/
theorem row_one {w : World} (t : Tm) (h : t.At w) : RowAt (w.alloc (.cells #[.int .i64 t.kind, .int .i64 t.num, .string t.name, .slice t.at_ t.args.length t.cap] 24)) [t] w.heap.size 0 := by
  have hc : ∀ j v, (#[.int .i64 t.kind, .int .i64 t.num, .string t.name, .slice t.at_ t.args.length t.cap] : Array Value)[j]? = some v →
      (w.alloc (.cells #[.int .i64 t.kind, .int .i64 t.num, .string t.name, .slice t.at_ t.args.length t.cap] 24)).cell? ⟨w.heap.size, j, none⟩ = some v := fun j v hv => by
    rw [World.cell?_alloc_at _ _ _ _ rfl, hv]
  simp only [RowAt]
  exact ⟨⟨hc 0 _ rfl, hc 1 _ rfl, hc 2 _ rfl, hc 3 _ rfl⟩, h.alloc _, trivial⟩
theorem Lst.of_row {w : World} {l : List Tm} {b o : Nat} (h : RowAt w l b o) (hl : l.length ≤ 1000000) : Lst w (some ⟨b, o, none⟩) l l.length := ⟨Nat.le_refl _, by unfold maxLen; omega, fun _ => ⟨b, o, rfl, h⟩⟩

/-- A contract that leaves what was there, told of a first world X. -/
theorem from_first {P : Program} {f : FuncId} {args : Array Value} {X W : World} {v : Value} (hX : Below X.heap.size X W) (h : Calls P f args W fun e w' => e = .returned v ∧ Below W.heap.size W w') :
    Calls P f args W fun e w' => e = .returned v ∧ Below X.heap.size X w' := h.mono fun _ _ ⟨he, hb⟩ => ⟨he, hX.trans (hb.mono hX.size)⟩
theorem great_below (l : List Tm) (A : Option Addr) (c : Nat) (most : Int) (w : World) (hl : Lst w A l c) (h1 : 0 ≤ most) (h2 : most ≤ 1000000) {r : Bool} (hr : decide (weigh l most 64 < 0) = r) :
    Calls Try.prog 10 #[.slice A l.length c, .int .i64 most] w fun e w' => e = .returned (.bool r) ∧ Below w.heap.size w w' :=
  (great_at l A c most w hl h1 h2 hr).mono fun _ _ ⟨he, n, hw⟩ => ⟨he, by rw [hw]; exact below_drewN (Below.refl _ _) n⟩
/-- Great of a slice of one term that was just laid. -/
theorem great_one (t : Tm) (most : Int) (W W' : World) (g : Nat) (hg : g = W.heap.size) (ht : t.At W) (hb : Below (W.alloc (.cells #[.int .i64 t.kind, .int .i64 t.num, .string t.name, .slice t.at_ t.args.length t.cap] 24)).heap.size (W.alloc (.cells #[.int .i64 t.kind, .int .i64 t.num, .string t.name, .slice t.at_ t.args.length t.cap] 24)) W')
    (h1 : 0 ≤ most) (h2 : most ≤ 1000000) {r : Bool} (hr : decide (weigh [t] most 64 < 0) = r) :
    Calls Try.prog 10 #[.slice (some ⟨g, 0, none⟩) 1 1, .int .i64 most] W' fun e w' => e = .returned (.bool r) ∧ Below W'.heap.size W' w' := by
  subst hg
  exact great_below [t] _ 1 most W' (Lst.of_row ((At_keep hb).2 _ _ _ (row_one t ht)) (by simp)) h1 h2 hr
theorem not_great {l : List Tm} {most : Int} (h : decide (weigh l most 64 < 0) = false) : (nodesL l : Int) ≤ most := weigh_nodes (deep := 64) (Int.not_lt.1 (by simpa using h))
/-- What is held in a region: the cells of the box, and that what was there is as it was. -/
theorem held4 {w W : World} {v0 v1 v2 v3 : Value} {T : TypeId} (h : Below (w.alloc (.cells #[v0, v1, v2, v3] T)).heap.size (w.alloc (.cells #[v0, v1, v2, v3] T)) W) :
    W.cell? ⟨w.heap.size, 0, none⟩ = some v0 ∧ W.cell? ⟨w.heap.size, 1, none⟩ = some v1 ∧ W.cell? ⟨w.heap.size, 2, none⟩ = some v2 ∧ W.cell? ⟨w.heap.size, 3, none⟩ = some v3 ∧ Below (w.alloc (.cells #[v0, v1, v2, v3] T)).heap.size (w.alloc (.cells #[v0, v1, v2, v3] T)) W := by
  obtain ⟨d0, d1, d2, d3, _⟩ := box4 h
  exact ⟨d0, d1, d2, d3, h⟩
end Go.Proofs.Ytpnjjahimhhjkaa
