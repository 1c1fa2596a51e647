/-
  Arguments opened: terms, constraints and goals by value; what the statements lay of them (a slice of one, two or three).
-/
import Derived.Test.YtgialbcohkpogaaTmWeigh
import Derived.Test.YtgialbcohkpogaaTmAtom
import Derived.Test.YtgialbcohkpogaaTmRefOrd
namespace Go.Proofs.Ytgialbcohkpogaa
open Go.ChangeShapes Go.WideShapes Go.ChangeAt Go.RowKit

theorem types : Types Try.prog 3 9 24 26 :=
  ⟨Try.underlying3, Try.underlying9, Try.underlying24, ⟨_, _, _, _, Try.underlying26, ⟨rfl, rfl⟩, ⟨rfl, rfl⟩, ⟨rfl, rfl⟩, ⟨rfl, rfl⟩⟩, by kernel_rfl, by kernel_rfl, by kernel_rfl, by kernel_rfl⟩

section
variable {H : Type} {enc : TypeId × Value → H} {W : World} {base : Nat} {spare : Nat → Bool} {held : Bool}
end

/-- A slice of terms that was just laid. -/
theorem row_one {w : World} (t : Tm) (h : t.At w) : RowAt (w.alloc (.cells #[.int .i64 t.kind, .int .i64 t.num, .string t.name, .slice t.at_ t.args.length t.cap] 26)) [t] w.heap.size 0 := by
  have hc : ∀ j v, (#[.int .i64 t.kind, .int .i64 t.num, .string t.name, .slice t.at_ t.args.length t.cap] : Array Value)[j]? = some v →
      (w.alloc (.cells #[.int .i64 t.kind, .int .i64 t.num, .string t.name, .slice t.at_ t.args.length t.cap] 26)).cell? ⟨w.heap.size, j, none⟩ = some v := fun j v hv => by
    rw [World.cell?_alloc_at _ _ _ _ rfl, hv]
  simp only [RowAt]
  exact ⟨⟨hc 0 _ rfl, hc 1 _ rfl, hc 2 _ rfl, hc 3 _ rfl⟩, h.alloc _, trivial⟩
theorem Lst.of_row {w : World} {l : List Tm} {b o : Nat} (h : RowAt w l b o) (hl : l.length ≤ 1000000) : Lst w (some ⟨b, o, none⟩) l l.length := ⟨Nat.le_refl _, by unfold maxLen; omega, fun _ => ⟨b, o, rfl, h⟩⟩

/-- A contract that leaves what was there, told of a first world X. -/
theorem from_first {P : Program} {f : FuncId} {args : Array Value} {X W : World} {v : Value} (hX : Below X.heap.size X W) (h : Calls P f args W fun e w' => e = .returned v ∧ Below W.heap.size W w') :
    Calls P f args W fun e w' => e = .returned v ∧ Below X.heap.size X w' := h.mono fun _ _ ⟨he, hb⟩ => ⟨he, hX.trans (hb.mono hX.size)⟩
theorem great_below (l : List Tm) (A : Option Addr) (c : Nat) (most : Int) (w : World) (hl : Lst w A l c) (h1 : 0 ≤ most) (h2 : most ≤ 1000000) {r : Bool} (hr : decide (weigh l most 64 < 0) = r) :
    Calls Try.prog 9 #[.slice A l.length c, .int .i64 most] w fun e w' => e = .returned (.bool r) ∧ Below w.heap.size w w' :=
  (great_at l A c most w hl h1 h2 hr).mono fun _ _ ⟨he, n, hw⟩ => ⟨he, by rw [hw]; exact below_drewN (Below.refl _ _) n⟩
/-- Great of a slice of one term that was just laid. -/
theorem great_one (t : Tm) (most : Int) (W W' : World) (g : Nat) (hg : g = W.heap.size) (ht : t.At W) (hb : Below (W.alloc (.cells #[.int .i64 t.kind, .int .i64 t.num, .string t.name, .slice t.at_ t.args.length t.cap] 26)).heap.size (W.alloc (.cells #[.int .i64 t.kind, .int .i64 t.num, .string t.name, .slice t.at_ t.args.length t.cap] 26)) W')
    (h1 : 0 ≤ most) (h2 : most ≤ 1000000) {r : Bool} (hr : decide (weigh [t] most 64 < 0) = r) :
    Calls Try.prog 9 #[.slice (some ⟨g, 0, none⟩) 1 1, .int .i64 most] W' fun e w' => e = .returned (.bool r) ∧ Below W'.heap.size W' w' := by
  subst hg
  exact great_below [t] _ 1 most W' (Lst.of_row ((At_keep hb).2 _ _ _ (row_one t ht)) (by simp)) h1 h2 hr
theorem not_great {l : List Tm} {most : Int} (h : decide (weigh l most 64 < 0) = false) : (nodesL l : Int) ≤ most := weigh_nodes (deep := 64) (Int.not_lt.1 (by simpa using h))
/-- What is held in a region: the cells of the box, and that what was there is as it was. -/
theorem held4 {w W : World} {v0 v1 v2 v3 : Value} {T : TypeId} (h : Below (w.alloc (.cells #[v0, v1, v2, v3] T)).heap.size (w.alloc (.cells #[v0, v1, v2, v3] T)) W) :
    W.cell? ⟨w.heap.size, 0, none⟩ = some v0 ∧ W.cell? ⟨w.heap.size, 1, none⟩ = some v1 ∧ W.cell? ⟨w.heap.size, 2, none⟩ = some v2 ∧ W.cell? ⟨w.heap.size, 3, none⟩ = some v3 ∧ Below (w.alloc (.cells #[v0, v1, v2, v3] T)).heap.size (w.alloc (.cells #[v0, v1, v2, v3] T)) W := by
  obtain ⟨d0, d1, d2, d3, _⟩ := box4 h
  exact ⟨d0, d1, d2, d3, h⟩
end Go.Proofs.Ytgialbcohkpogaa
