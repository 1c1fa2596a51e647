/-
  Words for byte slices in memory: a slice that reads as a list of bytes, and what string(..) makes of it.
-/
import Derived.WalkKit
import Derived.Below
import Derived.Laws.BytesArg
import Derived.Lib.Hide
import Derived.Deep.Draws
namespace Go.Proofs.YtlijifjbncicjaaDoor
open Go.RowKit

/-- The cells of bytes. -/
def bcells (l : List UInt8) : List Value := l.map fun x => Value.int .u8 (x.toNat : Int)
theorem bcells_length (l : List UInt8) : (bcells l).length = l.length := by simp [bcells]
theorem bcells_append (l m : List UInt8) : bcells (l ++ m) = bcells l ++ bcells m := by simp [bcells]
theorem bcells_one (l : List UInt8) : ∀ u ∈ bcells l, u.oneCell' = true := by
  intro u hu
  obtain ⟨_, _, rfl⟩ := List.mem_map.1 hu
  rfl
theorem bcells_get {l : List UInt8} {i : Nat} (h : i < l.length) : (bcells l)[i]? = some (.int .u8 ((l.getD i 0).toNat : Int)) := by simp [bcells, List.getD, h]

/-- The bytes l lie at A: where there is one: at an address, cell by cell. -/
def Lies (w : World) (A : Option Addr) (l : List UInt8) : Prop :=
  0 < l.length → ∃ b o, A = some ⟨b, o, none⟩ ∧ ∀ i, i < l.length → w.cell? ⟨b, o + i, none⟩ = some (.int .u8 ((l.getD i 0).toNat : Int))

theorem add_plain (b o k : Nat) : (⟨b, o, none⟩ : Addr).add k = ⟨b, o + k, none⟩ := by unfold Addr.add; split <;> simp_all

theorem below_drewN {B : Nat} {a w : World} (h : Below B a w) (n : Nat) : Below B a (w.drewN n) := ⟨h.os, h.tape, h.output, h.size, h.block⟩

section
variable {w w' : World} {A : Option Addr} {l : List UInt8}
theorem Lies.nil (w : World) (A : Option Addr) : Lies w A [] := fun h => absurd h (by simp)
theorem Lies.below (h : Lies w A l) (hb : Below w.heap.size w w') : Lies w' A l := fun hn => by
  obtain ⟨b, o, e, hc⟩ := h hn
  refine ⟨b, o, e, fun i hi => ?_⟩
  rw [hb.cell (p := ⟨b, o + i, none⟩) (World.block_lt_of_cell? w _ (hc i hi))]
  exact hc i hi
theorem Lies.alloc (h : Lies w A l) (o : Obj) : Lies (w.alloc o) A l := h.below ((Below.refl _ _).alloc (Nat.le_refl _) o)
theorem Lies.drew (h : Lies w A l) : Lies w.drew A l := h
theorem Lies.drewN (h : Lies w A l) (n : Nat) : Lies (w.drewN n) A l := h
theorem Lies.cell (h : Lies w A l) {i : Nat} (hi : i < l.length) : ∃ b o, A = some ⟨b, o, none⟩ ∧ w.cell? ⟨b, o + i, none⟩ = some (.int .u8 ((l.getD i 0).toNat : Int)) := by
  obtain ⟨b, o, e, hc⟩ := h (by omega)
  exact ⟨b, o, e, hc i hi⟩
theorem Lies.cells {a : Addr} (h : Lies w (some a) l) : ∀ j u, (bcells l)[j]? = some u → w.cell? (a.add j) = some u := by
  intro j u hu
  have hj : j < l.length := by
    have := (List.getElem?_eq_some_iff.1 hu).1
    rwa [bcells_length] at this
  obtain ⟨b, o, e, hc⟩ := h.cell hj
  injection e with e
  subst e
  rw [add_plain, hc, ← hu, bcells_get hj]
theorem Lies.cut1 {k : Nat} (hk : l.length ≤ k) : Lies w A (l.drop k) := by
  rw [List.drop_eq_nil_of_le hk]
  exact Lies.nil _ _
theorem Lies.cut2 (h : Lies w A l) (k : Nat) : Lies w (A.map (·.add k)) (l.drop k) := fun hn => by
  rw [List.length_drop] at hn
  obtain ⟨b, o, rfl, hcell⟩ := h (by omega)
  refine ⟨b, o + k, by simp [add_plain], fun i hi => ?_⟩
  rw [List.length_drop] at hi
  rw [show o + k + i = o + (k + i) by omega, hcell (k + i) (by omega)]
  simp [List.getD]
theorem Lies.take (h : Lies w A l) (k : Nat) : Lies w A (l.take k) := fun hn => by
  rw [List.length_take] at hn
  obtain ⟨b, o, e, hcell⟩ := h (by omega)
  refine ⟨b, o, e, fun i hi => ?_⟩
  rw [List.length_take] at hi
  rw [hcell i (by omega)]
  simp [List.getD, show i < k by omega]
theorem Lies.mk {b : Nat} (h : ∀ i, i < l.length → w.cell? ⟨b, i, none⟩ = some (.int .u8 ((l.getD i 0).toNat : Int))) : Lies w (some ⟨b, 0, none⟩) l := fun _ => ⟨b, 0, rfl, fun i hi => by rw [Nat.zero_add]; exact h i hi⟩
/-- A row of cells that was just laid. -/
theorem Lies.new (w : World) (e : TypeId) (l : List UInt8) : Lies (w.alloc (.cells (bcells l).toArray e)) (some ⟨w.heap.size, 0, none⟩) l := Lies.mk fun i hi => by
  rw [World.cell?_alloc_at _ _ _ _ rfl]
  simp only [List.getElem?_toArray]
  exact bcells_get hi

theorem Lies.one (w : World) (e : TypeId) {X : Int} {x : UInt8} (h : X = (x.toNat : Int)) : Lies (w.alloc (.cells #[.int .u8 X] e)) (some ⟨w.heap.size, 0, none⟩) [x] := by
  subst h
  exact Lies.new w e [x]

/-- A row of cells that was laid last, given cell by cell. -/
theorem Lies.last {w : World} {g : Nat} {cs : Array Value} {e : TypeId} (l : List UInt8) (hg : g = w.heap.size) (hcs : (bcells l).toArray = cs) : Lies (w.alloc (.cells cs e)) (some ⟨g, 0, none⟩) l := by
  subst hg hcs
  exact Lies.new w e l

end

/-- string(b). -/
theorem Lies.str {P : Program} {w : World} {A : Option Addr} {l : List UInt8} (h : Lies w A l) (c : Nat) {src e dst : TypeId} (hs : P.underlying src = some (.slice e)) (he : P.underlying e = some (.int .u8)) (hd : P.underlying dst = some .string) :
    (convert src dst (.slice A l.length c)).run P w = .ok (.string ⟨l.toArray⟩) w := by
  have hnum : strOfNums (l.map fun x => (x.toNat : Int)) = ⟨l.toArray⟩ := by simp [strOfNums, Function.comp_def]
  rcases l with _ | ⟨x, r⟩
  · rw [run_convert_bytes_string w src dst e _ _ c hs he hd]
    cases A <;> simp [Conv.bytesToString, loadCells]
    all_goals rfl
  · obtain ⟨b, o, rfl, hc⟩ := h (by simp)
    rw [run_convert_bytes_arg w src e hs he b o _ c ((x :: r).map fun x => (x.toNat : Int)) (by simp) (fun i hi => by
      rw [hc i hi]
      simp only [List.getD, List.getElem?_map, List.getElem?_eq_getElem hi, Option.map_some, Option.getD_some]) dst hd, hnum]

end Go.Proofs.YtlijifjbncicjaaDoor
