/-
  What the listed variables of the library give a walk (the table of powers of ten, the two errors of strconv), that they stay behind calls that leave all blocks, and a world that meets the list.
-/
import Derived.Test.YtlijifjbncicjaaDoorRows
import Derived.Test.YtlijifjbncicjaaDoorTie
import Derived.Lib.LaidTab
import Derived.LaidMore
import Derived.Stop.LaidErr
import Derived.Stop.Joined
import Derived.MakeChecks
import Derived.Below
import Derived.Lib.ItoaNum
namespace Go.Proofs.YtlijifjbncicjaaDoor
open Go.RowKit

def seatLaid : List (String × DataW Unit) := Rows.nameKindsRow.laid

abbrev tabName : String := "internal/strconv.uint64pow10"

/-- The variables hold what start-up lays. -/
structure Laid (w : World) : Prop where
  tab : Lib.TabIs Tryd.prog w tabName .u64 Lib.pow10Tab
  syn : ∃ tp p, w.var? Tryd.prog "strconv.ErrSyntax" = some #[.iface tp p]
  rng : ∃ tp p, w.var? Tryd.prog "strconv.ErrRange" = some #[.iface tp p]

theorem var_below {P : Program} {w w' : World} {n : String} {cs : Array Value} (h : w.var? P n = some cs) (hb : Below w.heap.size w w') : w'.var? P n = some cs := by
  unfold World.var? at h ⊢
  cases hg : P.globalNamed n with
  | none => simp [hg] at h
  | some g =>
    simp only [hg, Option.bind_some] at h ⊢
    have hlt : g < w.heap.size := by
      rcases Nat.lt_or_ge g w.heap.size with h' | h'
      · exact h'
      · simp [Array.getElem?_eq_none h'] at h
    rw [hb.block g hlt]
    exact h
theorem Laid.below {w w' : World} (h : Laid w) (hb : Below w.heap.size w w') : Laid w' := by
  obtain ⟨h1, ⟨t2, p2, h2⟩, ⟨t3, p3, h3⟩⟩ := h
  exact ⟨var_below h1 hb, ⟨t2, p2, var_below h2 hb⟩, ⟨t3, p3, var_below h3 hb⟩⟩
theorem Laid.alloc {w : World} (h : Laid w) (o : Obj) : Laid (w.alloc o) := h.below ((Below.refl _ _).alloc (Nat.le_refl _) o)

theorem gTab : Tryd.prog.globalNamed tabName = some 2 := by kernel_rfl
theorem gTabType : (Tryd.prog.globals[2]?).map (·.type) = some 59 := by kernel_rfl
theorem cellsTab : Tryd.prog.cellsOf 59 = 20 := by kernel_rfl
theorem cellsU64 : Tryd.prog.cellsOf 45 = 1 := by kernel_rfl
theorem gSyn : Tryd.prog.globalNamed "strconv.ErrSyntax" = some 0 := by kernel_rfl
theorem gSynType : (Tryd.prog.globals[0]?).map (·.type) = some 31 := by kernel_rfl
theorem gRng : Tryd.prog.globalNamed "strconv.ErrRange" = some 1 := by kernel_rfl
theorem gRngType : (Tryd.prog.globals[1]?).map (·.type) = some 31 := by kernel_rfl
theorem cellsErr : Tryd.prog.cellsOf 67 = 1 := by kernel_rfl
theorem cellsStr : Tryd.prog.cellsOf 9 = 1 := by kernel_rfl
theorem starErr : "*" ++ "errors.errorString" = "*errors.errorString" := by decide
theorem rowErr (u : TypeId) (h : Tryd.prog.typeName? 3 u = some "*errors.errorString") : u = 65 :=
  typeName_ptr_named (nm := "errors.errorString") (by rw [starErr]; kernel_rfl) (by kernel_rfl) (by decide) u (by rw [starErr]; exact h)

theorem laid_of {W : World} (h0 : laidMetH Tryd.prog seatLaid W) : Laid W := by
  have h : laidMet Tryd.prog seatLaid W := by
    rw [MakeChecks.laidMetH_plain _ _ _ (by kernel_rfl)] at h0
    exact h0
  have h3 := h.tail.tail
  refine ⟨Lib.tabIs_of_head gTab gTabType Tryd.underlying59 Tryd.underlying45 cellsU64 cellsTab h3, ?_, ?_⟩
  · obtain ⟨a, s, hv, -⟩ := laid_sentinel h3.tail.tail gSyn gSynType Tryd.underlying31 rowErr Tryd.underlying65 Tryd.underlying67 rfl rfl Tryd.underlying9 cellsErr cellsStr
    exact ⟨_, _, hv⟩
  · obtain ⟨a, s, hv, -⟩ := laid_sentinel h3.tail gRng gRngType Tryd.underlying31 rowErr Tryd.underlying65 Tryd.underlying67 rfl rfl Tryd.underlying9 cellsErr cellsStr
    exact ⟨_, _, hv⟩

/-- A world that meets the list: the heap that start-up leaves. -/
theorem door_met (os : Os) (args : Array Value) : laidMetH Tryd.prog seatLaid ((World.doorLaid Tryd.prog 400 os).forCall (fun _ _ => 0) ⟨#[], args, []⟩).memory :=
  laidMetH_of_parts3 (fuel := 8) (laidMet_of_run' 8 (by kernel_rfl) (by kernel_rfl)) (by kernel_rfl) (by kernel_rfl)
end Go.Proofs.YtlijifjbncicjaaDoor
