/-
  The fixed calls that every statement of this layer asks of the program: they answer as the chapter says.
-/
import Derived.Test.YtclhmdgiffemlaaTmFun
import Derived.Test.YtclhmdgiffemlaaTmOrd
import Derived.Test.YtclhmdgiffemlaaTmAtom
import Derived.Test.YtclhmdgiffemlaaTmGround
namespace Go.Proofs.Ytclhmdgiffemlaa
open Go.RowKit

def exV (n : Int) : Tm := .mk 1 n ⟨#[]⟩ none 0 []
def exI (n : Int) : Tm := .mk 0 n ⟨#[]⟩ none 0 []
def exT (A : Option Addr) : Tm := .mk 2 0 ⟨#[102]⟩ A 2 [exV 0, exI 3]
theorem ex_right (A : Option Addr) : (exT A).right = true := by
  have h1 : opB [102] = false := by decide
  have h2 : rightB [102] = true := by decide
  have h3 : (⟨#[]⟩ : ByteArray).size = 0 := rfl
  simp only [exT, exV, exI, Tm.right, Tm.form, formL, Tm.size, sizeL, Tm.depth, depthL, h1, h2, h3]
  decide
theorem ex_size (A : Option Addr) : (exT A).size = 3 := by simp [exT, exV, exI, Tm.size, sizeL]
theorem ex_depth (A : Option Addr) : (exT A).depth = 2 := by simp [exT, exV, exI, Tm.depth, depthL]
theorem ex_occ (A : Option Addr) : (exT A).occ = [0] := by simp [exT, exV, exI, Tm.occ, occL]
theorem ex_cmp : cmpT (exV 7) (exI 3) = -1 := by simp [exV, exI, cmpT, Tm.kind, cls, ints, lex]
theorem ex_atom : atomB [112] [] = true := by
  have h2 : rightB [112] = true := by decide
  simp [atomB, h2, rightL, formL, sizeL, depthL]
theorem ex_goal : goalB 1 ⟨#[]⟩ [] = true := by simp [goalB, builtinB, arity, rightL, formL, sizeL, depthL, ByteArray.size]
theorem exV_at (w : World) (n : Int) (h : Fits n) : (exV n).At w := (At_iff _ _).2 ⟨⟨by simp only [exV, Tm.kind]; unfold Fits; omega, h, by unfold maxLen; simp [exV, Tm.name, ByteArray.size]⟩, Lst.nil w⟩
theorem exI_at (w : World) (n : Int) (h : Fits n) : (exI n).At w := (At_iff _ _).2 ⟨⟨by simp only [exI, Tm.kind]; unfold Fits; omega, h, by unfold maxLen; simp [exI, Tm.name, ByteArray.size]⟩, Lst.nil w⟩

set_option maxHeartbeats 1000000 in
theorem ex_fun (b : Nat) (w : World) (h : RowAt w [exV 0, exI 3] b 0) : Calls Try.prog 29 #[.string ⟨#[102]⟩, .slice (some ⟨b, 0, none⟩) 2 2] w fun e w' => ∃ A, e = .returned (.agg #[.int .i64 2, .int .i64 0, .string ⟨#[102]⟩, .slice A 2 2]) ∧ (exT A).At w' ∧ Below w.heap.size w w' :=
  (fun_at ⟨#[102]⟩ [exV 0, exI 3] b 0 2 w (by simp) h (by simp) (by unfold maxLen; simp [ByteArray.size])).mono fun _ _ ⟨A, he, hat, hb⟩ => ⟨A, he, hat, hb⟩
def ExFun (w : World) (e : Ending) (w' : World) : Prop := ∃ A, e = .returned (.agg #[.int .i64 2, .int .i64 0, .string ⟨#[102]⟩, .slice A 2 2]) ∧ (exT A).At w' ∧ Below w.heap.size w w'

/-- The first statement of live, for whatever follows. -/
theorem row_new (w : World) : RowAt (w.alloc (.cells #[.int .i64 1, .int .i64 0, .string ⟨#[]⟩, .slice none 0 0, .int .i64 0, .int .i64 3, .string ⟨#[]⟩, .slice none 0 0] 24)) [exV 0, exI 3] w.heap.size 0 := by
  have h : ∀ j v, (#[.int .i64 1, .int .i64 0, .string ⟨#[]⟩, .slice none 0 0, .int .i64 0, .int .i64 3, .string ⟨#[]⟩, .slice none 0 0] : Array Value)[j]? = some v →
      (w.alloc (.cells #[.int .i64 1, .int .i64 0, .string ⟨#[]⟩, .slice none 0 0, .int .i64 0, .int .i64 3, .string ⟨#[]⟩, .slice none 0 0] 24)).cell? ⟨w.heap.size, j, none⟩ = some v := fun j v hv => by
    rw [World.cell?_alloc_at _ _ _ _ rfl, hv]
  simp only [RowAt]
  exact ⟨⟨h 0 _ rfl, h 1 _ rfl, h 2 _ rfl, h 3 _ rfl⟩, exV_at _ _ (by unfold Fits; omega), ⟨h 4 _ rfl, h 5 _ rfl, h 6 _ rfl, h 7 _ rfl⟩, exI_at _ _ (by unfold Fits; omega), trivial⟩

set_option maxHeartbeats 2000000 in
theorem live_at (w : World) : Calls Try.prog 13 #[] w fun e w' => e = .returned (.bool true) ∧ Below w.heap.size w w' := by
  have qf := Lib.hid (fun b W h => (ex_fun b W h : Calls _ _ _ W (ExFun W)))
  go_enter Try.func13, Try.ntmps13
  go_wp2_with fail
  refine (var_tm_at 0 _).mono ?_
  rintro e w1 ⟨rfl, hb1⟩
  go_wp2_with fail
  refine (int_tm_at 3 _).mono ?_
  rintro e w2 ⟨rfl, hb2⟩
  have B2 := Lib.hid (hb1.trans (hb2.mono hb1.size))
  clear hb1 hb2
  go_wp2_with fail
  refine (qf.out _ _ (row_new _)).mono ?_
  rintro e w3 ⟨A, rfl, hat, hb3⟩
  have B3 := Lib.hid (B2.out.trans ((below1 _ _).mono B2.out.size |>.trans (hb3.mono (by have := B2.out.size; simp; omega))))
  have HT := Lib.hid (fun W (h : Below w3.heap.size w3 W) => hat.below h)
  clear hat hb3
  go_wp2_with fail
  refine (right_tm_at (exT A) _ (HT.out _ (below1 _ _)) (ex_right A)).mono ?_
  rintro e w4 ⟨rfl, hb⟩
  obtain ⟨d0, d1, d2, d3, hc⟩ := box4 hb
  clear hb
  go_wp2_with fail
  refine (size_at (exT A) _ (HT.out _ hc) (by rw [ex_size]; omega)).mono ?_
  rintro e w5 ⟨he, hb⟩
  rw [show ((exT A).size : Int) = 3 by rw [ex_size]; rfl] at he
  subst he
  replace d0 := (hb.cell (World.block_lt_of_cell? _ _ d0)).trans d0
  replace d1 := (hb.cell (World.block_lt_of_cell? _ _ d1)).trans d1
  replace d2 := (hb.cell (World.block_lt_of_cell? _ _ d2)).trans d2
  replace d3 := (hb.cell (World.block_lt_of_cell? _ _ d3)).trans d3
  replace hc := hc.trans (hb.mono hc.size)
  clear hb
  go_wp2_with fail
  refine (depth_at (exT A) _ (HT.out _ hc) (by rw [ex_depth]; omega)).mono ?_
  rintro e w6 ⟨he, hb⟩
  rw [show ((exT A).depth : Int) = 2 by rw [ex_depth]; rfl] at he
  subst he
  replace d0 := (hb.cell (World.block_lt_of_cell? _ _ d0)).trans d0
  replace d1 := (hb.cell (World.block_lt_of_cell? _ _ d1)).trans d1
  replace d2 := (hb.cell (World.block_lt_of_cell? _ _ d2)).trans d2
  replace d3 := (hb.cell (World.block_lt_of_cell? _ _ d3)).trans d3
  replace hc := hc.trans (hb.mono hc.size)
  clear hb
  go_wp2_with fail
  refine (ground_at (exT A) _ (HT.out _ hc) (r := false) (by rw [ex_occ]; decide)).mono ?_
  rintro e w7 ⟨rfl, hb⟩
  replace d0 := (hb.cell (World.block_lt_of_cell? _ _ d0)).trans d0
  replace d1 := (hb.cell (World.block_lt_of_cell? _ _ d1)).trans d1
  replace d2 := (hb.cell (World.block_lt_of_cell? _ _ d2)).trans d2
  replace d3 := (hb.cell (World.block_lt_of_cell? _ _ d3)).trans d3
  replace hc := hc.trans (hb.mono hc.size)
  clear hb
  go_wp2_with fail
  refine (same_at (exT A) (exT A) _ (HT.out _ hc) (HT.out _ hc) (r := true) (by rw [cmp_self.1]; rfl)).mono ?_
  rintro e w8 ⟨rfl, hb⟩
  replace d0 := (hb.cell (World.block_lt_of_cell? _ _ d0)).trans d0
  replace d1 := (hb.cell (World.block_lt_of_cell? _ _ d1)).trans d1
  replace d2 := (hb.cell (World.block_lt_of_cell? _ _ d2)).trans d2
  replace d3 := (hb.cell (World.block_lt_of_cell? _ _ d3)).trans d3
  replace hc := hc.trans (hb.mono hc.size)
  clear hb
  have B8 := B3.out.trans (hc.mono B3.out.size)
  clear d0 d1 d2 d3 hc HT
  go_wp2_with fail
  refine (var_tm_at 7 _).mono ?_
  rintro e w9 ⟨rfl, hb⟩
  replace B8 := B8.trans (hb.mono B8.size)
  clear hb
  go_wp2_with fail
  refine (int_tm_at 3 _).mono ?_
  rintro e w10 ⟨rfl, hb⟩
  replace B8 := B8.trans (hb.mono B8.size)
  clear hb
  go_wp2_with fail
  refine (compare_at (exV 7) (exI 3) _ (exV_at _ _ (by unfold Fits; omega)) (exI_at _ _ (by unfold Fits; omega))).mono ?_
  rintro e w11 ⟨he, hb⟩
  rw [ex_cmp] at he
  subst he
  replace B8 := B8.trans (hb.mono B8.size)
  clear hb
  go_wp2_with fail
  refine (right_atom_at ⟨⟨#[112]⟩, none, 0, []⟩ _ ⟨by unfold maxLen; simp [ByteArray.size], Lst.nil _⟩ (r := true) ex_atom).mono ?_
  rintro e w12 ⟨rfl, hb⟩
  replace B8 := B8.trans (hb.mono B8.size)
  clear hb
  go_wp2_with fail
  refine (right_goal_at ⟨1, ⟨#[]⟩, none, 0, []⟩ _ ⟨by unfold Fits; simp only; omega, by unfold maxLen; simp [ByteArray.size], Lst.nil _⟩ (r := true) ex_goal).mono ?_
  rintro e w13 ⟨rfl, hb⟩
  replace B8 := B8.trans (hb.mono B8.size)
  go_wp2_with fail
  go_ret
  exact ⟨rfl, B8⟩
end Go.Proofs.Ytclhmdgiffemlaa
