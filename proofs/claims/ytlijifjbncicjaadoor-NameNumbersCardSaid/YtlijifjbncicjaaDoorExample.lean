/-
  The contract of the statements' own fixed examples: exampleHolds answers true, and leaves what was there before.
-/
import Derived.Test.YtlijifjbncicjaaDoorLabel
namespace Go.Proofs.YtlijifjbncicjaaDoor
open Go.RowKit

theorem label_spell {l : List UInt8} {n : Nat} (h : l = label n) : n = spell (l.drop 1) := by
  rw [h]
  exact (spell_dec n).symm
theorem label_12 : label 12 = [86, 49, 50] := by
  unfold label
  rw [dec_big (by omega), dec_small (by omega)]
  rfl
theorem label_012 : NoLabel [86, 48, 49, 50] := fun n _ h => by
  have e := label_spell h
  have e2 : spell (([86, 48, 49, 50] : List UInt8).drop 1) = 12 := by decide
  rw [e2] at e
  rw [e, label_12] at h
  exact absurd h (by decide)

set_option maxHeartbeats 1000000 in
set_option maxRecDepth 10000 in
theorem example_any (w : World) (hL : Laid w) : Calls Tryd.prog 8 #[] w fun e w' => e = .returned (.bool true) ∧ Below w.heap.size w w' := by
  have q1 := Lib.hid (number_yes ⟨#[86, 49, 50]⟩ 12 w ⟨by omega, label_12.symm⟩ hL)
  have q2 := fun w' (hb : Below w.heap.size w w') => number_no ⟨#[86, 48, 49, 50]⟩ w' (by decide) label_012 (hL.below hb)
  have q3 := fun w' (hb : Below w.heap.size w w') => label_in 12 w' (by omega) (hL.below hb)
  rw [label_12] at q3
  have q2 := Lib.hid q2
  have q3 := Lib.hid q3
  clear hL
  go_enter Tryd.func8, Tryd.ntmps8
  go_wp2_with fail
  refine q1.out.mono ?_
  rintro e w1 ⟨rfl, hb1⟩
  go_wp2_with fail
  refine (q2.out w1 hb1).mono ?_
  rintro e w2 ⟨rfl, hb2⟩
  have hb := hb1.trans (hb2.mono hb1.size)
  clear hb1 hb2
  go_wp2_with fail
  refine (right_at ⟨#[108, 101, 113, 50]⟩ w2 (by decide) (r := true) (by decide)).mono ?_
  rintro e w' ⟨rfl, rfl⟩
  go_wp2_with fail
  refine (right_at ⟨#[105, 115]⟩ w2 (by decide) (r := false) (by decide)).mono ?_
  rintro e w' ⟨rfl, rfl⟩
  go_wp2_with fail
  refine (right_at ⟨#[49, 120]⟩ w2 (by decide) (r := false) (by decide)).mono ?_
  rintro e w' ⟨rfl, rfl⟩
  go_wp2_with fail
  refine (var_at ⟨#[95]⟩ w2 (by decide) (r := true) (by decide)).mono ?_
  rintro e w' ⟨rfl, rfl⟩
  go_wp2_with fail
  refine (var_at ⟨#[120]⟩ w2 (by decide) (r := false) (by decide)).mono ?_
  rintro e w' ⟨rfl, rfl⟩
  go_wp2_with fail
  refine (op_at ⟨#[37]⟩ w2 (r := true) (by decide)).mono ?_
  rintro e w' ⟨rfl, rfl⟩
  go_wp2_with fail
  refine (res_at ⟨#[103, 114, 111, 117, 110, 100]⟩ w2 (r := true) (by decide)).mono ?_
  rintro e w' ⟨rfl, rfl⟩
  go_wp2_with fail
  refine (q3.out w2 hb).mono ?_
  rintro e w3 ⟨rfl, hb3⟩
  go_wp2_with fail
  refine (label_out (-1) w3 (by omega)).mono ?_
  rintro e w' ⟨rfl, rfl⟩
  go_wp2_with fail
  go_ret
  exact ⟨rfl, hb.trans (hb3.mono hb.size)⟩
end Go.Proofs.YtlijifjbncicjaaDoor
