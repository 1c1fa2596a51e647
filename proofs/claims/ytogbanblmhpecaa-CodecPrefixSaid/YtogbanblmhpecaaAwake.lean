/-
  The contract of the statements' own fixed examples: the function awake answers true, and leaves what was there before.
-/
import Derived.Test.YtogbanblmhpecaaPut
import Derived.Test.YtogbanblmhpecaaText
namespace Go.Proofs.Ytogbanblmhpecaa
open Go.RowKit

theorem enc_5 : enc (zig (-3)) = [5] := by
  have e : zig (-3) = 5 := by decide
  rw [e, enc_small (by omega)]
  rfl

set_option maxHeartbeats 1000000 in
set_option maxRecDepth 10000 in
theorem awake_any (w : World) : Calls Try.prog 7 #[] w fun e w' => e = .returned (.bool true) ∧ Below w.heap.size w w' := by
  go_enter Try.func7, Try.ntmps7
  go_wp2_with fail
  refine (int_at _ [9, 128, 1] _ _ _ _ _ (Lies.last _ rfl rfl) (by simp) (by simp) (n := 64) (nx := 3) (e0 := 0) (by decide)).mono ?_
  rintro e w' ⟨rfl, rfl⟩
  go_wp2_with fail
  refine (int_at _ [128, 0] _ _ _ _ _ (Lies.last _ (by simp) rfl) (by simp) (by simp) (n := 0) (nx := 0) (e0 := 3) (by decide)).mono ?_
  rintro e w' ⟨rfl, rfl⟩
  go_wp2_with fail
  refine (text_at _ [4, 97, 98] _ _ _ _ (Lies.last _ (by simp) rfl) (by simp) (by simp) (S := ⟨#[97, 98]⟩) (nx := 3) (e0 := 0) (by decide)).mono ?_
  rintro e w' ⟨rfl, rfl⟩
  go_wp2_with fail
  refine (put_int _ [7] _ _ _ (Lies.last _ (by simp) rfl) (by simp) (by decide) (by decide)).mono ?_
  rintro e w5 ⟨v5, rfl, hown5, hb5⟩
  rw [enc_5] at hown5
  obtain ⟨A5, c5, rfl, hl5, hc5⟩ := hown5.lies
  go_wp2_with fail
  refine (equal_at _ _ [7, 5] [7, 5] _ _ _ (hl5.alloc _) (Lies.last _ (by simp) rfl) (r := true) (by decide)).mono ?_
  rintro e w' ⟨rfl, rfl⟩
  go_wp2_with fail
  go_ret
  refine ⟨rfl, ?_⟩
  exact ((((((Below.refl _ _).alloc (by simp) _).alloc (by simp <;> omega) _).alloc (by simp <;> omega) _).alloc (by simp <;> omega) _).trans (hb5.mono (by simp <;> omega))).alloc (by have := hb5.size; simp at this; omega) _
end Go.Proofs.Ytogbanblmhpecaa
