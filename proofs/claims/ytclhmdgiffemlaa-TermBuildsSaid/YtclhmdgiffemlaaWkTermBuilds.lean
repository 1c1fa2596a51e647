/-
  The walk of TermBuilds.
-/
import Derived.Test.YtclhmdgiffemlaaTmTwo
import Derived.Test.YtclhmdgiffemlaaTmCon
import Derived.Test.YtclhmdgiffemlaaTmPair
import Derived.Test.YtclhmdgiffemlaaTmBuild
import Derived.Test.YtclhmdgiffemlaaWkBuildFF
import Derived.Test.YtclhmdgiffemlaaWkBuildFT
import Derived.Test.YtclhmdgiffemlaaWkBuildTF
import Derived.Test.YtclhmdgiffemlaaWkBuildTT
namespace Go.Proofs.Ytclhmdgiffemlaa.termBuilds
open Go.ChangeShapes Go.WideShapes Go.ChangeAt Go.RowKit Go.Sort
set_option linter.unusedVariables false

set_option maxHeartbeats 16000000 in
theorem walk (a0 : ByteArray) (a1 : Tm) (a2 : Tm) (w : World) (w0 : a0.size ≤ maxLen) (w1 : a1.At w) (w2 : a2.At w) :
    Calls Try.prog 7 #[.string a0, a1.val, a2.val] w fun e w' => e = .returned (.bool true) ∧ Below w.heap.size w w' := by
  obtain ⟨g, hg⟩ : ∃ g, decide (weigh [a1, a2] 500 64 < 0) = g := ⟨_, rfl⟩
  have QG := Lib.hid (fun (W : World) (b : Nat) (hb : b = W.heap.size) (h : Below w.heap.size w W) => great_two a1 a2 500 W b hb (w1.below h) (w2.below h) (by omega) (by omega) hg)
  have hsz : a0.size ≤ 9223372036854775807 := by unfold maxLen at w0; exact w0
  cases g
  · by_cases hl : a0.size ≤ 400
    · have hl' : decide ((400 : Int) < (a0.size : Int)) = false := by simp; omega
      have hl'' : ¬((400 : Int) < (a0.size : Int)) := by omega
      obtain ⟨hz1, hz2, hz3⟩ := weigh_two hg (by omega)
      clear hg hl
      rcases hga : decide (a1.occ = []) with _ | _ <;> rcases hr : (Tm.mk 2 0 a0 none 2 [a1, a2]).right with _ | _
      · exact walk_false_false a0 a1 a2 w w0 w1 w2 QG hsz hl' hl'' hz1 hz2 hz3 hga hr
      · exact walk_false_true a0 a1 a2 w w0 w1 w2 QG hsz hl' hl'' hz1 hz2 hz3 hga hr
      · exact walk_true_false a0 a1 a2 w w0 w1 w2 QG hsz hl' hl'' hz1 hz2 hz3 hga hr
      · exact walk_true_true a0 a1 a2 w w0 w1 w2 QG hsz hl' hl'' hz1 hz2 hz3 hga hr
    · have hl' : decide ((400 : Int) < (a0.size : Int)) = true := by simp; omega
      clear hg hl w0
      obtain ⟨k, n, s, A, c, a⟩ := a1
      obtain ⟨k', n', s', A', c', a'⟩ := a2
      show Calls Try.prog 7 #[.string a0, .agg #[.int .i64 k, .int .i64 n, .string s, .slice A a.length c], .agg #[.int .i64 k', .int .i64 n', .string s', .slice A' a'.length c']] w _
      go_enter Try.func7, Try.ntmps7
      go_wp2_with fail
      refine (live_at _).mono ?_
      rintro e w4 ⟨rfl, hb⟩
      obtain ⟨⟨d0, d1, d2, d3⟩, ⟨g0, g1, g2, g3⟩, hb4⟩ := box8 hb
      clear hb
      go_wp2_with fail
      refine (QG.out _ _ rfl hb4).mono ?_
      rintro e w5 ⟨rfl, hb⟩
      go_wp2_with fail
      go_ret
      exact ⟨rfl, hb4.trans (hb.mono hb4.size)⟩
  · clear hg w0
    obtain ⟨k, n, s, A, c, a⟩ := a1
    obtain ⟨k', n', s', A', c', a'⟩ := a2
    show Calls Try.prog 7 #[.string a0, .agg #[.int .i64 k, .int .i64 n, .string s, .slice A a.length c], .agg #[.int .i64 k', .int .i64 n', .string s', .slice A' a'.length c']] w _
    go_enter Try.func7, Try.ntmps7
    go_wp2_with fail
    refine (live_at _).mono ?_
    rintro e w4 ⟨rfl, hb⟩
    obtain ⟨⟨d0, d1, d2, d3⟩, ⟨g0, g1, g2, g3⟩, hb4⟩ := box8 hb
    clear hb
    go_wp2_with fail
    refine (QG.out _ _ rfl hb4).mono ?_
    rintro e w5 ⟨rfl, hb⟩
    go_wp2_with fail
    go_ret
    exact ⟨rfl, hb4.trans (hb.mono hb4.size)⟩
end Go.Proofs.Ytclhmdgiffemlaa.termBuilds
