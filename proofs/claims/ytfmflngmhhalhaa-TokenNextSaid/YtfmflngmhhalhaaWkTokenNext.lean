/-
  The walk of TokenNext.
-/
import Derived.Lib.QuietBelow
import Derived.ProofKit
import Derived.OpenShut
import Derived.ChangeOld
import Derived.Test.YtfmflngmhhalhaaTkLaw
import Derived.Test.YtfmflngmhhalhaaTrNext2
namespace Go.Proofs.Ytfmflngmhhalhaa.tokenNext
open Go.ChangeShapes Go.WideShapes Go.ChangeAt Go.RowKit Go.Sort
set_option linter.unusedVariables false

set_option maxHeartbeats 2000000 in
theorem walk (a0 : ByteArray) (a1 : Int) (w : World) (w0 : a0.size ≤ maxLen) (w1 : (Lit.int .i64 a1).wf = true) :
    Calls Try.prog 3 #[.string a0, .int .i64 a1] w fun e w' => e = .returned (.bool true) ∧ Below w.heap.size w w' := by
  obtain ⟨b, hb⟩ : ∃ b, greatB a0 = b := ⟨_, rfl⟩
  have QG := Lib.hid (fun W => great_at a0 W hb)
  cases b
  case true =>
    clear hb
    go_enter Try.func3, Try.ntmps3
    go_wp2_with (go_at_call 9; refine (QG.out _).mono ?_; rintro e w' ⟨rfl, rfl⟩)
    go_ret
    exact ⟨rfl, Below.refl _ _⟩
  have hs : a0.size ≤ 100000 := small_of hb
  clear hb
  have Q1 := Lib.hid (fun W => next_at a0 a1 W hs)
  have Q2 := Lib.hid (fun W => tr_next_at a0 a1 W hs)
  generalize nextP a0 a1 = x at Q1 Q2
  obtain ⟨⟨k, p, t⟩, n, er⟩ := x
  go_enter Try.func3, Try.ntmps3
  go_wp2_with (go_at_call 9; refine (QG.out _).mono ?_; rintro e w' ⟨rfl, rfl⟩)
  refine (Q1.out _).mono ?_
  rintro e w1 ⟨rfl, hb1⟩
  go_wp2_with fail
  refine (Q2.out _).mono ?_
  rintro e w2 ⟨rfl, hb2⟩
  obtain ⟨d0, d1, d2, hb3⟩ := box3 hb2
  have HB := Lib.hid (hb1.trans (hb3.mono hb1.size))
  have hlt : w1.heap.size < w2.heap.size := by have := hb2.size; simp at this; omega
  have hne : ¬ w1.heap.size = w2.heap.size := by omega
  have hne2 : ¬ w2.heap.size = w1.heap.size := by omega
  clear hb1 hb2 hb3
  go_wp2_with (go_at_call 12; refine (live_at _).mono ?_; rintro e w9 ⟨rfl, hb9⟩; have HL := Lib.hid hb9; clear hb9)
  go_ret
  exact ⟨rfl, below_live HB.out HL.out⟩
end Go.Proofs.Ytfmflngmhhalhaa.tokenNext
