/-
  The walk of TokenScan.
-/
import Derived.Lib.QuietBelow
import Derived.ProofKit
import Derived.OpenShut
import Derived.ChangeOld
import Derived.Test.YtfmflngmhhalhaaTkLaw
import Derived.Test.YtfmflngmhhalhaaTrTokens
namespace Go.Proofs.Ytfmflngmhhalhaa.tokenScan
open Go.ChangeShapes Go.WideShapes Go.ChangeAt Go.RowKit Go.Sort
set_option linter.unusedVariables false

theorem scan_len (s : ByteArray) (hs : s.size ≤ 100000) : (scanP s).1.length ≤ 200000 := by
  unfold scanP
  split
  · simp
  · have := toks_len s (s.size + 1) 0
    omega
set_option maxHeartbeats 2000000 in
theorem walk (a0 : ByteArray) (w : World) (w0 : a0.size ≤ maxLen) :
    Calls Try.prog 4 #[.string a0] w fun e w' => e = .returned (.bool true) ∧ Below w.heap.size w w' := by
  obtain ⟨b, hb⟩ : ∃ b, greatB a0 = b := ⟨_, rfl⟩
  have QG := Lib.hid (fun W => great_at a0 W hb)
  cases b
  case true =>
    clear hb
    go_enter Try.func4, Try.ntmps4
    go_wp2_with (go_at_call 9; refine (QG.out _).mono ?_; rintro e w' ⟨rfl, rfl⟩)
    go_ret
    exact ⟨rfl, Below.refl _ _⟩
  have hs : a0.size ≤ 100000 := small_of hb
  clear hb
  have Q1 := Lib.hid (fun W => scan_at a0 W hs)
  have Q2 := Lib.hid (fun W => tr_scan_at a0 W hs)
  have hl := scan_len a0 hs
  unfold ScanR at Q1 Q2
  generalize scanP a0 = x at Q1 Q2 hl
  obtain ⟨l, n, er⟩ := x
  go_enter Try.func4, Try.ntmps4
  go_wp2_with (go_at_call 9; refine (QG.out _).mono ?_; rintro e w' ⟨rfl, rfl⟩)
  refine (Q1.out _).mono ?_
  rintro e w1 ⟨A, c, rfl, hl1, hb1⟩
  go_wp2_with fail
  refine (Q2.out _).mono ?_
  rintro e w2 ⟨B, d, rfl, hl2, hb2⟩
  have Q3 := Lib.hid (same_at l A B c d w2 (hl1.below hb2) hl2 hl)
  have HB := Lib.hid (hb1.trans (hb2.mono hb1.size))
  clear hb1 hb2 hl1 hl2
  simp only
  go_wp2_with fail
  refine Q3.out.mono ?_
  rintro e w3 ⟨rfl, hb3⟩
  have HB3 := Lib.hid (HB.out.trans (hb3.mono HB.out.size))
  clear hb3 Q3
  go_wp2_with (go_at_call 12; refine (live_at _).mono ?_; rintro e w9 ⟨rfl, hb9⟩; have HL := Lib.hid hb9; clear hb9)
  go_ret
  exact ⟨rfl, HB3.out.trans (HL.out.mono HB3.out.size)⟩
end Go.Proofs.Ytfmflngmhhalhaa.tokenScan
