/-
  The chapter's examples, which each statement asks of the program.
-/
import Derived.Test.YtfmflngmhhalhaaTkScan
namespace Go.Proofs.Ytfmflngmhhalhaa
open Go.RowKit

theorem live_next : nextP ⟨#[32, 32, 97, 98, 49, 50, 32, 35, 32, 99]⟩ 1 = ((1, 2, [97, 98, 49, 50]), 6, 0) := by kernel_rfl
theorem live_scan : scanP ⟨#[112, 40, 88, 41, 32, 60, 61, 62, 32, 55, 46]⟩ = ([(1, 0, [112]), (4, 1, [40]), (2, 2, [88]), (4, 3, [41]), (4, 5, [60, 61, 62]), (3, 9, [55]), (4, 10, [46]), (0, 11, [])], 0, 0) := by kernel_rfl
theorem live_sym : symAt ⟨#[97, 61, 58, 61, 98]⟩ 1 = [61, 58, 61] := by kernel_rfl
set_option maxHeartbeats 1000000 in
theorem live_at (w : World) : Calls Try.prog 12 #[] w fun e w' => e = .returned (.bool true) ∧ Below w.heap.size w w' := by
  have Q1 := Lib.hid (fun W => next_at ⟨#[32, 32, 97, 98, 49, 50, 32, 35, 32, 99]⟩ 1 W (by decide))
  have Q2 := Lib.hid (fun W => scan_at ⟨#[112, 40, 88, 41, 32, 60, 61, 62, 32, 55, 46]⟩ W (by decide))
  have Q3 := Lib.hid (fun W => symbol_at ⟨#[97, 61, 58, 61, 98]⟩ 1 W (by decide))
  rw [live_next] at Q1
  rw [live_sym] at Q3
  unfold ScanR at Q2
  rw [live_scan] at Q2
  go_enter Try.func12, Try.ntmps12
  go_wp2_with fail
  refine (Q1.out _).mono ?_
  rintro e w1 ⟨rfl, hb1⟩
  go_wp2_with fail
  refine (Q2.out _).mono ?_
  rintro e w2 ⟨A, c, rfl, hl, hb2⟩
  obtain ⟨d0, d1, d2, hb3⟩ := box3 hb2
  obtain ⟨g, rfl, c0, c1, c2⟩ := hl.get (i := 4) (by decide)
  have HB := Lib.hid (hb1.trans (hb3.mono hb1.size))
  clear hb1 hb2 hb3 hl
  simp only [List.getD_cons_succ, List.getD_cons_zero, Nat.reduceMul, Nat.reduceAdd] at c0 c1 c2
  go_wp2_with (go_at_call 17; refine (Q3.out _).mono ?_; rintro e w' ⟨rfl, rfl⟩)
  go_ret
  exact ⟨rfl, HB.out⟩
end Go.Proofs.Ytfmflngmhhalhaa
