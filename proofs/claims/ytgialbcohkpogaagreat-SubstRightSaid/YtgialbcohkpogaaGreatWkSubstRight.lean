/-
  The walk of SubstRight.
-/
import Derived.Test.YtgialbcohkpogaaGreatSuLv
import Derived.Test.YtgialbcohkpogaaGreatSuNodes
import Derived.Test.YtgialbcohkpogaaGreatSuOpen
import Derived.Test.YtgialbcohkpogaaGreatSuRefRight
namespace Go.Proofs.YtgialbcohkpogaaGreat.substRight
open Go.ChangeShapes Go.WideShapes Go.ChangeAt Go.RowKit Go.Sort
set_option linter.unusedVariables false

set_option maxHeartbeats 16000000 in
set_option maxRecDepth 100000 in
theorem walk (A0 : Option Addr) (a0 : List Bd) (c0 : Nat) (w : World) (w0 : BLst w A0 a0 c0) :
    Calls Tryz.prog 3 #[.slice A0 a0.length c0] w fun e w' => e = .returned (.bool true) ∧ Below w.heap.size w w' := by
  obtain ⟨g0, hg0⟩ : ∃ g, greatB a0 600 = g := ⟨_, rfl⟩
  have G0 := Lib.hid (great_s_at a0 A0 c0 600 w w0 (by omega) (by omega) hg0)
  have W0 := Lib.hid w0
  have HG0 := Lib.hid hg0
  clear w0 hg0
  cases g0 with
  | true =>
    go_enter Tryz.func3, Tryz.ntmps3
    go_wp2_with fail
    refine (G0.out).mono ?_
    rintro e w3 ⟨rfl, hb3⟩
    go_wp2_with fail
    go_ret
    exact ⟨rfl, hb3⟩
  | false =>
    have hN0 := great_nodes HG0.out
    have L0 := len_nodes_b hN0
    have M0 := Lib.hid (fun x (hx : x ∈ a0) => show x.tm.size ≤ 1000000 by have := nodes_mem_b hN0 x hx; have := (size_nodes.1 x.tm).1; omega)
    obtain ⟨r, hr⟩ : ∃ r, rightS a0 = r := ⟨_, rfl⟩
    have R1 := Lib.hid (fun (W : World) (h : Below w.heap.size w W) => show Calls Tryz.prog 7 #[.slice A0 a0.length c0] W fun e w' => e = .returned (.bool r) ∧ Below W.heap.size W w' from by rw [← hr]; exact right_s_at a0 A0 c0 W (W0.out.below h) (by omega))
    have R2 := Lib.hid (fun (W : World) (h : Below w.heap.size w W) => show Calls Tryz.prog 8 #[.slice A0 a0.length c0] W fun e w' => e = .returned (.bool r) ∧ Below W.heap.size W w' from by rw [← hr]; exact ref_right_s_at a0 A0 c0 W (W0.out.below h) M0.out)
    have hrr : (r == r) = true := by cases r <;> rfl
    clear hN0 HG0 hr
    go_enter Tryz.func3, Tryz.ntmps3
    go_wp2_with fail
    refine (G0.out).mono ?_
    rintro e w3 ⟨rfl, hb3⟩
    have B3 := Lib.hid hb3
    clear hb3 G0
    go_wp2_with fail
    refine (R1.out _ B3.out).mono ?_
    rintro e w4 ⟨rfl, hb4⟩
    have B4 := Lib.hid (B3.out.trans (hb4.mono B3.out.size))
    clear hb4 B3 R1
    go_wp2_with fail
    refine (R2.out _ B4.out).mono ?_
    rintro e w5 ⟨rfl, hb5⟩
    have B5 := Lib.hid (B4.out.trans (hb5.mono B4.out.size))
    clear hb5 B4 R2
    go_wp2_with fail
    refine (live_at _).mono ?_
    rintro e w6 ⟨rfl, hb6⟩
    have B6 := Lib.hid (B5.out.trans (hb6.mono B5.out.size))
    clear hb6 B5
    go_wp2_with fail
    go_ret
    exact ⟨rfl, B6.out⟩end Go.Proofs.YtgialbcohkpogaaGreat.substRight
