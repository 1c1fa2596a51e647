/-
  The walk of SubstComposes.
-/
import Derived.Test.YtgialbcohkpogaaGreatSuLv
import Derived.Test.YtgialbcohkpogaaGreatSuNodes
import Derived.Test.YtgialbcohkpogaaGreatSuOpen
import Derived.Test.YtgialbcohkpogaaGreatSuRefC
import Derived.Test.YtgialbcohkpogaaGreatSuGreat
namespace Go.Proofs.YtgialbcohkpogaaGreat.substComposes
open Go.ChangeShapes Go.WideShapes Go.ChangeAt Go.RowKit Go.Sort
set_option linter.unusedVariables false

set_option maxHeartbeats 16000000 in
set_option maxRecDepth 100000 in
theorem walk (A0 : Option Addr) (a0 : List Bd) (c0 : Nat) (A1 : Option Addr) (a1 : List Bd) (c1 : Nat) (w : World) (w0 : BLst w A0 a0 c0) (w1 : BLst w A1 a1 c1) :
    Calls Tryz.prog 5 #[.slice A0 a0.length c0, .slice A1 a1.length c1] w fun e w' => e = .returned (.bool true) ∧ Below w.heap.size w w' := by
  obtain ⟨g0, hg0⟩ : ∃ g, greatB a0 300 = g := ⟨_, rfl⟩
  obtain ⟨g1, hg1⟩ : ∃ g, greatB a1 300 = g := ⟨_, rfl⟩
  have G0 := Lib.hid (great_s_at a0 A0 c0 300 w w0 (by omega) (by omega) hg0)
  have G1 := Lib.hid (fun (W : World) (h : Below w.heap.size w W) => great_s_at a1 A1 c1 300 W (w1.below h) (by omega) (by omega) hg1)
  have W0 := Lib.hid w0
  have W1 := Lib.hid w1
  have HG0 := Lib.hid hg0
  have HG1 := Lib.hid hg1
  clear w0 w1 hg0 hg1
  go_enter Tryz.func5, Tryz.ntmps5
  go_wp2_with fail
  refine (G0.out).mono ?_
  rintro e w3 ⟨rfl, hb3⟩
  have B3 := Lib.hid hb3
  clear hb3 G0
  cases g0 with
  | true =>
    go_wp2_with fail
    go_ret
    exact ⟨rfl, B3.out⟩
  | false =>
    go_wp2_with fail
    refine (G1.out _ B3.out).mono ?_
    rintro e w4 ⟨rfl, hb4⟩
    have B4 := Lib.hid (B3.out.trans (hb4.mono B3.out.size))
    clear hb4 B3 G1
    cases g1 with
    | true =>
      go_wp2_with fail
      go_ret
      exact ⟨rfl, B4.out⟩
    | false =>
      have hN0 := great_nodes HG0.out
      have hN1 := great_nodes HG1.out
      have L0 := len_nodes_b hN0
      have L1 := len_nodes_b hN1
      have M0 := Lib.hid (fun x (hx : x ∈ a0) => show x.tm.nodes ≤ 1000000 by have := nodes_mem_b hN0 x hx; omega)
      have M1 := Lib.hid (fun x (hx : x ∈ a1) => show x.tm.nodes ≤ 1000000 by have := nodes_mem_b hN1 x hx; omega)
      have C1 := Lib.hid (fun (W : World) (h : Below w.heap.size w W) => compose_at a0 a1 A0 A1 c0 c1 W (W0.out.below h) (W1.out.below h) (by omega) M0.out M1.out)
      have C2 := Lib.hid (fun (W : World) (h : Below w.heap.size w W) => ref_compose_at a0 a1 A0 A1 c0 c1 W (W0.out.below h) (W1.out.below h) (by omega) M0.out M1.out)
      clear hN0 hN1 HG0 HG1 L0 L1
      go_wp2_with fail
      refine (C1.out _ B4.out).mono ?_
      rintro e w5 ⟨X, q1, lx, rfl, hs1, hl1, hb5⟩
      have B5 := Lib.hid (B4.out.trans (hb5.mono B4.out.size))
      have S1 := Lib.hid hs1
      have LX := Lib.hid hl1
      clear hs1 hl1 hb5 C1 B4
      go_wp2_with fail
      refine (C2.out _ B5.out).mono ?_
      rintro e w6 ⟨Y, q2, ly, rfl, hs2, hl2, hb6⟩
      have B6 := Lib.hid (B5.out.trans (hb6.mono B5.out.size))
      have QS := Lib.hid (show Calls Tryz.prog 26 #[.slice X lx.length q1, .slice Y ly.length q2] w6 fun e w' => e = .returned (.bool true) ∧ Below w6.heap.size w6 w' from by
        have := ref_same_s_at lx ly X Y q1 q2 w6 (LX.out.below hb6) hl2
        rwa [sameB_strip (S1.out.trans hs2.symm)] at this)
      generalize (comp a0 a1).2 = code at *
      have hcc : (code == code) = true := by simp
      clear hs2 hl2 hb6 C2 B5 LX S1
      go_wp2_with fail
      refine (QS.out).mono ?_
      rintro e w7 ⟨rfl, hb7⟩
      have B7 := Lib.hid (B6.out.trans (hb7.mono B6.out.size))
      clear hb7 B6 QS
      go_wp2_with fail
      refine (live_at _).mono ?_
      rintro e w8 ⟨rfl, hb8⟩
      have B8 := Lib.hid (B7.out.trans (hb8.mono B7.out.size))
      clear hb8 B7
      go_wp2_with fail
      go_ret
      exact ⟨rfl, B8.out⟩end Go.Proofs.YtgialbcohkpogaaGreat.substComposes
