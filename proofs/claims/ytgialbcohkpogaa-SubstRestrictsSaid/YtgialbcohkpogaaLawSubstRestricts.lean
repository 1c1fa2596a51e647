/-
  Proves SubstRestricts: for every two lists of bindings and every list of variables Restrict keeps the bindings of the variables, in order, and the solved form, and Same compares binding by binding (for lists of more than 300 nodes, a nesting above 64 or more than 50 variables nothing is asked). No condition.
  The walk of SubstRestricts.
-/
import Derived.Test.YtgialbcohkpogaaSuLiveW
import Derived.Test.YtgialbcohkpogaaSuNodes
import Derived.Test.YtgialbcohkpogaaSuOpen
import Derived.Test.YtgialbcohkpogaaSuRestr2
import Derived.Test.YtgialbcohkpogaaRows
import Derived.ProofKit
import Derived.OpenShut
import Derived.ShutString
import Derived.ChangeOld
import Derived.Below
namespace Go.Proofs.Ytgialbcohkpogaa.substRestricts
open Go.ChangeShapes Go.WideShapes Go.ChangeAt Go.RowKit Go.Sort
set_option linter.unusedVariables false

set_option maxHeartbeats 16000000 in
set_option maxRecDepth 100000 in
theorem walk (A0 : Option Addr) (a0 : List Bd) (c0 : Nat) (A1 : Option Addr) (a1 : List Bd) (c1 : Nat) (A2 : Option Addr) (a2 : List Int) (c2 : Nat) (w : World) (w0 : BLst w A0 a0 c0) (w1 : BLst w A1 a1 c1) (w2 : Ints w A2 a2) (f2 : ∀ n ∈ a2, Fits n) (l2 : a2.length ≤ 9223372036854775807) :
    Calls Try.prog 6 #[.slice A0 a0.length c0, .slice A1 a1.length c1, .slice A2 a2.length c2] w fun e w' => e = .returned (.bool true) ∧ Below w.heap.size w w' := by
  obtain ⟨g0, hg0⟩ : ∃ g, greatB a0 300 = g := ⟨_, rfl⟩
  obtain ⟨g1, hg1⟩ : ∃ g, greatB a1 300 = g := ⟨_, rfl⟩
  have G0 := Lib.hid (fun (W : World) (h : Below w.heap.size w W) => great_s_at a0 A0 c0 300 W (w0.below h) (by omega) (by omega) hg0)
  have G1 := Lib.hid (fun (W : World) (h : Below w.heap.size w W) => great_s_at a1 A1 c1 300 W (w1.below h) (by omega) (by omega) hg1)
  have W0 := Lib.hid w0
  have W1 := Lib.hid w1
  have W2 := Lib.hid w2
  have F2 := Lib.hid f2
  have HG0 := Lib.hid hg0
  have HG1 := Lib.hid hg1
  clear w0 w1 w2 f2 hg0 hg1
  go_enter Try.func6, Try.ntmps6
  go_wp2_with fail
  refine (G0.out _ (Below.refl _ _)).mono ?_
  rintro e w4 ⟨rfl, hb4⟩
  have B4 := Lib.hid hb4
  clear hb4 G0
  cases g0 with
  | true =>
    go_wp2_with fail
    go_ret
    exact ⟨rfl, B4.out⟩
  | false =>
    go_wp2_with fail
    refine (G1.out _ B4.out).mono ?_
    rintro e w5 ⟨rfl, hb5⟩
    have B5 := Lib.hid (B4.out.trans (hb5.mono B4.out.size))
    clear hb5 B4 G1
    cases g1 with
    | true =>
      go_wp2_with fail
      go_ret
      exact ⟨rfl, B5.out⟩
    | false =>
      by_cases hv : a2.length > 50
      · have hv' : decide ((a2.length : Int) > 50) = true := decide_eq_true (by omega)
        clear hv
        go_wp2_with fail
        go_ret
        exact ⟨rfl, B5.out⟩
      · have hv' : decide ((a2.length : Int) > 50) = false := decide_eq_false (by omega)
        have hN0 := great_nodes HG0.out
        have hN1 := great_nodes HG1.out
        have L0 := len_nodes_b hN0
        have L1 := len_nodes_b hN1
        have M0 := Lib.hid (fun x (hx : x ∈ a0) => show x.tm.nodes ≤ 1000000 by have := nodes_mem_b hN0 x hx; omega)
        clear hN0 hN1 HG0 HG1
        have C1 := Lib.hid (restrict_at a0 A0 c0 a2 A2 c2 w5 (W0.out.below B5.out) (by omega) M0.out (W2.out.below B5.out) (by omega) F2.out)
        go_wp2_with fail
        refine (C1.out).mono ?_
        rintro e w6 ⟨X, q, lx, rfl, hs, hl, hb6⟩
        have B6 := Lib.hid (B5.out.trans (hb6.mono B5.out.size))
        have S1 := Lib.hid hs
        have LX := Lib.hid hl
        have hlx : lx.length ≤ 1000000 := by rw [← stripB_len, hs, stripB_len]; have := restr_len a0 a2; omega
        clear hb6 hs hl B5 C1
        have C2 := Lib.hid (ref_restrict_at a0 A0 c0 a2 A2 c2 w6 (W0.out.below B6.out) (by omega) (W2.out.below B6.out) (by omega))
        go_wp2_with fail
        refine (C2.out).mono ?_
        rintro e w7 ⟨Y, q2, rfl, hl2, hb7⟩
        have B7 := Lib.hid (B6.out.trans (hb7.mono B6.out.size))
        have LX7 := Lib.hid (LX.out.below hb7)
        have QS := Lib.hid (show Calls Try.prog 17 #[.slice X lx.length q, .slice Y (restr a0 a2).length q2] w7 fun e w' => e = .returned (.bool true) ∧ Below w7.heap.size w7 w' from by rw [← sameB_strip S1.out]; exact ref_same_s_at lx (restr a0 a2) X Y q q2 w7 LX7.out hl2)
        clear hb7 hl2 B6 C2 LX
        go_wp2_with fail
        refine (QS.out).mono ?_
        rintro e w8 ⟨rfl, hb8⟩
        have B8 := Lib.hid (B7.out.trans (hb8.mono B7.out.size))
        have LX8 := Lib.hid (LX7.out.below hb8)
        clear hb8 QS B7 LX7
        obtain ⟨r, hr⟩ : ∃ r, rightS a0 = r := ⟨_, rfl⟩
        have R1 := Lib.hid (show Calls Try.prog 11 #[.slice A0 a0.length c0] w8 fun e w' => e = .returned (.bool r) ∧ Below w8.heap.size w8 w' from by rw [← hr]; exact right_s_at a0 A0 c0 w8 (W0.out.below B8.out) (by omega))
        have HRx := Lib.hid (fun (h : r = true) => show rightS lx = true by rw [rightS_like S1.out]; exact restr_right a2 (hr.trans h))
        have TAIL := Lib.hid (fun (W : World) (h : Below w8.heap.size w8 W) => And.intro (same_s_at a0 a1 A0 A1 c0 c1 W (W0.out.below (B8.out.trans (h.mono B8.out.size))) (W1.out.below (B8.out.trans (h.mono B8.out.size)))) (And.intro (ref_same_s_at a0 a1 A0 A1 c0 c1 W (W0.out.below (B8.out.trans (h.mono B8.out.size))) (W1.out.below (B8.out.trans (h.mono B8.out.size))))
          (show Calls Try.prog 15 #[.slice X lx.length q, .slice X lx.length q] W fun e w' => e = .returned (.bool true) ∧ Below W.heap.size W w' from by rw [← sameB_refl lx]; exact same_s_at lx lx X X q q W (LX8.out.below h) (LX8.out.below h))))
        generalize sameB a0 a1 = s at *
        clear hr
        cases r with
        | false =>
          go_wp2_with fail
          refine (R1.out).mono ?_
          rintro e w9 ⟨rfl, hb9⟩
          have D9 := Lib.hid hb9
          clear hb9 R1 HRx
          go_wp2_with fail
          refine ((TAIL.out _ D9.out).1).mono ?_
          rintro e w10 ⟨rfl, hb10⟩
          have D10 := Lib.hid (D9.out.trans (hb10.mono D9.out.size))
          clear hb10
          go_wp2_with fail
          refine ((TAIL.out _ D10.out).2.1).mono ?_
          rintro e w11 ⟨rfl, hb11⟩
          have D11 := Lib.hid (D10.out.trans (hb11.mono D10.out.size))
          clear hb11
          have hss : (s == s) = true := by simp
          go_wp2_with fail
          refine ((TAIL.out _ D11.out).2.2).mono ?_
          rintro e w12 ⟨rfl, hb12⟩
          have D12 := Lib.hid (D11.out.trans (hb12.mono D11.out.size))
          clear hb12
          go_wp2_with fail
          refine (live_at _).mono ?_
          rintro e w13 ⟨rfl, hb13⟩
          have D13 := Lib.hid (B8.out.trans ((D12.out.trans (hb13.mono D12.out.size)).mono B8.out.size))
          clear hb13
          go_wp2_with fail
          go_ret
          exact ⟨rfl, D13.out⟩
        | true =>
          have R2 := Lib.hid (fun (W : World) (h : Below w8.heap.size w8 W) => show Calls Try.prog 11 #[.slice X lx.length q] W fun e w' => e = .returned (.bool true) ∧ Below W.heap.size W w' from by rw [← HRx.out rfl]; exact right_s_at lx X q W (LX8.out.below h) hlx)
          go_wp2_with fail
          refine (R1.out).mono ?_
          rintro e w9' ⟨rfl, hb9⟩
          have D9' := Lib.hid hb9
          clear hb9 R1 HRx
          go_wp2_with fail
          refine (R2.out _ D9'.out).mono ?_
          rintro e w9 ⟨rfl, hb9⟩
          have D9 := Lib.hid (D9'.out.trans (hb9.mono D9'.out.size))
          clear hb9 R2
          go_wp2_with fail
          refine ((TAIL.out _ D9.out).1).mono ?_
          rintro e w10 ⟨rfl, hb10⟩
          have D10 := Lib.hid (D9.out.trans (hb10.mono D9.out.size))
          clear hb10
          go_wp2_with fail
          refine ((TAIL.out _ D10.out).2.1).mono ?_
          rintro e w11 ⟨rfl, hb11⟩
          have D11 := Lib.hid (D10.out.trans (hb11.mono D10.out.size))
          clear hb11
          have hss : (s == s) = true := by simp
          go_wp2_with fail
          refine ((TAIL.out _ D11.out).2.2).mono ?_
          rintro e w12 ⟨rfl, hb12⟩
          have D12 := Lib.hid (D11.out.trans (hb12.mono D11.out.size))
          clear hb12
          go_wp2_with fail
          refine (live_at _).mono ?_
          rintro e w13 ⟨rfl, hb13⟩
          have D13 := Lib.hid (B8.out.trans ((D12.out.trans (hb13.mono D12.out.size)).mono B8.out.size))
          clear hb13
          go_wp2_with fail
          go_ret
          exact ⟨rfl, D13.out⟩
end Go.Proofs.Ytgialbcohkpogaa.substRestricts
namespace Go.Proofs.Ytgialbcohkpogaa.substRestricts
open Go.ChangeShapes Go.WideShapes Go.ChangeAt Go.RowKit Go.Sort
open Go.ChangeMaps (open_string shut_string)
set_option linter.unusedVariables false

theorem own : ownKnob Try.prog.godebug = none := by kernel_rfl
theorem laidOut : laidOutB Try.prog = true := by kernel_rfl

set_option maxRecDepth 100000 in
theorem lifted (os : Os) (started : os.Started) (H : Type) (enc : TypeId × Value → H) :
    ReturnsInHanded {} Try.checked os 6 .any (Rows.substRestrictsSpec.pre6 enc Try.prog Try.f6 Rows.substRestrictsRow.domain false) (Rows.substRestrictsSpec.post enc Try.prog Try.f6 false true false false) := by
  refine returnsInHanded_of_change (C := Try.checked) own started (by kernel_rfl) Try.func6
    (ChangeSpec.witness6 (enc := enc) (C := Try.checked) false ⟨#[], #[.slice none 0 0, .slice none 0 0, .slice none 0 0], []⟩ 8 (by kernel_rfl) (by kernel_rfl) (by kernel_rfl) (by kernel_rfl)) ?_
  intro W base args ds gs before hval0 hW hcnd _
  have hval : ∀ (j : Nat) t v, Try.f6.params[j]? = some t → args[j]? = some v → Value.okWide Try.prog W .any base t v := hval0
  have hW' := hW
  obtain ⟨p, q, hA0, hV, rfl, hfz, hnd⟩ := hW
  have hA : DataW.TrodAll enc Try.prog W 0 (fun _ => true) true Try.f6.params.toList args.toList ds p := hA0
  rw [Try.params6] at hA hval
  obtain ⟨v0, vs0, d0, ds0, p0, q0, hargs, rfl, rfl, h0, r0⟩ := trodAll_cons hA
  obtain ⟨v1, vs1, d1, ds1, p1, q1, rfl, rfl, rfl, h1, r1⟩ := trodAll_cons r0
  obtain ⟨v2, vs2, d2, ds2, p2, q2, rfl, rfl, rfl, h2, r2⟩ := trodAll_cons r1
  obtain ⟨rfl, rfl, rfl⟩ := trodAll_nil r2
  obtain rfl : args = #[v0, v1, v2] := by cases args; simp_all
  obtain ⟨rfl, rfl⟩ := trodVars_none hV
  have lt0 : ∀ x ∈ p0, x.block < W.heap.size := by obtain ⟨m, hm⟩ := h0; exact DataW.trod_lt m _ _ _ hm
  obtain ⟨A0, a0, c0, rfl, w0⟩ := open_bds (hval 0 23 v0 rfl rfl) h0
  have lt1 : ∀ x ∈ p1, x.block < W.heap.size := by obtain ⟨m, hm⟩ := h1; exact DataW.trod_lt m _ _ _ hm
  obtain ⟨A1, a1, c1, rfl, w1⟩ := open_bds (hval 1 23 v1 rfl rfl) h1
  have lt2 : ∀ x ∈ p2, x.block < W.heap.size := by obtain ⟨m, hm⟩ := h2; exact DataW.trod_lt m _ _ _ hm
  obtain ⟨A2, a2, c2, rfl, w2, f2, l2⟩ := open_nums (hval 2 43 v2 rfl rfl) h2
  clear hA0 hval0
  refine (walk A0 a0 c0 A1 a1 c1 A2 a2 c2 W w0 w1 w2 f2 l2).mono fun e W' ⟨he, bel⟩ => ?_
  subst he
  exact ⟨_, rfl, _, _, _, [], _, [], hW', trodAll_mk1 (shut_bool Try.underlying4 _), (trodAll_cons_mk (Below.trod laidOut (by kernel_rfl) (of_decide_eq_true (by kernel_rfl)) h0 bel lt0) (trodAll_cons_mk (Below.trod laidOut (by kernel_rfl) (of_decide_eq_true (by kernel_rfl)) h1 bel lt1) (trodAll_cons_mk (Below.trod laidOut (by kernel_rfl) (of_decide_eq_true (by kernel_rfl)) h2 bel lt2) trodAll_mk0))), rfl, bel.frame _, fun h => by cases h⟩

theorem over : Rows.substRestrictsRow.holds Try.pinned (OpenSpec.ofChange Rows.substRestrictsSpec) :=
  OpenClaim.holds_of_wide 6 Try.f6 rfl rfl rfl rfl rfl rfl rfl ⟨rfl, rfl, rfl, rfl, rfl⟩ rfl rfl rfl rfl rfl (by kernel_rfl) Try.func6 (by kernel_rfl)
    (of_decide_eq_true (by kernel_rfl)) (by unfold Func.isWrapper; first | (rw [if_pos (by decide +kernel)]; kernel_rfl) | (rw [if_neg (by decide +kernel)]; exact ⟨rfl, rfl⟩))
    (fun os started H enc _ => lifted os started H enc)

/-- THE STATEMENT. -/
theorem proved : Rows.SubstRestrictsSaid := over
#print axioms proved
end Go.Proofs.Ytgialbcohkpogaa.substRestricts
