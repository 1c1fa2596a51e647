/-
  The walk of SubstAssociates.
-/
import Derived.Test.YtgialbcohkpogaaSuLiveW
import Derived.Test.YtgialbcohkpogaaSuNodes
import Derived.Test.YtgialbcohkpogaaSuOpen
namespace Go.Proofs.Ytgialbcohkpogaa.substAssociates
open Go.ChangeShapes Go.WideShapes Go.ChangeAt Go.RowKit Go.Sort
set_option linter.unusedVariables false

set_option maxHeartbeats 16000000 in
set_option maxRecDepth 100000 in
theorem walk (A0 : Option Addr) (a0 : List Bd) (c0 : Nat) (A1 : Option Addr) (a1 : List Bd) (c1 : Nat) (A2 : Option Addr) (a2 : List Bd) (c2 : Nat) (w : World) (w0 : BLst w A0 a0 c0) (w1 : BLst w A1 a1 c1) (w2 : BLst w A2 a2 c2) :
    Calls Try.prog 5 #[.slice A0 a0.length c0, .slice A1 a1.length c1, .slice A2 a2.length c2] w fun e w' => e = .returned (.bool true) ∧ Below w.heap.size w w' := by
  obtain ⟨g0, hg0⟩ : ∃ g, greatB a0 200 = g := ⟨_, rfl⟩
  obtain ⟨g1, hg1⟩ : ∃ g, greatB a1 200 = g := ⟨_, rfl⟩
  obtain ⟨g2, hg2⟩ : ∃ g, greatB a2 200 = g := ⟨_, rfl⟩
  have G0 := Lib.hid (fun (W : World) (h : Below w.heap.size w W) => great_s_at a0 A0 c0 200 W (w0.below h) (by omega) (by omega) hg0)
  have G1 := Lib.hid (fun (W : World) (h : Below w.heap.size w W) => great_s_at a1 A1 c1 200 W (w1.below h) (by omega) (by omega) hg1)
  have G2 := Lib.hid (fun (W : World) (h : Below w.heap.size w W) => great_s_at a2 A2 c2 200 W (w2.below h) (by omega) (by omega) hg2)
  have W0 := Lib.hid w0
  have W1 := Lib.hid w1
  have W2 := Lib.hid w2
  have HG0 := Lib.hid hg0
  have HG1 := Lib.hid hg1
  have HG2 := Lib.hid hg2
  clear w0 w1 w2 hg0 hg1 hg2
  go_enter Try.func5, Try.ntmps5
  go_wp2_with fail
  refine (live_at _).mono ?_
  rintro e w3 ⟨rfl, hb3⟩
  have B3 := Lib.hid hb3
  clear hb3
  go_wp2_with fail
  refine (G0.out _ B3.out).mono ?_
  rintro e w4 ⟨rfl, hb4⟩
  have B4 := Lib.hid (B3.out.trans (hb4.mono B3.out.size))
  clear hb4 B3 G0
  cases g0 with
  | true =>
    go_wp2_with fail
    go_ret
    exact ⟨rfl, B4.out⟩
  | false =>
    go_wp2_with fail
    refine (G1.out _ B4.out).mono ?_
    rintro e w5 ⟨rfl, hb5⟩
    have B5 := Lib.hid (B4.out.trans (hb5.mono B4.out.size))
    clear hb5 B4 G1
    cases g1 with
    | true =>
      go_wp2_with fail
      go_ret
      exact ⟨rfl, B5.out⟩
    | false =>
      go_wp2_with fail
      refine (G2.out _ B5.out).mono ?_
      rintro e w6 ⟨rfl, hb6⟩
      have B6 := Lib.hid (B5.out.trans (hb6.mono B5.out.size))
      clear hb6 B5 G2
      cases g2 with
      | true =>
        go_wp2_with fail
        go_ret
        exact ⟨rfl, B6.out⟩
      | false =>
        have hN0 := great_nodes HG0.out
        have hN1 := great_nodes HG1.out
        have hN2 := great_nodes HG2.out
        have L0 := len_nodes_b hN0
        have L1 := len_nodes_b hN1
        have L2 := len_nodes_b hN2
        have M0 := Lib.hid (fun x (hx : x ∈ a0) => show x.tm.nodes ≤ 1000000 by have := nodes_mem_b hN0 x hx; omega)
        have M1 := Lib.hid (fun x (hx : x ∈ a1) => show x.tm.nodes ≤ 1000000 by have := nodes_mem_b hN1 x hx; omega)
        have M2 := Lib.hid (fun x (hx : x ∈ a2) => show x.tm.nodes ≤ 1000000 by have := nodes_mem_b hN2 x hx; omega)
        clear hN0 hN1 hN2 HG0 HG1 HG2
        have C1 := Lib.hid (compose_at a0 a1 A0 A1 c0 c1 w6 (W0.out.below B6.out) (W1.out.below B6.out) (by omega) M0.out M1.out)
        go_wp2_with fail
        refine (C1.out).mono ?_
        rintro e w7 ⟨X, q1, lx, rfl, hs1, hl1, hb7⟩
        have B7 := Lib.hid (B6.out.trans (hb7.mono B6.out.size))
        have S1 := Lib.hid hs1
        have LX := Lib.hid hl1
        have hcode1 := comp_code a0 a1
        obtain ⟨k1, hk1⟩ : ∃ k, (comp a0 a1).2 = k := ⟨_, rfl⟩
        rw [hk1] at hcode1 ⊢
        have K1 := Lib.hid hk1
        clear hb7 hs1 hl1 hk1 B6 C1
        have C2 := Lib.hid (compose_at a1 a2 A1 A2 c1 c2 w7 (W1.out.below B7.out) (W2.out.below B7.out) (by omega) M1.out M2.out)
        go_wp2_with fail
        refine (C2.out).mono ?_
        rintro e w8 ⟨Y, q2, ly, rfl, hs2, hl2, hb8⟩
        have B8 := Lib.hid (B7.out.trans (hb8.mono B7.out.size))
        have S2 := Lib.hid hs2
        have LY := Lib.hid hl2
        have LX2 := Lib.hid (LX.out.below hb8)
        have hcode2 := comp_code a1 a2
        obtain ⟨k2, hk2⟩ : ∃ k, (comp a1 a2).2 = k := ⟨_, rfl⟩
        rw [hk2] at hcode2 ⊢
        have K2 := Lib.hid hk2
        clear hb8 hs2 hl2 hk2 B7 C2 LX
        by_cases z1 : k1 = 0
        · by_cases z2 : k2 = 0
          · subst z1
            subst z2
            have O1 := Lib.hid (show comp a0 a1 = ((comp a0 a1).1, 0) by rw [← K1.out])
            have O2 := Lib.hid (show comp a1 a2 = ((comp a1 a2).1, 0) by rw [← K2.out])
            have hrx : rightS lx = true := by rw [rightS_like S1.out]; exact (comp_ok O1.out).2.2.2
            have hry : rightS ly = true := by rw [rightS_like S2.out]; exact (comp_ok O2.out).2.2.2
            have hlx : lx.length ≤ 400 := by
              have h1 := comp_length O1.out
              have h2 : lx.length = (comp a0 a1).1.length := by rw [← stripB_len lx, S1.out, stripB_len]
              omega
            have hly : ly.length ≤ 400 := by
              have h1 := comp_length O2.out
              have h2 : ly.length = (comp a1 a2).1.length := by rw [← stripB_len ly, S2.out, stripB_len]
              omega
            have C3 := Lib.hid (compose_at lx a2 X A2 q1 c2 w8 LX2.out (W2.out.below B8.out) (by omega) (right_good hrx (by omega)).nodes M2.out)
            have CL3 := comp_like (c := a2) (c' := a2) S1.out rfl
            have CL4 := comp_like (a := a0) (a' := a0) rfl S2.out
            have HC3 := Lib.hid CL3
            have HC4 := Lib.hid CL4
            have NY := Lib.hid (right_good hry (by omega)).nodes
            clear hrx hry hcode1 hcode2 K1 K2 CL3 CL4
            go_wp2_with fail
            refine (C3.out).mono ?_
            rintro e w9 ⟨U, q3, lu, rfl, hs3, hl3, hb9⟩
            have B9 := Lib.hid (B8.out.trans (hb9.mono B8.out.size))
            have S3 := Lib.hid (hs3.trans HC3.out.2)
            have LU := Lib.hid hl3
            have LY2 := Lib.hid (LY.out.below hb9)
            have hcode3 := comp_code lx a2
            obtain ⟨k3, hk3⟩ : ∃ k, (comp lx a2).2 = k := ⟨_, rfl⟩
            rw [hk3] at hcode3 ⊢
            have K3 := Lib.hid (HC3.out.1.symm.trans hk3)
            clear hb9 hs3 hl3 hk3 B8 C3 LY HC3
            have C4 := Lib.hid (compose_at a0 ly A0 Y c0 q2 w9 (W0.out.below B9.out) LY2.out (by omega) M0.out NY.out)
            go_wp2_with fail
            refine (C4.out).mono ?_
            rintro e w10 ⟨V, q4, lv, rfl, hs4, hl4, hb10⟩
            have B10 := Lib.hid (B9.out.trans (hb10.mono B9.out.size))
            have S4 := Lib.hid (hs4.trans HC4.out.2)
            have LV := Lib.hid hl4
            have LU2 := Lib.hid (LU.out.below hb10)
            have hcode4 := comp_code a0 ly
            obtain ⟨k4, hk4⟩ : ∃ k, (comp a0 ly).2 = k := ⟨_, rfl⟩
            rw [hk4] at hcode4 ⊢
            have K4 := Lib.hid (HC4.out.1.symm.trans hk4)
            clear hb10 hs4 hl4 hk4 B9 C4 LU HC4
            by_cases z3 : k3 = 0
            · by_cases z4 : k4 = 0
              · subst z3
                subst z4
                have QS := Lib.hid (show Calls Try.prog 15 #[.slice U lu.length q3, .slice V lv.length q4] w10 fun e w' => e = .returned (.bool true) ∧ Below w10.heap.size w10 w' from by
                  have h := comp_assoc O1.out O2.out (show comp (comp a0 a1).1 a2 = ((comp (comp a0 a1).1 a2).1, 0) by rw [← K3.out]) (show comp a0 (comp a1 a2).1 = ((comp a0 (comp a1 a2).1).1, 0) by rw [← K4.out])
                  rw [← h, ← sameB_like S3.out S4.out]
                  exact same_s_at lu lv U V q3 q4 w10 LU2.out LV.out)
                clear hcode3 hcode4 K3 K4
                go_wp2_with fail
                refine (QS.out).mono ?_
                rintro e w11 ⟨rfl, hb11⟩
                go_wp2_with fail
                go_ret
                exact ⟨rfl, B10.out.trans (hb11.mono B10.out.size)⟩
              · subst z3
                have hne : (k4 != 0) = true := by simpa using z4
                clear z4 hcode3 hcode4
                go_wp2_with fail
                go_ret
                exact ⟨rfl, B10.out⟩
            · have hne : (k3 != 0) = true := by simpa using z3
              clear z3 hcode3 hcode4
              go_wp2_with fail
              go_ret
              exact ⟨rfl, B10.out⟩
          · subst z1
            have hne : (k2 != 0) = true := by simpa using z2
            clear z2 hcode1 hcode2
            go_wp2_with fail
            go_ret
            exact ⟨rfl, B8.out⟩
        · have hne : (k1 != 0) = true := by simpa using z1
          clear z1 hcode1 hcode2
          go_wp2_with fail
          go_ret
          exact ⟨rfl, B8.out⟩
end Go.Proofs.Ytgialbcohkpogaa.substAssociates
