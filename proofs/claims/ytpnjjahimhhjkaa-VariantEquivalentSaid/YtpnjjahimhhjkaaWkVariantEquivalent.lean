/-
  The walk of VariantEquivalent.
-/
import Derived.Test.YtpnjjahimhhjkaaVlBase
namespace Go.Proofs.Ytpnjjahimhhjkaa.variantEquivalent
open Go.ChangeShapes Go.WideShapes Go.ChangeAt Go.RowKit Go.Sort
set_option linter.unusedVariables false

set_option maxHeartbeats 16000000 in
set_option maxRecDepth 100000 in
theorem walk (A0 : Option Addr) (a0 : List Tm) (c0 : Nat) (A1 : Option Addr) (a1 : List Tm) (c1 : Nat) (A2 : Option Addr) (a2 : List Tm) (c2 : Nat) (w : World) (w0 : Lst w A0 a0 c0) (w1 : Lst w A1 a1 c1) (w2 : Lst w A2 a2 c2) :
    Calls Try.prog 8 #[.slice A0 a0.length c0, .slice A1 a1.length c1, .slice A2 a2.length c2] w fun e w' => e = .returned (.bool true) ∧ Below w.heap.size w w' := by
  obtain ⟨q0, hq0⟩ : ∃ r, decide (weigh a0 200 64 < 0) = r := ⟨_, rfl⟩
  have QG0 := Lib.hid (fun W (h : Ext w W) => great_below a0 A0 c0 200 W (w0.below h) (by omega) (by omega) hq0)
  obtain ⟨q1, hq1⟩ : ∃ r, decide (weigh a1 200 64 < 0) = r := ⟨_, rfl⟩
  have QG1 := Lib.hid (fun W (h : Ext w W) => great_below a1 A1 c1 200 W (w1.below h) (by omega) (by omega) hq1)
  obtain ⟨q2, hq2⟩ : ∃ r, decide (weigh a2 200 64 < 0) = r := ⟨_, rfl⟩
  have QG2 := Lib.hid (fun W (h : Ext w W) => great_below a2 A2 c2 200 W (w2.below h) (by omega) (by omega) hq2)
  cases q0 with
  | true =>
    clear hq0 hq1 hq2 w0 w1 w2
    go_enter Try.func8, Try.ntmps8
    go_wp2_with fail
    have hF := live_at w
    (with_reducible refine hF.mono ?_)
    rintro e v1 ⟨rfl, h1⟩
    have G1 := Lib.hid (Ext.trans (Ext.refl w) h1)
    clear hF h1 
    go_wp2_with fail
    have hF := QG0.out _ G1.out
    (with_reducible refine hF.mono ?_)
    rintro e v2 ⟨rfl, h1⟩
    have G2 := Lib.hid (Ext.trans G1.out h1)
    clear hF h1 
    go_wp2_with fail
    go_ret
    exact ⟨rfl, G2.out⟩
  | false =>
  cases q1 with
  | true =>
    clear hq0 hq1 hq2 w0 w1 w2
    go_enter Try.func8, Try.ntmps8
    go_wp2_with fail
    have hF := live_at w
    (with_reducible refine hF.mono ?_)
    rintro e v1 ⟨rfl, h1⟩
    have G1 := Lib.hid (Ext.trans (Ext.refl w) h1)
    clear hF h1 
    go_wp2_with fail
    have hF := QG0.out _ G1.out
    (with_reducible refine hF.mono ?_)
    rintro e v2 ⟨rfl, h1⟩
    have G2 := Lib.hid (Ext.trans G1.out h1)
    clear hF h1 
    go_wp2_with fail
    have hF := QG1.out _ G2.out
    (with_reducible refine hF.mono ?_)
    rintro e v3 ⟨rfl, h1⟩
    have G3 := Lib.hid (Ext.trans G2.out h1)
    clear hF h1 
    go_wp2_with fail
    go_ret
    exact ⟨rfl, G3.out⟩
  | false =>
  cases q2 with
  | true =>
    clear hq0 hq1 hq2 w0 w1 w2
    go_enter Try.func8, Try.ntmps8
    go_wp2_with fail
    have hF := live_at w
    (with_reducible refine hF.mono ?_)
    rintro e v1 ⟨rfl, h1⟩
    have G1 := Lib.hid (Ext.trans (Ext.refl w) h1)
    clear hF h1 
    go_wp2_with fail
    have hF := QG0.out _ G1.out
    (with_reducible refine hF.mono ?_)
    rintro e v2 ⟨rfl, h1⟩
    have G2 := Lib.hid (Ext.trans G1.out h1)
    clear hF h1 
    go_wp2_with fail
    have hF := QG1.out _ G2.out
    (with_reducible refine hF.mono ?_)
    rintro e v3 ⟨rfl, h1⟩
    have G3 := Lib.hid (Ext.trans G2.out h1)
    clear hF h1 
    go_wp2_with fail
    have hF := QG2.out _ G3.out
    (with_reducible refine hF.mono ?_)
    rintro e v4 ⟨rfl, h1⟩
    have G4 := Lib.hid (Ext.trans G3.out h1)
    clear hF h1 
    go_wp2_with fail
    go_ret
    exact ⟨rfl, G4.out⟩
  | false =>
    have n0 : nodesL a0 ≤ 1000000 := by have := not_great hq0; omega
    have n1 : nodesL a1 ≤ 1000000 := by have := not_great hq1; omega
    have n2 : nodesL a2 ≤ 1000000 := by have := not_great hq2; omega
    obtain ⟨vx, hx⟩ : ∃ r, variantB a0 a1 = r := ⟨_, rfl⟩
    obtain ⟨vy, hy⟩ : ∃ r, variantB a1 a2 = r := ⟨_, rfl⟩
    have Q1 := Lib.hid (fun W (h : Ext w W) => variants_at a0 a1 A0 A1 c0 c1 W (w0.below h) (w1.below h) n0 n1)
    have Q2 := Lib.hid (fun W (h : Ext w W) => ref_variants_at a0 a1 A0 A1 c0 c1 W (w0.below h) (w1.below h) n0 n1)
    have Q3 := Lib.hid (fun W (h : Ext w W) => variants_at a1 a0 A1 A0 c1 c0 W (w1.below h) (w0.below h) n1 n0)
    have Q4 := Lib.hid (fun W (h : Ext w W) => variants_at a2 a2 A2 A2 c2 c2 W (w2.below h) (w2.below h) n2 n2)
    have Q5 := Lib.hid (fun W (h : Ext w W) => variants_at a1 a2 A1 A2 c1 c2 W (w1.below h) (w2.below h) n1 n2)
    have Q6 := Lib.hid (fun W (h : Ext w W) => variants_at a0 a2 A0 A2 c0 c2 W (w0.below h) (w2.below h) n0 n2)
    rw [variantB_symm a1 a0] at Q3
    rw [variantB_refl a2] at Q4
    rw [hx] at Q1 Q2 Q3
    rw [hy] at Q5
    clear hq0 hq1 hq2 w0 w1 w2 n0 n1 n2
    cases vx with
    | false =>
      clear hx hy Q5 Q6
      go_enter Try.func8, Try.ntmps8
      go_wp2_with fail
      have hF := live_at w
      (with_reducible refine hF.mono ?_)
      rintro e v1 ⟨rfl, h1⟩
      have G1 := Lib.hid (Ext.trans (Ext.refl w) h1)
      clear hF h1 
      go_wp2_with fail
      have hF := QG0.out _ G1.out
      (with_reducible refine hF.mono ?_)
      rintro e v2 ⟨rfl, h1⟩
      have G2 := Lib.hid (Ext.trans G1.out h1)
      clear hF h1 
      go_wp2_with fail
      have hF := QG1.out _ G2.out
      (with_reducible refine hF.mono ?_)
      rintro e v3 ⟨rfl, h1⟩
      have G3 := Lib.hid (Ext.trans G2.out h1)
      clear hF h1 
      go_wp2_with fail
      have hF := QG2.out _ G3.out
      (with_reducible refine hF.mono ?_)
      rintro e v4 ⟨rfl, h1⟩
      have G4 := Lib.hid (Ext.trans G3.out h1)
      clear hF h1 
      go_wp2_with fail
      have hF := Q1.out _ G4.out
      (with_reducible refine hF.mono ?_)
      rintro e v5 ⟨rfl, h1⟩
      have G5 := Lib.hid (Ext.trans G4.out h1)
      clear hF h1 
      go_wp2_with fail
      have hF := Q2.out _ G5.out
      (with_reducible refine hF.mono ?_)
      rintro e v6 ⟨rfl, h1⟩
      have G6 := Lib.hid (Ext.trans G5.out h1)
      clear hF h1 
      go_wp2_with fail
      have hF := Q3.out _ G6.out
      (with_reducible refine hF.mono ?_)
      rintro e v7 ⟨rfl, h1⟩
      have G7 := Lib.hid (Ext.trans G6.out h1)
      clear hF h1 
      go_wp2_with fail
      have hF := Q4.out _ G7.out
      (with_reducible refine hF.mono ?_)
      rintro e v8 ⟨rfl, h1⟩
      have G8 := Lib.hid (Ext.trans G7.out h1)
      clear hF h1 
      go_wp2_with fail
      go_ret
      exact ⟨rfl, G8.out⟩
    | true =>
      rw [← variantB_trans hx a2, hy] at Q6
      clear hx hy
      cases vy with
      | false =>
        go_enter Try.func8, Try.ntmps8
        go_wp2_with fail
        have hF := live_at w
        (with_reducible refine hF.mono ?_)
        rintro e v1 ⟨rfl, h1⟩
        have G1 := Lib.hid (Ext.trans (Ext.refl w) h1)
        clear hF h1 
        go_wp2_with fail
        have hF := QG0.out _ G1.out
        (with_reducible refine hF.mono ?_)
        rintro e v2 ⟨rfl, h1⟩
        have G2 := Lib.hid (Ext.trans G1.out h1)
        clear hF h1 
        go_wp2_with fail
        have hF := QG1.out _ G2.out
        (with_reducible refine hF.mono ?_)
        rintro e v3 ⟨rfl, h1⟩
        have G3 := Lib.hid (Ext.trans G2.out h1)
        clear hF h1 
        go_wp2_with fail
        have hF := QG2.out _ G3.out
        (with_reducible refine hF.mono ?_)
        rintro e v4 ⟨rfl, h1⟩
        have G4 := Lib.hid (Ext.trans G3.out h1)
        clear hF h1 
        go_wp2_with fail
        have hF := Q1.out _ G4.out
        (with_reducible refine hF.mono ?_)
        rintro e v5 ⟨rfl, h1⟩
        have G5 := Lib.hid (Ext.trans G4.out h1)
        clear hF h1 
        go_wp2_with fail
        have hF := Q2.out _ G5.out
        (with_reducible refine hF.mono ?_)
        rintro e v6 ⟨rfl, h1⟩
        have G6 := Lib.hid (Ext.trans G5.out h1)
        clear hF h1 
        go_wp2_with fail
        have hF := Q3.out _ G6.out
        (with_reducible refine hF.mono ?_)
        rintro e v7 ⟨rfl, h1⟩
        have G7 := Lib.hid (Ext.trans G6.out h1)
        clear hF h1 
        go_wp2_with fail
        have hF := Q4.out _ G7.out
        (with_reducible refine hF.mono ?_)
        rintro e v8 ⟨rfl, h1⟩
        have G8 := Lib.hid (Ext.trans G7.out h1)
        clear hF h1 
        go_wp2_with fail
        have hF := Q5.out _ G8.out
        (with_reducible refine hF.mono ?_)
        rintro e v9 ⟨rfl, h1⟩
        have G9 := Lib.hid (Ext.trans G8.out h1)
        clear hF h1 
        go_wp2_with fail
        have hF := Q6.out _ G9.out
        (with_reducible refine hF.mono ?_)
        rintro e v10 ⟨rfl, h1⟩
        have G10 := Lib.hid (Ext.trans G9.out h1)
        clear hF h1 
        go_wp2_with fail
        go_ret
        exact ⟨rfl, G10.out⟩
      | true =>
        go_enter Try.func8, Try.ntmps8
        go_wp2_with fail
        have hF := live_at w
        (with_reducible refine hF.mono ?_)
        rintro e v1 ⟨rfl, h1⟩
        have G1 := Lib.hid (Ext.trans (Ext.refl w) h1)
        clear hF h1 
        go_wp2_with fail
        have hF := QG0.out _ G1.out
        (with_reducible refine hF.mono ?_)
        rintro e v2 ⟨rfl, h1⟩
        have G2 := Lib.hid (Ext.trans G1.out h1)
        clear hF h1 
        go_wp2_with fail
        have hF := QG1.out _ G2.out
        (with_reducible refine hF.mono ?_)
        rintro e v3 ⟨rfl, h1⟩
        have G3 := Lib.hid (Ext.trans G2.out h1)
        clear hF h1 
        go_wp2_with fail
        have hF := QG2.out _ G3.out
        (with_reducible refine hF.mono ?_)
        rintro e v4 ⟨rfl, h1⟩
        have G4 := Lib.hid (Ext.trans G3.out h1)
        clear hF h1 
        go_wp2_with fail
        have hF := Q1.out _ G4.out
        (with_reducible refine hF.mono ?_)
        rintro e v5 ⟨rfl, h1⟩
        have G5 := Lib.hid (Ext.trans G4.out h1)
        clear hF h1 
        go_wp2_with fail
        have hF := Q2.out _ G5.out
        (with_reducible refine hF.mono ?_)
        rintro e v6 ⟨rfl, h1⟩
        have G6 := Lib.hid (Ext.trans G5.out h1)
        clear hF h1 
        go_wp2_with fail
        have hF := Q3.out _ G6.out
        (with_reducible refine hF.mono ?_)
        rintro e v7 ⟨rfl, h1⟩
        have G7 := Lib.hid (Ext.trans G6.out h1)
        clear hF h1 
        go_wp2_with fail
        have hF := Q4.out _ G7.out
        (with_reducible refine hF.mono ?_)
        rintro e v8 ⟨rfl, h1⟩
        have G8 := Lib.hid (Ext.trans G7.out h1)
        clear hF h1 
        go_wp2_with fail
        have hF := Q5.out _ G8.out
        (with_reducible refine hF.mono ?_)
        rintro e v9 ⟨rfl, h1⟩
        have G9 := Lib.hid (Ext.trans G8.out h1)
        clear hF h1 
        go_wp2_with fail
        have hF := Q6.out _ G9.out
        (with_reducible refine hF.mono ?_)
        rintro e v10 ⟨rfl, h1⟩
        have G10 := Lib.hid (Ext.trans G9.out h1)
        clear hF h1 
        go_wp2_with fail
        go_ret
        exact ⟨rfl, G10.out⟩
end Go.Proofs.Ytpnjjahimhhjkaa.variantEquivalent
