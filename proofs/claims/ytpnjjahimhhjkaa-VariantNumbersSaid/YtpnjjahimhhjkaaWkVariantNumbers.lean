/-
  The walk of VariantNumbers.
-/
import Derived.Test.YtpnjjahimhhjkaaVlBase
namespace Go.Proofs.Ytpnjjahimhhjkaa.variantNumbers
open Go.ChangeShapes Go.WideShapes Go.ChangeAt Go.RowKit Go.Sort
set_option linter.unusedVariables false

set_option maxHeartbeats 16000000 in
set_option maxRecDepth 100000 in
theorem walk (A0 : Option Addr) (a0 : List Tm) (c0 : Nat) (w : World) (w0 : Lst w A0 a0 c0) :
    Calls Try.prog 5 #[.slice A0 a0.length c0] w fun e w' => e = .returned (.bool true) ∧ Below w.heap.size w w' := by
  obtain ⟨q, hq⟩ : ∃ r, decide (weigh a0 400 64 < 0) = r := ⟨_, rfl⟩
  have QG := Lib.hid (great_below a0 A0 c0 400 w w0 (by omega) (by omega) hq)
  cases q with
  | true =>
    clear hq w0
    go_enter Try.func5, Try.ntmps5
    go_wp2_with fail
    have hF := QG.out
    (with_reducible refine hF.mono ?_)
    rintro e v1 ⟨rfl, h1⟩
    have G1 := Lib.hid (Ext.trans (Ext.refl w) h1)
    clear hF h1 
    go_wp2_with fail
    go_ret
    exact ⟨rfl, G1.out⟩
  | false =>
    have hn : nodesL a0 ≤ 1000000 := by have := not_great hq; omega
    have Q1 := Lib.hid (fun W (h : Ext w W) => number_at a0 A0 c0 W (w0.below h) hn)
    have Q2 := Lib.hid (fun W (h : Ext w W) => ref_number_at a0 A0 c0 W (w0.below h) hn)
    have Q3 := Lib.hid (fun W (h : Ext w W) => top_at a0 A0 c0 W (w0.below h) hn)
    have Q4 := Lib.hid (fun W (h : Ext w W) => ref_top_at a0 A0 c0 W (w0.below h) hn)
    have HC := Lib.hid (fun (x y : List Tm) (hx : stripL x = stripL (renL a0 (plc (varsL a0)))) (hy : stripL y = stripL (rrL a0 (place (varsL a0)))) => same_lists ((canon_plc hx).trans (canon_place hy).symm))
    have hvl : (varsL a0).length ≤ 9223372036854775807 := by have := varsL_len a0; omega
    generalize renL a0 (plc (varsL a0)) = ra at *
    generalize rrL a0 (place (varsL a0)) = rb at *
    generalize varsL a0 = vs at *
    generalize topL (occL a0) = tp at *
    clear hq w0 hn
    go_enter Try.func5, Try.ntmps5
    go_wp2_with fail
    have hF := QG.out
    (with_reducible refine hF.mono ?_)
    rintro e v1 ⟨rfl, h1⟩
    have G1 := Lib.hid (Ext.trans (Ext.refl w) h1)
    clear hF h1 
    go_wp2_with fail
    have hF := Q1.out _ G1.out
    (with_reducible refine hF.mono ?_)
    rintro e v2 ⟨A2, c2, B2, d2, x, rfl, x1, x2, x3, x4, h1⟩
    have G2 := Lib.hid (Ext.trans G1.out h1)
    have X := Lib.hid (And.intro x1 x2)
    have XL := Lib.hid x3
    have XI := Lib.hid x4
    clear hF h1 x1 x2 x3 x4
    go_wp2_with fail
    have hF := Q2.out _ G2.out
    (with_reducible refine hF.mono ?_)
    rintro e v3 ⟨A3, c3, B3, d3, y, rfl, y1, y2, y3, y4, h1⟩
    have G3 := Lib.hid (Ext.trans G2.out h1)
    have YI := Lib.hid y4
    have XI2 := Lib.hid (XI.out.below h1)
    have qe := same_terms_at x y A2 A3 c2 c3 v3 (XL.out.below h1) y3 (HC.out x y X.out.2 y2)
    rw [X.out.1, y1] at qe
    have QE := Lib.hid qe
    clear hF h1 y1 y2 y3 y4 qe
    go_wp2_with fail
    have hF := QE.out
    (with_reducible refine hF.mono ?_)
    rintro e v4 ⟨rfl, h1⟩
    have G4 := Lib.hid (Ext.trans G3.out h1)
    have H4 := Lib.hid h1
    clear hF h1 
    go_wp2_with fail
    have hF := same_ints_at B2 B3 vs vs d2 d3 v4 (XI2.out.below H4.out) (YI.out.below H4.out) hvl hvl (r := true) (by simp)
    (with_reducible refine hF.mono ?_)
    rintro e v5 ⟨rfl, h1⟩
    have G5 := Lib.hid (Ext.trans G4.out h1)
    clear hF h1 
    go_wp2_with fail
    have hF := Q3.out _ G5.out
    (with_reducible refine hF.mono ?_)
    rintro e v6 ⟨rfl, h1⟩
    have G6 := Lib.hid (Ext.trans G5.out h1)
    clear hF h1 
    go_wp2_with fail
    have hF := Q4.out _ G6.out
    (with_reducible refine hF.mono ?_)
    rintro e v7 ⟨rfl, h1⟩
    have G7 := Lib.hid (Ext.trans G6.out h1)
    clear hF h1 
    go_wp2_with fail
    have hF := live_at v7
    (with_reducible refine hF.mono ?_)
    rintro e v8 ⟨rfl, h1⟩
    have G8 := Lib.hid (Ext.trans G7.out h1)
    clear hF h1 
    go_wp2_with fail
    go_ret
    exact ⟨rfl, G8.out⟩
end Go.Proofs.Ytpnjjahimhhjkaa.variantNumbers
