/-
  The walk of VariantRules.
-/
import Derived.Test.YtpnjjahimhhjkaaVlBase
import Derived.Test.YtpnjjahimhhjkaaVrRule
import Derived.Deep.Cut
namespace Go.Proofs.Ytpnjjahimhhjkaa.variantRules
open Go.ChangeShapes Go.WideShapes Go.ChangeAt Go.RowKit Go.Sort
set_option linter.unusedVariables false

set_option maxHeartbeats 16000000 in
set_option maxRecDepth 100000 in
theorem walk (a0 : Rl) (a1 : Int) (w : World) (w0 : a0.At w) (w1 : (Lit.int .i64 a1).wf = true) :
    Calls Try.prog 4 #[a0.val, .int .i64 a1] w fun e w' => e = .returned (.bool true) ∧ Below w.heap.size w w' := by
  have hk := int_fits w1
  obtain ⟨q, hq⟩ : ∃ r, greatR a0 = r := ⟨_, rfl⟩
  obtain ⟨X, hX⟩ : ∃ X, w.alloc (.cells #[.string a0.name, .slice a0.kA a0.keep.length a0.kc, .slice a0.rA a0.remove.length a0.rc, .slice a0.gA a0.guard.length a0.gc, .slice a0.bA a0.body.length a0.bc, .int .i64 a0.vars] 33) = X := ⟨_, rfl⟩
  have GX := Lib.hid (show Ext (w.alloc (.cells #[.string a0.name, .slice a0.kA a0.keep.length a0.kc, .slice a0.rA a0.remove.length a0.rc, .slice a0.gA a0.guard.length a0.gc, .slice a0.bA a0.body.length a0.bc, .int .i64 a0.vars] 33)) X from by rw [← hX]; exact Ext.refl _)
  have BX := Lib.hid (fun W (h : Ext X W) => show Below w.heap.size w W from Ext.trans (Ext.al _ _) (GX.out.trans h))
  have HT := Lib.hid (show a0.At X from by rw [← hX]; exact w0.below (Ext.al _ _))
  have QG := Lib.hid (great_rules_at a0 X HT.out hq)
  have z0 := ext_row GX.out 0 rfl
  have z1 := ext_row GX.out 1 rfl
  have z2 := ext_row GX.out 2 rfl
  have z3 := ext_row GX.out 3 rfl
  have z4 := ext_row GX.out 4 rfl
  have z5 := ext_row GX.out 5 rfl
  cases q with
  | true =>
    clear hq w0 w1
    go_enter Try.func4, Try.ntmps4
    go_wp2_with fail
    (try rw [hX])
    clear hX
    (with_reducible refine QG.out.mono ?_)
    rintro e v1 ⟨rfl, h1⟩
    have G1 := Lib.hid (show Ext X v1 from h1)
    clear h1
    go_wp2_with fail
    go_ret
    exact ⟨rfl, BX.out _ G1.out⟩
  | false =>
    have hs := small_rule hq
    have Q1 := Lib.hid (fun W (h : Ext X W) => shift_rule_at a0 a1 hk W (HT.out.below h) hs)
    have Q2 := Lib.hid (fun W (h : Ext X W) => ref_shift_rule_at a0 a1 hk W (HT.out.below h) hs)
    have HSM := Lib.hid hs
    clear hq w0 w1 hs
    go_enter Try.func4, Try.ntmps4
    go_wp2_with fail
    (try rw [hX])
    clear hX
    (with_reducible refine QG.out.mono ?_)
    rintro e v1 ⟨rfl, h1⟩
    have G1 := Lib.hid (show Ext X v1 from h1)
    clear h1
    go_upto_region 3 with (fail)
    clear z0 z1 z2 z3 z4 z5
    have HS := Lib.hid (fun W (h : Ext v1 W) => (⟨ext_row (GX.out.trans (Ext.trans G1.out h)) 0 rfl, ext_row (GX.out.trans (Ext.trans G1.out h)) 1 rfl, ext_row (GX.out.trans (Ext.trans G1.out h)) 2 rfl, ext_row (GX.out.trans (Ext.trans G1.out h)) 3 rfl, ext_row (GX.out.trans (Ext.trans G1.out h)) 4 rfl, ext_row (GX.out.trans (Ext.trans G1.out h)) 5 rfl⟩ : (fun W => W.cell? ⟨w.heap.size, 0, none⟩ = some (.string a0.name) ∧ W.cell? ⟨w.heap.size, 1, none⟩ = some (.slice a0.kA a0.keep.length a0.kc) ∧ W.cell? ⟨w.heap.size, 2, none⟩ = some (.slice a0.rA a0.remove.length a0.rc) ∧ W.cell? ⟨w.heap.size, 3, none⟩ = some (.slice a0.gA a0.guard.length a0.gc) ∧ W.cell? ⟨w.heap.size, 4, none⟩ = some (.slice a0.bA a0.body.length a0.bc) ∧ W.cell? ⟨w.heap.size, 5, none⟩ = some (.int .i64 a0.vars)) W))
    go_region_held3 (fun W => W.cell? ⟨w.heap.size, 0, none⟩ = some (.string a0.name) ∧ W.cell? ⟨w.heap.size, 1, none⟩ = some (.slice a0.kA a0.keep.length a0.kc) ∧ W.cell? ⟨w.heap.size, 2, none⟩ = some (.slice a0.rA a0.remove.length a0.rc) ∧ W.cell? ⟨w.heap.size, 3, none⟩ = some (.slice a0.gA a0.guard.length a0.gc) ∧ W.cell? ⟨w.heap.size, 4, none⟩ = some (.slice a0.bA a0.body.length a0.bc) ∧ W.cell? ⟨w.heap.size, 5, none⟩ = some (.int .i64 a0.vars)) (first | (with_reducible exact HS.out _ (Ext.drew _)) | (with_reducible exact HS.out _ E1.out) | (with_reducible exact HS.out _ E2.out) | (with_reducible exact HS.out _ E3.out) | (with_reducible exact HS.out _ E4.out) | fail) (first
      | (go_at_call 17; have hF := Q1.out v1.drew (Ext.trans G1.out (Ext.drew _)); (with_reducible refine hF.mono ?_); rintro e y1 ⟨u, rfl, hu, hat, h1⟩; have E1 := Lib.hid (show Ext v1 y1 from Ext.trans (Ext.drew _) h1); have LU := Lib.hid hu; have UA := Lib.hid hat; clear h1 hF hu hat)
      | (go_at_call 18; have hF := Q2.out y1 (Ext.trans G1.out E1.out); (with_reducible refine hF.mono ?_); rintro e y2 ⟨v, rfl, hv, hat, h1⟩; have E2 := Lib.hid (show Ext v1 y2 from Ext.trans E1.out h1); have LV := Lib.hid hv; have VA := Lib.hid hat; have UA2 := Lib.hid (UA.out.below h1); clear h1 hF hv hat)
      | (go_at_call 16; have hF := same_rule_at u v a0 (shiftV a1) y2 HSM.out UA2.out VA.out LU.out LV.out; (with_reducible refine hF.mono ?_); rintro e y3 ⟨rfl, h1⟩; have E3 := Lib.hid (show Ext v1 y3 from Ext.trans E2.out h1); clear h1 hF)
      | (go_at_call 14; have hF := live_at y3; (with_reducible refine hF.mono ?_); rintro e y4 ⟨rfl, h1⟩; have E4 := Lib.hid (show Ext v1 y4 from Ext.trans E3.out h1); clear h1 hF)
      | fail)
    go_wp2_with fail
    go_ret
    exact ⟨rfl, BX.out _ (Ext.trans G1.out E4.out)⟩
end Go.Proofs.Ytpnjjahimhhjkaa.variantRules
