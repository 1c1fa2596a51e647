/-
  WkSourceRules.
-/
import Derived.Test.YtnghanpmmbcbbaaGreatDoorMp18
import Derived.Deep.RegionHeld3
import Derived.Deep.Cut
namespace Go.Proofs.YtnghanpmmbcbbaaGreatDoor.sourceRules
open Go.ChangeShapes Go.WideShapes Go.ChangeAt Go.RowKit Go.Sort
set_option linter.unusedVariables false
set_option maxHeartbeats 16000000 in
set_option maxRecDepth 100000 in
theorem walk (H : Writes) (a0 : Rl) (w : World) (w0 : a0.At w) (hL : Laid w) :
    Calls Tryz.prog 3 #[a0.val] w fun e w' => e = .returned (.bool true) ∧ Below w.heap.size w w' := by
  obtain ⟨q, hq⟩ : ∃ q, largeB [a0] = q := ⟨_, rfl⟩
  obtain ⟨X, hX⟩ : ∃ X, w.alloc (.cells #[.string a0.name, .slice a0.kA a0.keep.length a0.kc, .slice a0.rA a0.remove.length a0.rc, .slice a0.gA a0.guard.length a0.gc, .slice a0.bA a0.body.length a0.bc, .int .i64 a0.vars] 25) = X := ⟨_, rfl⟩
  have GX := Lib.hid (show Ext (w.alloc (.cells #[.string a0.name, .slice a0.kA a0.keep.length a0.kc, .slice a0.rA a0.remove.length a0.rc, .slice a0.gA a0.guard.length a0.gc, .slice a0.bA a0.body.length a0.bc, .int .i64 a0.vars] 25)) X from by rw [← hX]; exact Ext.refl _)
  have BX := Lib.hid (fun W (h : Ext X W) => show Below w.heap.size w W from Ext.trans (Ext.al _ _) (GX.out.trans h))
  have HT := Lib.hid (show a0.At X from by rw [← hX]; exact w0.below (Ext.al _ _))
  have QG := Lib.hid (show Calls Tryz.prog 8 #[.slice (some ⟨X.heap.size, 0, none⟩) 1 1] (X.alloc (.cells #[.string a0.name, .slice a0.kA a0.keep.length a0.kc, .slice a0.rA a0.remove.length a0.rc, .slice a0.gA a0.guard.length a0.gc, .slice a0.bA a0.body.length a0.bc, .int .i64 a0.vars] 25)) (fun e w' => e = .returned (.bool q) ∧ Ext (X.alloc (.cells #[.string a0.name, .slice a0.kA a0.keep.length a0.kc, .slice a0.rA a0.remove.length a0.rc, .slice a0.gA a0.guard.length a0.gc, .slice a0.bA a0.body.length a0.bc, .int .i64 a0.vars] 25)) w') from large_at [a0] (some ⟨X.heap.size, 0, none⟩) 1 _ (one_rule a0 X HT.out) hq)
  have QE := Lib.hid (fun W (h : Ext X W) => H.example_ W (hL.below (BX.out W h)))
  have z0 := ext_row GX.out 0 rfl
  have z1 := ext_row GX.out 1 rfl
  have z2 := ext_row GX.out 2 rfl
  have z3 := ext_row GX.out 3 rfl
  have z4 := ext_row GX.out 4 rfl
  have z5 := ext_row GX.out 5 rfl
  cases q with
  | true =>
    clear hq w0
    go_enter Tryz.func3, Tryz.ntmps3
    go_wp2_with fail
    (try rw [hX])
    clear hX
    (with_reducible refine QG.out.mono ?_)
    rintro e v1 ⟨rfl, h1⟩
    have G1 := Lib.hid (show Ext X v1 from Ext.trans (Ext.al _ _) h1)
    clear h1
    go_wp2_with fail
    (with_reducible refine (QE.out v1 G1.out).mono ?_)
    rintro e v2 ⟨rfl, h1⟩
    have G2 := Lib.hid (show Ext X v2 from Ext.trans G1.out h1)
    clear h1
    go_wp2_with fail
    go_ret
    exact ⟨rfl, BX.out _ G2.out⟩
  | false =>
    obtain ⟨ht, hn⟩ := (large_tiny hq).2 a0 (by simp)
    have Q1 := Lib.hid (fun W (h : Ext X W) => H.rule a0 W (HT.out.below h) ht hn (hL.below (BX.out W h)))
    have Q2 := Lib.hid (fun W (h : Ext X W) => src_rule_at a0 W (HT.out.below h) ht (by omega))
    have Q3 := Lib.hid (fun W (h : Ext X W) => H.number a0 X W HT.out h ht hn)
    have Q4 := Lib.hid (fun W (h : Ext X W) => num_rule_at a0 X W HT.out h ht)
    have HTi := Lib.hid ht
    obtain ⟨s, hs⟩ : ∃ s, a0.numR.src = s := ⟨_, rfl⟩
    rw [hs] at Q1 Q2
    clear hq w0 ht hn hs
    go_enter Tryz.func3, Tryz.ntmps3
    go_wp2_with fail
    (try rw [hX])
    clear hX
    (with_reducible refine QG.out.mono ?_)
    rintro e v1 ⟨rfl, h1⟩
    have G1 := Lib.hid (show Ext X v1 from Ext.trans (Ext.al _ _) h1)
    clear h1
    go_upto_region 3 with (fail)
    clear z0 z1 z2 z3 z4 z5
    have HS := Lib.hid (fun W (h : Ext v1 W) => (⟨ext_row (GX.out.trans (Ext.trans G1.out h)) 0 rfl, ext_row (GX.out.trans (Ext.trans G1.out h)) 1 rfl, ext_row (GX.out.trans (Ext.trans G1.out h)) 2 rfl, ext_row (GX.out.trans (Ext.trans G1.out h)) 3 rfl, ext_row (GX.out.trans (Ext.trans G1.out h)) 4 rfl, ext_row (GX.out.trans (Ext.trans G1.out h)) 5 rfl⟩ : (fun W => W.cell? ⟨w.heap.size, 0, none⟩ = some (.string a0.name) ∧ W.cell? ⟨w.heap.size, 1, none⟩ = some (.slice a0.kA a0.keep.length a0.kc) ∧ W.cell? ⟨w.heap.size, 2, none⟩ = some (.slice a0.rA a0.remove.length a0.rc) ∧ W.cell? ⟨w.heap.size, 3, none⟩ = some (.slice a0.gA a0.guard.length a0.gc) ∧ W.cell? ⟨w.heap.size, 4, none⟩ = some (.slice a0.bA a0.body.length a0.bc) ∧ W.cell? ⟨w.heap.size, 5, none⟩ = some (.int .i64 a0.vars)) W))
    go_region_held3 (fun W => W.cell? ⟨w.heap.size, 0, none⟩ = some (.string a0.name) ∧ W.cell? ⟨w.heap.size, 1, none⟩ = some (.slice a0.kA a0.keep.length a0.kc) ∧ W.cell? ⟨w.heap.size, 2, none⟩ = some (.slice a0.rA a0.remove.length a0.rc) ∧ W.cell? ⟨w.heap.size, 3, none⟩ = some (.slice a0.gA a0.guard.length a0.gc) ∧ W.cell? ⟨w.heap.size, 4, none⟩ = some (.slice a0.bA a0.body.length a0.bc) ∧ W.cell? ⟨w.heap.size, 5, none⟩ = some (.int .i64 a0.vars)) (first | (with_reducible exact HS.out _ (Ext.drew _)) | (with_reducible exact HS.out _ E1.out) | (with_reducible exact HS.out _ E2.out) | (with_reducible exact HS.out _ E3.out) | (with_reducible exact HS.out _ E4.out) | (with_reducible exact HS.out _ E5.out) | (with_reducible exact HS.out _ E6.out) | fail) (first
      | (go_at_call 10; have hF := Q1.out v1.drew (Ext.trans G1.out (Ext.drew _)); (with_reducible refine hF.mono ?_); rintro e y1 ⟨rfl, h1⟩; have E1 := Lib.hid (show Ext v1 y1 from Ext.trans (Ext.drew _) h1); clear h1 hF)
      | (go_at_call 11; have hF := Q2.out y1 (Ext.trans G1.out E1.out); (with_reducible refine hF.mono ?_); rintro e y2 ⟨rfl, h1⟩; have E2 := Lib.hid (show Ext v1 y2 from Ext.trans E1.out h1); clear h1 hF)
      | (go_at_call 13; have hF := Q3.out y2 (Ext.trans G1.out E2.out); (with_reducible refine hF.mono ?_); rintro e y3 ⟨u, rfl, hu, ht, hat, h1⟩; have E3 := Lib.hid (show Ext v1 y3 from Ext.trans E2.out h1); have LU := Lib.hid hu; have UA := Lib.hid (hat y3 (Ext.trans G1.out E3.out) (Agree.refl _ _ _)); clear h1 hF hu hat ht)
      | (go_at_call 14; have hF := Q4.out y3 (Ext.trans G1.out E3.out); (with_reducible refine hF.mono ?_); rintro e y4 ⟨v, rfl, hv, hat, h1⟩; have E4 := Lib.hid (show Ext v1 y4 from Ext.trans E3.out h1); have LV := Lib.hid ((like_num hv).can hv.vars); have VA := Lib.hid (hat y4 (Ext.trans G1.out E4.out) (Agree.refl _ _ _)); have UA2 := Lib.hid (UA.out.below h1); clear h1 hF hv hat)
      | (go_at_call 12; have hF := ssame_rule_at u v y4 (can_short LU.out HTi.out) UA2.out VA.out (LU.out.trans LV.out.symm).same; (with_reducible refine hF.mono ?_); rintro e y5 ⟨rfl, h1⟩; have E5 := Lib.hid (show Ext v1 y5 from Ext.trans E4.out h1); clear h1 hF)
      | (go_at_call 9; have hF := QE.out y5 (Ext.trans G1.out E5.out); (with_reducible refine hF.mono ?_); rintro e y6 ⟨rfl, h1⟩; have E6 := Lib.hid (show Ext v1 y6 from Ext.trans E5.out h1); clear h1 hF)
      | fail)
    go_wp2_with fail
    go_ret
    exact ⟨rfl, BX.out _ (Ext.trans G1.out E6.out)⟩
end Go.Proofs.YtnghanpmmbcbbaaGreatDoor.sourceRules
