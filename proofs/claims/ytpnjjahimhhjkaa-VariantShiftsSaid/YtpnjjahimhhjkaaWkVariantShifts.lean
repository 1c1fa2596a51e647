/-
  The walk of VariantShifts.
-/
import Derived.Test.YtpnjjahimhhjkaaVlBase
import Derived.Test.YtpnjjahimhhjkaaUnRound
namespace Go.Proofs.Ytpnjjahimhhjkaa.variantShifts
open Go.ChangeShapes Go.WideShapes Go.ChangeAt Go.RowKit Go.Sort
set_option linter.unusedVariables false

set_option maxHeartbeats 16000000 in
set_option maxRecDepth 100000 in
theorem walk (a0 : Tm) (a1 : Int) (w : World) (w0 : a0.At w) (w1 : (Lit.int .i64 a1).wf = true) :
    Calls Try.prog 3 #[a0.val, .int .i64 a1] w fun e w' => e = .returned (.bool true) ∧ Below w.heap.size w w' := by
  have hk := int_fits w1
  obtain ⟨q, hq⟩ : ∃ r, decide (weigh [a0] 400 64 < 0) = r := ⟨_, rfl⟩
  obtain ⟨X, hX⟩ : ∃ X, w.alloc (.cells #[.int .i64 a0.kind, .int .i64 a0.num, .string a0.name, .slice a0.at_ a0.args.length a0.cap] 24) = X := ⟨_, rfl⟩
  have GX := Lib.hid (show Ext (w.alloc (.cells #[.int .i64 a0.kind, .int .i64 a0.num, .string a0.name, .slice a0.at_ a0.args.length a0.cap] 24)) X from by rw [← hX]; exact Ext.refl _)
  have BX := Lib.hid (fun W (h : Ext X W) => show Below w.heap.size w W from Ext.trans (Ext.al _ _) (GX.out.trans h))
  have HT := Lib.hid (show a0.At X from by rw [← hX]; exact w0.alloc _)
  have HS := Lib.hid (fun W (h : Ext X W) => (⟨ext_row (GX.out.trans h) 0 rfl, ext_row (GX.out.trans h) 1 rfl, ext_row (GX.out.trans h) 2 rfl, ext_row (GX.out.trans h) 3 rfl⟩ : (fun W => W.cell? ⟨w.heap.size, 0, none⟩ = some (.int .i64 a0.kind) ∧ W.cell? ⟨w.heap.size, 1, none⟩ = some (.int .i64 a0.num) ∧ W.cell? ⟨w.heap.size, 2, none⟩ = some (.string a0.name) ∧ W.cell? ⟨w.heap.size, 3, none⟩ = some (.slice a0.at_ a0.args.length a0.cap)) W))
  have QG := Lib.hid (great_row a0 400 (g := X.heap.size) (W := (X.alloc (.cells #[.int .i64 a0.kind, .int .i64 a0.num, .string a0.name, .slice a0.at_ a0.args.length a0.cap] 24)).drew) (n := 1) rfl (row1_of (u := X) rfl a0 HT.out (Ext.drew _)) (by omega) (by omega) hq)
  cases q with
  | true =>
    clear hq w0 w1
    go_enter Try.func3, Try.ntmps3
    go_upto_region 1 with (fail)
    (try rw [hX])
    clear hX
    have hS : (fun W => W.cell? ⟨w.heap.size, 0, none⟩ = some (.int .i64 a0.kind) ∧ W.cell? ⟨w.heap.size, 1, none⟩ = some (.int .i64 a0.num) ∧ W.cell? ⟨w.heap.size, 2, none⟩ = some (.string a0.name) ∧ W.cell? ⟨w.heap.size, 3, none⟩ = some (.slice a0.at_ a0.args.length a0.cap)) X.drew := HS.out _ (Ext.drew _)
    refine held_start 16 rfl (fun W => W.cell? ⟨w.heap.size, 0, none⟩ = some (.int .i64 a0.kind) ∧ W.cell? ⟨w.heap.size, 1, none⟩ = some (.int .i64 a0.num) ∧ W.cell? ⟨w.heap.size, 2, none⟩ = some (.string a0.name) ∧ W.cell? ⟨w.heap.size, 3, none⟩ = some (.slice a0.at_ a0.args.length a0.cap)) rfl ?_
    refine held_take (i := 0) (dst := some 5) (v := ?_) rfl rfl (by kernel_rfl) (by kernel_rfl) (by kernel_rfl) rfl hS ?_ ?_; rotate_left
    · rintro w' ⟨l0, l1, l2, l3⟩; go_simp; with_reducible rfl
    go_frame
    have hS1 : (fun W => W.cell? ⟨w.heap.size, 0, none⟩ = some (.int .i64 a0.kind) ∧ W.cell? ⟨w.heap.size, 1, none⟩ = some (.int .i64 a0.num) ∧ W.cell? ⟨w.heap.size, 2, none⟩ = some (.string a0.name) ∧ W.cell? ⟨w.heap.size, 3, none⟩ = some (.slice a0.at_ a0.args.length a0.cap)) (X.drew.alloc (.cells #[.int .i64 a0.kind, .int .i64 a0.num, .string a0.name, .slice a0.at_ a0.args.length a0.cap] 24)) := HS.out _ ((Ext.drew _).trans (Ext.al _ _))
    refine round_one (i := 1) (by kernel_rfl) ?_
    refine round_do (dst := some 6) (v := .slice (some ⟨X.heap.size, 0, none⟩) 1 1) (w2 := X.drew.alloc (.cells #[.int .i64 a0.kind, .int .i64 a0.num, .string a0.name, .slice a0.at_ a0.args.length a0.cap] 24)) rfl rfl rfl (by go_simp; try rfl) hS1 ?_
    go_frame
    refine round_one (i := 2) (by kernel_rfl) ?_
    refine held_call (dst := some 7) rfl rfl rfl ?_ QG.out ?_
    · go_simp; try rfl
    rintro e y1 ⟨rfl, h1⟩
    have hS2 : (fun W => W.cell? ⟨w.heap.size, 0, none⟩ = some (.int .i64 a0.kind) ∧ W.cell? ⟨w.heap.size, 1, none⟩ = some (.int .i64 a0.num) ∧ W.cell? ⟨w.heap.size, 2, none⟩ = some (.string a0.name) ∧ W.cell? ⟨w.heap.size, 3, none⟩ = some (.slice a0.at_ a0.args.length a0.cap)) y1 := HS.out _ (((Ext.drew _).trans (Ext.al _ _)).trans h1)
    have E1 := Lib.hid (show Ext X y1 from ((Ext.drew _).trans (Ext.al _ _)).trans h1)
    refine ⟨_, rfl, hS2, ?_⟩
    clear h1
    go_frame
    refine held_take (i := 3) (dst := some 8) (v := ?_) rfl rfl (by kernel_rfl) (by kernel_rfl) (by kernel_rfl) rfl hS2 ?_ ?_; rotate_left
    · rintro w' ⟨l0, l1, l2, l3⟩; go_simp; with_reducible rfl
    go_frame
    refine held_pass (i := 4) (dst := some 9) rfl rfl (by kernel_rfl) (by kernel_rfl) (by kernel_rfl) rfl hS2 ?_
    go_frame
    refine held_pass (i := 5) (dst := some 10) rfl rfl (by kernel_rfl) (by kernel_rfl) (by kernel_rfl) rfl hS2 ?_
    go_frame
    refine held_pass (i := 6) (dst := some 11) rfl rfl (by kernel_rfl) (by kernel_rfl) (by kernel_rfl) rfl hS2 ?_
    go_frame
    refine held_pass (i := 7) (dst := some 12) rfl rfl (by kernel_rfl) (by kernel_rfl) (by kernel_rfl) rfl hS2 ?_
    go_frame
    refine held_pass (i := 8) (dst := some 13) rfl rfl (by kernel_rfl) (by kernel_rfl) (by kernel_rfl) rfl hS2 ?_
    go_frame
    refine held_pass (i := 9) (dst := some 14) rfl rfl (by kernel_rfl) (by kernel_rfl) (by kernel_rfl) rfl hS2 ?_
    go_frame
    refine held_pass (i := 10) (dst := some 15) rfl rfl (by kernel_rfl) (by kernel_rfl) (by kernel_rfl) rfl hS2 ?_
    go_frame
    refine held_pass (i := 11) (dst := some 16) rfl rfl (by kernel_rfl) (by kernel_rfl) (by kernel_rfl) rfl hS2 ?_
    go_frame
    refine held_pass (i := 12) (dst := some 17) rfl rfl (by kernel_rfl) (by kernel_rfl) (by kernel_rfl) rfl hS2 ?_
    go_frame
    refine held_pass (i := 13) (dst := some 18) rfl rfl (by kernel_rfl) (by kernel_rfl) (by kernel_rfl) rfl hS2 ?_
    go_frame
    refine held_take (i := 14) (dst := some 19) (v := ?_) rfl rfl (by kernel_rfl) (by kernel_rfl) (by kernel_rfl) rfl hS2 ?_ ?_; rotate_left
    · rintro w' ⟨l0, l1, l2, l3⟩; go_simp; with_reducible rfl
    go_frame
    refine held_take (i := 15) (dst := some 4) (v := ?_) rfl rfl (by kernel_rfl) (by kernel_rfl) (by kernel_rfl) rfl hS2 ?_ ?_; rotate_left
    · rintro w' ⟨l0, l1, l2, l3⟩; go_simp; with_reducible rfl
    go_frame
    refine round_end (by kernel_rfl) ?_
    go_wp2_with fail
    go_ret
    exact ⟨rfl, BX.out _ E1.out⟩
  | false =>
    have hn : a0.nodes ≤ 1000000 := by have := not_great1 hq; omega
    have Q1 := Lib.hid (fun W (h : Ext X W) => shift_term_at a0 a1 hk W (HT.out.below h) hn)
    have Q2 := Lib.hid (fun W (h : Ext X W) => ref_shift_at W a1 hk a0 (HT.out.below h) hn W (Below.refl _ _))
    have HC := Lib.hid (fun (u v : Tm) (hu : u.strip = (a0.ren (shiftV a1)).strip) (hv : v.strip = (a0.rr (shiftV a1)).strip) => show (cmpT u v == 0) = true from by
      rw [cmp_iff_canon.2 (by rw [canon_strip hu, canon_strip hv, ren_canon.1, rr_canon.1] : u.canon = v.canon)]
      rfl)
    generalize a0.ren (shiftV a1) = ta at *
    generalize a0.rr (shiftV a1) = tb at *
    clear hq w0 w1 hn
    go_enter Try.func3, Try.ntmps3
    go_upto_region 1 with (fail)
    (try rw [hX])
    clear hX
    go_region_held3 (fun W => W.cell? ⟨w.heap.size, 0, none⟩ = some (.int .i64 a0.kind) ∧ W.cell? ⟨w.heap.size, 1, none⟩ = some (.int .i64 a0.num) ∧ W.cell? ⟨w.heap.size, 2, none⟩ = some (.string a0.name) ∧ W.cell? ⟨w.heap.size, 3, none⟩ = some (.slice a0.at_ a0.args.length a0.cap)) (first | (with_reducible exact HS.out _ (Ext.refl _)) | (with_reducible exact HS.out _ (Ext.drew _)) | (with_reducible exact HS.out _ (Ext.ald _ _)) | (with_reducible exact HS.out _ (Ext.al _ _)) | (with_reducible exact HS.out _ E1.out) | (with_reducible exact HS.out _ E2.out) | (with_reducible exact HS.out _ E3.out) | (with_reducible exact HS.out _ E4.out) | (with_reducible exact HS.out _ E5.out) | fail) (first
      | (go_at_call 10; have hF := QG.out; (with_reducible refine hF.mono ?_); rintro e y1 ⟨rfl, h1⟩; have E1 := Lib.hid (show Ext X y1 from Ext.trans (Ext.ald _ _) h1); clear h1 hF)
      | (go_at_call 12; have hF := Q1.out _ E1.out; (with_reducible refine hF.mono ?_); rintro e y2 ⟨u, rfl, hu, hlie, h1⟩; have E2 := Lib.hid (Ext.trans E1.out h1); have HU := Lib.hid hu; have UA := Lib.hid (hlie.at trivial); clear h1 hF hu hlie)
      | (go_at_call 13; have hF := Q2.out _ E2.out; (with_reducible refine hF.mono ?_); rintro e y3 ⟨u2, rfl, hu, hlie, h1⟩; have E3 := Lib.hid (Ext.trans E2.out h1); have HU2 := Lib.hid hu; have UB := Lib.hid (hlie.at h1); have UA2 := Lib.hid (UA.out.below h1); clear h1 hF hu hlie)
      | (go_at_call 11; have hF := ref_same_at u u2 y3 UA2.out UB.out (HC.out u u2 HU.out HU2.out); (with_reducible refine hF.mono ?_); rintro e y4 ⟨rfl, h1⟩; have E4 := Lib.hid (Ext.trans E3.out h1); clear h1 hF)
      | (go_at_call 14; have hF := live_at y4; (with_reducible refine hF.mono ?_); rintro e y5 ⟨rfl, h1⟩; have E5 := Lib.hid (Ext.trans E4.out h1); clear h1 hF)
      | fail)
    go_wp2_with fail
    go_ret
    exact ⟨rfl, BX.out _ E5.out⟩
end Go.Proofs.Ytpnjjahimhhjkaa.variantShifts
