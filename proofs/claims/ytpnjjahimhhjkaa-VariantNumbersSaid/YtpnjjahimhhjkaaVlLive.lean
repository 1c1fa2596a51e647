/-
  The contract of live: the chapter's examples answer as the chapter says.
-/
import Derived.Test.YtpnjjahimhhjkaaVlP
import Derived.Deep.RegionHeld3
import Derived.Deep.Cut
namespace Go.Proofs.Ytpnjjahimhhjkaa
open Go.RowKit Go.Sort
set_option linter.unusedVariables false

set_option maxHeartbeats 16000000 in
set_option maxRecDepth 100000 in
theorem live_at (w : World) : Calls Try.prog 14 #[] w fun e w' => e = .returned (.bool true) ∧ Ext w w' := by
  have VV := Lib.hid (fun n W => var_call n W)
  go_enter Try.func14, Try.ntmps14
  go_wp2_with fail
  refine (VV.out 0 _).mono ?_
  rintro e v1 ⟨rfl, h1⟩
  have G1 := Lib.hid h1
  clear h1
  go_wp2_with fail
  refine (VV.out 2 _).mono ?_
  rintro e v2 ⟨rfl, h1⟩
  have G2 := Lib.hid (G1.out.trans h1)
  clear h1
  go_wp2_with fail
  have hF := fun_call 102 [exV 0, exV 2] (n := 2) (c := 2) (W := v2.alloc (.cells #[.int .i64 1, .int .i64 0, .string ⟨#[]⟩, .slice none 0 0, .int .i64 1, .int .i64 2, .string ⟨#[]⟩, .slice none 0 0] 24)) rfl (by simp) (row2_of (u := v2) rfl (exV 0) (exV 2) (exV_at _ (by omega)) (exV_at _ (by omega)) (Ext.refl _)) (by simp)
  (with_reducible refine hF.mono ?_)
  rintro e v3 ⟨g, c, rfl, hat, h1⟩
  have G3 := Lib.hid (G2.out.trans (Ext.trans (Ext.al _ _) h1))
  have T3 := Lib.hid hat
  clear h1 hat hF
  go_wp2_with fail
  have hF := shift_call v3 (n := 2) rfl T3.out
  (with_reducible refine hF.mono ?_)
  rintro e v4 ⟨u, rfl, hs, hu, h1⟩
  have G4 := Lib.hid (G3.out.trans h1)
  have U4 := Lib.hid hu
  have HS := Lib.hid hs
  clear h1 hu hs hF T3
  obtain ⟨ku, nu, su, Au, cu, au⟩ := u
  simp only [Tm.val, Tm.kind, Tm.num, Tm.name, Tm.at_, Tm.args, Tm.cap]
  go_wp2_with fail
  obtain ⟨X, hX⟩ : ∃ X, v4.alloc (.cells #[.int .i64 ku, .int .i64 nu, .string su, .slice Au au.length cu] 24) = X := ⟨_, rfl⟩
  have GX := Lib.hid (show Ext (v4.alloc (.cells #[.int .i64 ku, .int .i64 nu, .string su, .slice Au au.length cu] 24)) X from by rw [← hX]; exact Ext.refl _)
  rw [hX]
  clear hX
  refine (VV.out 5 _).mono ?_
  rintro e v5 ⟨rfl, h1⟩
  have H5 := Lib.hid (Ext.trans (Ext.refl X) h1)
  clear h1
  go_wp2_with fail
  refine (VV.out 2 _).mono ?_
  rintro e v6 ⟨rfl, h1⟩
  have H6 := Lib.hid (Ext.trans H5.out h1)
  clear h1
  go_wp2_with fail
  have hF := fun_call 102 [exV 5, exV 2] (n := 2) (c := 2) (W := v6.alloc (.cells #[.int .i64 1, .int .i64 5, .string ⟨#[]⟩, .slice none 0 0, .int .i64 1, .int .i64 2, .string ⟨#[]⟩, .slice none 0 0] 24)) rfl (by simp) (row2_of (u := v6) rfl (exV 5) (exV 2) (exV_at _ (by omega)) (exV_at _ (by omega)) (Ext.refl _)) (by simp)
  (with_reducible refine hF.mono ?_)
  rintro e v7 ⟨g2, c2, rfl, hat, h1⟩
  have H7 := Lib.hid (H6.out.trans (Ext.trans (Ext.al _ _) h1))
  have T7 := Lib.hid hat
  clear h1 hat hF
  go_wp2_with fail
  refine (VV.out 5 _).mono ?_
  rintro e v8 ⟨rfl, h1⟩
  have H8 := Lib.hid (H7.out.trans h1)
  have T8 := Lib.hid (T7.out.below h1)
  clear h1 T7
  go_wp2_with fail
  have hF := number_call (v8.alloc (.cells #[.int .i64 2, .int .i64 0, .string ⟨#[102]⟩, .slice (some ⟨g2, 0, none⟩) 2 c2, .int .i64 1, .int .i64 5, .string ⟨#[]⟩, .slice none 0 0] 24)) (n := 2) rfl (row2_of (u := v8) rfl (exF 102 g2 c2 [exV 5, exV 2]) (exV 5) T8.out (exV_at _ (by omega)) (Ext.refl _))
  (with_reducible refine hF.mono ?_)
  rintro e v9 ⟨A, cap, B, cb, cur, rfl, hlen, hm, hL, hI, h1⟩
  have H9 := Lib.hid (H8.out.trans (Ext.trans (Ext.al _ _) h1))
  have HL := Lib.hid hL
  have HI := Lib.hid hI
  have HM := Lib.hid (show cur.length = 2 ∧ stripL cur = stripL [exF 102 0 0 [exV 0, exV 1], exV 0] from ⟨hlen, hm⟩)
  clear h1 hF hL hI hlen hm T8
  have HX9 := Lib.hid (GX.out.trans H9.out)
  have HU := Lib.hid (show (Tm.mk ku nu su Au cu au).At v9 from (U4.out.below (Ext.al _ _)).below HX9.out)
  have HS2 := Lib.hid (fun W (h : Ext v9 W) => (⟨ext_row (HX9.out.trans h) 0 rfl, ext_row (HX9.out.trans h) 1 rfl, ext_row (HX9.out.trans h) 2 rfl, ext_row (HX9.out.trans h) 3 rfl⟩ : (fun W => W.cell? ⟨v4.heap.size, 0, none⟩ = some (.int .i64 ku) ∧ W.cell? ⟨v4.heap.size, 1, none⟩ = some (.int .i64 nu) ∧ W.cell? ⟨v4.heap.size, 2, none⟩ = some (.string su) ∧ W.cell? ⟨v4.heap.size, 3, none⟩ = some (.slice Au au.length cu)) W))
  have G9 := Lib.hid (show Ext w v9 from (G4.out.trans (Ext.al _ _)).trans HX9.out)
  clear H5 H6 H7 H8 H9 GX G1 G2 G3 G4 U4
  go_upto_region 3 with (fail)
  go_region_held3 (fun W => W.cell? ⟨v4.heap.size, 0, none⟩ = some (.int .i64 ku) ∧ W.cell? ⟨v4.heap.size, 1, none⟩ = some (.int .i64 nu) ∧ W.cell? ⟨v4.heap.size, 2, none⟩ = some (.string su) ∧ W.cell? ⟨v4.heap.size, 3, none⟩ = some (.slice Au au.length cu)) (first | (with_reducible exact HS2.out _ (Ext.refl _)) | (with_reducible exact HS2.out _ (Ext.drew _)) | (with_reducible exact HS2.out _ (Ext.al _ _)) | (with_reducible exact HS2.out _ (Ext.ald _ _)) | (with_reducible exact HS2.out _ (Ext.al2 _ _ _)) | (with_reducible exact HS2.out _ (Ext.al2d _ _ _)) | (with_reducible exact HS2.out _ E1.out) | (with_reducible exact HS2.out _ (E1.out.trans (Ext.al _ _))) | (with_reducible exact HS2.out _ E2.out) | (with_reducible exact HS2.out _ (E2.out.trans (Ext.al _ _))) | (with_reducible exact HS2.out _ E3.out) | (with_reducible exact HS2.out _ (E3.out.trans (Ext.al _ _))) | (with_reducible exact HS2.out _ E4.out) | (with_reducible exact HS2.out _ (E4.out.trans (Ext.al _ _))) | (with_reducible exact HS2.out _ E5.out) | (with_reducible exact HS2.out _ (E5.out.trans (Ext.al _ _))) | (with_reducible exact HS2.out _ E6.out) | (with_reducible exact HS2.out _ (E6.out.trans (Ext.al _ _))) | (with_reducible exact HS2.out _ E7.out) | (with_reducible exact HS2.out _ (E7.out.trans (Ext.al _ _))) | (with_reducible exact HS2.out _ E8.out) | (with_reducible exact HS2.out _ (E8.out.trans (Ext.al _ _))) | (with_reducible exact HS2.out _ E9.out) | (with_reducible exact HS2.out _ (E9.out.trans (Ext.al _ _))) | (with_reducible exact HS2.out _ E10.out) | (with_reducible exact HS2.out _ (E10.out.trans (Ext.al _ _))) | (with_reducible exact HS2.out _ E11.out) | (with_reducible exact HS2.out _ (E11.out.trans (Ext.al _ _))) | (with_reducible exact HS2.out _ E12.out) | (with_reducible exact HS2.out _ (E12.out.trans (Ext.al _ _))) | fail) (first
    | (go_at_call 25; (with_reducible refine (VV.out 3 v9.drew).mono ?_); rintro e y1 ⟨rfl, h1⟩; have E1 := Lib.hid (show Ext v9 y1 from Ext.trans (Ext.drew _) h1); clear h1)
    | (go_at_call 25; (with_reducible refine (VV.out 5 y1).mono ?_); rintro e y2 ⟨rfl, h1⟩; have E2 := Lib.hid (E1.out.trans h1); clear h1)
    | (go_at_call 41; have hF := fun_call 102 [exV 3, exV 5] (n := 2) (c := 2) (W := y2.alloc (.cells #[.int .i64 1, .int .i64 3, .string ⟨#[]⟩, .slice none 0 0, .int .i64 1, .int .i64 5, .string ⟨#[]⟩, .slice none 0 0] 24)) rfl (by simp) (row2_of (u := y2) rfl (exV 3) (exV 5) (exV_at _ (by omega)) (exV_at _ (by omega)) (Ext.refl _)) (by simp); (with_reducible refine hF.mono ?_); rintro e y3 ⟨g3, c3, rfl, hat, h1⟩; have E3 := Lib.hid (E2.out.trans (Ext.trans (Ext.al _ _) h1)); have T3 := Lib.hid hat; clear hat h1 hF)
    | (go_at_call 11; have hF := same_call2 y3 (n := 2) rfl rfl (HU.out.below E3.out) HS.out T3.out; (with_reducible refine hF.mono ?_); rintro e y4 ⟨rfl, h1⟩; have E4 := Lib.hid (E3.out.trans h1); clear h1 hF T3)
    | (go_at_call 23; have hF := top_call (y4.alloc (.cells #[.int .i64 ku, .int .i64 nu, .string su, .slice Au au.length cu] 24)) (n := 1) rfl HS.out (row1_of (u := y4) rfl (.mk ku nu su Au cu au) (HU.out.below E4.out) (Ext.refl _)); (with_reducible refine hF.mono ?_); rintro e y5 ⟨rfl, h1⟩; have E5 := Lib.hid (E4.out.trans (Ext.trans (Ext.al _ _) h1)); clear h1 hF)
    | (go_at_call 25; (with_reducible refine (VV.out 0 y5).mono ?_); rintro e y6 ⟨rfl, h1⟩; have E6 := Lib.hid (E5.out.trans h1); clear h1)
    | (go_at_call 25; (with_reducible refine (VV.out 1 y6).mono ?_); rintro e y7 ⟨rfl, h1⟩; have E7 := Lib.hid (E6.out.trans h1); clear h1)
    | (go_at_call 41; have hF := fun_call 102 [exV 0, exV 1] (n := 2) (c := 2) (W := y7.alloc (.cells #[.int .i64 1, .int .i64 0, .string ⟨#[]⟩, .slice none 0 0, .int .i64 1, .int .i64 1, .string ⟨#[]⟩, .slice none 0 0] 24)) rfl (by simp) (row2_of (u := y7) rfl (exV 0) (exV 1) (exV_at _ (by omega)) (exV_at _ (by omega)) (Ext.refl _)) (by simp); (with_reducible refine hF.mono ?_); rintro e y8 ⟨g4, c4, rfl, hat, h1⟩; have E8 := Lib.hid (E7.out.trans (Ext.trans (Ext.al _ _) h1)); have T8 := Lib.hid hat; clear hat h1 hF)
    | (go_at_call 25; (with_reducible refine (VV.out 0 y8).mono ?_); rintro e y9 ⟨rfl, h1⟩; have E9 := Lib.hid (E8.out.trans h1); have T9 := Lib.hid (T8.out.below h1); clear h1)
    | (go_at_call 21; have hF := terms_call (y9.alloc (.cells #[.int .i64 2, .int .i64 0, .string ⟨#[102]⟩, .slice (some ⟨g4, 0, none⟩) 2 c4, .int .i64 1, .int .i64 0, .string ⟨#[]⟩, .slice none 0 0] 24)) (n := 2) (m := 2) rfl rfl HM.out.1 HM.out.2 (HL.out.below (E9.out.trans (Ext.al _ _))) (row2_of (u := y9) rfl (exF 102 g4 c4 [exV 0, exV 1]) (exV 0) T9.out (exV_at _ (by omega)) (Ext.refl _)); (with_reducible refine hF.mono ?_); rintro e y10 ⟨rfl, h1⟩; have E10 := Lib.hid (E9.out.trans (Ext.trans (Ext.al _ _) h1)); clear h1 hF T8 T9)
    | (go_at_call 22; have hF := ints_call (cb := cb) (y10.alloc (.cells #[.int .i64 5, .int .i64 2] 3)) (u := y10) (n := 2) (m := 2) rfl rfl rfl (HI.out.below (E10.out.trans (Ext.al _ _))) (Ext.refl _); (with_reducible refine hF.mono ?_); rintro e y11 ⟨rfl, h1⟩; have E11 := Lib.hid (E10.out.trans (Ext.trans (Ext.al _ _) h1)); clear h1 hF)
    | (go_at_call 32; have hF := variants_call y11 (n := 2) rfl HM.out.1 HM.out.2 (HL.out.below E11.out); (with_reducible refine hF.mono ?_); rintro e y12 ⟨rfl, h1⟩; have E12 := Lib.hid (E11.out.trans h1); clear h1 hF)
    | fail)
  go_wp2_with fail
  go_ret
  exact ⟨rfl, G9.out.trans E12.out⟩
end Go.Proofs.Ytpnjjahimhhjkaa
