/-
  The walk of VariantBack.
-/
import Derived.Test.YtpnjjahimhhjkaaVlBase
import Derived.Deep.Cut
namespace Go.Proofs.Ytpnjjahimhhjkaa.variantBack
open Go.ChangeShapes Go.WideShapes Go.ChangeAt Go.RowKit Go.Sort
set_option linter.unusedVariables false

set_option maxHeartbeats 16000000 in
set_option maxRecDepth 100000 in
theorem walk (a0 : Tm) (a1 : Int) (w : World) (w0 : a0.At w) (w1 : (Lit.int .i64 a1).wf = true) :
    Calls Try.prog 7 #[a0.val, .int .i64 a1] w fun e w' => e = .returned (.bool true) ∧ Below w.heap.size w w' := by
  obtain ⟨q, hq⟩ : ∃ r, decide (weigh [a0] 400 64 < 0) = r := ⟨_, rfl⟩
  obtain ⟨X, hX⟩ : ∃ X, w.alloc (.cells #[.int .i64 a0.kind, .int .i64 a0.num, .string a0.name, .slice a0.at_ a0.args.length a0.cap] 24) = X := ⟨_, rfl⟩
  have GX := Lib.hid (show Ext (w.alloc (.cells #[.int .i64 a0.kind, .int .i64 a0.num, .string a0.name, .slice a0.at_ a0.args.length a0.cap] 24)) X from by rw [← hX]; exact Ext.refl _)
  have BX := Lib.hid (fun W (h : Ext X W) => show Below w.heap.size w W from Ext.trans (Ext.al _ _) (GX.out.trans h))
  have HT := Lib.hid (show a0.At X from by rw [← hX]; exact w0.alloc _)
  have QG := Lib.hid (fun W (h : Ext X W) => great_row a0 400 (g := W.heap.size) (W := W.alloc (.cells #[.int .i64 a0.kind, .int .i64 a0.num, .string a0.name, .slice a0.at_ a0.args.length a0.cap] 24)) (n := 1) rfl (row1_of (u := W) rfl a0 (HT.out.below h) (Ext.refl _)) (by omega) (by omega) hq)
  have z0 := ext_row GX.out 0 rfl
  have z1 := ext_row GX.out 1 rfl
  have z2 := ext_row GX.out 2 rfl
  have z3 := ext_row GX.out 3 rfl
  cases q with
  | true =>
    clear hq w0 w1
    go_enter Try.func7, Try.ntmps7
    go_wp2_with fail
    have hF := live_at X
    (with_reducible refine hF.mono ?_)
    rintro e v1 ⟨rfl, h1⟩
    have G1 := Lib.hid (Ext.trans (Ext.refl X) h1)
    clear z0 z1 z2 z3
    have z0 := ext_row (GX.out.trans G1.out) 0 rfl
    have z1 := ext_row (GX.out.trans G1.out) 1 rfl
    have z2 := ext_row (GX.out.trans G1.out) 2 rfl
    have z3 := ext_row (GX.out.trans G1.out) 3 rfl
    clear hF h1 hX
    go_wp2_with fail
    have hF := QG.out _ G1.out
    (with_reducible refine hF.mono ?_)
    rintro e v2 ⟨rfl, h1⟩
    have G2 := Lib.hid (Ext.trans G1.out (Ext.trans (Ext.al _ _) h1))
    clear z0 z1 z2 z3
    have z0 := ext_row (GX.out.trans G2.out) 0 rfl
    have z1 := ext_row (GX.out.trans G2.out) 1 rfl
    have z2 := ext_row (GX.out.trans G2.out) 2 rfl
    have z3 := ext_row (GX.out.trans G2.out) 3 rfl
    clear hF h1 
    go_wp2_with fail
    go_ret
    exact ⟨rfl, BX.out _ G2.out⟩
  | false =>
    have hn : a0.nodes ≤ 1000000 := by have := not_great1 hq; omega
    have HN := Lib.hid hn
    have hsz : a0.size ≤ 1000000 := by have := (size_nodes.1 a0).1; omega
    have Q1 := Lib.hid (fun W (h : Ext X W) => ref_vars_at a0 W (HT.out.below h) hsz)
    have hvl : (addAll [] a0.occ).length ≤ 9223372036854775807 := by have h1 := addAll_length [] a0.occ; have h2 := occ_length.1 a0; simp only [List.length_nil] at h1; omega
    have HVS := Lib.hid (show ∃ vs, vs = addAll [] a0.occ from ⟨_, rfl⟩)
    obtain ⟨vs, hvs⟩ := HVS.out
    rw [← hvs] at Q1 hvl
    have HV := Lib.hid hvs
    clear hq w0 hn hvs HVS
    go_enter Try.func7, Try.ntmps7
    go_wp2_with fail
    have hF := live_at X
    (with_reducible refine hF.mono ?_)
    rintro e v1 ⟨rfl, h1⟩
    have G1 := Lib.hid (Ext.trans (Ext.refl X) h1)
    clear z0 z1 z2 z3
    have z0 := ext_row (GX.out.trans G1.out) 0 rfl
    have z1 := ext_row (GX.out.trans G1.out) 1 rfl
    have z2 := ext_row (GX.out.trans G1.out) 2 rfl
    have z3 := ext_row (GX.out.trans G1.out) 3 rfl
    clear hF h1 hX
    go_wp2_with fail
    have hF := QG.out _ G1.out
    (with_reducible refine hF.mono ?_)
    rintro e v2 ⟨rfl, h1⟩
    have G2 := Lib.hid (Ext.trans G1.out (Ext.trans (Ext.al _ _) h1))
    clear z0 z1 z2 z3
    have z0 := ext_row (GX.out.trans G2.out) 0 rfl
    have z1 := ext_row (GX.out.trans G2.out) 1 rfl
    have z2 := ext_row (GX.out.trans G2.out) 2 rfl
    have z3 := ext_row (GX.out.trans G2.out) 3 rfl
    clear hF h1 
    go_wp2_with fail
    obtain ⟨kk, hkE⟩ : ∃ kk, wrap64 (wrap32 a1) = kk := ⟨_, rfl⟩
    have hkk : -2147483648 ≤ kk ∧ kk ≤ 2147483647 := by rw [← hkE]; unfold wrap64 wrap32; omega
    have HKK := Lib.hid hkk
    rw [hkE]
    clear hkE hkk
    go_wp2_with fail
    have hF := Q1.out _ G2.out
    (with_reducible refine hF.mono ?_)
    rintro e v3 ⟨v, rfl, hown, h1⟩
    have G3 := Lib.hid (Ext.trans G2.out h1)
    clear z0 z1 z2 z3
    have z0 := ext_row (GX.out.trans G3.out) 0 rfl
    have z1 := ext_row (GX.out.trans G3.out) 1 rfl
    have z2 := ext_row (GX.out.trans G3.out) 2 rfl
    have z3 := ext_row (GX.out.trans G3.out) 3 rfl
    clear hF h1 
    obtain ⟨V, cv, rfl, hI, _⟩ := hown.form
    have HI := Lib.hid hI
    clear hown hI
    go_wp2_with fail
    go_loopw [6] (fun i wr => ∃ j : Nat, j ≤ vs.length ∧ i = .int .i64 j ∧ Hid (∀ v ∈ vs.take j, -1099511627776 ≤ v ∧ v ≤ 1099511627776) ∧ wr = v3) (fun i _ => vs.length - (intOf i).toNat)
    case atStart => exact ⟨0, Nat.zero_le _, rfl, Lib.hid (by simp), rfl⟩
    case round =>
      obtain ⟨j, hj, rfl, HF, hwr⟩ := hrel
      have hwr2 := hwr.symm
      clear hwr
      subst hwr2
      by_cases hlt : j < vs.length
      · obtain ⟨b, o, rfl, hci⟩ := HI.out.get hlt
        have HT := Lib.hid (take_int hlt)
        generalize vs.getD j 0 = y at *
        by_cases y1 : y < -1099511627776
        · go_wp2_with fail
          go_ret
          exact ⟨rfl, (BX.out _ G3.out)⟩
        · by_cases y2 : y > 1099511627776
          · go_wp2_with fail
            go_ret
            exact ⟨rfl, (BX.out _ G3.out)⟩
          · have HN := Lib.hid (show ∀ v ∈ vs.take (j + 1), -1099511627776 ≤ v ∧ v ≤ 1099511627776 from fun v hv => by
              rw [HT.out] at hv
              rcases List.mem_append.1 hv with h | h
              · exact HF.out v h
              · rw [List.mem_singleton.1 h]; omega)
            go_wp2_with fail
            go_roundw
            case rel => exact ⟨j + 1, by omega, by go_num, HN, by first | rfl | trivial⟩
            case measure => simp [intOf]; omega
      · obtain rfl : j = vs.length := by omega
        have HBD := Lib.hid (show ∀ v ∈ vs, -1099511627776 ≤ v ∧ v ≤ 1099511627776 from by have := HF.out; rwa [List.take_length] at this)
        clear HF hlt
        have HB0 := Lib.hid (show ∀ v ∈ occL [a0], -1099511627776 ≤ v ∧ v ≤ 1099511627776 from fun v hv => HBD.out v (by rw [HV.out]; exact (mem_addAll [] a0.occ v).2 (.inr (by simpa [occL] using hv))))
        go_wp2_with fail
        have hF := shift_term_at a0 kk (by have := HKK.out; unfold Fits; omega) v3 (HT.out.below G3.out) HN.out
        (with_reducible refine hF.mono ?_)
        rintro e v4 ⟨u, rfl, hu, hlie, h1⟩
        have G4 := Lib.hid (Ext.trans G3.out h1)
        clear z0 z1 z2 z3
        have z0 := ext_row (GX.out.trans G4.out) 0 rfl
        have z1 := ext_row (GX.out.trans G4.out) 1 rfl
        have z2 := ext_row (GX.out.trans G4.out) 2 rfl
        have z3 := ext_row (GX.out.trans G4.out) 3 rfl
        have UA := Lib.hid (hlie.at trivial)
        have HU := Lib.hid hu
        clear hF h1 hu hlie
        have HUC := Lib.hid (show u.canon = a0.vmap (shiftV kk) from by rw [canon_strip HU.out, ren_canon.1])
        have HUN := Lib.hid (show u.nodes ≤ 1000000 from by rw [nodes_ren HU.out]; exact HN.out)
        have HS1 := Lib.hid (show u.size = a0.size from by
          have := congrArg Tm.size HUC.out
          unfold Tm.canon at this
          rwa [(vmap_size _).1, (vmap_size _).1] at this)
        have HS2 := Lib.hid (show u.depth = a0.depth from by
          have := congrArg Tm.depth HUC.out
          unfold Tm.canon at this
          rwa [(vmap_depth _).1, (vmap_depth _).1] at this)
        have HS3 := Lib.hid (show (addAll [] u.occ).length = vs.length from by
          have h := congrArg Tm.occ HUC.out
          unfold Tm.canon at h
          rw [(vmap_occ _).1, (vmap_occ _).1, List.map_id'] at h
          have h2 := shift_vars (l := [a0]) HKK.out HB0.out
          simp only [vmapL, occL, List.append_nil, (vmap_occ _).1] at h2
          rw [h, h2, List.length_map, HV.out])
        have HS4 := Lib.hid (fun (u2 : Tm) (h : u2.strip = (u.ren (shiftV (-kk))).strip) => show (cmpT u2 a0 == 0) = true from by
          have e : u2.canon = a0.canon := by
            rw [canon_strip h, ren_canon.1, show u.vmap (shiftV (-kk)) = u.canon.vmap (shiftV (-kk)) from ((vmap_vmap _ _).1 u).symm, HUC.out]
            have := shift_back (l := [a0]) HKK.out HB0.out
            simp only [vmapL, canonL, List.cons.injEq, and_true] at this
            exact this
          rw [cmp_iff_canon.2 e]
          rfl)
        obtain ⟨ku, nu, su, Au, cu, au⟩ := u
        simp only [Tm.val, tm_kind, tm_num, tm_name, tm_at, tm_cap, tm_args]
        clear z0 z1 z2 z3
        go_upto_region 13 with (fail)
        obtain ⟨Y, hY⟩ : ∃ Y, v4.alloc (.cells #[.int .i64 ku, .int .i64 nu, .string su, .slice Au au.length cu] 24) = Y := ⟨_, rfl⟩
        have GY := Lib.hid (show Ext (v4.alloc (.cells #[.int .i64 ku, .int .i64 nu, .string su, .slice Au au.length cu] 24)) Y from by rw [← hY]; exact Ext.refl _)
        (try rw [hY])
        clear hY
        have HS := Lib.hid (fun W (h : Ext Y W) => (⟨ext_row (GX.out.trans (Ext.trans (Ext.trans G4.out (Ext.trans (Ext.al _ _) GY.out)) h)) 0 rfl, ext_row (GX.out.trans (Ext.trans (Ext.trans G4.out (Ext.trans (Ext.al _ _) GY.out)) h)) 1 rfl, ext_row (GX.out.trans (Ext.trans (Ext.trans G4.out (Ext.trans (Ext.al _ _) GY.out)) h)) 2 rfl, ext_row (GX.out.trans (Ext.trans (Ext.trans G4.out (Ext.trans (Ext.al _ _) GY.out)) h)) 3 rfl, ext_row (GY.out.trans h) 0 rfl, ext_row (GY.out.trans h) 1 rfl, ext_row (GY.out.trans h) 2 rfl, ext_row (GY.out.trans h) 3 rfl⟩ : (fun W => W.cell? ⟨w.heap.size, 0, none⟩ = some (.int .i64 a0.kind) ∧ W.cell? ⟨w.heap.size, 1, none⟩ = some (.int .i64 a0.num) ∧ W.cell? ⟨w.heap.size, 2, none⟩ = some (.string a0.name) ∧ W.cell? ⟨w.heap.size, 3, none⟩ = some (.slice a0.at_ a0.args.length a0.cap) ∧ W.cell? ⟨v4.heap.size, 0, none⟩ = some (.int .i64 ku) ∧ W.cell? ⟨v4.heap.size, 1, none⟩ = some (.int .i64 nu) ∧ W.cell? ⟨v4.heap.size, 2, none⟩ = some (.string su) ∧ W.cell? ⟨v4.heap.size, 3, none⟩ = some (.slice Au au.length cu)) W))
        have HTY := Lib.hid (fun W (h : Ext Y W) => HT.out.below (Ext.trans (Ext.trans G4.out (Ext.trans (Ext.al _ _) GY.out)) h))
        have HUY := Lib.hid (fun W (h : Ext Y W) => UA.out.below (Ext.trans (Ext.trans (Ext.al _ _) GY.out) h))
        have BY := Lib.hid (fun W (h : Ext Y W) => BX.out W (Ext.trans (Ext.trans G4.out (Ext.trans (Ext.al _ _) GY.out)) h))
        have hng : IntKind.i64.wrap (-kk) = -kk := by rw [IntKind.wrap_i64]; have := HKK.out; omega
        have hfk : Fits (-kk) := by have := HKK.out; unfold Fits; omega
        have hdt : a0.depth ≤ 1000000 := by have := depth_nodes.1 a0; have := HN.out; omega
        have hdz := hdt
        go_region_held3 (fun W => W.cell? ⟨w.heap.size, 0, none⟩ = some (.int .i64 a0.kind) ∧ W.cell? ⟨w.heap.size, 1, none⟩ = some (.int .i64 a0.num) ∧ W.cell? ⟨w.heap.size, 2, none⟩ = some (.string a0.name) ∧ W.cell? ⟨w.heap.size, 3, none⟩ = some (.slice a0.at_ a0.args.length a0.cap) ∧ W.cell? ⟨v4.heap.size, 0, none⟩ = some (.int .i64 ku) ∧ W.cell? ⟨v4.heap.size, 1, none⟩ = some (.int .i64 nu) ∧ W.cell? ⟨v4.heap.size, 2, none⟩ = some (.string su) ∧ W.cell? ⟨v4.heap.size, 3, none⟩ = some (.slice Au au.length cu)) (first | (with_reducible exact HS.out _ (Ext.refl _)) | (with_reducible exact HS.out _ (Ext.drew _)) | (with_reducible exact HS.out _ (Ext.ald _ _)) | (with_reducible exact HS.out _ (Ext.al _ _)) | (with_reducible exact HS.out _ E1.out) | (with_reducible exact HS.out _ E2.out) | (with_reducible exact HS.out _ E3.out) | (with_reducible exact HS.out _ E4.out) | (with_reducible exact HS.out _ E5.out) | (with_reducible exact HS.out _ E6.out) | (with_reducible exact HS.out _ E7.out) | fail) (first
          | (go_at_call 12; have hF := shift_term_at (Tm.mk ku nu su Au cu au) (-kk) hfk Y.drew (HUY.out _ (Ext.drew _)) HUN.out; simp only [Tm.val, tm_kind, tm_num, tm_name, tm_at, tm_cap, tm_args] at hF; (with_reducible refine hF.mono ?_); rintro e y1 ⟨u2, rfl, hu2, hli2, h1⟩; have E1 := Lib.hid (show Ext Y y1 from Ext.trans (Ext.drew Y) h1); have W2 := Lib.hid (hli2.at trivial); have HS5 := Lib.hid (HS4.out u2 hu2); clear h1 hF hu2 hli2)
          | (go_at_call 26; have hF := same_at u2 a0 y1 W2.out (HTY.out _ E1.out) HS5.out; (with_reducible refine hF.mono ?_); rintro e y2 ⟨rfl, h1⟩; have E2 := Lib.hid (show Ext Y y2 from Ext.trans E1.out h1); clear h1 hF)
          | (go_at_call 29; have hF := size_at (Tm.mk ku nu su Au cu au) y2 (HUY.out _ E2.out) (by rw [HS1.out]; exact hsz); rw [HS1.out] at hF; simp only [Tm.val, tm_kind, tm_num, tm_name, tm_at, tm_cap, tm_args] at hF; (with_reducible refine hF.mono ?_); rintro e y3 ⟨rfl, h1⟩; have E3 := Lib.hid (show Ext Y y3 from Ext.trans E2.out h1); clear h1 hF)
          | (go_at_call 29; have hF := size_at a0 y3 (HTY.out _ E3.out) hsz; (with_reducible refine hF.mono ?_); rintro e y4 ⟨rfl, h1⟩; have E4 := Lib.hid (show Ext Y y4 from Ext.trans E3.out h1); clear h1 hF)
          | (go_at_call 30; have hF := depth_at (Tm.mk ku nu su Au cu au) y4 (HUY.out _ E4.out) (by rw [HS2.out]; exact hdt); rw [HS2.out] at hF; simp only [Tm.val, tm_kind, tm_num, tm_name, tm_at, tm_cap, tm_args] at hF; (with_reducible refine hF.mono ?_); rintro e y5 ⟨rfl, h1⟩; have E5 := Lib.hid (show Ext Y y5 from Ext.trans E4.out h1); clear h1 hF)
          | (go_at_call 30; have hF := depth_at a0 y5 (HTY.out _ E5.out) hdt; (with_reducible refine hF.mono ?_); rintro e y6 ⟨rfl, h1⟩; have E6 := Lib.hid (show Ext Y y6 from Ext.trans E5.out h1); clear h1 hF)
          | (go_at_call 31; have hF := vars_call (Tm.mk ku nu su Au cu au) y6 (HUY.out _ E6.out) (by rw [HS1.out]; exact hsz); simp only [Tm.val, tm_kind, tm_num, tm_name, tm_at, tm_cap, tm_args] at hF; (with_reducible refine hF.mono ?_); rintro e y7 ⟨v7, rfl, hown7, h1⟩; have E7 := Lib.hid (show Ext Y y7 from Ext.trans E6.out h1); obtain ⟨A7, c7, hv7, _, _⟩ := hown7.form; rw [HS3.out] at hv7; subst hv7; clear h1 hF hown7)
          | fail)
        go_wp2_with fail
        go_ret
        exact ⟨rfl, BY.out _ E7.out⟩
end Go.Proofs.Ytpnjjahimhhjkaa.variantBack
