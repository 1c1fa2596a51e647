/-
  WkSourceNumbers.
-/
import Derived.Test.YtnghanpmmbcbbaaGreatDoorMp12
import Derived.Test.YtnghanpmmbcbbaaGreatDoorMp9
import Derived.Test.YtnghanpmmbcbbaaGreatDoorMp8
import Derived.Test.YtnghanpmmbcbbaaGreatDoorMp11
import Derived.Deep.LoopGhost
import Derived.Deep.CutBlock
import Derived.Deep.RegionHeld3
import Derived.Deep.Cut
namespace Go.Proofs.YtnghanpmmbcbbaaGreatDoor.sourceNumbers
open Go.ChangeShapes Go.WideShapes Go.ChangeAt Go.RowKit Go.Sort
set_option linter.unusedVariables false
set_option maxHeartbeats 16000000 in
set_option maxRecDepth 100000 in
theorem walk {P : World → Prop} (H : WritesN P) (a0 : Rl) (a1 : Int) (w : World) (w0 : a0.At w) (w1 : Fits a1) (hP : P w) :
    Calls Tryz.prog 6 #[a0.val, .int .i64 a1] w fun e w' => e = .returned (.bool true) ∧ Below w.heap.size w w' := by
  obtain ⟨q, hq⟩ : ∃ q, largeB [a0] = q := ⟨_, rfl⟩
  obtain ⟨X, hX⟩ : ∃ X, w.alloc (.cells #[.string a0.name, .slice a0.kA a0.keep.length a0.kc, .slice a0.rA a0.remove.length a0.rc, .slice a0.gA a0.guard.length a0.gc, .slice a0.bA a0.body.length a0.bc, .int .i64 a0.vars] 25) = X := ⟨_, rfl⟩
  have GX := Lib.hid (show Ext (w.alloc (.cells #[.string a0.name, .slice a0.kA a0.keep.length a0.kc, .slice a0.rA a0.remove.length a0.rc, .slice a0.gA a0.guard.length a0.gc, .slice a0.bA a0.body.length a0.bc, .int .i64 a0.vars] 25)) X from by rw [← hX]; exact Ext.refl _)
  have BX := Lib.hid (fun W (h : Ext X W) => show Below w.heap.size w W from Ext.trans (Ext.al _ _) (GX.out.trans h))
  have HT := Lib.hid (show a0.At X from by rw [← hX]; exact w0.below (Ext.al _ _))
  have QG := Lib.hid (show Calls Tryz.prog 8 #[.slice (some ⟨X.heap.size, 0, none⟩) 1 1] (X.alloc (.cells #[.string a0.name, .slice a0.kA a0.keep.length a0.kc, .slice a0.rA a0.remove.length a0.rc, .slice a0.gA a0.guard.length a0.gc, .slice a0.bA a0.body.length a0.bc, .int .i64 a0.vars] 25)) (fun e w' => e = .returned (.bool q) ∧ Ext (X.alloc (.cells #[.string a0.name, .slice a0.kA a0.keep.length a0.kc, .slice a0.rA a0.remove.length a0.rc, .slice a0.gA a0.guard.length a0.gc, .slice a0.bA a0.body.length a0.bc, .int .i64 a0.vars] 25)) w') from large_at [a0] (some ⟨X.heap.size, 0, none⟩) 1 _ (one_rule a0 X HT.out) hq)
  have QE := Lib.hid (fun W (h : Ext X W) => H.example_ W (H.below hP (BX.out W h)))
  have z0 := ext_row GX.out 0 rfl
  have z1 := ext_row GX.out 1 rfl
  have z2 := ext_row GX.out 2 rfl
  have z3 := ext_row GX.out 3 rfl
  have z4 := ext_row GX.out 4 rfl
  have z5 := ext_row GX.out 5 rfl
  have HH := Lib.hid H
  cases q with
  | true =>
    clear hq w0 w1 hP
    go_enter Tryz.func6, Tryz.ntmps6
    go_upto_region 1 with (fail)
    (try rw [hX])
    clear hX
    go_wp2_with (first
      | (go_at_call 8; (with_reducible refine QG.out.mono ?_); rintro e v1 ⟨rfl, h1⟩; have G1 := Lib.hid (show Ext X v1 from Ext.trans (Ext.al _ _) h1); clear h1)
      | (go_at_call 9; (with_reducible refine (QE.out v1 G1.out).mono ?_); rintro e v2 ⟨rfl, h1⟩; have G2 := Lib.hid (show Ext X v2 from Ext.trans G1.out h1); clear h1)
      | fail)
    go_ret
    exact ⟨rfl, BX.out _ G2.out⟩
  | false =>
  by_cases k0 : a1 < 0
  · clear hq w0 w1 hP
    go_enter Tryz.func6, Tryz.ntmps6
    go_upto_region 1 with (fail)
    (try rw [hX])
    clear hX
    go_wp2_with (first
      | (go_at_call 8; (with_reducible refine QG.out.mono ?_); rintro e v1 ⟨rfl, h1⟩; have G1 := Lib.hid (show Ext X v1 from Ext.trans (Ext.al _ _) h1); clear h1)
      | (go_at_call 9; (with_reducible refine (QE.out v1 G1.out).mono ?_); rintro e v2 ⟨rfl, h1⟩; have G2 := Lib.hid (show Ext X v2 from Ext.trans G1.out h1); clear h1)
      | fail)
    go_ret
    exact ⟨rfl, BX.out _ G2.out⟩
  by_cases k9 : 1048576 < a1
  · clear hq w0 w1 hP
    go_enter Tryz.func6, Tryz.ntmps6
    go_upto_region 1 with (fail)
    (try rw [hX])
    clear hX
    go_wp2_with (first
      | (go_at_call 8; (with_reducible refine QG.out.mono ?_); rintro e v1 ⟨rfl, h1⟩; have G1 := Lib.hid (show Ext X v1 from Ext.trans (Ext.al _ _) h1); clear h1)
      | (go_at_call 9; (with_reducible refine (QE.out v1 G1.out).mono ?_); rintro e v2 ⟨rfl, h1⟩; have G2 := Lib.hid (show Ext X v2 from Ext.trans G1.out h1); clear h1)
      | fail)
    go_ret
    exact ⟨rfl, BX.out _ G2.out⟩
  obtain ⟨ht, hn⟩ := (large_tiny hq).2 a0 (by simp)
  have QN := Lib.hid (fun W (h : Ext X W) => H.number a0 X W HT.out h ht hn)
  have HTi := Lib.hid ht
  have HNm := Lib.hid hn
  have HFk := Lib.hid w1
  have Hk := Lib.hid (show 0 ≤ a1 ∧ a1 ≤ 1048576 from ⟨by omega, by omega⟩)
  have HV0 := Lib.hid (show a0.vs.length ≤ 360000 from by have h1 := varsL_len a0.ts; have h2 := ht.nodes; unfold Rl.vs; omega)
  have QT0 := Lib.hid (fun W (h : Ext X W) => sterms_at a0 W (HT.out.below h) ht)
  have QV0 := Lib.hid (fun (A : Option Addr) (c : Nat) (W : World) (hl : Lst W A a0.ts c) => show Calls Tryz.prog 23 #[.slice A a0.ts.length c] W (Grows W a0.vs) from ref_vars_of_at a0.ts A c W hl (by have := size_nodes.2 a0.ts; have := ht.nodes; omega))
  clear hq w0 w1 hP ht hn
  go_enter Tryz.func6, Tryz.ntmps6
  go_upto_region 1 with (fail)
  (try rw [hX])
  clear hX
  go_upto_region 4 with (first
    | (go_at_call 8; (with_reducible refine QG.out.mono ?_); rintro e v1 ⟨rfl, h1⟩; have G1 := Lib.hid (show Ext X v1 from Ext.trans (Ext.al _ _) h1); have x0 := ext_row (GX.out.trans G1.out) 0 rfl; have x1 := ext_row (GX.out.trans G1.out) 1 rfl; have x2 := ext_row (GX.out.trans G1.out) 2 rfl; have x3 := ext_row (GX.out.trans G1.out) 3 rfl; have x4 := ext_row (GX.out.trans G1.out) 4 rfl; have x5 := ext_row (GX.out.trans G1.out) 5 rfl; clear h1)
    | (go_at_call 13; (with_reducible refine (QN.out v1 G1.out).mono ?_); rintro e y1 ⟨u, rfl, hu, htu, hat, hb⟩; have HU := Lib.hid hu; have HUt := Lib.hid htu; have Y1 := Lib.hid (show Ext X y1 from Ext.trans G1.out hb); have HUa := Lib.hid (hat y1 Y1.out (Agree.refl _ _ _)); clear hu htu hat hb)
    | fail)
  clear z0 z1 z2 z3 z4 z5 x0 x1 x2 x3 x4 x5 QN QG
  obtain ⟨Z1, hZ1⟩ : ∃ Z1, y1.alloc (.cells #[.string u.name, .slice u.kA u.keep.length u.kc, .slice u.rA u.remove.length u.rc, .slice u.gA u.guard.length u.gc, .slice u.bA u.body.length u.bc, .int .i64 u.vars] 25) = Z1 := ⟨_, rfl⟩
  have H5 := Lib.hid (show HeldL y1.heap.size Z1 [.string u.name, .slice u.kA u.keep.length u.kc, .slice u.rA u.remove.length u.rc, .slice u.gA u.guard.length u.gc, .slice u.bA u.body.length u.bc, .int .i64 u.vars] from by rw [← hZ1]; exact heldL_new _ _ _)
  have YZ := Lib.hid (show Ext y1 Z1 from by rw [← hZ1]; exact Ext.al _ _)
  rw [hZ1]
  clear hZ1
  have XZ := Lib.hid (Ext.trans Y1.out YZ.out)
  have HUz := Lib.hid (fun W (h : Ext Z1 W) => show u.At W from HUa.out.below (Ext.trans YZ.out h))
  have QT := Lib.hid (fun W (h : Ext Z1 W) => sterms_at u W (HUz.out W h) HUt.out)
  have QV := Lib.hid (fun (A : Option Addr) (c : Nat) (W : World) (hl : Lst W A u.ts c) => show Calls Tryz.prog 23 #[.slice A u.ts.length c] W (Grows W u.vs) from ref_vars_of_at u.ts A c W hl (by have := size_nodes.2 u.ts; have := HUt.out.nodes; omega))
  have HVl := Lib.hid (can_vars HU.out)
  have HVu := Lib.hid (upto_vs HU.out)
  have k0 := (H5.out).cell 0 _ rfl; have k1 := (H5.out).cell 1 _ rfl; have k2 := (H5.out).cell 2 _ rfl; have k3 := (H5.out).cell 3 _ rfl; have k4 := (H5.out).cell 4 _ rfl; have k5 := (H5.out).cell 5 _ rfl;
  go_wp2_with fail
  refine (QT.out Z1 (Ext.refl Z1)).mono ?_
  rintro e y2 ⟨A2, c2, l2, rfl, rfl, hl2, hb⟩
  have E2 := Lib.hid (show Ext Z1 y2 from hb)
  have QV2 := Lib.hid (QV.out A2 c2 y2 hl2)
  clear hb hl2 QV QT k0 k1 k2 k3 k4 k5
  go_wp2_with fail
  refine QV2.out.mono ?_
  rintro e y3 ⟨v, rfl, hown, hb⟩
  obtain ⟨V, cv, rfl, hI, _⟩ := hown.form
  have E3 := Lib.hid (show Ext Z1 y3 from Ext.trans E2.out hb)
  have HI := Lib.hid (fun W (h : Ext y3 W) => show Ints W V u.vs from hI.below h)
  clear hown hb hI QV2
  have m5 := (H5.out.below E3.out).cell 5 _ rfl
  have hv1 : u.vars = ((u.vs.length : Nat) : Int) := by rw [HVl.out.1, HVl.out.2]
  rw [hv1] at m5
  clear hv1
  have r0 := ext_row (GX.out.trans (Ext.trans XZ.out E3.out)) 0 rfl
  have r1 := ext_row (GX.out.trans (Ext.trans XZ.out E3.out)) 1 rfl
  have r2 := ext_row (GX.out.trans (Ext.trans XZ.out E3.out)) 2 rfl
  have r3 := ext_row (GX.out.trans (Ext.trans XZ.out E3.out)) 3 rfl
  have r4 := ext_row (GX.out.trans (Ext.trans XZ.out E3.out)) 4 rfl
  have r5 := ext_row (GX.out.trans (Ext.trans XZ.out E3.out)) 5 rfl
  go_wp2_with fail
  refine (QT0.out y3 (Ext.trans XZ.out E3.out)).mono ?_
  rintro e y4 ⟨A4, c4, l4, rfl, rfl, hl4, hb⟩
  have E4 := Lib.hid (show Ext y3 y4 from hb)
  have QV4 := Lib.hid (QV0.out A4 c4 y4 hl4)
  clear hb hl4 QV0 QT0 r0 r1 r2 r3 r4 r5
  go_wp2_with fail
  refine QV4.out.mono ?_
  rintro e y5 ⟨v, rfl, hown, hb⟩
  obtain ⟨V5, c5, rfl, _, _⟩ := hown.form
  have E5 := Lib.hid (show Ext y3 y5 from Ext.trans E4.out hb)
  have hvl := HVl.out.2
  rw [← hvl]
  have hvn : u.vs.length ≤ 360000 := by rw [hvl]; exact HV0.out
  have HVn := Lib.hid hvn
  clear hown hb QV4 hvl hvn
  go_wp2_with fail
  go_loopg [7] u.vs.length (fun gk i wr => ∃ j : Nat, j ≤ u.vs.length ∧ i = .int .i64 (j : Int) ∧ wr = y5 ∧ Hid (u.vs.length - j ≤ gk))
  case atStart => exact ⟨0, Nat.zero_le _, rfl, rfl, Lib.hid (by omega)⟩
  case round =>
    obtain ⟨j, hj, rfl, hW, HG⟩ := hrel
    have hW' := hW.symm
    subst hW'
    clear hW m5
    have hvn : u.vs.length ≤ 9223372036854775807 := by have := HVn.out; omega
    by_cases hlt : j < u.vs.length
    · obtain ⟨b, o, rfl, hc⟩ := (HI.out _ E5.out).get hlt
      have hjv : u.vs.getD j 0 = (j : Int) := by
        have hr : j < a0.vs.length := by have := HVl.out.2; omega
        rw [HVu.out]
        simp [List.getD, hr]
      rw [hjv] at hc
      clear hjv
      go_wp2_with fail
      have hgk := HG.out
      go_roundg (gk - 1)
      case measure => omega
      case rel => exact ⟨j + 1, by omega, by go_num, rfl, Lib.hid (by omega)⟩
    · obtain rfl : j = u.vs.length := by omega
      clear hlt hj HG
      have Z5 := Lib.hid (show Ext Z1 y5 from Ext.trans E3.out E5.out)
      have X5 := Lib.hid (show Ext X y5 from Ext.trans XZ.out Z5.out)
      have HU5 := Lib.hid (fun W (g : Ext y5 W) => HUz.out W (Ext.trans Z5.out g))
      have HNu := Lib.hid (show u.name.size ≤ 2500 from by rw [HU.out.name]; exact HNm.out)
      have HSu := Lib.hid (can_short HU.out HTi.out)
      have QN5 := Lib.hid (fun W (g : Ext y5 W) => HH.out.number u y5 W (HU5.out y5 (Ext.refl _)) g HUt.out HNu.out)
      have HS := Lib.hid (fun W (h : Ext y5 W) => (⟨(H5.out.below (Ext.trans Z5.out h)).cell 0 _ rfl, (H5.out.below (Ext.trans Z5.out h)).cell 1 _ rfl, (H5.out.below (Ext.trans Z5.out h)).cell 2 _ rfl, (H5.out.below (Ext.trans Z5.out h)).cell 3 _ rfl, (H5.out.below (Ext.trans Z5.out h)).cell 4 _ rfl, (H5.out.below (Ext.trans Z5.out h)).cell 5 _ rfl⟩ : (fun W => W.cell? ⟨y1.heap.size, 0, none⟩ = some (.string u.name) ∧ W.cell? ⟨y1.heap.size, 1, none⟩ = some (.slice u.kA u.keep.length u.kc) ∧ W.cell? ⟨y1.heap.size, 2, none⟩ = some (.slice u.rA u.remove.length u.rc) ∧ W.cell? ⟨y1.heap.size, 3, none⟩ = some (.slice u.gA u.guard.length u.gc) ∧ W.cell? ⟨y1.heap.size, 4, none⟩ = some (.slice u.bA u.body.length u.bc) ∧ W.cell? ⟨y1.heap.size, 5, none⟩ = some (.int .i64 u.vars)) W))
      go_upto_region 12 with (fail)
      go_region_held3 (fun W => W.cell? ⟨y1.heap.size, 0, none⟩ = some (.string u.name) ∧ W.cell? ⟨y1.heap.size, 1, none⟩ = some (.slice u.kA u.keep.length u.kc) ∧ W.cell? ⟨y1.heap.size, 2, none⟩ = some (.slice u.rA u.remove.length u.rc) ∧ W.cell? ⟨y1.heap.size, 3, none⟩ = some (.slice u.gA u.guard.length u.gc) ∧ W.cell? ⟨y1.heap.size, 4, none⟩ = some (.slice u.bA u.body.length u.bc) ∧ W.cell? ⟨y1.heap.size, 5, none⟩ = some (.int .i64 u.vars)) (first | (with_reducible exact HS.out _ (Ext.drew _)) | (with_reducible exact HS.out _ N1.out) | (with_reducible exact HS.out _ N2.out) | fail) (first
        | (go_at_call 13; have hF := QN5.out y5.drew (Ext.drew _); (with_reducible refine hF.mono ?_); rintro e n1 ⟨v, rfl, hv, hvt, hat, h1⟩; have N1 := Lib.hid (show Ext y5 n1 from Ext.trans (Ext.drew _) h1); have LV := Lib.hid hv; have VA := Lib.hid (hat n1 N1.out (Agree.refl _ _ _)); clear h1 hF hv hvt hat)
        | (go_at_call 12; have hF := ssame_rule_at v u n1 (can_short LV.out HUt.out) VA.out (HU5.out n1 N1.out) (can_again HU.out LV.out).same; (with_reducible refine hF.mono ?_); rintro e n2 ⟨rfl, h1⟩; have N2 := Lib.hid (show Ext y5 n2 from Ext.trans N1.out h1); clear h1 hF)
        | fail)
      go_upto_region 14 with (fail)
      have HS2 := Lib.hid (fun W (h : Ext n2 W) => HS.out W (Ext.trans N2.out h))
      have QSh := Lib.hid (fun W (g : Ext y5 W) => ref_shift_rule_at u a1 HFk.out W (HU5.out W g) HUt.out.small)
      have HInj := Lib.hid (show ∀ a ∈ u.vs, ∀ b ∈ u.vs, shiftV a1 a = shiftV a1 b → a = b from by
        have hs : ∀ v ∈ u.vs, 0 ≤ v ∧ v ≤ 360000 := fun v hv => by
          rw [HVu.out] at hv
          obtain ⟨i, hi, rfl⟩ := List.mem_map.1 hv
          have h1 := List.mem_range.1 hi
          have h2 := HV0.out
          omega
        intro a ha b hb e
        have h1 := hs a ha
        have h2 := hs b hb
        have h3 := Hk.out
        unfold shiftV at e
        rw [if_pos (by omega), if_pos (by omega)] at e
        omega)
      go_region_held3 (fun W => W.cell? ⟨y1.heap.size, 0, none⟩ = some (.string u.name) ∧ W.cell? ⟨y1.heap.size, 1, none⟩ = some (.slice u.kA u.keep.length u.kc) ∧ W.cell? ⟨y1.heap.size, 2, none⟩ = some (.slice u.rA u.remove.length u.rc) ∧ W.cell? ⟨y1.heap.size, 3, none⟩ = some (.slice u.gA u.guard.length u.gc) ∧ W.cell? ⟨y1.heap.size, 4, none⟩ = some (.slice u.bA u.body.length u.bc) ∧ W.cell? ⟨y1.heap.size, 5, none⟩ = some (.int .i64 u.vars)) (first | (with_reducible exact HS2.out _ (Ext.drew _)) | (with_reducible exact HS2.out _ M1.out) | (with_reducible exact HS2.out _ M2.out) | (with_reducible exact HS2.out _ M3.out) | (with_reducible exact HS2.out _ M4.out) | fail) (first
        | (go_at_call 25; have hF := QSh.out n2.drew (Ext.trans N2.out (Ext.drew _)); (with_reducible refine hF.mono ?_); rintro e s1 ⟨z, rfl, hz, hza, h1⟩; have M1 := Lib.hid (show Ext n2 s1 from Ext.trans (Ext.drew _) h1); have LZ := Lib.hid hz; have ZA := Lib.hid hza; clear h1 hF hz hza)
        | (go_at_call 13; have hF := HH.out.number z s1 s1 ZA.out (Below.refl _ _) (like_tiny LZ.out HUt.out) (by rw [LZ.out.name]; exact HNu.out); (with_reducible refine hF.mono ?_); rintro e s2 ⟨v2, rfl, hv, hvt, hat, h1⟩; have M2 := Lib.hid (show Ext n2 s2 from Ext.trans M1.out h1); have LV2 := Lib.hid hv; have VA2 := Lib.hid (hat s2 h1 (Agree.refl _ _ _)); clear h1 hF hv hvt hat)
        | (go_at_call 12; have hF := ssame_rule_at v2 u s2 (can_short LV2.out (like_tiny LZ.out HUt.out)) VA2.out (HU5.out s2 (Ext.trans N2.out M2.out)) (can_shifted (g := shiftV a1) (n := u.vars) HU.out ⟨LZ.out.name, LZ.out.keep, LZ.out.remove, LZ.out.guard, LZ.out.body⟩ LZ.out.vars LV2.out HInj.out).same; (with_reducible refine hF.mono ?_); rintro e s3 ⟨rfl, h1⟩; have M3 := Lib.hid (show Ext n2 s3 from Ext.trans M2.out h1); clear h1 hF)
        | (go_at_call 9; have hF := QE.out s3 (Ext.trans X5.out (Ext.trans N2.out M3.out)); (with_reducible refine hF.mono ?_); rintro e s4 ⟨rfl, h1⟩; have M4 := Lib.hid (show Ext n2 s4 from Ext.trans M3.out h1); clear h1 hF)
        | fail)
      go_wp2_with fail
      go_ret
      exact ⟨rfl, BX.out _ (Ext.trans X5.out (Ext.trans N2.out M4.out))⟩
end Go.Proofs.YtnghanpmmbcbbaaGreatDoor.sourceNumbers
