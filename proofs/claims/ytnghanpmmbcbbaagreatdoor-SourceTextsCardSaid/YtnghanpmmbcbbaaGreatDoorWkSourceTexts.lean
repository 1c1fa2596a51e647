/-
  WkSourceTexts.
-/
import Derived.Test.YtnghanpmmbcbbaaGreatDoorMp18
import Derived.Deep.LoopGhost
import Derived.Deep.RegionHeld3
import Derived.Deep.Cut
namespace Go.Proofs.YtnghanpmmbcbbaaGreatDoor.sourceTexts
open Go.ChangeShapes Go.WideShapes Go.ChangeAt Go.RowKit Go.Sort
set_option linter.unusedVariables false
set_option maxHeartbeats 16000000 in
set_option maxRecDepth 100000 in
theorem walk (H : Writes) (a0 : Pm) (A : Option Addr) (l : List Gl) (c : Nat) (w : World) (w0 : a0.At w) (w1 : GlLst w A l c) (hL : Laid w) :
    Calls Tryz.prog 4 #[a0.val, .slice A l.length c] w fun e w' => e = .returned (.bool true) ∧ Below w.heap.size w w' := by
  obtain ⟨X, hX⟩ : ∃ X, w.alloc (.cells #[.slice a0.dA a0.decls.length a0.dc, .slice a0.rA a0.rules.length a0.rc] 35) = X := ⟨_, rfl⟩
  have H0 := Lib.hid (show HeldL w.heap.size X [.slice a0.dA a0.decls.length a0.dc, .slice a0.rA a0.rules.length a0.rc] from by rw [← hX]; exact heldL_new _ _ _)
  have HX := Lib.hid (show Ext w X from by rw [← hX]; exact below1 _ _)
  have BX := Lib.hid (fun W (h : Ext X W) => show Below w.heap.size w W from Ext.trans HX.out h)
  have HP := Lib.hid (fun W (h : Ext X W) => show a0.At W from w0.below (BX.out W h))
  have HGl := Lib.hid (fun W (h : Ext X W) => show GlLst W A l c from w1.below (BX.out W h))
  have HLd := Lib.hid (fun W (h : Ext X W) => show Laid W from hL.below (BX.out W h))
  have QE := Lib.hid (fun W (h : Ext X W) => H.example_ W (HLd.out W h))
  obtain ⟨q, hq⟩ : ∃ q, largeB a0.rules = q := ⟨_, rfl⟩
  have QG := Lib.hid (large_at a0.rules a0.rA a0.rc X (HP.out X (Ext.refl X)).rules hq)
  obtain ⟨gg, hgg⟩ : ∃ q, decide (weighGl l 600 < 0) = q := ⟨_, rfl⟩
  have QGG := Lib.hid (fun W (h : Ext X W) => great_gls_at l A c 600 W (HGl.out W h) (by omega) (by omega) hgg)
  have hld := w0.decls.len
  have hll := w1.len
  have HH := Lib.hid H
  have Hq := Lib.hid hq
  have Hgg := Lib.hid hgg
  clear w0 w1 hL hq hgg
  show Calls Tryz.prog 4 #[.agg #[.slice a0.dA a0.decls.length a0.dc, .slice a0.rA a0.rules.length a0.rc], .slice A l.length c] w _
  go_enter Tryz.func4, Tryz.ntmps4
  go_upto_region 1 with (fail)
  (try rw [hX])
  clear hX
  have a00 := H0.out.cell 0 _ rfl
  have a01 := H0.out.cell 1 _ rfl
  cases q with
  | true =>
    go_wp2_with (first
      | (go_at_call 8; (with_reducible refine QG.out.mono ?_); rintro e v1 ⟨rfl, h1⟩; have G1 := Lib.hid (show Ext X v1 from h1); have x0 := (H0.out.below h1).cell 0 _ rfl; have x1 := (H0.out.below h1).cell 1 _ rfl; clear h1)
      | (go_at_call 15; (with_reducible refine (QGG.out v1 G1.out).mono ?_); rintro e v2 ⟨rfl, h2⟩; have G2 := Lib.hid (show Ext X v2 from Ext.trans G1.out h2); clear h2)
      | (go_at_call 9; (with_reducible refine (QE.out _ G1.out).mono ?_); rintro e v3 ⟨rfl, h3⟩; have G3 := Lib.hid (show Ext X v3 from Ext.trans G1.out h3); clear h3)
      | fail)
    go_ret
    exact ⟨rfl, BX.out _ G3.out⟩
  | false =>
  by_cases d60 : 60 < a0.decls.length
  · have d60' : decide ((60 : Int) < (a0.decls.length : Int)) = true := by simp; omega
    go_wp2_with (first
      | (go_at_call 8; (with_reducible refine QG.out.mono ?_); rintro e v1 ⟨rfl, h1⟩; have G1 := Lib.hid (show Ext X v1 from h1); have x0 := (H0.out.below h1).cell 0 _ rfl; have x1 := (H0.out.below h1).cell 1 _ rfl; clear h1)
      | (go_at_call 15; (with_reducible refine (QGG.out v1 G1.out).mono ?_); rintro e v2 ⟨rfl, h2⟩; have G2 := Lib.hid (show Ext X v2 from Ext.trans G1.out h2); clear h2)
      | (go_at_call 9; (with_reducible refine (QE.out _ G1.out).mono ?_); rintro e v3 ⟨rfl, h3⟩; have G3 := Lib.hid (show Ext X v3 from Ext.trans G1.out h3); clear h3)
      | fail)
    go_ret
    exact ⟨rfl, BX.out _ G3.out⟩
  have d60' : decide ((60 : Int) < (a0.decls.length : Int)) = false := by simp; omega
  by_cases l60 : 60 < l.length
  · have l60' : decide ((60 : Int) < (l.length : Int)) = true := by simp; omega
    go_wp2_with (first
      | (go_at_call 8; (with_reducible refine QG.out.mono ?_); rintro e v1 ⟨rfl, h1⟩; have G1 := Lib.hid (show Ext X v1 from h1); have x0 := (H0.out.below h1).cell 0 _ rfl; have x1 := (H0.out.below h1).cell 1 _ rfl; clear h1)
      | (go_at_call 15; (with_reducible refine (QGG.out v1 G1.out).mono ?_); rintro e v2 ⟨rfl, h2⟩; have G2 := Lib.hid (show Ext X v2 from Ext.trans G1.out h2); clear h2)
      | (go_at_call 9; (with_reducible refine (QE.out _ G1.out).mono ?_); rintro e v3 ⟨rfl, h3⟩; have G3 := Lib.hid (show Ext X v3 from Ext.trans G1.out h3); clear h3)
      | fail)
    go_ret
    exact ⟨rfl, BX.out _ G3.out⟩
  have l60' : decide ((60 : Int) < (l.length : Int)) = false := by simp; omega
  cases gg with
  | true =>
    go_wp2_with (first
      | (go_at_call 8; (with_reducible refine QG.out.mono ?_); rintro e v1 ⟨rfl, h1⟩; have G1 := Lib.hid (show Ext X v1 from h1); have x0 := (H0.out.below h1).cell 0 _ rfl; have x1 := (H0.out.below h1).cell 1 _ rfl; clear h1)
      | (go_at_call 15; (with_reducible refine (QGG.out v1 G1.out).mono ?_); rintro e v2 ⟨rfl, h2⟩; have G2 := Lib.hid (show Ext X v2 from Ext.trans G1.out h2); clear h2)
      | (go_at_call 9; (with_reducible refine (QE.out _ G2.out).mono ?_); rintro e v3 ⟨rfl, h3⟩; have G3 := Lib.hid (show Ext X v3 from Ext.trans G2.out h3); clear h3)
      | fail)
    go_ret
    exact ⟨rfl, BX.out _ G3.out⟩
  | false =>
  have HTi := Lib.hid (large_tiny Hq.out)
  have HNo := Lib.hid (show ∀ x ∈ l, nodesL x.args ≤ 600 from fun x hx => by
    have h := (weighGl_facts l 600 (by have := Hgg.out; simp at this; omega)).2 x hx
    omega)
  have HLe := Lib.hid (show a0.decls.length ≤ 60 ∧ l.length ≤ 60 from ⟨by omega, by omega⟩)
  clear d60 l60
  go_wp2_with (first
      | (go_at_call 8; (with_reducible refine QG.out.mono ?_); rintro e v1 ⟨rfl, h1⟩; have G1 := Lib.hid (show Ext X v1 from h1); have x0 := (H0.out.below h1).cell 0 _ rfl; have x1 := (H0.out.below h1).cell 1 _ rfl; clear h1)
      | (go_at_call 15; (with_reducible refine (QGG.out v1 G1.out).mono ?_); rintro e v2 ⟨rfl, h2⟩; have G2 := Lib.hid (show Ext X v2 from Ext.trans G1.out h2); clear h2)
      | (go_at_call 9; (with_reducible refine (QE.out _ G2.out).mono ?_); rintro e v3 ⟨rfl, h3⟩; have G3 := Lib.hid (show Ext X v3 from Ext.trans G2.out h3); clear h3)
      | fail)
  have y0 := (H0.out.below G2.out).cell 0 _ rfl
  have y1 := (H0.out.below G2.out).cell 1 _ rfl
  clear a00 a01 x0 x1 QG QGG
  go_loopg [5] a0.decls.length (fun gk i wr => ∃ j : Nat, j ≤ a0.decls.length ∧ i = .int .i64 (j : Int) ∧ wr = v2 ∧ Hid (∀ d ∈ a0.decls.take j, d.name.size ≤ 100) ∧ Hid (a0.decls.length - j ≤ gk))
  case atStart => exact ⟨0, Nat.zero_le _, rfl, rfl, Lib.hid (fun d hd => by simp at hd), Lib.hid (by omega)⟩
  case round =>
    obtain ⟨j, hj, rfl, hW, HA, HG⟩ := hrel
    have hW' := hW.symm
    subst hW'
    clear hW
    by_cases hlt : j < a0.decls.length
    · obtain ⟨b, o, hAd, hcs, hda⟩ := (HP.out _ G2.out).decls.get hlt
      rw [hAd] at y0
      clear hAd
      have HNx := Lib.hid (dc_take_next hlt)
      have c0 := hcs 0 _ rfl
      simp only [Nat.add_zero] at c0
      have hsz : (a0.decls.getD j default).name.size ≤ 9223372036854775807 := by have := hda.1; unfold maxLen at this; exact this
      clear hcs hda
      generalize a0.decls.getD j default = d at *
      obtain ⟨nm, ar⟩ := d
      simp only at c0 hsz
      by_cases h100 : 100 < nm.size
      · have h100' : decide ((100 : Int) < (nm.size : Int)) = true := by simp; omega
        go_wp2_with (first
      | (go_at_call 8; (with_reducible refine QG.out.mono ?_); rintro e v1 ⟨rfl, h1⟩; have G1 := Lib.hid (show Ext X v1 from h1); have x0 := (H0.out.below h1).cell 0 _ rfl; have x1 := (H0.out.below h1).cell 1 _ rfl; clear h1)
      | (go_at_call 15; (with_reducible refine (QGG.out v1 G1.out).mono ?_); rintro e v2 ⟨rfl, h2⟩; have G2 := Lib.hid (show Ext X v2 from Ext.trans G1.out h2); clear h2)
      | (go_at_call 9; (with_reducible refine (QE.out _ G2.out).mono ?_); rintro e v3 ⟨rfl, h3⟩; have G3 := Lib.hid (show Ext X v3 from Ext.trans G2.out h3); clear h3)
      | fail)
        go_ret
        exact ⟨rfl, BX.out _ G3.out⟩
      · have h100' : decide ((100 : Int) < (nm.size : Int)) = false := by simp; omega
        have HA2 := Lib.hid (show ∀ d ∈ a0.decls.take (j + 1), d.name.size ≤ 100 from fun d hd => by
          rw [HNx.out] at hd
          rcases List.mem_append.1 hd with h | h
          · exact HA.out d h
          · rw [List.mem_singleton.1 h]; exact Nat.le_of_not_lt h100)
        clear HA HNx h100
        go_wp2_with fail
        have hgk := HG.out
        go_roundg (gk - 1)
        case measure => omega
        case rel => exact ⟨j + 1, by omega, by go_num, rfl, HA2, Lib.hid (by omega)⟩
    · obtain rfl : j = a0.decls.length := by omega
      have HAll := Lib.hid (show ∀ d ∈ a0.decls, d.name.size ≤ 100 from by have := HA.out; rwa [List.take_of_length_le (Nat.le_refl _)] at this)
      have Q1 := Lib.hid (fun W (h : Ext X W) => HH.out.program a0 W (HP.out W h) HLe.out.1 HTi.out.1 HTi.out.2 (HLd.out W h))
      have Q2 := Lib.hid (fun W (h : Ext X W) => src_program_at a0 W (HP.out W h) HAll.out (fun r hr => ⟨(HTi.out.2 r hr).1, by have := (HTi.out.2 r hr).2; omega⟩))
      have Q3 := Lib.hid (fun W (h : Ext X W) => HH.out.goals l A c W (HGl.out W h) HLe.out.2 HNo.out (HLd.out W h))
      have Q4 := Lib.hid (fun W (h : Ext X W) => src_goals_at l A c W (HGl.out W h) (by have := HLe.out.2; omega) (fun x hx => by have h1 := HNo.out x hx; have h2 := size_nodes.2 x.args; omega))
      obtain ⟨s, hs⟩ : ∃ s, a0.src = s := ⟨_, rfl⟩
      obtain ⟨t, ht⟩ : ∃ s, goalsSrc l = s := ⟨_, rfl⟩
      rw [hs] at Q1 Q2
      rw [ht] at Q3 Q4
      clear hs ht HA HG hlt hj
      go_upto_region 8 with (fail)
      clear y0 y1
      have HS := Lib.hid (fun W (h : Ext v2 W) => (⟨(H0.out.below (Ext.trans G2.out h)).cell 0 _ rfl, (H0.out.below (Ext.trans G2.out h)).cell 1 _ rfl⟩ : (fun W => W.cell? ⟨w.heap.size, 0, none⟩ = some (.slice a0.dA a0.decls.length a0.dc) ∧ W.cell? ⟨w.heap.size, 1, none⟩ = some (.slice a0.rA a0.rules.length a0.rc)) W))
      go_region_held3 (fun W => W.cell? ⟨w.heap.size, 0, none⟩ = some (.slice a0.dA a0.decls.length a0.dc) ∧ W.cell? ⟨w.heap.size, 1, none⟩ = some (.slice a0.rA a0.rules.length a0.rc)) (first | (with_reducible exact HS.out _ (Ext.drew _)) | (with_reducible exact HS.out _ E1.out) | (with_reducible exact HS.out _ E2.out) | (with_reducible exact HS.out _ E3.out) | (with_reducible exact HS.out _ E4.out) | (with_reducible exact HS.out _ E5.out) | fail) (first
        | (go_at_call 16; have hF := Q1.out v2.drew (Ext.trans G2.out (Ext.drew _)); (with_reducible refine hF.mono ?_); rintro e y1 ⟨rfl, h1⟩; have E1 := Lib.hid (show Ext v2 y1 from Ext.trans (Ext.drew _) h1); clear h1 hF)
        | (go_at_call 17; have hF := Q2.out y1 (Ext.trans G2.out E1.out); (with_reducible refine hF.mono ?_); rintro e y2 ⟨rfl, h1⟩; have E2 := Lib.hid (show Ext v2 y2 from Ext.trans E1.out h1); clear h1 hF)
        | (go_at_call 18; have hF := Q3.out y2 (Ext.trans G2.out E2.out); (with_reducible refine hF.mono ?_); rintro e y3 ⟨rfl, h1⟩; have E3 := Lib.hid (show Ext v2 y3 from Ext.trans E2.out h1); clear h1 hF)
        | (go_at_call 19; have hF := Q4.out y3 (Ext.trans G2.out E3.out); (with_reducible refine hF.mono ?_); rintro e y4 ⟨rfl, h1⟩; have E4 := Lib.hid (show Ext v2 y4 from Ext.trans E3.out h1); clear h1 hF)
        | (go_at_call 9; have hF := QE.out y4 (Ext.trans G2.out E4.out); (with_reducible refine hF.mono ?_); rintro e y5 ⟨rfl, h1⟩; have E5 := Lib.hid (show Ext v2 y5 from Ext.trans E4.out h1); clear h1 hF)
        | fail)
      go_wp2_with fail
      go_ret
      exact ⟨rfl, BX.out _ (Ext.trans G2.out E5.out)⟩
end Go.Proofs.YtnghanpmmbcbbaaGreatDoor.sourceTexts
