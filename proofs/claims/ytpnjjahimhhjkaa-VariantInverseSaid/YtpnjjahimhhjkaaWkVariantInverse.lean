/-
  The walk of VariantInverse.
-/
import Derived.Test.YtpnjjahimhhjkaaVlInv
namespace Go.Proofs.Ytpnjjahimhhjkaa.variantInverse
open Go.ChangeShapes Go.WideShapes Go.ChangeAt Go.RowKit Go.Sort
set_option linter.unusedVariables false

set_option maxHeartbeats 16000000 in
set_option maxRecDepth 100000 in
theorem walk (A0 : Option Addr) (a0 : List Tm) (c0 : Nat) (w : World) (w0 : Lst w A0 a0 c0) :
    Calls Try.prog 6 #[.slice A0 a0.length c0] w fun e w' => e = .returned (.bool true) ∧ Below w.heap.size w w' := by
  obtain ⟨q, hq⟩ : ∃ r, decide (weigh a0 400 64 < 0) = r := ⟨_, rfl⟩
  have QG := Lib.hid (fun W (h : Ext w W) => great_below a0 A0 c0 400 W (w0.below h) (by omega) (by omega) hq)
  cases q with
  | true =>
    clear hq w0
    go_enter Try.func6, Try.ntmps6
    go_wp2_with fail
    have hF := live_at w
    (with_reducible refine hF.mono ?_)
    rintro e v1 ⟨rfl, h1⟩
    have G1 := Lib.hid (Ext.trans (Ext.refl w) h1)
    clear hF h1 
    go_wp2_with fail
    have hF := QG.out _ G1.out
    (with_reducible refine hF.mono ?_)
    rintro e v2 ⟨rfl, h1⟩
    have G2 := Lib.hid (Ext.trans G1.out h1)
    clear hF h1 
    go_wp2_with fail
    go_ret
    exact ⟨rfl, G2.out⟩
  | false =>
    have hn : nodesL a0 ≤ 1000000 := by have := not_great hq; omega
    have HN := Lib.hid hn
    have hvl : (varsL a0).length ≤ 1000000 := by have := varsL_len a0; omega
    have HWL := Lib.hid (fun W (h : Ext w W) => w0.below h)
    have Q1 := Lib.hid (fun W (h : Ext w W) => number_at a0 A0 c0 W (w0.below h) hn)
    have HVN := Lib.hid (fun (m : List Tm) (h : stripL m = stripL (renL a0 (plc (varsL a0)))) => vars_numbered h)
    have HAG := Lib.hid (fun (m y : List Tm) (h : stripL m = stripL (renL a0 (plc (varsL a0)))) (hy : stripL y = stripL (renL m (plc (varsL m)))) => again_numbered h hy)
    have HTP := Lib.hid (fun (m : List Tm) (h : stripL m = stripL (renL a0 (plc (varsL a0)))) => top_numbered h hvl)
    have HND := Lib.hid (fun (m : List Tm) (h : stripL m = stripL (renL a0 (plc (varsL a0)))) => nodesL_plc h)
    have HOC := Lib.hid (fun (i : Nat) (hi : i < a0.length) v (hv : v ∈ (a0.getD i default).occ) => (mem_varsL a0 v).2 (by
      have : ∀ (l : List Tm) (t : Tm), t ∈ l → ∀ v ∈ t.occ, v ∈ occL l := by
        intro l
        induction l with
        | nil => intro t ht; cases ht
        | cons y r ih =>
          intro t ht v hv
          simp only [occL, List.mem_append]
          rcases List.mem_cons.1 ht with rfl | ht
          · exact .inl hv
          · exact .inr (ih t ht v hv)
      exact this a0 _ (getD_mem hi) v hv))
    have HFT := Lib.hid (varsL_fits w0)
    have HGET := Lib.hid (fun (m : List Tm) (h : stripL m = stripL (renL a0 (plc (varsL a0)))) (i : Nat) (hi : i < a0.length) => strip_get h hi)
    have hln : a0.length ≤ 1000000 := by have := length_le_nodes a0; omega
    generalize renL a0 (plc (varsL a0)) = ra at *
    generalize varsL a0 = vs at *
    clear hq w0 hn
    obtain ⟨i0, hi, hz0, hz1, hz2⟩ := info_parts bind_info
    go_enter Try.func6, Try.ntmps6
    go_wp2_with fail
    have hF := live_at w
    (with_reducible refine hF.mono ?_)
    rintro e v1 ⟨rfl, h1⟩
    have G1 := Lib.hid (Ext.trans (Ext.refl w) h1)
    clear hF h1 
    go_wp2_with fail
    have hF := QG.out _ G1.out
    (with_reducible refine hF.mono ?_)
    rintro e v2 ⟨rfl, h1⟩
    have G2 := Lib.hid (Ext.trans G1.out h1)
    clear hF h1 
    go_wp2_with fail
    have hF := Q1.out _ G2.out
    (with_reducible refine hF.mono ?_)
    rintro e v3 ⟨A2, c2, B2, d2, m, rfl, m1, m2, m3, m4, h1⟩
    have G3 := Lib.hid (Ext.trans G2.out h1)
    have M := Lib.hid m3
    have M1 := Lib.hid m1
    have M2 := Lib.hid m2
    have MI := Lib.hid m4
    have q4 := number_at m A2 c2 v3 m3 (by rw [HND.out m m2]; exact HN.out)
    rw [m1, HVN.out m m2] at q4
    have Q4 := Lib.hid q4
    clear hF h1 m1 m2 m3 m4 q4
    go_wp2_with fail
    have hF := Q4.out
    (with_reducible refine hF.mono ?_)
    rintro e v4 ⟨A3, c3, B3, d3, m5, rfl, n1, n2, n3, n4, h1⟩
    have G4 := Lib.hid (Ext.trans G3.out h1)
    have NI := Lib.hid n4
    have MB := Lib.hid (M.out.below h1)
    have MIB := Lib.hid (MI.out.below h1)
    have q5 := same_terms_at m m5 A2 A3 c2 c3 v4 MB.out n3 (HAG.out m m5 M2.out (by rw [HVN.out m M2.out]; exact n2))
    rw [n1, M1.out] at q5
    have Q5 := Lib.hid q5
    have q6 := fun W (h : Ext v4 W) => top_at m A2 c2 W (MB.out.below h) (by rw [HND.out m M2.out]; exact HN.out)
    rw [M1.out, HTP.out m M2.out] at q6
    have Q6 := Lib.hid q6
    rw [upto_len]
    clear hF h1 n1 n2 n3 n4 q5 q6
    go_wp2_with fail
    have hF := Q5.out
    (with_reducible refine hF.mono ?_)
    rintro e v5 ⟨rfl, h1⟩
    have G5 := Lib.hid (Ext.trans G4.out h1)
    have H5 := Lib.hid h1
    clear hF h1 
    go_wp2_with fail
    have hF := Q6.out _ H5.out
    (with_reducible refine hF.mono ?_)
    rintro e v6 ⟨rfl, h1⟩
    have G6 := Lib.hid (Ext.trans G5.out h1)
    have H6 := Lib.hid (Ext.trans H5.out h1)
    have NIB := Lib.hid (NI.out.below H6.out)
    have MIC := Lib.hid (MIB.out.below H6.out)
    have MC := Lib.hid (MB.out.below H6.out)
    clear hF h1 
    go_wp2_with fail
    go_loopw [7, 8] (fun z i wr => ∃ (j : Nat) (acc : List Bd) (x : Value), j ≤ vs.length ∧ i = .int .i64 j ∧ z = x ∧ Hid (RowB Any v6.heap.size wr x acc) ∧ Hid (acc = bndN vs j) ∧ Hid (acc.length = j) ∧ Hid (Below v6.heap.size v6 wr)) (fun _ i _ => vs.length - (intOf i).toNat)
    case atStart => exact ⟨0, [], _, Nat.zero_le _, rfl, rfl, Lib.hid (RowB.nil _ _ _), Lib.hid rfl, Lib.hid rfl, Lib.hid (Below.refl _ _)⟩
    case round =>
      obtain ⟨j, acc, z, hj, rfl, hz, HK, HS, HAc, HB⟩ := hrel
      have hz' := hz.symm
      subst hz'
      clear hz
      by_cases hlt : j < vs.length
      · obtain ⟨b1, o1, rfl, d1⟩ := (NIB.out.below HB.out).get (i := j) (by rw [upto_len]; exact hlt)
        obtain ⟨b2, o2, rfl, d2'⟩ := (MIC.out.below HB.out).get hlt
        rw [upto_get hlt] at d1
        have HX := Lib.hid (bndN_next vs j)
        have hfx := HFT.out _ (getD_int hlt)
        have hal : acc.length ≤ 1000000 := by rw [HAc.out]; omega
        generalize vs.getD j 0 = y at *
        have Q7 := Lib.hid (var_call y wr)
        have hfj : Fits (j : Int) := by unfold Fits; omega
        go_wp2_with fail
        refine Q7.out.mono ?_
        rintro e w2 ⟨rfl, hb2⟩
        have HK2 := Lib.hid (HK.out.below hb2)
        have hbw2 := HB.out.trans (hb2.mono HB.out.size)
        have HOwn := Lib.hid (own_lt HK2.out.1)
        have hlo := hbw2.size
        have HYA := Lib.hid (fun W => show (exV y).At W from (At_iff _ _).2 ⟨⟨by simp only [Tm.kind]; unfold Fits; omega, hfx, by unfold maxLen; simp [Tm.name, ByteArray.size]⟩, Lst.nil W⟩)
        clear hb2 HB HK Q7 d1 d2'
        go_wp2_with (at_builtin; refine wpList_append_lies _ rfl _ _ 47 rfl v6.heap.size 50 i0 _ 5 64 Try.underlying47 hi hz0 hz1 hz2 rfl (by decide) _ acc.length (bcells acc) rfl (HK2.out.1.alloc _) ⟨w2.heap.size, 0, none⟩ 1 1 (Bd.cells ⟨(j : Int), exV y⟩) rfl rfl (bnews1 w2 ⟨(j : Int), exV y⟩) (bcells_one _) (by decide) (by unfold maxLen; omega) (by omega) (by simp; omega) _ rfl ?_; intro g cap w5 hown hg hat hglt)
        have HR5 := Lib.hid (HK2.out.next (u := ⟨(j : Int), exV y⟩) hfj (Lie.any fun W _ => HYA.out W) (below1 w2 _) hown hg hat)
        have HB5 := Lib.hid (show Below v6.heap.size v6 w5 from (hbw2.alloc hbw2.size _).grown hg (by simp; omega) (fun k hk => (HOwn.out k hk).1))
        clear hown hg hat hglt hbw2
        go_wp2_with fail
        go_roundw
        case rel => exact ⟨j + 1, acc ++ [⟨(j : Int), exV y⟩], _, by omega, by go_num, rfl, HR5, Lib.hid (by rw [HX.out, HS.out]), Lib.hid (by rw [List.length_append, HAc.out]; rfl), HB5⟩
        case measure => simp [intOf]; omega
      · obtain rfl : j = vs.length := by omega
        have hK := HK.out
        obtain ⟨A', cz, hz, hcz, _⟩ := hK.form
        subst hz
        have hbl := hK.blst trivial
        rw [HS.out] at hbl
        have HBL := Lib.hid hbl
        have hac := HAc.out
        rw [hac]
        have GR := Lib.hid (show Ext w wr from G6.out.trans HB.out)
        have MR := Lib.hid (MC.out.below HB.out)
        rename World => V
        clear hK HK hlt HS hcz hac HB HAc hbl
        go_wp2_with fail
        go_loopw [9] (fun i wr => ∃ j : Nat, j ≤ a0.length ∧ i = .int .i64 j ∧ Hid (Ext V wr)) (fun i _ => a0.length - (intOf i).toNat)
        case atStart => exact ⟨0, Nat.zero_le _, rfl, Lib.hid (Ext.refl _)⟩
        case round =>
          obtain ⟨j, hj, rfl, HF⟩ := hrel
          by_cases hlt : j < a0.length
          · obtain ⟨b1, o1, rfl, ⟨d0, d1, d2, d3⟩, mat⟩ := (MR.out.below HF.out).get (i := j) (by rw [M1.out]; exact hlt)
            obtain ⟨b2, o2, rfl, ⟨e0, e1, e2, e3⟩, lat⟩ := (HWL.out _ (GR.out.trans HF.out)).get hlt
            have hmn : (m.getD j default).nodes ≤ 1000000 := by have := nodes_mem (l := m) (getD_mem (l := m) (k := j) (by rw [M1.out]; exact hlt)); rw [HND.out m M2.out] at this; have := HN.out; omega
            have HLM := Lib.hid (fun W (h : Ext wr W) => mat.below h)
            have HLL := Lib.hid (fun W (h : Ext wr W) => lat.below h)
            have HOLD := Lib.hid (fun (u : Tm) (h : u.strip = ((m.getD j default).app (bndN vs vs.length)).strip) => old_again (HOC.out j hlt) (HGET.out m M2.out j hlt) h)
            clear mat lat
            generalize m.getD j default = x at *
            generalize a0.getD j default = y at *
            have HS9 := Lib.hid (fun W (h : Ext wr W) => (⟨keepv h d0, keepv h d1, keepv h d2, keepv h d3, keepv h e0, keepv h e1, keepv h e2, keepv h e3⟩ : (fun W => W.cell? ⟨b1, o1 + j * 4, none⟩ = some (.int .i64 x.kind) ∧ W.cell? ⟨b1, o1 + j * 4 + 1, none⟩ = some (.int .i64 x.num) ∧ W.cell? ⟨b1, o1 + j * 4 + 2, none⟩ = some (.string x.name) ∧ W.cell? ⟨b1, o1 + j * 4 + 3, none⟩ = some (.slice x.at_ x.args.length x.cap) ∧ W.cell? ⟨b2, o2 + j * 4, none⟩ = some (.int .i64 y.kind) ∧ W.cell? ⟨b2, o2 + j * 4 + 1, none⟩ = some (.int .i64 y.num) ∧ W.cell? ⟨b2, o2 + j * 4 + 2, none⟩ = some (.string y.name) ∧ W.cell? ⟨b2, o2 + j * 4 + 3, none⟩ = some (.slice y.at_ y.args.length y.cap)) W))
            have Q8 := Lib.hid (app_call vs hvl A' cz vs.length rfl x wr.drew (HBL.out.below (Ext.trans HF.out (Ext.drew _))) (HLM.out _ (Ext.drew _)) hmn)
            go_wp2_with fail
            go_region_held3 (fun W => W.cell? ⟨b1, o1 + j * 4, none⟩ = some (.int .i64 x.kind) ∧ W.cell? ⟨b1, o1 + j * 4 + 1, none⟩ = some (.int .i64 x.num) ∧ W.cell? ⟨b1, o1 + j * 4 + 2, none⟩ = some (.string x.name) ∧ W.cell? ⟨b1, o1 + j * 4 + 3, none⟩ = some (.slice x.at_ x.args.length x.cap) ∧ W.cell? ⟨b2, o2 + j * 4, none⟩ = some (.int .i64 y.kind) ∧ W.cell? ⟨b2, o2 + j * 4 + 1, none⟩ = some (.int .i64 y.num) ∧ W.cell? ⟨b2, o2 + j * 4 + 2, none⟩ = some (.string y.name) ∧ W.cell? ⟨b2, o2 + j * 4 + 3, none⟩ = some (.slice y.at_ y.args.length y.cap)) (first | (with_reducible exact HS9.out _ (Ext.drew _)) | (with_reducible exact HS9.out _ E1.out) | (with_reducible exact HS9.out _ E2.out) | fail) (first
              | (go_at_call 27; have hF := Q8.out; (with_reducible refine hF.mono ?_); rintro e y1 ⟨u, rfl, hu, hlie, h1⟩; have E1 := Lib.hid (show Ext wr y1 from Ext.trans (Ext.drew _) h1); have UA := Lib.hid (hlie.at trivial); have HU := Lib.hid (HOLD.out u hu); clear h1 hF hu hlie)
              | (go_at_call 26; have hF := same_at u y y1 UA.out (HLL.out _ E1.out) HU.out; (with_reducible refine hF.mono ?_); rintro e y2 ⟨rfl, h1⟩; have E2 := Lib.hid (show Ext wr y2 from Ext.trans E1.out h1); clear h1 hF)
              | fail)
            go_wp2_with fail
            go_roundw
            case rel => exact ⟨j + 1, by omega, by go_num, Lib.hid (HF.out.trans E2.out)⟩
            case measure => simp [intOf]; omega
          · obtain rfl : j = a0.length := by omega
            go_wp2_with fail
            go_ret
            exact ⟨rfl, GR.out.trans HF.out⟩
end Go.Proofs.Ytpnjjahimhhjkaa.variantInverse
