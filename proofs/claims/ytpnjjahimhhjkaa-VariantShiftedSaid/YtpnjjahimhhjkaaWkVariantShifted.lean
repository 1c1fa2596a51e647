/-
  The walk of VariantShifted.
-/
import Derived.Test.YtpnjjahimhhjkaaVlBase
namespace Go.Proofs.Ytpnjjahimhhjkaa.variantShifted
open Go.ChangeShapes Go.WideShapes Go.ChangeAt Go.RowKit Go.Sort
set_option linter.unusedVariables false

set_option maxHeartbeats 16000000 in
set_option maxRecDepth 100000 in
theorem walk (A0 : Option Addr) (a0 : List Tm) (c0 : Nat) (a1 : Int) (w : World) (w0 : Lst w A0 a0 c0) (w1 : (Lit.int .i64 a1).wf = true) :
    Calls Try.prog 9 #[.slice A0 a0.length c0, .int .i64 a1] w fun e w' => e = .returned (.bool true) ∧ Below w.heap.size w w' := by
  obtain ⟨q, hq⟩ : ∃ r, decide (weigh a0 300 64 < 0) = r := ⟨_, rfl⟩
  have QG := Lib.hid (fun W (h : Ext w W) => great_below a0 A0 c0 300 W (w0.below h) (by omega) (by omega) hq)
  cases q with
  | true =>
    clear hq w0 w1
    go_enter Try.func9, Try.ntmps9
    go_wp2_with fail
    have hF := live_at w
    (with_reducible refine hF.mono ?_)
    rintro e v1 ⟨rfl, h1⟩
    have G1 := Lib.hid (Ext.trans (Ext.refl w) h1)
    clear hF h1 
    go_wp2_with fail
    have hF := QG.out _ G1.out
    (with_reducible refine hF.mono ?_)
    rintro e v2 ⟨rfl, h1⟩
    have G2 := Lib.hid (Ext.trans G1.out h1)
    clear hF h1 
    go_wp2_with fail
    go_ret
    exact ⟨rfl, G2.out⟩
  | false =>
    have hn : nodesL a0 ≤ 1000000 := by have := not_great hq; omega
    have hln : a0.length ≤ 1000000 := by have := length_le_nodes a0; omega
    have HN := Lib.hid hn
    have hvl : (varsL a0).length ≤ 9223372036854775807 := by have := varsL_len a0; omega
    have HWL := Lib.hid (fun W (h : Ext w W) => w0.below h)
    have Q1 := Lib.hid (fun W (h : Ext w W) => show Calls Try.prog 34 #[.slice A0 a0.length c0] W (Grows W (varsL a0)) from ref_vars_of_at a0 A0 c0 W (w0.below h) (by have := size_nodes.2 a0; omega))
    have Q2 := Lib.hid (fun W (h : Ext w W) => number_at a0 A0 c0 W (w0.below h) hn)
    have HNB := Lib.hid (fun (m : List Tm) (h : stripL m = stripL (renL a0 (plc (varsL a0)))) => And.intro (variant_numbered h) (nodesL_plc h))
    have HMV := Lib.hid (mem_varsL a0)
    generalize renL a0 (plc (varsL a0)) = ra at *
    generalize varsL a0 = vs at *
    clear hq w0 hn
    obtain ⟨i0, hi, hz0, hz1, hz2⟩ := info_parts term_info
    go_enter Try.func9, Try.ntmps9
    go_wp2_with fail
    have hF := live_at w
    (with_reducible refine hF.mono ?_)
    rintro e v1 ⟨rfl, h1⟩
    have G1 := Lib.hid (Ext.trans (Ext.refl w) h1)
    clear hF h1 
    go_wp2_with fail
    have hF := QG.out _ G1.out
    (with_reducible refine hF.mono ?_)
    rintro e v2 ⟨rfl, h1⟩
    have G2 := Lib.hid (Ext.trans G1.out h1)
    clear hF h1 
    go_wp2_with fail
    obtain ⟨kk, hkE⟩ : ∃ kk, wrap64 (wrap32 a1) = kk := ⟨_, rfl⟩
    have HKK := Lib.hid (show -2147483648 ≤ kk ∧ kk ≤ 2147483647 from by rw [← hkE]; unfold wrap64 wrap32; omega)
    rw [hkE]
    clear hkE
    go_wp2_with fail
    have hF := Q1.out _ G2.out
    (with_reducible refine hF.mono ?_)
    rintro e v3 ⟨v, rfl, hown, h1⟩
    have G3 := Lib.hid (Ext.trans G2.out h1)
    clear hF h1 
    obtain ⟨V, cv, rfl, hI, _⟩ := hown.form
    have HI := Lib.hid hI
    clear hown hI
    go_wp2_with fail
    go_loopw [6] (fun i wr => ∃ j : Nat, j ≤ vs.length ∧ i = .int .i64 j ∧ Hid (∀ v ∈ vs.take j, -1099511627776 ≤ v ∧ v ≤ 1099511627776) ∧ wr = v3) (fun i _ => vs.length - (intOf i).toNat)
    case atStart => exact ⟨0, Nat.zero_le _, rfl, Lib.hid (by simp), rfl⟩
    case round =>
      obtain ⟨j, hj, rfl, HF, hwr⟩ := hrel
      have hwr2 := hwr.symm
      clear hwr
      subst hwr2
      by_cases hlt : j < vs.length
      · obtain ⟨b, o, rfl, hci⟩ := HI.out.get hlt
        have HT := Lib.hid (take_int hlt)
        generalize vs.getD j 0 = y at *
        by_cases y1 : y < -1099511627776
        · go_wp2_with fail
          go_ret
          exact ⟨rfl, G3.out⟩
        · by_cases y2 : y > 1099511627776
          · go_wp2_with fail
            go_ret
            exact ⟨rfl, G3.out⟩
          · have HN := Lib.hid (show ∀ v ∈ vs.take (j + 1), -1099511627776 ≤ v ∧ v ≤ 1099511627776 from fun v hv => by
              rw [HT.out] at hv
              rcases List.mem_append.1 hv with h | h
              · exact HF.out v h
              · rw [List.mem_singleton.1 h]; omega)
            go_wp2_with fail
            go_roundw
            case rel => exact ⟨j + 1, by omega, by go_num, HN, by first | rfl | trivial⟩
            case measure => simp [intOf]; omega
      · obtain rfl : j = vs.length := by omega
        have HBD := Lib.hid (show ∀ v ∈ vs, -1099511627776 ≤ v ∧ v ≤ 1099511627776 from by have := HF.out; rwa [List.take_length] at this)
        clear HF hlt
        go_wp2_with fail
        go_loopw [7, 8] (fun z i wr => ∃ (j : Nat) (acc : List Tm) (x : Value), j ≤ a0.length ∧ i = .int .i64 j ∧ z = x ∧ Hid (RowT Any v3.heap.size wr x acc) ∧ Hid (stripL acc = stripL (renL (a0.take j) (shiftV kk))) ∧ Hid (acc.length = j) ∧ Hid (Below v3.heap.size v3 wr)) (fun _ i _ => a0.length - (intOf i).toNat)
        case atStart => exact ⟨0, [], _, Nat.zero_le _, rfl, rfl, Lib.hid (RowT.nil _ _ _), Lib.hid rfl, Lib.hid rfl, Lib.hid (Below.refl _ _)⟩
        case round =>
          obtain ⟨j, acc, z, hj, rfl, hz, HK, HS, HAc, HB⟩ := hrel
          have hz' := hz.symm
          subst hz'
          clear hz
          by_cases hlt : j < a0.length
          · obtain ⟨b0, o, rfl, ⟨d0, d1, d2, d3⟩, hat⟩ := (HWL.out _ (G3.out.trans HB.out)).get hlt
            have HT := Lib.hid (take_tm hlt)
            have Q3 := Lib.hid (shift_term_at (a0.getD j default) kk (by have := HKK.out; unfold Fits; omega) wr hat (by have := nodes_mem (getD_mem hlt); have := HN.out; omega))
            have hal : acc.length ≤ 1000000 := by rw [HAc.out]; omega
            have HRM := Lib.hid (fun l => renL_map l (shiftV kk))
            generalize a0.getD j default = x at *
            obtain ⟨k', n', s', A', c', a'⟩ := x
            simp only [Tm.kind, Tm.num, Tm.name, Tm.at_, Tm.args, Tm.cap] at d0 d1 d2 d3
            clear hat
            go_wp2_with fail
            refine Q3.out.mono ?_
            rintro e w2 ⟨u, rfl, hu, hlie, hb2⟩
            have HU := Lib.hid (lie_apart HK.out.1 hlie HB.out.size (Nat.le_refl _))
            have HK2 := Lib.hid (HK.out.below hb2)
            have HS2 := Lib.hid (show stripL (acc ++ [u]) = stripL (renL (a0.take (j + 1)) (shiftV kk)) by
              rw [HT.out, HRM.out, List.map_append, stripL_append, stripL_append, HS.out, HRM.out]
              simp only [stripL, List.map_cons, List.map_nil, hu])
            have hbw2 := HB.out.trans (hb2.mono HB.out.size)
            have HOwn := Lib.hid (own_lt HK2.out.1)
            have hlo := hbw2.size
            clear hu hlie hb2 HB d0 d1 d2 d3 HK HS Q3
            obtain ⟨k2, n2, s2, A2, p2, a2⟩ := u
            go_wp2_with (at_builtin; refine wpList_append_lies _ rfl _ _ 22 rfl v3.heap.size 24 i0 _ 4 56 Try.underlying22 hi hz0 hz1 hz2 rfl (by decide) _ acc.length (tcells acc) rfl (HK2.out.1.alloc _) ⟨w2.heap.size, 0, none⟩ 1 1 (Tm.cells (.mk k2 n2 s2 A2 p2 a2)) rfl rfl (tnews1 w2 (.mk k2 n2 s2 A2 p2 a2) _) (cells_one _) (by decide) (by unfold maxLen; omega) (by omega) (by simp; omega) _ rfl ?_; intro g cap w5 hown hg hat hglt)
            have HR5 := Lib.hid (HK2.out.next (u := .mk k2 n2 s2 A2 p2 a2) HU.out (below1 w2 _) hown hg hat)
            have HB5 := Lib.hid (show Below v3.heap.size v3 w5 from (hbw2.alloc hbw2.size _).grown hg (by simp; omega) (fun k hk => (HOwn.out k hk).1))
            clear hown hg hat hglt hbw2
            go_wp2_with fail
            go_roundw
            case rel => exact ⟨j + 1, acc ++ [.mk k2 n2 s2 A2 p2 a2], _, by omega, by go_num, rfl, HR5, HS2, Lib.hid (by rw [List.length_append, HAc.out]; rfl), HB5⟩
            case measure => simp [intOf]; omega
          · obtain rfl : j = a0.length := by omega
            have hK := HK.out
            obtain ⟨A', cz, hz, hcz⟩ := hK.form
            subst hz
            have GR := Lib.hid (show Ext w wr from G3.out.trans HB.out)
            have HL := Lib.hid (hK.lies wr trivial (Agree.refl _ _ _))
            have HV := Lib.hid (show variantB a0 acc = true ∧ nodesL acc = nodesL a0 from by
              have e : stripL acc = stripL (renL a0 (shiftV kk)) := by rw [HS.out, List.take_length]
              refine ⟨variantB_shifted (k := kk) HKK.out (fun v hv => HBD.out v ((HMV.out v).2 hv)) (by rw [canonL_strip e, ren_canon.2]), by rw [nodesL_strip e, ren_nodes.2]⟩)
            have Q4 := Lib.hid (fun W (h : Ext wr W) => (by
              have := variants_at a0 acc A0 A' c0 cz W (HWL.out _ (GR.out.trans h)) (HL.out.below h) HN.out (by rw [HV.out.2]; exact HN.out)
              rw [HV.out.1, HAc.out] at this
              exact this : Calls Try.prog 32 #[.slice A0 a0.length c0, .slice A' a0.length cz] W fun e w' => e = .returned (.bool true) ∧ Below W.heap.size W w'))
            have hac := HAc.out
            rw [hac]
            clear hK HK hlt HS hcz hac HL HV HB HAc
            go_wp2_with fail
            have hF := Q2.out _ GR.out
            (with_reducible refine hF.mono ?_)
            rintro e v4 ⟨A2, c2, B2, d2, m, rfl, m1, m2, m3, m4, h1⟩
            have G4 := Lib.hid (Ext.trans GR.out h1)
            have M := Lib.hid m3
            have E4 := Lib.hid h1
            have Q5 := Lib.hid (fun W (h : Ext v4 W) => (by
              have := variants_at m a0 A2 A0 c2 c0 W (m3.below h) (HWL.out _ (G4.out.trans h)) (by rw [(HNB.out m m2).2]; exact HN.out) HN.out
              rw [(HNB.out m m2).1, m1] at this
              exact this : Calls Try.prog 32 #[.slice A2 a0.length c2, .slice A0 a0.length c0] W fun e w' => e = .returned (.bool true) ∧ Below W.heap.size W w'))
            clear hF h1 m1 m2 m3 m4
            go_wp2_with fail
            have hF := Q4.out _ E4.out
            (with_reducible refine hF.mono ?_)
            rintro e v5 ⟨rfl, h1⟩
            have G5 := Lib.hid (Ext.trans G4.out h1)
            have E5 := Lib.hid h1
            clear hF h1 
            go_wp2_with fail
            have hF := Q5.out _ E5.out
            (with_reducible refine hF.mono ?_)
            rintro e v6 ⟨rfl, h1⟩
            have G6 := Lib.hid (Ext.trans G5.out h1)
            clear hF h1 
            go_wp2_with fail
            go_ret
            exact ⟨rfl, G6.out⟩
end Go.Proofs.Ytpnjjahimhhjkaa.variantShifted
