/-
  RfSolve.
-/
import Derived.Test.YtgpglgehlnfggaaGreatMe25
import Derived.Test.YtgpglgehlnfggaaGreatMe27
import Derived.Deep.CutRange
import Derived.Test.YtgpglgehlnfggaaGreatMe14
namespace Go.Proofs.YtgpglgehlnfggaaGreat
open Go.RowKit
set_option maxHeartbeats 8000000 in
set_option maxRecDepth 100000 in
theorem rsolve_at (la lb : List Tm) (A B : Option Addr) (ca cb : Nat) (w : World) (hA : Lst w A la ca) (hB : Lst w B lb cb) (hl : la.length = lb.length) (hfa : ∀ t ∈ la, t.form = true) (hfb : ∀ t ∈ lb, t.form = true) (hn : nodesL la + nodesL lb ≤ 1000000) :
    Calls Tryz.prog 142 #[.slice A la.length ca, .slice B lb.length cb] w (RSolveO la lb w) := by
  have hla : la.length ≤ maxLen := Nat.le_trans hA.1 hA.2.1
  have hlb : lb.length ≤ maxLen := Nat.le_trans hB.1 hB.2.1
  unfold maxLen at hla hlb
  have HA := Lib.hid hA
  have HB := Lib.hid hB
  have HFA := Lib.hid hfa
  have HFB := Lib.hid hfb
  have HN := Lib.hid hn
  have HLE := Lib.hid hl
  have HS0 := Lib.hid (rsolving_start la lb w 144)
  clear hA hB hfa hfb hn hl
  go_enter Tryz.func142, Tryz.ntmps142
  go_wp2_with fail
  go_loopw [7] (fun s7 wr => ∃ j : Nat, j ≤ la.length ∧ s7 = .int .i64 (j : Nat) ∧ Hid (RSolving la lb w.heap.size w j wr)) (fun s7 _ => la.length - (intOf s7).toNat)
  case atStart => exact ⟨0, Nat.zero_le _, rfl, HS0⟩
  case round =>
    clear HS0
    obtain ⟨j, hj, rfl, HS⟩ := hrel
    obtain ⟨zL, zC, G, cls, E, h1, h2, h3, h4, h5, h6, h7, h8⟩ := HS.out
    by_cases hlt : j < la.length
    · skip
      have hltb : j < lb.length := by have := HLE.out; omega
      obtain ⟨b, o, rfl, ⟨c0, c1, c2, c3⟩, _⟩ := (HA.out.below h2).get hlt
      have hxm := getD_mem hlt
      have hym := getD_mem hltb
      have hnx := nodesL_next hlt
      have hny := nodesL_next hltb
      have htx := nodesL_take la (j + 1)
      have hty := nodesL_take lb (j + 1)
      have HZ := Lib.hid (zip_take_next hlt hltb)
      have HX := Lib.hid (And.intro (HA.out.mem hxm) (And.intro (HFA.out _ hxm) (And.intro (HB.out.mem hym) (HFB.out _ hym))))
      have HYC := Lib.hid (fun W (hW : Ext w W) => (HB.out.below hW).get hltb)
      obtain ⟨x, hx⟩ : ∃ x, x = la.getD j default := ⟨_, rfl⟩
      obtain ⟨y, hy⟩ : ∃ y, y = lb.getD j default := ⟨_, rfl⟩
      rw [← hx] at c0 c1 c2 c3 hnx
      rw [← hy] at hny
      rw [← hx, ← hy] at HZ HX
      rw [← hy] at HYC
      have HSZ := Lib.hid (show nodesL (la.take (j + 1)) + nodesL (lb.take (j + 1)) ≤ 1000000 ∧ nodesL (la.take (j + 1)) = nodesL (la.take j) + x.nodes ∧ nodesL (lb.take (j + 1)) = nodesL (lb.take j) + y.nodes from ⟨by have := HN.out; omega, hnx, hny⟩)
      have QX := Lib.hid (show Calls Tryz.prog 163 #[.pointer (some ⟨w.heap.size, 0, none⟩), .agg #[.int .i64 x.kind, .int .i64 x.num, .string x.name, .slice x.at_ x.args.length x.cap]] wr (EnterO w.heap.size No w.heap.size zL zC G cls x wr) from enter_at w w.heap.size x No G cls zL zC wr HX.out.1 HX.out.2.1 h2 h1 (fun i hi => (h3 i hi).form) h4 (fun b h => h.elim) (by have := HSZ.out; omega))
      have H0 := Lib.hid (show RG w.heap.size No wr w.heap.size zL zC G cls ∧ Ext w wr ∧ Ok G ∧ VarU G ∧ Roots G (clsR cls) ∧ Mid G (clsR cls) [] E ∧ (∀ f, Unif ((la.zip lb).take j) f ↔ ∀ p ∈ E, ndv f G p.1 = ndv f G p.2) ∧ G.length ≤ nodesL (la.take j) + nodesL (lb.take j) from ⟨h1, h2, h3, h4, h5, h6, h7, h8⟩)
      obtain ⟨b2, o2, rfl, _⟩ := HYC.out w (Ext.refl w)
      clear hx hy hxm hym hnx hny htx hty h1 h2 h3 h4 h5 h6 h7 h8 HS
      go_wp2_with (first
        | (go_at_call 163; (with_reducible refine (QX.out).mono ?_); rintro e w2 ⟨zL2, zC2, G2, cls2, i2, rfl, m1, m2, m3, m4, m5, m6, m7, m8, m9, m10, m11⟩; have E2 := Lib.hid (m9.ext H0.out.2.1 (fun b e => (H0.out.1.ownlt e).1)); obtain ⟨b3, o3, hb3, ⟨d0, d1, d2, d3⟩, _⟩ := HYC.out w2 E2.out; have hb3' : b3 = b2 ∧ o3 = o2 := (by (injection hb3 with hb3; injection hb3 with q1 q2 _; exact ⟨q1.symm, q2.symm⟩)); obtain ⟨rfl, rfl⟩ := hb3'; have M2 := Lib.hid (And.intro m1 (And.intro m2 (And.intro m3 (And.intro m4 (And.intro m5 (And.intro m6 (And.intro m7 m8))))))); have QY := Lib.hid (show Calls Tryz.prog 163 #[.pointer (some ⟨w.heap.size, 0, none⟩), .agg #[.int .i64 y.kind, .int .i64 y.num, .string y.name, .slice y.at_ y.args.length y.cap]] w2 (EnterO w.heap.size No w.heap.size zL2 zC2 G2 cls2 y w2) from enter_at w w.heap.size y No G2 cls2 zL2 zC2 w2 HX.out.2.2.1 HX.out.2.2.2 E2.out m1 (fun i hi => (by (obtain ⟨N, rfl⟩ := m2; by_cases h1 : i < G.length; (rw [nd_left h1]; exact (H0.out.2.2.1 i h1).form); exact (m3 i (by omega) hi).form))) m5 (fun b h => h.elim) (by have := HSZ.out; have := H0.out.2.2.2.2.2.2.2; omega)); clear m1 m2 m3 m4 m5 m6 m7 m8 m9 m10 m11 hb3 c0 c1 c2 c3)
        | (go_at_call 163; (with_reducible refine (QY.out).mono ?_); rintro e w3 ⟨zL3, zC3, G3, cls3, i3, rfl, m1, m2, m3, m4, m5, m6, m7, m8, m9, m10, m11⟩; have E3 := Lib.hid (m9.ext E2.out (fun b e => (M2.out.1.ownlt e).1)); have M3 := Lib.hid (And.intro m1 (And.intro m2 (And.intro m3 (And.intro m4 (And.intro m5 (And.intro m6 (And.intro m7 m8))))))); clear m1 m2 m3 m4 m5 m6 m7 m8 m9 m10 m11 d0 d1 d2 d3))
      have hG3 : ∃ N, G3 = G ++ N := by
        obtain ⟨N, hN⟩ := M2.out.2.1
        obtain ⟨M, hM⟩ := M3.out.2.1
        exact ⟨N ++ M, by rw [hM, hN, List.append_assoc]⟩
      have hok3 : Ok G3 := fun i hi => by
        obtain ⟨N, hN⟩ := M2.out.2.1
        obtain ⟨M, hM⟩ := M3.out.2.1
        by_cases g1 : i < G2.length
        · rw [hM]
          refine OkAt.left g1 ?_
          by_cases g2 : i < G.length
          · rw [hN]; exact (H0.out.2.2.1 i g2).left g2
          · exact M2.out.2.2.1 i (by omega) g1
        · exact M3.out.2.2.1 i (by omega) hi
      have hcl3 : clsR cls3 = clsR cls := M3.out.2.2.2.1.trans M2.out.2.2.2.1
      have hrt3 : Roots G3 (clsR cls3) := by
        obtain ⟨N, hN⟩ := hG3
        rw [hcl3, hN]
        exact roots_more H0.out.2.2.2.2.1 H0.out.1.cl
      have hmd3 : Mid G3 (clsR cls3) [] E := by
        obtain ⟨N, hN⟩ := hG3
        rw [hcl3, hN]
        exact mid_more H0.out.2.2.2.2.2.1 H0.out.2.2.2.2.1 H0.out.1.cl
      have hi2 : i2 < G3.length := by
        obtain ⟨M, hM⟩ := M3.out.2.1
        have := M2.out.2.2.2.2.2.1
        rw [hM, List.length_append]
        omega
      have HST := Lib.hid (solving_step HZ.out H0.out.2.2.2.2.2.2.1 H0.out.2.2.2.2.2.1.ebd M2.out.2.1 M3.out.2.1 M2.out.2.2.2.2.2.1 M2.out.2.2.2.2.2.2.1 M3.out.2.2.2.2.2.1 M3.out.2.2.2.2.2.2.1 (Alike.refl G3)).1
      have QJ := Lib.hid (rjoin_at hok3 (wtOf G3 (clsR cls3) G3.length + 1) [] (E ++ [(i2, i3)]) i2 i3 cls3 w3 M3.out.1 (hmd3.push hi2 M3.out.2.2.2.2.2.1) hrt3 (Nat.lt_succ_self _))
      have HOK3 := Lib.hid hok3
      clear hG3 hok3 hcl3 hrt3 hmd3 hi2
      refine (QJ.out).mono ?_
      rintro e w4 ⟨ok, cls4, rfl, j1, j2, j3, j4⟩
      have E4 := Lib.hid (j2.ext E3.out (fun b e => (M3.out.1.ownlt (.inr (.inr e))).1))
      cases ok with
      | true =>
        obtain ⟨g1, g2, _⟩ := j3 rfl
        have HE := Lib.hid (show RSolving la lb w.heap.size w (j + 1) w4 from ⟨zL3, zC3, G3, cls4, E ++ [(i2, i3)], j1, E4.out, HOK3.out, M3.out.2.2.2.2.1, g2, g1, HST.out, by
          have := M3.out.2.2.2.2.2.2.2
          have := M2.out.2.2.2.2.2.2.2
          have := HSZ.out
          have := H0.out.2.2.2.2.2.2.2
          omega⟩)
        clear j1 j2 j3 j4 g1 g2 M2 M3 QX QY QJ HST
        go_wp2_with fail
        go_roundw
        case rel => exact ⟨j + 1, by omega, by go_num, HE⟩
        case measure => simp [intOf]; omega
      | false =>
        have HE := Lib.hid (rsolve_none (la := la) (lb := lb) (fun f hf => j4 rfl f ((HST.out f).1 (unif_take hf _))) E4.out)
        clear j1 j2 j3 j4 M2 M3 QX QY QJ HST
        go_wp2_with fail
        go_ret2
        exact HE.out
    · rename World => wq
      obtain rfl : j = la.length := by omega
      have htk : (la.zip lb).take la.length = la.zip lb := List.take_of_length_le (by rw [List.length_zip]; omega)
      rw [htk] at h7
      obtain ⟨⟨zA, zca, rfl, _⟩, zB, zcb, rfl, _⟩ := h1.slices
      have H0 := Lib.hid (show RG w.heap.size No wq w.heap.size (.slice zA G.length zca) (.slice zB G.length zcb) G cls ∧ Ext w wq ∧ Ok G ∧ VarU G ∧ Roots G (clsR cls) ∧ Mid G (clsR cls) [] E ∧ (∀ f, Unif (la.zip lb) f ↔ ∀ p ∈ E, ndv f G p.1 = ndv f G p.2) from ⟨h1, h2, h3, h4, h5, h6, h7⟩)
      have QM := Lib.hid (measured_at h1 h6 h3 h5)
      clear htk h1 h2 h3 h4 h5 h6 h7 h8 HS
      go_upto_region 9 with fail
      go_upto_region 10 with (go_at_call 165; refine (QM.out).mono ?_; rintro e w5 ⟨zM, ok, rfl, k1, k2, k3⟩; have K1 := Lib.hid k1; have K2 := Lib.hid k2; have K3 := Lib.hid k3; clear k1 k2 k3)
      cases ok with
      | false =>
        have HE := Lib.hid (rsolve_none (la := la) (lb := lb) (fun f hf => K2.out rfl f ((H0.out.2.2.2.2.2.2 f).1 hf)) (H0.out.2.1.trans K1.out))
        clear K2 K3 QM
        go_wp2_with fail
        go_ret2
        exact HE.out
      | true =>
        obtain ⟨gM, M, done, rfl, hmi, hmr⟩ := K3.out rfl
        have HC := Lib.hid (closed_of_mid H0.out.2.2.2.2.2.1 H0.out.2.2.1 H0.out.2.2.2.1)
        have HRK := Lib.hid (hmi.ranked H0.out.2.2.2.2.1 H0.out.2.2.1)
        have HSZ := Lib.hid (hmi.sizes H0.out.2.2.2.2.1 HC.out)
        have HML := Lib.hid hmi.len
        have HMR := Lib.hid hmr
        have HG5 := Lib.hid (H0.out.1.ext K1.out)
        have HE5 := Lib.hid (H0.out.2.1.trans K1.out)
        have hGs := HG5.out.small
        have HMI := Lib.hid hmi
        clear hmi hmr K2 K3 QM
        go_wp2_with fail
        go_loopw [12, 13] (fun s12 s13 wr => ∃ (i : Nat) (A : Option Addr) (acc : List Bd) (c : Nat) (bd : List Nat), i ≤ G.length ∧ acc.length ≤ i ∧ s13 = .int .i64 (i : Nat) ∧ s12 = .slice A acc.length c ∧ ((acc = [] ∧ A = none ∧ c = 0) ∨ ∃ g, A = some ⟨g, 0, none⟩) ∧ Hid (Ins G (topF G (clsR cls)) (G.length + 1) w5 i A acc c bd wr) ∧ Hid (∀ m ∈ bd, (sol G (topF G (clsR cls)) (G.length + 1) m).size ≤ 200 ∧ (sol G (topF G (clsR cls)) (G.length + 1) m).depth ≤ 20)) (fun _ s13 _ => G.length - (intOf s13).toNat)
        case atStart => exact ⟨0, none, [], 0, [], Nat.zero_le _, Nat.le_refl _, rfl, rfl, .inl ⟨rfl, rfl, rfl⟩, Lib.hid (Ins.start _ _ _ _), Lib.hid (fun m hm => by cases hm)⟩
        case round =>
          obtain ⟨i, A, acc, c, bd, hi, hai, rfl, rfl, hnil, HI, HB⟩ := hrel
          have HGR := Lib.hid (HG5.out.ext HI.out.ex)
          have c0 := HGR.out.hl
          have c1 := HGR.out.hc
          by_cases hlt : i < G.length
          · obtain ⟨q, c3, q2, c4, e1, e2, _⟩ := HGR.out.form (by omega)
            injection e1 with e1 _ e1'
            injection e2 with e2 _ e2'
            subst e1 e1' e2 e2'
            have HGD := Lib.hid (HGR.out.ext (Ext.drew _))
            obtain ⟨d0, d1, _, _⟩ := HGR.out.cells hlt
            obtain ⟨d0', d1', _, _⟩ := HGD.out.cells hlt
            have c0' := HGD.out.hl
            have d4 := HGR.out.class hlt
            have HSH := Lib.hid (shape_at (c := clsR cls i) HGD.out)
            have HLE := Lib.hid (least_at (c := clsR cls i) HGD.out (fun j hj => (HC.out.ok j hj).form))
            have hci : clsR cls i < G.length := (H0.out.2.2.2.2.1 i hlt).1
            have HSP := Lib.hid ((topC_spec (G := G) (root := clsR cls) hlt rfl).2.2)
            have HTI := Lib.hid (HC.out.lt i hlt)
            have HVU := Lib.hid (fun hk1 hk2 e => HC.out.varu ((topF G (clsR cls)) i) i (HC.out.lt i hlt) hlt hk1 hk2 e)
            have HTP := Lib.hid (show (topF G (clsR cls)) i = topC G (clsR cls) (clsR cls i) from rfl)
            have HM1 := Lib.hid (mrow_cells (FrX.row (FrX.of (HI.out.ex.trans (Ext.drew _))) (X := No) HMR.out (fun _ _ h => h)) HML.out hci)
            have HSI := Lib.hid (HSZ.out i hlt)
            obtain ⟨ti, hti⟩ : ∃ t, t = (topF G (clsR cls)) i := ⟨_, rfl⟩
            obtain ⟨ki, hki⟩ : ∃ k, k = (nd G i).tm.kind := ⟨_, rfl⟩
            obtain ⟨ni, hni⟩ : ∃ k, k = (nd G i).tm.num := ⟨_, rfl⟩
            rw [← hki] at d0 d0'
            rw [← hni] at d1 d1'
            obtain ⟨bnd, hbnd⟩ : ∃ b, b = decide (ki = 1 ∧ ti ≠ i) := ⟨_, rfl⟩
            obtain ⟨cc, hcc⟩ : ∃ c, c = clsR cls i := ⟨_, rfl⟩
            rw [← hcc] at d4 HSH HLE HSP HTP HM1 HSI hci
            have HCC := Lib.hid hcc
            clear hcc
            have HKI := Lib.hid hki
            have HNI := Lib.hid hni
            have HTT := Lib.hid hti
            have HBN := Lib.hid hbnd
            clear hki hni hti hbnd
            go_upto_region 17 with fail
            go_cut [94] from 50 to 150 (fun s94 W => W = wr.drew ∧ s94 = .bool (!bnd))
            case first =>
              by_cases hk : ki = 1
              · rcases shapeI_cases G (clsR cls) cc with ⟨s1, e1⟩ | ⟨m, s1, e1⟩
                · obtain ⟨hk1, hls⟩ := HSP.out s1
                  have HK1 := Lib.hid hk1
                  have HLV := Lib.hid (fun v (hv : LeastUp G (clsR cls) cc G.length v) => hv.is hls)
                  rw [e1] at HSH
                  clear hk1 hls s1 e1
                  by_cases ht : ti = i
                  · have HLV2 := Lib.hid (show ∀ v, LeastUp G (clsR cls) cc G.length v → v = ni from fun v hv => by rw [HLV.out v hv, ← HTP.out, ← HTT.out, ht, HNI.out])
                    have hb0 : bnd = false := by rw [HBN.out]; simp [ht]
                    clear HBN
                    subst hb0
                    clear HKI HNI HTT ht
                    subst hk
                    have hS : (fun W => W = wr.drew) wr.drew := rfl
                    refine held_start 29 rfl (fun W => W = wr.drew) (by kernel_rfl) ?_
                    refine held_take (i := 0) (dst := some 66) (v := ?_) rfl rfl (by kernel_rfl) (by kernel_rfl) (by kernel_rfl) rfl hS ?_ ?_; rotate_left
                    · rintro w' rfl; go_simp; with_reducible rfl
                    go_frame
                    refine held_take (i := 1) (dst := some 67) (v := ?_) rfl rfl (by kernel_rfl) (by kernel_rfl) (by kernel_rfl) rfl hS ?_ ?_; rotate_left
                    · rintro w' rfl; go_simp; with_reducible rfl
                    go_frame
                    refine held_take (i := 2) (dst := some 68) (v := ?_) rfl rfl (by kernel_rfl) (by kernel_rfl) (by kernel_rfl) rfl hS ?_ ?_; rotate_left
                    · rintro w' rfl; go_simp; with_reducible rfl
                    go_frame
                    refine held_take (i := 3) (dst := some 69) (v := ?_) rfl rfl (by kernel_rfl) (by kernel_rfl) (by kernel_rfl) rfl hS ?_ ?_; rotate_left
                    · rintro w' rfl; go_simp; with_reducible rfl
                    go_frame
                    refine held_take (i := 4) (dst := some 70) (v := ?_) rfl rfl (by kernel_rfl) (by kernel_rfl) (by kernel_rfl) rfl hS ?_ ?_; rotate_left
                    · rintro w' rfl; go_simp; with_reducible rfl
                    go_frame
                    refine held_take (i := 5) (dst := some 71) (v := ?_) rfl rfl (by kernel_rfl) (by kernel_rfl) (by kernel_rfl) rfl hS ?_ ?_; rotate_left
                    · rintro w' rfl; go_simp; with_reducible rfl
                    go_frame
                    refine held_take (i := 6) (dst := some 72) (v := ?_) rfl rfl (by kernel_rfl) (by kernel_rfl) (by kernel_rfl) rfl hS ?_ ?_; rotate_left
                    · rintro w' rfl; go_simp; with_reducible rfl
                    go_frame
                    refine held_take (i := 7) (dst := some 73) (v := ?_) rfl rfl (by kernel_rfl) (by kernel_rfl) (by kernel_rfl) rfl hS ?_ ?_; rotate_left
                    · rintro w' rfl; go_simp; with_reducible rfl
                    go_frame
                    refine held_take (i := 8) (dst := some 74) (v := ?_) rfl rfl (by kernel_rfl) (by kernel_rfl) (by kernel_rfl) rfl hS ?_ ?_; rotate_left
                    · rintro w' rfl; go_simp; with_reducible rfl
                    go_frame
                    refine held_take (i := 9) (dst := some 75) (v := ?_) rfl rfl (by kernel_rfl) (by kernel_rfl) (by kernel_rfl) rfl hS ?_ ?_; rotate_left
                    · rintro w' rfl; go_simp; with_reducible rfl
                    go_frame
                    refine held_take (i := 10) (dst := some 76) (v := ?_) rfl rfl (by kernel_rfl) (by kernel_rfl) (by kernel_rfl) rfl hS ?_ ?_; rotate_left
                    · rintro w' rfl; go_simp; with_reducible rfl
                    go_frame
                    refine held_take (i := 11) (dst := some 77) (v := ?_) rfl rfl (by kernel_rfl) (by kernel_rfl) (by kernel_rfl) rfl hS ?_ ?_; rotate_left
                    · rintro w' rfl; go_simp; with_reducible rfl
                    go_frame
                    refine round_one (i := 12) (by kernel_rfl) ?_
                    refine held_call (dst := some 78) rfl rfl rfl ?_ (HSH.out) ?_
                    · go_simp
                    rintro e v12 ⟨rfl, rfl⟩
                    refine ⟨_, rfl, rfl, ?_⟩
                    go_frame
                    refine held_take (i := 13) (dst := some 79) (v := ?_) rfl rfl (by kernel_rfl) (by kernel_rfl) (by kernel_rfl) rfl hS ?_ ?_; rotate_left
                    · rintro w' rfl; go_simp; with_reducible rfl
                    go_frame
                    refine held_take (i := 14) (dst := some 80) (v := ?_) rfl rfl (by kernel_rfl) (by kernel_rfl) (by kernel_rfl) rfl hS ?_ ?_; rotate_left
                    · rintro w' rfl; go_simp; with_reducible rfl
                    go_frame
                    refine held_take (i := 15) (dst := some 81) (v := ?_) rfl rfl (by kernel_rfl) (by kernel_rfl) (by kernel_rfl) rfl hS ?_ ?_; rotate_left
                    · rintro w' rfl; go_simp; with_reducible rfl
                    go_frame
                    refine held_take (i := 16) (dst := some 82) (v := ?_) rfl rfl (by kernel_rfl) (by kernel_rfl) (by kernel_rfl) rfl hS ?_ ?_; rotate_left
                    · rintro w' rfl; go_simp; with_reducible rfl
                    go_frame
                    refine held_take (i := 18) (dst := some 84) (v := ?_) rfl rfl (by kernel_rfl) (by kernel_rfl) (by kernel_rfl) rfl hS ?_ ?_; rotate_left
                    · rintro w' rfl; go_simp; with_reducible rfl
                    go_frame
                    refine held_take (i := 19) (dst := some 85) (v := ?_) rfl rfl (by kernel_rfl) (by kernel_rfl) (by kernel_rfl) rfl hS ?_ ?_; rotate_left
                    · rintro w' rfl; go_simp; with_reducible rfl
                    go_frame
                    refine held_take (i := 20) (dst := some 86) (v := ?_) rfl rfl (by kernel_rfl) (by kernel_rfl) (by kernel_rfl) rfl hS ?_ ?_; rotate_left
                    · rintro w' rfl; go_simp; with_reducible rfl
                    go_frame
                    refine held_take (i := 21) (dst := some 87) (v := ?_) rfl rfl (by kernel_rfl) (by kernel_rfl) (by kernel_rfl) rfl hS ?_ ?_; rotate_left
                    · rintro w' rfl; go_simp; with_reducible rfl
                    go_frame
                    refine held_take (i := 22) (dst := some 88) (v := ?_) rfl rfl (by kernel_rfl) (by kernel_rfl) (by kernel_rfl) rfl hS ?_ ?_; rotate_left
                    · rintro w' rfl; go_simp; with_reducible rfl
                    go_frame
                    refine held_take (i := 23) (dst := some 89) (v := ?_) rfl rfl (by kernel_rfl) (by kernel_rfl) (by kernel_rfl) rfl hS ?_ ?_; rotate_left
                    · rintro w' rfl; go_simp; with_reducible rfl
                    go_frame
                    refine held_take (i := 24) (dst := some 90) (v := ?_) rfl rfl (by kernel_rfl) (by kernel_rfl) (by kernel_rfl) rfl hS ?_ ?_; rotate_left
                    · rintro w' rfl; go_simp; with_reducible rfl
                    go_frame
                    refine held_take (i := 25) (dst := some 91) (v := ?_) rfl rfl (by kernel_rfl) (by kernel_rfl) (by kernel_rfl) rfl hS ?_ ?_; rotate_left
                    · rintro w' rfl; go_simp; with_reducible rfl
                    go_frame
                    refine round_one (i := 17) (by kernel_rfl) ?_
                    refine held_call (dst := some 83) rfl rfl rfl ?_ (HLE.out) ?_
                    · go_simp
                    rintro e v17 ⟨v, rfl, hv, rfl⟩
                    obtain rfl := HLV2.out v hv
                    clear hv
                    refine ⟨_, rfl, rfl, ?_⟩
                    go_frame
                    refine held_take (i := 26) (dst := some 92) (v := ?_) rfl rfl (by kernel_rfl) (by kernel_rfl) (by kernel_rfl) rfl hS ?_ ?_; rotate_left
                    · rintro w' rfl; go_simp; with_reducible rfl
                    go_frame
                    refine held_take (i := 27) (dst := some 93) (v := ?_) rfl rfl (by kernel_rfl) (by kernel_rfl) (by kernel_rfl) rfl hS ?_ ?_; rotate_left
                    · rintro w' rfl; go_simp; with_reducible rfl
                    go_frame
                    refine held_take (i := 28) (dst := some 94) (v := ?_) rfl rfl (by kernel_rfl) (by kernel_rfl) (by kernel_rfl) rfl hS ?_ ?_; rotate_left
                    · rintro w' rfl; go_simp; with_reducible rfl
                    go_frame
                    refine round_end (by kernel_rfl) ?_
                    go_wp2_with fail
                    go_meet
                    exact ⟨rfl, rfl⟩
                  · have HLV2 := Lib.hid (show ∀ v, LeastUp G (clsR cls) cc G.length v → v ≠ ni from fun v hv e => ht (by
                      rw [HLV.out v hv, ← HTP.out, HNI.out] at e
                      rw [HTT.out]
                      exact HVU.out (by rw [HTP.out]; exact HK1.out) (by rw [← HKI.out]; exact hk) e))
                    have hb0 : bnd = true := by rw [HBN.out]; simp [ht, hk]
                    clear HBN
                    subst hb0
                    clear HKI HNI HTT ht
                    subst hk
                    have hS : (fun W => W = wr.drew) wr.drew := rfl
                    refine held_start 29 rfl (fun W => W = wr.drew) (by kernel_rfl) ?_
                    refine held_take (i := 0) (dst := some 66) (v := ?_) rfl rfl (by kernel_rfl) (by kernel_rfl) (by kernel_rfl) rfl hS ?_ ?_; rotate_left
                    · rintro w' rfl; go_simp; with_reducible rfl
                    go_frame
                    refine held_take (i := 1) (dst := some 67) (v := ?_) rfl rfl (by kernel_rfl) (by kernel_rfl) (by kernel_rfl) rfl hS ?_ ?_; rotate_left
                    · rintro w' rfl; go_simp; with_reducible rfl
                    go_frame
                    refine held_take (i := 2) (dst := some 68) (v := ?_) rfl rfl (by kernel_rfl) (by kernel_rfl) (by kernel_rfl) rfl hS ?_ ?_; rotate_left
                    · rintro w' rfl; go_simp; with_reducible rfl
                    go_frame
                    refine held_take (i := 3) (dst := some 69) (v := ?_) rfl rfl (by kernel_rfl) (by kernel_rfl) (by kernel_rfl) rfl hS ?_ ?_; rotate_left
                    · rintro w' rfl; go_simp; with_reducible rfl
                    go_frame
                    refine held_take (i := 4) (dst := some 70) (v := ?_) rfl rfl (by kernel_rfl) (by kernel_rfl) (by kernel_rfl) rfl hS ?_ ?_; rotate_left
                    · rintro w' rfl; go_simp; with_reducible rfl
                    go_frame
                    refine held_take (i := 5) (dst := some 71) (v := ?_) rfl rfl (by kernel_rfl) (by kernel_rfl) (by kernel_rfl) rfl hS ?_ ?_; rotate_left
                    · rintro w' rfl; go_simp; with_reducible rfl
                    go_frame
                    refine held_take (i := 6) (dst := some 72) (v := ?_) rfl rfl (by kernel_rfl) (by kernel_rfl) (by kernel_rfl) rfl hS ?_ ?_; rotate_left
                    · rintro w' rfl; go_simp; with_reducible rfl
                    go_frame
                    refine held_take (i := 7) (dst := some 73) (v := ?_) rfl rfl (by kernel_rfl) (by kernel_rfl) (by kernel_rfl) rfl hS ?_ ?_; rotate_left
                    · rintro w' rfl; go_simp; with_reducible rfl
                    go_frame
                    refine held_take (i := 8) (dst := some 74) (v := ?_) rfl rfl (by kernel_rfl) (by kernel_rfl) (by kernel_rfl) rfl hS ?_ ?_; rotate_left
                    · rintro w' rfl; go_simp; with_reducible rfl
                    go_frame
                    refine held_take (i := 9) (dst := some 75) (v := ?_) rfl rfl (by kernel_rfl) (by kernel_rfl) (by kernel_rfl) rfl hS ?_ ?_; rotate_left
                    · rintro w' rfl; go_simp; with_reducible rfl
                    go_frame
                    refine held_take (i := 10) (dst := some 76) (v := ?_) rfl rfl (by kernel_rfl) (by kernel_rfl) (by kernel_rfl) rfl hS ?_ ?_; rotate_left
                    · rintro w' rfl; go_simp; with_reducible rfl
                    go_frame
                    refine held_take (i := 11) (dst := some 77) (v := ?_) rfl rfl (by kernel_rfl) (by kernel_rfl) (by kernel_rfl) rfl hS ?_ ?_; rotate_left
                    · rintro w' rfl; go_simp; with_reducible rfl
                    go_frame
                    refine round_one (i := 12) (by kernel_rfl) ?_
                    refine held_call (dst := some 78) rfl rfl rfl ?_ (HSH.out) ?_
                    · go_simp
                    rintro e v12 ⟨rfl, rfl⟩
                    refine ⟨_, rfl, rfl, ?_⟩
                    go_frame
                    refine held_take (i := 13) (dst := some 79) (v := ?_) rfl rfl (by kernel_rfl) (by kernel_rfl) (by kernel_rfl) rfl hS ?_ ?_; rotate_left
                    · rintro w' rfl; go_simp; with_reducible rfl
                    go_frame
                    refine held_take (i := 14) (dst := some 80) (v := ?_) rfl rfl (by kernel_rfl) (by kernel_rfl) (by kernel_rfl) rfl hS ?_ ?_; rotate_left
                    · rintro w' rfl; go_simp; with_reducible rfl
                    go_frame
                    refine held_take (i := 15) (dst := some 81) (v := ?_) rfl rfl (by kernel_rfl) (by kernel_rfl) (by kernel_rfl) rfl hS ?_ ?_; rotate_left
                    · rintro w' rfl; go_simp; with_reducible rfl
                    go_frame
                    refine held_take (i := 16) (dst := some 82) (v := ?_) rfl rfl (by kernel_rfl) (by kernel_rfl) (by kernel_rfl) rfl hS ?_ ?_; rotate_left
                    · rintro w' rfl; go_simp; with_reducible rfl
                    go_frame
                    refine held_take (i := 18) (dst := some 84) (v := ?_) rfl rfl (by kernel_rfl) (by kernel_rfl) (by kernel_rfl) rfl hS ?_ ?_; rotate_left
                    · rintro w' rfl; go_simp; with_reducible rfl
                    go_frame
                    refine held_take (i := 19) (dst := some 85) (v := ?_) rfl rfl (by kernel_rfl) (by kernel_rfl) (by kernel_rfl) rfl hS ?_ ?_; rotate_left
                    · rintro w' rfl; go_simp; with_reducible rfl
                    go_frame
                    refine held_take (i := 20) (dst := some 86) (v := ?_) rfl rfl (by kernel_rfl) (by kernel_rfl) (by kernel_rfl) rfl hS ?_ ?_; rotate_left
                    · rintro w' rfl; go_simp; with_reducible rfl
                    go_frame
                    refine held_take (i := 21) (dst := some 87) (v := ?_) rfl rfl (by kernel_rfl) (by kernel_rfl) (by kernel_rfl) rfl hS ?_ ?_; rotate_left
                    · rintro w' rfl; go_simp; with_reducible rfl
                    go_frame
                    refine held_take (i := 22) (dst := some 88) (v := ?_) rfl rfl (by kernel_rfl) (by kernel_rfl) (by kernel_rfl) rfl hS ?_ ?_; rotate_left
                    · rintro w' rfl; go_simp; with_reducible rfl
                    go_frame
                    refine held_take (i := 23) (dst := some 89) (v := ?_) rfl rfl (by kernel_rfl) (by kernel_rfl) (by kernel_rfl) rfl hS ?_ ?_; rotate_left
                    · rintro w' rfl; go_simp; with_reducible rfl
                    go_frame
                    refine held_take (i := 24) (dst := some 90) (v := ?_) rfl rfl (by kernel_rfl) (by kernel_rfl) (by kernel_rfl) rfl hS ?_ ?_; rotate_left
                    · rintro w' rfl; go_simp; with_reducible rfl
                    go_frame
                    refine held_take (i := 25) (dst := some 91) (v := ?_) rfl rfl (by kernel_rfl) (by kernel_rfl) (by kernel_rfl) rfl hS ?_ ?_; rotate_left
                    · rintro w' rfl; go_simp; with_reducible rfl
                    go_frame
                    refine round_one (i := 17) (by kernel_rfl) ?_
                    refine held_call (dst := some 83) rfl rfl rfl ?_ (HLE.out) ?_
                    · go_simp
                    rintro e v17 ⟨v, rfl, hv, rfl⟩
                    have hvn := HLV2.out v hv
                    clear hv
                    refine ⟨_, rfl, rfl, ?_⟩
                    go_frame
                    refine held_take (i := 26) (dst := some 92) (v := ?_) rfl rfl (by kernel_rfl) (by kernel_rfl) (by kernel_rfl) rfl hS ?_ ?_; rotate_left
                    · rintro w' rfl; go_simp; with_reducible rfl
                    go_frame
                    refine held_take (i := 27) (dst := some 93) (v := ?_) rfl rfl (by kernel_rfl) (by kernel_rfl) (by kernel_rfl) rfl hS ?_ ?_; rotate_left
                    · rintro w' rfl; go_simp; with_reducible rfl
                    go_frame
                    refine held_take (i := 28) (dst := some 94) (v := ?_) rfl rfl (by kernel_rfl) (by kernel_rfl) (by kernel_rfl) rfl hS ?_ ?_; rotate_left
                    · rintro w' rfl; go_simp; with_reducible rfl
                    go_frame
                    refine round_end (by kernel_rfl) ?_
                    go_wp2_with fail
                    go_meet
                    exact ⟨rfl, by simp [hvn]⟩
                · have gm0 : ¬ ((m : Int) < 0) := by omega
                  have ht : ti ≠ i := fun e => (shapeOf_some s1).2.2 (by rw [← topC_shape s1, ← HTP.out, ← HTT.out, e, ← HKI.out]; exact hk)
                  rw [e1] at HSH
                  clear s1 e1
                  have hb0 : bnd = true := by rw [HBN.out]; simp [ht, hk]
                  clear HBN
                  subst hb0
                  clear HKI HNI HTT ht
                  subst hk
                  have hS : (fun W => W = wr.drew) wr.drew := rfl
                  refine held_start 29 rfl (fun W => W = wr.drew) (by kernel_rfl) ?_
                  refine held_take (i := 0) (dst := some 66) (v := ?_) rfl rfl (by kernel_rfl) (by kernel_rfl) (by kernel_rfl) rfl hS ?_ ?_; rotate_left
                  · rintro w' rfl; go_simp; with_reducible rfl
                  go_frame
                  refine held_take (i := 1) (dst := some 67) (v := ?_) rfl rfl (by kernel_rfl) (by kernel_rfl) (by kernel_rfl) rfl hS ?_ ?_; rotate_left
                  · rintro w' rfl; go_simp; with_reducible rfl
                  go_frame
                  refine held_take (i := 2) (dst := some 68) (v := ?_) rfl rfl (by kernel_rfl) (by kernel_rfl) (by kernel_rfl) rfl hS ?_ ?_; rotate_left
                  · rintro w' rfl; go_simp; with_reducible rfl
                  go_frame
                  refine held_take (i := 3) (dst := some 69) (v := ?_) rfl rfl (by kernel_rfl) (by kernel_rfl) (by kernel_rfl) rfl hS ?_ ?_; rotate_left
                  · rintro w' rfl; go_simp; with_reducible rfl
                  go_frame
                  refine held_take (i := 4) (dst := some 70) (v := ?_) rfl rfl (by kernel_rfl) (by kernel_rfl) (by kernel_rfl) rfl hS ?_ ?_; rotate_left
                  · rintro w' rfl; go_simp; with_reducible rfl
                  go_frame
                  refine held_take (i := 5) (dst := some 71) (v := ?_) rfl rfl (by kernel_rfl) (by kernel_rfl) (by kernel_rfl) rfl hS ?_ ?_; rotate_left
                  · rintro w' rfl; go_simp; with_reducible rfl
                  go_frame
                  refine held_take (i := 6) (dst := some 72) (v := ?_) rfl rfl (by kernel_rfl) (by kernel_rfl) (by kernel_rfl) rfl hS ?_ ?_; rotate_left
                  · rintro w' rfl; go_simp; with_reducible rfl
                  go_frame
                  refine held_take (i := 7) (dst := some 73) (v := ?_) rfl rfl (by kernel_rfl) (by kernel_rfl) (by kernel_rfl) rfl hS ?_ ?_; rotate_left
                  · rintro w' rfl; go_simp; with_reducible rfl
                  go_frame
                  refine held_take (i := 8) (dst := some 74) (v := ?_) rfl rfl (by kernel_rfl) (by kernel_rfl) (by kernel_rfl) rfl hS ?_ ?_; rotate_left
                  · rintro w' rfl; go_simp; with_reducible rfl
                  go_frame
                  refine held_take (i := 9) (dst := some 75) (v := ?_) rfl rfl (by kernel_rfl) (by kernel_rfl) (by kernel_rfl) rfl hS ?_ ?_; rotate_left
                  · rintro w' rfl; go_simp; with_reducible rfl
                  go_frame
                  refine held_take (i := 10) (dst := some 76) (v := ?_) rfl rfl (by kernel_rfl) (by kernel_rfl) (by kernel_rfl) rfl hS ?_ ?_; rotate_left
                  · rintro w' rfl; go_simp; with_reducible rfl
                  go_frame
                  refine held_take (i := 11) (dst := some 77) (v := ?_) rfl rfl (by kernel_rfl) (by kernel_rfl) (by kernel_rfl) rfl hS ?_ ?_; rotate_left
                  · rintro w' rfl; go_simp; with_reducible rfl
                  go_frame
                  refine round_one (i := 12) (by kernel_rfl) ?_
                  refine held_call (dst := some 78) rfl rfl rfl ?_ (HSH.out) ?_
                  · go_simp
                  rintro e v12 ⟨rfl, rfl⟩
                  refine ⟨_, rfl, rfl, ?_⟩
                  go_frame
                  refine held_take (i := 13) (dst := some 79) (v := ?_) rfl rfl (by kernel_rfl) (by kernel_rfl) (by kernel_rfl) rfl hS ?_ ?_; rotate_left
                  · rintro w' rfl; go_simp; with_reducible rfl
                  go_frame
                  refine held_take (i := 14) (dst := some 80) (v := ?_) rfl rfl (by kernel_rfl) (by kernel_rfl) (by kernel_rfl) rfl hS ?_ ?_; rotate_left
                  · rintro w' rfl; go_simp; with_reducible rfl
                  go_frame
                  refine held_pass (i := 15) (dst := some 81) rfl rfl (by kernel_rfl) (by kernel_rfl) (by kernel_rfl) rfl hS ?_
                  go_frame
                  refine held_pass (i := 16) (dst := some 82) rfl rfl (by kernel_rfl) (by kernel_rfl) (by kernel_rfl) rfl hS ?_
                  go_frame
                  refine held_pass (i := 17) (dst := some 83) rfl rfl (by kernel_rfl) (by kernel_rfl) (by kernel_rfl) rfl hS ?_
                  go_frame
                  refine held_pass (i := 18) (dst := some 84) rfl rfl (by kernel_rfl) (by kernel_rfl) (by kernel_rfl) rfl hS ?_
                  go_frame
                  refine held_pass (i := 19) (dst := some 85) rfl rfl (by kernel_rfl) (by kernel_rfl) (by kernel_rfl) rfl hS ?_
                  go_frame
                  refine held_pass (i := 20) (dst := some 86) rfl rfl (by kernel_rfl) (by kernel_rfl) (by kernel_rfl) rfl hS ?_
                  go_frame
                  refine held_pass (i := 21) (dst := some 87) rfl rfl (by kernel_rfl) (by kernel_rfl) (by kernel_rfl) rfl hS ?_
                  go_frame
                  refine held_pass (i := 22) (dst := some 88) rfl rfl (by kernel_rfl) (by kernel_rfl) (by kernel_rfl) rfl hS ?_
                  go_frame
                  refine held_pass (i := 23) (dst := some 89) rfl rfl (by kernel_rfl) (by kernel_rfl) (by kernel_rfl) rfl hS ?_
                  go_frame
                  refine held_pass (i := 24) (dst := some 90) rfl rfl (by kernel_rfl) (by kernel_rfl) (by kernel_rfl) rfl hS ?_
                  go_frame
                  refine held_pass (i := 25) (dst := some 91) rfl rfl (by kernel_rfl) (by kernel_rfl) (by kernel_rfl) rfl hS ?_
                  go_frame
                  refine held_pass (i := 26) (dst := some 92) rfl rfl (by kernel_rfl) (by kernel_rfl) (by kernel_rfl) rfl hS ?_
                  go_frame
                  refine held_take (i := 27) (dst := some 93) (v := ?_) rfl rfl (by kernel_rfl) (by kernel_rfl) (by kernel_rfl) rfl hS ?_ ?_; rotate_left
                  · rintro w' rfl; go_simp; with_reducible rfl
                  go_frame
                  refine held_take (i := 28) (dst := some 94) (v := ?_) rfl rfl (by kernel_rfl) (by kernel_rfl) (by kernel_rfl) rfl hS ?_ ?_; rotate_left
                  · rintro w' rfl; go_simp; with_reducible rfl
                  go_frame
                  refine round_end (by kernel_rfl) ?_
                  go_wp2_with fail
                  go_meet
                  exact ⟨rfl, rfl⟩
              · have hb0 : bnd = false := by rw [HBN.out]; simp [hk]
                have hkb : (ki == 1) = false := by simpa using hk
                have hkn : (ki != 1) = true := by simpa using hk
                clear HBN
                subst hb0
                have hS : (fun W => W = wr.drew) wr.drew := rfl
                refine held_start 29 rfl (fun W => W = wr.drew) (by kernel_rfl) ?_
                refine held_take (i := 0) (dst := some 66) (v := ?_) rfl rfl (by kernel_rfl) (by kernel_rfl) (by kernel_rfl) rfl hS ?_ ?_; rotate_left
                · rintro w' rfl; go_simp; with_reducible rfl
                go_frame
                refine held_take (i := 1) (dst := some 67) (v := ?_) rfl rfl (by kernel_rfl) (by kernel_rfl) (by kernel_rfl) rfl hS ?_ ?_; rotate_left
                · rintro w' rfl; go_simp; with_reducible rfl
                go_frame
                refine held_take (i := 2) (dst := some 68) (v := ?_) rfl rfl (by kernel_rfl) (by kernel_rfl) (by kernel_rfl) rfl hS ?_ ?_; rotate_left
                · rintro w' rfl; go_simp; with_reducible rfl
                go_frame
                refine held_take (i := 3) (dst := some 69) (v := ?_) rfl rfl (by kernel_rfl) (by kernel_rfl) (by kernel_rfl) rfl hS ?_ ?_; rotate_left
                · rintro w' rfl; go_simp; with_reducible rfl
                go_frame
                refine held_take (i := 4) (dst := some 70) (v := ?_) rfl rfl (by kernel_rfl) (by kernel_rfl) (by kernel_rfl) rfl hS ?_ ?_; rotate_left
                · rintro w' rfl; go_simp; with_reducible rfl
                go_frame
                refine held_take (i := 5) (dst := some 71) (v := ?_) rfl rfl (by kernel_rfl) (by kernel_rfl) (by kernel_rfl) rfl hS ?_ ?_; rotate_left
                · rintro w' rfl; go_simp; with_reducible rfl
                go_frame
                refine held_take (i := 6) (dst := some 72) (v := ?_) rfl rfl (by kernel_rfl) (by kernel_rfl) (by kernel_rfl) rfl hS ?_ ?_; rotate_left
                · rintro w' rfl; go_simp; with_reducible rfl
                go_frame
                refine held_take (i := 7) (dst := some 73) (v := ?_) rfl rfl (by kernel_rfl) (by kernel_rfl) (by kernel_rfl) rfl hS ?_ ?_; rotate_left
                · rintro w' rfl; go_simp; with_reducible rfl
                go_frame
                refine held_take (i := 8) (dst := some 74) (v := ?_) rfl rfl (by kernel_rfl) (by kernel_rfl) (by kernel_rfl) rfl hS ?_ ?_; rotate_left
                · rintro w' rfl; go_simp; with_reducible rfl
                go_frame
                refine held_take (i := 9) (dst := some 75) (v := ?_) rfl rfl (by kernel_rfl) (by kernel_rfl) (by kernel_rfl) rfl hS ?_ ?_; rotate_left
                · rintro w' rfl; go_simp; with_reducible rfl
                go_frame
                refine held_pass (i := 10) (dst := some 76) rfl rfl (by kernel_rfl) (by kernel_rfl) (by kernel_rfl) rfl hS ?_
                go_frame
                refine held_pass (i := 11) (dst := some 77) rfl rfl (by kernel_rfl) (by kernel_rfl) (by kernel_rfl) rfl hS ?_
                go_frame
                refine held_pass (i := 12) (dst := some 78) rfl rfl (by kernel_rfl) (by kernel_rfl) (by kernel_rfl) rfl hS ?_
                go_frame
                refine held_pass (i := 13) (dst := some 79) rfl rfl (by kernel_rfl) (by kernel_rfl) (by kernel_rfl) rfl hS ?_
                go_frame
                refine held_pass (i := 14) (dst := some 80) rfl rfl (by kernel_rfl) (by kernel_rfl) (by kernel_rfl) rfl hS ?_
                go_frame
                refine held_pass (i := 15) (dst := some 81) rfl rfl (by kernel_rfl) (by kernel_rfl) (by kernel_rfl) rfl hS ?_
                go_frame
                refine held_pass (i := 16) (dst := some 82) rfl rfl (by kernel_rfl) (by kernel_rfl) (by kernel_rfl) rfl hS ?_
                go_frame
                refine held_pass (i := 17) (dst := some 83) rfl rfl (by kernel_rfl) (by kernel_rfl) (by kernel_rfl) rfl hS ?_
                go_frame
                refine held_pass (i := 18) (dst := some 84) rfl rfl (by kernel_rfl) (by kernel_rfl) (by kernel_rfl) rfl hS ?_
                go_frame
                refine held_pass (i := 19) (dst := some 85) rfl rfl (by kernel_rfl) (by kernel_rfl) (by kernel_rfl) rfl hS ?_
                go_frame
                refine held_pass (i := 20) (dst := some 86) rfl rfl (by kernel_rfl) (by kernel_rfl) (by kernel_rfl) rfl hS ?_
                go_frame
                refine held_pass (i := 21) (dst := some 87) rfl rfl (by kernel_rfl) (by kernel_rfl) (by kernel_rfl) rfl hS ?_
                go_frame
                refine held_pass (i := 22) (dst := some 88) rfl rfl (by kernel_rfl) (by kernel_rfl) (by kernel_rfl) rfl hS ?_
                go_frame
                refine held_pass (i := 23) (dst := some 89) rfl rfl (by kernel_rfl) (by kernel_rfl) (by kernel_rfl) rfl hS ?_
                go_frame
                refine held_pass (i := 24) (dst := some 90) rfl rfl (by kernel_rfl) (by kernel_rfl) (by kernel_rfl) rfl hS ?_
                go_frame
                refine held_pass (i := 25) (dst := some 91) rfl rfl (by kernel_rfl) (by kernel_rfl) (by kernel_rfl) rfl hS ?_
                go_frame
                refine held_pass (i := 26) (dst := some 92) rfl rfl (by kernel_rfl) (by kernel_rfl) (by kernel_rfl) rfl hS ?_
                go_frame
                refine held_pass (i := 27) (dst := some 93) rfl rfl (by kernel_rfl) (by kernel_rfl) (by kernel_rfl) rfl hS ?_
                go_frame
                refine held_take (i := 28) (dst := some 94) (v := ?_) rfl rfl (by kernel_rfl) (by kernel_rfl) (by kernel_rfl) rfl hS ?_ ?_; rotate_left
                · rintro w' rfl; go_simp; with_reducible rfl
                go_frame
                refine round_end (by kernel_rfl) ?_
                go_wp2_with fail
                go_meet
                exact ⟨rfl, rfl⟩
            case rest =>
            obtain ⟨rfl, rfl⟩ := hcut
            clear d0 d0' d1 d1' HSH HLE HSP HTI HVU
            cases bnd with
            | false =>
              have hskip : ¬ ((nd G i).tm.kind = 1 ∧ (topF G (clsR cls)) i ≠ i) := by
                have := HBN.out
                rw [HKI.out, HTT.out] at this
                exact of_decide_eq_false this.symm
              have HN := Lib.hid ((HI.out.ext (Ext.drew _)).skip hskip)
              clear hskip HBN HKI HNI HTT
              go_wp2_with fail
              go_roundw
              case rel => exact ⟨i + 1, A, acc, c, bd, by omega, by omega, by go_num, rfl, hnil, HN, HB⟩
              case measure => simp [intOf]; omega
            | true =>
              have HBD := Lib.hid (show (nd G i).tm.kind = 1 ∧ (topF G (clsR cls)) i ≠ i from by
                have := HBN.out
                rw [HKI.out, HTT.out] at this
                exact of_decide_eq_true this.symm)
              obtain ⟨m1, hm1⟩ : ∃ m, m = (mget M cc).1 := ⟨_, rfl⟩
              obtain ⟨m2, hm2⟩ : ∃ m, m = (mget M cc).2 := ⟨_, rfl⟩
              rw [← hm1, ← hm2] at HM1
              obtain ⟨g0, g1⟩ := HM1.out
              have HSM := Lib.hid (show m1 = min (sol G (topF G (clsR cls)) (G.length + 1) i).size 201 ∧ m2 = min (sol G (topF G (clsR cls)) (G.length + 1) i).depth 21 from by rw [hm1, hm2, HSI.out]; exact ⟨rfl, rfl⟩)
              clear hm1 hm2 HM1 HBN HKI HTT
              by_cases hs1 : 200 < m1
              · have HO := Lib.hid (sol_large HC.out HRK.out H0.out.2.2.2.2.2.2 hlt HBD.out (fun h => by have := HSM.out.1; have := h.1; omega))
                clear HSM
                go_wp2_with fail
                go_ret2
                exact ⟨none, 0, [], 6, rfl, HO.out, BLst.nil _, (HE5.out.trans HI.out.ex).trans (Ext.drew _)⟩
              by_cases hs2 : 20 < m2
              · have HO := Lib.hid (sol_large HC.out HRK.out H0.out.2.2.2.2.2.2 hlt HBD.out (fun h => by have := HSM.out.2; have := h.2; omega))
                clear HSM
                go_wp2_with fail
                go_ret2
                exact ⟨none, 0, [], 6, rfl, HO.out, BLst.nil _, (HE5.out.trans HI.out.ex).trans (Ext.drew _)⟩
              have HFI := Lib.hid (show (sol G (topF G (clsR cls)) (G.length + 1) i).size ≤ 200 ∧ (sol G (topF G (clsR cls)) (G.length + 1) i).depth ≤ 20 from by have := HSM.out; omega)
              have HQT := Lib.hid (fun W (hW : Ext wr W) => show Calls Tryz.prog 168 #[.pointer (some ⟨w.heap.size, 0, none⟩), .int .i64 (cc : Nat)] W (TermO G (topF G (clsR cls)) (G.length + 1) i W) from by
                rw [HCC.out]
                exact rterm_at HC.out HRK.out (G.length + 1) i W hlt (HRK.out i hlt).1 (HGR.out.ext hW))
              have QA := Lib.hid (HQT.out wr.drew.drew ((Ext.drew _).trans (Ext.drew _)))
              have QB := Lib.hid (HQT.out (wr.alloc (.cells #[.int .i64 0, .int .i64 0, .int .i64 0, .string ⟨#[]⟩, .slice none 0 0] 47)).drew.drew (((Ext.al _ _).trans (Ext.drew _)).trans (Ext.drew _)))
              obtain ⟨d0, d1, _, _⟩ := (HGD.out.ext (Ext.drew _)).cells hlt
              have c5 := (HGD.out.ext (Ext.drew _)).hl
              have HGI := Lib.hid (show ni = (nd G i).tm.num from HNI.out)
              rw [← HNI.out] at d1
              have HCE := Lib.hid (fun W (hW : Ext wr W) => show W.cell? ⟨w.heap.size, 0, none⟩ = some (.slice (some ⟨q, 0, none⟩) G.length zca) ∧ W.cell? ⟨q, i * 4 + 1, none⟩ = some (.int .i64 ni) from ⟨(HGR.out.ext hW).hl, by rw [HNI.out]; exact ((HGR.out.ext hW).cells hlt).2.1⟩)
              clear HSM d0 HNI HSI
              go_upto_region 20 with fail
              clear hs1 hs2 g0 g1
              have c5x := fun o => keepv (Ext.al _ o) c5
              have d1x := fun o => keepv (Ext.al _ o) d1
              have d1w := (HCE.out wr (Ext.refl wr)).2
              have c0x := fun o => keepv (Ext.al _ o) c0
              have d1wx := fun o => keepv (Ext.al _ o) d1w
              go_cut [15] from 50 to 150 (fun s15 W => Hid (∃ (u : Tm) (B : Nat), s15 = .pointer (some ⟨B, 0, none⟩) ∧ u.strip = (sol G (topF G (clsR cls)) (G.length + 1) i) ∧ BoxB wr B ni u W))
              case first =>
                go_region_with (first
                  | (go_at_call 168; (with_reducible refine (QA.out).mono ?_); rintro e w2 ⟨u, rfl, m1, m2, m3⟩; obtain ⟨k2, n2, s2, A2, p2, a2⟩ := u; have M3 := Lib.hid (((Ext.drew wr).trans (Ext.drew _)).trans m3); have HBX := Lib.hid (BoxB.fresh (v := ni) M3.out (m2.at trivial) 47); have HU := Lib.hid m1; have g0 := (HCE.out w2 M3.out).1; have g1 := (HCE.out w2 M3.out).2; have g0x := fun o => keepv (Ext.al _ o) g0; have g1x := fun o => keepv (Ext.al _ o) g1; clear m1 m2 m3)
                  | (go_at_call 168; (with_reducible refine (QB.out).mono ?_); rintro e w2 ⟨u, rfl, m1, m2, m3⟩; obtain ⟨k2, n2, s2, A2, p2, a2⟩ := u; have m4 := m3.undrew.undrew; have M3 := Lib.hid ((Ext.al wr _).trans m4); have HBX := Lib.hid (BoxB.stored (v := ni) rfl (Ext.refl wr) m4 m2); have HU := Lib.hid m1; obtain ⟨⟨b0, b1, b2, b3, b4⟩, ff, hz⟩ := five_facts rfl m4; have f0 := ff 0; have f1 := ff 1; have f2 := ff 2; have f3 := ff 3; have f4 := ff 4; have g0 := (HCE.out w2 M3.out).1; have g1 := (HCE.out w2 M3.out).2; clear m1 m2 m3 m4 ff))
                all_goals
                  go_wp2_with fail
                  go_meet
                  exact Lib.hid ⟨_, _, rfl, HU.out, HBX.out⟩
              case rest =>
              obtain ⟨u, bx, rfl, hu, hbx⟩ := hcut.out
              obtain ⟨k2, n2, s2, A2, p2, a2⟩ := u
              have HX := Lib.hid hbx
              have HU := Lib.hid hu
              have HI7 := Lib.hid (HI.out.ext hbx.ex)
              have HT7 := Lib.hid (show Fits ni ∧ (Tm.mk k2 n2 s2 A2 p2 a2).At wc from ⟨by rw [HGI.out]; exact (HG5.out.fine i hlt).num, hbx.tm⟩)
              have hcl := HI7.out.bl.1
              have hcm := HI7.out.bl.2.1
              unfold maxLen at hcm
              have HPUT := Lib.hid (fun (k : Nat) (hk : k ≤ acc.length) (h1 : ∀ m, m < k → (acc.getD m default).var < ni) (h2 : k < acc.length → ¬ (acc.getD k default).var < ni) (A' : Option Addr) (c' : Nat) (W : World) (hC : Cat wc (.slice A' (acc.take k ++ [Bd.mk ni (.mk k2 n2 s2 A2 p2 a2)] ++ acc.drop k).length c') (acc.take k ++ [Bd.mk ni (.mk k2 n2 s2 A2 p2 a2)] ++ acc.drop k) W) => show Hid (Ins G (topF G (clsR cls)) (G.length + 1) w5 (i + 1) A' (acc.take k ++ [Bd.mk ni (.mk k2 n2 s2 A2 p2 a2)] ++ acc.drop k) c' (bd.take k ++ [i] ++ bd.drop k) W) ∧ (acc.take k ++ [Bd.mk ni (.mk k2 n2 s2 A2 p2 a2)] ++ acc.drop k).length ≤ i + 1 from by
                have hg := HGI.out
                subst hg
                exact ⟨Lib.hid (HI7.out.put HC.out.varu hlt HBD.out hk h1 h2 HU.out hC.blst (HI7.out.ex.trans hC.ex)), by simp only [List.length_append, List.length_take, List.length_drop, List.length_singleton]; omega⟩)
              have HB2 := Lib.hid (fun (k : Nat) => show ∀ m ∈ bd.take k ++ [i] ++ bd.drop k, (sol G (topF G (clsR cls)) (G.length + 1) m).size ≤ 200 ∧ (sol G (topF G (clsR cls)) (G.length + 1) m).depth ≤ 20 from fun m hm => by
                rcases List.mem_append.1 hm with hm | hm
                · rcases List.mem_append.1 hm with hm | hm
                  · exact HB.out m (List.mem_of_mem_take hm)
                  · rw [List.mem_singleton.1 hm]; exact HFI.out
                · exact HB.out m (List.mem_of_mem_drop hm))
              have HMEM := Lib.hid (fun x hx => HI7.out.bl.mem (x := x) hx)
              clear hcut hu hbx HI HG5 HGR HGD HQT QA QB HCE c0 c1 c0' d1 c5 c5x d1x d1w c0x d1wx d4 HB HBD HFI HU HGI HMR HML HMI HSZ
              rename World => wp
              go_wp2_with fail
              go_loopw [17] (fun s17 wv => ∃ k : Nat, k ≤ acc.length ∧ s17 = .int .i64 (k : Nat) ∧ Hid (∀ m, m < k → (acc.getD m default).var < ni) ∧ Hid (Ext wp wv)) (fun s17 _ => acc.length - (intOf s17).toNat)
              case atStart => exact ⟨0, Nat.zero_le _, rfl, Lib.hid (fun m hm => by omega), Lib.hid (Ext.refl _)⟩
              case round =>
                obtain ⟨k, hk, rfl, HF, HW⟩ := hrel
                obtain ⟨_, _, _, e0, _, _, _, _, _⟩ := HX.out.below HW.out
                by_cases hlt2 : k < acc.length
                · obtain ⟨b0, o, rfl, ⟨f0, _⟩, _⟩ := (HI7.out.bl.below HW.out).get hlt2
                  have HF2 := Lib.hid (fun (h : (acc.getD k default).var < ni) m (hm : m < k + 1) => show (acc.getD m default).var < ni from by
                    rcases Nat.lt_succ_iff_lt_or_eq.1 hm with h1 | rfl
                    · exact HF.out m h1
                    · exact h)
                  have HP := Lib.hid (fun h => HPUT.out k hk HF.out (fun _ => h))
                  generalize (acc.getD k default).var = t at *
                  have jlt : decide ((k : Int) < (acc.length : Int)) = true := decide_eq_true (by omega)
                  by_cases hv : t < ni
                  · have hv' : decide (t < ni) = true := decide_eq_true hv
                    have HG := Lib.hid (HF2.out hv)
                    clear hv HF2 HP
                    go_wp2_with fail
                    go_quiet (fail)
                    go_wp2_with fail
                    go_roundw
                    case rel => exact ⟨k + 1, by omega, by go_num, HG, Lib.hid (below_drewN HW.out _)⟩
                    case measure => simp [intOf]; omega
                  · have hv' : decide (t < ni) = false := decide_eq_false hv
                    have HPP := Lib.hid (HP.out (by omega))
                    have hck : ¬ c = k := by omega
                    clear hv HF2 HP
                    go_wp2_with fail
                    go_quiet (fail)
                    rename_i nq
                    go_wp2_with (first | (at_builtin; refine wpList_append_z rfl _ _ rfl wp.heap.size (.slice none 0 0) 0 [] rfl (Cat.nil (below_drewN HW.out nq)).own (some ⟨b0, o, none⟩) k _ (bcells (acc.take k)) rfl (by rw [bcells_len, List.length_take, Nat.min_eq_left (by omega)]) (fun e => by cases e) (fun ad e j u hu => (HI7.out.bl.below (below_drewN HW.out nq)).take_cells (by omega) ad e j u hu) (bcells_ones _) (by omega) (below_drewN HW.out nq).size ?_; intro z1 w1 own1 g1; have C1 := Lib.hid ((Cat.nil (below_drewN HW.out nq)).app (m := acc.take k) (fun x hx => HMEM.out x (List.mem_of_mem_take hx)) own1 (by rw [List.length_take]; simp; omega) (by simp [bcells]) g1); clear own1 g1; obtain ⟨_, _, _, e0, e1, e2, e3, e4, _⟩ := HX.out.below C1.out.ex) | (at_builtin; refine wpList_append_z rfl _ _ rfl wp.heap.size z1 _ _ rfl (C1.out.al _).own (some ⟨w1.heap.size, 0, none⟩) 1 _ (Bd.cells (Bd.mk ni (.mk k2 n2 s2 A2 p2 a2))) rfl rfl (fun e => by cases e) (fun ad e j u hu => by injection e with e; subst e; exact bnews1 w1 (Bd.mk ni (.mk k2 n2 s2 A2 p2 a2)) j u hu) (bcells_one _) (by simp only [List.nil_append, List.length_take]; omega) (Nat.le_trans C1.out.ex.size (Ext.al _ _).size) ?_; intro z2 w2 own2 g2; have C2' := ((C1.out.al _).app (m := [Bd.mk ni (.mk k2 n2 s2 A2 p2 a2)]) (fun x hx => by rw [List.mem_singleton.1 hx]; exact HT7.out) own2 rfl (by simp [bcells]) g2); obtain ⟨A9, c9, e9, h9⟩ := C2'.form; rw [show (([] : List Bd) ++ acc.take k ++ [Bd.mk ni (.mk k2 n2 s2 A2 p2 a2)]).length = k + 1 from (by simp only [List.nil_append, List.length_append, List.length_take, List.length_singleton]; omega)] at e9; subst e9; obtain ⟨g9, rfl⟩ := h9.resolve_left (by simp); have C2 := Lib.hid C2'; clear C2' own2 g2 e0 e1 e2 e3 e4 h9) | (at_builtin; refine wpList_append_z rfl _ _ rfl wp.heap.size _ _ _ rfl C2.out.own (some ⟨b0, o + k * 5, none⟩) (acc.length - k) _ (bcells (acc.drop k)) rfl (by rw [bcells_len, List.length_drop]) (fun e => by cases e) (fun ad e j u hu => (HI7.out.bl.below C2.out.ex).drop_cells hk ad e j u hu) (bcells_ones _) (by simp only [List.nil_append, List.length_append, List.length_take, List.length_singleton]; omega) C2.out.ex.size ?_; intro z3 w3 own3 g3; have C3 := C2.out.app (m := acc.drop k) (fun x hx => HMEM.out x (List.mem_of_mem_drop hx)) own3 (by simp only [List.length_append, List.length_take, List.length_drop, List.length_singleton, List.nil_append] <;> omega) (by simp only [List.nil_append]) g3; obtain ⟨A3, c3, rfl, hA3⟩ := C3.form; have C4 := Lib.hid C3; clear C3 own3 g3))
                    all_goals
                      obtain ⟨HN, hlen⟩ := HPP.out _ _ _ C4.out
                      have hA4 : ∃ g, A3 = some ⟨g, 0, none⟩ := hA3.resolve_left (by simp)
                      go_roundw
                      case rel => exact ⟨i + 1, A3, _, c3, _, by omega, hlen, by go_num, by (first | rfl | (congr 1; simp only [List.length_append, List.length_take, List.length_drop, List.length_singleton]; omega)), .inr hA4, HN, Lib.hid (HB2.out _)⟩
                      case measure => simp [intOf]; omega
                · obtain rfl : k = acc.length := by omega
                  have jlt : decide ((acc.length : Int) < (acc.length : Int)) = false := decide_eq_false (by omega)
                  have HPP := Lib.hid (HPUT.out _ hk HF.out (fun h => absurd h hlt2))
                  rcases hnil with ⟨rfl, rfl, rfl⟩ | ⟨b0, rfl⟩
                  · have hnl : ([] : List Bd).length = 0 := rfl
                    go_wp2_with fail
                    go_quiet (fail)
                    rename_i nq
                    go_wp2_with (first
                      | (at_builtin; refine wpList_append_z rfl _ _ rfl wp.heap.size (.slice none 0 0) 0 [] rfl (Cat.nil (below_drewN HW.out nq)).own none 0 _ [] rfl rfl (fun _ => rfl) (fun ad e => by cases e) (fun u hu => by cases hu) (by omega) (below_drewN HW.out nq).size ?_; intro z1 w1 own1 g1; have C1 := Lib.hid ((Cat.nil (below_drewN HW.out nq)).app (m := []) (fun x hx => by cases hx) own1 rfl rfl g1); clear own1 g1; obtain ⟨_, _, _, e0, e1, e2, e3, e4, _⟩ := HX.out.below C1.out.ex)
                      | (at_builtin; refine wpList_append_z rfl _ _ rfl wp.heap.size z1 _ _ rfl (C1.out.al _).own (some ⟨w1.heap.size, 0, none⟩) 1 _ (Bd.cells (Bd.mk ni (.mk k2 n2 s2 A2 p2 a2))) rfl rfl (fun e => by cases e) (fun ad e j u hu => by injection e with e; subst e; exact bnews1 w1 (Bd.mk ni (.mk k2 n2 s2 A2 p2 a2)) j u hu) (bcells_one _) (by simp) (Nat.le_trans C1.out.ex.size (Ext.al _ _).size) ?_; intro z2 w2 own2 g2; have C2' := ((C1.out.al _).app (m := [Bd.mk ni (.mk k2 n2 s2 A2 p2 a2)]) (fun x hx => by rw [List.mem_singleton.1 hx]; exact HT7.out) own2 rfl (by simp [bcells]) g2); obtain ⟨A9, c9, rfl, h9⟩ := C2'.form; obtain ⟨g9, rfl⟩ := h9.resolve_left (by simp); have C2 := Lib.hid C2'; clear C2' own2 g2 e0 e1 e2 e3 e4 h9)
                      | (at_builtin; refine wpList_append_z rfl _ _ rfl wp.heap.size _ _ _ rfl C2.out.own none 0 _ [] rfl rfl (fun _ => rfl) (fun ad e => by cases e) (fun u hu => by cases hu) (by simp) C2.out.ex.size ?_; intro z3 w3 own3 g3; have C3 := C2.out.app (m := []) (fun x hx => by cases hx) own3 rfl rfl g3; obtain ⟨A3, c3, rfl, hA3⟩ := C3.form; have C4 := Lib.hid C3; clear C3 own3 g3))
                    all_goals
                      obtain ⟨HN, hlen⟩ := HPP.out _ _ _ C4.out
                      have hA4 : ∃ g, A3 = some ⟨g, 0, none⟩ := hA3.resolve_left (by simp)
                      go_roundw
                      case rel => exact ⟨i + 1, A3, _, c3, _, by omega, hlen, by go_num, by (first | rfl | (congr 1; simp)), .inr hA4, HN, Lib.hid (HB2.out _)⟩
                      case measure => simp [intOf]; omega
                  · skip
                    by_cases hck : c = acc.length
                    · skip
                      go_wp2_with fail
                      go_quiet (fail)
                      rename_i nq
                      go_wp2_with (first
                        | (at_builtin; refine wpList_append_z rfl _ _ rfl wp.heap.size (.slice none 0 0) 0 [] rfl (Cat.nil (below_drewN HW.out nq)).own (some ⟨b0, 0, none⟩) acc.length _ (bcells (acc.take acc.length)) rfl (by rw [bcells_len, List.length_take, Nat.min_self]) (fun e => by cases e) (fun ad e j u hu => (HI7.out.bl.below (below_drewN HW.out nq)).take_cells (Nat.le_refl _) ad e j u hu) (bcells_ones _) (by omega) (below_drewN HW.out nq).size ?_; intro z1 w1 own1 g1; have C1 := Lib.hid ((Cat.nil (below_drewN HW.out nq)).app (m := acc.take acc.length) (fun x hx => HMEM.out x (List.mem_of_mem_take hx)) own1 (by rw [List.length_take]; simp) (by simp [bcells]) g1); clear own1 g1; obtain ⟨_, _, _, e0, e1, e2, e3, e4, _⟩ := HX.out.below C1.out.ex)
                        | (at_builtin; refine wpList_append_z rfl _ _ rfl wp.heap.size z1 _ _ rfl (C1.out.al _).own (some ⟨w1.heap.size, 0, none⟩) 1 _ (Bd.cells (Bd.mk ni (.mk k2 n2 s2 A2 p2 a2))) rfl rfl (fun e => by cases e) (fun ad e j u hu => by injection e with e; subst e; exact bnews1 w1 (Bd.mk ni (.mk k2 n2 s2 A2 p2 a2)) j u hu) (bcells_one _) (by simp only [List.nil_append, List.length_take]; omega) (Nat.le_trans C1.out.ex.size (Ext.al _ _).size) ?_; intro z2 w2 own2 g2; have C2' := ((C1.out.al _).app (m := [Bd.mk ni (.mk k2 n2 s2 A2 p2 a2)]) (fun x hx => by rw [List.mem_singleton.1 hx]; exact HT7.out) own2 rfl (by simp [bcells]) g2); obtain ⟨A9, c9, e9, h9⟩ := C2'.form; rw [show (([] : List Bd) ++ acc.take acc.length ++ [Bd.mk ni (.mk k2 n2 s2 A2 p2 a2)]).length = acc.length + 1 from (by simp only [List.nil_append, List.length_append, List.length_take, List.length_singleton]; omega)] at e9; subst e9; obtain ⟨g9, rfl⟩ := h9.resolve_left (by simp); have C2 := Lib.hid C2'; clear C2' own2 g2 e0 e1 e2 e3 e4 h9)
                        | (at_builtin; refine wpList_append_z rfl _ _ rfl wp.heap.size _ _ _ rfl C2.out.own (some ⟨b0, 0, none⟩) 0 _ (bcells (acc.drop acc.length)) rfl (by rw [List.drop_length]; rfl) (fun e => by first | rfl | cases e) (fun ad e j u hu => by rw [List.drop_length] at hu; simp [bcells] at hu) (bcells_ones _) (by simp only [List.nil_append, List.length_append, List.length_take, List.length_singleton]; omega) C2.out.ex.size ?_; intro z3 w3 own3 g3; have C3 := C2.out.app (m := acc.drop acc.length) (fun x hx => HMEM.out x (List.mem_of_mem_drop hx)) own3 (by simp only [List.length_append, List.length_take, List.length_drop, List.length_singleton, List.nil_append] <;> omega) (by simp only [List.nil_append]) g3; obtain ⟨A3, c3, rfl, hA3⟩ := C3.form; have C4 := Lib.hid C3; clear C3 own3 g3))
                      all_goals
                        obtain ⟨HN, hlen⟩ := HPP.out _ _ _ C4.out
                        have hA4 : ∃ g, A3 = some ⟨g, 0, none⟩ := hA3.resolve_left (by simp)
                        go_roundw
                        case rel => exact ⟨i + 1, A3, _, c3, _, by omega, hlen, by go_num, by (first | rfl | (congr 1; simp only [List.length_append, List.length_take, List.length_drop, List.length_singleton]; omega)), .inr hA4, HN, Lib.hid (HB2.out _)⟩
                        case measure => simp [intOf]; omega
                    · skip
                      go_wp2_with fail
                      go_quiet (fail)
                      rename_i nq
                      go_wp2_with (first
                        | (at_builtin; refine wpList_append_z rfl _ _ rfl wp.heap.size (.slice none 0 0) 0 [] rfl (Cat.nil (below_drewN HW.out nq)).own (some ⟨b0, 0, none⟩) acc.length _ (bcells (acc.take acc.length)) rfl (by rw [bcells_len, List.length_take, Nat.min_self]) (fun e => by cases e) (fun ad e j u hu => (HI7.out.bl.below (below_drewN HW.out nq)).take_cells (Nat.le_refl _) ad e j u hu) (bcells_ones _) (by omega) (below_drewN HW.out nq).size ?_; intro z1 w1 own1 g1; have C1 := Lib.hid ((Cat.nil (below_drewN HW.out nq)).app (m := acc.take acc.length) (fun x hx => HMEM.out x (List.mem_of_mem_take hx)) own1 (by rw [List.length_take]; simp) (by simp [bcells]) g1); clear own1 g1; obtain ⟨_, _, _, e0, e1, e2, e3, e4, _⟩ := HX.out.below C1.out.ex)
                        | (at_builtin; refine wpList_append_z rfl _ _ rfl wp.heap.size z1 _ _ rfl (C1.out.al _).own (some ⟨w1.heap.size, 0, none⟩) 1 _ (Bd.cells (Bd.mk ni (.mk k2 n2 s2 A2 p2 a2))) rfl rfl (fun e => by cases e) (fun ad e j u hu => by injection e with e; subst e; exact bnews1 w1 (Bd.mk ni (.mk k2 n2 s2 A2 p2 a2)) j u hu) (bcells_one _) (by simp only [List.nil_append, List.length_take]; omega) (Nat.le_trans C1.out.ex.size (Ext.al _ _).size) ?_; intro z2 w2 own2 g2; have C2' := ((C1.out.al _).app (m := [Bd.mk ni (.mk k2 n2 s2 A2 p2 a2)]) (fun x hx => by rw [List.mem_singleton.1 hx]; exact HT7.out) own2 rfl (by simp [bcells]) g2); obtain ⟨A9, c9, e9, h9⟩ := C2'.form; rw [show (([] : List Bd) ++ acc.take acc.length ++ [Bd.mk ni (.mk k2 n2 s2 A2 p2 a2)]).length = acc.length + 1 from (by simp only [List.nil_append, List.length_append, List.length_take, List.length_singleton]; omega)] at e9; subst e9; obtain ⟨g9, rfl⟩ := h9.resolve_left (by simp); have C2 := Lib.hid C2'; clear C2' own2 g2 e0 e1 e2 e3 e4 h9)
                        | (at_builtin; refine wpList_append_z rfl _ _ rfl wp.heap.size _ _ _ rfl C2.out.own (some ⟨b0, acc.length * 5, none⟩) 0 _ (bcells (acc.drop acc.length)) rfl (by rw [List.drop_length]; rfl) (fun e => by first | rfl | cases e) (fun ad e j u hu => by rw [List.drop_length] at hu; simp [bcells] at hu) (bcells_ones _) (by simp only [List.nil_append, List.length_append, List.length_take, List.length_singleton]; omega) C2.out.ex.size ?_; intro z3 w3 own3 g3; have C3 := C2.out.app (m := acc.drop acc.length) (fun x hx => HMEM.out x (List.mem_of_mem_drop hx)) own3 (by simp only [List.length_append, List.length_take, List.length_drop, List.length_singleton, List.nil_append] <;> omega) (by simp only [List.nil_append]) g3; obtain ⟨A3, c3, rfl, hA3⟩ := C3.form; have C4 := Lib.hid C3; clear C3 own3 g3))
                      all_goals
                        obtain ⟨HN, hlen⟩ := HPP.out _ _ _ C4.out
                        have hA4 : ∃ g, A3 = some ⟨g, 0, none⟩ := hA3.resolve_left (by simp)
                        go_roundw
                        case rel => exact ⟨i + 1, A3, _, c3, _, by omega, hlen, by go_num, by (first | rfl | (congr 1; simp only [List.length_append, List.length_take, List.length_drop, List.length_singleton]; omega)), .inr hA4, HN, Lib.hid (HB2.out _)⟩
                        case measure => simp [intOf]; omega
          · obtain rfl : i = G.length := by omega
            have HO := Lib.hid (sol_fine HC.out HRK.out H0.out.2.2.2.2.2.2 HI.out.bound HB.out)
            go_wp2_with fail
            go_ret2
            exact ⟨A, c, acc, 0, rfl, by rw [HI.out.is]; exact HO.out, HI.out.bl, HE5.out.trans HI.out.ex⟩
end Go.Proofs.YtgpglgehlnfggaaGreat
