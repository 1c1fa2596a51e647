/-
  AkFolR.
-/
import Derived.Test.YtgpglgehlnfggaaGreatMe17
import Derived.Test.YtgpglgehlnfggaaGreatMe21
import Derived.Test.YtgpglgehlnfggaaGreatMe16
import Derived.Test.YtgpglgehlnfggaaGreatMe8
import Derived.Deep.AppendLies
import Derived.Deep.RegionHeld3
import Derived.Deep.CutRange
import Derived.BigRegion
namespace Go.Proofs.YtgpglgehlnfggaaGreat
open Go.RowKit
set_option linter.unusedVariables false
theorem fol_ops8 {op : Int} (h : 5 ≤ op ∧ op ≤ 12) : op = 5 ∨ op = 6 ∨ op = 7 ∨ op = 8 ∨ op = 9 ∨ op = 10 ∨ op = 11 ∨ op = 12 := by omega
theorem gl_of_own {W : World} {base g cap : Nat} {L : List Gl} (h : W.ownsRow base 24 3 (.slice (some ⟨g, 0, none⟩) L.length cap) L.length (glcells L)) (hat : ∀ x ∈ L, x.At W) : GlLst W (some ⟨g, 0, none⟩) L cap := by
  rcases h.2 with ⟨e, _⟩ | ⟨g', cap', cur, e, hb, hg, hle, hcap, hcs, hcur⟩
  · injection e with e; cases e
  · injection e with e1 e2 e3
    subst e3
    refine ⟨hle, hcap, fun h0 => ⟨g, 0, rfl, fun i hi => ⟨fun j u hu => ?_, hat _ (gl_getD_mem hi)⟩⟩⟩
    have hj := Gl.cells_lt hu
    rw [Nat.zero_add, World.ownsRow.cellAt h (i * 3 + j) (by omega)]
    exact (glcells_get L hi hj).trans hu
theorem news_lit (w : World) (cs : List Value) (T : TypeId) : ∀ j u, cs[j]? = some u → (w.alloc (.cells cs.toArray T)).cell? ((⟨w.heap.size, 0, none⟩ : Addr).add j) = some u := by
  intro j u h
  rw [add_plain, Nat.zero_add, World.cell?_alloc_at _ _ _ _ rfl, List.getElem?_toArray]
  exact h
theorem grown_cell {w w' : World} {r : Nat} {p : Addr} {v : Value} (h : w.grownBy w' (some r)) (hp : p.block ≠ r) (hc : w.cell? p = some v) : w'.cell? p = some v :=
  (World.cell?_of_block (h.block p.block (World.block_lt_of_cell? _ _ hc) (fun e => hp (by injection e)))).trans hc
theorem any_next {L : List Gl} {j : Nat} (h : j < L.length) (p : Gl → Bool) : (L.take (j + 1)).any p = ((L.take j).any p || p (L.getD j default)) := by
  rw [gl_take_next h, List.any_append]
  simp
theorem any_stop {L : List Gl} {j : Nat} (h : j < L.length) {p : Gl → Bool} (hp : p (L.getD j default) = true) : L.any p = true := List.any_eq_true.2 ⟨_, gl_getD_mem h, hp⟩
set_option maxHeartbeats 8000000 in
set_option maxRecDepth 100000 in
theorem fol_r_11 (s : ByteArray) (A : Option Addr) (c : Nat) (l : List Tm) (y : Gl) (w : World) (hx : (⟨11, s, A, c, l⟩ : Gl).At w) (hy : y.At w) (hz : sizeL l ≤ 1000000) (hzy : sizeL y.args ≤ 1000000) (h1 : isT 11 s l = true) (h2 : isT y.op y.name y.args = true) :
    Calls Tryz.prog 18 #[.agg #[.int .i64 11, .string s, .slice A l.length c], y.val] w fun e w' => e = .returned (.bool (folB 11 y.op s y.name l y.args)) ∧ Below w.heap.size w w' := by
  have hA : ∀ W, Below w.heap.size w W → (⟨11, s, A, c, l⟩ : Gl).At W := fun W h => hx.below h
  have Q1 := Lib.hid (fun W (h : Below w.heap.size w W) => ris_test_at ⟨11, s, A, c, l⟩ W (hA W h) hz h1)
  have Q2 := Lib.hid (fun W (h : Below w.heap.size w W) => ris_test_at y W (hy.below h) hzy h2)
  have QS := Lib.hid (fun (k : Gl) W (hk : k.At W) (h : Below w.heap.size w W) => ref_same_goal_at k y W hk (hy.below h) rfl)
  have HAX := Lib.hid hA
  have HFL := Lib.hid (show folB 11 y.op s y.name l y.args = ([(⟨11, s, A, c, l⟩ : Gl)] : List Gl).any (fun k => sameG k y) from by
    unfold folB
    rw [h1, h2]
    obtain ⟨a, rfl⟩ := isT_one h1 (by omega)
    rfl)
  generalize folB 11 y.op s y.name l y.args = v at *
  clear hA hx h1 h2 hz hzy hy
  obtain ⟨op', s', A', c', m⟩ := y
  show Calls Tryz.prog 18 #[.agg #[.int .i64 11, .string s, .slice A l.length c], .agg #[.int .i64 op', .string s', .slice A' m.length c']] w _
  go_enter Tryz.func18, Tryz.ntmps18
  go_wp2_with fail
  refine (Q1.out _ (below2 _ _ _)).mono ?_
  rintro e w1 ⟨rfl, hb1⟩
  have X1 := Lib.hid (fun W (h : Below w1.heap.size w1 W) => boxes_gl (hb1.trans (h.mono hb1.size)))
  have H1 := Lib.hid ((below2 w _ _).trans (hb1.mono (by simp; omega)))
  obtain ⟨⟨c0, c1, c2⟩, d0, d1, d2⟩ := X1.out _ (Below.refl _ _)
  clear hb1
  go_wp2_with fail
  refine (Q2.out _ H1.out).mono ?_
  rintro e w2 ⟨rfl, hb2⟩
  have X2 := Lib.hid (fun W (h : Below w2.heap.size w2 W) => X1.out W (hb2.trans (h.mono hb2.size)))
  have H2 := Lib.hid (H1.out.trans (hb2.mono H1.out.size))
  clear c0 c1 c2 d0 d1 d2 hb2 X1 H1
  obtain ⟨⟨c0, c1, c2⟩, d0, d1, d2⟩ := X2.out _ (Below.refl _ _)
  have OW := Lib.hid (World.ownsRow_lit (base := w.heap.size) (e := 24) (size := 3) w2 #[.int .i64 11, .string s, .slice A l.length c] 1 H2.out.size (by unfold maxLen; omega) rfl)
  have B3 := Lib.hid (below1 w2 (.cells #[.int .i64 11, .string s, .slice A l.length c] 24))
  have u0 : ∀ o, (w2.alloc o).cell? ⟨w.heap.size, 0, none⟩ = _ := fun o => (World.cell?_alloc_past _ _ _ (World.block_lt_of_cell? _ _ c0)).trans c0
  have u2 : ∀ o, (w2.alloc o).cell? ⟨w.heap.size, 2, none⟩ = _ := fun o => (World.cell?_alloc_past _ _ _ (World.block_lt_of_cell? _ _ c2)).trans c2
  go_upto_region 15 with (fail)
  obtain ⟨X, hX⟩ : ∃ X, w2.alloc (.cells #[.int .i64 11, .string s, .slice A l.length c] 24) = X := ⟨_, rfl⟩
  rw [hX] at OW B3
  have HX := Lib.hid (H2.out.trans (B3.out.mono H2.out.size))
  have HXN := Lib.hid (show w2.heap.size < X.heap.size by rw [← hX]; simp)
  have XX := Lib.hid (fun W (h : Below X.heap.size X W) => X2.out W (B3.out.trans (h.mono B3.out.size)))
  obtain ⟨L, hL⟩ : ∃ L : List Gl, L = [⟨11, s, A, c, l⟩] := ⟨_, rfl⟩
  have HV := Lib.hid (show v = L.any (fun k => sameG k ⟨op', s', A', c', m⟩) by rw [hL]; exact HFL.out)
  have HG := Lib.hid (show GlLst X (some ⟨w2.heap.size, 0, none⟩) L 1 from by
    rw [hL]
    refine gl_of_own (base := w.heap.size) OW.out fun k hk => ?_
    rw [List.mem_singleton.1 hk]
    exact HAX.out X HX.out)
  have hlen : L.length = 1 := by rw [hL]; rfl
  have HLen := Lib.hid hlen
  have HH := HX
  rw [hX]
  clear hX hL hlen u0 u2 HFL X2 B3
  clear c0 c1 c2 d0 d1 d2
  obtain ⟨⟨c0, c1, c2⟩, d0, d1, d2⟩ := XX.out _ (Below.refl _ _)
  go_wp2_with fail
  go_loopw [8] (fun i wr => ∃ j : Nat, j ≤ 1 ∧ i = .int .i64 j ∧ Hid ((L.take j).any (fun k => sameG k ⟨op', s', A', c', m⟩) = false) ∧ Hid (Below X.heap.size X wr)) (fun i _ => 1 - (intOf i).toNat)
  case atStart => exact ⟨0, Nat.zero_le _, rfl, Lib.hid rfl, Lib.hid (Below.refl _ _)⟩
  case round =>
    clear c0 c1 c2 d0 d1 d2
    obtain ⟨j, hj, rfl, HF, HB⟩ := hrel
    obtain ⟨⟨c0, c1, c2⟩, d0, d1, d2⟩ := XX.out _ HB.out
    by_cases hlt : j < 1
    · have hltL : j < L.length := by rw [HLen.out]; exact hlt
      obtain ⟨b5, o5, he5, hcs, hat⟩ := (HG.out.below HB.out).get hltL
      injection he5 with he5
      injection he5 with he5 ho5 _
      subst he5 ho5
      have HN := Lib.hid (any_next hltL (fun k => sameG k ⟨op', s', A', c', m⟩))
      have HS := Lib.hid (fun (h : sameG (L.getD j default) ⟨op', s', A', c', m⟩ = true) => any_stop hltL (p := fun k => sameG k ⟨op', s', A', c', m⟩) h)
      have Q := Lib.hid (fun d os => QS.out (L.getD j default) (Go.Sort.grow (redrawn wr d) os) (hat.below (below_regrown wr d os)) (HH.out.trans ((HB.out.trans ((below_regrown wr d os).mono HB.out.size)).mono HH.out.size)))
      generalize sameG (L.getD j default) ⟨op', s', A', c', m⟩ = q at *
      generalize L.getD j default = k at *
      have k0 := cell_regrown (hcs 0 _ rfl)
      have k1 := cell_regrown (hcs 1 _ rfl)
      have k2 := cell_regrown (hcs 2 _ rfl)
      simp only [Nat.zero_add, Nat.add_zero] at k0 k1 k2
      have k3 := cell_regrown d0
      have k4 := cell_regrown d1
      have k5 := cell_regrown d2
      clear hcs hat hltL c0 c1 c2 d0 d1 d2
      obtain ⟨ko, ks, kA, kc, ka⟩ := k
      simp only at k0 k1 k2
      go_wp2_with fail
      refine wp_region_quiet_below (by kernel_rfl) (by kernel_rfl) ?_
      repeat (go_big_quiet_step (first | (go_at_call 40; exact Calls.regrown_of (Q.out _ _)) | fail))
      refine wpQuiet_nil ?_
      intro w6 hw'
      have HB6 := Lib.hid (HB.out.trans ((regrown_below hw').mono HB.out.size))
      clear hw' k0 k1 k2 k3 k4 k5
      cases q
      · have HF2 := Lib.hid (show (L.take (j + 1)).any (fun k => sameG k ⟨op', s', A', c', m⟩) = false by rw [HN.out, HF.out]; rfl)
        go_wp2_with fail
        go_roundw
        case rel => exact ⟨j + 1, by omega, by go_num, HF2, HB6⟩
        case measure => simp [intOf]; omega
      · have HE := Lib.hid (HV.out.trans (HS.out rfl))
        go_wp2_with fail
        go_ret
        exact ⟨by rw [HE.out]; try rfl, HH.out.trans (HB6.out.mono HH.out.size)⟩
    · obtain rfl : j = 1 := by omega
      have HE := Lib.hid (show v = false by rw [HV.out]; have := HF.out; rwa [← HLen.out, List.take_length] at this)
      go_wp2_with fail
      go_ret
      exact ⟨by rw [HE.out]; try rfl, HH.out.trans (HB.out.mono HH.out.size)⟩
set_option maxHeartbeats 8000000 in
set_option maxRecDepth 100000 in
theorem fol_r_12 (s : ByteArray) (A : Option Addr) (c : Nat) (l : List Tm) (y : Gl) (w : World) (hx : (⟨12, s, A, c, l⟩ : Gl).At w) (hy : y.At w) (hz : sizeL l ≤ 1000000) (hzy : sizeL y.args ≤ 1000000) (h1 : isT 12 s l = true) (h2 : isT y.op y.name y.args = true) :
    Calls Tryz.prog 18 #[.agg #[.int .i64 12, .string s, .slice A l.length c], y.val] w fun e w' => e = .returned (.bool (folB 12 y.op s y.name l y.args)) ∧ Below w.heap.size w w' := by
  have hA : ∀ W, Below w.heap.size w W → (⟨12, s, A, c, l⟩ : Gl).At W := fun W h => hx.below h
  have Q1 := Lib.hid (fun W (h : Below w.heap.size w W) => ris_test_at ⟨12, s, A, c, l⟩ W (hA W h) hz h1)
  have Q2 := Lib.hid (fun W (h : Below w.heap.size w W) => ris_test_at y W (hy.below h) hzy h2)
  have QS := Lib.hid (fun (k : Gl) W (hk : k.At W) (h : Below w.heap.size w W) => ref_same_goal_at k y W hk (hy.below h) rfl)
  have HAX := Lib.hid hA
  have HFL := Lib.hid (show folB 12 y.op s y.name l y.args = ([(⟨12, s, A, c, l⟩ : Gl)] : List Gl).any (fun k => sameG k y) from by
    unfold folB
    rw [h1, h2]
    obtain ⟨a, rfl⟩ := isT_one h1 (by omega)
    rfl)
  generalize folB 12 y.op s y.name l y.args = v at *
  clear hA hx h1 h2 hz hzy hy
  obtain ⟨op', s', A', c', m⟩ := y
  show Calls Tryz.prog 18 #[.agg #[.int .i64 12, .string s, .slice A l.length c], .agg #[.int .i64 op', .string s', .slice A' m.length c']] w _
  go_enter Tryz.func18, Tryz.ntmps18
  go_wp2_with fail
  refine (Q1.out _ (below2 _ _ _)).mono ?_
  rintro e w1 ⟨rfl, hb1⟩
  have X1 := Lib.hid (fun W (h : Below w1.heap.size w1 W) => boxes_gl (hb1.trans (h.mono hb1.size)))
  have H1 := Lib.hid ((below2 w _ _).trans (hb1.mono (by simp; omega)))
  obtain ⟨⟨c0, c1, c2⟩, d0, d1, d2⟩ := X1.out _ (Below.refl _ _)
  clear hb1
  go_wp2_with fail
  refine (Q2.out _ H1.out).mono ?_
  rintro e w2 ⟨rfl, hb2⟩
  have X2 := Lib.hid (fun W (h : Below w2.heap.size w2 W) => X1.out W (hb2.trans (h.mono hb2.size)))
  have H2 := Lib.hid (H1.out.trans (hb2.mono H1.out.size))
  clear c0 c1 c2 d0 d1 d2 hb2 X1 H1
  obtain ⟨⟨c0, c1, c2⟩, d0, d1, d2⟩ := X2.out _ (Below.refl _ _)
  have OW := Lib.hid (World.ownsRow_lit (base := w.heap.size) (e := 24) (size := 3) w2 #[.int .i64 12, .string s, .slice A l.length c] 1 H2.out.size (by unfold maxLen; omega) rfl)
  have B3 := Lib.hid (below1 w2 (.cells #[.int .i64 12, .string s, .slice A l.length c] 24))
  have u0 : ∀ o, (w2.alloc o).cell? ⟨w.heap.size, 0, none⟩ = _ := fun o => (World.cell?_alloc_past _ _ _ (World.block_lt_of_cell? _ _ c0)).trans c0
  have u2 : ∀ o, (w2.alloc o).cell? ⟨w.heap.size, 2, none⟩ = _ := fun o => (World.cell?_alloc_past _ _ _ (World.block_lt_of_cell? _ _ c2)).trans c2
  go_upto_region 15 with (fail)
  obtain ⟨X, hX⟩ : ∃ X, w2.alloc (.cells #[.int .i64 12, .string s, .slice A l.length c] 24) = X := ⟨_, rfl⟩
  rw [hX] at OW B3
  have HX := Lib.hid (H2.out.trans (B3.out.mono H2.out.size))
  have HXN := Lib.hid (show w2.heap.size < X.heap.size by rw [← hX]; simp)
  have XX := Lib.hid (fun W (h : Below X.heap.size X W) => X2.out W (B3.out.trans (h.mono B3.out.size)))
  obtain ⟨L, hL⟩ : ∃ L : List Gl, L = [⟨12, s, A, c, l⟩] := ⟨_, rfl⟩
  have HV := Lib.hid (show v = L.any (fun k => sameG k ⟨op', s', A', c', m⟩) by rw [hL]; exact HFL.out)
  have HG := Lib.hid (show GlLst X (some ⟨w2.heap.size, 0, none⟩) L 1 from by
    rw [hL]
    refine gl_of_own (base := w.heap.size) OW.out fun k hk => ?_
    rw [List.mem_singleton.1 hk]
    exact HAX.out X HX.out)
  have hlen : L.length = 1 := by rw [hL]; rfl
  have HLen := Lib.hid hlen
  have HH := HX
  rw [hX]
  clear hX hL hlen u0 u2 HFL X2 B3
  clear c0 c1 c2 d0 d1 d2
  obtain ⟨⟨c0, c1, c2⟩, d0, d1, d2⟩ := XX.out _ (Below.refl _ _)
  go_wp2_with fail
  go_loopw [8] (fun i wr => ∃ j : Nat, j ≤ 1 ∧ i = .int .i64 j ∧ Hid ((L.take j).any (fun k => sameG k ⟨op', s', A', c', m⟩) = false) ∧ Hid (Below X.heap.size X wr)) (fun i _ => 1 - (intOf i).toNat)
  case atStart => exact ⟨0, Nat.zero_le _, rfl, Lib.hid rfl, Lib.hid (Below.refl _ _)⟩
  case round =>
    clear c0 c1 c2 d0 d1 d2
    obtain ⟨j, hj, rfl, HF, HB⟩ := hrel
    obtain ⟨⟨c0, c1, c2⟩, d0, d1, d2⟩ := XX.out _ HB.out
    by_cases hlt : j < 1
    · have hltL : j < L.length := by rw [HLen.out]; exact hlt
      obtain ⟨b5, o5, he5, hcs, hat⟩ := (HG.out.below HB.out).get hltL
      injection he5 with he5
      injection he5 with he5 ho5 _
      subst he5 ho5
      have HN := Lib.hid (any_next hltL (fun k => sameG k ⟨op', s', A', c', m⟩))
      have HS := Lib.hid (fun (h : sameG (L.getD j default) ⟨op', s', A', c', m⟩ = true) => any_stop hltL (p := fun k => sameG k ⟨op', s', A', c', m⟩) h)
      have Q := Lib.hid (fun d os => QS.out (L.getD j default) (Go.Sort.grow (redrawn wr d) os) (hat.below (below_regrown wr d os)) (HH.out.trans ((HB.out.trans ((below_regrown wr d os).mono HB.out.size)).mono HH.out.size)))
      generalize sameG (L.getD j default) ⟨op', s', A', c', m⟩ = q at *
      generalize L.getD j default = k at *
      have k0 := cell_regrown (hcs 0 _ rfl)
      have k1 := cell_regrown (hcs 1 _ rfl)
      have k2 := cell_regrown (hcs 2 _ rfl)
      simp only [Nat.zero_add, Nat.add_zero] at k0 k1 k2
      have k3 := cell_regrown d0
      have k4 := cell_regrown d1
      have k5 := cell_regrown d2
      clear hcs hat hltL c0 c1 c2 d0 d1 d2
      obtain ⟨ko, ks, kA, kc, ka⟩ := k
      simp only at k0 k1 k2
      go_wp2_with fail
      refine wp_region_quiet_below (by kernel_rfl) (by kernel_rfl) ?_
      repeat (go_big_quiet_step (first | (go_at_call 40; exact Calls.regrown_of (Q.out _ _)) | fail))
      refine wpQuiet_nil ?_
      intro w6 hw'
      have HB6 := Lib.hid (HB.out.trans ((regrown_below hw').mono HB.out.size))
      clear hw' k0 k1 k2 k3 k4 k5
      cases q
      · have HF2 := Lib.hid (show (L.take (j + 1)).any (fun k => sameG k ⟨op', s', A', c', m⟩) = false by rw [HN.out, HF.out]; rfl)
        go_wp2_with fail
        go_roundw
        case rel => exact ⟨j + 1, by omega, by go_num, HF2, HB6⟩
        case measure => simp [intOf]; omega
      · have HE := Lib.hid (HV.out.trans (HS.out rfl))
        go_wp2_with fail
        go_ret
        exact ⟨by rw [HE.out]; try rfl, HH.out.trans (HB6.out.mono HH.out.size)⟩
    · obtain rfl : j = 1 := by omega
      have HE := Lib.hid (show v = false by rw [HV.out]; have := HF.out; rwa [← HLen.out, List.take_length] at this)
      go_wp2_with fail
      go_ret
      exact ⟨by rw [HE.out]; try rfl, HH.out.trans (HB.out.mono HH.out.size)⟩
set_option maxHeartbeats 8000000 in
set_option maxRecDepth 100000 in
theorem fol_r_8 (s : ByteArray) (A : Option Addr) (c : Nat) (l : List Tm) (y : Gl) (w : World) (hx : (⟨8, s, A, c, l⟩ : Gl).At w) (hy : y.At w) (hz : sizeL l ≤ 1000000) (hzy : sizeL y.args ≤ 1000000) (h1 : isT 8 s l = true) (h2 : isT y.op y.name y.args = true) :
    Calls Tryz.prog 18 #[.agg #[.int .i64 8, .string s, .slice A l.length c], y.val] w fun e w' => e = .returned (.bool (folB 8 y.op s y.name l y.args)) ∧ Below w.heap.size w w' := by
  have hA : ∀ W, Below w.heap.size w W → (⟨8, s, A, c, l⟩ : Gl).At W := fun W h => hx.below h
  have Q1 := Lib.hid (fun W (h : Below w.heap.size w W) => ris_test_at ⟨8, s, A, c, l⟩ W (hA W h) hz h1)
  have Q2 := Lib.hid (fun W (h : Below w.heap.size w W) => ris_test_at y W (hy.below h) hzy h2)
  have QS := Lib.hid (fun (k : Gl) W (hk : k.At W) (h : Below w.heap.size w W) => ref_same_goal_at k y W hk (hy.below h) rfl)
  have HAX := Lib.hid hA
  obtain ⟨x1, x2, rfl⟩ := isT_two h1 (by omega)
  have HC := Lib.hid (fun W (h : Below w.heap.size w W) => lst_two (hx.2.2.below h))
  have HM1 := Lib.hid (fun W (h : Below w.heap.size w W) => (hx.2.2.below h).mem (t := x1) (by simp))
  have HM2 := Lib.hid (fun W (h : Below w.heap.size w W) => (hx.2.2.below h).mem (t := x2) (by simp))
  have HFL := Lib.hid (show ∀ g1 g2 g3 : Nat, folB 8 y.op s y.name [x1, x2] y.args = ([(⟨8, s, A, c, [x1, x2]⟩ : Gl)] : List Gl).any (fun k => sameG k y) from by
    intro g1 g2 g3
    unfold folB
    rw [h1, h2]
    rfl)
  generalize folB 8 y.op s y.name [x1, x2] y.args = v at *
  clear hA hx h1 h2 hz hzy hy
  obtain ⟨op', s', A', c', m⟩ := y
  show Calls Tryz.prog 18 #[.agg #[.int .i64 8, .string s, .slice A 2 c], .agg #[.int .i64 op', .string s', .slice A' m.length c']] w _
  go_enter Tryz.func18, Tryz.ntmps18
  go_wp2_with fail
  refine (Q1.out _ (below2 _ _ _)).mono ?_
  rintro e w1 ⟨rfl, hb1⟩
  have X1 := Lib.hid (fun W (h : Below w1.heap.size w1 W) => boxes_gl (hb1.trans (h.mono hb1.size)))
  have H1 := Lib.hid ((below2 w _ _).trans (hb1.mono (by simp; omega)))
  obtain ⟨⟨c0, c1, c2⟩, d0, d1, d2⟩ := X1.out _ (Below.refl _ _)
  clear hb1
  go_wp2_with fail
  refine (Q2.out _ H1.out).mono ?_
  rintro e w2 ⟨rfl, hb2⟩
  have X2 := Lib.hid (fun W (h : Below w2.heap.size w2 W) => X1.out W (hb2.trans (h.mono hb2.size)))
  have H2 := Lib.hid (H1.out.trans (hb2.mono H1.out.size))
  clear c0 c1 c2 d0 d1 d2 hb2 X1 H1
  obtain ⟨⟨c0, c1, c2⟩, d0, d1, d2⟩ := X2.out _ (Below.refl _ _)
  have OW := Lib.hid (World.ownsRow_lit (base := w.heap.size) (e := 24) (size := 3) w2 #[.int .i64 8, .string s, .slice A 2 c] 1 H2.out.size (by unfold maxLen; omega) rfl)
  have B3 := Lib.hid (below1 w2 (.cells #[.int .i64 8, .string s, .slice A 2 c] 24))
  have u0 : ∀ o, (w2.alloc o).cell? ⟨w.heap.size, 0, none⟩ = _ := fun o => (World.cell?_alloc_past _ _ _ (World.block_lt_of_cell? _ _ c0)).trans c0
  have u2 : ∀ o, (w2.alloc o).cell? ⟨w.heap.size, 2, none⟩ = _ := fun o => (World.cell?_alloc_past _ _ _ (World.block_lt_of_cell? _ _ c2)).trans c2
  obtain ⟨b, o, hA2, ⟨a0, a1, a2, a3⟩, ⟨b0, b1, b2, b3⟩, at1, at2⟩ := HC.out _ (H2.out.trans ((below1 w2 (.cells #[.int .i64 8, .string s, .slice A 2 c] 24)).mono H2.out.size))
  subst hA2
  go_upto_region 5 with (fail)
  obtain ⟨X, hX⟩ : ∃ X, w2.alloc (.cells #[.int .i64 8, .string s, .slice (some ⟨b, o, none⟩) 2 c] 24) = X := ⟨_, rfl⟩
  rw [hX] at OW B3
  have HX := Lib.hid (H2.out.trans (B3.out.mono H2.out.size))
  have HXN := Lib.hid (show w2.heap.size < X.heap.size by rw [← hX]; simp)
  have XX := Lib.hid (fun W (h : Below X.heap.size X W) => X2.out W (B3.out.trans (h.mono B3.out.size)))
  rw [hX] at a0 a1 a2 a3 b0 b1 b2 b3 at1 at2
  rw [hX]
  have v2 := u2 (.cells #[.int .i64 8, .string s, .slice (some ⟨b, o, none⟩) 2 c] 24)
  have v0 := u0 (.cells #[.int .i64 8, .string s, .slice (some ⟨b, o, none⟩) 2 c] 24)
  rw [hX] at v2 v0
  clear u0 u2 hX c0 c1 c2 d0 d1 d2
  have T1 := Lib.hid at1
  have T2 := Lib.hid at2
  have HXY := Lib.hid (BX.two at1 at2 40)
  have HYX := Lib.hid (BX.two at2 at1 40)
  have HS := Lib.hid (fun W (h : Below X.heap.size X W) => (⟨keepv h v2, keepv h a0, keepv h a1, keepv h a2, keepv h a3, keepv h b0, keepv h b1, keepv h b2, keepv h b3⟩ : (fun W => W.cell? ⟨w.heap.size, 2, none⟩ = some (.slice (some ⟨b, o, none⟩) 2 c) ∧ W.cell? ⟨b, o, none⟩ = some (.int .i64 x1.kind) ∧ W.cell? ⟨b, o + 1, none⟩ = some (.int .i64 x1.num) ∧ W.cell? ⟨b, o + 2, none⟩ = some (.string x1.name) ∧ W.cell? ⟨b, o + 3, none⟩ = some (.slice x1.at_ x1.args.length x1.cap) ∧ W.cell? ⟨b, o + 4, none⟩ = some (.int .i64 x2.kind) ∧ W.cell? ⟨b, o + 4 + 1, none⟩ = some (.int .i64 x2.num) ∧ W.cell? ⟨b, o + 4 + 2, none⟩ = some (.string x2.name) ∧ W.cell? ⟨b, o + 4 + 3, none⟩ = some (.slice x2.at_ x2.args.length x2.cap)) W))
  clear at1 at2
  obtain ⟨k1, n1, s1, A1, p1, l1⟩ := x1
  obtain ⟨k2, n2, s2, A2, p2, l2⟩ := x2
  simp only [Tm.kind, Tm.num, Tm.name, Tm.at_, Tm.args, Tm.cap] at a0 a1 a2 a3 b0 b1 b2 b3 HXY HYX HS
  go_cut [6, 7] from 22 to 29 (fun s6 s7 W => Hid (∃ P Q : Nat, s6 = .pointer (some ⟨P, 0, none⟩) ∧ s7 = .pointer (some ⟨Q, 0, none⟩) ∧ BX P (.mk k1 n1 s1 A1 p1 l1) W ∧ BX Q (.mk k2 n2 s2 A2 p2 l2) W ∧ Below X.heap.size X W ∧ X.heap.size ≤ P ∧ X.heap.size ≤ Q))
  case first =>
    go_region_held3 (fun W => W.cell? ⟨w.heap.size, 2, none⟩ = some (.slice (some ⟨b, o, none⟩) 2 c) ∧ W.cell? ⟨b, o, none⟩ = some (.int .i64 k1) ∧ W.cell? ⟨b, o + 1, none⟩ = some (.int .i64 n1) ∧ W.cell? ⟨b, o + 2, none⟩ = some (.string s1) ∧ W.cell? ⟨b, o + 3, none⟩ = some (.slice A1 l1.length p1) ∧ W.cell? ⟨b, o + 4, none⟩ = some (.int .i64 k2) ∧ W.cell? ⟨b, o + 4 + 1, none⟩ = some (.int .i64 n2) ∧ W.cell? ⟨b, o + 4 + 2, none⟩ = some (.string s2) ∧ W.cell? ⟨b, o + 4 + 3, none⟩ = some (.slice A2 l2.length p2)) (first | (with_reducible exact HS.out _ (Below.refl _ _).drew) | (with_reducible exact HS.out _ (below1 _ _).drew) | (with_reducible exact HS.out _ (below2 _ _ _).drew) | fail) (first | fail)
    all_goals go_wp2_with fail
    all_goals go_meet
    all_goals first
      | exact Lib.hid ⟨_, _, rfl, rfl, HXY.out.1, HXY.out.2, (below2 _ _ _).drew, Nat.le_refl _, Nat.le_succ _⟩
      | exact Lib.hid ⟨_, _, rfl, rfl, HYX.out.2, HYX.out.1, (below2 _ _ _).drew, Nat.le_succ _, Nat.le_refl _⟩
  case rest =>
    clear a0 a1 a2 a3 b0 b1 b2 b3 HS
    obtain ⟨P, Q, rfl, rfl, hP, hQ, hbY, hPn, hQn⟩ := hcut.out
    clear hcut
    rename World => Y
    have KX := Lib.hid hP
    have KY := Lib.hid hQ
    have HY := Lib.hid hbY
    have w0 := (hbY.cell (p := ⟨w.heap.size, 0, none⟩) (World.block_lt_of_cell? _ _ v0)).trans v0
    have OY := Lib.hid (own_below OW.out hbY)
    have HPW := Lib.hid (show P ≠ w2.heap.size by have := HXN.out; omega)
    have HQW := Lib.hid (show Q ≠ w2.heap.size by have := HXN.out; omega)
    have HWY := Lib.hid (HX.out.trans (HY.out.mono HX.out.size))
    have XY := Lib.hid (fun W (h : Below Y.heap.size Y W) => XX.out W (HY.out.trans (h.mono HY.out.size)))
    clear v0 v2 hPn hQn
    obtain ⟨L, hL⟩ : ∃ L : List Gl, L = [(⟨8, s, some ⟨b, o, none⟩, c, [.mk k1 n1 s1 A1 p1 l1, .mk k2 n2 s2 A2 p2 l2]⟩ : Gl)] := ⟨_, rfl⟩
    have HV := Lib.hid (show v = L.any (fun k => sameG k ⟨op', s', A', c', m⟩) by rw [hL]; exact HFL.out 0 0 0)
    have HLen := Lib.hid (show L.length = 1 by rw [hL]; rfl)
    have HG := Lib.hid (show GlLst Y (some ⟨w2.heap.size, 0, none⟩) L 1 from by
      rw [hL]
      refine gl_of_own (base := w.heap.size) OY.out fun k hk => ?_
      rw [List.mem_singleton.1 hk]
      exact HAX.out Y HWY.out)
    have HH := HWY
    obtain ⟨⟨c0, c1, c2⟩, d0, d1, d2⟩ := XY.out _ (Below.refl _ _)
    clear hL HFL w0
    clear c0 c1 c2 d0 d1 d2
    obtain ⟨⟨c0, c1, c2⟩, d0, d1, d2⟩ := XY.out _ (Below.refl _ _)
    go_wp2_with fail
    go_loopw [8] (fun i wr => ∃ j : Nat, j ≤ 1 ∧ i = .int .i64 j ∧ Hid ((L.take j).any (fun k => sameG k ⟨op', s', A', c', m⟩) = false) ∧ Hid (Below Y.heap.size Y wr)) (fun i _ => 1 - (intOf i).toNat)
    case atStart => exact ⟨0, Nat.zero_le _, rfl, Lib.hid rfl, Lib.hid (Below.refl _ _)⟩
    case round =>
      clear c0 c1 c2 d0 d1 d2
      obtain ⟨j, hj, rfl, HF, HB⟩ := hrel
      obtain ⟨⟨c0, c1, c2⟩, d0, d1, d2⟩ := XY.out _ HB.out
      by_cases hlt : j < 1
      · have hltL : j < L.length := by rw [HLen.out]; exact hlt
        obtain ⟨b5, o5, he5, hcs, hat⟩ := (HG.out.below HB.out).get hltL
        injection he5 with he5
        injection he5 with he5 ho5 _
        subst he5 ho5
        have HN := Lib.hid (any_next hltL (fun k => sameG k ⟨op', s', A', c', m⟩))
        have HS := Lib.hid (fun (h : sameG (L.getD j default) ⟨op', s', A', c', m⟩ = true) => any_stop hltL (p := fun k => sameG k ⟨op', s', A', c', m⟩) h)
        have Q := Lib.hid (fun d os => QS.out (L.getD j default) (Go.Sort.grow (redrawn wr d) os) (hat.below (below_regrown wr d os)) (HH.out.trans ((HB.out.trans ((below_regrown wr d os).mono HB.out.size)).mono HH.out.size)))
        generalize sameG (L.getD j default) ⟨op', s', A', c', m⟩ = q at *
        generalize L.getD j default = k at *
        have k0 := cell_regrown (hcs 0 _ rfl)
        have k1 := cell_regrown (hcs 1 _ rfl)
        have k2 := cell_regrown (hcs 2 _ rfl)
        simp only [Nat.zero_add, Nat.add_zero] at k0 k1 k2
        have k3 := cell_regrown d0
        have k4 := cell_regrown d1
        have k5 := cell_regrown d2
        clear hcs hat hltL c0 c1 c2 d0 d1 d2
        obtain ⟨ko, ks, kA, kc, ka⟩ := k
        simp only at k0 k1 k2
        go_wp2_with fail
        refine wp_region_quiet_below (by kernel_rfl) (by kernel_rfl) ?_
        repeat (go_big_quiet_step (first | (go_at_call 40; exact Calls.regrown_of (Q.out _ _)) | fail))
        refine wpQuiet_nil ?_
        intro w6 hw'
        have HB6 := Lib.hid (HB.out.trans ((regrown_below hw').mono HB.out.size))
        clear hw' k0 k1 k2 k3 k4 k5
        cases q
        · have HF2 := Lib.hid (show (L.take (j + 1)).any (fun k => sameG k ⟨op', s', A', c', m⟩) = false by rw [HN.out, HF.out]; rfl)
          go_wp2_with fail
          go_roundw
          case rel => exact ⟨j + 1, by omega, by go_num, HF2, HB6⟩
          case measure => simp [intOf]; omega
        · have HE := Lib.hid (HV.out.trans (HS.out rfl))
          go_wp2_with fail
          go_ret
          exact ⟨by rw [HE.out]; try rfl, HH.out.trans (HB6.out.mono HH.out.size)⟩
      · obtain rfl : j = 1 := by omega
        have HE := Lib.hid (show v = false by rw [HV.out]; have := HF.out; rwa [← HLen.out, List.take_length] at this)
        go_wp2_with fail
        go_ret
        exact ⟨by rw [HE.out]; try rfl, HH.out.trans (HB.out.mono HH.out.size)⟩
set_option maxHeartbeats 8000000 in
set_option maxRecDepth 100000 in
theorem fol_r_7 (s : ByteArray) (A : Option Addr) (c : Nat) (l : List Tm) (y : Gl) (w : World) (hx : (⟨7, s, A, c, l⟩ : Gl).At w) (hy : y.At w) (hz : sizeL l ≤ 1000000) (hzy : sizeL y.args ≤ 1000000) (h1 : isT 7 s l = true) (h2 : isT y.op y.name y.args = true) :
    Calls Tryz.prog 18 #[.agg #[.int .i64 7, .string s, .slice A l.length c], y.val] w fun e w' => e = .returned (.bool (folB 7 y.op s y.name l y.args)) ∧ Below w.heap.size w w' := by
  have hA : ∀ W, Below w.heap.size w W → (⟨7, s, A, c, l⟩ : Gl).At W := fun W h => hx.below h
  have Q1 := Lib.hid (fun W (h : Below w.heap.size w W) => ris_test_at ⟨7, s, A, c, l⟩ W (hA W h) hz h1)
  have Q2 := Lib.hid (fun W (h : Below w.heap.size w W) => ris_test_at y W (hy.below h) hzy h2)
  have QS := Lib.hid (fun (k : Gl) W (hk : k.At W) (h : Below w.heap.size w W) => ref_same_goal_at k y W hk (hy.below h) rfl)
  have HAX := Lib.hid hA
  obtain ⟨x1, x2, rfl⟩ := isT_two h1 (by omega)
  have HC := Lib.hid (fun W (h : Below w.heap.size w W) => lst_two (hx.2.2.below h))
  have HM1 := Lib.hid (fun W (h : Below w.heap.size w W) => (hx.2.2.below h).mem (t := x1) (by simp))
  have HM2 := Lib.hid (fun W (h : Below w.heap.size w W) => (hx.2.2.below h).mem (t := x2) (by simp))
  have HFL := Lib.hid (show ∀ g1 g2 g3 : Nat, folB 7 y.op s y.name [x1, x2] y.args = ([(⟨7, s, A, c, [x1, x2]⟩ : Gl), twoG 8 g1 x1 x2, twoG 10 g2 x1 x2, twoG 10 g3 x2 x1] : List Gl).any (fun k => sameG k y) from by
    intro g1 g2 g3
    unfold folB
    rw [h1, h2]
    rfl)
  generalize folB 7 y.op s y.name [x1, x2] y.args = v at *
  clear hA hx h1 h2 hz hzy hy
  obtain ⟨op', s', A', c', m⟩ := y
  show Calls Tryz.prog 18 #[.agg #[.int .i64 7, .string s, .slice A 2 c], .agg #[.int .i64 op', .string s', .slice A' m.length c']] w _
  go_enter Tryz.func18, Tryz.ntmps18
  go_wp2_with fail
  refine (Q1.out _ (below2 _ _ _)).mono ?_
  rintro e w1 ⟨rfl, hb1⟩
  have X1 := Lib.hid (fun W (h : Below w1.heap.size w1 W) => boxes_gl (hb1.trans (h.mono hb1.size)))
  have H1 := Lib.hid ((below2 w _ _).trans (hb1.mono (by simp; omega)))
  obtain ⟨⟨c0, c1, c2⟩, d0, d1, d2⟩ := X1.out _ (Below.refl _ _)
  clear hb1
  go_wp2_with fail
  refine (Q2.out _ H1.out).mono ?_
  rintro e w2 ⟨rfl, hb2⟩
  have X2 := Lib.hid (fun W (h : Below w2.heap.size w2 W) => X1.out W (hb2.trans (h.mono hb2.size)))
  have H2 := Lib.hid (H1.out.trans (hb2.mono H1.out.size))
  clear c0 c1 c2 d0 d1 d2 hb2 X1 H1
  obtain ⟨⟨c0, c1, c2⟩, d0, d1, d2⟩ := X2.out _ (Below.refl _ _)
  have OW := Lib.hid (World.ownsRow_lit (base := w.heap.size) (e := 24) (size := 3) w2 #[.int .i64 7, .string s, .slice A 2 c] 1 H2.out.size (by unfold maxLen; omega) rfl)
  have B3 := Lib.hid (below1 w2 (.cells #[.int .i64 7, .string s, .slice A 2 c] 24))
  have u0 : ∀ o, (w2.alloc o).cell? ⟨w.heap.size, 0, none⟩ = _ := fun o => (World.cell?_alloc_past _ _ _ (World.block_lt_of_cell? _ _ c0)).trans c0
  have u2 : ∀ o, (w2.alloc o).cell? ⟨w.heap.size, 2, none⟩ = _ := fun o => (World.cell?_alloc_past _ _ _ (World.block_lt_of_cell? _ _ c2)).trans c2
  obtain ⟨b, o, hA2, ⟨a0, a1, a2, a3⟩, ⟨b0, b1, b2, b3⟩, at1, at2⟩ := HC.out _ (H2.out.trans ((below1 w2 (.cells #[.int .i64 7, .string s, .slice A 2 c] 24)).mono H2.out.size))
  subst hA2
  go_upto_region 5 with (fail)
  obtain ⟨X, hX⟩ : ∃ X, w2.alloc (.cells #[.int .i64 7, .string s, .slice (some ⟨b, o, none⟩) 2 c] 24) = X := ⟨_, rfl⟩
  rw [hX] at OW B3
  have HX := Lib.hid (H2.out.trans (B3.out.mono H2.out.size))
  have HXN := Lib.hid (show w2.heap.size < X.heap.size by rw [← hX]; simp)
  have XX := Lib.hid (fun W (h : Below X.heap.size X W) => X2.out W (B3.out.trans (h.mono B3.out.size)))
  rw [hX] at a0 a1 a2 a3 b0 b1 b2 b3 at1 at2
  rw [hX]
  have v2 := u2 (.cells #[.int .i64 7, .string s, .slice (some ⟨b, o, none⟩) 2 c] 24)
  have v0 := u0 (.cells #[.int .i64 7, .string s, .slice (some ⟨b, o, none⟩) 2 c] 24)
  rw [hX] at v2 v0
  clear u0 u2 hX c0 c1 c2 d0 d1 d2
  have T1 := Lib.hid at1
  have T2 := Lib.hid at2
  have HXY := Lib.hid (BX.two at1 at2 40)
  have HYX := Lib.hid (BX.two at2 at1 40)
  have HS := Lib.hid (fun W (h : Below X.heap.size X W) => (⟨keepv h v2, keepv h a0, keepv h a1, keepv h a2, keepv h a3, keepv h b0, keepv h b1, keepv h b2, keepv h b3⟩ : (fun W => W.cell? ⟨w.heap.size, 2, none⟩ = some (.slice (some ⟨b, o, none⟩) 2 c) ∧ W.cell? ⟨b, o, none⟩ = some (.int .i64 x1.kind) ∧ W.cell? ⟨b, o + 1, none⟩ = some (.int .i64 x1.num) ∧ W.cell? ⟨b, o + 2, none⟩ = some (.string x1.name) ∧ W.cell? ⟨b, o + 3, none⟩ = some (.slice x1.at_ x1.args.length x1.cap) ∧ W.cell? ⟨b, o + 4, none⟩ = some (.int .i64 x2.kind) ∧ W.cell? ⟨b, o + 4 + 1, none⟩ = some (.int .i64 x2.num) ∧ W.cell? ⟨b, o + 4 + 2, none⟩ = some (.string x2.name) ∧ W.cell? ⟨b, o + 4 + 3, none⟩ = some (.slice x2.at_ x2.args.length x2.cap)) W))
  clear at1 at2
  obtain ⟨k1, n1, s1, A1, p1, l1⟩ := x1
  obtain ⟨k2, n2, s2, A2, p2, l2⟩ := x2
  simp only [Tm.kind, Tm.num, Tm.name, Tm.at_, Tm.args, Tm.cap] at a0 a1 a2 a3 b0 b1 b2 b3 HXY HYX HS
  go_cut [6, 7] from 22 to 29 (fun s6 s7 W => Hid (∃ P Q : Nat, s6 = .pointer (some ⟨P, 0, none⟩) ∧ s7 = .pointer (some ⟨Q, 0, none⟩) ∧ BX P (.mk k1 n1 s1 A1 p1 l1) W ∧ BX Q (.mk k2 n2 s2 A2 p2 l2) W ∧ Below X.heap.size X W ∧ X.heap.size ≤ P ∧ X.heap.size ≤ Q))
  case first =>
    go_region_held3 (fun W => W.cell? ⟨w.heap.size, 2, none⟩ = some (.slice (some ⟨b, o, none⟩) 2 c) ∧ W.cell? ⟨b, o, none⟩ = some (.int .i64 k1) ∧ W.cell? ⟨b, o + 1, none⟩ = some (.int .i64 n1) ∧ W.cell? ⟨b, o + 2, none⟩ = some (.string s1) ∧ W.cell? ⟨b, o + 3, none⟩ = some (.slice A1 l1.length p1) ∧ W.cell? ⟨b, o + 4, none⟩ = some (.int .i64 k2) ∧ W.cell? ⟨b, o + 4 + 1, none⟩ = some (.int .i64 n2) ∧ W.cell? ⟨b, o + 4 + 2, none⟩ = some (.string s2) ∧ W.cell? ⟨b, o + 4 + 3, none⟩ = some (.slice A2 l2.length p2)) (first | (with_reducible exact HS.out _ (Below.refl _ _).drew) | (with_reducible exact HS.out _ (below1 _ _).drew) | (with_reducible exact HS.out _ (below2 _ _ _).drew) | fail) (first | fail)
    all_goals go_wp2_with fail
    all_goals go_meet
    all_goals first
      | exact Lib.hid ⟨_, _, rfl, rfl, HXY.out.1, HXY.out.2, (below2 _ _ _).drew, Nat.le_refl _, Nat.le_succ _⟩
      | exact Lib.hid ⟨_, _, rfl, rfl, HYX.out.2, HYX.out.1, (below2 _ _ _).drew, Nat.le_succ _, Nat.le_refl _⟩
  case rest =>
    clear a0 a1 a2 a3 b0 b1 b2 b3 HS
    obtain ⟨P, Q, rfl, rfl, hP, hQ, hbY, hPn, hQn⟩ := hcut.out
    clear hcut
    rename World => Y
    have KX := Lib.hid hP
    have KY := Lib.hid hQ
    have HY := Lib.hid hbY
    have w0 := (hbY.cell (p := ⟨w.heap.size, 0, none⟩) (World.block_lt_of_cell? _ _ v0)).trans v0
    have OY := Lib.hid (own_below OW.out hbY)
    have HPW := Lib.hid (show P ≠ w2.heap.size by have := HXN.out; omega)
    have HQW := Lib.hid (show Q ≠ w2.heap.size by have := HXN.out; omega)
    have HWY := Lib.hid (HX.out.trans (HY.out.mono HX.out.size))
    have XY := Lib.hid (fun W (h : Below Y.heap.size Y W) => XX.out W (HY.out.trans (h.mono HY.out.size)))
    clear v0 v2 hPn hQn
    obtain ⟨i0, hi, hz0, hz1, hz2⟩ := info_parts gl_info
    have QG := Lib.hid (show ∀ op W, Calls Tryz.prog 52 #[.int .i64 op, .agg #[.int .i64 k1, .int .i64 n1, .string s1, .slice A1 l1.length p1], .agg #[.int .i64 k2, .int .i64 n2, .string s2, .slice A2 l2.length p2]] W (TwoR op (.mk k1 n1 s1 A1 p1 l1) (.mk k2 n2 s2 A2 p2 l2) W) from fun op W => goal_two_at op (.mk k1 n1 s1 A1 p1 l1) (.mk k2 n2 s2 A2 p2 l2) W)
    have QH := Lib.hid (show ∀ op W, Calls Tryz.prog 52 #[.int .i64 op, .agg #[.int .i64 k2, .int .i64 n2, .string s2, .slice A2 l2.length p2], .agg #[.int .i64 k1, .int .i64 n1, .string s1, .slice A1 l1.length p1]] W (TwoR op (.mk k2 n2 s2 A2 p2 l2) (.mk k1 n1 s1 A1 p1 l1) W) from fun op W => goal_two_at op (.mk k2 n2 s2 A2 p2 l2) (.mk k1 n1 s1 A1 p1 l1) W)
    have HSY := Lib.hid (fun W (h : Below Y.heap.size Y W) => (⟨(KX.out.ext h).c0, (KX.out.ext h).c1, (KX.out.ext h).c2, (KX.out.ext h).c3, (KY.out.ext h).c0, (KY.out.ext h).c1, (KY.out.ext h).c2, (KY.out.ext h).c3⟩ : (fun W => W.cell? ⟨P, 0, none⟩ = some (.int .i64 k1) ∧ W.cell? ⟨P, 1, none⟩ = some (.int .i64 n1) ∧ W.cell? ⟨P, 2, none⟩ = some (.string s1) ∧ W.cell? ⟨P, 3, none⟩ = some (.slice A1 l1.length p1) ∧ W.cell? ⟨Q, 0, none⟩ = some (.int .i64 k2) ∧ W.cell? ⟨Q, 1, none⟩ = some (.int .i64 n2) ∧ W.cell? ⟨Q, 2, none⟩ = some (.string s2) ∧ W.cell? ⟨Q, 3, none⟩ = some (.slice A2 l2.length p2)) W))
    go_upto_region 8 with (fail)
    go_region_held3 (fun W => W.cell? ⟨P, 0, none⟩ = some (.int .i64 k1) ∧ W.cell? ⟨P, 1, none⟩ = some (.int .i64 n1) ∧ W.cell? ⟨P, 2, none⟩ = some (.string s1) ∧ W.cell? ⟨P, 3, none⟩ = some (.slice A1 l1.length p1) ∧ W.cell? ⟨Q, 0, none⟩ = some (.int .i64 k2) ∧ W.cell? ⟨Q, 1, none⟩ = some (.int .i64 n2) ∧ W.cell? ⟨Q, 2, none⟩ = some (.string s2) ∧ W.cell? ⟨Q, 3, none⟩ = some (.slice A2 l2.length p2)) (first | (with_reducible exact HSY.out _ (Below.refl _ _).drew) | (with_reducible exact HSY.out _ Ey1.out) | (with_reducible exact HSY.out _ Ey2.out) | (with_reducible exact HSY.out _ Ey3.out) | (with_reducible exact HSY.out _ (Ey3.out.trans ((below1 _ _).mono Ey3.out.size))) | (with_reducible exact HS5.out) | fail) (first
      | (go_at_call 52; have hF := QG.out 8 Y.drew; (with_reducible refine hF.mono ?_); rintro e y1 ⟨g1, rfl, hg1, hr1, hb⟩; have Ey1 := Lib.hid (show Below Y.heap.size Y y1 from undrew hb); have R1 := Lib.hid hr1; have G1 := Lib.hid (show Y.heap.size ≤ g1 from hg1); clear hF hg1 hr1 hb)
      | (go_at_call 52; have hF := QG.out 10 y1; (with_reducible refine hF.mono ?_); rintro e y2 ⟨g2, rfl, hg1, hr1, hb⟩; have Ey2 := Lib.hid (show Below Y.heap.size Y y2 from Ey1.out.trans (hb.mono Ey1.out.size)); have R2 := Lib.hid hr1; have G2 := Lib.hid (show Y.heap.size ≤ g2 from Nat.le_trans Ey1.out.size hg1); have S2 := Lib.hid (show Below y1.heap.size y1 y2 from hb); clear hF hg1 hr1 hb)
      | (go_at_call 52; have hF := QH.out 10 y2; (with_reducible refine hF.mono ?_); rintro e y3 ⟨g3, rfl, hg1, hr1, hb⟩; have Ey3 := Lib.hid (show Below Y.heap.size Y y3 from Ey2.out.trans (hb.mono Ey2.out.size)); have R3 := Lib.hid hr1; have G3 := Lib.hid (show Y.heap.size ≤ g3 from Nat.le_trans Ey2.out.size hg1); have S3 := Lib.hid (show Below y2.heap.size y2 y3 from hb); clear hF hg1 hr1 hb)
      | (refine step_append_lies _ (by rfl) _ _ _ (by rfl) w.heap.size 24 i0 _ 3 48 Tryz.underlying26 hi hz0 hz1 hz2 rfl (by omega) _ 1 (Gl.cells ⟨7, s, some ⟨b, o, none⟩, c, [.mk k1 n1 s1 A1 p1 l1, .mk k2 n2 s2 A2 p2 l2]⟩) (by rfl) ((own_below OY.out Ey3.out).alloc _) ⟨y3.heap.size, 0, none⟩ 3 3 (glcells [twoG 8 g1 (.mk k1 n1 s1 A1 p1 l1) (.mk k2 n2 s2 A2 p2 l2), twoG 10 g2 (.mk k1 n1 s1 A1 p1 l1) (.mk k2 n2 s2 A2 p2 l2), twoG 10 g3 (.mk k2 n2 s2 A2 p2 l2) (.mk k1 n1 s1 A1 p1 l1)]) (by rfl) (by rfl) (by exact news_lit y3 (glcells [twoG 8 g1 (.mk k1 n1 s1 A1 p1 l1) (.mk k2 n2 s2 A2 p2 l2), twoG 10 g2 (.mk k1 n1 s1 A1 p1 l1) (.mk k2 n2 s2 A2 p2 l2), twoG 10 g3 (.mk k2 n2 s2 A2 p2 l2) (.mk k1 n1 s1 A1 p1 l1)]) _) (by exact glcells_all _) (by omega) (by unfold maxLen; omega) (by omega) (by have := HWY.out.size; have := Ey3.out.size; simp; omega) (y3.heap.size + 1) (by simp) ?_; intro g cap w5 hown hg hat hglt; have HG5 := Lib.hid (show (y3.alloc (.cells (glcells [twoG 8 g1 (.mk k1 n1 s1 A1 p1 l1) (.mk k2 n2 s2 A2 p2 l2), twoG 10 g2 (.mk k1 n1 s1 A1 p1 l1) (.mk k2 n2 s2 A2 p2 l2), twoG 10 g3 (.mk k2 n2 s2 A2 p2 l2) (.mk k1 n1 s1 A1 p1 l1)]).toArray 24)).grownBy w5 (some w2.heap.size) from hg); have HO5 := Lib.hid (show w5.ownsRow w.heap.size 24 3 (.slice (some ⟨g, 0, none⟩) (1 + 3) cap) (1 + 3) (glcells (⟨7, s, some ⟨b, o, none⟩, c, [.mk k1 n1 s1 A1 p1 l1, .mk k2 n2 s2 A2 p2 l2]⟩ :: [twoG 8 g1 (.mk k1 n1 s1 A1 p1 l1) (.mk k2 n2 s2 A2 p2 l2), twoG 10 g2 (.mk k1 n1 s1 A1 p1 l1) (.mk k2 n2 s2 A2 p2 l2), twoG 10 g3 (.mk k2 n2 s2 A2 p2 l2) (.mk k1 n1 s1 A1 p1 l1)])) from hown); have HS5 := Lib.hid (show (fun W => W.cell? ⟨P, 0, none⟩ = some (.int .i64 k1) ∧ W.cell? ⟨P, 1, none⟩ = some (.int .i64 n1) ∧ W.cell? ⟨P, 2, none⟩ = some (.string s1) ∧ W.cell? ⟨P, 3, none⟩ = some (.slice A1 l1.length p1) ∧ W.cell? ⟨Q, 0, none⟩ = some (.int .i64 k2) ∧ W.cell? ⟨Q, 1, none⟩ = some (.int .i64 n2) ∧ W.cell? ⟨Q, 2, none⟩ = some (.string s2) ∧ W.cell? ⟨Q, 3, none⟩ = some (.slice A2 l2.length p2)) w5 from by
          obtain ⟨q0, q1, q2, q3, r0, r1, r2, r3⟩ := HSY.out _ (Ey3.out.trans ((below1 y3 (.cells (glcells [twoG 8 g1 (.mk k1 n1 s1 A1 p1 l1) (.mk k2 n2 s2 A2 p2 l2), twoG 10 g2 (.mk k1 n1 s1 A1 p1 l1) (.mk k2 n2 s2 A2 p2 l2), twoG 10 g3 (.mk k2 n2 s2 A2 p2 l2) (.mk k1 n1 s1 A1 p1 l1)]).toArray 24)).mono Ey3.out.size))
          exact ⟨grown_cell HG5.out HPW.out q0, grown_cell HG5.out HPW.out q1, grown_cell HG5.out HPW.out q2, grown_cell HG5.out HPW.out q3, grown_cell HG5.out HQW.out r0, grown_cell HG5.out HQW.out r1, grown_cell HG5.out HQW.out r2, grown_cell HG5.out HQW.out r3⟩); clear hown hg hat hglt)
      | fail)
    have HB1 := Lib.hid (show Below y1.heap.size y1 y3 from S2.out.trans (S3.out.mono S2.out.size))
    have HB2 := Lib.hid (show Below y2.heap.size y2 y3 from S3.out)
    have HB3 := Lib.hid (show Below y3.heap.size y3 y3 from Below.refl _ _)
    have H52 := Lib.hid (show Below w2.heap.size w2 w5 from (((B3.out.trans (HY.out.mono B3.out.size)).trans (Ey3.out.mono (Nat.le_trans B3.out.size HY.out.size))).alloc (by have := HXN.out; have := HY.out.size; have := Ey3.out.size; omega) _).grown HG5.out (by have := HXN.out; have := HY.out.size; have := Ey3.out.size; simp; omega) (fun k hk => by injection hk with hk; omega))
    have H5 := Lib.hid (H2.out.trans (H52.out.mono H2.out.size))
    obtain ⟨L, hL⟩ : ∃ L : List Gl, L = (⟨7, s, some ⟨b, o, none⟩, c, [.mk k1 n1 s1 A1 p1 l1, .mk k2 n2 s2 A2 p2 l2]⟩ :: [twoG 8 g1 (.mk k1 n1 s1 A1 p1 l1) (.mk k2 n2 s2 A2 p2 l2), twoG 10 g2 (.mk k1 n1 s1 A1 p1 l1) (.mk k2 n2 s2 A2 p2 l2), twoG 10 g3 (.mk k2 n2 s2 A2 p2 l2) (.mk k1 n1 s1 A1 p1 l1)]) := ⟨_, rfl⟩
    have HV := Lib.hid (show v = L.any (fun k => sameG k ⟨op', s', A', c', m⟩) by rw [hL]; exact HFL.out g1 g2 g3)
    have HLen := Lib.hid (show L.length = 4 by rw [hL]; rfl)
    have HG := Lib.hid (show GlLst w5 (some ⟨g, 0, none⟩) L cap from by
      rw [hL]
      refine gl_of_own (base := w.heap.size) HO5.out fun k hk => ?_
      rcases List.mem_cons.1 hk with rfl | hk
      · exact HAX.out w5 H5.out
      · rcases List.mem_cons.1 hk with rfl | hk
        · refine two_lies (by unfold Fits; omega) R1.out ?_ (HM1.out w5 H5.out) (HM2.out w5 H5.out)
          have hz := R1.out.1
          have e1 : w5.heap[g1]? = (y3.alloc (.cells (glcells [twoG 8 g1 (.mk k1 n1 s1 A1 p1 l1) (.mk k2 n2 s2 A2 p2 l2), twoG 10 g2 (.mk k1 n1 s1 A1 p1 l1) (.mk k2 n2 s2 A2 p2 l2), twoG 10 g3 (.mk k2 n2 s2 A2 p2 l2) (.mk k1 n1 s1 A1 p1 l1)]).toArray 24)).heap[g1]? := HG5.out.block g1 (by have := HB1.out.size; simp; omega) (fun e => by injection e with e; have := G1.out; have := HY.out.size; have := HXN.out; omega)
          rw [e1, Below.heap_alloc _ _ _ (by have := HB1.out.size; omega)]
          exact HB1.out.block _ hz
        · rcases List.mem_cons.1 hk with rfl | hk
          · refine two_lies (by unfold Fits; omega) R2.out ?_ (HM1.out w5 H5.out) (HM2.out w5 H5.out)
            have hz := R2.out.1
            have e1 : w5.heap[g2]? = (y3.alloc (.cells (glcells [twoG 8 g1 (.mk k1 n1 s1 A1 p1 l1) (.mk k2 n2 s2 A2 p2 l2), twoG 10 g2 (.mk k1 n1 s1 A1 p1 l1) (.mk k2 n2 s2 A2 p2 l2), twoG 10 g3 (.mk k2 n2 s2 A2 p2 l2) (.mk k1 n1 s1 A1 p1 l1)]).toArray 24)).heap[g2]? := HG5.out.block g2 (by have := HB2.out.size; simp; omega) (fun e => by injection e with e; have := G2.out; have := HY.out.size; have := HXN.out; omega)
            rw [e1, Below.heap_alloc _ _ _ (by have := HB2.out.size; omega)]
            exact HB2.out.block _ hz
          · rcases List.mem_cons.1 hk with rfl | hk
            · refine two_lies (by unfold Fits; omega) R3.out ?_ (HM2.out w5 H5.out) (HM1.out w5 H5.out)
              have hz := R3.out.1
              have e1 : w5.heap[g3]? = (y3.alloc (.cells (glcells [twoG 8 g1 (.mk k1 n1 s1 A1 p1 l1) (.mk k2 n2 s2 A2 p2 l2), twoG 10 g2 (.mk k1 n1 s1 A1 p1 l1) (.mk k2 n2 s2 A2 p2 l2), twoG 10 g3 (.mk k2 n2 s2 A2 p2 l2) (.mk k1 n1 s1 A1 p1 l1)]).toArray 24)).heap[g3]? := HG5.out.block g3 (by have := HB3.out.size; simp; omega) (fun e => by injection e with e; have := G3.out; have := HY.out.size; have := HXN.out; omega)
              rw [e1, Below.heap_alloc _ _ _ (by have := HB3.out.size; omega)]
            · cases hk
    )
    have XW := Lib.hid (fun W (h : Below w5.heap.size w5 W) => X2.out W (H52.out.trans (h.mono H52.out.size)))
    have HH := H5
    obtain ⟨⟨c0, c1, c2⟩, d0, d1, d2⟩ := XW.out _ (Below.refl _ _)
    clear hL HFL w0 HO5 HG5 X2 H52 HSY QG QH HM1 HM2 HPW HQW KX KY
    clear c0 c1 c2 d0 d1 d2
    obtain ⟨⟨c0, c1, c2⟩, d0, d1, d2⟩ := XW.out _ (Below.refl _ _)
    go_wp2_with fail
    go_loopw [8] (fun i wr => ∃ j : Nat, j ≤ 4 ∧ i = .int .i64 j ∧ Hid ((L.take j).any (fun k => sameG k ⟨op', s', A', c', m⟩) = false) ∧ Hid (Below w5.heap.size w5 wr)) (fun i _ => 4 - (intOf i).toNat)
    case atStart => exact ⟨0, Nat.zero_le _, rfl, Lib.hid rfl, Lib.hid (Below.refl _ _)⟩
    case round =>
      clear c0 c1 c2 d0 d1 d2
      obtain ⟨j, hj, rfl, HF, HB⟩ := hrel
      obtain ⟨⟨c0, c1, c2⟩, d0, d1, d2⟩ := XW.out _ HB.out
      by_cases hlt : j < 4
      · have hltL : j < L.length := by rw [HLen.out]; exact hlt
        obtain ⟨b5, o5, he5, hcs, hat⟩ := (HG.out.below HB.out).get hltL
        injection he5 with he5
        injection he5 with he5 ho5 _
        subst he5 ho5
        have HN := Lib.hid (any_next hltL (fun k => sameG k ⟨op', s', A', c', m⟩))
        have HS := Lib.hid (fun (h : sameG (L.getD j default) ⟨op', s', A', c', m⟩ = true) => any_stop hltL (p := fun k => sameG k ⟨op', s', A', c', m⟩) h)
        have Q := Lib.hid (fun d os => QS.out (L.getD j default) (Go.Sort.grow (redrawn wr d) os) (hat.below (below_regrown wr d os)) (HH.out.trans ((HB.out.trans ((below_regrown wr d os).mono HB.out.size)).mono HH.out.size)))
        generalize sameG (L.getD j default) ⟨op', s', A', c', m⟩ = q at *
        generalize L.getD j default = k at *
        have k0 := cell_regrown (hcs 0 _ rfl)
        have k1 := cell_regrown (hcs 1 _ rfl)
        have k2 := cell_regrown (hcs 2 _ rfl)
        simp only [Nat.zero_add, Nat.add_zero] at k0 k1 k2
        have k3 := cell_regrown d0
        have k4 := cell_regrown d1
        have k5 := cell_regrown d2
        clear hcs hat hltL c0 c1 c2 d0 d1 d2
        obtain ⟨ko, ks, kA, kc, ka⟩ := k
        simp only at k0 k1 k2
        go_wp2_with fail
        refine wp_region_quiet_below (by kernel_rfl) (by kernel_rfl) ?_
        repeat (go_big_quiet_step (first | (go_at_call 40; exact Calls.regrown_of (Q.out _ _)) | fail))
        refine wpQuiet_nil ?_
        intro w6 hw'
        have HB6 := Lib.hid (HB.out.trans ((regrown_below hw').mono HB.out.size))
        clear hw' k0 k1 k2 k3 k4 k5
        cases q
        · have HF2 := Lib.hid (show (L.take (j + 1)).any (fun k => sameG k ⟨op', s', A', c', m⟩) = false by rw [HN.out, HF.out]; rfl)
          go_wp2_with fail
          go_roundw
          case rel => exact ⟨j + 1, by omega, by go_num, HF2, HB6⟩
          case measure => simp [intOf]; omega
        · have HE := Lib.hid (HV.out.trans (HS.out rfl))
          go_wp2_with fail
          go_ret
          exact ⟨by rw [HE.out]; try rfl, HH.out.trans (HB6.out.mono HH.out.size)⟩
      · obtain rfl : j = 4 := by omega
        have HE := Lib.hid (show v = false by rw [HV.out]; have := HF.out; rwa [← HLen.out, List.take_length] at this)
        go_wp2_with fail
        go_ret
        exact ⟨by rw [HE.out]; try rfl, HH.out.trans (HB.out.mono HH.out.size)⟩
set_option maxHeartbeats 8000000 in
set_option maxRecDepth 100000 in
theorem fol_r_9 (s : ByteArray) (A : Option Addr) (c : Nat) (l : List Tm) (y : Gl) (w : World) (hx : (⟨9, s, A, c, l⟩ : Gl).At w) (hy : y.At w) (hz : sizeL l ≤ 1000000) (hzy : sizeL y.args ≤ 1000000) (h1 : isT 9 s l = true) (h2 : isT y.op y.name y.args = true) :
    Calls Tryz.prog 18 #[.agg #[.int .i64 9, .string s, .slice A l.length c], y.val] w fun e w' => e = .returned (.bool (folB 9 y.op s y.name l y.args)) ∧ Below w.heap.size w w' := by
  have hA : ∀ W, Below w.heap.size w W → (⟨9, s, A, c, l⟩ : Gl).At W := fun W h => hx.below h
  have Q1 := Lib.hid (fun W (h : Below w.heap.size w W) => ris_test_at ⟨9, s, A, c, l⟩ W (hA W h) hz h1)
  have Q2 := Lib.hid (fun W (h : Below w.heap.size w W) => ris_test_at y W (hy.below h) hzy h2)
  have QS := Lib.hid (fun (k : Gl) W (hk : k.At W) (h : Below w.heap.size w W) => ref_same_goal_at k y W hk (hy.below h) rfl)
  have HAX := Lib.hid hA
  obtain ⟨x1, x2, rfl⟩ := isT_two h1 (by omega)
  have HC := Lib.hid (fun W (h : Below w.heap.size w W) => lst_two (hx.2.2.below h))
  have HM1 := Lib.hid (fun W (h : Below w.heap.size w W) => (hx.2.2.below h).mem (t := x1) (by simp))
  have HM2 := Lib.hid (fun W (h : Below w.heap.size w W) => (hx.2.2.below h).mem (t := x2) (by simp))
  have HFL := Lib.hid (show ∀ g1 g2 g3 : Nat, folB 9 y.op s y.name [x1, x2] y.args = ([(⟨9, s, A, c, [x1, x2]⟩ : Gl), twoG 8 g1 x1 x2, twoG 8 g2 x2 x1, twoG 9 g3 x2 x1] : List Gl).any (fun k => sameG k y) from by
    intro g1 g2 g3
    unfold folB
    rw [h1, h2]
    rfl)
  generalize folB 9 y.op s y.name [x1, x2] y.args = v at *
  clear hA hx h1 h2 hz hzy hy
  obtain ⟨op', s', A', c', m⟩ := y
  show Calls Tryz.prog 18 #[.agg #[.int .i64 9, .string s, .slice A 2 c], .agg #[.int .i64 op', .string s', .slice A' m.length c']] w _
  go_enter Tryz.func18, Tryz.ntmps18
  go_wp2_with fail
  refine (Q1.out _ (below2 _ _ _)).mono ?_
  rintro e w1 ⟨rfl, hb1⟩
  have X1 := Lib.hid (fun W (h : Below w1.heap.size w1 W) => boxes_gl (hb1.trans (h.mono hb1.size)))
  have H1 := Lib.hid ((below2 w _ _).trans (hb1.mono (by simp; omega)))
  obtain ⟨⟨c0, c1, c2⟩, d0, d1, d2⟩ := X1.out _ (Below.refl _ _)
  clear hb1
  go_wp2_with fail
  refine (Q2.out _ H1.out).mono ?_
  rintro e w2 ⟨rfl, hb2⟩
  have X2 := Lib.hid (fun W (h : Below w2.heap.size w2 W) => X1.out W (hb2.trans (h.mono hb2.size)))
  have H2 := Lib.hid (H1.out.trans (hb2.mono H1.out.size))
  clear c0 c1 c2 d0 d1 d2 hb2 X1 H1
  obtain ⟨⟨c0, c1, c2⟩, d0, d1, d2⟩ := X2.out _ (Below.refl _ _)
  have OW := Lib.hid (World.ownsRow_lit (base := w.heap.size) (e := 24) (size := 3) w2 #[.int .i64 9, .string s, .slice A 2 c] 1 H2.out.size (by unfold maxLen; omega) rfl)
  have B3 := Lib.hid (below1 w2 (.cells #[.int .i64 9, .string s, .slice A 2 c] 24))
  have u0 : ∀ o, (w2.alloc o).cell? ⟨w.heap.size, 0, none⟩ = _ := fun o => (World.cell?_alloc_past _ _ _ (World.block_lt_of_cell? _ _ c0)).trans c0
  have u2 : ∀ o, (w2.alloc o).cell? ⟨w.heap.size, 2, none⟩ = _ := fun o => (World.cell?_alloc_past _ _ _ (World.block_lt_of_cell? _ _ c2)).trans c2
  obtain ⟨b, o, hA2, ⟨a0, a1, a2, a3⟩, ⟨b0, b1, b2, b3⟩, at1, at2⟩ := HC.out _ (H2.out.trans ((below1 w2 (.cells #[.int .i64 9, .string s, .slice A 2 c] 24)).mono H2.out.size))
  subst hA2
  go_upto_region 5 with (fail)
  obtain ⟨X, hX⟩ : ∃ X, w2.alloc (.cells #[.int .i64 9, .string s, .slice (some ⟨b, o, none⟩) 2 c] 24) = X := ⟨_, rfl⟩
  rw [hX] at OW B3
  have HX := Lib.hid (H2.out.trans (B3.out.mono H2.out.size))
  have HXN := Lib.hid (show w2.heap.size < X.heap.size by rw [← hX]; simp)
  have XX := Lib.hid (fun W (h : Below X.heap.size X W) => X2.out W (B3.out.trans (h.mono B3.out.size)))
  rw [hX] at a0 a1 a2 a3 b0 b1 b2 b3 at1 at2
  rw [hX]
  have v2 := u2 (.cells #[.int .i64 9, .string s, .slice (some ⟨b, o, none⟩) 2 c] 24)
  have v0 := u0 (.cells #[.int .i64 9, .string s, .slice (some ⟨b, o, none⟩) 2 c] 24)
  rw [hX] at v2 v0
  clear u0 u2 hX c0 c1 c2 d0 d1 d2
  have T1 := Lib.hid at1
  have T2 := Lib.hid at2
  have HXY := Lib.hid (BX.two at1 at2 40)
  have HYX := Lib.hid (BX.two at2 at1 40)
  have HS := Lib.hid (fun W (h : Below X.heap.size X W) => (⟨keepv h v2, keepv h a0, keepv h a1, keepv h a2, keepv h a3, keepv h b0, keepv h b1, keepv h b2, keepv h b3⟩ : (fun W => W.cell? ⟨w.heap.size, 2, none⟩ = some (.slice (some ⟨b, o, none⟩) 2 c) ∧ W.cell? ⟨b, o, none⟩ = some (.int .i64 x1.kind) ∧ W.cell? ⟨b, o + 1, none⟩ = some (.int .i64 x1.num) ∧ W.cell? ⟨b, o + 2, none⟩ = some (.string x1.name) ∧ W.cell? ⟨b, o + 3, none⟩ = some (.slice x1.at_ x1.args.length x1.cap) ∧ W.cell? ⟨b, o + 4, none⟩ = some (.int .i64 x2.kind) ∧ W.cell? ⟨b, o + 4 + 1, none⟩ = some (.int .i64 x2.num) ∧ W.cell? ⟨b, o + 4 + 2, none⟩ = some (.string x2.name) ∧ W.cell? ⟨b, o + 4 + 3, none⟩ = some (.slice x2.at_ x2.args.length x2.cap)) W))
  clear at1 at2
  obtain ⟨k1, n1, s1, A1, p1, l1⟩ := x1
  obtain ⟨k2, n2, s2, A2, p2, l2⟩ := x2
  simp only [Tm.kind, Tm.num, Tm.name, Tm.at_, Tm.args, Tm.cap] at a0 a1 a2 a3 b0 b1 b2 b3 HXY HYX HS
  go_cut [6, 7] from 22 to 29 (fun s6 s7 W => Hid (∃ P Q : Nat, s6 = .pointer (some ⟨P, 0, none⟩) ∧ s7 = .pointer (some ⟨Q, 0, none⟩) ∧ BX P (.mk k1 n1 s1 A1 p1 l1) W ∧ BX Q (.mk k2 n2 s2 A2 p2 l2) W ∧ Below X.heap.size X W ∧ X.heap.size ≤ P ∧ X.heap.size ≤ Q))
  case first =>
    go_region_held3 (fun W => W.cell? ⟨w.heap.size, 2, none⟩ = some (.slice (some ⟨b, o, none⟩) 2 c) ∧ W.cell? ⟨b, o, none⟩ = some (.int .i64 k1) ∧ W.cell? ⟨b, o + 1, none⟩ = some (.int .i64 n1) ∧ W.cell? ⟨b, o + 2, none⟩ = some (.string s1) ∧ W.cell? ⟨b, o + 3, none⟩ = some (.slice A1 l1.length p1) ∧ W.cell? ⟨b, o + 4, none⟩ = some (.int .i64 k2) ∧ W.cell? ⟨b, o + 4 + 1, none⟩ = some (.int .i64 n2) ∧ W.cell? ⟨b, o + 4 + 2, none⟩ = some (.string s2) ∧ W.cell? ⟨b, o + 4 + 3, none⟩ = some (.slice A2 l2.length p2)) (first | (with_reducible exact HS.out _ (Below.refl _ _).drew) | (with_reducible exact HS.out _ (below1 _ _).drew) | (with_reducible exact HS.out _ (below2 _ _ _).drew) | fail) (first | fail)
    all_goals go_wp2_with fail
    all_goals go_meet
    all_goals first
      | exact Lib.hid ⟨_, _, rfl, rfl, HXY.out.1, HXY.out.2, (below2 _ _ _).drew, Nat.le_refl _, Nat.le_succ _⟩
      | exact Lib.hid ⟨_, _, rfl, rfl, HYX.out.2, HYX.out.1, (below2 _ _ _).drew, Nat.le_succ _, Nat.le_refl _⟩
  case rest =>
    clear a0 a1 a2 a3 b0 b1 b2 b3 HS
    obtain ⟨P, Q, rfl, rfl, hP, hQ, hbY, hPn, hQn⟩ := hcut.out
    clear hcut
    rename World => Y
    have KX := Lib.hid hP
    have KY := Lib.hid hQ
    have HY := Lib.hid hbY
    have w0 := (hbY.cell (p := ⟨w.heap.size, 0, none⟩) (World.block_lt_of_cell? _ _ v0)).trans v0
    have OY := Lib.hid (own_below OW.out hbY)
    have HPW := Lib.hid (show P ≠ w2.heap.size by have := HXN.out; omega)
    have HQW := Lib.hid (show Q ≠ w2.heap.size by have := HXN.out; omega)
    have HWY := Lib.hid (HX.out.trans (HY.out.mono HX.out.size))
    have XY := Lib.hid (fun W (h : Below Y.heap.size Y W) => XX.out W (HY.out.trans (h.mono HY.out.size)))
    clear v0 v2 hPn hQn
    obtain ⟨i0, hi, hz0, hz1, hz2⟩ := info_parts gl_info
    have QG := Lib.hid (show ∀ op W, Calls Tryz.prog 52 #[.int .i64 op, .agg #[.int .i64 k1, .int .i64 n1, .string s1, .slice A1 l1.length p1], .agg #[.int .i64 k2, .int .i64 n2, .string s2, .slice A2 l2.length p2]] W (TwoR op (.mk k1 n1 s1 A1 p1 l1) (.mk k2 n2 s2 A2 p2 l2) W) from fun op W => goal_two_at op (.mk k1 n1 s1 A1 p1 l1) (.mk k2 n2 s2 A2 p2 l2) W)
    have QH := Lib.hid (show ∀ op W, Calls Tryz.prog 52 #[.int .i64 op, .agg #[.int .i64 k2, .int .i64 n2, .string s2, .slice A2 l2.length p2], .agg #[.int .i64 k1, .int .i64 n1, .string s1, .slice A1 l1.length p1]] W (TwoR op (.mk k2 n2 s2 A2 p2 l2) (.mk k1 n1 s1 A1 p1 l1) W) from fun op W => goal_two_at op (.mk k2 n2 s2 A2 p2 l2) (.mk k1 n1 s1 A1 p1 l1) W)
    have HSY := Lib.hid (fun W (h : Below Y.heap.size Y W) => (⟨(KX.out.ext h).c0, (KX.out.ext h).c1, (KX.out.ext h).c2, (KX.out.ext h).c3, (KY.out.ext h).c0, (KY.out.ext h).c1, (KY.out.ext h).c2, (KY.out.ext h).c3⟩ : (fun W => W.cell? ⟨P, 0, none⟩ = some (.int .i64 k1) ∧ W.cell? ⟨P, 1, none⟩ = some (.int .i64 n1) ∧ W.cell? ⟨P, 2, none⟩ = some (.string s1) ∧ W.cell? ⟨P, 3, none⟩ = some (.slice A1 l1.length p1) ∧ W.cell? ⟨Q, 0, none⟩ = some (.int .i64 k2) ∧ W.cell? ⟨Q, 1, none⟩ = some (.int .i64 n2) ∧ W.cell? ⟨Q, 2, none⟩ = some (.string s2) ∧ W.cell? ⟨Q, 3, none⟩ = some (.slice A2 l2.length p2)) W))
    go_upto_region 10 with (fail)
    go_region_held3 (fun W => W.cell? ⟨P, 0, none⟩ = some (.int .i64 k1) ∧ W.cell? ⟨P, 1, none⟩ = some (.int .i64 n1) ∧ W.cell? ⟨P, 2, none⟩ = some (.string s1) ∧ W.cell? ⟨P, 3, none⟩ = some (.slice A1 l1.length p1) ∧ W.cell? ⟨Q, 0, none⟩ = some (.int .i64 k2) ∧ W.cell? ⟨Q, 1, none⟩ = some (.int .i64 n2) ∧ W.cell? ⟨Q, 2, none⟩ = some (.string s2) ∧ W.cell? ⟨Q, 3, none⟩ = some (.slice A2 l2.length p2)) (first | (with_reducible exact HSY.out _ (Below.refl _ _).drew) | (with_reducible exact HSY.out _ Ey1.out) | (with_reducible exact HSY.out _ Ey2.out) | (with_reducible exact HSY.out _ Ey3.out) | (with_reducible exact HSY.out _ (Ey3.out.trans ((below1 _ _).mono Ey3.out.size))) | (with_reducible exact HS5.out) | fail) (first
      | (go_at_call 52; have hF := QG.out 8 Y.drew; (with_reducible refine hF.mono ?_); rintro e y1 ⟨g1, rfl, hg1, hr1, hb⟩; have Ey1 := Lib.hid (show Below Y.heap.size Y y1 from undrew hb); have R1 := Lib.hid hr1; have G1 := Lib.hid (show Y.heap.size ≤ g1 from hg1); clear hF hg1 hr1 hb)
      | (go_at_call 52; have hF := QH.out 8 y1; (with_reducible refine hF.mono ?_); rintro e y2 ⟨g2, rfl, hg1, hr1, hb⟩; have Ey2 := Lib.hid (show Below Y.heap.size Y y2 from Ey1.out.trans (hb.mono Ey1.out.size)); have R2 := Lib.hid hr1; have G2 := Lib.hid (show Y.heap.size ≤ g2 from Nat.le_trans Ey1.out.size hg1); have S2 := Lib.hid (show Below y1.heap.size y1 y2 from hb); clear hF hg1 hr1 hb)
      | (go_at_call 52; have hF := QH.out 9 y2; (with_reducible refine hF.mono ?_); rintro e y3 ⟨g3, rfl, hg1, hr1, hb⟩; have Ey3 := Lib.hid (show Below Y.heap.size Y y3 from Ey2.out.trans (hb.mono Ey2.out.size)); have R3 := Lib.hid hr1; have G3 := Lib.hid (show Y.heap.size ≤ g3 from Nat.le_trans Ey2.out.size hg1); have S3 := Lib.hid (show Below y2.heap.size y2 y3 from hb); clear hF hg1 hr1 hb)
      | (refine step_append_lies _ (by rfl) _ _ _ (by rfl) w.heap.size 24 i0 _ 3 48 Tryz.underlying26 hi hz0 hz1 hz2 rfl (by omega) _ 1 (Gl.cells ⟨9, s, some ⟨b, o, none⟩, c, [.mk k1 n1 s1 A1 p1 l1, .mk k2 n2 s2 A2 p2 l2]⟩) (by rfl) ((own_below OY.out Ey3.out).alloc _) ⟨y3.heap.size, 0, none⟩ 3 3 (glcells [twoG 8 g1 (.mk k1 n1 s1 A1 p1 l1) (.mk k2 n2 s2 A2 p2 l2), twoG 8 g2 (.mk k2 n2 s2 A2 p2 l2) (.mk k1 n1 s1 A1 p1 l1), twoG 9 g3 (.mk k2 n2 s2 A2 p2 l2) (.mk k1 n1 s1 A1 p1 l1)]) (by rfl) (by rfl) (by exact news_lit y3 (glcells [twoG 8 g1 (.mk k1 n1 s1 A1 p1 l1) (.mk k2 n2 s2 A2 p2 l2), twoG 8 g2 (.mk k2 n2 s2 A2 p2 l2) (.mk k1 n1 s1 A1 p1 l1), twoG 9 g3 (.mk k2 n2 s2 A2 p2 l2) (.mk k1 n1 s1 A1 p1 l1)]) _) (by exact glcells_all _) (by omega) (by unfold maxLen; omega) (by omega) (by have := HWY.out.size; have := Ey3.out.size; simp; omega) (y3.heap.size + 1) (by simp) ?_; intro g cap w5 hown hg hat hglt; have HG5 := Lib.hid (show (y3.alloc (.cells (glcells [twoG 8 g1 (.mk k1 n1 s1 A1 p1 l1) (.mk k2 n2 s2 A2 p2 l2), twoG 8 g2 (.mk k2 n2 s2 A2 p2 l2) (.mk k1 n1 s1 A1 p1 l1), twoG 9 g3 (.mk k2 n2 s2 A2 p2 l2) (.mk k1 n1 s1 A1 p1 l1)]).toArray 24)).grownBy w5 (some w2.heap.size) from hg); have HO5 := Lib.hid (show w5.ownsRow w.heap.size 24 3 (.slice (some ⟨g, 0, none⟩) (1 + 3) cap) (1 + 3) (glcells (⟨9, s, some ⟨b, o, none⟩, c, [.mk k1 n1 s1 A1 p1 l1, .mk k2 n2 s2 A2 p2 l2]⟩ :: [twoG 8 g1 (.mk k1 n1 s1 A1 p1 l1) (.mk k2 n2 s2 A2 p2 l2), twoG 8 g2 (.mk k2 n2 s2 A2 p2 l2) (.mk k1 n1 s1 A1 p1 l1), twoG 9 g3 (.mk k2 n2 s2 A2 p2 l2) (.mk k1 n1 s1 A1 p1 l1)])) from hown); have HS5 := Lib.hid (show (fun W => W.cell? ⟨P, 0, none⟩ = some (.int .i64 k1) ∧ W.cell? ⟨P, 1, none⟩ = some (.int .i64 n1) ∧ W.cell? ⟨P, 2, none⟩ = some (.string s1) ∧ W.cell? ⟨P, 3, none⟩ = some (.slice A1 l1.length p1) ∧ W.cell? ⟨Q, 0, none⟩ = some (.int .i64 k2) ∧ W.cell? ⟨Q, 1, none⟩ = some (.int .i64 n2) ∧ W.cell? ⟨Q, 2, none⟩ = some (.string s2) ∧ W.cell? ⟨Q, 3, none⟩ = some (.slice A2 l2.length p2)) w5 from by
          obtain ⟨q0, q1, q2, q3, r0, r1, r2, r3⟩ := HSY.out _ (Ey3.out.trans ((below1 y3 (.cells (glcells [twoG 8 g1 (.mk k1 n1 s1 A1 p1 l1) (.mk k2 n2 s2 A2 p2 l2), twoG 8 g2 (.mk k2 n2 s2 A2 p2 l2) (.mk k1 n1 s1 A1 p1 l1), twoG 9 g3 (.mk k2 n2 s2 A2 p2 l2) (.mk k1 n1 s1 A1 p1 l1)]).toArray 24)).mono Ey3.out.size))
          exact ⟨grown_cell HG5.out HPW.out q0, grown_cell HG5.out HPW.out q1, grown_cell HG5.out HPW.out q2, grown_cell HG5.out HPW.out q3, grown_cell HG5.out HQW.out r0, grown_cell HG5.out HQW.out r1, grown_cell HG5.out HQW.out r2, grown_cell HG5.out HQW.out r3⟩); clear hown hg hat hglt)
      | fail)
    have HB1 := Lib.hid (show Below y1.heap.size y1 y3 from S2.out.trans (S3.out.mono S2.out.size))
    have HB2 := Lib.hid (show Below y2.heap.size y2 y3 from S3.out)
    have HB3 := Lib.hid (show Below y3.heap.size y3 y3 from Below.refl _ _)
    have H52 := Lib.hid (show Below w2.heap.size w2 w5 from (((B3.out.trans (HY.out.mono B3.out.size)).trans (Ey3.out.mono (Nat.le_trans B3.out.size HY.out.size))).alloc (by have := HXN.out; have := HY.out.size; have := Ey3.out.size; omega) _).grown HG5.out (by have := HXN.out; have := HY.out.size; have := Ey3.out.size; simp; omega) (fun k hk => by injection hk with hk; omega))
    have H5 := Lib.hid (H2.out.trans (H52.out.mono H2.out.size))
    obtain ⟨L, hL⟩ : ∃ L : List Gl, L = (⟨9, s, some ⟨b, o, none⟩, c, [.mk k1 n1 s1 A1 p1 l1, .mk k2 n2 s2 A2 p2 l2]⟩ :: [twoG 8 g1 (.mk k1 n1 s1 A1 p1 l1) (.mk k2 n2 s2 A2 p2 l2), twoG 8 g2 (.mk k2 n2 s2 A2 p2 l2) (.mk k1 n1 s1 A1 p1 l1), twoG 9 g3 (.mk k2 n2 s2 A2 p2 l2) (.mk k1 n1 s1 A1 p1 l1)]) := ⟨_, rfl⟩
    have HV := Lib.hid (show v = L.any (fun k => sameG k ⟨op', s', A', c', m⟩) by rw [hL]; exact HFL.out g1 g2 g3)
    have HLen := Lib.hid (show L.length = 4 by rw [hL]; rfl)
    have HG := Lib.hid (show GlLst w5 (some ⟨g, 0, none⟩) L cap from by
      rw [hL]
      refine gl_of_own (base := w.heap.size) HO5.out fun k hk => ?_
      rcases List.mem_cons.1 hk with rfl | hk
      · exact HAX.out w5 H5.out
      · rcases List.mem_cons.1 hk with rfl | hk
        · refine two_lies (by unfold Fits; omega) R1.out ?_ (HM1.out w5 H5.out) (HM2.out w5 H5.out)
          have hz := R1.out.1
          have e1 : w5.heap[g1]? = (y3.alloc (.cells (glcells [twoG 8 g1 (.mk k1 n1 s1 A1 p1 l1) (.mk k2 n2 s2 A2 p2 l2), twoG 8 g2 (.mk k2 n2 s2 A2 p2 l2) (.mk k1 n1 s1 A1 p1 l1), twoG 9 g3 (.mk k2 n2 s2 A2 p2 l2) (.mk k1 n1 s1 A1 p1 l1)]).toArray 24)).heap[g1]? := HG5.out.block g1 (by have := HB1.out.size; simp; omega) (fun e => by injection e with e; have := G1.out; have := HY.out.size; have := HXN.out; omega)
          rw [e1, Below.heap_alloc _ _ _ (by have := HB1.out.size; omega)]
          exact HB1.out.block _ hz
        · rcases List.mem_cons.1 hk with rfl | hk
          · refine two_lies (by unfold Fits; omega) R2.out ?_ (HM2.out w5 H5.out) (HM1.out w5 H5.out)
            have hz := R2.out.1
            have e1 : w5.heap[g2]? = (y3.alloc (.cells (glcells [twoG 8 g1 (.mk k1 n1 s1 A1 p1 l1) (.mk k2 n2 s2 A2 p2 l2), twoG 8 g2 (.mk k2 n2 s2 A2 p2 l2) (.mk k1 n1 s1 A1 p1 l1), twoG 9 g3 (.mk k2 n2 s2 A2 p2 l2) (.mk k1 n1 s1 A1 p1 l1)]).toArray 24)).heap[g2]? := HG5.out.block g2 (by have := HB2.out.size; simp; omega) (fun e => by injection e with e; have := G2.out; have := HY.out.size; have := HXN.out; omega)
            rw [e1, Below.heap_alloc _ _ _ (by have := HB2.out.size; omega)]
            exact HB2.out.block _ hz
          · rcases List.mem_cons.1 hk with rfl | hk
            · refine two_lies (by unfold Fits; omega) R3.out ?_ (HM2.out w5 H5.out) (HM1.out w5 H5.out)
              have hz := R3.out.1
              have e1 : w5.heap[g3]? = (y3.alloc (.cells (glcells [twoG 8 g1 (.mk k1 n1 s1 A1 p1 l1) (.mk k2 n2 s2 A2 p2 l2), twoG 8 g2 (.mk k2 n2 s2 A2 p2 l2) (.mk k1 n1 s1 A1 p1 l1), twoG 9 g3 (.mk k2 n2 s2 A2 p2 l2) (.mk k1 n1 s1 A1 p1 l1)]).toArray 24)).heap[g3]? := HG5.out.block g3 (by have := HB3.out.size; simp; omega) (fun e => by injection e with e; have := G3.out; have := HY.out.size; have := HXN.out; omega)
              rw [e1, Below.heap_alloc _ _ _ (by have := HB3.out.size; omega)]
            · cases hk
    )
    have XW := Lib.hid (fun W (h : Below w5.heap.size w5 W) => X2.out W (H52.out.trans (h.mono H52.out.size)))
    have HH := H5
    obtain ⟨⟨c0, c1, c2⟩, d0, d1, d2⟩ := XW.out _ (Below.refl _ _)
    clear hL HFL w0 HO5 HG5 X2 H52 HSY QG QH HM1 HM2 HPW HQW KX KY
    clear c0 c1 c2 d0 d1 d2
    obtain ⟨⟨c0, c1, c2⟩, d0, d1, d2⟩ := XW.out _ (Below.refl _ _)
    go_wp2_with fail
    go_loopw [8] (fun i wr => ∃ j : Nat, j ≤ 4 ∧ i = .int .i64 j ∧ Hid ((L.take j).any (fun k => sameG k ⟨op', s', A', c', m⟩) = false) ∧ Hid (Below w5.heap.size w5 wr)) (fun i _ => 4 - (intOf i).toNat)
    case atStart => exact ⟨0, Nat.zero_le _, rfl, Lib.hid rfl, Lib.hid (Below.refl _ _)⟩
    case round =>
      clear c0 c1 c2 d0 d1 d2
      obtain ⟨j, hj, rfl, HF, HB⟩ := hrel
      obtain ⟨⟨c0, c1, c2⟩, d0, d1, d2⟩ := XW.out _ HB.out
      by_cases hlt : j < 4
      · have hltL : j < L.length := by rw [HLen.out]; exact hlt
        obtain ⟨b5, o5, he5, hcs, hat⟩ := (HG.out.below HB.out).get hltL
        injection he5 with he5
        injection he5 with he5 ho5 _
        subst he5 ho5
        have HN := Lib.hid (any_next hltL (fun k => sameG k ⟨op', s', A', c', m⟩))
        have HS := Lib.hid (fun (h : sameG (L.getD j default) ⟨op', s', A', c', m⟩ = true) => any_stop hltL (p := fun k => sameG k ⟨op', s', A', c', m⟩) h)
        have Q := Lib.hid (fun d os => QS.out (L.getD j default) (Go.Sort.grow (redrawn wr d) os) (hat.below (below_regrown wr d os)) (HH.out.trans ((HB.out.trans ((below_regrown wr d os).mono HB.out.size)).mono HH.out.size)))
        generalize sameG (L.getD j default) ⟨op', s', A', c', m⟩ = q at *
        generalize L.getD j default = k at *
        have k0 := cell_regrown (hcs 0 _ rfl)
        have k1 := cell_regrown (hcs 1 _ rfl)
        have k2 := cell_regrown (hcs 2 _ rfl)
        simp only [Nat.zero_add, Nat.add_zero] at k0 k1 k2
        have k3 := cell_regrown d0
        have k4 := cell_regrown d1
        have k5 := cell_regrown d2
        clear hcs hat hltL c0 c1 c2 d0 d1 d2
        obtain ⟨ko, ks, kA, kc, ka⟩ := k
        simp only at k0 k1 k2
        go_wp2_with fail
        refine wp_region_quiet_below (by kernel_rfl) (by kernel_rfl) ?_
        repeat (go_big_quiet_step (first | (go_at_call 40; exact Calls.regrown_of (Q.out _ _)) | fail))
        refine wpQuiet_nil ?_
        intro w6 hw'
        have HB6 := Lib.hid (HB.out.trans ((regrown_below hw').mono HB.out.size))
        clear hw' k0 k1 k2 k3 k4 k5
        cases q
        · have HF2 := Lib.hid (show (L.take (j + 1)).any (fun k => sameG k ⟨op', s', A', c', m⟩) = false by rw [HN.out, HF.out]; rfl)
          go_wp2_with fail
          go_roundw
          case rel => exact ⟨j + 1, by omega, by go_num, HF2, HB6⟩
          case measure => simp [intOf]; omega
        · have HE := Lib.hid (HV.out.trans (HS.out rfl))
          go_wp2_with fail
          go_ret
          exact ⟨by rw [HE.out]; try rfl, HH.out.trans (HB6.out.mono HH.out.size)⟩
      · obtain rfl : j = 4 := by omega
        have HE := Lib.hid (show v = false by rw [HV.out]; have := HF.out; rwa [← HLen.out, List.take_length] at this)
        go_wp2_with fail
        go_ret
        exact ⟨by rw [HE.out]; try rfl, HH.out.trans (HB.out.mono HH.out.size)⟩
set_option maxHeartbeats 8000000 in
set_option maxRecDepth 100000 in
theorem fol_r_10 (s : ByteArray) (A : Option Addr) (c : Nat) (l : List Tm) (y : Gl) (w : World) (hx : (⟨10, s, A, c, l⟩ : Gl).At w) (hy : y.At w) (hz : sizeL l ≤ 1000000) (hzy : sizeL y.args ≤ 1000000) (h1 : isT 10 s l = true) (h2 : isT y.op y.name y.args = true) :
    Calls Tryz.prog 18 #[.agg #[.int .i64 10, .string s, .slice A l.length c], y.val] w fun e w' => e = .returned (.bool (folB 10 y.op s y.name l y.args)) ∧ Below w.heap.size w w' := by
  have hA : ∀ W, Below w.heap.size w W → (⟨10, s, A, c, l⟩ : Gl).At W := fun W h => hx.below h
  have Q1 := Lib.hid (fun W (h : Below w.heap.size w W) => ris_test_at ⟨10, s, A, c, l⟩ W (hA W h) hz h1)
  have Q2 := Lib.hid (fun W (h : Below w.heap.size w W) => ris_test_at y W (hy.below h) hzy h2)
  have QS := Lib.hid (fun (k : Gl) W (hk : k.At W) (h : Below w.heap.size w W) => ref_same_goal_at k y W hk (hy.below h) rfl)
  have HAX := Lib.hid hA
  obtain ⟨x1, x2, rfl⟩ := isT_two h1 (by omega)
  have HC := Lib.hid (fun W (h : Below w.heap.size w W) => lst_two (hx.2.2.below h))
  have HM1 := Lib.hid (fun W (h : Below w.heap.size w W) => (hx.2.2.below h).mem (t := x1) (by simp))
  have HM2 := Lib.hid (fun W (h : Below w.heap.size w W) => (hx.2.2.below h).mem (t := x2) (by simp))
  have HFL := Lib.hid (show ∀ g1 g2 g3 : Nat, folB 10 y.op s y.name [x1, x2] y.args = ([(⟨10, s, A, c, [x1, x2]⟩ : Gl), twoG 10 g1 x2 x1] : List Gl).any (fun k => sameG k y) from by
    intro g1 g2 g3
    unfold folB
    rw [h1, h2]
    rfl)
  generalize folB 10 y.op s y.name [x1, x2] y.args = v at *
  clear hA hx h1 h2 hz hzy hy
  obtain ⟨op', s', A', c', m⟩ := y
  show Calls Tryz.prog 18 #[.agg #[.int .i64 10, .string s, .slice A 2 c], .agg #[.int .i64 op', .string s', .slice A' m.length c']] w _
  go_enter Tryz.func18, Tryz.ntmps18
  go_wp2_with fail
  refine (Q1.out _ (below2 _ _ _)).mono ?_
  rintro e w1 ⟨rfl, hb1⟩
  have X1 := Lib.hid (fun W (h : Below w1.heap.size w1 W) => boxes_gl (hb1.trans (h.mono hb1.size)))
  have H1 := Lib.hid ((below2 w _ _).trans (hb1.mono (by simp; omega)))
  obtain ⟨⟨c0, c1, c2⟩, d0, d1, d2⟩ := X1.out _ (Below.refl _ _)
  clear hb1
  go_wp2_with fail
  refine (Q2.out _ H1.out).mono ?_
  rintro e w2 ⟨rfl, hb2⟩
  have X2 := Lib.hid (fun W (h : Below w2.heap.size w2 W) => X1.out W (hb2.trans (h.mono hb2.size)))
  have H2 := Lib.hid (H1.out.trans (hb2.mono H1.out.size))
  clear c0 c1 c2 d0 d1 d2 hb2 X1 H1
  obtain ⟨⟨c0, c1, c2⟩, d0, d1, d2⟩ := X2.out _ (Below.refl _ _)
  have OW := Lib.hid (World.ownsRow_lit (base := w.heap.size) (e := 24) (size := 3) w2 #[.int .i64 10, .string s, .slice A 2 c] 1 H2.out.size (by unfold maxLen; omega) rfl)
  have B3 := Lib.hid (below1 w2 (.cells #[.int .i64 10, .string s, .slice A 2 c] 24))
  have u0 : ∀ o, (w2.alloc o).cell? ⟨w.heap.size, 0, none⟩ = _ := fun o => (World.cell?_alloc_past _ _ _ (World.block_lt_of_cell? _ _ c0)).trans c0
  have u2 : ∀ o, (w2.alloc o).cell? ⟨w.heap.size, 2, none⟩ = _ := fun o => (World.cell?_alloc_past _ _ _ (World.block_lt_of_cell? _ _ c2)).trans c2
  obtain ⟨b, o, hA2, ⟨a0, a1, a2, a3⟩, ⟨b0, b1, b2, b3⟩, at1, at2⟩ := HC.out _ (H2.out.trans ((below1 w2 (.cells #[.int .i64 10, .string s, .slice A 2 c] 24)).mono H2.out.size))
  subst hA2
  go_upto_region 5 with (fail)
  obtain ⟨X, hX⟩ : ∃ X, w2.alloc (.cells #[.int .i64 10, .string s, .slice (some ⟨b, o, none⟩) 2 c] 24) = X := ⟨_, rfl⟩
  rw [hX] at OW B3
  have HX := Lib.hid (H2.out.trans (B3.out.mono H2.out.size))
  have HXN := Lib.hid (show w2.heap.size < X.heap.size by rw [← hX]; simp)
  have XX := Lib.hid (fun W (h : Below X.heap.size X W) => X2.out W (B3.out.trans (h.mono B3.out.size)))
  rw [hX] at a0 a1 a2 a3 b0 b1 b2 b3 at1 at2
  rw [hX]
  have v2 := u2 (.cells #[.int .i64 10, .string s, .slice (some ⟨b, o, none⟩) 2 c] 24)
  have v0 := u0 (.cells #[.int .i64 10, .string s, .slice (some ⟨b, o, none⟩) 2 c] 24)
  rw [hX] at v2 v0
  clear u0 u2 hX c0 c1 c2 d0 d1 d2
  have T1 := Lib.hid at1
  have T2 := Lib.hid at2
  have HXY := Lib.hid (BX.two at1 at2 40)
  have HYX := Lib.hid (BX.two at2 at1 40)
  have HS := Lib.hid (fun W (h : Below X.heap.size X W) => (⟨keepv h v2, keepv h a0, keepv h a1, keepv h a2, keepv h a3, keepv h b0, keepv h b1, keepv h b2, keepv h b3⟩ : (fun W => W.cell? ⟨w.heap.size, 2, none⟩ = some (.slice (some ⟨b, o, none⟩) 2 c) ∧ W.cell? ⟨b, o, none⟩ = some (.int .i64 x1.kind) ∧ W.cell? ⟨b, o + 1, none⟩ = some (.int .i64 x1.num) ∧ W.cell? ⟨b, o + 2, none⟩ = some (.string x1.name) ∧ W.cell? ⟨b, o + 3, none⟩ = some (.slice x1.at_ x1.args.length x1.cap) ∧ W.cell? ⟨b, o + 4, none⟩ = some (.int .i64 x2.kind) ∧ W.cell? ⟨b, o + 4 + 1, none⟩ = some (.int .i64 x2.num) ∧ W.cell? ⟨b, o + 4 + 2, none⟩ = some (.string x2.name) ∧ W.cell? ⟨b, o + 4 + 3, none⟩ = some (.slice x2.at_ x2.args.length x2.cap)) W))
  clear at1 at2
  obtain ⟨k1, n1, s1, A1, p1, l1⟩ := x1
  obtain ⟨k2, n2, s2, A2, p2, l2⟩ := x2
  simp only [Tm.kind, Tm.num, Tm.name, Tm.at_, Tm.args, Tm.cap] at a0 a1 a2 a3 b0 b1 b2 b3 HXY HYX HS
  go_cut [6, 7] from 22 to 29 (fun s6 s7 W => Hid (∃ P Q : Nat, s6 = .pointer (some ⟨P, 0, none⟩) ∧ s7 = .pointer (some ⟨Q, 0, none⟩) ∧ BX P (.mk k1 n1 s1 A1 p1 l1) W ∧ BX Q (.mk k2 n2 s2 A2 p2 l2) W ∧ Below X.heap.size X W ∧ X.heap.size ≤ P ∧ X.heap.size ≤ Q))
  case first =>
    go_region_held3 (fun W => W.cell? ⟨w.heap.size, 2, none⟩ = some (.slice (some ⟨b, o, none⟩) 2 c) ∧ W.cell? ⟨b, o, none⟩ = some (.int .i64 k1) ∧ W.cell? ⟨b, o + 1, none⟩ = some (.int .i64 n1) ∧ W.cell? ⟨b, o + 2, none⟩ = some (.string s1) ∧ W.cell? ⟨b, o + 3, none⟩ = some (.slice A1 l1.length p1) ∧ W.cell? ⟨b, o + 4, none⟩ = some (.int .i64 k2) ∧ W.cell? ⟨b, o + 4 + 1, none⟩ = some (.int .i64 n2) ∧ W.cell? ⟨b, o + 4 + 2, none⟩ = some (.string s2) ∧ W.cell? ⟨b, o + 4 + 3, none⟩ = some (.slice A2 l2.length p2)) (first | (with_reducible exact HS.out _ (Below.refl _ _).drew) | (with_reducible exact HS.out _ (below1 _ _).drew) | (with_reducible exact HS.out _ (below2 _ _ _).drew) | fail) (first | fail)
    all_goals go_wp2_with fail
    all_goals go_meet
    all_goals first
      | exact Lib.hid ⟨_, _, rfl, rfl, HXY.out.1, HXY.out.2, (below2 _ _ _).drew, Nat.le_refl _, Nat.le_succ _⟩
      | exact Lib.hid ⟨_, _, rfl, rfl, HYX.out.2, HYX.out.1, (below2 _ _ _).drew, Nat.le_succ _, Nat.le_refl _⟩
  case rest =>
    clear a0 a1 a2 a3 b0 b1 b2 b3 HS
    obtain ⟨P, Q, rfl, rfl, hP, hQ, hbY, hPn, hQn⟩ := hcut.out
    clear hcut
    rename World => Y
    have KX := Lib.hid hP
    have KY := Lib.hid hQ
    have HY := Lib.hid hbY
    have w0 := (hbY.cell (p := ⟨w.heap.size, 0, none⟩) (World.block_lt_of_cell? _ _ v0)).trans v0
    have OY := Lib.hid (own_below OW.out hbY)
    have HPW := Lib.hid (show P ≠ w2.heap.size by have := HXN.out; omega)
    have HQW := Lib.hid (show Q ≠ w2.heap.size by have := HXN.out; omega)
    have HWY := Lib.hid (HX.out.trans (HY.out.mono HX.out.size))
    have XY := Lib.hid (fun W (h : Below Y.heap.size Y W) => XX.out W (HY.out.trans (h.mono HY.out.size)))
    clear v0 v2 hPn hQn
    obtain ⟨i0, hi, hz0, hz1, hz2⟩ := info_parts gl_info
    have QG := Lib.hid (show ∀ op W, Calls Tryz.prog 52 #[.int .i64 op, .agg #[.int .i64 k1, .int .i64 n1, .string s1, .slice A1 l1.length p1], .agg #[.int .i64 k2, .int .i64 n2, .string s2, .slice A2 l2.length p2]] W (TwoR op (.mk k1 n1 s1 A1 p1 l1) (.mk k2 n2 s2 A2 p2 l2) W) from fun op W => goal_two_at op (.mk k1 n1 s1 A1 p1 l1) (.mk k2 n2 s2 A2 p2 l2) W)
    have QH := Lib.hid (show ∀ op W, Calls Tryz.prog 52 #[.int .i64 op, .agg #[.int .i64 k2, .int .i64 n2, .string s2, .slice A2 l2.length p2], .agg #[.int .i64 k1, .int .i64 n1, .string s1, .slice A1 l1.length p1]] W (TwoR op (.mk k2 n2 s2 A2 p2 l2) (.mk k1 n1 s1 A1 p1 l1) W) from fun op W => goal_two_at op (.mk k2 n2 s2 A2 p2 l2) (.mk k1 n1 s1 A1 p1 l1) W)
    have HSY := Lib.hid (fun W (h : Below Y.heap.size Y W) => (⟨(KX.out.ext h).c0, (KX.out.ext h).c1, (KX.out.ext h).c2, (KX.out.ext h).c3, (KY.out.ext h).c0, (KY.out.ext h).c1, (KY.out.ext h).c2, (KY.out.ext h).c3⟩ : (fun W => W.cell? ⟨P, 0, none⟩ = some (.int .i64 k1) ∧ W.cell? ⟨P, 1, none⟩ = some (.int .i64 n1) ∧ W.cell? ⟨P, 2, none⟩ = some (.string s1) ∧ W.cell? ⟨P, 3, none⟩ = some (.slice A1 l1.length p1) ∧ W.cell? ⟨Q, 0, none⟩ = some (.int .i64 k2) ∧ W.cell? ⟨Q, 1, none⟩ = some (.int .i64 n2) ∧ W.cell? ⟨Q, 2, none⟩ = some (.string s2) ∧ W.cell? ⟨Q, 3, none⟩ = some (.slice A2 l2.length p2)) W))
    obtain ⟨q0, q1, q2, q3, r0, r1, r2, r3⟩ := HSY.out Y (Below.refl _ _)
    go_wp2_with (first
      | (go_at_call 52; have hF := QH.out 10 Y; refine hF.mono ?_; rintro e y1 ⟨g1, rfl, hg1, hr1, hb⟩; have Ey1 := Lib.hid (show Below Y.heap.size Y y1 from hb); have R1 := Lib.hid hr1; have G1 := Lib.hid (show Y.heap.size ≤ g1 from hg1); clear hF hg1 hr1 hb)
      | (at_builtin; refine wpList_append_lies _ rfl _ _ 26 rfl w.heap.size 24 i0 _ 3 48 Tryz.underlying26 hi hz0 hz1 hz2 rfl (by decide) _ 1 (Gl.cells ⟨10, s, some ⟨b, o, none⟩, c, [.mk k1 n1 s1 A1 p1 l1, .mk k2 n2 s2 A2 p2 l2]⟩) (by rfl) ((own_below OY.out Ey1.out).alloc _) ⟨y1.heap.size, 0, none⟩ 1 1 (glcells [twoG 10 g1 (.mk k2 n2 s2 A2 p2 l2) (.mk k1 n1 s1 A1 p1 l1)]) (by rfl) (by rfl) (by exact news_lit y1 (glcells [twoG 10 g1 (.mk k2 n2 s2 A2 p2 l2) (.mk k1 n1 s1 A1 p1 l1)]) _) (by exact glcells_all _) (by omega) (by unfold maxLen; omega) (by omega) (by have := HWY.out.size; have := Ey1.out.size; simp; omega) (y1.heap.size + 1) (by simp) ?_; intro g cap w5 hown hg hat hglt; have HG5 := Lib.hid (show (y1.alloc (.cells (glcells [twoG 10 g1 (.mk k2 n2 s2 A2 p2 l2) (.mk k1 n1 s1 A1 p1 l1)]).toArray 24)).grownBy w5 (some w2.heap.size) from hg); have HO5 := Lib.hid (show w5.ownsRow w.heap.size 24 3 (.slice (some ⟨g, 0, none⟩) (1 + 1) cap) (1 + 1) (glcells (⟨10, s, some ⟨b, o, none⟩, c, [.mk k1 n1 s1 A1 p1 l1, .mk k2 n2 s2 A2 p2 l2]⟩ :: [twoG 10 g1 (.mk k2 n2 s2 A2 p2 l2) (.mk k1 n1 s1 A1 p1 l1)])) from hown); clear hown hg hat hglt))
    clear q0 q1 q2 q3 r0 r1 r2 r3
    have HB1 := Lib.hid (show Below y1.heap.size y1 y1 from Below.refl _ _)
    have H52 := Lib.hid (show Below w2.heap.size w2 w5 from (((B3.out.trans (HY.out.mono B3.out.size)).trans (Ey1.out.mono (Nat.le_trans B3.out.size HY.out.size))).alloc (by have := HXN.out; have := HY.out.size; have := Ey1.out.size; omega) _).grown HG5.out (by have := HXN.out; have := HY.out.size; have := Ey1.out.size; simp; omega) (fun k hk => by injection hk with hk; omega))
    have H5 := Lib.hid (H2.out.trans (H52.out.mono H2.out.size))
    obtain ⟨L, hL⟩ : ∃ L : List Gl, L = (⟨10, s, some ⟨b, o, none⟩, c, [.mk k1 n1 s1 A1 p1 l1, .mk k2 n2 s2 A2 p2 l2]⟩ :: [twoG 10 g1 (.mk k2 n2 s2 A2 p2 l2) (.mk k1 n1 s1 A1 p1 l1)]) := ⟨_, rfl⟩
    have HV := Lib.hid (show v = L.any (fun k => sameG k ⟨op', s', A', c', m⟩) by rw [hL]; exact HFL.out g1 0 0)
    have HLen := Lib.hid (show L.length = 2 by rw [hL]; rfl)
    have HG := Lib.hid (show GlLst w5 (some ⟨g, 0, none⟩) L cap from by
      rw [hL]
      refine gl_of_own (base := w.heap.size) HO5.out fun k hk => ?_
      rcases List.mem_cons.1 hk with rfl | hk
      · exact HAX.out w5 H5.out
      · rcases List.mem_cons.1 hk with rfl | hk
        · refine two_lies (by unfold Fits; omega) R1.out ?_ (HM2.out w5 H5.out) (HM1.out w5 H5.out)
          have hz := R1.out.1
          have e1 : w5.heap[g1]? = (y1.alloc (.cells (glcells [twoG 10 g1 (.mk k2 n2 s2 A2 p2 l2) (.mk k1 n1 s1 A1 p1 l1)]).toArray 24)).heap[g1]? := HG5.out.block g1 (by have := HB1.out.size; simp; omega) (fun e => by injection e with e; have := G1.out; have := HY.out.size; have := HXN.out; omega)
          rw [e1, Below.heap_alloc _ _ _ (by have := HB1.out.size; omega)]
        · cases hk
    )
    have XW := Lib.hid (fun W (h : Below w5.heap.size w5 W) => X2.out W (H52.out.trans (h.mono H52.out.size)))
    have HH := H5
    obtain ⟨⟨c0, c1, c2⟩, d0, d1, d2⟩ := XW.out _ (Below.refl _ _)
    clear hL HFL w0 HO5 HG5 X2 H52 HSY QG QH HM1 HM2 HPW HQW KX KY
    clear c0 c1 c2 d0 d1 d2
    obtain ⟨⟨c0, c1, c2⟩, d0, d1, d2⟩ := XW.out _ (Below.refl _ _)
    go_wp2_with fail
    go_loopw [8] (fun i wr => ∃ j : Nat, j ≤ 2 ∧ i = .int .i64 j ∧ Hid ((L.take j).any (fun k => sameG k ⟨op', s', A', c', m⟩) = false) ∧ Hid (Below w5.heap.size w5 wr)) (fun i _ => 2 - (intOf i).toNat)
    case atStart => exact ⟨0, Nat.zero_le _, rfl, Lib.hid rfl, Lib.hid (Below.refl _ _)⟩
    case round =>
      clear c0 c1 c2 d0 d1 d2
      obtain ⟨j, hj, rfl, HF, HB⟩ := hrel
      obtain ⟨⟨c0, c1, c2⟩, d0, d1, d2⟩ := XW.out _ HB.out
      by_cases hlt : j < 2
      · have hltL : j < L.length := by rw [HLen.out]; exact hlt
        obtain ⟨b5, o5, he5, hcs, hat⟩ := (HG.out.below HB.out).get hltL
        injection he5 with he5
        injection he5 with he5 ho5 _
        subst he5 ho5
        have HN := Lib.hid (any_next hltL (fun k => sameG k ⟨op', s', A', c', m⟩))
        have HS := Lib.hid (fun (h : sameG (L.getD j default) ⟨op', s', A', c', m⟩ = true) => any_stop hltL (p := fun k => sameG k ⟨op', s', A', c', m⟩) h)
        have Q := Lib.hid (fun d os => QS.out (L.getD j default) (Go.Sort.grow (redrawn wr d) os) (hat.below (below_regrown wr d os)) (HH.out.trans ((HB.out.trans ((below_regrown wr d os).mono HB.out.size)).mono HH.out.size)))
        generalize sameG (L.getD j default) ⟨op', s', A', c', m⟩ = q at *
        generalize L.getD j default = k at *
        have k0 := cell_regrown (hcs 0 _ rfl)
        have k1 := cell_regrown (hcs 1 _ rfl)
        have k2 := cell_regrown (hcs 2 _ rfl)
        simp only [Nat.zero_add, Nat.add_zero] at k0 k1 k2
        have k3 := cell_regrown d0
        have k4 := cell_regrown d1
        have k5 := cell_regrown d2
        clear hcs hat hltL c0 c1 c2 d0 d1 d2
        obtain ⟨ko, ks, kA, kc, ka⟩ := k
        simp only at k0 k1 k2
        go_wp2_with fail
        refine wp_region_quiet_below (by kernel_rfl) (by kernel_rfl) ?_
        repeat (go_big_quiet_step (first | (go_at_call 40; exact Calls.regrown_of (Q.out _ _)) | fail))
        refine wpQuiet_nil ?_
        intro w6 hw'
        have HB6 := Lib.hid (HB.out.trans ((regrown_below hw').mono HB.out.size))
        clear hw' k0 k1 k2 k3 k4 k5
        cases q
        · have HF2 := Lib.hid (show (L.take (j + 1)).any (fun k => sameG k ⟨op', s', A', c', m⟩) = false by rw [HN.out, HF.out]; rfl)
          go_wp2_with fail
          go_roundw
          case rel => exact ⟨j + 1, by omega, by go_num, HF2, HB6⟩
          case measure => simp [intOf]; omega
        · have HE := Lib.hid (HV.out.trans (HS.out rfl))
          go_wp2_with fail
          go_ret
          exact ⟨by rw [HE.out]; try rfl, HH.out.trans (HB6.out.mono HH.out.size)⟩
      · obtain rfl : j = 2 := by omega
        have HE := Lib.hid (show v = false by rw [HV.out]; have := HF.out; rwa [← HLen.out, List.take_length] at this)
        go_wp2_with fail
        go_ret
        exact ⟨by rw [HE.out]; try rfl, HH.out.trans (HB.out.mono HH.out.size)⟩
set_option maxHeartbeats 8000000 in
set_option maxRecDepth 100000 in
theorem fol_r_5 (s : ByteArray) (A : Option Addr) (c : Nat) (l : List Tm) (y : Gl) (w : World) (hx : (⟨5, s, A, c, l⟩ : Gl).At w) (hy : y.At w) (hz : sizeL l ≤ 1000000) (hzy : sizeL y.args ≤ 1000000) (h1 : isT 5 s l = true) (h2 : isT y.op y.name y.args = true) :
    Calls Tryz.prog 18 #[.agg #[.int .i64 5, .string s, .slice A l.length c], y.val] w fun e w' => e = .returned (.bool (folB 5 y.op s y.name l y.args)) ∧ Below w.heap.size w w' := by
  have hA : ∀ W, Below w.heap.size w W → (⟨5, s, A, c, l⟩ : Gl).At W := fun W h => hx.below h
  have Q1 := Lib.hid (fun W (h : Below w.heap.size w W) => ris_test_at ⟨5, s, A, c, l⟩ W (hA W h) hz h1)
  have Q2 := Lib.hid (fun W (h : Below w.heap.size w W) => ris_test_at y W (hy.below h) hzy h2)
  have QS := Lib.hid (fun (k : Gl) W (hk : k.At W) (h : Below w.heap.size w W) => ref_same_goal_at k y W hk (hy.below h) rfl)
  have HAX := Lib.hid hA
  obtain ⟨x1, x2, rfl⟩ := isT_two h1 (by omega)
  have HC := Lib.hid (fun W (h : Below w.heap.size w W) => lst_two (hx.2.2.below h))
  have HM1 := Lib.hid (fun W (h : Below w.heap.size w W) => (hx.2.2.below h).mem (t := x1) (by simp))
  have HM2 := Lib.hid (fun W (h : Below w.heap.size w W) => (hx.2.2.below h).mem (t := x2) (by simp))
  have HFL := Lib.hid (show ∀ g1 g2 g3 : Nat, folB 5 y.op s y.name [x1, x2] y.args = ([(⟨5, s, A, c, [x1, x2]⟩ : Gl), twoG 5 g1 x2 x1] : List Gl).any (fun k => sameG k y) from by
    intro g1 g2 g3
    unfold folB
    rw [h1, h2]
    rfl)
  generalize folB 5 y.op s y.name [x1, x2] y.args = v at *
  clear hA hx h1 h2 hz hzy hy
  obtain ⟨op', s', A', c', m⟩ := y
  show Calls Tryz.prog 18 #[.agg #[.int .i64 5, .string s, .slice A 2 c], .agg #[.int .i64 op', .string s', .slice A' m.length c']] w _
  go_enter Tryz.func18, Tryz.ntmps18
  go_wp2_with fail
  refine (Q1.out _ (below2 _ _ _)).mono ?_
  rintro e w1 ⟨rfl, hb1⟩
  have X1 := Lib.hid (fun W (h : Below w1.heap.size w1 W) => boxes_gl (hb1.trans (h.mono hb1.size)))
  have H1 := Lib.hid ((below2 w _ _).trans (hb1.mono (by simp; omega)))
  obtain ⟨⟨c0, c1, c2⟩, d0, d1, d2⟩ := X1.out _ (Below.refl _ _)
  clear hb1
  go_wp2_with fail
  refine (Q2.out _ H1.out).mono ?_
  rintro e w2 ⟨rfl, hb2⟩
  have X2 := Lib.hid (fun W (h : Below w2.heap.size w2 W) => X1.out W (hb2.trans (h.mono hb2.size)))
  have H2 := Lib.hid (H1.out.trans (hb2.mono H1.out.size))
  clear c0 c1 c2 d0 d1 d2 hb2 X1 H1
  obtain ⟨⟨c0, c1, c2⟩, d0, d1, d2⟩ := X2.out _ (Below.refl _ _)
  have OW := Lib.hid (World.ownsRow_lit (base := w.heap.size) (e := 24) (size := 3) w2 #[.int .i64 5, .string s, .slice A 2 c] 1 H2.out.size (by unfold maxLen; omega) rfl)
  have B3 := Lib.hid (below1 w2 (.cells #[.int .i64 5, .string s, .slice A 2 c] 24))
  have u0 : ∀ o, (w2.alloc o).cell? ⟨w.heap.size, 0, none⟩ = _ := fun o => (World.cell?_alloc_past _ _ _ (World.block_lt_of_cell? _ _ c0)).trans c0
  have u2 : ∀ o, (w2.alloc o).cell? ⟨w.heap.size, 2, none⟩ = _ := fun o => (World.cell?_alloc_past _ _ _ (World.block_lt_of_cell? _ _ c2)).trans c2
  obtain ⟨b, o, hA2, ⟨a0, a1, a2, a3⟩, ⟨b0, b1, b2, b3⟩, at1, at2⟩ := HC.out _ (H2.out.trans ((below1 w2 (.cells #[.int .i64 5, .string s, .slice A 2 c] 24)).mono H2.out.size))
  subst hA2
  go_upto_region 5 with (fail)
  obtain ⟨X, hX⟩ : ∃ X, w2.alloc (.cells #[.int .i64 5, .string s, .slice (some ⟨b, o, none⟩) 2 c] 24) = X := ⟨_, rfl⟩
  rw [hX] at OW B3
  have HX := Lib.hid (H2.out.trans (B3.out.mono H2.out.size))
  have HXN := Lib.hid (show w2.heap.size < X.heap.size by rw [← hX]; simp)
  have XX := Lib.hid (fun W (h : Below X.heap.size X W) => X2.out W (B3.out.trans (h.mono B3.out.size)))
  rw [hX] at a0 a1 a2 a3 b0 b1 b2 b3 at1 at2
  rw [hX]
  have v2 := u2 (.cells #[.int .i64 5, .string s, .slice (some ⟨b, o, none⟩) 2 c] 24)
  have v0 := u0 (.cells #[.int .i64 5, .string s, .slice (some ⟨b, o, none⟩) 2 c] 24)
  rw [hX] at v2 v0
  clear u0 u2 hX c0 c1 c2 d0 d1 d2
  have T1 := Lib.hid at1
  have T2 := Lib.hid at2
  have HXY := Lib.hid (BX.two at1 at2 40)
  have HYX := Lib.hid (BX.two at2 at1 40)
  have HS := Lib.hid (fun W (h : Below X.heap.size X W) => (⟨keepv h v2, keepv h a0, keepv h a1, keepv h a2, keepv h a3, keepv h b0, keepv h b1, keepv h b2, keepv h b3⟩ : (fun W => W.cell? ⟨w.heap.size, 2, none⟩ = some (.slice (some ⟨b, o, none⟩) 2 c) ∧ W.cell? ⟨b, o, none⟩ = some (.int .i64 x1.kind) ∧ W.cell? ⟨b, o + 1, none⟩ = some (.int .i64 x1.num) ∧ W.cell? ⟨b, o + 2, none⟩ = some (.string x1.name) ∧ W.cell? ⟨b, o + 3, none⟩ = some (.slice x1.at_ x1.args.length x1.cap) ∧ W.cell? ⟨b, o + 4, none⟩ = some (.int .i64 x2.kind) ∧ W.cell? ⟨b, o + 4 + 1, none⟩ = some (.int .i64 x2.num) ∧ W.cell? ⟨b, o + 4 + 2, none⟩ = some (.string x2.name) ∧ W.cell? ⟨b, o + 4 + 3, none⟩ = some (.slice x2.at_ x2.args.length x2.cap)) W))
  clear at1 at2
  obtain ⟨k1, n1, s1, A1, p1, l1⟩ := x1
  obtain ⟨k2, n2, s2, A2, p2, l2⟩ := x2
  simp only [Tm.kind, Tm.num, Tm.name, Tm.at_, Tm.args, Tm.cap] at a0 a1 a2 a3 b0 b1 b2 b3 HXY HYX HS
  go_cut [6, 7] from 22 to 29 (fun s6 s7 W => Hid (∃ P Q : Nat, s6 = .pointer (some ⟨P, 0, none⟩) ∧ s7 = .pointer (some ⟨Q, 0, none⟩) ∧ BX P (.mk k1 n1 s1 A1 p1 l1) W ∧ BX Q (.mk k2 n2 s2 A2 p2 l2) W ∧ Below X.heap.size X W ∧ X.heap.size ≤ P ∧ X.heap.size ≤ Q))
  case first =>
    go_region_held3 (fun W => W.cell? ⟨w.heap.size, 2, none⟩ = some (.slice (some ⟨b, o, none⟩) 2 c) ∧ W.cell? ⟨b, o, none⟩ = some (.int .i64 k1) ∧ W.cell? ⟨b, o + 1, none⟩ = some (.int .i64 n1) ∧ W.cell? ⟨b, o + 2, none⟩ = some (.string s1) ∧ W.cell? ⟨b, o + 3, none⟩ = some (.slice A1 l1.length p1) ∧ W.cell? ⟨b, o + 4, none⟩ = some (.int .i64 k2) ∧ W.cell? ⟨b, o + 4 + 1, none⟩ = some (.int .i64 n2) ∧ W.cell? ⟨b, o + 4 + 2, none⟩ = some (.string s2) ∧ W.cell? ⟨b, o + 4 + 3, none⟩ = some (.slice A2 l2.length p2)) (first | (with_reducible exact HS.out _ (Below.refl _ _).drew) | (with_reducible exact HS.out _ (below1 _ _).drew) | (with_reducible exact HS.out _ (below2 _ _ _).drew) | fail) (first | fail)
    all_goals go_wp2_with fail
    all_goals go_meet
    all_goals first
      | exact Lib.hid ⟨_, _, rfl, rfl, HXY.out.1, HXY.out.2, (below2 _ _ _).drew, Nat.le_refl _, Nat.le_succ _⟩
      | exact Lib.hid ⟨_, _, rfl, rfl, HYX.out.2, HYX.out.1, (below2 _ _ _).drew, Nat.le_succ _, Nat.le_refl _⟩
  case rest =>
    clear a0 a1 a2 a3 b0 b1 b2 b3 HS
    obtain ⟨P, Q, rfl, rfl, hP, hQ, hbY, hPn, hQn⟩ := hcut.out
    clear hcut
    rename World => Y
    have KX := Lib.hid hP
    have KY := Lib.hid hQ
    have HY := Lib.hid hbY
    have w0 := (hbY.cell (p := ⟨w.heap.size, 0, none⟩) (World.block_lt_of_cell? _ _ v0)).trans v0
    have OY := Lib.hid (own_below OW.out hbY)
    have HPW := Lib.hid (show P ≠ w2.heap.size by have := HXN.out; omega)
    have HQW := Lib.hid (show Q ≠ w2.heap.size by have := HXN.out; omega)
    have HWY := Lib.hid (HX.out.trans (HY.out.mono HX.out.size))
    have XY := Lib.hid (fun W (h : Below Y.heap.size Y W) => XX.out W (HY.out.trans (h.mono HY.out.size)))
    clear v0 v2 hPn hQn
    obtain ⟨i0, hi, hz0, hz1, hz2⟩ := info_parts gl_info
    have QG := Lib.hid (show ∀ op W, Calls Tryz.prog 52 #[.int .i64 op, .agg #[.int .i64 k1, .int .i64 n1, .string s1, .slice A1 l1.length p1], .agg #[.int .i64 k2, .int .i64 n2, .string s2, .slice A2 l2.length p2]] W (TwoR op (.mk k1 n1 s1 A1 p1 l1) (.mk k2 n2 s2 A2 p2 l2) W) from fun op W => goal_two_at op (.mk k1 n1 s1 A1 p1 l1) (.mk k2 n2 s2 A2 p2 l2) W)
    have QH := Lib.hid (show ∀ op W, Calls Tryz.prog 52 #[.int .i64 op, .agg #[.int .i64 k2, .int .i64 n2, .string s2, .slice A2 l2.length p2], .agg #[.int .i64 k1, .int .i64 n1, .string s1, .slice A1 l1.length p1]] W (TwoR op (.mk k2 n2 s2 A2 p2 l2) (.mk k1 n1 s1 A1 p1 l1) W) from fun op W => goal_two_at op (.mk k2 n2 s2 A2 p2 l2) (.mk k1 n1 s1 A1 p1 l1) W)
    have HSY := Lib.hid (fun W (h : Below Y.heap.size Y W) => (⟨(KX.out.ext h).c0, (KX.out.ext h).c1, (KX.out.ext h).c2, (KX.out.ext h).c3, (KY.out.ext h).c0, (KY.out.ext h).c1, (KY.out.ext h).c2, (KY.out.ext h).c3⟩ : (fun W => W.cell? ⟨P, 0, none⟩ = some (.int .i64 k1) ∧ W.cell? ⟨P, 1, none⟩ = some (.int .i64 n1) ∧ W.cell? ⟨P, 2, none⟩ = some (.string s1) ∧ W.cell? ⟨P, 3, none⟩ = some (.slice A1 l1.length p1) ∧ W.cell? ⟨Q, 0, none⟩ = some (.int .i64 k2) ∧ W.cell? ⟨Q, 1, none⟩ = some (.int .i64 n2) ∧ W.cell? ⟨Q, 2, none⟩ = some (.string s2) ∧ W.cell? ⟨Q, 3, none⟩ = some (.slice A2 l2.length p2)) W))
    obtain ⟨q0, q1, q2, q3, r0, r1, r2, r3⟩ := HSY.out Y (Below.refl _ _)
    go_wp2_with (first
      | (go_at_call 52; have hF := QH.out 5 Y; refine hF.mono ?_; rintro e y1 ⟨g1, rfl, hg1, hr1, hb⟩; have Ey1 := Lib.hid (show Below Y.heap.size Y y1 from hb); have R1 := Lib.hid hr1; have G1 := Lib.hid (show Y.heap.size ≤ g1 from hg1); clear hF hg1 hr1 hb)
      | (at_builtin; refine wpList_append_lies _ rfl _ _ 26 rfl w.heap.size 24 i0 _ 3 48 Tryz.underlying26 hi hz0 hz1 hz2 rfl (by decide) _ 1 (Gl.cells ⟨5, s, some ⟨b, o, none⟩, c, [.mk k1 n1 s1 A1 p1 l1, .mk k2 n2 s2 A2 p2 l2]⟩) (by rfl) ((own_below OY.out Ey1.out).alloc _) ⟨y1.heap.size, 0, none⟩ 1 1 (glcells [twoG 5 g1 (.mk k2 n2 s2 A2 p2 l2) (.mk k1 n1 s1 A1 p1 l1)]) (by rfl) (by rfl) (by exact news_lit y1 (glcells [twoG 5 g1 (.mk k2 n2 s2 A2 p2 l2) (.mk k1 n1 s1 A1 p1 l1)]) _) (by exact glcells_all _) (by omega) (by unfold maxLen; omega) (by omega) (by have := HWY.out.size; have := Ey1.out.size; simp; omega) (y1.heap.size + 1) (by simp) ?_; intro g cap w5 hown hg hat hglt; have HG5 := Lib.hid (show (y1.alloc (.cells (glcells [twoG 5 g1 (.mk k2 n2 s2 A2 p2 l2) (.mk k1 n1 s1 A1 p1 l1)]).toArray 24)).grownBy w5 (some w2.heap.size) from hg); have HO5 := Lib.hid (show w5.ownsRow w.heap.size 24 3 (.slice (some ⟨g, 0, none⟩) (1 + 1) cap) (1 + 1) (glcells (⟨5, s, some ⟨b, o, none⟩, c, [.mk k1 n1 s1 A1 p1 l1, .mk k2 n2 s2 A2 p2 l2]⟩ :: [twoG 5 g1 (.mk k2 n2 s2 A2 p2 l2) (.mk k1 n1 s1 A1 p1 l1)])) from hown); clear hown hg hat hglt))
    clear q0 q1 q2 q3 r0 r1 r2 r3
    have HB1 := Lib.hid (show Below y1.heap.size y1 y1 from Below.refl _ _)
    have H52 := Lib.hid (show Below w2.heap.size w2 w5 from (((B3.out.trans (HY.out.mono B3.out.size)).trans (Ey1.out.mono (Nat.le_trans B3.out.size HY.out.size))).alloc (by have := HXN.out; have := HY.out.size; have := Ey1.out.size; omega) _).grown HG5.out (by have := HXN.out; have := HY.out.size; have := Ey1.out.size; simp; omega) (fun k hk => by injection hk with hk; omega))
    have H5 := Lib.hid (H2.out.trans (H52.out.mono H2.out.size))
    obtain ⟨L, hL⟩ : ∃ L : List Gl, L = (⟨5, s, some ⟨b, o, none⟩, c, [.mk k1 n1 s1 A1 p1 l1, .mk k2 n2 s2 A2 p2 l2]⟩ :: [twoG 5 g1 (.mk k2 n2 s2 A2 p2 l2) (.mk k1 n1 s1 A1 p1 l1)]) := ⟨_, rfl⟩
    have HV := Lib.hid (show v = L.any (fun k => sameG k ⟨op', s', A', c', m⟩) by rw [hL]; exact HFL.out g1 0 0)
    have HLen := Lib.hid (show L.length = 2 by rw [hL]; rfl)
    have HG := Lib.hid (show GlLst w5 (some ⟨g, 0, none⟩) L cap from by
      rw [hL]
      refine gl_of_own (base := w.heap.size) HO5.out fun k hk => ?_
      rcases List.mem_cons.1 hk with rfl | hk
      · exact HAX.out w5 H5.out
      · rcases List.mem_cons.1 hk with rfl | hk
        · refine two_lies (by unfold Fits; omega) R1.out ?_ (HM2.out w5 H5.out) (HM1.out w5 H5.out)
          have hz := R1.out.1
          have e1 : w5.heap[g1]? = (y1.alloc (.cells (glcells [twoG 5 g1 (.mk k2 n2 s2 A2 p2 l2) (.mk k1 n1 s1 A1 p1 l1)]).toArray 24)).heap[g1]? := HG5.out.block g1 (by have := HB1.out.size; simp; omega) (fun e => by injection e with e; have := G1.out; have := HY.out.size; have := HXN.out; omega)
          rw [e1, Below.heap_alloc _ _ _ (by have := HB1.out.size; omega)]
        · cases hk
    )
    have XW := Lib.hid (fun W (h : Below w5.heap.size w5 W) => X2.out W (H52.out.trans (h.mono H52.out.size)))
    have HH := H5
    obtain ⟨⟨c0, c1, c2⟩, d0, d1, d2⟩ := XW.out _ (Below.refl _ _)
    clear hL HFL w0 HO5 HG5 X2 H52 HSY QG QH HM1 HM2 HPW HQW KX KY
    clear c0 c1 c2 d0 d1 d2
    obtain ⟨⟨c0, c1, c2⟩, d0, d1, d2⟩ := XW.out _ (Below.refl _ _)
    go_wp2_with fail
    go_loopw [8] (fun i wr => ∃ j : Nat, j ≤ 2 ∧ i = .int .i64 j ∧ Hid ((L.take j).any (fun k => sameG k ⟨op', s', A', c', m⟩) = false) ∧ Hid (Below w5.heap.size w5 wr)) (fun i _ => 2 - (intOf i).toNat)
    case atStart => exact ⟨0, Nat.zero_le _, rfl, Lib.hid rfl, Lib.hid (Below.refl _ _)⟩
    case round =>
      clear c0 c1 c2 d0 d1 d2
      obtain ⟨j, hj, rfl, HF, HB⟩ := hrel
      obtain ⟨⟨c0, c1, c2⟩, d0, d1, d2⟩ := XW.out _ HB.out
      by_cases hlt : j < 2
      · have hltL : j < L.length := by rw [HLen.out]; exact hlt
        obtain ⟨b5, o5, he5, hcs, hat⟩ := (HG.out.below HB.out).get hltL
        injection he5 with he5
        injection he5 with he5 ho5 _
        subst he5 ho5
        have HN := Lib.hid (any_next hltL (fun k => sameG k ⟨op', s', A', c', m⟩))
        have HS := Lib.hid (fun (h : sameG (L.getD j default) ⟨op', s', A', c', m⟩ = true) => any_stop hltL (p := fun k => sameG k ⟨op', s', A', c', m⟩) h)
        have Q := Lib.hid (fun d os => QS.out (L.getD j default) (Go.Sort.grow (redrawn wr d) os) (hat.below (below_regrown wr d os)) (HH.out.trans ((HB.out.trans ((below_regrown wr d os).mono HB.out.size)).mono HH.out.size)))
        generalize sameG (L.getD j default) ⟨op', s', A', c', m⟩ = q at *
        generalize L.getD j default = k at *
        have k0 := cell_regrown (hcs 0 _ rfl)
        have k1 := cell_regrown (hcs 1 _ rfl)
        have k2 := cell_regrown (hcs 2 _ rfl)
        simp only [Nat.zero_add, Nat.add_zero] at k0 k1 k2
        have k3 := cell_regrown d0
        have k4 := cell_regrown d1
        have k5 := cell_regrown d2
        clear hcs hat hltL c0 c1 c2 d0 d1 d2
        obtain ⟨ko, ks, kA, kc, ka⟩ := k
        simp only at k0 k1 k2
        go_wp2_with fail
        refine wp_region_quiet_below (by kernel_rfl) (by kernel_rfl) ?_
        repeat (go_big_quiet_step (first | (go_at_call 40; exact Calls.regrown_of (Q.out _ _)) | fail))
        refine wpQuiet_nil ?_
        intro w6 hw'
        have HB6 := Lib.hid (HB.out.trans ((regrown_below hw').mono HB.out.size))
        clear hw' k0 k1 k2 k3 k4 k5
        cases q
        · have HF2 := Lib.hid (show (L.take (j + 1)).any (fun k => sameG k ⟨op', s', A', c', m⟩) = false by rw [HN.out, HF.out]; rfl)
          go_wp2_with fail
          go_roundw
          case rel => exact ⟨j + 1, by omega, by go_num, HF2, HB6⟩
          case measure => simp [intOf]; omega
        · have HE := Lib.hid (HV.out.trans (HS.out rfl))
          go_wp2_with fail
          go_ret
          exact ⟨by rw [HE.out]; try rfl, HH.out.trans (HB6.out.mono HH.out.size)⟩
      · obtain rfl : j = 2 := by omega
        have HE := Lib.hid (show v = false by rw [HV.out]; have := HF.out; rwa [← HLen.out, List.take_length] at this)
        go_wp2_with fail
        go_ret
        exact ⟨by rw [HE.out]; try rfl, HH.out.trans (HB.out.mono HH.out.size)⟩
set_option maxHeartbeats 8000000 in
set_option maxRecDepth 100000 in
theorem fol_r_6 (s : ByteArray) (A : Option Addr) (c : Nat) (l : List Tm) (y : Gl) (w : World) (hx : (⟨6, s, A, c, l⟩ : Gl).At w) (hy : y.At w) (hz : sizeL l ≤ 1000000) (hzy : sizeL y.args ≤ 1000000) (h1 : isT 6 s l = true) (h2 : isT y.op y.name y.args = true) :
    Calls Tryz.prog 18 #[.agg #[.int .i64 6, .string s, .slice A l.length c], y.val] w fun e w' => e = .returned (.bool (folB 6 y.op s y.name l y.args)) ∧ Below w.heap.size w w' := by
  have hA : ∀ W, Below w.heap.size w W → (⟨6, s, A, c, l⟩ : Gl).At W := fun W h => hx.below h
  have Q1 := Lib.hid (fun W (h : Below w.heap.size w W) => ris_test_at ⟨6, s, A, c, l⟩ W (hA W h) hz h1)
  have Q2 := Lib.hid (fun W (h : Below w.heap.size w W) => ris_test_at y W (hy.below h) hzy h2)
  have QS := Lib.hid (fun (k : Gl) W (hk : k.At W) (h : Below w.heap.size w W) => ref_same_goal_at k y W hk (hy.below h) rfl)
  have HAX := Lib.hid hA
  obtain ⟨x1, x2, rfl⟩ := isT_two h1 (by omega)
  have HC := Lib.hid (fun W (h : Below w.heap.size w W) => lst_two (hx.2.2.below h))
  have HM1 := Lib.hid (fun W (h : Below w.heap.size w W) => (hx.2.2.below h).mem (t := x1) (by simp))
  have HM2 := Lib.hid (fun W (h : Below w.heap.size w W) => (hx.2.2.below h).mem (t := x2) (by simp))
  have HFL := Lib.hid (show ∀ g1 g2 g3 : Nat, folB 6 y.op s y.name [x1, x2] y.args = ([(⟨6, s, A, c, [x1, x2]⟩ : Gl), twoG 6 g1 x2 x1] : List Gl).any (fun k => sameG k y) from by
    intro g1 g2 g3
    unfold folB
    rw [h1, h2]
    rfl)
  generalize folB 6 y.op s y.name [x1, x2] y.args = v at *
  clear hA hx h1 h2 hz hzy hy
  obtain ⟨op', s', A', c', m⟩ := y
  show Calls Tryz.prog 18 #[.agg #[.int .i64 6, .string s, .slice A 2 c], .agg #[.int .i64 op', .string s', .slice A' m.length c']] w _
  go_enter Tryz.func18, Tryz.ntmps18
  go_wp2_with fail
  refine (Q1.out _ (below2 _ _ _)).mono ?_
  rintro e w1 ⟨rfl, hb1⟩
  have X1 := Lib.hid (fun W (h : Below w1.heap.size w1 W) => boxes_gl (hb1.trans (h.mono hb1.size)))
  have H1 := Lib.hid ((below2 w _ _).trans (hb1.mono (by simp; omega)))
  obtain ⟨⟨c0, c1, c2⟩, d0, d1, d2⟩ := X1.out _ (Below.refl _ _)
  clear hb1
  go_wp2_with fail
  refine (Q2.out _ H1.out).mono ?_
  rintro e w2 ⟨rfl, hb2⟩
  have X2 := Lib.hid (fun W (h : Below w2.heap.size w2 W) => X1.out W (hb2.trans (h.mono hb2.size)))
  have H2 := Lib.hid (H1.out.trans (hb2.mono H1.out.size))
  clear c0 c1 c2 d0 d1 d2 hb2 X1 H1
  obtain ⟨⟨c0, c1, c2⟩, d0, d1, d2⟩ := X2.out _ (Below.refl _ _)
  have OW := Lib.hid (World.ownsRow_lit (base := w.heap.size) (e := 24) (size := 3) w2 #[.int .i64 6, .string s, .slice A 2 c] 1 H2.out.size (by unfold maxLen; omega) rfl)
  have B3 := Lib.hid (below1 w2 (.cells #[.int .i64 6, .string s, .slice A 2 c] 24))
  have u0 : ∀ o, (w2.alloc o).cell? ⟨w.heap.size, 0, none⟩ = _ := fun o => (World.cell?_alloc_past _ _ _ (World.block_lt_of_cell? _ _ c0)).trans c0
  have u2 : ∀ o, (w2.alloc o).cell? ⟨w.heap.size, 2, none⟩ = _ := fun o => (World.cell?_alloc_past _ _ _ (World.block_lt_of_cell? _ _ c2)).trans c2
  obtain ⟨b, o, hA2, ⟨a0, a1, a2, a3⟩, ⟨b0, b1, b2, b3⟩, at1, at2⟩ := HC.out _ (H2.out.trans ((below1 w2 (.cells #[.int .i64 6, .string s, .slice A 2 c] 24)).mono H2.out.size))
  subst hA2
  go_upto_region 5 with (fail)
  obtain ⟨X, hX⟩ : ∃ X, w2.alloc (.cells #[.int .i64 6, .string s, .slice (some ⟨b, o, none⟩) 2 c] 24) = X := ⟨_, rfl⟩
  rw [hX] at OW B3
  have HX := Lib.hid (H2.out.trans (B3.out.mono H2.out.size))
  have HXN := Lib.hid (show w2.heap.size < X.heap.size by rw [← hX]; simp)
  have XX := Lib.hid (fun W (h : Below X.heap.size X W) => X2.out W (B3.out.trans (h.mono B3.out.size)))
  rw [hX] at a0 a1 a2 a3 b0 b1 b2 b3 at1 at2
  rw [hX]
  have v2 := u2 (.cells #[.int .i64 6, .string s, .slice (some ⟨b, o, none⟩) 2 c] 24)
  have v0 := u0 (.cells #[.int .i64 6, .string s, .slice (some ⟨b, o, none⟩) 2 c] 24)
  rw [hX] at v2 v0
  clear u0 u2 hX c0 c1 c2 d0 d1 d2
  have T1 := Lib.hid at1
  have T2 := Lib.hid at2
  have HXY := Lib.hid (BX.two at1 at2 40)
  have HYX := Lib.hid (BX.two at2 at1 40)
  have HS := Lib.hid (fun W (h : Below X.heap.size X W) => (⟨keepv h v2, keepv h a0, keepv h a1, keepv h a2, keepv h a3, keepv h b0, keepv h b1, keepv h b2, keepv h b3⟩ : (fun W => W.cell? ⟨w.heap.size, 2, none⟩ = some (.slice (some ⟨b, o, none⟩) 2 c) ∧ W.cell? ⟨b, o, none⟩ = some (.int .i64 x1.kind) ∧ W.cell? ⟨b, o + 1, none⟩ = some (.int .i64 x1.num) ∧ W.cell? ⟨b, o + 2, none⟩ = some (.string x1.name) ∧ W.cell? ⟨b, o + 3, none⟩ = some (.slice x1.at_ x1.args.length x1.cap) ∧ W.cell? ⟨b, o + 4, none⟩ = some (.int .i64 x2.kind) ∧ W.cell? ⟨b, o + 4 + 1, none⟩ = some (.int .i64 x2.num) ∧ W.cell? ⟨b, o + 4 + 2, none⟩ = some (.string x2.name) ∧ W.cell? ⟨b, o + 4 + 3, none⟩ = some (.slice x2.at_ x2.args.length x2.cap)) W))
  clear at1 at2
  obtain ⟨k1, n1, s1, A1, p1, l1⟩ := x1
  obtain ⟨k2, n2, s2, A2, p2, l2⟩ := x2
  simp only [Tm.kind, Tm.num, Tm.name, Tm.at_, Tm.args, Tm.cap] at a0 a1 a2 a3 b0 b1 b2 b3 HXY HYX HS
  go_cut [6, 7] from 22 to 29 (fun s6 s7 W => Hid (∃ P Q : Nat, s6 = .pointer (some ⟨P, 0, none⟩) ∧ s7 = .pointer (some ⟨Q, 0, none⟩) ∧ BX P (.mk k1 n1 s1 A1 p1 l1) W ∧ BX Q (.mk k2 n2 s2 A2 p2 l2) W ∧ Below X.heap.size X W ∧ X.heap.size ≤ P ∧ X.heap.size ≤ Q))
  case first =>
    go_region_held3 (fun W => W.cell? ⟨w.heap.size, 2, none⟩ = some (.slice (some ⟨b, o, none⟩) 2 c) ∧ W.cell? ⟨b, o, none⟩ = some (.int .i64 k1) ∧ W.cell? ⟨b, o + 1, none⟩ = some (.int .i64 n1) ∧ W.cell? ⟨b, o + 2, none⟩ = some (.string s1) ∧ W.cell? ⟨b, o + 3, none⟩ = some (.slice A1 l1.length p1) ∧ W.cell? ⟨b, o + 4, none⟩ = some (.int .i64 k2) ∧ W.cell? ⟨b, o + 4 + 1, none⟩ = some (.int .i64 n2) ∧ W.cell? ⟨b, o + 4 + 2, none⟩ = some (.string s2) ∧ W.cell? ⟨b, o + 4 + 3, none⟩ = some (.slice A2 l2.length p2)) (first | (with_reducible exact HS.out _ (Below.refl _ _).drew) | (with_reducible exact HS.out _ (below1 _ _).drew) | (with_reducible exact HS.out _ (below2 _ _ _).drew) | fail) (first | fail)
    all_goals go_wp2_with fail
    all_goals go_meet
    all_goals first
      | exact Lib.hid ⟨_, _, rfl, rfl, HXY.out.1, HXY.out.2, (below2 _ _ _).drew, Nat.le_refl _, Nat.le_succ _⟩
      | exact Lib.hid ⟨_, _, rfl, rfl, HYX.out.2, HYX.out.1, (below2 _ _ _).drew, Nat.le_succ _, Nat.le_refl _⟩
  case rest =>
    clear a0 a1 a2 a3 b0 b1 b2 b3 HS
    obtain ⟨P, Q, rfl, rfl, hP, hQ, hbY, hPn, hQn⟩ := hcut.out
    clear hcut
    rename World => Y
    have KX := Lib.hid hP
    have KY := Lib.hid hQ
    have HY := Lib.hid hbY
    have w0 := (hbY.cell (p := ⟨w.heap.size, 0, none⟩) (World.block_lt_of_cell? _ _ v0)).trans v0
    have OY := Lib.hid (own_below OW.out hbY)
    have HPW := Lib.hid (show P ≠ w2.heap.size by have := HXN.out; omega)
    have HQW := Lib.hid (show Q ≠ w2.heap.size by have := HXN.out; omega)
    have HWY := Lib.hid (HX.out.trans (HY.out.mono HX.out.size))
    have XY := Lib.hid (fun W (h : Below Y.heap.size Y W) => XX.out W (HY.out.trans (h.mono HY.out.size)))
    clear v0 v2 hPn hQn
    obtain ⟨i0, hi, hz0, hz1, hz2⟩ := info_parts gl_info
    have QG := Lib.hid (show ∀ op W, Calls Tryz.prog 52 #[.int .i64 op, .agg #[.int .i64 k1, .int .i64 n1, .string s1, .slice A1 l1.length p1], .agg #[.int .i64 k2, .int .i64 n2, .string s2, .slice A2 l2.length p2]] W (TwoR op (.mk k1 n1 s1 A1 p1 l1) (.mk k2 n2 s2 A2 p2 l2) W) from fun op W => goal_two_at op (.mk k1 n1 s1 A1 p1 l1) (.mk k2 n2 s2 A2 p2 l2) W)
    have QH := Lib.hid (show ∀ op W, Calls Tryz.prog 52 #[.int .i64 op, .agg #[.int .i64 k2, .int .i64 n2, .string s2, .slice A2 l2.length p2], .agg #[.int .i64 k1, .int .i64 n1, .string s1, .slice A1 l1.length p1]] W (TwoR op (.mk k2 n2 s2 A2 p2 l2) (.mk k1 n1 s1 A1 p1 l1) W) from fun op W => goal_two_at op (.mk k2 n2 s2 A2 p2 l2) (.mk k1 n1 s1 A1 p1 l1) W)
    have HSY := Lib.hid (fun W (h : Below Y.heap.size Y W) => (⟨(KX.out.ext h).c0, (KX.out.ext h).c1, (KX.out.ext h).c2, (KX.out.ext h).c3, (KY.out.ext h).c0, (KY.out.ext h).c1, (KY.out.ext h).c2, (KY.out.ext h).c3⟩ : (fun W => W.cell? ⟨P, 0, none⟩ = some (.int .i64 k1) ∧ W.cell? ⟨P, 1, none⟩ = some (.int .i64 n1) ∧ W.cell? ⟨P, 2, none⟩ = some (.string s1) ∧ W.cell? ⟨P, 3, none⟩ = some (.slice A1 l1.length p1) ∧ W.cell? ⟨Q, 0, none⟩ = some (.int .i64 k2) ∧ W.cell? ⟨Q, 1, none⟩ = some (.int .i64 n2) ∧ W.cell? ⟨Q, 2, none⟩ = some (.string s2) ∧ W.cell? ⟨Q, 3, none⟩ = some (.slice A2 l2.length p2)) W))
    obtain ⟨q0, q1, q2, q3, r0, r1, r2, r3⟩ := HSY.out Y (Below.refl _ _)
    go_wp2_with (first
      | (go_at_call 52; have hF := QH.out 6 Y; refine hF.mono ?_; rintro e y1 ⟨g1, rfl, hg1, hr1, hb⟩; have Ey1 := Lib.hid (show Below Y.heap.size Y y1 from hb); have R1 := Lib.hid hr1; have G1 := Lib.hid (show Y.heap.size ≤ g1 from hg1); clear hF hg1 hr1 hb)
      | (at_builtin; refine wpList_append_lies _ rfl _ _ 26 rfl w.heap.size 24 i0 _ 3 48 Tryz.underlying26 hi hz0 hz1 hz2 rfl (by decide) _ 1 (Gl.cells ⟨6, s, some ⟨b, o, none⟩, c, [.mk k1 n1 s1 A1 p1 l1, .mk k2 n2 s2 A2 p2 l2]⟩) (by rfl) ((own_below OY.out Ey1.out).alloc _) ⟨y1.heap.size, 0, none⟩ 1 1 (glcells [twoG 6 g1 (.mk k2 n2 s2 A2 p2 l2) (.mk k1 n1 s1 A1 p1 l1)]) (by rfl) (by rfl) (by exact news_lit y1 (glcells [twoG 6 g1 (.mk k2 n2 s2 A2 p2 l2) (.mk k1 n1 s1 A1 p1 l1)]) _) (by exact glcells_all _) (by omega) (by unfold maxLen; omega) (by omega) (by have := HWY.out.size; have := Ey1.out.size; simp; omega) (y1.heap.size + 1) (by simp) ?_; intro g cap w5 hown hg hat hglt; have HG5 := Lib.hid (show (y1.alloc (.cells (glcells [twoG 6 g1 (.mk k2 n2 s2 A2 p2 l2) (.mk k1 n1 s1 A1 p1 l1)]).toArray 24)).grownBy w5 (some w2.heap.size) from hg); have HO5 := Lib.hid (show w5.ownsRow w.heap.size 24 3 (.slice (some ⟨g, 0, none⟩) (1 + 1) cap) (1 + 1) (glcells (⟨6, s, some ⟨b, o, none⟩, c, [.mk k1 n1 s1 A1 p1 l1, .mk k2 n2 s2 A2 p2 l2]⟩ :: [twoG 6 g1 (.mk k2 n2 s2 A2 p2 l2) (.mk k1 n1 s1 A1 p1 l1)])) from hown); clear hown hg hat hglt))
    clear q0 q1 q2 q3 r0 r1 r2 r3
    have HB1 := Lib.hid (show Below y1.heap.size y1 y1 from Below.refl _ _)
    have H52 := Lib.hid (show Below w2.heap.size w2 w5 from (((B3.out.trans (HY.out.mono B3.out.size)).trans (Ey1.out.mono (Nat.le_trans B3.out.size HY.out.size))).alloc (by have := HXN.out; have := HY.out.size; have := Ey1.out.size; omega) _).grown HG5.out (by have := HXN.out; have := HY.out.size; have := Ey1.out.size; simp; omega) (fun k hk => by injection hk with hk; omega))
    have H5 := Lib.hid (H2.out.trans (H52.out.mono H2.out.size))
    obtain ⟨L, hL⟩ : ∃ L : List Gl, L = (⟨6, s, some ⟨b, o, none⟩, c, [.mk k1 n1 s1 A1 p1 l1, .mk k2 n2 s2 A2 p2 l2]⟩ :: [twoG 6 g1 (.mk k2 n2 s2 A2 p2 l2) (.mk k1 n1 s1 A1 p1 l1)]) := ⟨_, rfl⟩
    have HV := Lib.hid (show v = L.any (fun k => sameG k ⟨op', s', A', c', m⟩) by rw [hL]; exact HFL.out g1 0 0)
    have HLen := Lib.hid (show L.length = 2 by rw [hL]; rfl)
    have HG := Lib.hid (show GlLst w5 (some ⟨g, 0, none⟩) L cap from by
      rw [hL]
      refine gl_of_own (base := w.heap.size) HO5.out fun k hk => ?_
      rcases List.mem_cons.1 hk with rfl | hk
      · exact HAX.out w5 H5.out
      · rcases List.mem_cons.1 hk with rfl | hk
        · refine two_lies (by unfold Fits; omega) R1.out ?_ (HM2.out w5 H5.out) (HM1.out w5 H5.out)
          have hz := R1.out.1
          have e1 : w5.heap[g1]? = (y1.alloc (.cells (glcells [twoG 6 g1 (.mk k2 n2 s2 A2 p2 l2) (.mk k1 n1 s1 A1 p1 l1)]).toArray 24)).heap[g1]? := HG5.out.block g1 (by have := HB1.out.size; simp; omega) (fun e => by injection e with e; have := G1.out; have := HY.out.size; have := HXN.out; omega)
          rw [e1, Below.heap_alloc _ _ _ (by have := HB1.out.size; omega)]
        · cases hk
    )
    have XW := Lib.hid (fun W (h : Below w5.heap.size w5 W) => X2.out W (H52.out.trans (h.mono H52.out.size)))
    have HH := H5
    obtain ⟨⟨c0, c1, c2⟩, d0, d1, d2⟩ := XW.out _ (Below.refl _ _)
    clear hL HFL w0 HO5 HG5 X2 H52 HSY QG QH HM1 HM2 HPW HQW KX KY
    clear c0 c1 c2 d0 d1 d2
    obtain ⟨⟨c0, c1, c2⟩, d0, d1, d2⟩ := XW.out _ (Below.refl _ _)
    go_wp2_with fail
    go_loopw [8] (fun i wr => ∃ j : Nat, j ≤ 2 ∧ i = .int .i64 j ∧ Hid ((L.take j).any (fun k => sameG k ⟨op', s', A', c', m⟩) = false) ∧ Hid (Below w5.heap.size w5 wr)) (fun i _ => 2 - (intOf i).toNat)
    case atStart => exact ⟨0, Nat.zero_le _, rfl, Lib.hid rfl, Lib.hid (Below.refl _ _)⟩
    case round =>
      clear c0 c1 c2 d0 d1 d2
      obtain ⟨j, hj, rfl, HF, HB⟩ := hrel
      obtain ⟨⟨c0, c1, c2⟩, d0, d1, d2⟩ := XW.out _ HB.out
      by_cases hlt : j < 2
      · have hltL : j < L.length := by rw [HLen.out]; exact hlt
        obtain ⟨b5, o5, he5, hcs, hat⟩ := (HG.out.below HB.out).get hltL
        injection he5 with he5
        injection he5 with he5 ho5 _
        subst he5 ho5
        have HN := Lib.hid (any_next hltL (fun k => sameG k ⟨op', s', A', c', m⟩))
        have HS := Lib.hid (fun (h : sameG (L.getD j default) ⟨op', s', A', c', m⟩ = true) => any_stop hltL (p := fun k => sameG k ⟨op', s', A', c', m⟩) h)
        have Q := Lib.hid (fun d os => QS.out (L.getD j default) (Go.Sort.grow (redrawn wr d) os) (hat.below (below_regrown wr d os)) (HH.out.trans ((HB.out.trans ((below_regrown wr d os).mono HB.out.size)).mono HH.out.size)))
        generalize sameG (L.getD j default) ⟨op', s', A', c', m⟩ = q at *
        generalize L.getD j default = k at *
        have k0 := cell_regrown (hcs 0 _ rfl)
        have k1 := cell_regrown (hcs 1 _ rfl)
        have k2 := cell_regrown (hcs 2 _ rfl)
        simp only [Nat.zero_add, Nat.add_zero] at k0 k1 k2
        have k3 := cell_regrown d0
        have k4 := cell_regrown d1
        have k5 := cell_regrown d2
        clear hcs hat hltL c0 c1 c2 d0 d1 d2
        obtain ⟨ko, ks, kA, kc, ka⟩ := k
        simp only at k0 k1 k2
        go_wp2_with fail
        refine wp_region_quiet_below (by kernel_rfl) (by kernel_rfl) ?_
        repeat (go_big_quiet_step (first | (go_at_call 40; exact Calls.regrown_of (Q.out _ _)) | fail))
        refine wpQuiet_nil ?_
        intro w6 hw'
        have HB6 := Lib.hid (HB.out.trans ((regrown_below hw').mono HB.out.size))
        clear hw' k0 k1 k2 k3 k4 k5
        cases q
        · have HF2 := Lib.hid (show (L.take (j + 1)).any (fun k => sameG k ⟨op', s', A', c', m⟩) = false by rw [HN.out, HF.out]; rfl)
          go_wp2_with fail
          go_roundw
          case rel => exact ⟨j + 1, by omega, by go_num, HF2, HB6⟩
          case measure => simp [intOf]; omega
        · have HE := Lib.hid (HV.out.trans (HS.out rfl))
          go_wp2_with fail
          go_ret
          exact ⟨by rw [HE.out]; try rfl, HH.out.trans (HB6.out.mono HH.out.size)⟩
      · obtain rfl : j = 2 := by omega
        have HE := Lib.hid (show v = false by rw [HV.out]; have := HF.out; rwa [← HLen.out, List.take_length] at this)
        go_wp2_with fail
        go_ret
        exact ⟨by rw [HE.out]; try rfl, HH.out.trans (HB.out.mono HH.out.size)⟩
set_option maxHeartbeats 4000000 in
theorem follows_r_at (x y : Gl) (w : World) (hx : x.At w) (hy : y.At w) (hzx : sizeL x.args ≤ 1000000) (hzy : sizeL y.args ≤ 1000000) :
    Calls Tryz.prog 18 #[x.val, y.val] w fun e w' => e = .returned (.bool (folB x.op y.op x.name y.name x.args y.args)) ∧ Below w.heap.size w w' := by
  obtain ⟨t1, h1⟩ : ∃ t1, isT x.op x.name x.args = t1 := ⟨_, rfl⟩
  obtain ⟨t2, h2⟩ : ∃ t2, isT y.op y.name y.args = t2 := ⟨_, rfl⟩
  by_cases hb : t1 = true ∧ t2 = true
  · obtain ⟨rfl, rfl⟩ := hb
    obtain ⟨op, s, A, c, l⟩ := x
    have ho := isT_goal h1
    simp only at h1 hzx ho
    rcases fol_ops8 ⟨ho.1, ho.2.1⟩ with rfl | rfl | rfl | rfl | rfl | rfl | rfl | rfl
    · exact fol_r_5 s A c l y w hx hy hzx hzy h1 h2
    · exact fol_r_6 s A c l y w hx hy hzx hzy h1 h2
    · exact fol_r_7 s A c l y w hx hy hzx hzy h1 h2
    · exact fol_r_8 s A c l y w hx hy hzx hzy h1 h2
    · exact fol_r_9 s A c l y w hx hy hzx hzy h1 h2
    · exact fol_r_10 s A c l y w hx hy hzx hzy h1 h2
    · exact fol_r_11 s A c l y w hx hy hzx hzy h1 h2
    · exact fol_r_12 s A c l y w hx hy hzx hzy h1 h2
  · have HV := Lib.hid (show folB x.op y.op x.name y.name x.args y.args = false by
      unfold folB
      rw [h1, h2]
      cases t1 <;> cases t2 <;> simp at hb ⊢)
    have Q1 := Lib.hid (fun W (h : Below w.heap.size w W) => ris_test_at x W (hx.below h) hzx h1)
    have Q2 := Lib.hid (fun W (h : Below w.heap.size w W) => ris_test_at y W (hy.below h) hzy h2)
    generalize folB x.op y.op x.name y.name x.args y.args = v at *
    obtain ⟨op, s, A, c, l⟩ := x
    obtain ⟨op', s', A', c', m⟩ := y
    clear h1 h2 hx hy hzx hzy
    show Calls Tryz.prog 18 #[.agg #[.int .i64 op, .string s, .slice A l.length c], .agg #[.int .i64 op', .string s', .slice A' m.length c']] w _
    go_enter Tryz.func18, Tryz.ntmps18
    go_wp2_with fail
    refine (Q1.out _ (below2 _ _ _)).mono ?_
    rintro e w1 ⟨rfl, hb1⟩
    obtain ⟨⟨c0, c1, c2⟩, d0, d1, d2⟩ := boxes_gl hb1
    have H1 := Lib.hid ((below2 w _ _).trans (hb1.mono (by simp; omega)))
    clear hb1
    cases t1
    · clear hb
      go_wp2_with fail
      go_ret
      exact ⟨by rw [HV.out]; try rfl, H1.out⟩
    · cases t2
      · clear hb
        go_wp2_with fail
        refine (Q2.out _ H1.out).mono ?_
        rintro e w2 ⟨rfl, hb2⟩
        go_wp2_with fail
        go_ret
        exact ⟨by rw [HV.out]; try rfl, H1.out.trans (hb2.mono H1.out.size)⟩
      · exact absurd ⟨rfl, rfl⟩ hb
end Go.Proofs.YtgpglgehlnfggaaGreat
