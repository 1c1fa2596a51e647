/-
  Contracts of Rename, Number, Top and Variants of the reference.
-/
import Derived.Test.YtpnjjahimhhjkaaVrShift
import Derived.Test.YtpnjjahimhhjkaaVaNumP
import Derived.Test.YtpnjjahimhhjkaaTmVarAll
namespace Go.Proofs.Ytpnjjahimhhjkaa
open Go.RowKit

theorem Held.grown {B : Nat} {w w' : World} {v0 v1 v2 v3 : Value} {row : Option Nat} (h : Held B w v0 v1 v2 v3) (hg : w.grownBy w' row) (hr : ∀ k, row = some k → B ≠ k) : Held B w' v0 v1 v2 v3 := by
  have hb : w'.heap[B]? = w.heap[B]? := hg.block B h.lt (fun e => hr B e.symm rfl)
  exact ⟨Nat.lt_of_lt_of_le h.lt hg.size, (World.cell?_of_block (a := ⟨B, 0, none⟩) hb).trans h.c0, (World.cell?_of_block (a := ⟨B, 1, none⟩) hb).trans h.c1, (World.cell?_of_block (a := ⟨B, 2, none⟩) hb).trans h.c2, (World.cell?_of_block (a := ⟨B, 3, none⟩) hb).trans h.c3, fun j => (World.frozen?_of_block (a := ⟨B, j, none⟩) hb).trans (h.free j)⟩

set_option maxHeartbeats 4000000 in
set_option maxRecDepth 100000 in
theorem ref_rename_at (w0 : World) (vs : List Int) (V : Option Addr) (cv : Nat) (hV : Ints w0 V vs) (hlv : vs.length ≤ 1000000) (t : Tm) : t.At w0 → t.nodes ≤ 1000000 → ∀ w : World, Below w0.heap.size w0 w →
    Calls Try.prog 53 #[t.val, .slice V vs.length cv] w (RMade w0 (t.rr (place vs)) w) := by
  induction t using Tm.induct with
  | h k n s A c a ih =>
    intro hat hnodes w hw
    show Calls Try.prog 53 #[.agg #[.int .i64 k, .int .i64 n, .string s, .slice A a.length c], .slice V vs.length cv] w _
    have HT := Lib.hid hat
    have HP := Lib.hid ((At_iff _ _).1 hat).1
    simp only [Tm.kind, Tm.num, Tm.name] at HP
    obtain ⟨HB0, HB1⟩ := two_boxes w (.int .i64 k) (.int .i64 n) (.string s) (.slice A a.length c) (.int .i64 0) (.int .i64 0) (.string ⟨#[]⟩) (.slice none 0 0) 24
    have H0 := Lib.hid HB0
    have H1 := Lib.hid HB1
    clear HB0 HB1
    by_cases k2 : k = 2
    · subst k2
      have hl : Lst w0 A a c := hat.lst
      have hna : nodesL a ≤ 1000000 := by simp only [Tm.nodes] at hnodes; omega
      have hln : a.length ≤ 1000000 := by have := length_le_nodes a; omega
      have HL := Lib.hid (fun W (h : Below w.heap.size w W) => (hl.below hw).below h)
      have HI := Lib.hid (fun x (hx : x ∈ a) W (h : Below w.heap.size w W) => ih x hx (hl.mem hx) (by have := nodes_mem hx; omega) W (hw.trans (h.mono hw.size)))
      have HA := Lib.hid (fun l => rrL_map l (place vs))
      obtain ⟨i0, hi, hz0, hz1, hz2⟩ := info_parts term_info
      rw [rr_fun]
      clear hat ih hl hna hnodes hw HT hV
      go_enter Try.func53, Try.ntmps53
      go_wp2_with fail
      go_loopw [5, 6] (fun z i wr => ∃ (j : Nat) (acc : List Tm) (x : Value), j ≤ a.length ∧ i = .int .i64 j ∧ z = x ∧ Hid (RowT (From w0) (w.heap.size + 2) wr x acc) ∧ Hid (stripL acc = stripL (rrL (a.take j) (place vs))) ∧ Hid (acc.length = j) ∧ Hid (Held w.heap.size wr (.int .i64 2) (.int .i64 n) (.string s) (.slice A a.length c)) ∧ Hid (Held (w.heap.size + 1) wr (.int .i64 0) (.int .i64 0) (.string ⟨#[]⟩) (.slice none 0 0)) ∧ Hid (Below w.heap.size w wr)) (fun _ i _ => a.length - (intOf i).toNat)
      case atStart => exact ⟨0, [], _, Nat.zero_le _, rfl, rfl, Lib.hid (RowT.nil _ _ _), Lib.hid rfl, Lib.hid rfl, H0, H1, Lib.hid (below2 _ _ _)⟩
      case round =>
        obtain ⟨j, acc, z, hj, rfl, hz, HK, HS, HAc, HX0, HX1, HB⟩ := hrel
        have hz' := hz.symm
        subst hz'
        clear hz H0 H1
        have kz := HX0.out.lt
        have k3 := HX0.out.c3
        by_cases hlt : j < a.length
        · obtain ⟨b0, o, rfl, ⟨c0, c1, c2, c3⟩, _⟩ := (HL.out _ HB.out).get hlt
          have HT := Lib.hid (take_tm hlt)
          have Q := Lib.hid (fun W (h : Below w.heap.size w W) => HI.out _ (getD_mem hlt) W h)
          have hal : acc.length ≤ 1000000 := by rw [HAc.out]; omega
          generalize a.getD j default = x at *
          obtain ⟨k', n', s', A', c', a'⟩ := x
          simp only [Tm.kind, Tm.num, Tm.name, Tm.at_, Tm.args, Tm.cap] at c0 c1 c2 c3
          go_wp2_with fail
          refine (Q.out _ HB.out).mono ?_
          rintro e w2 ⟨u, rfl, hu, hlie, hb2⟩
          have HU := Lib.hid (lie_apart HK.out.1 hlie (by have := HX1.out.lt; omega) (Nat.le_refl _))
          have HK2 := Lib.hid (HK.out.below hb2)
          have HS2 := Lib.hid (show stripL (acc ++ [u]) = stripL (rrL (a.take (j + 1)) (place vs)) by
            rw [HT.out, HA.out, List.map_append, stripL_append, stripL_append, HS.out, HA.out]
            simp only [stripL, List.map_cons, List.map_nil, hu])
          have hbw2 := HB.out.trans (hb2.mono HB.out.size)
          have HOwn := Lib.hid (own_lt HK2.out.1)
          have hlo := hbw2.size
          have HY0 := Lib.hid (HX0.out.below hb2)
          have HY1 := Lib.hid (HX1.out.below hb2)
          have hlo2 : w.heap.size + 2 ≤ w2.heap.size := by have := HY1.out.lt; omega
          clear hu hlie hb2 HB c0 c1 c2 c3 HK HS Q HX0 HX1 k3 kz
          obtain ⟨k2, n2, s2, A2, p2, a2⟩ := u
          go_wp2_with (at_builtin; refine wpList_append_lies _ rfl _ _ 22 rfl (w.heap.size + 2) 24 i0 _ 4 56 Try.underlying22 hi hz0 hz1 hz2 rfl (by decide) _ acc.length (tcells acc) rfl (HK2.out.1.alloc _) ⟨w2.heap.size, 0, none⟩ 1 1 (Tm.cells (.mk k2 n2 s2 A2 p2 a2)) rfl rfl (tnews1 w2 (.mk k2 n2 s2 A2 p2 a2) _) (cells_one _) (by decide) (by unfold maxLen; omega) (by omega) (by simp; omega) _ rfl ?_; intro g cap w5 hown hg hat hglt)
          have HR5 := Lib.hid (HK2.out.next (u := .mk k2 n2 s2 A2 p2 a2) HU.out (below1 w2 _) hown hg hat)
          have HB5 := Lib.hid (show Below w.heap.size w w5 from (hbw2.alloc hbw2.size _).grown hg (by simp; omega) (fun k hk => by have := (HOwn.out k hk).1; omega))
          have HZ0 := Lib.hid ((HY0.out.alloc _).grown hg (fun k hk => by have := (HOwn.out k hk).1; omega))
          have HZ1 := Lib.hid ((HY1.out.alloc _).grown hg (fun k hk => by have := (HOwn.out k hk).1; omega))
          clear hown hg hat hglt hbw2
          go_wp2_with fail
          go_roundw
          case rel => exact ⟨j + 1, acc ++ [.mk k2 n2 s2 A2 p2 a2], _, by omega, by go_num, rfl, HR5, HS2, Lib.hid (by rw [List.length_append, HAc.out]; rfl), HZ0, HZ1, HB5⟩
          case measure => simp [intOf]; omega
        · obtain rfl : j = a.length := by omega
          have hK := HK.out
          obtain ⟨A', cz, hz, hcz⟩ := hK.form
          subst hz
          have HF := Lib.hid hK.lies
          have HE := Lib.hid (show stripL acc = stripL (rrL a (place vs)) by rw [HS.out, List.take_length])
          obtain ⟨_, p0, p1, p2, _, f⟩ := HX0.out
          obtain ⟨hz, e0, e1, e2, e3, f'⟩ := HX1.out
          have f3 := f 3
          have f0' := f' 0
          have f1' := f' 1
          have f2' := f' 2
          have f3' := f' 3
          have hac := HAc.out
          rw [hac]
          clear hK HK hlt HS hcz f f' hac
          go_wp2_with fail
          refine bodyPost_ret (v := .agg #[.int .i64 2, .int .i64 n, .string s, .slice A' a.length cz]) (by simp [results, Try.results53, go_sem, e0, e1, e2, e3]) rfl ?_
          refine ⟨.mk 2 n s A' cz acc, by rw [← HAc.out]; rfl, ?_, rlie_row (lo := w.heap.size + 2) HP.out (fun W hBW hW => HF.out W hBW fun b' h1 h2 h3 => ?_) (by omega), set4c (HB.out.setCell (Nat.le_refl _) _) (Nat.le_succ _)⟩
          · simp only [Tm.strip, HE.out]
          · rw [hW b' h1 (by rw [size_set4]; simpa [World.setCell] using h2) h3, heap_set4 _ (by omega), Below.heap_setCell _ _ _ _ (by show b' ≠ w.heap.size; omega)]
    · have k2' : (k == 2) = false := by simpa using k2
      by_cases k1 : k = 1
      · subst k1
        have Q := Lib.hid (fun W (h : Below w.heap.size w W) => place_at V vs cv n W ((hV.below hw).below h) hlv)
        have HFG := Lib.hid (show Fits (place vs n) from by unfold place; have := List.idxOf_le_length (a := n) (l := vs); unfold Fits; omega)
        have HX := Lib.hid (fun W (h : From w0 W) => show (Tm.mk 1 (place vs n) s A c a).At W from (At_iff _ _).2 ⟨⟨HP.out.1, HFG.out, HP.out.2.2⟩, (HT.out.below h).lst⟩)
        rw [rr_var]
        generalize place vs n = m at *
        clear hat ih hnodes hw HT k2 k2' hV
        go_enter Try.func53, Try.ntmps53
        go_wp2_with fail
        refine (Q.out _ (below2 _ _ _)).mono ?_
        rintro e w1 ⟨rfl, hw1⟩
        have hb2 : Below ((w.alloc (.cells #[.int .i64 1, .int .i64 n, .string s, .slice A a.length c] 24)).alloc zeroBox).heap.size ((w.alloc (.cells #[.int .i64 1, .int .i64 n, .string s, .slice A a.length c] 24)).alloc zeroBox) w1 := by rw [← hw1]; exact Below.refl _ _
        have HKa := Lib.hid (H0.out.below hb2)
        have HM := Lib.hid (H1.out.below hb2)
        have HB := Lib.hid (((below2 w (.cells #[.int .i64 1, .int .i64 n, .string s, .slice A a.length c] 24) zeroBox).trans (hb2.mono (by simp; omega))).setCell (p := ⟨w.heap.size, 1, none⟩) (Nat.le_refl _) (.int .i64 m))
        obtain ⟨hz0, d0, d1, d2, d3, f⟩ := HKa.out
        obtain ⟨hz, e0, e1, e2, e3, f'⟩ := HM.out
        have f1 := f 1
        have f0' := f' 0
        have f1' := f' 1
        have f2' := f' 2
        have f3' := f' 3
        clear f f' hb2 H0 H1 hw1
        go_wp2_with fail
        refine bodyPost_ret (v := .agg #[.int .i64 1, .int .i64 m, .string s, .slice A a.length c]) (by simp [results, Try.results53, go_sem, e0, e1, e2, e3]) rfl ?_
        exact ⟨.mk 1 m s A c a, rfl, rfl, Lie.any HX.out, set4c HB.out (Nat.le_succ _)⟩
      · have k1' : (k == 1) = false := by simpa using k1
        rw [rr_else _ _ _ _ _ _ k1 k2]
        have HM := H1.out
        obtain ⟨hz, e0, e1, e2, e3, f'⟩ := HM
        have f0' := f' 0
        have f1' := f' 1
        have f2' := f' 2
        have f3' := f' 3
        have H0o := H0.out
        obtain ⟨_, p0, p1, p2, p3, _⟩ := H0o
        clear hat ih hnodes k1 k2 hw f' hV
        go_enter Try.func53, Try.ntmps53
        go_wp2_with fail
        refine bodyPost_ret (v := .agg #[.int .i64 k, .int .i64 n, .string s, .slice A a.length c]) (by simp [results, Try.results53, go_sem]) rfl ?_
        exact ⟨.mk k n s A c a, rfl, rfl, Lie.any fun W hW => HT.out.below hW, below2 _ _ _⟩

set_option maxHeartbeats 4000000 in
set_option maxRecDepth 100000 in
theorem ref_number_at (l : List Tm) (A : Option Addr) (c : Nat) (w : World) (hl : Lst w A l c) (hn : nodesL l ≤ 1000000) :
    Calls Try.prog 20 #[.slice A l.length c] w (NumR l.length (rrL l (place (varsL l))) (varsL l) w) := by
  have hln : l.length ≤ 1000000 := by have := length_le_nodes l; omega
  have hvl : (varsL l).length ≤ 1000000 := by have := varsL_len l; omega
  have Q0 := Lib.hid (show Calls Try.prog 34 #[.slice A l.length c] w (Grows w (varsL l)) from ref_vars_of_at l A c w hl (by have := size_nodes.2 l; omega))
  have HI := Lib.hid (fun (V : Option Addr) (cv : Nat) (w1 : World) (hV : Ints w1 V (varsL l)) (h1 : Below w.heap.size w w1) x (hx : x ∈ l) W (h : Below w1.heap.size w1 W) => ref_rename_at w1 (varsL l) V cv hV hvl x ((hl.mem hx).below h1) (by have := nodes_mem hx; omega) W h)
  have HL := Lib.hid (fun W (h : Below w.heap.size w W) => hl.below h)
  have HA := Lib.hid (fun m => rrL_map m (place (varsL l)))
  generalize varsL l = vs at *
  obtain ⟨i0, hi, hz0, hz1, hz2⟩ := info_parts term_info
  clear hl hn
  go_enter Try.func20, Try.ntmps20
  go_wp2_with fail
  refine Q0.out.mono ?_
  rintro e w1 ⟨v, rfl, hown, hb1⟩
  obtain ⟨V, cv, rfl, hI, _⟩ := hown.form
  have HV := Lib.hid hI
  have HB1 := Lib.hid hb1
  have Q := Lib.hid (HI.out V cv w1 hI hb1)
  clear hown hI hb1
  go_wp2_with fail
  go_loopw [5, 6] (fun z i wr => ∃ (j : Nat) (acc : List Tm) (x : Value), j ≤ l.length ∧ i = .int .i64 j ∧ z = x ∧ Hid (RowT (From w1) w1.heap.size wr x acc) ∧ Hid (stripL acc = stripL (rrL (l.take j) (place vs))) ∧ Hid (acc.length = j) ∧ Hid (Below w1.heap.size w1 wr)) (fun _ i _ => l.length - (intOf i).toNat)
  case atStart => exact ⟨0, [], _, Nat.zero_le _, rfl, rfl, Lib.hid (RowT.nil _ _ _), Lib.hid rfl, Lib.hid rfl, Lib.hid (Below.refl _ _)⟩
  case round =>
    obtain ⟨j, acc, z, hj, rfl, hz, HK, HS, HAc, HB⟩ := hrel
    have hz' := hz.symm
    subst hz'
    clear hz
    by_cases hlt : j < l.length
    · obtain ⟨b0, o, rfl, ⟨c0, c1, c2, c3⟩, _⟩ := (HL.out _ (HB1.out.trans (HB.out.mono HB1.out.size))).get hlt
      have HT := Lib.hid (take_tm hlt)
      have Q2 := Lib.hid (fun W (h : Below w1.heap.size w1 W) => Q.out _ (getD_mem hlt) W h)
      have hal : acc.length ≤ 1000000 := by rw [HAc.out]; omega
      generalize l.getD j default = x at *
      obtain ⟨k', n', s', A', c', a'⟩ := x
      simp only [Tm.kind, Tm.num, Tm.name, Tm.at_, Tm.args, Tm.cap] at c0 c1 c2 c3
      go_wp2_with fail
      refine (Q2.out _ HB.out).mono ?_
      rintro e w2 ⟨u, rfl, hu, hlie, hb2⟩
      have HU := Lib.hid (lie_apart HK.out.1 hlie HB.out.size (Nat.le_refl _))
      have HK2 := Lib.hid (HK.out.below hb2)
      have HS2 := Lib.hid (show stripL (acc ++ [u]) = stripL (rrL (l.take (j + 1)) (place vs)) by
        rw [HT.out, HA.out, List.map_append, stripL_append, stripL_append, HS.out, HA.out]
        simp only [stripL, List.map_cons, List.map_nil, hu])
      have hbw2 := HB.out.trans (hb2.mono HB.out.size)
      have HOwn := Lib.hid (own_lt HK2.out.1)
      have hlo := hbw2.size
      clear hu hlie hb2 HB c0 c1 c2 c3 HK HS Q2
      obtain ⟨k2, n2, s2, A2, p2, a2⟩ := u
      go_wp2_with (at_builtin; refine wpList_append_lies _ rfl _ _ 22 rfl w1.heap.size 24 i0 _ 4 56 Try.underlying22 hi hz0 hz1 hz2 rfl (by decide) _ acc.length (tcells acc) rfl (HK2.out.1.alloc _) ⟨w2.heap.size, 0, none⟩ 1 1 (Tm.cells (.mk k2 n2 s2 A2 p2 a2)) rfl rfl (tnews1 w2 (.mk k2 n2 s2 A2 p2 a2) _) (cells_one _) (by decide) (by unfold maxLen; omega) (by omega) (by simp; omega) _ rfl ?_; intro g cap w5 hown hg hat hglt)
      have HR5 := Lib.hid (HK2.out.next (u := .mk k2 n2 s2 A2 p2 a2) HU.out (below1 w2 _) hown hg hat)
      have HB5 := Lib.hid (show Below w1.heap.size w1 w5 from (hbw2.alloc hbw2.size _).grown hg (by simp; omega) (fun k hk => (HOwn.out k hk).1))
      clear hown hg hat hglt hbw2
      go_wp2_with fail
      go_roundw
      case rel => exact ⟨j + 1, acc ++ [.mk k2 n2 s2 A2 p2 a2], _, by omega, by go_num, rfl, HR5, HS2, Lib.hid (by rw [List.length_append, HAc.out]; rfl), HB5⟩
      case measure => simp [intOf]; omega
    · obtain rfl : j = l.length := by omega
      have hK := HK.out
      obtain ⟨A', cz, hz, hcz⟩ := hK.form
      subst hz
      have HE := Lib.hid (show NumR l.length (rrL l (place vs)) vs w (.returned (.tuple #[.slice A' l.length cz, .slice V vs.length cv])) wr from
        ⟨A', cz, V, cv, acc, rfl, HAc.out, by rw [HS.out, List.take_length], hK.lies wr HB.out (Agree.refl _ _ _), HV.out.below HB.out, HB1.out.trans (HB.out.mono HB1.out.size)⟩)
      have hac := HAc.out
      rw [hac]
      clear hK HK hlt HS hcz hac
      go_wp2_with fail
      exact bodyPost_ret (v := .tuple #[.slice A' l.length cz, .slice V vs.length cv]) (by simp [results, Try.results20, go_sem]) rfl HE.out

/-! ### Top -/
set_option maxHeartbeats 1000000 in
theorem ref_top_at (l : List Tm) (A : Option Addr) (c : Nat) (w : World) (hl : Lst w A l c) (hn : nodesL l ≤ 1000000) :
    Calls Try.prog 24 #[.slice A l.length c] w fun e w' => e = .returned (.int .i64 (topL (occL l))) ∧ Below w.heap.size w w' := by
  have Q := Lib.hid (show Calls Try.prog 34 #[.slice A l.length c] w (Grows w (varsL l)) from ref_vars_of_at l A c w hl (by have := size_nodes.2 l; omega))
  have HFT := Lib.hid (varsL_fits hl)
  have hvl : (varsL l).length ≤ 1000000 := by have := varsL_len l; omega
  rw [← topL_varsL]
  generalize varsL l = vs at *
  clear hl hn
  go_enter Try.func24, Try.ntmps24
  go_wp2_with fail
  refine Q.out.mono ?_
  rintro e w1 ⟨v, rfl, hown, hb1⟩
  obtain ⟨B, cb, rfl, hI, _⟩ := hown.form
  clear hown
  go_wp2_with fail
  go_loopw [3, 5] (fun z i wr => ∃ j : Nat, j ≤ vs.length ∧ i = .int .i64 j ∧ z = .int .i64 (topL (vs.take j)) ∧ Hid (Below w1.heap.size w1 wr)) (fun _ i _ => vs.length - (intOf i).toNat)
  case atStart => exact ⟨0, Nat.zero_le _, rfl, rfl, Lib.hid (Below.refl _ _)⟩
  case round =>
    obtain ⟨j, hj, rfl, rfl, HB⟩ := hrel
    by_cases hlt : j < vs.length
    · obtain ⟨b, o, rfl, hci⟩ := (hI.below HB.out).get hlt
      have hfx := HFT.out _ (getD_int hlt)
      have HT := Lib.hid (show topL (vs.take (j + 1)) = max (topL (vs.take j)) (shiftV 1 (vs.getD j 0)) by rw [take_int hlt]; simp [topL, List.foldl_append])
      generalize vs.getD j 0 = x at *
      generalize topL (vs.take j) = t at *
      have QS := Lib.hid (fun W => sum_at x 1 hfx (by unfold Fits; omega) W)
      generalize shiftV 1 x = y at *
      clear hfx
      go_wp2_with fail
      refine (QS.out _).mono ?_
      rintro e w2 ⟨rfl, hb2⟩
      have HB2 := Lib.hid (HB.out.trans (hb2.mono HB.out.size))
      clear hb2
      go_wp2_with fail
      all_goals
        go_roundw
        case rel => exact ⟨j + 1, by omega, by go_num, by rw [HT.out]; congr 1; try omega, HB2⟩
        case measure => simp [intOf]; omega
    · obtain rfl : j = vs.length := by omega
      rw [List.take_length]
      go_wp2_with fail
      go_ret
      exact ⟨rfl, hb1.trans (HB.out.mono hb1.size)⟩

/-! ### Variants -/
theorem ref_variants_at (a b : List Tm) (A B : Option Addr) (c d : Nat) (w : World) (ha : Lst w A a c) (hb : Lst w B b d) (hna : nodesL a ≤ 1000000) (hnb : nodesL b ≤ 1000000) :
    Calls Try.prog 33 #[.slice A a.length c, .slice B b.length d] w fun e w' => e = .returned (.bool (variantB a b)) ∧ Below w.heap.size w w' := by
  have QA := Lib.hid (ref_number_at a A c w ha hna)
  have QB := Lib.hid (fun W (h : Below w.heap.size w W) => ref_number_at b B d W (hb.below h) hnb)
  have HV := Lib.hid (fun (x y : List Tm) (hx : stripL x = stripL (rrL a (place (varsL a)))) (hy : stripL y = stripL (rrL b (place (varsL b)))) => show (cmpL x y == 0) = variantB a b from by
    have key : ∀ (a x : List Tm), stripL x = stripL (rrL a (place (varsL a))) → canonL x = numL a := fun a x hx => by
      rw [canonL_strip hx, rr_canon.2]
      rfl
    have e : (cmpL x y = 0) ↔ numL a = numL b := by rw [cmpL_canon, key a x hx, key b y hy]
    rw [Bool.eq_iff_iff, variantB_iff, ← e]
    simp)
  have HN := Lib.hid (fun (h : ¬ a.length = b.length) => show variantB a b = false from by unfold variantB; simp [h])
  have la := ha.len
  have lb := hb.len
  generalize rrL a (place (varsL a)) = ra at *
  generalize rrL b (place (varsL b)) = rb at *
  generalize varsL a = va at *
  generalize varsL b = vb at *
  clear ha hb hna hnb
  obtain ⟨r, hr⟩ : ∃ r, variantB a b = r := ⟨_, rfl⟩
  rw [hr] at HV HN
  rw [hr]
  by_cases hlen : a.length = b.length
  · have hle : ((a.length : Int) == (b.length : Int)) = true := by simp [hlen]
    have HLn := Lib.hid hlen
    clear HN hlen hr
    go_enter Try.func33, Try.ntmps33
    go_wp2_with fail
    refine QA.out.mono ?_
    rintro e w1 ⟨A1, c1, B1, d1, x, rfl, hx1, hx2, hx3, _, hb1⟩
    have HX := Lib.hid hx3
    have HX2 := Lib.hid hx2
    clear hx2 hx3
    go_wp2_with fail
    refine (QB.out _ hb1).mono ?_
    rintro e w2 ⟨A2, c2, B2, d2, y, rfl, hy1, hy2, hy3, _, hb2⟩
    have qe := same_terms_at x y A1 A2 c1 c2 w2 (HX.out.below hb2) hy3 (HV.out x y HX2.out hy2)
    rw [hx1, hy1] at qe
    have QE := Lib.hid qe
    clear hy2 hy3 qe hx1 hy1
    go_wp2_with fail
    refine QE.out.mono ?_
    rintro e w3 ⟨rfl, hb3⟩
    go_wp2_with fail
    go_ret
    exact ⟨rfl, (hb1.trans (hb2.mono hb1.size)).trans (hb3.mono (Nat.le_trans hb1.size hb2.size))⟩
  · have hle : ((a.length : Int) == (b.length : Int)) = false := by simp; omega
    have hf := HN.out hlen
    subst hf
    clear HN hlen hr HV
    go_enter Try.func33, Try.ntmps33
    go_wp2_with fail
    refine QA.out.mono ?_
    rintro e w1 ⟨A1, c1, B1, d1, x, rfl, hx1, hx2, hx3, _, hb1⟩
    clear hx1 hx2 hx3
    go_wp2_with fail
    refine (QB.out _ hb1).mono ?_
    rintro e w2 ⟨A2, c2, B2, d2, y, rfl, hy1, hy2, hy3, _, hb2⟩
    clear hy1 hy2 hy3
    go_wp2_with fail
    go_ret
    exact ⟨rfl, hb1.trans (hb2.mono hb1.size)⟩
end Go.Proofs.Ytpnjjahimhhjkaa
