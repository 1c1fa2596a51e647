/-
  The walk of BindsValues, over what is to be proved of the program.
-/
import Derived.Test.YtelkmnjoboekmaaGreatMb22
import Derived.Test.YtelkmnjoboekmaaGreatMb23
import Derived.Test.YtelkmnjoboekmaaGreatMb25
namespace Go.Proofs.YtelkmnjoboekmaaGreat.bindsValues
open Go.ChangeShapes Go.WideShapes Go.ChangeAt Go.RowKit Go.Sort
set_option linter.unusedVariables false

theorem rsolves10 : RSolves := fun la lb A B ca cb w hA hB hl hfa hfb hn => rsolve_at la lb A B ca cb w hA hB hl hfa hfb hn
theorem base_ext2 {w W : World} {o1 o2 : Obj} (h : Ext ((w.alloc o1).alloc o2) W) : Ext w W := ((Ext.al w o1).trans (Ext.al _ o2)).trans h
theorem small_nodes10 {t : Tm} (h : smallB t = true) : t.nodes ≤ 1000000 ∧ t.size ≤ 1000000 := by
  have h1 := small_le h
  have h2 := (size_nodes.1 t).1
  exact ⟨by omega, by omega⟩
theorem few_nodes10 {b : List Bd} (h : fewBd b = true) : b.length ≤ 10000 ∧ (∀ x ∈ b, x.tm.nodes ≤ 1000000) ∧ ∀ x ∈ b, x.tm.size ≤ 1000000 := by
  obtain ⟨h1, h2⟩ := fewBd_small h
  refine ⟨by omega, fun x hx => by have := h2 x hx; omega, fun x hx => ?_⟩
  have h3 := h2 x hx
  have h4 := (size_nodes.1 x.tm).1
  omega
theorem tell_klen {b : List Bd} {s t : Tm} {m : List Bd} {k : List Int} {e : Int} (h : TellOut b s t m k e) : k.length ≤ m.length := by
  unfold TellOut at h
  split at h
  · rw [h.2.1]; simp
  · rw [h.2]
    split
    · have := freshL_len b m m.length
      rwa [List.take_length] at this
    · simp
theorem is_klen {b : List Bd} {s t : Tm} {m : List Bd} {k : List Int} {e : Int} (h : IsOut b s t m k e) : k.length ≤ m.length := by
  unfold IsOut at h
  split at h
  · rw [h.2.1]; simp
  · split at h
    · rw [h.2.1]; simp
    · exact tell_klen h
set_option maxHeartbeats 16000000 in
set_option maxRecDepth 100000 in
theorem walk (H1 : PTell) (H2 : PTellIs) (H3 : PEqual) (A0 : Option Addr) (b : List Bd) (c0 : Nat) (s t : Tm) (w : World) (wb : BLst w A0 b c0) (ws : s.At w) (wt : t.At w) :
    Calls Tryz.prog 4 #[.slice A0 b.length c0, s.val, t.val] w fun e w' => e = .returned (.bool true) ∧ Below w.heap.size w w' := by
  have G0 := Lib.hid (Ext.refl ((w.alloc (.cells #[.int .i64 s.kind, .int .i64 s.num, .string s.name, .slice s.at_ s.args.length s.cap] 26)).alloc (.cells #[.int .i64 t.kind, .int .i64 t.num, .string t.name, .slice t.at_ t.args.length t.cap] 26)))
  obtain ⟨qb, hqb⟩ : ∃ r, fewBd b = r := ⟨_, rfl⟩
  obtain ⟨q0, hq0⟩ : ∃ r, smallB s = r := ⟨_, rfl⟩
  obtain ⟨q1, hq1⟩ : ∃ r, smallB t = r := ⟨_, rfl⟩
  have QF := Lib.hid (fun (W : World) (h : Ext ((w.alloc (.cells #[.int .i64 s.kind, .int .i64 s.num, .string s.name, .slice s.at_ s.args.length s.cap] 26)).alloc (.cells #[.int .i64 t.kind, .int .i64 t.num, .string t.name, .slice t.at_ t.args.length t.cap] 26)) W) => show Calls Tryz.prog 6 #[.slice A0 b.length c0] W (fun e w' => e = .returned (.bool qb) ∧ Ext W w') from few_bd_at b A0 c0 W (wb.below (base_ext2 h)) hqb)
  have Q0 := Lib.hid (fun (W : World) (h : Ext ((w.alloc (.cells #[.int .i64 s.kind, .int .i64 s.num, .string s.name, .slice s.at_ s.args.length s.cap] 26)).alloc (.cells #[.int .i64 t.kind, .int .i64 t.num, .string t.name, .slice t.at_ t.args.length t.cap] 26)) W) => show Calls Tryz.prog 7 #[.agg #[.int .i64 s.kind, .int .i64 s.num, .string s.name, .slice s.at_ s.args.length s.cap]] W (fun e w' => e = .returned (.bool q0) ∧ Ext W w') from small_at s W (ws.below (base_ext2 h)) hq0)
  have Q1 := Lib.hid (fun (W : World) (h : Ext ((w.alloc (.cells #[.int .i64 s.kind, .int .i64 s.num, .string s.name, .slice s.at_ s.args.length s.cap] 26)).alloc (.cells #[.int .i64 t.kind, .int .i64 t.num, .string t.name, .slice t.at_ t.args.length t.cap] 26)) W) => show Calls Tryz.prog 7 #[.agg #[.int .i64 t.kind, .int .i64 t.num, .string t.name, .slice t.at_ t.args.length t.cap]] W (fun e w' => e = .returned (.bool q1) ∧ Ext W w') from small_at t W (wt.below (base_ext2 h)) hq1)
  have AW := Lib.hid (awake_at H1 H2 H3)
  obtain ⟨⟨x0, x1, x2, x3⟩, y0, y1, y2, y3⟩ := boxes_two G0.out
  cases qb with
  | false =>
    clear Q0 Q1 hq0 hq1 hqb H1 H2 H3 wb ws wt
    go_enter Tryz.func4, Tryz.ntmps4
    go_wp2_with (first
      | (go_at_call 6; have hF := QF.out _ G0.out; (with_reducible refine hF.mono ?_); rintro e v1 ⟨rfl, h1⟩; have G1 := Lib.hid (G0.out.trans h1); clear x0 x1 x2 x3 y0 y1 y2 y3; obtain ⟨⟨x0, x1, x2, x3⟩, y0, y1, y2, y3⟩ := boxes_two G1.out; clear h1 hF)
      | (go_at_call 8; refine (AW.out _).mono ?_; rintro e v9 ⟨rfl, h1⟩; have X9 := Lib.hid (base_ext2 (G1.out.trans h1)); clear h1))
    go_ret
    exact ⟨rfl, X9.out⟩
  | true =>
  cases q0 with
  | false =>
    clear Q1 hq0 hq1 hqb H1 H2 H3 wb ws wt
    go_enter Tryz.func4, Tryz.ntmps4
    go_wp2_with (first
      | (go_at_call 6; have hF := QF.out _ G0.out; (with_reducible refine hF.mono ?_); rintro e v1 ⟨rfl, h1⟩; have G1 := Lib.hid (G0.out.trans h1); clear x0 x1 x2 x3 y0 y1 y2 y3; obtain ⟨⟨x0, x1, x2, x3⟩, y0, y1, y2, y3⟩ := boxes_two G1.out; clear h1 hF)
      | (go_at_call 7; have hF := Q0.out _ G1.out; (with_reducible refine hF.mono ?_); rintro e v2 ⟨rfl, h1⟩; have G2 := Lib.hid (G1.out.trans h1); clear x0 x1 x2 x3 y0 y1 y2 y3; obtain ⟨⟨x0, x1, x2, x3⟩, y0, y1, y2, y3⟩ := boxes_two G2.out; clear h1 hF)
      | (go_at_call 8; refine (AW.out _).mono ?_; rintro e v9 ⟨rfl, h1⟩; have X9 := Lib.hid (base_ext2 (G2.out.trans h1)); clear h1))
    go_ret
    exact ⟨rfl, X9.out⟩
  | true =>
  cases q1 with
  | false =>
    clear hq0 hq1 hqb H1 H2 H3 wb ws wt
    go_enter Tryz.func4, Tryz.ntmps4
    go_wp2_with (first
      | (go_at_call 6; have hF := QF.out _ G0.out; (with_reducible refine hF.mono ?_); rintro e v1 ⟨rfl, h1⟩; have G1 := Lib.hid (G0.out.trans h1); clear x0 x1 x2 x3 y0 y1 y2 y3; obtain ⟨⟨x0, x1, x2, x3⟩, y0, y1, y2, y3⟩ := boxes_two G1.out; clear h1 hF)
      | (go_at_call 7; have hF := Q0.out _ G1.out; (with_reducible refine hF.mono ?_); rintro e v2 ⟨rfl, h1⟩; have G2 := Lib.hid (G1.out.trans h1); clear x0 x1 x2 x3 y0 y1 y2 y3; obtain ⟨⟨x0, x1, x2, x3⟩, y0, y1, y2, y3⟩ := boxes_two G2.out; clear h1 hF)
      | (go_at_call 7; have hF := Q1.out _ G2.out; (with_reducible refine hF.mono ?_); rintro e v3 ⟨rfl, h1⟩; have G3 := Lib.hid (G2.out.trans h1); clear x0 x1 x2 x3 y0 y1 y2 y3; obtain ⟨⟨x0, x1, x2, x3⟩, y0, y1, y2, y3⟩ := boxes_two G3.out; clear h1 hF)
      | (go_at_call 8; refine (AW.out _).mono ?_; rintro e v9 ⟨rfl, h1⟩; have X9 := Lib.hid (base_ext2 (G3.out.trans h1)); clear h1))
    go_ret
    exact ⟨rfl, X9.out⟩
  | true =>
  obtain ⟨n1, n2, n3⟩ := few_nodes10 hqb
  obtain ⟨m1, z1⟩ := small_nodes10 hq0
  obtain ⟨m2, z2⟩ := small_nodes10 hq1
  clear hq0 hq1 hqb
  have U0 := Lib.hid (fun (W : World) (h : Ext ((w.alloc (.cells #[.int .i64 s.kind, .int .i64 s.num, .string s.name, .slice s.at_ s.args.length s.cap] 26)).alloc (.cells #[.int .i64 t.kind, .int .i64 t.num, .string t.name, .slice t.at_ t.args.length t.cap] 26)) W) => show Calls Tryz.prog 15 #[.slice A0 b.length c0, .agg #[.int .i64 s.kind, .int .i64 s.num, .string s.name, .slice s.at_ s.args.length s.cap], .agg #[.int .i64 t.kind, .int .i64 t.num, .string t.name, .slice t.at_ t.args.length t.cap]] W (IsR b s t W) from H2 b A0 c0 s t W (wb.below (base_ext2 h)) (ws.below (base_ext2 h)) (wt.below (base_ext2 h)) n2 m1 m2 n1)
  have U1 := Lib.hid (fun (W : World) (h : Ext ((w.alloc (.cells #[.int .i64 s.kind, .int .i64 s.num, .string s.name, .slice s.at_ s.args.length s.cap] 26)).alloc (.cells #[.int .i64 t.kind, .int .i64 t.num, .string t.name, .slice t.at_ t.args.length t.cap] 26)) W) => show Calls Tryz.prog 16 #[.slice A0 b.length c0, .agg #[.int .i64 s.kind, .int .i64 s.num, .string s.name, .slice s.at_ s.args.length s.cap], .agg #[.int .i64 t.kind, .int .i64 t.num, .string t.name, .slice t.at_ t.args.length t.cap]] W (IsR b s t W) from rtellis_at rsolves10 b A0 c0 s t W (wb.below (base_ext2 h)) (ws.below (base_ext2 h)) (wt.below (base_ext2 h)) n3 z1 z2 m2 n1)
  clear H1 H2 H3 wb ws wt n1 n2 n3 m1 m2 z1 z2
  go_enter Tryz.func4, Tryz.ntmps4
  go_upto_region 5 with (first
      | (go_at_call 6; have hF := QF.out _ G0.out; (with_reducible refine hF.mono ?_); rintro e v1 ⟨rfl, h1⟩; have G1 := Lib.hid (G0.out.trans h1); clear x0 x1 x2 x3 y0 y1 y2 y3; obtain ⟨⟨x0, x1, x2, x3⟩, y0, y1, y2, y3⟩ := boxes_two G1.out; clear h1 hF)
      | (go_at_call 7; have hF := Q0.out _ G1.out; (with_reducible refine hF.mono ?_); rintro e v2 ⟨rfl, h1⟩; have G2 := Lib.hid (G1.out.trans h1); clear x0 x1 x2 x3 y0 y1 y2 y3; obtain ⟨⟨x0, x1, x2, x3⟩, y0, y1, y2, y3⟩ := boxes_two G2.out; clear h1 hF)
      | (go_at_call 7; have hF := Q1.out _ G2.out; (with_reducible refine hF.mono ?_); rintro e v3 ⟨rfl, h1⟩; have G3 := Lib.hid (G2.out.trans h1); clear x0 x1 x2 x3 y0 y1 y2 y3; obtain ⟨⟨x0, x1, x2, x3⟩, y0, y1, y2, y3⟩ := boxes_two G3.out; clear h1 hF)
      | (go_at_call 15; have hF := U0.out _ G3.out; (with_reducible refine hF.mono ?_); rintro e v4 ⟨A5, c5, l5, D5, p5, k5, er5, rfl, o5, b5, i5, h1⟩; have G4 := Lib.hid (G3.out.trans h1); clear x0 x1 x2 x3 y0 y1 y2 y3; obtain ⟨⟨x0, x1, x2, x3⟩, y0, y1, y2, y3⟩ := boxes_two G4.out; have O5 := Lib.hid o5; have B5 := Lib.hid (And.intro b5 i5); clear h1 hF o5 b5 i5)
      | (go_at_call 16; have hF := U1.out _ G4.out; (with_reducible refine hF.mono ?_); rintro e v5 ⟨A6, c6, l6, D6, p6, k6, er6, rfl, o6, b6, i6, h1⟩; have G5 := Lib.hid (G4.out.trans h1); clear x0 x1 x2 x3 y0 y1 y2 y3; obtain ⟨⟨x0, x1, x2, x3⟩, y0, y1, y2, y3⟩ := boxes_two G5.out; have O6 := Lib.hid (O5.out.unique o6); have B6 := Lib.hid (And.intro (B5.out.1.below h1) b6); have I6 := Lib.hid (And.intro (B5.out.2.below h1) i6); clear h1 hF o6 b6 i6))
  obtain ⟨e1, e2, e3⟩ := O6.out
  subst e2 e3
  have HE1 := Lib.hid e1
  have HKL := Lib.hid (show k5.length ≤ 9223372036854775807 by
    have h1 := is_klen O5.out
    rw [stripB_len] at h1
    have h2 := B6.out.1.len
    omega)
  clear e1 O6 O5
  have HS := Lib.hid (show Calls Tryz.prog 11 #[.slice A5 l5.length c5, .slice A6 l6.length c6] v5 (fun e w' => e = .returned (.bool true) ∧ Ext v5 w') from (ref_same_s_at l5 l6 A5 A6 c5 c6 v5 B6.out.1 B6.out.2).mono fun _ _ h => ⟨by rw [h.1, sameB_strip HE1.out], h.2⟩)
  have HI := Lib.hid (fun (W : World) (h : Ext v5 W) => show Calls Tryz.prog 12 #[.slice D5 k5.length p5, .slice D6 k5.length p6] W (fun e w' => e = .returned (.bool true) ∧ Ext W w') from ints_law_at D5 D6 k5 k5 p5 p6 W (I6.out.1.below h) (I6.out.2.below h) HKL.out HKL.out (by simp))
  clear QF Q0 Q1 U0 U1
  go_wp2_with (first
    | (go_at_call 11; have hF := HS.out; (with_reducible refine hF.mono ?_); rintro e v10 ⟨rfl, h1⟩; have F10 := Lib.hid (show Ext v5 v10 from h1); have G10 := Lib.hid (G5.out.trans F10.out); clear h1 hF)
    | (go_at_call 12; have hF := HI.out v10 F10.out; (with_reducible refine hF.mono ?_); rintro e v11 ⟨rfl, h1⟩; have G11 := Lib.hid (G10.out.trans (show Ext v10 v11 from h1)); clear h1 hF)
    | (go_at_call 8; have hF := AW.out v11; (with_reducible refine hF.mono ?_); rintro e v14 ⟨rfl, h1⟩; have G14 := Lib.hid (G11.out.trans h1); clear h1 hF)
    | fail)
  all_goals
    go_ret
    exact ⟨by simp, base_ext2 G14.out⟩
end Go.Proofs.YtelkmnjoboekmaaGreat.bindsValues
