/-
  The walk of BindsOrder, over what is to be proved of the program.
-/
import Derived.Test.YtelkmnjoboekmaaGreatMb22
import Derived.Test.YtelkmnjoboekmaaGreatMb23
import Derived.Test.YtelkmnjoboekmaaGreatMb25
namespace Go.Proofs.YtelkmnjoboekmaaGreat.bindsOrder
open Go.ChangeShapes Go.WideShapes Go.ChangeAt Go.RowKit Go.Sort
set_option linter.unusedVariables false

theorem rsolves10 : RSolves := fun la lb A B ca cb w hA hB hl hfa hfb hn => rsolve_at la lb A B ca cb w hA hB hl hfa hfb hn
theorem base_ext2 {w W : World} {o1 o2 : Obj} (h : Ext ((w.alloc o1).alloc o2) W) : Ext w W := ((Ext.al w o1).trans (Ext.al _ o2)).trans h
theorem small_nodes10 {t : Tm} (h : smallB t = true) : t.nodes ≤ 1000000 ∧ t.size ≤ 1000000 := by
  have h1 := small_le h
  have h2 := (size_nodes.1 t).1
  exact ⟨by omega, by omega⟩
theorem few_nodes10 {b : List Bd} (h : fewBd b = true) : b.length ≤ 10000 ∧ (∀ x ∈ b, x.tm.nodes ≤ 1000000) ∧ ∀ x ∈ b, x.tm.size ≤ 1000000 := by
  obtain ⟨h1, h2⟩ := fewBd_small h
  refine ⟨by omega, fun x hx => by have := h2 x hx; omega, fun x hx => ?_⟩
  have h3 := h2 x hx
  have h4 := (size_nodes.1 x.tm).1
  omega
theorem tell_klen {b : List Bd} {s t : Tm} {m : List Bd} {k : List Int} {e : Int} (h : TellOut b s t m k e) : k.length ≤ m.length := by
  unfold TellOut at h
  split at h
  · rw [h.2.1]; simp
  · rw [h.2]
    split
    · have := freshL_len b m m.length
      rwa [List.take_length] at this
    · simp
theorem box16 {w W : World} {s0 s1 t0 t1 : Tm} (h : Ext ((w.alloc (.cells #[.int .i64 s0.kind, .int .i64 s0.num, .string s0.name, .slice s0.at_ s0.args.length s0.cap, .int .i64 s1.kind, .int .i64 s1.num, .string s1.name, .slice s1.at_ s1.args.length s1.cap] 38)).alloc (.cells #[.int .i64 t0.kind, .int .i64 t0.num, .string t0.name, .slice t0.at_ t0.args.length t0.cap, .int .i64 t1.kind, .int .i64 t1.num, .string t1.name, .slice t1.at_ t1.args.length t1.cap] 38)) W) : (W.cell? ⟨w.heap.size, 0, none⟩ = some (.int .i64 s0.kind) ∧ W.cell? ⟨w.heap.size, 1, none⟩ = some (.int .i64 s0.num) ∧ W.cell? ⟨w.heap.size, 2, none⟩ = some (.string s0.name) ∧ W.cell? ⟨w.heap.size, 3, none⟩ = some (.slice s0.at_ s0.args.length s0.cap) ∧ W.cell? ⟨w.heap.size, 4, none⟩ = some (.int .i64 s1.kind) ∧ W.cell? ⟨w.heap.size, 5, none⟩ = some (.int .i64 s1.num) ∧ W.cell? ⟨w.heap.size, 6, none⟩ = some (.string s1.name) ∧ W.cell? ⟨w.heap.size, 7, none⟩ = some (.slice s1.at_ s1.args.length s1.cap)) ∧ W.cell? ⟨w.heap.size + 1, 0, none⟩ = some (.int .i64 t0.kind) ∧ W.cell? ⟨w.heap.size + 1, 1, none⟩ = some (.int .i64 t0.num) ∧ W.cell? ⟨w.heap.size + 1, 2, none⟩ = some (.string t0.name) ∧ W.cell? ⟨w.heap.size + 1, 3, none⟩ = some (.slice t0.at_ t0.args.length t0.cap) ∧ W.cell? ⟨w.heap.size + 1, 4, none⟩ = some (.int .i64 t1.kind) ∧ W.cell? ⟨w.heap.size + 1, 5, none⟩ = some (.int .i64 t1.num) ∧ W.cell? ⟨w.heap.size + 1, 6, none⟩ = some (.string t1.name) ∧ W.cell? ⟨w.heap.size + 1, 7, none⟩ = some (.slice t1.at_ t1.args.length t1.cap) := by
  have h1 : ∀ j v, (#[.int .i64 s0.kind, .int .i64 s0.num, .string s0.name, .slice s0.at_ s0.args.length s0.cap, .int .i64 s1.kind, .int .i64 s1.num, .string s1.name, .slice s1.at_ s1.args.length s1.cap] : Array Value)[j]? = some v → W.cell? ⟨w.heap.size, j, none⟩ = some v := fun j v e => (h.cell (p := ⟨w.heap.size, j, none⟩) (by simp; omega)).trans (((World.cell?_alloc_past _ _ _ (by simp)).trans (World.cell?_alloc_at _ _ _ _ rfl)).trans e)
  have h2 : ∀ j v, (#[.int .i64 t0.kind, .int .i64 t0.num, .string t0.name, .slice t0.at_ t0.args.length t0.cap, .int .i64 t1.kind, .int .i64 t1.num, .string t1.name, .slice t1.at_ t1.args.length t1.cap] : Array Value)[j]? = some v → W.cell? ⟨w.heap.size + 1, j, none⟩ = some v := fun j v e => (h.cell (p := ⟨w.heap.size + 1, j, none⟩) (by simp)).trans ((World.cell?_alloc_at _ _ _ _ (by simp)).trans e)
  exact ⟨⟨h1 0 _ rfl, h1 1 _ rfl, h1 2 _ rfl, h1 3 _ rfl, h1 4 _ rfl, h1 5 _ rfl, h1 6 _ rfl, h1 7 _ rfl⟩, h2 0 _ rfl, h2 1 _ rfl, h2 2 _ rfl, h2 3 _ rfl, h2 4 _ rfl, h2 5 _ rfl, h2 6 _ rfl, h2 7 _ rfl⟩
theorem told_few {b l : List Bd} {s t : Tm} {k : List Int} (hb : b.length ≤ 30) (h : TellOut b s t (stripB l) k 0) : l.length ≤ 10000 ∧ ∀ x ∈ l, x.tm.nodes ≤ 1000000 := by
  obtain ⟨_, _, _, S, hr, rfl⟩ := h.zero
  refine ⟨by have := tell_len h; omega, fun x hx => ?_⟩
  have h2 := List.all_eq_true.1 hr x.strip (List.mem_map.2 ⟨x, hx, rfl⟩)
  simp only [Bd.strip, right_strip] at h2
  have := right_nodes h2
  omega
set_option maxHeartbeats 16000000 in
set_option maxRecDepth 100000 in
theorem walk (H1 : PTell) (H2 : PTellIs) (H3 : PEqual) (A0 : Option Addr) (b : List Bd) (c0 : Nat) (s0 s1 t0 t1 : Tm) (w : World) (wb : BLst w A0 b c0) (w0 : s0.At w) (w1 : s1.At w) (w2 : t0.At w) (w3 : t1.At w) :
    Calls Tryz.prog 5 #[.slice A0 b.length c0, .agg #[.int .i64 s0.kind, .int .i64 s0.num, .string s0.name, .slice s0.at_ s0.args.length s0.cap, .int .i64 s1.kind, .int .i64 s1.num, .string s1.name, .slice s1.at_ s1.args.length s1.cap], .agg #[.int .i64 t0.kind, .int .i64 t0.num, .string t0.name, .slice t0.at_ t0.args.length t0.cap, .int .i64 t1.kind, .int .i64 t1.num, .string t1.name, .slice t1.at_ t1.args.length t1.cap]] w fun e w' => e = .returned (.bool true) ∧ Below w.heap.size w w' := by
  have G0 := Lib.hid (Ext.refl ((w.alloc (.cells #[.int .i64 s0.kind, .int .i64 s0.num, .string s0.name, .slice s0.at_ s0.args.length s0.cap, .int .i64 s1.kind, .int .i64 s1.num, .string s1.name, .slice s1.at_ s1.args.length s1.cap] 38)).alloc (.cells #[.int .i64 t0.kind, .int .i64 t0.num, .string t0.name, .slice t0.at_ t0.args.length t0.cap, .int .i64 t1.kind, .int .i64 t1.num, .string t1.name, .slice t1.at_ t1.args.length t1.cap] 38)))
  obtain ⟨qb, hqb⟩ : ∃ r, fewBd b = r := ⟨_, rfl⟩
  obtain ⟨q0, hq0⟩ : ∃ r, smallB s0 = r := ⟨_, rfl⟩
  obtain ⟨q1, hq1⟩ : ∃ r, smallB s1 = r := ⟨_, rfl⟩
  obtain ⟨q2, hq2⟩ : ∃ r, smallB t0 = r := ⟨_, rfl⟩
  obtain ⟨q3, hq3⟩ : ∃ r, smallB t1 = r := ⟨_, rfl⟩
  have QF := Lib.hid (fun (W : World) (h : Ext ((w.alloc (.cells #[.int .i64 s0.kind, .int .i64 s0.num, .string s0.name, .slice s0.at_ s0.args.length s0.cap, .int .i64 s1.kind, .int .i64 s1.num, .string s1.name, .slice s1.at_ s1.args.length s1.cap] 38)).alloc (.cells #[.int .i64 t0.kind, .int .i64 t0.num, .string t0.name, .slice t0.at_ t0.args.length t0.cap, .int .i64 t1.kind, .int .i64 t1.num, .string t1.name, .slice t1.at_ t1.args.length t1.cap] 38)) W) => show Calls Tryz.prog 6 #[.slice A0 b.length c0] W (fun e w' => e = .returned (.bool qb) ∧ Ext W w') from few_bd_at b A0 c0 W (wb.below (base_ext2 h)) hqb)
  have Q0 := Lib.hid (fun (W : World) (h : Ext ((w.alloc (.cells #[.int .i64 s0.kind, .int .i64 s0.num, .string s0.name, .slice s0.at_ s0.args.length s0.cap, .int .i64 s1.kind, .int .i64 s1.num, .string s1.name, .slice s1.at_ s1.args.length s1.cap] 38)).alloc (.cells #[.int .i64 t0.kind, .int .i64 t0.num, .string t0.name, .slice t0.at_ t0.args.length t0.cap, .int .i64 t1.kind, .int .i64 t1.num, .string t1.name, .slice t1.at_ t1.args.length t1.cap] 38)) W) => show Calls Tryz.prog 7 #[.agg #[.int .i64 s0.kind, .int .i64 s0.num, .string s0.name, .slice s0.at_ s0.args.length s0.cap]] W (fun e w' => e = .returned (.bool q0) ∧ Ext W w') from small_at s0 W (w0.below (base_ext2 h)) hq0)
  have Q1 := Lib.hid (fun (W : World) (h : Ext ((w.alloc (.cells #[.int .i64 s0.kind, .int .i64 s0.num, .string s0.name, .slice s0.at_ s0.args.length s0.cap, .int .i64 s1.kind, .int .i64 s1.num, .string s1.name, .slice s1.at_ s1.args.length s1.cap] 38)).alloc (.cells #[.int .i64 t0.kind, .int .i64 t0.num, .string t0.name, .slice t0.at_ t0.args.length t0.cap, .int .i64 t1.kind, .int .i64 t1.num, .string t1.name, .slice t1.at_ t1.args.length t1.cap] 38)) W) => show Calls Tryz.prog 7 #[.agg #[.int .i64 s1.kind, .int .i64 s1.num, .string s1.name, .slice s1.at_ s1.args.length s1.cap]] W (fun e w' => e = .returned (.bool q1) ∧ Ext W w') from small_at s1 W (w1.below (base_ext2 h)) hq1)
  have Q2 := Lib.hid (fun (W : World) (h : Ext ((w.alloc (.cells #[.int .i64 s0.kind, .int .i64 s0.num, .string s0.name, .slice s0.at_ s0.args.length s0.cap, .int .i64 s1.kind, .int .i64 s1.num, .string s1.name, .slice s1.at_ s1.args.length s1.cap] 38)).alloc (.cells #[.int .i64 t0.kind, .int .i64 t0.num, .string t0.name, .slice t0.at_ t0.args.length t0.cap, .int .i64 t1.kind, .int .i64 t1.num, .string t1.name, .slice t1.at_ t1.args.length t1.cap] 38)) W) => show Calls Tryz.prog 7 #[.agg #[.int .i64 t0.kind, .int .i64 t0.num, .string t0.name, .slice t0.at_ t0.args.length t0.cap]] W (fun e w' => e = .returned (.bool q2) ∧ Ext W w') from small_at t0 W (w2.below (base_ext2 h)) hq2)
  have Q3 := Lib.hid (fun (W : World) (h : Ext ((w.alloc (.cells #[.int .i64 s0.kind, .int .i64 s0.num, .string s0.name, .slice s0.at_ s0.args.length s0.cap, .int .i64 s1.kind, .int .i64 s1.num, .string s1.name, .slice s1.at_ s1.args.length s1.cap] 38)).alloc (.cells #[.int .i64 t0.kind, .int .i64 t0.num, .string t0.name, .slice t0.at_ t0.args.length t0.cap, .int .i64 t1.kind, .int .i64 t1.num, .string t1.name, .slice t1.at_ t1.args.length t1.cap] 38)) W) => show Calls Tryz.prog 7 #[.agg #[.int .i64 t1.kind, .int .i64 t1.num, .string t1.name, .slice t1.at_ t1.args.length t1.cap]] W (fun e w' => e = .returned (.bool q3) ∧ Ext W w') from small_at t1 W (w3.below (base_ext2 h)) hq3)
  have AW := Lib.hid (awake_at H1 H2 H3)
  obtain ⟨⟨x0, x1, x2, x3, x4, x5, x6, x7⟩, y0, y1, y2, y3, y4, y5, y6, y7⟩ := box16 G0.out
  cases qb with
  | false =>
    clear Q0 Q1 Q2 Q3 hq0 hq1 hq2 hq3 hqb H1 H2 H3 wb w0 w1 w2 w3
    go_enter Tryz.func5, Tryz.ntmps5
    go_wp2_with (first
      | (go_at_call 6; have hF := QF.out _ G0.out; (with_reducible refine hF.mono ?_); rintro e v1 ⟨rfl, h1⟩; have G1 := Lib.hid (G0.out.trans h1); clear x0 x1 x2 x3 x4 x5 x6 x7 y0 y1 y2 y3 y4 y5 y6 y7; obtain ⟨⟨x0, x1, x2, x3, x4, x5, x6, x7⟩, y0, y1, y2, y3, y4, y5, y6, y7⟩ := box16 G1.out; clear h1 hF)
      | (go_at_call 8; refine (AW.out _).mono ?_; rintro e v9 ⟨rfl, h1⟩; have X9 := Lib.hid (base_ext2 (G1.out.trans h1)); clear h1))
    go_ret
    exact ⟨rfl, X9.out⟩
  | true =>
  cases q0 with
  | false =>
    clear Q1 Q2 Q3 hq0 hq1 hq2 hq3 hqb H1 H2 H3 wb w0 w1 w2 w3
    go_enter Tryz.func5, Tryz.ntmps5
    go_wp2_with (first
      | (go_at_call 6; have hF := QF.out _ G0.out; (with_reducible refine hF.mono ?_); rintro e v1 ⟨rfl, h1⟩; have G1 := Lib.hid (G0.out.trans h1); clear x0 x1 x2 x3 x4 x5 x6 x7 y0 y1 y2 y3 y4 y5 y6 y7; obtain ⟨⟨x0, x1, x2, x3, x4, x5, x6, x7⟩, y0, y1, y2, y3, y4, y5, y6, y7⟩ := box16 G1.out; clear h1 hF)
      | (go_at_call 7; have hF := Q0.out _ G1.out; (with_reducible refine hF.mono ?_); rintro e v2 ⟨rfl, h1⟩; have G2 := Lib.hid (G1.out.trans h1); clear x0 x1 x2 x3 x4 x5 x6 x7 y0 y1 y2 y3 y4 y5 y6 y7; obtain ⟨⟨x0, x1, x2, x3, x4, x5, x6, x7⟩, y0, y1, y2, y3, y4, y5, y6, y7⟩ := box16 G2.out; clear h1 hF)
      | (go_at_call 8; refine (AW.out _).mono ?_; rintro e v9 ⟨rfl, h1⟩; have X9 := Lib.hid (base_ext2 (G2.out.trans h1)); clear h1))
    go_ret
    exact ⟨rfl, X9.out⟩
  | true =>
  cases q1 with
  | false =>
    clear Q2 Q3 hq0 hq1 hq2 hq3 hqb H1 H2 H3 wb w0 w1 w2 w3
    go_enter Tryz.func5, Tryz.ntmps5
    go_wp2_with (first
      | (go_at_call 6; have hF := QF.out _ G0.out; (with_reducible refine hF.mono ?_); rintro e v1 ⟨rfl, h1⟩; have G1 := Lib.hid (G0.out.trans h1); clear x0 x1 x2 x3 x4 x5 x6 x7 y0 y1 y2 y3 y4 y5 y6 y7; obtain ⟨⟨x0, x1, x2, x3, x4, x5, x6, x7⟩, y0, y1, y2, y3, y4, y5, y6, y7⟩ := box16 G1.out; clear h1 hF)
      | (go_at_call 7; have hF := Q0.out _ G1.out; (with_reducible refine hF.mono ?_); rintro e v2 ⟨rfl, h1⟩; have G2 := Lib.hid (G1.out.trans h1); clear x0 x1 x2 x3 x4 x5 x6 x7 y0 y1 y2 y3 y4 y5 y6 y7; obtain ⟨⟨x0, x1, x2, x3, x4, x5, x6, x7⟩, y0, y1, y2, y3, y4, y5, y6, y7⟩ := box16 G2.out; clear h1 hF)
      | (go_at_call 7; have hF := Q1.out _ G2.out; (with_reducible refine hF.mono ?_); rintro e v3 ⟨rfl, h1⟩; have G3 := Lib.hid (G2.out.trans h1); clear x0 x1 x2 x3 x4 x5 x6 x7 y0 y1 y2 y3 y4 y5 y6 y7; obtain ⟨⟨x0, x1, x2, x3, x4, x5, x6, x7⟩, y0, y1, y2, y3, y4, y5, y6, y7⟩ := box16 G3.out; clear h1 hF)
      | (go_at_call 8; refine (AW.out _).mono ?_; rintro e v9 ⟨rfl, h1⟩; have X9 := Lib.hid (base_ext2 (G3.out.trans h1)); clear h1))
    go_ret
    exact ⟨rfl, X9.out⟩
  | true =>
  cases q2 with
  | false =>
    clear Q3 hq0 hq1 hq2 hq3 hqb H1 H2 H3 wb w0 w1 w2 w3
    go_enter Tryz.func5, Tryz.ntmps5
    go_wp2_with (first
      | (go_at_call 6; have hF := QF.out _ G0.out; (with_reducible refine hF.mono ?_); rintro e v1 ⟨rfl, h1⟩; have G1 := Lib.hid (G0.out.trans h1); clear x0 x1 x2 x3 x4 x5 x6 x7 y0 y1 y2 y3 y4 y5 y6 y7; obtain ⟨⟨x0, x1, x2, x3, x4, x5, x6, x7⟩, y0, y1, y2, y3, y4, y5, y6, y7⟩ := box16 G1.out; clear h1 hF)
      | (go_at_call 7; have hF := Q0.out _ G1.out; (with_reducible refine hF.mono ?_); rintro e v2 ⟨rfl, h1⟩; have G2 := Lib.hid (G1.out.trans h1); clear x0 x1 x2 x3 x4 x5 x6 x7 y0 y1 y2 y3 y4 y5 y6 y7; obtain ⟨⟨x0, x1, x2, x3, x4, x5, x6, x7⟩, y0, y1, y2, y3, y4, y5, y6, y7⟩ := box16 G2.out; clear h1 hF)
      | (go_at_call 7; have hF := Q1.out _ G2.out; (with_reducible refine hF.mono ?_); rintro e v3 ⟨rfl, h1⟩; have G3 := Lib.hid (G2.out.trans h1); clear x0 x1 x2 x3 x4 x5 x6 x7 y0 y1 y2 y3 y4 y5 y6 y7; obtain ⟨⟨x0, x1, x2, x3, x4, x5, x6, x7⟩, y0, y1, y2, y3, y4, y5, y6, y7⟩ := box16 G3.out; clear h1 hF)
      | (go_at_call 7; have hF := Q2.out _ G3.out; (with_reducible refine hF.mono ?_); rintro e v4 ⟨rfl, h1⟩; have G4 := Lib.hid (G3.out.trans h1); clear x0 x1 x2 x3 x4 x5 x6 x7 y0 y1 y2 y3 y4 y5 y6 y7; obtain ⟨⟨x0, x1, x2, x3, x4, x5, x6, x7⟩, y0, y1, y2, y3, y4, y5, y6, y7⟩ := box16 G4.out; clear h1 hF)
      | (go_at_call 8; refine (AW.out _).mono ?_; rintro e v9 ⟨rfl, h1⟩; have X9 := Lib.hid (base_ext2 (G4.out.trans h1)); clear h1))
    go_ret
    exact ⟨rfl, X9.out⟩
  | true =>
  cases q3 with
  | false =>
    clear  hq0 hq1 hq2 hq3 hqb H1 H2 H3 wb w0 w1 w2 w3
    go_enter Tryz.func5, Tryz.ntmps5
    go_wp2_with (first
      | (go_at_call 6; have hF := QF.out _ G0.out; (with_reducible refine hF.mono ?_); rintro e v1 ⟨rfl, h1⟩; have G1 := Lib.hid (G0.out.trans h1); clear x0 x1 x2 x3 x4 x5 x6 x7 y0 y1 y2 y3 y4 y5 y6 y7; obtain ⟨⟨x0, x1, x2, x3, x4, x5, x6, x7⟩, y0, y1, y2, y3, y4, y5, y6, y7⟩ := box16 G1.out; clear h1 hF)
      | (go_at_call 7; have hF := Q0.out _ G1.out; (with_reducible refine hF.mono ?_); rintro e v2 ⟨rfl, h1⟩; have G2 := Lib.hid (G1.out.trans h1); clear x0 x1 x2 x3 x4 x5 x6 x7 y0 y1 y2 y3 y4 y5 y6 y7; obtain ⟨⟨x0, x1, x2, x3, x4, x5, x6, x7⟩, y0, y1, y2, y3, y4, y5, y6, y7⟩ := box16 G2.out; clear h1 hF)
      | (go_at_call 7; have hF := Q1.out _ G2.out; (with_reducible refine hF.mono ?_); rintro e v3 ⟨rfl, h1⟩; have G3 := Lib.hid (G2.out.trans h1); clear x0 x1 x2 x3 x4 x5 x6 x7 y0 y1 y2 y3 y4 y5 y6 y7; obtain ⟨⟨x0, x1, x2, x3, x4, x5, x6, x7⟩, y0, y1, y2, y3, y4, y5, y6, y7⟩ := box16 G3.out; clear h1 hF)
      | (go_at_call 7; have hF := Q2.out _ G3.out; (with_reducible refine hF.mono ?_); rintro e v4 ⟨rfl, h1⟩; have G4 := Lib.hid (G3.out.trans h1); clear x0 x1 x2 x3 x4 x5 x6 x7 y0 y1 y2 y3 y4 y5 y6 y7; obtain ⟨⟨x0, x1, x2, x3, x4, x5, x6, x7⟩, y0, y1, y2, y3, y4, y5, y6, y7⟩ := box16 G4.out; clear h1 hF)
      | (go_at_call 7; have hF := Q3.out _ G4.out; (with_reducible refine hF.mono ?_); rintro e v5 ⟨rfl, h1⟩; have G5 := Lib.hid (G4.out.trans h1); clear x0 x1 x2 x3 x4 x5 x6 x7 y0 y1 y2 y3 y4 y5 y6 y7; obtain ⟨⟨x0, x1, x2, x3, x4, x5, x6, x7⟩, y0, y1, y2, y3, y4, y5, y6, y7⟩ := box16 G5.out; clear h1 hF)
      | (go_at_call 8; refine (AW.out _).mono ?_; rintro e v9 ⟨rfl, h1⟩; have X9 := Lib.hid (base_ext2 (G5.out.trans h1)); clear h1))
    go_ret
    exact ⟨rfl, X9.out⟩
  | true =>
  obtain ⟨n1, n2, n3⟩ := few_nodes10 hqb
  have n30 := (fewBd_small hqb).1
  obtain ⟨m0, z0⟩ := small_nodes10 hq0
  obtain ⟨m1, z1⟩ := small_nodes10 hq1
  obtain ⟨m2, z2⟩ := small_nodes10 hq2
  obtain ⟨m3, z3⟩ := small_nodes10 hq3
  clear hq0 hq1 hq2 hq3 hqb
  have U0 := Lib.hid (fun (W : World) (h : Ext ((w.alloc (.cells #[.int .i64 s0.kind, .int .i64 s0.num, .string s0.name, .slice s0.at_ s0.args.length s0.cap, .int .i64 s1.kind, .int .i64 s1.num, .string s1.name, .slice s1.at_ s1.args.length s1.cap] 38)).alloc (.cells #[.int .i64 t0.kind, .int .i64 t0.num, .string t0.name, .slice t0.at_ t0.args.length t0.cap, .int .i64 t1.kind, .int .i64 t1.num, .string t1.name, .slice t1.at_ t1.args.length t1.cap] 38)) W) => show Calls Tryz.prog 9 #[.slice A0 b.length c0, .agg #[.int .i64 s0.kind, .int .i64 s0.num, .string s0.name, .slice s0.at_ s0.args.length s0.cap], .agg #[.int .i64 s1.kind, .int .i64 s1.num, .string s1.name, .slice s1.at_ s1.args.length s1.cap]] W (TellR b s0 s1 W) from H1 b A0 c0 s0 s1 W (wb.below (base_ext2 h)) (w0.below (base_ext2 h)) (w1.below (base_ext2 h)) n2 m0 m1 n1)
  have U1 := Lib.hid (fun (W : World) (h : Ext ((w.alloc (.cells #[.int .i64 s0.kind, .int .i64 s0.num, .string s0.name, .slice s0.at_ s0.args.length s0.cap, .int .i64 s1.kind, .int .i64 s1.num, .string s1.name, .slice s1.at_ s1.args.length s1.cap] 38)).alloc (.cells #[.int .i64 t0.kind, .int .i64 t0.num, .string t0.name, .slice t0.at_ t0.args.length t0.cap, .int .i64 t1.kind, .int .i64 t1.num, .string t1.name, .slice t1.at_ t1.args.length t1.cap] 38)) W) => show Calls Tryz.prog 9 #[.slice A0 b.length c0, .agg #[.int .i64 t0.kind, .int .i64 t0.num, .string t0.name, .slice t0.at_ t0.args.length t0.cap], .agg #[.int .i64 t1.kind, .int .i64 t1.num, .string t1.name, .slice t1.at_ t1.args.length t1.cap]] W (TellR b t0 t1 W) from H1 b A0 c0 t0 t1 W (wb.below (base_ext2 h)) (w2.below (base_ext2 h)) (w3.below (base_ext2 h)) n2 m2 m3 n1)
  have U2 := Lib.hid (fun (W : World) (h : Ext ((w.alloc (.cells #[.int .i64 s0.kind, .int .i64 s0.num, .string s0.name, .slice s0.at_ s0.args.length s0.cap, .int .i64 s1.kind, .int .i64 s1.num, .string s1.name, .slice s1.at_ s1.args.length s1.cap] 38)).alloc (.cells #[.int .i64 t0.kind, .int .i64 t0.num, .string t0.name, .slice t0.at_ t0.args.length t0.cap, .int .i64 t1.kind, .int .i64 t1.num, .string t1.name, .slice t1.at_ t1.args.length t1.cap] 38)) W) (A : Option Addr) (l : List Bd) (c : Nat) (hl : BLst W A l c) (hf : l.length ≤ 10000 ∧ ∀ x ∈ l, x.tm.nodes ≤ 1000000) => show Calls Tryz.prog 9 #[.slice A l.length c, .agg #[.int .i64 t0.kind, .int .i64 t0.num, .string t0.name, .slice t0.at_ t0.args.length t0.cap], .agg #[.int .i64 t1.kind, .int .i64 t1.num, .string t1.name, .slice t1.at_ t1.args.length t1.cap]] W (TellR l t0 t1 W) from H1 l A c t0 t1 W hl (w2.below (base_ext2 h)) (w3.below (base_ext2 h)) hf.2 m2 m3 hf.1)
  have U3 := Lib.hid (fun (W : World) (h : Ext ((w.alloc (.cells #[.int .i64 s0.kind, .int .i64 s0.num, .string s0.name, .slice s0.at_ s0.args.length s0.cap, .int .i64 s1.kind, .int .i64 s1.num, .string s1.name, .slice s1.at_ s1.args.length s1.cap] 38)).alloc (.cells #[.int .i64 t0.kind, .int .i64 t0.num, .string t0.name, .slice t0.at_ t0.args.length t0.cap, .int .i64 t1.kind, .int .i64 t1.num, .string t1.name, .slice t1.at_ t1.args.length t1.cap] 38)) W) (A : Option Addr) (l : List Bd) (c : Nat) (hl : BLst W A l c) (hf : l.length ≤ 10000 ∧ ∀ x ∈ l, x.tm.nodes ≤ 1000000) => show Calls Tryz.prog 9 #[.slice A l.length c, .agg #[.int .i64 s0.kind, .int .i64 s0.num, .string s0.name, .slice s0.at_ s0.args.length s0.cap], .agg #[.int .i64 s1.kind, .int .i64 s1.num, .string s1.name, .slice s1.at_ s1.args.length s1.cap]] W (TellR l s0 s1 W) from H1 l A c s0 s1 W hl (w0.below (base_ext2 h)) (w1.below (base_ext2 h)) hf.2 m0 m1 hf.1)
  have HF := Lib.hid (fun (l : List Bd) (s t : Tm) (k : List Int) (h : TellOut b s t (stripB l) k 0) => told_few n30 h)
  clear H1 H2 H3 wb w0 w1 w2 w3 n1 n2 n3 n30 m0 m1 m2 m3 z0 z1 z2 z3
  go_enter Tryz.func5, Tryz.ntmps5
  go_upto_region 5 with (first
      | (go_at_call 6; have hF := QF.out _ G0.out; (with_reducible refine hF.mono ?_); rintro e v1 ⟨rfl, h1⟩; have G1 := Lib.hid (G0.out.trans h1); clear x0 x1 x2 x3 x4 x5 x6 x7 y0 y1 y2 y3 y4 y5 y6 y7; obtain ⟨⟨x0, x1, x2, x3, x4, x5, x6, x7⟩, y0, y1, y2, y3, y4, y5, y6, y7⟩ := box16 G1.out; clear h1 hF)
      | (go_at_call 7; have hF := Q0.out _ G1.out; (with_reducible refine hF.mono ?_); rintro e v2 ⟨rfl, h1⟩; have G2 := Lib.hid (G1.out.trans h1); clear x0 x1 x2 x3 x4 x5 x6 x7 y0 y1 y2 y3 y4 y5 y6 y7; obtain ⟨⟨x0, x1, x2, x3, x4, x5, x6, x7⟩, y0, y1, y2, y3, y4, y5, y6, y7⟩ := box16 G2.out; clear h1 hF)
      | (go_at_call 7; have hF := Q1.out _ G2.out; (with_reducible refine hF.mono ?_); rintro e v3 ⟨rfl, h1⟩; have G3 := Lib.hid (G2.out.trans h1); clear x0 x1 x2 x3 x4 x5 x6 x7 y0 y1 y2 y3 y4 y5 y6 y7; obtain ⟨⟨x0, x1, x2, x3, x4, x5, x6, x7⟩, y0, y1, y2, y3, y4, y5, y6, y7⟩ := box16 G3.out; clear h1 hF)
      | (go_at_call 7; have hF := Q2.out _ G3.out; (with_reducible refine hF.mono ?_); rintro e v4 ⟨rfl, h1⟩; have G4 := Lib.hid (G3.out.trans h1); clear x0 x1 x2 x3 x4 x5 x6 x7 y0 y1 y2 y3 y4 y5 y6 y7; obtain ⟨⟨x0, x1, x2, x3, x4, x5, x6, x7⟩, y0, y1, y2, y3, y4, y5, y6, y7⟩ := box16 G4.out; clear h1 hF)
      | (go_at_call 7; have hF := Q3.out _ G4.out; (with_reducible refine hF.mono ?_); rintro e v5 ⟨rfl, h1⟩; have G5 := Lib.hid (G4.out.trans h1); clear x0 x1 x2 x3 x4 x5 x6 x7 y0 y1 y2 y3 y4 y5 y6 y7; obtain ⟨⟨x0, x1, x2, x3, x4, x5, x6, x7⟩, y0, y1, y2, y3, y4, y5, y6, y7⟩ := box16 G5.out; clear h1 hF)
      | (go_at_call 9; have hF := U0.out _ G5.out; (with_reducible refine hF.mono ?_); rintro e v6 ⟨A6, c6, l6, D6, p6, k6, er6, rfl, o6, b6, i6, h1⟩; have G6 := Lib.hid (G5.out.trans h1); clear x0 x1 x2 x3 x4 x5 x6 x7 y0 y1 y2 y3 y4 y5 y6 y7; obtain ⟨⟨x0, x1, x2, x3, x4, x5, x6, x7⟩, y0, y1, y2, y3, y4, y5, y6, y7⟩ := box16 G6.out; have O6 := Lib.hid o6; have B6 := Lib.hid b6; clear h1 hF o6 b6 i6)
      | (go_at_call 9; have hF := U1.out _ G6.out; (with_reducible refine hF.mono ?_); rintro e v7 ⟨A7, c7, l7, D7, p7, k7, er7, rfl, o7, b7, i7, h1⟩; have G7 := Lib.hid (G6.out.trans h1); clear x0 x1 x2 x3 x4 x5 x6 x7 y0 y1 y2 y3 y4 y5 y6 y7; obtain ⟨⟨x0, x1, x2, x3, x4, x5, x6, x7⟩, y0, y1, y2, y3, y4, y5, y6, y7⟩ := box16 G7.out; have O7 := Lib.hid o7; have B7 := Lib.hid b7; have C6 := Lib.hid (B6.out.below h1); clear h1 hF o7 b7 i7))
  clear QF Q0 Q1 Q2 Q3 U0 U1 B6
  by_cases h6 : er6 = 0
  · subst h6
    by_cases h7 : er7 = 0
    · subst h7
      have F6 := Lib.hid (HF.out _ _ _ _ O6.out)
      have F7 := Lib.hid (HF.out _ _ _ _ O7.out)
      go_upto_region 9 with (first
        | (go_at_call 9; have hF := U2.out _ G7.out A6 l6 c6 C6.out F6.out; (with_reducible refine hF.mono ?_); rintro e v8 ⟨A8, c8, l8, D8, p8, k8, er8, rfl, o8, b8, i8, h1⟩; have G8 := Lib.hid (G7.out.trans h1); clear x0 x1 x2 x3 x4 x5 x6 x7 y0 y1 y2 y3 y4 y5 y6 y7; obtain ⟨⟨x0, x1, x2, x3, x4, x5, x6, x7⟩, y0, y1, y2, y3, y4, y5, y6, y7⟩ := box16 G8.out; have O8 := Lib.hid o8; have B8 := Lib.hid b8; have C7 := Lib.hid (B7.out.below h1); clear h1 hF o8 b8 i8)
        | (go_at_call 9; have hF := U3.out _ G8.out A7 l7 c7 C7.out F7.out; (with_reducible refine hF.mono ?_); rintro e v9 ⟨A9, c9, l9, D9, p9, k9, er9, rfl, o9, b9, i9, h1⟩; have G9 := Lib.hid (G8.out.trans h1); clear x0 x1 x2 x3 x4 x5 x6 x7 y0 y1 y2 y3 y4 y5 y6 y7; obtain ⟨⟨x0, x1, x2, x3, x4, x5, x6, x7⟩, y0, y1, y2, y3, y4, y5, y6, y7⟩ := box16 G9.out; have O9 := Lib.hid o9; have B9 := Lib.hid b9; have C8 := Lib.hid (B8.out.below h1); clear h1 hF o9 b9 i9))
      obtain ⟨e1, e2⟩ := tell_order O6.out O7.out O8.out O9.out
      subst e2
      have HE1 := Lib.hid e1
      clear e1 O6 O7 O8 O9 F6 F7 U2 U3 HF
      have HS := Lib.hid (show Calls Tryz.prog 11 #[.slice A8 l8.length c8, .slice A9 l9.length c9] v9 (fun e w' => e = .returned (.bool true) ∧ Ext v9 w') from (ref_same_s_at l8 l9 A8 A9 c8 c9 v9 C8.out B9.out).mono fun _ _ h => ⟨by rw [h.1, sameB_strip HE1.out], h.2⟩)
      go_wp2_with (first
        | (go_at_call 11; have hF := HS.out; (with_reducible refine hF.mono ?_); rintro e v10 ⟨rfl, h1⟩; have G10 := Lib.hid (G9.out.trans h1); clear h1 hF)
        | (go_at_call 8; have hF := AW.out v10; (with_reducible refine hF.mono ?_); rintro e v11 ⟨rfl, h1⟩; have G11 := Lib.hid (G10.out.trans h1); clear h1 hF))
      go_ret
      exact ⟨by simp, base_ext2 G11.out⟩
    · have e7 : (er7 != 0) = true := by simpa using h7
      clear U2 U3 HF
      go_wp2_with (go_at_call 8; refine (AW.out _).mono ?_; rintro e v9 ⟨rfl, h1⟩; have X9 := Lib.hid (base_ext2 (G7.out.trans h1)); clear h1)
      go_ret
      exact ⟨rfl, X9.out⟩
  · have e6 : (er6 != 0) = true := by simpa using h6
    clear U2 U3 HF
    go_wp2_with (go_at_call 8; refine (AW.out _).mono ?_; rintro e v9 ⟨rfl, h1⟩; have X9 := Lib.hid (base_ext2 (G7.out.trans h1)); clear h1)
    go_ret
    exact ⟨rfl, X9.out⟩
end Go.Proofs.YtelkmnjoboekmaaGreat.bindsOrder
