/-
  The walk of MatchMakes.
-/
import Derived.Test.YtceekaodhmncgaaMl8x15
import Derived.Test.YtceekaodhmncgaaMl8x12
import Derived.Test.YtceekaodhmncgaaMl8x16
import Derived.Test.YtceekaodhmncgaaMl8x17
namespace Go.Proofs.Ytceekaodhmncgaa.matchMakes
open Go.ChangeShapes Go.WideShapes Go.ChangeAt Go.RowKit Go.Sort
set_option linter.unusedVariables false

set_option maxHeartbeats 16000000 in
set_option maxRecDepth 100000 in
theorem walk (a0 : Tm) (a1 : Tm) (w : World) (w0 : a0.At w) (w1 : a1.At w) :
    Calls Try.prog 6 #[a0.val, a1.val] w fun e w' => e = .returned (.bool true) ∧ Below w.heap.size w w' := by
  have base8 : ∀ (W : World), Ext ((w.alloc (.cells #[.int .i64 a0.kind, .int .i64 a0.num, .string a0.name, .slice a0.at_ a0.args.length a0.cap] 25)).alloc (.cells #[.int .i64 a1.kind, .int .i64 a1.num, .string a1.name, .slice a1.at_ a1.args.length a1.cap] 25)) W → Below w.heap.size w W := fun _ h => (Ext.al2 _ _ _).trans h
  have B8 := Lib.hid base8
  have G0 := Lib.hid (Ext.refl ((w.alloc (.cells #[.int .i64 a0.kind, .int .i64 a0.num, .string a0.name, .slice a0.at_ a0.args.length a0.cap] 25)).alloc (.cells #[.int .i64 a1.kind, .int .i64 a1.num, .string a1.name, .slice a1.at_ a1.args.length a1.cap] 25)))
  obtain ⟨q1, hq1⟩ : ∃ r, decide (weigh [a0, a1] 150 64 < 0) = r := ⟨_, rfl⟩
  have QG := Lib.hid (fun (W : World) (g : Nat) (hg : g = W.heap.size) (h : Ext ((w.alloc (.cells #[.int .i64 a0.kind, .int .i64 a0.num, .string a0.name, .slice a0.at_ a0.args.length a0.cap] 25)).alloc (.cells #[.int .i64 a1.kind, .int .i64 a1.num, .string a1.name, .slice a1.at_ a1.args.length a1.cap] 25)) W) => show Calls Try.prog 10 #[.slice (some ⟨g, 0, none⟩) 2 2, .int .i64 150] (W.alloc (.cells #[.int .i64 a0.kind, .int .i64 a0.num, .string a0.name, .slice a0.at_ a0.args.length a0.cap, .int .i64 a1.kind, .int .i64 a1.num, .string a1.name, .slice a1.at_ a1.args.length a1.cap] 25)) (fun e w' => e = .returned (.bool q1) ∧ Ext W w') from great_two a0 a1 150 W g hg (w0.below (base8 _ h)) (w1.below (base8 _ h)) (by omega) (by omega) hq1)
  have AW := Lib.hid example_at
  cases q1 with
  | true =>
    clear hq1 w0 w1 base8
    have z0 := ext_row1 G0.out 0 rfl
    have y0 := ext_row2 G0.out 0 rfl
    have z1 := ext_row1 G0.out 1 rfl
    have y1 := ext_row2 G0.out 1 rfl
    have z2 := ext_row1 G0.out 2 rfl
    have y2 := ext_row2 G0.out 2 rfl
    have z3 := ext_row1 G0.out 3 rfl
    have y3 := ext_row2 G0.out 3 rfl
    go_enter Try.func6, Try.ntmps6
    go_wp2_with (first
      | (go_at_call 10; have hF := QG.out _ (w.heap.size + 1 + 1) (by simp) G0.out; (with_reducible refine hF.mono ?_); rintro e v1 ⟨rfl, h1⟩; have G1 := Lib.hid (G0.out.trans h1); clear z0 z1 z2 z3 y0 y1 y2 y3; have z0 := ext_row1 G1.out 0 rfl; have y0 := ext_row2 G1.out 0 rfl; have z1 := ext_row1 G1.out 1 rfl; have y1 := ext_row2 G1.out 1 rfl; have z2 := ext_row1 G1.out 2 rfl; have y2 := ext_row2 G1.out 2 rfl; have z3 := ext_row1 G1.out 3 rfl; have y3 := ext_row2 G1.out 3 rfl; clear h1 hF)
      | (go_at_call 11; have hF := AW.out v1; (with_reducible refine hF.mono ?_); rintro e v2 ⟨rfl, h1⟩; have G2 := Lib.hid (G1.out.trans h1); clear h1 hF)
      | fail)
    go_ret
    exact ⟨rfl, B8.out _ G2.out⟩
  | false =>
    have hnn := not_great_two hq1
    obtain ⟨r, hr⟩ : ∃ r, matT [] a0 a1 = r := ⟨_, rfl⟩
    obtain ⟨g, hg⟩ : ∃ r, decide (a0.occ = []) = r := ⟨_, rfl⟩
    obtain ⟨s, hs⟩ : ∃ r, (cmpT a0 a1 == 0) = r := ⟨_, rfl⟩
    have hgs : g = true → r.isSome = s := fun h => by
      rw [← hr, ← hs, mat_ground.1 a0 (by rw [← hg] at h; simpa using h) [] a1]
      by_cases hc : cmpT a0 a1 = 0
      · rw [if_pos hc, hc]; rfl
      · rw [if_neg hc]; simp [hc]
    have hz0 : a0.size ≤ 1000000 := by have := (size_nodes.1 a0).1; omega
    have QT := Lib.hid (fun (W : World) (h : Ext ((w.alloc (.cells #[.int .i64 a0.kind, .int .i64 a0.num, .string a0.name, .slice a0.at_ a0.args.length a0.cap] 25)).alloc (.cells #[.int .i64 a1.kind, .int .i64 a1.num, .string a1.name, .slice a1.at_ a1.args.length a1.cap] 25)) W) => show Calls Try.prog 12 #[.slice none 0 0, .agg #[.int .i64 a0.kind, .int .i64 a0.num, .string a0.name, .slice a0.at_ a0.args.length a0.cap], .agg #[.int .i64 a1.kind, .int .i64 a1.num, .string a1.name, .slice a1.at_ a1.args.length a1.cap]] W (fun e w' => ∃ A q, ∃ l : List Bd, e = .returned (.tuple #[.slice A l.length q, .bool r.isSome]) ∧ stripB l = stripB (r.getD []) ∧ BLst w' A l q ∧ Ext W w') from by rw [← hr]; exact match_term_at [] none 0 a0 a1 W (BLst.nil W) (by simp) (fun x hx => by cases hx) (w0.below (base8 _ h)) (w1.below (base8 _ h)) (by omega) (by omega))
    have QD := Lib.hid (fun (W : World) (h : Ext ((w.alloc (.cells #[.int .i64 a0.kind, .int .i64 a0.num, .string a0.name, .slice a0.at_ a0.args.length a0.cap] 25)).alloc (.cells #[.int .i64 a1.kind, .int .i64 a1.num, .string a1.name, .slice a1.at_ a1.args.length a1.cap] 25)) W) => show Calls Try.prog 28 #[.agg #[.int .i64 a0.kind, .int .i64 a0.num, .string a0.name, .slice a0.at_ a0.args.length a0.cap]] W (fun e w' => e = .returned (.bool g) ∧ Ext W w') from ref_ground_at a0 W (w0.below (base8 _ h)) hz0 hg)
    have QS := Lib.hid (fun (W : World) (h : Ext ((w.alloc (.cells #[.int .i64 a0.kind, .int .i64 a0.num, .string a0.name, .slice a0.at_ a0.args.length a0.cap] 25)).alloc (.cells #[.int .i64 a1.kind, .int .i64 a1.num, .string a1.name, .slice a1.at_ a1.args.length a1.cap] 25)) W) => show Calls Try.prog 19 #[.agg #[.int .i64 a0.kind, .int .i64 a0.num, .string a0.name, .slice a0.at_ a0.args.length a0.cap], .agg #[.int .i64 a1.kind, .int .i64 a1.num, .string a1.name, .slice a1.at_ a1.args.length a1.cap]] W (fun e w' => e = .returned (.bool s) ∧ Ext W w') from ref_same_at a0 a1 W (w0.below (base8 _ h)) (w1.below (base8 _ h)) hs)
    cases r with
    | none =>
      simp only [Option.isSome_none, Option.getD_none] at QT hgs
      clear hr hg hs hz0 hnn hq1 w0 w1 base8
      cases g with
      | true =>
        obtain rfl : s = false := (hgs rfl).symm
        clear hgs
        have z0 := ext_row1 G0.out 0 rfl
        have y0 := ext_row2 G0.out 0 rfl
        have z1 := ext_row1 G0.out 1 rfl
        have y1 := ext_row2 G0.out 1 rfl
        have z2 := ext_row1 G0.out 2 rfl
        have y2 := ext_row2 G0.out 2 rfl
        have z3 := ext_row1 G0.out 3 rfl
        have y3 := ext_row2 G0.out 3 rfl
        go_enter Try.func6, Try.ntmps6
        go_wp2_with (first
          | (go_at_call 10; have hF := QG.out _ (w.heap.size + 1 + 1) (by simp) G0.out; (with_reducible refine hF.mono ?_); rintro e v1 ⟨rfl, h1⟩; have G1 := Lib.hid (G0.out.trans h1); clear z0 z1 z2 z3 y0 y1 y2 y3; have z0 := ext_row1 G1.out 0 rfl; have y0 := ext_row2 G1.out 0 rfl; have z1 := ext_row1 G1.out 1 rfl; have y1 := ext_row2 G1.out 1 rfl; have z2 := ext_row1 G1.out 2 rfl; have y2 := ext_row2 G1.out 2 rfl; have z3 := ext_row1 G1.out 3 rfl; have y3 := ext_row2 G1.out 3 rfl; clear h1 hF)
          | (go_at_call 12; have hF := QT.out _ G1.out; (with_reducible refine hF.mono ?_); rintro e v2 ⟨A5, q5, l5, rfl, s5, b5, h1⟩; have G2 := Lib.hid (G1.out.trans h1); clear z0 z1 z2 z3 y0 y1 y2 y3; have z0 := ext_row1 G2.out 0 rfl; have y0 := ext_row2 G2.out 0 rfl; have z1 := ext_row1 G2.out 1 rfl; have y1 := ext_row2 G2.out 1 rfl; have z2 := ext_row1 G2.out 2 rfl; have y2 := ext_row2 G2.out 2 rfl; have z3 := ext_row1 G2.out 3 rfl; have y3 := ext_row2 G2.out 3 rfl; obtain rfl : l5 = [] := List.length_eq_zero_iff.1 (by rw [← stripB_len, s5]; rfl); have hl5 : ([] : List Bd).length = 0 := rfl; have B5 := Lib.hid b5; clear h1 hF s5 b5)
          | (go_at_call 28; have hF := QD.out _ G2.out; (with_reducible refine hF.mono ?_); rintro e v3 ⟨rfl, h1⟩; have H23 := Lib.hid h1; have G3 := Lib.hid (G2.out.trans h1); clear z0 z1 z2 z3 y0 y1 y2 y3; have z0 := ext_row1 G3.out 0 rfl; have y0 := ext_row2 G3.out 0 rfl; have z1 := ext_row1 G3.out 1 rfl; have y1 := ext_row2 G3.out 1 rfl; have z2 := ext_row1 G3.out 2 rfl; have y2 := ext_row2 G3.out 2 rfl; have z3 := ext_row1 G3.out 3 rfl; have y3 := ext_row2 G3.out 3 rfl; clear h1 hF)
          | (go_at_call 19; have hF := QS.out _ G3.out; (with_reducible refine hF.mono ?_); rintro e v4 ⟨rfl, h1⟩; have H34 := Lib.hid h1; have G4 := Lib.hid (G3.out.trans h1); clear z0 z1 z2 z3 y0 y1 y2 y3; have z0 := ext_row1 G4.out 0 rfl; have y0 := ext_row2 G4.out 0 rfl; have z1 := ext_row1 G4.out 1 rfl; have y1 := ext_row2 G4.out 1 rfl; have z2 := ext_row1 G4.out 2 rfl; have y2 := ext_row2 G4.out 2 rfl; have z3 := ext_row1 G4.out 3 rfl; have y3 := ext_row2 G4.out 3 rfl; clear h1 hF)
          | (go_at_call 11; have hF := AW.out v4; (with_reducible refine hF.mono ?_); rintro e v5 ⟨rfl, h1⟩; have G5 := Lib.hid (G4.out.trans h1); clear h1 hF)
          | fail)
        go_ret
        exact ⟨rfl, B8.out _ G5.out⟩
      | false =>
        clear hgs
        have z0 := ext_row1 G0.out 0 rfl
        have y0 := ext_row2 G0.out 0 rfl
        have z1 := ext_row1 G0.out 1 rfl
        have y1 := ext_row2 G0.out 1 rfl
        have z2 := ext_row1 G0.out 2 rfl
        have y2 := ext_row2 G0.out 2 rfl
        have z3 := ext_row1 G0.out 3 rfl
        have y3 := ext_row2 G0.out 3 rfl
        go_enter Try.func6, Try.ntmps6
        go_wp2_with (first
          | (go_at_call 10; have hF := QG.out _ (w.heap.size + 1 + 1) (by simp) G0.out; (with_reducible refine hF.mono ?_); rintro e v1 ⟨rfl, h1⟩; have G1 := Lib.hid (G0.out.trans h1); clear z0 z1 z2 z3 y0 y1 y2 y3; have z0 := ext_row1 G1.out 0 rfl; have y0 := ext_row2 G1.out 0 rfl; have z1 := ext_row1 G1.out 1 rfl; have y1 := ext_row2 G1.out 1 rfl; have z2 := ext_row1 G1.out 2 rfl; have y2 := ext_row2 G1.out 2 rfl; have z3 := ext_row1 G1.out 3 rfl; have y3 := ext_row2 G1.out 3 rfl; clear h1 hF)
          | (go_at_call 12; have hF := QT.out _ G1.out; (with_reducible refine hF.mono ?_); rintro e v2 ⟨A5, q5, l5, rfl, s5, b5, h1⟩; have G2 := Lib.hid (G1.out.trans h1); clear z0 z1 z2 z3 y0 y1 y2 y3; have z0 := ext_row1 G2.out 0 rfl; have y0 := ext_row2 G2.out 0 rfl; have z1 := ext_row1 G2.out 1 rfl; have y1 := ext_row2 G2.out 1 rfl; have z2 := ext_row1 G2.out 2 rfl; have y2 := ext_row2 G2.out 2 rfl; have z3 := ext_row1 G2.out 3 rfl; have y3 := ext_row2 G2.out 3 rfl; obtain rfl : l5 = [] := List.length_eq_zero_iff.1 (by rw [← stripB_len, s5]; rfl); have hl5 : ([] : List Bd).length = 0 := rfl; have B5 := Lib.hid b5; clear h1 hF s5 b5)
          | (go_at_call 28; have hF := QD.out _ G2.out; (with_reducible refine hF.mono ?_); rintro e v3 ⟨rfl, h1⟩; have H23 := Lib.hid h1; have G3 := Lib.hid (G2.out.trans h1); clear z0 z1 z2 z3 y0 y1 y2 y3; have z0 := ext_row1 G3.out 0 rfl; have y0 := ext_row2 G3.out 0 rfl; have z1 := ext_row1 G3.out 1 rfl; have y1 := ext_row2 G3.out 1 rfl; have z2 := ext_row1 G3.out 2 rfl; have y2 := ext_row2 G3.out 2 rfl; have z3 := ext_row1 G3.out 3 rfl; have y3 := ext_row2 G3.out 3 rfl; clear h1 hF)
          | (go_at_call 11; have hF := AW.out v3; (with_reducible refine hF.mono ?_); rintro e v4 ⟨rfl, h1⟩; have G4 := Lib.hid (G3.out.trans h1); clear h1 hF)
          | fail)
        go_ret
        exact ⟨rfl, B8.out _ G4.out⟩
    | some e0 =>
      simp only [Option.isSome_some, Option.getD_some] at QT hgs
      obtain ⟨l1, l2, l3⟩ := makes_law hr 7
      have hgl := mat_grow.1 _ _ _ _ hr
      simp only [List.length_nil] at hgl
      have hnd : ∀ x ∈ e0, x.tm.nodes ≤ 1000000 := fun x hx => by
        rcases mat_nodes.1 _ _ _ _ hr x hx with h | h
        · cases h
        · omega
      have hle : e0.length ≤ 1000000 := by omega
      have QA := Lib.hid (fun (W : World) (A : Option Addr) (q : Nat) (l : List Bd) (hb : BLst W A l q) (hst : stripB l = stripB e0) => show Calls Try.prog 29 #[.slice A l.length q] W (fun e w' => e = .returned (.bool true) ∧ Ext W w') from by
        have := ascending_at l A q W hb (by rw [strip_len hst]; exact hle)
        rwa [ascB_iff.2 (strip_asc hst l1)] at this)
      have QC := Lib.hid (fun (W : World) (A : Option Addr) (q : Nat) (l : List Bd) (hb : BLst W A l q) (hst : stripB l = stripB e0) (h : Ext ((w.alloc (.cells #[.int .i64 a0.kind, .int .i64 a0.num, .string a0.name, .slice a0.at_ a0.args.length a0.cap] 25)).alloc (.cells #[.int .i64 a1.kind, .int .i64 a1.num, .string a1.name, .slice a1.at_ a1.args.length a1.cap] 25)) W) => show Calls Try.prog 30 #[.slice A l.length q, .agg #[.int .i64 a0.kind, .int .i64 a0.num, .string a0.name, .slice a0.at_ a0.args.length a0.cap]] W (fun e w' => e = .returned (.bool true) ∧ Ext W w') from by
        have := covers_at l A q a0 W hb (by rw [strip_len hst]; exact hle) (w0.below (base8 _ h)) hz0
        rwa [strip_covers hst l1 l2] at this)
      have QI := Lib.hid (fun (W : World) (A : Option Addr) (q : Nat) (l : List Bd) (hb : BLst W A l q) (hst : stripB l = stripB e0) (h : Ext ((w.alloc (.cells #[.int .i64 a0.kind, .int .i64 a0.num, .string a0.name, .slice a0.at_ a0.args.length a0.cap] 25)).alloc (.cells #[.int .i64 a1.kind, .int .i64 a1.num, .string a1.name, .slice a1.at_ a1.args.length a1.cap] 25)) W) => show Calls Try.prog 20 #[.slice A l.length q, .int .i64 7, .agg #[.int .i64 a0.kind, .int .i64 a0.num, .string a0.name, .slice a0.at_ a0.args.length a0.cap]] W (fun e w' => ∃ u : Tm, e = .returned u.val ∧ u.strip = (a0.inst e0 7).strip ∧ u.At w' ∧ Ext W w') from
        (inst_term_at l 7 (by unfold Fits; omega) A q a0 W (w0.below (base8 _ h)) (by omega) fun W' h' => in_order_any l A q W' (hb.below h') (by rw [strip_len hst]; exact hle) (strip_nodes hst hnd)).mono fun e w' ⟨u, k1, k2, k3, k4⟩ => ⟨u, k1, by rw [k2, (inst_strip 7 hst).1], k3.at trivial, k4⟩)
      have QU := Lib.hid (fun (W : World) (u : Tm) (hu : u.At W) (hst : u.strip = (a0.inst e0 7).strip) (h : Ext ((w.alloc (.cells #[.int .i64 a0.kind, .int .i64 a0.num, .string a0.name, .slice a0.at_ a0.args.length a0.cap] 25)).alloc (.cells #[.int .i64 a1.kind, .int .i64 a1.num, .string a1.name, .slice a1.at_ a1.args.length a1.cap] 25)) W) => show Calls Try.prog 19 #[u.val, .agg #[.int .i64 a1.kind, .int .i64 a1.num, .string a1.name, .slice a1.at_ a1.args.length a1.cap]] W (fun e w' => e = .returned (.bool true) ∧ Ext W w') from
        ref_same_at u a1 W hu (w1.below (base8 _ h)) (cmp_via hst l3))
      clear hr hg hs hz0 hnn hq1 w0 w1 base8 l1 l2 l3 hgl hnd hle
      cases g with
      | true =>
        obtain rfl : s = true := (hgs rfl).symm
        clear hgs
        have z0 := ext_row1 G0.out 0 rfl
        have y0 := ext_row2 G0.out 0 rfl
        have z1 := ext_row1 G0.out 1 rfl
        have y1 := ext_row2 G0.out 1 rfl
        have z2 := ext_row1 G0.out 2 rfl
        have y2 := ext_row2 G0.out 2 rfl
        have z3 := ext_row1 G0.out 3 rfl
        have y3 := ext_row2 G0.out 3 rfl
        go_enter Try.func6, Try.ntmps6
        go_upto_region 8 with (first
          | (go_at_call 10; have hF := QG.out _ (w.heap.size + 1 + 1) (by simp) G0.out; (with_reducible refine hF.mono ?_); rintro e v1 ⟨rfl, h1⟩; have G1 := Lib.hid (G0.out.trans h1); clear z0 z1 z2 z3 y0 y1 y2 y3; have z0 := ext_row1 G1.out 0 rfl; have y0 := ext_row2 G1.out 0 rfl; have z1 := ext_row1 G1.out 1 rfl; have y1 := ext_row2 G1.out 1 rfl; have z2 := ext_row1 G1.out 2 rfl; have y2 := ext_row2 G1.out 2 rfl; have z3 := ext_row1 G1.out 3 rfl; have y3 := ext_row2 G1.out 3 rfl; clear h1 hF)
          | (go_at_call 12; have hF := QT.out _ G1.out; (with_reducible refine hF.mono ?_); rintro e v2 ⟨A5, q5, l5, rfl, s5, b5, h1⟩; have G2 := Lib.hid (G1.out.trans h1); clear z0 z1 z2 z3 y0 y1 y2 y3; have z0 := ext_row1 G2.out 0 rfl; have y0 := ext_row2 G2.out 0 rfl; have z1 := ext_row1 G2.out 1 rfl; have y1 := ext_row2 G2.out 1 rfl; have z2 := ext_row1 G2.out 2 rfl; have y2 := ext_row2 G2.out 2 rfl; have z3 := ext_row1 G2.out 3 rfl; have y3 := ext_row2 G2.out 3 rfl; have S5 := Lib.hid s5; have B5 := Lib.hid b5; clear h1 hF s5 b5)
          | (go_at_call 28; have hF := QD.out _ G2.out; (with_reducible refine hF.mono ?_); rintro e v3 ⟨rfl, h1⟩; have H23 := Lib.hid h1; have G3 := Lib.hid (G2.out.trans h1); clear z0 z1 z2 z3 y0 y1 y2 y3; have z0 := ext_row1 G3.out 0 rfl; have y0 := ext_row2 G3.out 0 rfl; have z1 := ext_row1 G3.out 1 rfl; have y1 := ext_row2 G3.out 1 rfl; have z2 := ext_row1 G3.out 2 rfl; have y2 := ext_row2 G3.out 2 rfl; have z3 := ext_row1 G3.out 3 rfl; have y3 := ext_row2 G3.out 3 rfl; clear h1 hF)
          | (go_at_call 19; have hF := QS.out _ G3.out; (with_reducible refine hF.mono ?_); rintro e v4 ⟨rfl, h1⟩; have H34 := Lib.hid h1; have G4 := Lib.hid (G3.out.trans h1); clear z0 z1 z2 z3 y0 y1 y2 y3; have z0 := ext_row1 G4.out 0 rfl; have y0 := ext_row2 G4.out 0 rfl; have z1 := ext_row1 G4.out 1 rfl; have y1 := ext_row2 G4.out 1 rfl; have z2 := ext_row1 G4.out 2 rfl; have y2 := ext_row2 G4.out 2 rfl; have z3 := ext_row1 G4.out 3 rfl; have y3 := ext_row2 G4.out 3 rfl; clear h1 hF)
          | fail)
        have B5v := Lib.hid ((B5.out.below H23.out).below H34.out)
        have HS := Lib.hid (fun W (h : Ext ((w.alloc (.cells #[.int .i64 a0.kind, .int .i64 a0.num, .string a0.name, .slice a0.at_ a0.args.length a0.cap] 25)).alloc (.cells #[.int .i64 a1.kind, .int .i64 a1.num, .string a1.name, .slice a1.at_ a1.args.length a1.cap] 25)) W) => (⟨⟨ext_row1 h 0 rfl, ext_row1 h 1 rfl, ext_row1 h 2 rfl, ext_row1 h 3 rfl⟩, ext_row2 h 0 rfl, ext_row2 h 1 rfl, ext_row2 h 2 rfl, ext_row2 h 3 rfl⟩ : (fun W => (W.cell? ⟨w.heap.size, 0, none⟩ = some (.int .i64 a0.kind) ∧ W.cell? ⟨w.heap.size, 1, none⟩ = some (.int .i64 a0.num) ∧ W.cell? ⟨w.heap.size, 2, none⟩ = some (.string a0.name) ∧ W.cell? ⟨w.heap.size, 3, none⟩ = some (.slice a0.at_ a0.args.length a0.cap)) ∧ W.cell? ⟨w.heap.size + 1, 0, none⟩ = some (.int .i64 a1.kind) ∧ W.cell? ⟨w.heap.size + 1, 1, none⟩ = some (.int .i64 a1.num) ∧ W.cell? ⟨w.heap.size + 1, 2, none⟩ = some (.string a1.name) ∧ W.cell? ⟨w.heap.size + 1, 3, none⟩ = some (.slice a1.at_ a1.args.length a1.cap)) W))
        clear z0 z1 z2 z3 y0 y1 y2 y3
        go_wp2_with fail
        go_region_held3 (fun W => (W.cell? ⟨w.heap.size, 0, none⟩ = some (.int .i64 a0.kind) ∧ W.cell? ⟨w.heap.size, 1, none⟩ = some (.int .i64 a0.num) ∧ W.cell? ⟨w.heap.size, 2, none⟩ = some (.string a0.name) ∧ W.cell? ⟨w.heap.size, 3, none⟩ = some (.slice a0.at_ a0.args.length a0.cap)) ∧ W.cell? ⟨w.heap.size + 1, 0, none⟩ = some (.int .i64 a1.kind) ∧ W.cell? ⟨w.heap.size + 1, 1, none⟩ = some (.int .i64 a1.num) ∧ W.cell? ⟨w.heap.size + 1, 2, none⟩ = some (.string a1.name) ∧ W.cell? ⟨w.heap.size + 1, 3, none⟩ = some (.slice a1.at_ a1.args.length a1.cap)) (first | (with_reducible exact HS.out _ G4.out) | (with_reducible exact HS.out _ (G4.out.trans (Ext.drew _))) | (with_reducible exact HS.out _ G5.out) | (with_reducible exact HS.out _ (G5.out.trans (Ext.drew _))) | (with_reducible exact HS.out _ G6.out) | (with_reducible exact HS.out _ (G6.out.trans (Ext.drew _))) | (with_reducible exact HS.out _ G7.out) | (with_reducible exact HS.out _ (G7.out.trans (Ext.drew _))) | (with_reducible exact HS.out _ G8.out) | (with_reducible exact HS.out _ (G8.out.trans (Ext.drew _))) | (with_reducible exact HS.out _ G9.out) | (with_reducible exact HS.out _ (G9.out.trans (Ext.drew _))) | fail) (first
          | (go_at_call 29; have hF := QA.out (v4).drew A5 q5 l5 (B5v.out.below (Ext.drew _)) S5.out; (with_reducible refine hF.mono ?_); rintro e v5 ⟨rfl, h1⟩; have G5 := Lib.hid (G4.out.trans (Ext.trans (Ext.drew _) h1)); have C1 := Lib.hid (B5v.out.below (Ext.trans (Ext.drew _) h1)); clear h1 hF)
          | (go_at_call 30; have hF := QC.out v5 A5 q5 l5 C1.out S5.out G5.out; (with_reducible refine hF.mono ?_); rintro e v6 ⟨rfl, h1⟩; have G6 := Lib.hid (G5.out.trans h1); have C2 := Lib.hid (C1.out.below h1); clear h1 hF)
          | (go_at_call 20; have hF := QI.out v6 A5 q5 l5 C2.out S5.out G6.out; (with_reducible refine hF.mono ?_); rintro e v7 ⟨u, rfl, st, hu, h1⟩; have G7 := Lib.hid (G6.out.trans h1); have ST := Lib.hid st; have HU := Lib.hid hu; clear h1 hF st hu)
          | (go_at_call 19; have hF := QU.out v7 u HU.out ST.out G7.out; (with_reducible refine hF.mono ?_); rintro e v8 ⟨rfl, h1⟩; have G8 := Lib.hid (G7.out.trans h1); clear h1 hF)
          | (go_at_call 11; have hF := AW.out v8; (with_reducible refine hF.mono ?_); rintro e v9 ⟨rfl, h1⟩; have G9 := Lib.hid (G8.out.trans h1); clear h1 hF)
          | fail)
        go_wp2_with fail
        go_ret
        exact ⟨rfl, B8.out _ G9.out⟩
      | false =>
        clear hgs
        have z0 := ext_row1 G0.out 0 rfl
        have y0 := ext_row2 G0.out 0 rfl
        have z1 := ext_row1 G0.out 1 rfl
        have y1 := ext_row2 G0.out 1 rfl
        have z2 := ext_row1 G0.out 2 rfl
        have y2 := ext_row2 G0.out 2 rfl
        have z3 := ext_row1 G0.out 3 rfl
        have y3 := ext_row2 G0.out 3 rfl
        go_enter Try.func6, Try.ntmps6
        go_upto_region 8 with (first
          | (go_at_call 10; have hF := QG.out _ (w.heap.size + 1 + 1) (by simp) G0.out; (with_reducible refine hF.mono ?_); rintro e v1 ⟨rfl, h1⟩; have G1 := Lib.hid (G0.out.trans h1); clear z0 z1 z2 z3 y0 y1 y2 y3; have z0 := ext_row1 G1.out 0 rfl; have y0 := ext_row2 G1.out 0 rfl; have z1 := ext_row1 G1.out 1 rfl; have y1 := ext_row2 G1.out 1 rfl; have z2 := ext_row1 G1.out 2 rfl; have y2 := ext_row2 G1.out 2 rfl; have z3 := ext_row1 G1.out 3 rfl; have y3 := ext_row2 G1.out 3 rfl; clear h1 hF)
          | (go_at_call 12; have hF := QT.out _ G1.out; (with_reducible refine hF.mono ?_); rintro e v2 ⟨A5, q5, l5, rfl, s5, b5, h1⟩; have G2 := Lib.hid (G1.out.trans h1); clear z0 z1 z2 z3 y0 y1 y2 y3; have z0 := ext_row1 G2.out 0 rfl; have y0 := ext_row2 G2.out 0 rfl; have z1 := ext_row1 G2.out 1 rfl; have y1 := ext_row2 G2.out 1 rfl; have z2 := ext_row1 G2.out 2 rfl; have y2 := ext_row2 G2.out 2 rfl; have z3 := ext_row1 G2.out 3 rfl; have y3 := ext_row2 G2.out 3 rfl; have S5 := Lib.hid s5; have B5 := Lib.hid b5; clear h1 hF s5 b5)
          | (go_at_call 28; have hF := QD.out _ G2.out; (with_reducible refine hF.mono ?_); rintro e v3 ⟨rfl, h1⟩; have H23 := Lib.hid h1; have G3 := Lib.hid (G2.out.trans h1); clear z0 z1 z2 z3 y0 y1 y2 y3; have z0 := ext_row1 G3.out 0 rfl; have y0 := ext_row2 G3.out 0 rfl; have z1 := ext_row1 G3.out 1 rfl; have y1 := ext_row2 G3.out 1 rfl; have z2 := ext_row1 G3.out 2 rfl; have y2 := ext_row2 G3.out 2 rfl; have z3 := ext_row1 G3.out 3 rfl; have y3 := ext_row2 G3.out 3 rfl; clear h1 hF)
          | fail)
        have B5v := Lib.hid (B5.out.below H23.out)
        have HS := Lib.hid (fun W (h : Ext ((w.alloc (.cells #[.int .i64 a0.kind, .int .i64 a0.num, .string a0.name, .slice a0.at_ a0.args.length a0.cap] 25)).alloc (.cells #[.int .i64 a1.kind, .int .i64 a1.num, .string a1.name, .slice a1.at_ a1.args.length a1.cap] 25)) W) => (⟨⟨ext_row1 h 0 rfl, ext_row1 h 1 rfl, ext_row1 h 2 rfl, ext_row1 h 3 rfl⟩, ext_row2 h 0 rfl, ext_row2 h 1 rfl, ext_row2 h 2 rfl, ext_row2 h 3 rfl⟩ : (fun W => (W.cell? ⟨w.heap.size, 0, none⟩ = some (.int .i64 a0.kind) ∧ W.cell? ⟨w.heap.size, 1, none⟩ = some (.int .i64 a0.num) ∧ W.cell? ⟨w.heap.size, 2, none⟩ = some (.string a0.name) ∧ W.cell? ⟨w.heap.size, 3, none⟩ = some (.slice a0.at_ a0.args.length a0.cap)) ∧ W.cell? ⟨w.heap.size + 1, 0, none⟩ = some (.int .i64 a1.kind) ∧ W.cell? ⟨w.heap.size + 1, 1, none⟩ = some (.int .i64 a1.num) ∧ W.cell? ⟨w.heap.size + 1, 2, none⟩ = some (.string a1.name) ∧ W.cell? ⟨w.heap.size + 1, 3, none⟩ = some (.slice a1.at_ a1.args.length a1.cap)) W))
        clear z0 z1 z2 z3 y0 y1 y2 y3
        go_wp2_with fail
        go_region_held3 (fun W => (W.cell? ⟨w.heap.size, 0, none⟩ = some (.int .i64 a0.kind) ∧ W.cell? ⟨w.heap.size, 1, none⟩ = some (.int .i64 a0.num) ∧ W.cell? ⟨w.heap.size, 2, none⟩ = some (.string a0.name) ∧ W.cell? ⟨w.heap.size, 3, none⟩ = some (.slice a0.at_ a0.args.length a0.cap)) ∧ W.cell? ⟨w.heap.size + 1, 0, none⟩ = some (.int .i64 a1.kind) ∧ W.cell? ⟨w.heap.size + 1, 1, none⟩ = some (.int .i64 a1.num) ∧ W.cell? ⟨w.heap.size + 1, 2, none⟩ = some (.string a1.name) ∧ W.cell? ⟨w.heap.size + 1, 3, none⟩ = some (.slice a1.at_ a1.args.length a1.cap)) (first | (with_reducible exact HS.out _ G3.out) | (with_reducible exact HS.out _ (G3.out.trans (Ext.drew _))) | (with_reducible exact HS.out _ G4.out) | (with_reducible exact HS.out _ (G4.out.trans (Ext.drew _))) | (with_reducible exact HS.out _ G5.out) | (with_reducible exact HS.out _ (G5.out.trans (Ext.drew _))) | (with_reducible exact HS.out _ G6.out) | (with_reducible exact HS.out _ (G6.out.trans (Ext.drew _))) | (with_reducible exact HS.out _ G7.out) | (with_reducible exact HS.out _ (G7.out.trans (Ext.drew _))) | (with_reducible exact HS.out _ G8.out) | (with_reducible exact HS.out _ (G8.out.trans (Ext.drew _))) | fail) (first
          | (go_at_call 29; have hF := QA.out (v3).drew A5 q5 l5 (B5v.out.below (Ext.drew _)) S5.out; (with_reducible refine hF.mono ?_); rintro e v4 ⟨rfl, h1⟩; have G4 := Lib.hid (G3.out.trans (Ext.trans (Ext.drew _) h1)); have C1 := Lib.hid (B5v.out.below (Ext.trans (Ext.drew _) h1)); clear h1 hF)
          | (go_at_call 30; have hF := QC.out v4 A5 q5 l5 C1.out S5.out G4.out; (with_reducible refine hF.mono ?_); rintro e v5 ⟨rfl, h1⟩; have G5 := Lib.hid (G4.out.trans h1); have C2 := Lib.hid (C1.out.below h1); clear h1 hF)
          | (go_at_call 20; have hF := QI.out v5 A5 q5 l5 C2.out S5.out G5.out; (with_reducible refine hF.mono ?_); rintro e v6 ⟨u, rfl, st, hu, h1⟩; have G6 := Lib.hid (G5.out.trans h1); have ST := Lib.hid st; have HU := Lib.hid hu; clear h1 hF st hu)
          | (go_at_call 19; have hF := QU.out v6 u HU.out ST.out G6.out; (with_reducible refine hF.mono ?_); rintro e v7 ⟨rfl, h1⟩; have G7 := Lib.hid (G6.out.trans h1); clear h1 hF)
          | (go_at_call 11; have hF := AW.out v7; (with_reducible refine hF.mono ?_); rintro e v8 ⟨rfl, h1⟩; have G8 := Lib.hid (G7.out.trans h1); clear h1 hF)
          | fail)
        go_wp2_with fail
        go_ret
        exact ⟨rfl, B8.out _ G8.out⟩
end Go.Proofs.Ytceekaodhmncgaa.matchMakes
