/-
  The walk of UnifyGeneral.
-/
import Derived.Test.YtdjbigfobodecaaMh17
namespace Go.Proofs.Ytdjbigfobodecaa.unifyGeneral
open Go.ChangeShapes Go.WideShapes Go.ChangeAt Go.RowKit Go.Sort
set_option linter.unusedVariables false

set_option maxHeartbeats 32000000 in
set_option maxRecDepth 100000 in
theorem walk (a0 : Tm) (a1 : Tm) (A2 : Option Addr) (a2 : List Bd) (c2 : Nat) (w : World) (w0 : a0.At w) (w1 : a1.At w) (w2 : BLst w A2 a2 c2) :
    Calls Try.prog 6 #[a0.val, a1.val, .slice A2 a2.length c2] w fun e w' => e = .returned (.bool true) ∧ Below w.heap.size w w' := by
  have G0 := Lib.hid (Ext.refl ((w.alloc (.cells #[.int .i64 a0.kind, .int .i64 a0.num, .string a0.name, .slice a0.at_ a0.args.length a0.cap] 24)).alloc (.cells #[.int .i64 a1.kind, .int .i64 a1.num, .string a1.name, .slice a1.at_ a1.args.length a1.cap] 24)))
  obtain ⟨q0, hq0⟩ : ∃ r, smallB a0 = r := ⟨_, rfl⟩
  obtain ⟨q1, hq1⟩ : ∃ r, smallB a1 = r := ⟨_, rfl⟩
  have Q0 := Lib.hid (fun (W : World) (h : Ext ((w.alloc (.cells #[.int .i64 a0.kind, .int .i64 a0.num, .string a0.name, .slice a0.at_ a0.args.length a0.cap] 24)).alloc (.cells #[.int .i64 a1.kind, .int .i64 a1.num, .string a1.name, .slice a1.at_ a1.args.length a1.cap] 24)) W) => show Calls Try.prog 8 #[.agg #[.int .i64 a0.kind, .int .i64 a0.num, .string a0.name, .slice a0.at_ a0.args.length a0.cap]] W (fun e w' => e = .returned (.bool q0) ∧ Ext W w') from small_at a0 W (w0.below (base_ext h)) hq0)
  have Q1 := Lib.hid (fun (W : World) (h : Ext ((w.alloc (.cells #[.int .i64 a0.kind, .int .i64 a0.num, .string a0.name, .slice a0.at_ a0.args.length a0.cap] 24)).alloc (.cells #[.int .i64 a1.kind, .int .i64 a1.num, .string a1.name, .slice a1.at_ a1.args.length a1.cap] 24)) W) => show Calls Try.prog 8 #[.agg #[.int .i64 a1.kind, .int .i64 a1.num, .string a1.name, .slice a1.at_ a1.args.length a1.cap]] W (fun e w' => e = .returned (.bool q1) ∧ Ext W w') from small_at a1 W (w1.below (base_ext h)) hq1)
  have AW := Lib.hid awake_at
  have W0 := Lib.hid w0
  have W1 := Lib.hid w1
  clear w0 w1
  obtain ⟨⟨x0, x1, x2, x3⟩, y0, y1, y2, y3⟩ := boxes_two G0.out
  have W2 := Lib.hid w2
  have n2 : a2.length ≤ 9223372036854775807 := w2.len
  clear w2
  cases q0 with
  | false =>
    clear Q1 hq0 hq1
    go_enter Try.func6, Try.ntmps6
    go_wp2_with (first
      | (go_at_call 8; have hF := Q0.out _ G0.out; (with_reducible refine hF.mono ?_); rintro e v1 ⟨rfl, h1⟩; have G1 := Lib.hid (G0.out.trans h1); clear x0 x1 x2 x3 y0 y1 y2 y3; obtain ⟨⟨x0, x1, x2, x3⟩, y0, y1, y2, y3⟩ := boxes_two G1.out; clear h1 hF)
      | (go_at_call 9; refine (AW.out _).mono ?_; rintro e v9 ⟨rfl, h1⟩; have X9 := Lib.hid (base_ext (G1.out.trans h1)); clear h1))
    go_ret
    exact ⟨rfl, X9.out⟩
  | true =>
  cases q1 with
  | false =>
    clear hq0 hq1
    go_enter Try.func6, Try.ntmps6
    go_wp2_with (first
      | (go_at_call 8; have hF := Q0.out _ G0.out; (with_reducible refine hF.mono ?_); rintro e v1 ⟨rfl, h1⟩; have G1 := Lib.hid (G0.out.trans h1); clear x0 x1 x2 x3 y0 y1 y2 y3; obtain ⟨⟨x0, x1, x2, x3⟩, y0, y1, y2, y3⟩ := boxes_two G1.out; clear h1 hF)
      | (go_at_call 8; have hF := Q1.out _ G1.out; (with_reducible refine hF.mono ?_); rintro e v2 ⟨rfl, h1⟩; have G2 := Lib.hid (G1.out.trans h1); clear x0 x1 x2 x3 y0 y1 y2 y3; obtain ⟨⟨x0, x1, x2, x3⟩, y0, y1, y2, y3⟩ := boxes_two G2.out; clear h1 hF)
      | (go_at_call 9; refine (AW.out _).mono ?_; rintro e v9 ⟨rfl, h1⟩; have X9 := Lib.hid (base_ext (G2.out.trans h1)); clear h1))
    go_ret
    exact ⟨rfl, X9.out⟩
  | true =>
  by_cases h40 : a2.length ≤ 40
  · have d2 : decide ((40 : Int) < (a2.length : Int)) = false := by simp; omega
    have N0 := Lib.hid (show a0.nodes ≤ 1000000 by have := small_le hq0; omega)
    have N1 := Lib.hid (show a1.nodes ≤ 1000000 by have := small_le hq1; omega)
    have HQ0 := Lib.hid hq0
    have HQ1 := Lib.hid hq1
    clear hq0 hq1
    go_enter Try.func6, Try.ntmps6
    go_wp2_with (first
      | (go_at_call 8; have hF := Q0.out _ G0.out; (with_reducible refine hF.mono ?_); rintro e v1 ⟨rfl, h1⟩; have G1 := Lib.hid (G0.out.trans h1); clear x0 x1 x2 x3 y0 y1 y2 y3; obtain ⟨⟨x0, x1, x2, x3⟩, y0, y1, y2, y3⟩ := boxes_two G1.out; clear h1 hF)
      | (go_at_call 8; have hF := Q1.out _ G1.out; (with_reducible refine hF.mono ?_); rintro e v2 ⟨rfl, h1⟩; have G2 := Lib.hid (G1.out.trans h1); clear x0 x1 x2 x3 y0 y1 y2 y3; obtain ⟨⟨x0, x1, x2, x3⟩, y0, y1, y2, y3⟩ := boxes_two G2.out; clear h1 hF))
    go_loopw [27] (fun i wr => ∃ j : Nat, j ≤ a2.length ∧ i = .int .i64 j ∧ Hid ((a2.take j).all (fun x => smallB x.tm) = true) ∧ Hid (Ext ((w.alloc (.cells #[.int .i64 a0.kind, .int .i64 a0.num, .string a0.name, .slice a0.at_ a0.args.length a0.cap] 24)).alloc (.cells #[.int .i64 a1.kind, .int .i64 a1.num, .string a1.name, .slice a1.at_ a1.args.length a1.cap] 24)) wr)) (fun i _ => a2.length - (intOf i).toNat)
    case atStart => exact ⟨0, Nat.zero_le _, rfl, Lib.hid rfl, G2⟩
    case round =>
      clear x0 x1 x2 x3 y0 y1 y2 y3 G0 G1 G2 Q0 Q1
      obtain ⟨j, hj, rfl, HF, G3⟩ := hrel
      by_cases hlt : j < a2.length
      · obtain ⟨b, o, rfl, ⟨c0, c1, c2, c3, c4⟩, hf, hx⟩ := (W2.out.below (base_ext G3.out)).get hlt
        have HN := Lib.hid (show (a2.take (j + 1)).all (fun x => smallB x.tm) = smallB (a2.getD j default).tm by
          rw [btake_next hlt, List.all_append, HF.out]; simp)
        generalize a2.getD j default = x at *
        have Q := Lib.hid (small_at' x.tm wr hx)
        clear hx hf
        generalize smallB x.tm = N at *
        obtain ⟨xv, ⟨k', n', s', A', c', a'⟩⟩ := x
        simp only [Tm.kind, Tm.num, Tm.name, Tm.at_, Tm.args, Tm.cap] at c0 c1 c2 c3 c4 Q
        cases N
        · go_wp2_with (first
            | (go_at_call 8; refine (Q.out).mono ?_; rintro e v4 ⟨rfl, h1⟩; have G4 := Lib.hid (G3.out.trans h1); clear h1)
            | (go_at_call 9; refine (AW.out _).mono ?_; rintro e v9 ⟨rfl, h1⟩; have X9 := Lib.hid (base_ext (G4.out.trans h1)); clear h1))
          go_ret
          exact ⟨rfl, X9.out⟩
        · go_wp2_with (first
            | (go_at_call 8; refine (Q.out).mono ?_; rintro e v4 ⟨rfl, h1⟩; have G4 := Lib.hid (G3.out.trans h1); clear h1))
          go_roundw
          case rel => exact ⟨j + 1, by omega, by go_num, HN, G4⟩
          case measure => simp [intOf]; omega
      · obtain rfl : j = a2.length := by omega
        have HS := Lib.hid (show ∀ x ∈ a2, smallB x.tm = true from by have := HF.out; rw [List.take_length] at this; simpa using this)
        clear HF hj hlt
        obtain ⟨⟨x0, x1, x2, x3⟩, y0, y1, y2, y3⟩ := boxes_two G3.out
        obtain ⟨r0, hr0⟩ : ∃ r, Tm.right a0 = r := ⟨_, rfl⟩
        obtain ⟨r1, hr1⟩ : ∃ r, Tm.right a1 = r := ⟨_, rfl⟩
        obtain ⟨r2, hr2⟩ : ∃ r, rightS a2 = r := ⟨_, rfl⟩
        have R0 := Lib.hid (fun (W : World) (h : Ext ((w.alloc (.cells #[.int .i64 a0.kind, .int .i64 a0.num, .string a0.name, .slice a0.at_ a0.args.length a0.cap] 24)).alloc (.cells #[.int .i64 a1.kind, .int .i64 a1.num, .string a1.name, .slice a1.at_ a1.args.length a1.cap] 24)) W) => show Calls Try.prog 21 #[.agg #[.int .i64 a0.kind, .int .i64 a0.num, .string a0.name, .slice a0.at_ a0.args.length a0.cap]] W (fun e w' => e = .returned (.bool r0) ∧ Ext W w') from ref_right_tm_at a0 W (W0.out.below (base_ext h)) (small_size HQ0.out) hr0)
        have R1 := Lib.hid (fun (W : World) (h : Ext ((w.alloc (.cells #[.int .i64 a0.kind, .int .i64 a0.num, .string a0.name, .slice a0.at_ a0.args.length a0.cap] 24)).alloc (.cells #[.int .i64 a1.kind, .int .i64 a1.num, .string a1.name, .slice a1.at_ a1.args.length a1.cap] 24)) W) => show Calls Try.prog 21 #[.agg #[.int .i64 a1.kind, .int .i64 a1.num, .string a1.name, .slice a1.at_ a1.args.length a1.cap]] W (fun e w' => e = .returned (.bool r1) ∧ Ext W w') from ref_right_tm_at a1 W (W1.out.below (base_ext h)) (small_size HQ1.out) hr1)
        have R2 := Lib.hid (fun (W : World) (h : Ext ((w.alloc (.cells #[.int .i64 a0.kind, .int .i64 a0.num, .string a0.name, .slice a0.at_ a0.args.length a0.cap] 24)).alloc (.cells #[.int .i64 a1.kind, .int .i64 a1.num, .string a1.name, .slice a1.at_ a1.args.length a1.cap] 24)) W) => show Calls Try.prog 18 #[.slice A2 a2.length c2] W (fun e w' => e = .returned (.bool r2) ∧ Ext W w') from hr2 ▸ ref_right_s_at a2 A2 c2 W (W2.out.below (base_ext h)) (fun x hx => small_size (HS.out x hx)))
        have HR0 := Lib.hid hr0
        have HR1 := Lib.hid hr1
        have HR2 := Lib.hid hr2
        clear hr0 hr1 hr2
        cases r0 with
        | false =>
          go_wp2_with fail
          have hS : (fun W => ((W.cell? ⟨w.heap.size, 0, none⟩ = some (.int .i64 a0.kind) ∧ W.cell? ⟨w.heap.size, 1, none⟩ = some (.int .i64 a0.num) ∧ W.cell? ⟨w.heap.size, 2, none⟩ = some (.string a0.name) ∧ W.cell? ⟨w.heap.size, 3, none⟩ = some (.slice a0.at_ a0.args.length a0.cap)) ∧ W.cell? ⟨w.heap.size + 1, 0, none⟩ = some (.int .i64 a1.kind) ∧ W.cell? ⟨w.heap.size + 1, 1, none⟩ = some (.int .i64 a1.num) ∧ W.cell? ⟨w.heap.size + 1, 2, none⟩ = some (.string a1.name) ∧ W.cell? ⟨w.heap.size + 1, 3, none⟩ = some (.slice a1.at_ a1.args.length a1.cap)) ∧ Ext ((w.alloc (.cells #[.int .i64 a0.kind, .int .i64 a0.num, .string a0.name, .slice a0.at_ a0.args.length a0.cap] 24)).alloc (.cells #[.int .i64 a1.kind, .int .i64 a1.num, .string a1.name, .slice a1.at_ a1.args.length a1.cap] 24)) W) wr.drew := ⟨boxes_two (G3.out.trans (Ext.drew _)), G3.out.trans (Ext.drew _)⟩
          refine held_start 23 rfl (fun W => ((W.cell? ⟨w.heap.size, 0, none⟩ = some (.int .i64 a0.kind) ∧ W.cell? ⟨w.heap.size, 1, none⟩ = some (.int .i64 a0.num) ∧ W.cell? ⟨w.heap.size, 2, none⟩ = some (.string a0.name) ∧ W.cell? ⟨w.heap.size, 3, none⟩ = some (.slice a0.at_ a0.args.length a0.cap)) ∧ W.cell? ⟨w.heap.size + 1, 0, none⟩ = some (.int .i64 a1.kind) ∧ W.cell? ⟨w.heap.size + 1, 1, none⟩ = some (.int .i64 a1.num) ∧ W.cell? ⟨w.heap.size + 1, 2, none⟩ = some (.string a1.name) ∧ W.cell? ⟨w.heap.size + 1, 3, none⟩ = some (.slice a1.at_ a1.args.length a1.cap)) ∧ Ext ((w.alloc (.cells #[.int .i64 a0.kind, .int .i64 a0.num, .string a0.name, .slice a0.at_ a0.args.length a0.cap] 24)).alloc (.cells #[.int .i64 a1.kind, .int .i64 a1.num, .string a1.name, .slice a1.at_ a1.args.length a1.cap] 24)) W) (by kernel_rfl) ?_
          refine held_take (i := 0) (dst := some 39) (v := ?_) rfl rfl (by kernel_rfl) (by kernel_rfl) (by kernel_rfl) rfl hS ?_ ?_; rotate_left
          · rintro w' ⟨⟨⟨q0, q1, q2, q3⟩, q4, q5, q6, q7⟩, qx⟩; go_simp; with_reducible rfl
          go_frame
          refine round_one (i := 1) (by kernel_rfl) ?_
          refine held_call (dst := some 40) rfl rfl rfl ?_ (R0.out _ (G3.out.trans (Ext.drew _))) ?_
          · go_simp
          rintro e v4 ⟨rfl, h1⟩
          have G4 := Lib.hid (G3.out.trans ((Ext.drew _).trans h1))
          have hS : (fun W => ((W.cell? ⟨w.heap.size, 0, none⟩ = some (.int .i64 a0.kind) ∧ W.cell? ⟨w.heap.size, 1, none⟩ = some (.int .i64 a0.num) ∧ W.cell? ⟨w.heap.size, 2, none⟩ = some (.string a0.name) ∧ W.cell? ⟨w.heap.size, 3, none⟩ = some (.slice a0.at_ a0.args.length a0.cap)) ∧ W.cell? ⟨w.heap.size + 1, 0, none⟩ = some (.int .i64 a1.kind) ∧ W.cell? ⟨w.heap.size + 1, 1, none⟩ = some (.int .i64 a1.num) ∧ W.cell? ⟨w.heap.size + 1, 2, none⟩ = some (.string a1.name) ∧ W.cell? ⟨w.heap.size + 1, 3, none⟩ = some (.slice a1.at_ a1.args.length a1.cap)) ∧ Ext ((w.alloc (.cells #[.int .i64 a0.kind, .int .i64 a0.num, .string a0.name, .slice a0.at_ a0.args.length a0.cap] 24)).alloc (.cells #[.int .i64 a1.kind, .int .i64 a1.num, .string a1.name, .slice a1.at_ a1.args.length a1.cap] 24)) W) v4 := ⟨boxes_two G4.out, G4.out⟩
          refine ⟨_, rfl, hS, ?_⟩
          clear h1
          go_frame
          refine held_take (i := 2) (dst := some 41) (v := ?_) rfl rfl (by kernel_rfl) (by kernel_rfl) (by kernel_rfl) rfl hS ?_ ?_; rotate_left
          · rintro w' ⟨⟨⟨q0, q1, q2, q3⟩, q4, q5, q6, q7⟩, qx⟩; go_simp; with_reducible rfl
          go_frame
          refine held_take (i := 3) (dst := some 42) (v := ?_) rfl rfl (by kernel_rfl) (by kernel_rfl) (by kernel_rfl) rfl hS ?_ ?_; rotate_left
          · rintro w' ⟨⟨⟨q0, q1, q2, q3⟩, q4, q5, q6, q7⟩, qx⟩; go_simp; with_reducible rfl
          go_frame
          refine held_pass (i := 4) (dst := some 43) rfl rfl (by kernel_rfl) (by kernel_rfl) (by kernel_rfl) rfl hS ?_
          go_frame
          refine held_pass (i := 5) (dst := some 44) rfl rfl (by kernel_rfl) (by kernel_rfl) (by kernel_rfl) rfl hS ?_
          go_frame
          refine held_pass (i := 6) (dst := some 45) rfl rfl (by kernel_rfl) (by kernel_rfl) (by kernel_rfl) rfl hS ?_
          go_frame
          refine held_take (i := 7) (dst := some 46) (v := ?_) rfl rfl (by kernel_rfl) (by kernel_rfl) (by kernel_rfl) rfl hS ?_ ?_; rotate_left
          · rintro w' ⟨⟨⟨q0, q1, q2, q3⟩, q4, q5, q6, q7⟩, qx⟩; go_simp; with_reducible rfl
          go_frame
          refine held_take (i := 8) (dst := some 47) (v := ?_) rfl rfl (by kernel_rfl) (by kernel_rfl) (by kernel_rfl) rfl hS ?_ ?_; rotate_left
          · rintro w' ⟨⟨⟨q0, q1, q2, q3⟩, q4, q5, q6, q7⟩, qx⟩; go_simp; with_reducible rfl
          go_frame
          refine held_pass (i := 9) (dst := some 48) rfl rfl (by kernel_rfl) (by kernel_rfl) (by kernel_rfl) rfl hS ?_
          go_frame
          refine held_pass (i := 10) (dst := some 49) rfl rfl (by kernel_rfl) (by kernel_rfl) (by kernel_rfl) rfl hS ?_
          go_frame
          refine held_pass (i := 11) (dst := some 50) rfl rfl (by kernel_rfl) (by kernel_rfl) (by kernel_rfl) rfl hS ?_
          go_frame
          refine held_take (i := 12) (dst := some 51) (v := ?_) rfl rfl (by kernel_rfl) (by kernel_rfl) (by kernel_rfl) rfl hS ?_ ?_; rotate_left
          · rintro w' ⟨⟨⟨q0, q1, q2, q3⟩, q4, q5, q6, q7⟩, qx⟩; go_simp; with_reducible rfl
          go_frame
          refine held_take (i := 13) (dst := some 52) (v := ?_) rfl rfl (by kernel_rfl) (by kernel_rfl) (by kernel_rfl) rfl hS ?_ ?_; rotate_left
          · rintro w' ⟨⟨⟨q0, q1, q2, q3⟩, q4, q5, q6, q7⟩, qx⟩; go_simp; with_reducible rfl
          go_frame
          refine held_pass (i := 14) (dst := some 53) rfl rfl (by kernel_rfl) (by kernel_rfl) (by kernel_rfl) rfl hS ?_
          go_frame
          refine held_pass (i := 15) (dst := some 54) rfl rfl (by kernel_rfl) (by kernel_rfl) (by kernel_rfl) rfl hS ?_
          go_frame
          refine held_pass (i := 16) (dst := some 55) rfl rfl (by kernel_rfl) (by kernel_rfl) (by kernel_rfl) rfl hS ?_
          go_frame
          refine held_pass (i := 17) (dst := some 56) rfl rfl (by kernel_rfl) (by kernel_rfl) (by kernel_rfl) rfl hS ?_
          go_frame
          refine held_pass (i := 18) (dst := some 57) rfl rfl (by kernel_rfl) (by kernel_rfl) (by kernel_rfl) rfl hS ?_
          go_frame
          refine held_pass (i := 19) (dst := some 58) rfl rfl (by kernel_rfl) (by kernel_rfl) (by kernel_rfl) rfl hS ?_
          go_frame
          refine held_pass (i := 20) (dst := some 59) rfl rfl (by kernel_rfl) (by kernel_rfl) (by kernel_rfl) rfl hS ?_
          go_frame
          refine held_pass (i := 21) (dst := some 60) rfl rfl (by kernel_rfl) (by kernel_rfl) (by kernel_rfl) rfl hS ?_
          go_frame
          refine held_take (i := 22) (dst := some 61) (v := ?_) rfl rfl (by kernel_rfl) (by kernel_rfl) (by kernel_rfl) rfl hS ?_ ?_; rotate_left
          · rintro w' ⟨⟨⟨q0, q1, q2, q3⟩, q4, q5, q6, q7⟩, qx⟩; go_simp; with_reducible rfl
          go_frame
          refine round_end (by kernel_rfl) ?_
          go_wp2_with (first | (go_at_call 9; refine (AW.out _).mono ?_; rintro e v9 ⟨rfl, h1⟩; have X9 := Lib.hid (base_ext (G4.out.trans h1)); clear h1))
          go_ret
          exact ⟨rfl, X9.out⟩
        | true =>
        cases r1 with
        | false =>
          go_wp2_with fail
          have hS : (fun W => ((W.cell? ⟨w.heap.size, 0, none⟩ = some (.int .i64 a0.kind) ∧ W.cell? ⟨w.heap.size, 1, none⟩ = some (.int .i64 a0.num) ∧ W.cell? ⟨w.heap.size, 2, none⟩ = some (.string a0.name) ∧ W.cell? ⟨w.heap.size, 3, none⟩ = some (.slice a0.at_ a0.args.length a0.cap)) ∧ W.cell? ⟨w.heap.size + 1, 0, none⟩ = some (.int .i64 a1.kind) ∧ W.cell? ⟨w.heap.size + 1, 1, none⟩ = some (.int .i64 a1.num) ∧ W.cell? ⟨w.heap.size + 1, 2, none⟩ = some (.string a1.name) ∧ W.cell? ⟨w.heap.size + 1, 3, none⟩ = some (.slice a1.at_ a1.args.length a1.cap)) ∧ Ext ((w.alloc (.cells #[.int .i64 a0.kind, .int .i64 a0.num, .string a0.name, .slice a0.at_ a0.args.length a0.cap] 24)).alloc (.cells #[.int .i64 a1.kind, .int .i64 a1.num, .string a1.name, .slice a1.at_ a1.args.length a1.cap] 24)) W) wr.drew := ⟨boxes_two (G3.out.trans (Ext.drew _)), G3.out.trans (Ext.drew _)⟩
          refine held_start 23 rfl (fun W => ((W.cell? ⟨w.heap.size, 0, none⟩ = some (.int .i64 a0.kind) ∧ W.cell? ⟨w.heap.size, 1, none⟩ = some (.int .i64 a0.num) ∧ W.cell? ⟨w.heap.size, 2, none⟩ = some (.string a0.name) ∧ W.cell? ⟨w.heap.size, 3, none⟩ = some (.slice a0.at_ a0.args.length a0.cap)) ∧ W.cell? ⟨w.heap.size + 1, 0, none⟩ = some (.int .i64 a1.kind) ∧ W.cell? ⟨w.heap.size + 1, 1, none⟩ = some (.int .i64 a1.num) ∧ W.cell? ⟨w.heap.size + 1, 2, none⟩ = some (.string a1.name) ∧ W.cell? ⟨w.heap.size + 1, 3, none⟩ = some (.slice a1.at_ a1.args.length a1.cap)) ∧ Ext ((w.alloc (.cells #[.int .i64 a0.kind, .int .i64 a0.num, .string a0.name, .slice a0.at_ a0.args.length a0.cap] 24)).alloc (.cells #[.int .i64 a1.kind, .int .i64 a1.num, .string a1.name, .slice a1.at_ a1.args.length a1.cap] 24)) W) (by kernel_rfl) ?_
          refine held_take (i := 0) (dst := some 39) (v := ?_) rfl rfl (by kernel_rfl) (by kernel_rfl) (by kernel_rfl) rfl hS ?_ ?_; rotate_left
          · rintro w' ⟨⟨⟨q0, q1, q2, q3⟩, q4, q5, q6, q7⟩, qx⟩; go_simp; with_reducible rfl
          go_frame
          refine round_one (i := 1) (by kernel_rfl) ?_
          refine held_call (dst := some 40) rfl rfl rfl ?_ (R0.out _ (G3.out.trans (Ext.drew _))) ?_
          · go_simp
          rintro e v4 ⟨rfl, h1⟩
          have G4 := Lib.hid (G3.out.trans ((Ext.drew _).trans h1))
          have hS : (fun W => ((W.cell? ⟨w.heap.size, 0, none⟩ = some (.int .i64 a0.kind) ∧ W.cell? ⟨w.heap.size, 1, none⟩ = some (.int .i64 a0.num) ∧ W.cell? ⟨w.heap.size, 2, none⟩ = some (.string a0.name) ∧ W.cell? ⟨w.heap.size, 3, none⟩ = some (.slice a0.at_ a0.args.length a0.cap)) ∧ W.cell? ⟨w.heap.size + 1, 0, none⟩ = some (.int .i64 a1.kind) ∧ W.cell? ⟨w.heap.size + 1, 1, none⟩ = some (.int .i64 a1.num) ∧ W.cell? ⟨w.heap.size + 1, 2, none⟩ = some (.string a1.name) ∧ W.cell? ⟨w.heap.size + 1, 3, none⟩ = some (.slice a1.at_ a1.args.length a1.cap)) ∧ Ext ((w.alloc (.cells #[.int .i64 a0.kind, .int .i64 a0.num, .string a0.name, .slice a0.at_ a0.args.length a0.cap] 24)).alloc (.cells #[.int .i64 a1.kind, .int .i64 a1.num, .string a1.name, .slice a1.at_ a1.args.length a1.cap] 24)) W) v4 := ⟨boxes_two G4.out, G4.out⟩
          refine ⟨_, rfl, hS, ?_⟩
          clear h1
          go_frame
          refine held_take (i := 2) (dst := some 41) (v := ?_) rfl rfl (by kernel_rfl) (by kernel_rfl) (by kernel_rfl) rfl hS ?_ ?_; rotate_left
          · rintro w' ⟨⟨⟨q0, q1, q2, q3⟩, q4, q5, q6, q7⟩, qx⟩; go_simp; with_reducible rfl
          go_frame
          refine held_take (i := 3) (dst := some 42) (v := ?_) rfl rfl (by kernel_rfl) (by kernel_rfl) (by kernel_rfl) rfl hS ?_ ?_; rotate_left
          · rintro w' ⟨⟨⟨q0, q1, q2, q3⟩, q4, q5, q6, q7⟩, qx⟩; go_simp; with_reducible rfl
          go_frame
          refine held_take (i := 4) (dst := some 43) (v := ?_) rfl rfl (by kernel_rfl) (by kernel_rfl) (by kernel_rfl) rfl hS ?_ ?_; rotate_left
          · rintro w' ⟨⟨⟨q0, q1, q2, q3⟩, q4, q5, q6, q7⟩, qx⟩; go_simp; with_reducible rfl
          go_frame
          refine round_one (i := 5) (by kernel_rfl) ?_
          refine held_call (dst := some 44) rfl rfl rfl ?_ (R1.out _ G4.out) ?_
          · go_simp
          rintro e v5 ⟨rfl, h1⟩
          have G5 := Lib.hid (G4.out.trans (h1))
          have hS : (fun W => ((W.cell? ⟨w.heap.size, 0, none⟩ = some (.int .i64 a0.kind) ∧ W.cell? ⟨w.heap.size, 1, none⟩ = some (.int .i64 a0.num) ∧ W.cell? ⟨w.heap.size, 2, none⟩ = some (.string a0.name) ∧ W.cell? ⟨w.heap.size, 3, none⟩ = some (.slice a0.at_ a0.args.length a0.cap)) ∧ W.cell? ⟨w.heap.size + 1, 0, none⟩ = some (.int .i64 a1.kind) ∧ W.cell? ⟨w.heap.size + 1, 1, none⟩ = some (.int .i64 a1.num) ∧ W.cell? ⟨w.heap.size + 1, 2, none⟩ = some (.string a1.name) ∧ W.cell? ⟨w.heap.size + 1, 3, none⟩ = some (.slice a1.at_ a1.args.length a1.cap)) ∧ Ext ((w.alloc (.cells #[.int .i64 a0.kind, .int .i64 a0.num, .string a0.name, .slice a0.at_ a0.args.length a0.cap] 24)).alloc (.cells #[.int .i64 a1.kind, .int .i64 a1.num, .string a1.name, .slice a1.at_ a1.args.length a1.cap] 24)) W) v5 := ⟨boxes_two G5.out, G5.out⟩
          refine ⟨_, rfl, hS, ?_⟩
          clear h1
          go_frame
          refine held_take (i := 6) (dst := some 45) (v := ?_) rfl rfl (by kernel_rfl) (by kernel_rfl) (by kernel_rfl) rfl hS ?_ ?_; rotate_left
          · rintro w' ⟨⟨⟨q0, q1, q2, q3⟩, q4, q5, q6, q7⟩, qx⟩; go_simp; with_reducible rfl
          go_frame
          refine held_take (i := 7) (dst := some 46) (v := ?_) rfl rfl (by kernel_rfl) (by kernel_rfl) (by kernel_rfl) rfl hS ?_ ?_; rotate_left
          · rintro w' ⟨⟨⟨q0, q1, q2, q3⟩, q4, q5, q6, q7⟩, qx⟩; go_simp; with_reducible rfl
          go_frame
          refine held_take (i := 8) (dst := some 47) (v := ?_) rfl rfl (by kernel_rfl) (by kernel_rfl) (by kernel_rfl) rfl hS ?_ ?_; rotate_left
          · rintro w' ⟨⟨⟨q0, q1, q2, q3⟩, q4, q5, q6, q7⟩, qx⟩; go_simp; with_reducible rfl
          go_frame
          refine held_pass (i := 9) (dst := some 48) rfl rfl (by kernel_rfl) (by kernel_rfl) (by kernel_rfl) rfl hS ?_
          go_frame
          refine held_pass (i := 10) (dst := some 49) rfl rfl (by kernel_rfl) (by kernel_rfl) (by kernel_rfl) rfl hS ?_
          go_frame
          refine held_pass (i := 11) (dst := some 50) rfl rfl (by kernel_rfl) (by kernel_rfl) (by kernel_rfl) rfl hS ?_
          go_frame
          refine held_take (i := 12) (dst := some 51) (v := ?_) rfl rfl (by kernel_rfl) (by kernel_rfl) (by kernel_rfl) rfl hS ?_ ?_; rotate_left
          · rintro w' ⟨⟨⟨q0, q1, q2, q3⟩, q4, q5, q6, q7⟩, qx⟩; go_simp; with_reducible rfl
          go_frame
          refine held_take (i := 13) (dst := some 52) (v := ?_) rfl rfl (by kernel_rfl) (by kernel_rfl) (by kernel_rfl) rfl hS ?_ ?_; rotate_left
          · rintro w' ⟨⟨⟨q0, q1, q2, q3⟩, q4, q5, q6, q7⟩, qx⟩; go_simp; with_reducible rfl
          go_frame
          refine held_pass (i := 14) (dst := some 53) rfl rfl (by kernel_rfl) (by kernel_rfl) (by kernel_rfl) rfl hS ?_
          go_frame
          refine held_pass (i := 15) (dst := some 54) rfl rfl (by kernel_rfl) (by kernel_rfl) (by kernel_rfl) rfl hS ?_
          go_frame
          refine held_pass (i := 16) (dst := some 55) rfl rfl (by kernel_rfl) (by kernel_rfl) (by kernel_rfl) rfl hS ?_
          go_frame
          refine held_pass (i := 17) (dst := some 56) rfl rfl (by kernel_rfl) (by kernel_rfl) (by kernel_rfl) rfl hS ?_
          go_frame
          refine held_pass (i := 18) (dst := some 57) rfl rfl (by kernel_rfl) (by kernel_rfl) (by kernel_rfl) rfl hS ?_
          go_frame
          refine held_pass (i := 19) (dst := some 58) rfl rfl (by kernel_rfl) (by kernel_rfl) (by kernel_rfl) rfl hS ?_
          go_frame
          refine held_pass (i := 20) (dst := some 59) rfl rfl (by kernel_rfl) (by kernel_rfl) (by kernel_rfl) rfl hS ?_
          go_frame
          refine held_pass (i := 21) (dst := some 60) rfl rfl (by kernel_rfl) (by kernel_rfl) (by kernel_rfl) rfl hS ?_
          go_frame
          refine held_take (i := 22) (dst := some 61) (v := ?_) rfl rfl (by kernel_rfl) (by kernel_rfl) (by kernel_rfl) rfl hS ?_ ?_; rotate_left
          · rintro w' ⟨⟨⟨q0, q1, q2, q3⟩, q4, q5, q6, q7⟩, qx⟩; go_simp; with_reducible rfl
          go_frame
          refine round_end (by kernel_rfl) ?_
          go_wp2_with (first | (go_at_call 9; refine (AW.out _).mono ?_; rintro e v9 ⟨rfl, h1⟩; have X9 := Lib.hid (base_ext (G5.out.trans h1)); clear h1))
          go_ret
          exact ⟨rfl, X9.out⟩
        | true =>
        cases r2 with
        | false =>
          go_wp2_with fail
          have hS : (fun W => ((W.cell? ⟨w.heap.size, 0, none⟩ = some (.int .i64 a0.kind) ∧ W.cell? ⟨w.heap.size, 1, none⟩ = some (.int .i64 a0.num) ∧ W.cell? ⟨w.heap.size, 2, none⟩ = some (.string a0.name) ∧ W.cell? ⟨w.heap.size, 3, none⟩ = some (.slice a0.at_ a0.args.length a0.cap)) ∧ W.cell? ⟨w.heap.size + 1, 0, none⟩ = some (.int .i64 a1.kind) ∧ W.cell? ⟨w.heap.size + 1, 1, none⟩ = some (.int .i64 a1.num) ∧ W.cell? ⟨w.heap.size + 1, 2, none⟩ = some (.string a1.name) ∧ W.cell? ⟨w.heap.size + 1, 3, none⟩ = some (.slice a1.at_ a1.args.length a1.cap)) ∧ Ext ((w.alloc (.cells #[.int .i64 a0.kind, .int .i64 a0.num, .string a0.name, .slice a0.at_ a0.args.length a0.cap] 24)).alloc (.cells #[.int .i64 a1.kind, .int .i64 a1.num, .string a1.name, .slice a1.at_ a1.args.length a1.cap] 24)) W) wr.drew := ⟨boxes_two (G3.out.trans (Ext.drew _)), G3.out.trans (Ext.drew _)⟩
          refine held_start 23 rfl (fun W => ((W.cell? ⟨w.heap.size, 0, none⟩ = some (.int .i64 a0.kind) ∧ W.cell? ⟨w.heap.size, 1, none⟩ = some (.int .i64 a0.num) ∧ W.cell? ⟨w.heap.size, 2, none⟩ = some (.string a0.name) ∧ W.cell? ⟨w.heap.size, 3, none⟩ = some (.slice a0.at_ a0.args.length a0.cap)) ∧ W.cell? ⟨w.heap.size + 1, 0, none⟩ = some (.int .i64 a1.kind) ∧ W.cell? ⟨w.heap.size + 1, 1, none⟩ = some (.int .i64 a1.num) ∧ W.cell? ⟨w.heap.size + 1, 2, none⟩ = some (.string a1.name) ∧ W.cell? ⟨w.heap.size + 1, 3, none⟩ = some (.slice a1.at_ a1.args.length a1.cap)) ∧ Ext ((w.alloc (.cells #[.int .i64 a0.kind, .int .i64 a0.num, .string a0.name, .slice a0.at_ a0.args.length a0.cap] 24)).alloc (.cells #[.int .i64 a1.kind, .int .i64 a1.num, .string a1.name, .slice a1.at_ a1.args.length a1.cap] 24)) W) (by kernel_rfl) ?_
          refine held_take (i := 0) (dst := some 39) (v := ?_) rfl rfl (by kernel_rfl) (by kernel_rfl) (by kernel_rfl) rfl hS ?_ ?_; rotate_left
          · rintro w' ⟨⟨⟨q0, q1, q2, q3⟩, q4, q5, q6, q7⟩, qx⟩; go_simp; with_reducible rfl
          go_frame
          refine round_one (i := 1) (by kernel_rfl) ?_
          refine held_call (dst := some 40) rfl rfl rfl ?_ (R0.out _ (G3.out.trans (Ext.drew _))) ?_
          · go_simp
          rintro e v4 ⟨rfl, h1⟩
          have G4 := Lib.hid (G3.out.trans ((Ext.drew _).trans h1))
          have hS : (fun W => ((W.cell? ⟨w.heap.size, 0, none⟩ = some (.int .i64 a0.kind) ∧ W.cell? ⟨w.heap.size, 1, none⟩ = some (.int .i64 a0.num) ∧ W.cell? ⟨w.heap.size, 2, none⟩ = some (.string a0.name) ∧ W.cell? ⟨w.heap.size, 3, none⟩ = some (.slice a0.at_ a0.args.length a0.cap)) ∧ W.cell? ⟨w.heap.size + 1, 0, none⟩ = some (.int .i64 a1.kind) ∧ W.cell? ⟨w.heap.size + 1, 1, none⟩ = some (.int .i64 a1.num) ∧ W.cell? ⟨w.heap.size + 1, 2, none⟩ = some (.string a1.name) ∧ W.cell? ⟨w.heap.size + 1, 3, none⟩ = some (.slice a1.at_ a1.args.length a1.cap)) ∧ Ext ((w.alloc (.cells #[.int .i64 a0.kind, .int .i64 a0.num, .string a0.name, .slice a0.at_ a0.args.length a0.cap] 24)).alloc (.cells #[.int .i64 a1.kind, .int .i64 a1.num, .string a1.name, .slice a1.at_ a1.args.length a1.cap] 24)) W) v4 := ⟨boxes_two G4.out, G4.out⟩
          refine ⟨_, rfl, hS, ?_⟩
          clear h1
          go_frame
          refine held_take (i := 2) (dst := some 41) (v := ?_) rfl rfl (by kernel_rfl) (by kernel_rfl) (by kernel_rfl) rfl hS ?_ ?_; rotate_left
          · rintro w' ⟨⟨⟨q0, q1, q2, q3⟩, q4, q5, q6, q7⟩, qx⟩; go_simp; with_reducible rfl
          go_frame
          refine held_take (i := 3) (dst := some 42) (v := ?_) rfl rfl (by kernel_rfl) (by kernel_rfl) (by kernel_rfl) rfl hS ?_ ?_; rotate_left
          · rintro w' ⟨⟨⟨q0, q1, q2, q3⟩, q4, q5, q6, q7⟩, qx⟩; go_simp; with_reducible rfl
          go_frame
          refine held_take (i := 4) (dst := some 43) (v := ?_) rfl rfl (by kernel_rfl) (by kernel_rfl) (by kernel_rfl) rfl hS ?_ ?_; rotate_left
          · rintro w' ⟨⟨⟨q0, q1, q2, q3⟩, q4, q5, q6, q7⟩, qx⟩; go_simp; with_reducible rfl
          go_frame
          refine round_one (i := 5) (by kernel_rfl) ?_
          refine held_call (dst := some 44) rfl rfl rfl ?_ (R1.out _ G4.out) ?_
          · go_simp
          rintro e v5 ⟨rfl, h1⟩
          have G5 := Lib.hid (G4.out.trans (h1))
          have hS : (fun W => ((W.cell? ⟨w.heap.size, 0, none⟩ = some (.int .i64 a0.kind) ∧ W.cell? ⟨w.heap.size, 1, none⟩ = some (.int .i64 a0.num) ∧ W.cell? ⟨w.heap.size, 2, none⟩ = some (.string a0.name) ∧ W.cell? ⟨w.heap.size, 3, none⟩ = some (.slice a0.at_ a0.args.length a0.cap)) ∧ W.cell? ⟨w.heap.size + 1, 0, none⟩ = some (.int .i64 a1.kind) ∧ W.cell? ⟨w.heap.size + 1, 1, none⟩ = some (.int .i64 a1.num) ∧ W.cell? ⟨w.heap.size + 1, 2, none⟩ = some (.string a1.name) ∧ W.cell? ⟨w.heap.size + 1, 3, none⟩ = some (.slice a1.at_ a1.args.length a1.cap)) ∧ Ext ((w.alloc (.cells #[.int .i64 a0.kind, .int .i64 a0.num, .string a0.name, .slice a0.at_ a0.args.length a0.cap] 24)).alloc (.cells #[.int .i64 a1.kind, .int .i64 a1.num, .string a1.name, .slice a1.at_ a1.args.length a1.cap] 24)) W) v5 := ⟨boxes_two G5.out, G5.out⟩
          refine ⟨_, rfl, hS, ?_⟩
          clear h1
          go_frame
          refine held_take (i := 6) (dst := some 45) (v := ?_) rfl rfl (by kernel_rfl) (by kernel_rfl) (by kernel_rfl) rfl hS ?_ ?_; rotate_left
          · rintro w' ⟨⟨⟨q0, q1, q2, q3⟩, q4, q5, q6, q7⟩, qx⟩; go_simp; with_reducible rfl
          go_frame
          refine held_take (i := 7) (dst := some 46) (v := ?_) rfl rfl (by kernel_rfl) (by kernel_rfl) (by kernel_rfl) rfl hS ?_ ?_; rotate_left
          · rintro w' ⟨⟨⟨q0, q1, q2, q3⟩, q4, q5, q6, q7⟩, qx⟩; go_simp; with_reducible rfl
          go_frame
          refine held_take (i := 8) (dst := some 47) (v := ?_) rfl rfl (by kernel_rfl) (by kernel_rfl) (by kernel_rfl) rfl hS ?_ ?_; rotate_left
          · rintro w' ⟨⟨⟨q0, q1, q2, q3⟩, q4, q5, q6, q7⟩, qx⟩; go_simp; with_reducible rfl
          go_frame
          refine held_take (i := 9) (dst := some 48) (v := ?_) rfl rfl (by kernel_rfl) (by kernel_rfl) (by kernel_rfl) rfl hS ?_ ?_; rotate_left
          · rintro w' ⟨⟨⟨q0, q1, q2, q3⟩, q4, q5, q6, q7⟩, qx⟩; go_simp; with_reducible rfl
          go_frame
          refine round_one (i := 10) (by kernel_rfl) ?_
          refine held_call (dst := some 49) rfl rfl rfl ?_ (R2.out _ G5.out) ?_
          · go_simp
          rintro e v6 ⟨rfl, h1⟩
          have G6 := Lib.hid (G5.out.trans (h1))
          have hS : (fun W => ((W.cell? ⟨w.heap.size, 0, none⟩ = some (.int .i64 a0.kind) ∧ W.cell? ⟨w.heap.size, 1, none⟩ = some (.int .i64 a0.num) ∧ W.cell? ⟨w.heap.size, 2, none⟩ = some (.string a0.name) ∧ W.cell? ⟨w.heap.size, 3, none⟩ = some (.slice a0.at_ a0.args.length a0.cap)) ∧ W.cell? ⟨w.heap.size + 1, 0, none⟩ = some (.int .i64 a1.kind) ∧ W.cell? ⟨w.heap.size + 1, 1, none⟩ = some (.int .i64 a1.num) ∧ W.cell? ⟨w.heap.size + 1, 2, none⟩ = some (.string a1.name) ∧ W.cell? ⟨w.heap.size + 1, 3, none⟩ = some (.slice a1.at_ a1.args.length a1.cap)) ∧ Ext ((w.alloc (.cells #[.int .i64 a0.kind, .int .i64 a0.num, .string a0.name, .slice a0.at_ a0.args.length a0.cap] 24)).alloc (.cells #[.int .i64 a1.kind, .int .i64 a1.num, .string a1.name, .slice a1.at_ a1.args.length a1.cap] 24)) W) v6 := ⟨boxes_two G6.out, G6.out⟩
          refine ⟨_, rfl, hS, ?_⟩
          clear h1
          go_frame
          refine held_take (i := 11) (dst := some 50) (v := ?_) rfl rfl (by kernel_rfl) (by kernel_rfl) (by kernel_rfl) rfl hS ?_ ?_; rotate_left
          · rintro w' ⟨⟨⟨q0, q1, q2, q3⟩, q4, q5, q6, q7⟩, qx⟩; go_simp; with_reducible rfl
          go_frame
          refine held_take (i := 12) (dst := some 51) (v := ?_) rfl rfl (by kernel_rfl) (by kernel_rfl) (by kernel_rfl) rfl hS ?_ ?_; rotate_left
          · rintro w' ⟨⟨⟨q0, q1, q2, q3⟩, q4, q5, q6, q7⟩, qx⟩; go_simp; with_reducible rfl
          go_frame
          refine held_take (i := 13) (dst := some 52) (v := ?_) rfl rfl (by kernel_rfl) (by kernel_rfl) (by kernel_rfl) rfl hS ?_ ?_; rotate_left
          · rintro w' ⟨⟨⟨q0, q1, q2, q3⟩, q4, q5, q6, q7⟩, qx⟩; go_simp; with_reducible rfl
          go_frame
          refine held_pass (i := 14) (dst := some 53) rfl rfl (by kernel_rfl) (by kernel_rfl) (by kernel_rfl) rfl hS ?_
          go_frame
          refine held_pass (i := 15) (dst := some 54) rfl rfl (by kernel_rfl) (by kernel_rfl) (by kernel_rfl) rfl hS ?_
          go_frame
          refine held_pass (i := 16) (dst := some 55) rfl rfl (by kernel_rfl) (by kernel_rfl) (by kernel_rfl) rfl hS ?_
          go_frame
          refine held_pass (i := 17) (dst := some 56) rfl rfl (by kernel_rfl) (by kernel_rfl) (by kernel_rfl) rfl hS ?_
          go_frame
          refine held_pass (i := 18) (dst := some 57) rfl rfl (by kernel_rfl) (by kernel_rfl) (by kernel_rfl) rfl hS ?_
          go_frame
          refine held_pass (i := 19) (dst := some 58) rfl rfl (by kernel_rfl) (by kernel_rfl) (by kernel_rfl) rfl hS ?_
          go_frame
          refine held_pass (i := 20) (dst := some 59) rfl rfl (by kernel_rfl) (by kernel_rfl) (by kernel_rfl) rfl hS ?_
          go_frame
          refine held_pass (i := 21) (dst := some 60) rfl rfl (by kernel_rfl) (by kernel_rfl) (by kernel_rfl) rfl hS ?_
          go_frame
          refine held_take (i := 22) (dst := some 61) (v := ?_) rfl rfl (by kernel_rfl) (by kernel_rfl) (by kernel_rfl) rfl hS ?_ ?_; rotate_left
          · rintro w' ⟨⟨⟨q0, q1, q2, q3⟩, q4, q5, q6, q7⟩, qx⟩; go_simp; with_reducible rfl
          go_frame
          refine round_end (by kernel_rfl) ?_
          go_wp2_with (first | (go_at_call 9; refine (AW.out _).mono ?_; rintro e v9 ⟨rfl, h1⟩; have X9 := Lib.hid (base_ext (G6.out.trans h1)); clear h1))
          go_ret
          exact ⟨rfl, X9.out⟩
        | true =>
        obtain ⟨sm, hsm⟩ : ∃ s, (cmpT (a0.app a2) (a1.app a2) == 0) = s := ⟨_, rfl⟩
        have HM := Lib.hid hsm
        clear hsm
        cases sm with
        | false =>
          go_wp2_with fail
          have hS : (fun W => ((W.cell? ⟨w.heap.size, 0, none⟩ = some (.int .i64 a0.kind) ∧ W.cell? ⟨w.heap.size, 1, none⟩ = some (.int .i64 a0.num) ∧ W.cell? ⟨w.heap.size, 2, none⟩ = some (.string a0.name) ∧ W.cell? ⟨w.heap.size, 3, none⟩ = some (.slice a0.at_ a0.args.length a0.cap)) ∧ W.cell? ⟨w.heap.size + 1, 0, none⟩ = some (.int .i64 a1.kind) ∧ W.cell? ⟨w.heap.size + 1, 1, none⟩ = some (.int .i64 a1.num) ∧ W.cell? ⟨w.heap.size + 1, 2, none⟩ = some (.string a1.name) ∧ W.cell? ⟨w.heap.size + 1, 3, none⟩ = some (.slice a1.at_ a1.args.length a1.cap)) ∧ Ext ((w.alloc (.cells #[.int .i64 a0.kind, .int .i64 a0.num, .string a0.name, .slice a0.at_ a0.args.length a0.cap] 24)).alloc (.cells #[.int .i64 a1.kind, .int .i64 a1.num, .string a1.name, .slice a1.at_ a1.args.length a1.cap] 24)) W) wr.drew := ⟨boxes_two (G3.out.trans (Ext.drew _)), G3.out.trans (Ext.drew _)⟩
          refine held_start 23 rfl (fun W => ((W.cell? ⟨w.heap.size, 0, none⟩ = some (.int .i64 a0.kind) ∧ W.cell? ⟨w.heap.size, 1, none⟩ = some (.int .i64 a0.num) ∧ W.cell? ⟨w.heap.size, 2, none⟩ = some (.string a0.name) ∧ W.cell? ⟨w.heap.size, 3, none⟩ = some (.slice a0.at_ a0.args.length a0.cap)) ∧ W.cell? ⟨w.heap.size + 1, 0, none⟩ = some (.int .i64 a1.kind) ∧ W.cell? ⟨w.heap.size + 1, 1, none⟩ = some (.int .i64 a1.num) ∧ W.cell? ⟨w.heap.size + 1, 2, none⟩ = some (.string a1.name) ∧ W.cell? ⟨w.heap.size + 1, 3, none⟩ = some (.slice a1.at_ a1.args.length a1.cap)) ∧ Ext ((w.alloc (.cells #[.int .i64 a0.kind, .int .i64 a0.num, .string a0.name, .slice a0.at_ a0.args.length a0.cap] 24)).alloc (.cells #[.int .i64 a1.kind, .int .i64 a1.num, .string a1.name, .slice a1.at_ a1.args.length a1.cap] 24)) W) (by kernel_rfl) ?_
          refine held_take (i := 0) (dst := some 39) (v := ?_) rfl rfl (by kernel_rfl) (by kernel_rfl) (by kernel_rfl) rfl hS ?_ ?_; rotate_left
          · rintro w' ⟨⟨⟨q0, q1, q2, q3⟩, q4, q5, q6, q7⟩, qx⟩; go_simp; with_reducible rfl
          go_frame
          refine round_one (i := 1) (by kernel_rfl) ?_
          refine held_call (dst := some 40) rfl rfl rfl ?_ (R0.out _ (G3.out.trans (Ext.drew _))) ?_
          · go_simp
          rintro e v4 ⟨rfl, h1⟩
          have G4 := Lib.hid (G3.out.trans ((Ext.drew _).trans h1))
          have hS : (fun W => ((W.cell? ⟨w.heap.size, 0, none⟩ = some (.int .i64 a0.kind) ∧ W.cell? ⟨w.heap.size, 1, none⟩ = some (.int .i64 a0.num) ∧ W.cell? ⟨w.heap.size, 2, none⟩ = some (.string a0.name) ∧ W.cell? ⟨w.heap.size, 3, none⟩ = some (.slice a0.at_ a0.args.length a0.cap)) ∧ W.cell? ⟨w.heap.size + 1, 0, none⟩ = some (.int .i64 a1.kind) ∧ W.cell? ⟨w.heap.size + 1, 1, none⟩ = some (.int .i64 a1.num) ∧ W.cell? ⟨w.heap.size + 1, 2, none⟩ = some (.string a1.name) ∧ W.cell? ⟨w.heap.size + 1, 3, none⟩ = some (.slice a1.at_ a1.args.length a1.cap)) ∧ Ext ((w.alloc (.cells #[.int .i64 a0.kind, .int .i64 a0.num, .string a0.name, .slice a0.at_ a0.args.length a0.cap] 24)).alloc (.cells #[.int .i64 a1.kind, .int .i64 a1.num, .string a1.name, .slice a1.at_ a1.args.length a1.cap] 24)) W) v4 := ⟨boxes_two G4.out, G4.out⟩
          refine ⟨_, rfl, hS, ?_⟩
          clear h1
          go_frame
          refine held_take (i := 2) (dst := some 41) (v := ?_) rfl rfl (by kernel_rfl) (by kernel_rfl) (by kernel_rfl) rfl hS ?_ ?_; rotate_left
          · rintro w' ⟨⟨⟨q0, q1, q2, q3⟩, q4, q5, q6, q7⟩, qx⟩; go_simp; with_reducible rfl
          go_frame
          refine held_take (i := 3) (dst := some 42) (v := ?_) rfl rfl (by kernel_rfl) (by kernel_rfl) (by kernel_rfl) rfl hS ?_ ?_; rotate_left
          · rintro w' ⟨⟨⟨q0, q1, q2, q3⟩, q4, q5, q6, q7⟩, qx⟩; go_simp; with_reducible rfl
          go_frame
          refine held_take (i := 4) (dst := some 43) (v := ?_) rfl rfl (by kernel_rfl) (by kernel_rfl) (by kernel_rfl) rfl hS ?_ ?_; rotate_left
          · rintro w' ⟨⟨⟨q0, q1, q2, q3⟩, q4, q5, q6, q7⟩, qx⟩; go_simp; with_reducible rfl
          go_frame
          refine round_one (i := 5) (by kernel_rfl) ?_
          refine held_call (dst := some 44) rfl rfl rfl ?_ (R1.out _ G4.out) ?_
          · go_simp
          rintro e v5 ⟨rfl, h1⟩
          have G5 := Lib.hid (G4.out.trans (h1))
          have hS : (fun W => ((W.cell? ⟨w.heap.size, 0, none⟩ = some (.int .i64 a0.kind) ∧ W.cell? ⟨w.heap.size, 1, none⟩ = some (.int .i64 a0.num) ∧ W.cell? ⟨w.heap.size, 2, none⟩ = some (.string a0.name) ∧ W.cell? ⟨w.heap.size, 3, none⟩ = some (.slice a0.at_ a0.args.length a0.cap)) ∧ W.cell? ⟨w.heap.size + 1, 0, none⟩ = some (.int .i64 a1.kind) ∧ W.cell? ⟨w.heap.size + 1, 1, none⟩ = some (.int .i64 a1.num) ∧ W.cell? ⟨w.heap.size + 1, 2, none⟩ = some (.string a1.name) ∧ W.cell? ⟨w.heap.size + 1, 3, none⟩ = some (.slice a1.at_ a1.args.length a1.cap)) ∧ Ext ((w.alloc (.cells #[.int .i64 a0.kind, .int .i64 a0.num, .string a0.name, .slice a0.at_ a0.args.length a0.cap] 24)).alloc (.cells #[.int .i64 a1.kind, .int .i64 a1.num, .string a1.name, .slice a1.at_ a1.args.length a1.cap] 24)) W) v5 := ⟨boxes_two G5.out, G5.out⟩
          refine ⟨_, rfl, hS, ?_⟩
          clear h1
          go_frame
          refine held_take (i := 6) (dst := some 45) (v := ?_) rfl rfl (by kernel_rfl) (by kernel_rfl) (by kernel_rfl) rfl hS ?_ ?_; rotate_left
          · rintro w' ⟨⟨⟨q0, q1, q2, q3⟩, q4, q5, q6, q7⟩, qx⟩; go_simp; with_reducible rfl
          go_frame
          refine held_take (i := 7) (dst := some 46) (v := ?_) rfl rfl (by kernel_rfl) (by kernel_rfl) (by kernel_rfl) rfl hS ?_ ?_; rotate_left
          · rintro w' ⟨⟨⟨q0, q1, q2, q3⟩, q4, q5, q6, q7⟩, qx⟩; go_simp; with_reducible rfl
          go_frame
          refine held_take (i := 8) (dst := some 47) (v := ?_) rfl rfl (by kernel_rfl) (by kernel_rfl) (by kernel_rfl) rfl hS ?_ ?_; rotate_left
          · rintro w' ⟨⟨⟨q0, q1, q2, q3⟩, q4, q5, q6, q7⟩, qx⟩; go_simp; with_reducible rfl
          go_frame
          refine held_take (i := 9) (dst := some 48) (v := ?_) rfl rfl (by kernel_rfl) (by kernel_rfl) (by kernel_rfl) rfl hS ?_ ?_; rotate_left
          · rintro w' ⟨⟨⟨q0, q1, q2, q3⟩, q4, q5, q6, q7⟩, qx⟩; go_simp; with_reducible rfl
          go_frame
          refine round_one (i := 10) (by kernel_rfl) ?_
          refine held_call (dst := some 49) rfl rfl rfl ?_ (R2.out _ G5.out) ?_
          · go_simp
          rintro e v6 ⟨rfl, h1⟩
          have G6 := Lib.hid (G5.out.trans (h1))
          have hS : (fun W => ((W.cell? ⟨w.heap.size, 0, none⟩ = some (.int .i64 a0.kind) ∧ W.cell? ⟨w.heap.size, 1, none⟩ = some (.int .i64 a0.num) ∧ W.cell? ⟨w.heap.size, 2, none⟩ = some (.string a0.name) ∧ W.cell? ⟨w.heap.size, 3, none⟩ = some (.slice a0.at_ a0.args.length a0.cap)) ∧ W.cell? ⟨w.heap.size + 1, 0, none⟩ = some (.int .i64 a1.kind) ∧ W.cell? ⟨w.heap.size + 1, 1, none⟩ = some (.int .i64 a1.num) ∧ W.cell? ⟨w.heap.size + 1, 2, none⟩ = some (.string a1.name) ∧ W.cell? ⟨w.heap.size + 1, 3, none⟩ = some (.slice a1.at_ a1.args.length a1.cap)) ∧ Ext ((w.alloc (.cells #[.int .i64 a0.kind, .int .i64 a0.num, .string a0.name, .slice a0.at_ a0.args.length a0.cap] 24)).alloc (.cells #[.int .i64 a1.kind, .int .i64 a1.num, .string a1.name, .slice a1.at_ a1.args.length a1.cap] 24)) W) v6 := ⟨boxes_two G6.out, G6.out⟩
          refine ⟨_, rfl, hS, ?_⟩
          clear h1
          go_frame
          refine held_take (i := 11) (dst := some 50) (v := ?_) rfl rfl (by kernel_rfl) (by kernel_rfl) (by kernel_rfl) rfl hS ?_ ?_; rotate_left
          · rintro w' ⟨⟨⟨q0, q1, q2, q3⟩, q4, q5, q6, q7⟩, qx⟩; go_simp; with_reducible rfl
          go_frame
          refine held_take (i := 12) (dst := some 51) (v := ?_) rfl rfl (by kernel_rfl) (by kernel_rfl) (by kernel_rfl) rfl hS ?_ ?_; rotate_left
          · rintro w' ⟨⟨⟨q0, q1, q2, q3⟩, q4, q5, q6, q7⟩, qx⟩; go_simp; with_reducible rfl
          go_frame
          refine held_take (i := 13) (dst := some 52) (v := ?_) rfl rfl (by kernel_rfl) (by kernel_rfl) (by kernel_rfl) rfl hS ?_ ?_; rotate_left
          · rintro w' ⟨⟨⟨q0, q1, q2, q3⟩, q4, q5, q6, q7⟩, qx⟩; go_simp; with_reducible rfl
          go_frame
          refine held_take (i := 14) (dst := some 53) (v := ?_) rfl rfl (by kernel_rfl) (by kernel_rfl) (by kernel_rfl) rfl hS ?_ ?_; rotate_left
          · rintro w' ⟨⟨⟨q0, q1, q2, q3⟩, q4, q5, q6, q7⟩, qx⟩; go_simp; with_reducible rfl
          go_frame
          refine held_take (i := 15) (dst := some 54) (v := ?_) rfl rfl (by kernel_rfl) (by kernel_rfl) (by kernel_rfl) rfl hS ?_ ?_; rotate_left
          · rintro w' ⟨⟨⟨q0, q1, q2, q3⟩, q4, q5, q6, q7⟩, qx⟩; go_simp; with_reducible rfl
          go_frame
          refine held_take (i := 17) (dst := some 56) (v := ?_) rfl rfl (by kernel_rfl) (by kernel_rfl) (by kernel_rfl) rfl hS ?_ ?_; rotate_left
          · rintro w' ⟨⟨⟨q0, q1, q2, q3⟩, q4, q5, q6, q7⟩, qx⟩; go_simp; with_reducible rfl
          go_frame
          refine held_take (i := 18) (dst := some 57) (v := ?_) rfl rfl (by kernel_rfl) (by kernel_rfl) (by kernel_rfl) rfl hS ?_ ?_; rotate_left
          · rintro w' ⟨⟨⟨q0, q1, q2, q3⟩, q4, q5, q6, q7⟩, qx⟩; go_simp; with_reducible rfl
          go_frame
          refine round_one (i := 16) (by kernel_rfl) ?_
          refine held_call (dst := some 55) rfl rfl rfl ?_ (rapply_at (W2.out.below (base_ext G6.out)) (W0.out.below (base_ext G6.out)) N0.out) ?_
          · go_simp
          rintro e v7 ⟨u1, rfl, t1, t2, h1⟩
          have G7 := Lib.hid (G6.out.trans (h1))
          have hS : (fun W => ((W.cell? ⟨w.heap.size, 0, none⟩ = some (.int .i64 a0.kind) ∧ W.cell? ⟨w.heap.size, 1, none⟩ = some (.int .i64 a0.num) ∧ W.cell? ⟨w.heap.size, 2, none⟩ = some (.string a0.name) ∧ W.cell? ⟨w.heap.size, 3, none⟩ = some (.slice a0.at_ a0.args.length a0.cap)) ∧ W.cell? ⟨w.heap.size + 1, 0, none⟩ = some (.int .i64 a1.kind) ∧ W.cell? ⟨w.heap.size + 1, 1, none⟩ = some (.int .i64 a1.num) ∧ W.cell? ⟨w.heap.size + 1, 2, none⟩ = some (.string a1.name) ∧ W.cell? ⟨w.heap.size + 1, 3, none⟩ = some (.slice a1.at_ a1.args.length a1.cap)) ∧ Ext ((w.alloc (.cells #[.int .i64 a0.kind, .int .i64 a0.num, .string a0.name, .slice a0.at_ a0.args.length a0.cap] 24)).alloc (.cells #[.int .i64 a1.kind, .int .i64 a1.num, .string a1.name, .slice a1.at_ a1.args.length a1.cap] 24)) W) v7 := ⟨boxes_two G7.out, G7.out⟩
          refine ⟨_, rfl, hS, ?_⟩
          have T1 := Lib.hid t1
          have T2 := Lib.hid t2
          clear t1 t2
          clear h1
          go_frame
          refine round_one (i := 19) (by kernel_rfl) ?_
          refine held_call (dst := some 58) rfl rfl rfl ?_ (rapply_at (W2.out.below (base_ext G7.out)) (W1.out.below (base_ext G7.out)) N1.out) ?_
          · go_simp
          rintro e v8 ⟨u2, rfl, t1, t2, h1⟩
          have G8 := Lib.hid (G7.out.trans (h1))
          have hS : (fun W => ((W.cell? ⟨w.heap.size, 0, none⟩ = some (.int .i64 a0.kind) ∧ W.cell? ⟨w.heap.size, 1, none⟩ = some (.int .i64 a0.num) ∧ W.cell? ⟨w.heap.size, 2, none⟩ = some (.string a0.name) ∧ W.cell? ⟨w.heap.size, 3, none⟩ = some (.slice a0.at_ a0.args.length a0.cap)) ∧ W.cell? ⟨w.heap.size + 1, 0, none⟩ = some (.int .i64 a1.kind) ∧ W.cell? ⟨w.heap.size + 1, 1, none⟩ = some (.int .i64 a1.num) ∧ W.cell? ⟨w.heap.size + 1, 2, none⟩ = some (.string a1.name) ∧ W.cell? ⟨w.heap.size + 1, 3, none⟩ = some (.slice a1.at_ a1.args.length a1.cap)) ∧ Ext ((w.alloc (.cells #[.int .i64 a0.kind, .int .i64 a0.num, .string a0.name, .slice a0.at_ a0.args.length a0.cap] 24)).alloc (.cells #[.int .i64 a1.kind, .int .i64 a1.num, .string a1.name, .slice a1.at_ a1.args.length a1.cap] 24)) W) v8 := ⟨boxes_two G8.out, G8.out⟩
          refine ⟨_, rfl, hS, ?_⟩
          have T3 := Lib.hid (T2.out.below h1)
          have T4 := Lib.hid t1
          have T5 := Lib.hid t2
          clear t1 t2
          clear h1
          go_frame
          refine round_one (i := 20) (by kernel_rfl) ?_
          refine held_call (dst := some 59) rfl rfl rfl ?_ (same_t2 HM.out T1.out T4.out T3.out T5.out) ?_
          · go_simp
          rintro e v10 ⟨rfl, h1⟩
          have G10 := Lib.hid (G8.out.trans (h1))
          have hS : (fun W => ((W.cell? ⟨w.heap.size, 0, none⟩ = some (.int .i64 a0.kind) ∧ W.cell? ⟨w.heap.size, 1, none⟩ = some (.int .i64 a0.num) ∧ W.cell? ⟨w.heap.size, 2, none⟩ = some (.string a0.name) ∧ W.cell? ⟨w.heap.size, 3, none⟩ = some (.slice a0.at_ a0.args.length a0.cap)) ∧ W.cell? ⟨w.heap.size + 1, 0, none⟩ = some (.int .i64 a1.kind) ∧ W.cell? ⟨w.heap.size + 1, 1, none⟩ = some (.int .i64 a1.num) ∧ W.cell? ⟨w.heap.size + 1, 2, none⟩ = some (.string a1.name) ∧ W.cell? ⟨w.heap.size + 1, 3, none⟩ = some (.slice a1.at_ a1.args.length a1.cap)) ∧ Ext ((w.alloc (.cells #[.int .i64 a0.kind, .int .i64 a0.num, .string a0.name, .slice a0.at_ a0.args.length a0.cap] 24)).alloc (.cells #[.int .i64 a1.kind, .int .i64 a1.num, .string a1.name, .slice a1.at_ a1.args.length a1.cap] 24)) W) v10 := ⟨boxes_two G10.out, G10.out⟩
          refine ⟨_, rfl, hS, ?_⟩
          clear h1
          go_frame
          refine held_take (i := 21) (dst := some 60) (v := ?_) rfl rfl (by kernel_rfl) (by kernel_rfl) (by kernel_rfl) rfl hS ?_ ?_; rotate_left
          · rintro w' ⟨⟨⟨q0, q1, q2, q3⟩, q4, q5, q6, q7⟩, qx⟩; go_simp; with_reducible rfl
          go_frame
          refine held_take (i := 22) (dst := some 61) (v := ?_) rfl rfl (by kernel_rfl) (by kernel_rfl) (by kernel_rfl) rfl hS ?_ ?_; rotate_left
          · rintro w' ⟨⟨⟨q0, q1, q2, q3⟩, q4, q5, q6, q7⟩, qx⟩; go_simp; with_reducible rfl
          go_frame
          refine round_end (by kernel_rfl) ?_
          go_wp2_with (first | (go_at_call 9; refine (AW.out _).mono ?_; rintro e v9 ⟨rfl, h1⟩; have X9 := Lib.hid (base_ext (G10.out.trans h1)); clear h1))
          go_ret
          exact ⟨rfl, X9.out⟩
        | true =>
          have HU := Lib.hid (gen_unif HR0.out HR1.out HR2.out HM.out)
          go_wp2_with fail
          have hS : (fun W => ((W.cell? ⟨w.heap.size, 0, none⟩ = some (.int .i64 a0.kind) ∧ W.cell? ⟨w.heap.size, 1, none⟩ = some (.int .i64 a0.num) ∧ W.cell? ⟨w.heap.size, 2, none⟩ = some (.string a0.name) ∧ W.cell? ⟨w.heap.size, 3, none⟩ = some (.slice a0.at_ a0.args.length a0.cap)) ∧ W.cell? ⟨w.heap.size + 1, 0, none⟩ = some (.int .i64 a1.kind) ∧ W.cell? ⟨w.heap.size + 1, 1, none⟩ = some (.int .i64 a1.num) ∧ W.cell? ⟨w.heap.size + 1, 2, none⟩ = some (.string a1.name) ∧ W.cell? ⟨w.heap.size + 1, 3, none⟩ = some (.slice a1.at_ a1.args.length a1.cap)) ∧ Ext ((w.alloc (.cells #[.int .i64 a0.kind, .int .i64 a0.num, .string a0.name, .slice a0.at_ a0.args.length a0.cap] 24)).alloc (.cells #[.int .i64 a1.kind, .int .i64 a1.num, .string a1.name, .slice a1.at_ a1.args.length a1.cap] 24)) W) wr.drew := ⟨boxes_two (G3.out.trans (Ext.drew _)), G3.out.trans (Ext.drew _)⟩
          refine held_start 23 rfl (fun W => ((W.cell? ⟨w.heap.size, 0, none⟩ = some (.int .i64 a0.kind) ∧ W.cell? ⟨w.heap.size, 1, none⟩ = some (.int .i64 a0.num) ∧ W.cell? ⟨w.heap.size, 2, none⟩ = some (.string a0.name) ∧ W.cell? ⟨w.heap.size, 3, none⟩ = some (.slice a0.at_ a0.args.length a0.cap)) ∧ W.cell? ⟨w.heap.size + 1, 0, none⟩ = some (.int .i64 a1.kind) ∧ W.cell? ⟨w.heap.size + 1, 1, none⟩ = some (.int .i64 a1.num) ∧ W.cell? ⟨w.heap.size + 1, 2, none⟩ = some (.string a1.name) ∧ W.cell? ⟨w.heap.size + 1, 3, none⟩ = some (.slice a1.at_ a1.args.length a1.cap)) ∧ Ext ((w.alloc (.cells #[.int .i64 a0.kind, .int .i64 a0.num, .string a0.name, .slice a0.at_ a0.args.length a0.cap] 24)).alloc (.cells #[.int .i64 a1.kind, .int .i64 a1.num, .string a1.name, .slice a1.at_ a1.args.length a1.cap] 24)) W) (by kernel_rfl) ?_
          refine held_take (i := 0) (dst := some 39) (v := ?_) rfl rfl (by kernel_rfl) (by kernel_rfl) (by kernel_rfl) rfl hS ?_ ?_; rotate_left
          · rintro w' ⟨⟨⟨q0, q1, q2, q3⟩, q4, q5, q6, q7⟩, qx⟩; go_simp; with_reducible rfl
          go_frame
          refine round_one (i := 1) (by kernel_rfl) ?_
          refine held_call (dst := some 40) rfl rfl rfl ?_ (R0.out _ (G3.out.trans (Ext.drew _))) ?_
          · go_simp
          rintro e v4 ⟨rfl, h1⟩
          have G4 := Lib.hid (G3.out.trans ((Ext.drew _).trans h1))
          have hS : (fun W => ((W.cell? ⟨w.heap.size, 0, none⟩ = some (.int .i64 a0.kind) ∧ W.cell? ⟨w.heap.size, 1, none⟩ = some (.int .i64 a0.num) ∧ W.cell? ⟨w.heap.size, 2, none⟩ = some (.string a0.name) ∧ W.cell? ⟨w.heap.size, 3, none⟩ = some (.slice a0.at_ a0.args.length a0.cap)) ∧ W.cell? ⟨w.heap.size + 1, 0, none⟩ = some (.int .i64 a1.kind) ∧ W.cell? ⟨w.heap.size + 1, 1, none⟩ = some (.int .i64 a1.num) ∧ W.cell? ⟨w.heap.size + 1, 2, none⟩ = some (.string a1.name) ∧ W.cell? ⟨w.heap.size + 1, 3, none⟩ = some (.slice a1.at_ a1.args.length a1.cap)) ∧ Ext ((w.alloc (.cells #[.int .i64 a0.kind, .int .i64 a0.num, .string a0.name, .slice a0.at_ a0.args.length a0.cap] 24)).alloc (.cells #[.int .i64 a1.kind, .int .i64 a1.num, .string a1.name, .slice a1.at_ a1.args.length a1.cap] 24)) W) v4 := ⟨boxes_two G4.out, G4.out⟩
          refine ⟨_, rfl, hS, ?_⟩
          clear h1
          go_frame
          refine held_take (i := 2) (dst := some 41) (v := ?_) rfl rfl (by kernel_rfl) (by kernel_rfl) (by kernel_rfl) rfl hS ?_ ?_; rotate_left
          · rintro w' ⟨⟨⟨q0, q1, q2, q3⟩, q4, q5, q6, q7⟩, qx⟩; go_simp; with_reducible rfl
          go_frame
          refine held_take (i := 3) (dst := some 42) (v := ?_) rfl rfl (by kernel_rfl) (by kernel_rfl) (by kernel_rfl) rfl hS ?_ ?_; rotate_left
          · rintro w' ⟨⟨⟨q0, q1, q2, q3⟩, q4, q5, q6, q7⟩, qx⟩; go_simp; with_reducible rfl
          go_frame
          refine held_take (i := 4) (dst := some 43) (v := ?_) rfl rfl (by kernel_rfl) (by kernel_rfl) (by kernel_rfl) rfl hS ?_ ?_; rotate_left
          · rintro w' ⟨⟨⟨q0, q1, q2, q3⟩, q4, q5, q6, q7⟩, qx⟩; go_simp; with_reducible rfl
          go_frame
          refine round_one (i := 5) (by kernel_rfl) ?_
          refine held_call (dst := some 44) rfl rfl rfl ?_ (R1.out _ G4.out) ?_
          · go_simp
          rintro e v5 ⟨rfl, h1⟩
          have G5 := Lib.hid (G4.out.trans (h1))
          have hS : (fun W => ((W.cell? ⟨w.heap.size, 0, none⟩ = some (.int .i64 a0.kind) ∧ W.cell? ⟨w.heap.size, 1, none⟩ = some (.int .i64 a0.num) ∧ W.cell? ⟨w.heap.size, 2, none⟩ = some (.string a0.name) ∧ W.cell? ⟨w.heap.size, 3, none⟩ = some (.slice a0.at_ a0.args.length a0.cap)) ∧ W.cell? ⟨w.heap.size + 1, 0, none⟩ = some (.int .i64 a1.kind) ∧ W.cell? ⟨w.heap.size + 1, 1, none⟩ = some (.int .i64 a1.num) ∧ W.cell? ⟨w.heap.size + 1, 2, none⟩ = some (.string a1.name) ∧ W.cell? ⟨w.heap.size + 1, 3, none⟩ = some (.slice a1.at_ a1.args.length a1.cap)) ∧ Ext ((w.alloc (.cells #[.int .i64 a0.kind, .int .i64 a0.num, .string a0.name, .slice a0.at_ a0.args.length a0.cap] 24)).alloc (.cells #[.int .i64 a1.kind, .int .i64 a1.num, .string a1.name, .slice a1.at_ a1.args.length a1.cap] 24)) W) v5 := ⟨boxes_two G5.out, G5.out⟩
          refine ⟨_, rfl, hS, ?_⟩
          clear h1
          go_frame
          refine held_take (i := 6) (dst := some 45) (v := ?_) rfl rfl (by kernel_rfl) (by kernel_rfl) (by kernel_rfl) rfl hS ?_ ?_; rotate_left
          · rintro w' ⟨⟨⟨q0, q1, q2, q3⟩, q4, q5, q6, q7⟩, qx⟩; go_simp; with_reducible rfl
          go_frame
          refine held_take (i := 7) (dst := some 46) (v := ?_) rfl rfl (by kernel_rfl) (by kernel_rfl) (by kernel_rfl) rfl hS ?_ ?_; rotate_left
          · rintro w' ⟨⟨⟨q0, q1, q2, q3⟩, q4, q5, q6, q7⟩, qx⟩; go_simp; with_reducible rfl
          go_frame
          refine held_take (i := 8) (dst := some 47) (v := ?_) rfl rfl (by kernel_rfl) (by kernel_rfl) (by kernel_rfl) rfl hS ?_ ?_; rotate_left
          · rintro w' ⟨⟨⟨q0, q1, q2, q3⟩, q4, q5, q6, q7⟩, qx⟩; go_simp; with_reducible rfl
          go_frame
          refine held_take (i := 9) (dst := some 48) (v := ?_) rfl rfl (by kernel_rfl) (by kernel_rfl) (by kernel_rfl) rfl hS ?_ ?_; rotate_left
          · rintro w' ⟨⟨⟨q0, q1, q2, q3⟩, q4, q5, q6, q7⟩, qx⟩; go_simp; with_reducible rfl
          go_frame
          refine round_one (i := 10) (by kernel_rfl) ?_
          refine held_call (dst := some 49) rfl rfl rfl ?_ (R2.out _ G5.out) ?_
          · go_simp
          rintro e v6 ⟨rfl, h1⟩
          have G6 := Lib.hid (G5.out.trans (h1))
          have hS : (fun W => ((W.cell? ⟨w.heap.size, 0, none⟩ = some (.int .i64 a0.kind) ∧ W.cell? ⟨w.heap.size, 1, none⟩ = some (.int .i64 a0.num) ∧ W.cell? ⟨w.heap.size, 2, none⟩ = some (.string a0.name) ∧ W.cell? ⟨w.heap.size, 3, none⟩ = some (.slice a0.at_ a0.args.length a0.cap)) ∧ W.cell? ⟨w.heap.size + 1, 0, none⟩ = some (.int .i64 a1.kind) ∧ W.cell? ⟨w.heap.size + 1, 1, none⟩ = some (.int .i64 a1.num) ∧ W.cell? ⟨w.heap.size + 1, 2, none⟩ = some (.string a1.name) ∧ W.cell? ⟨w.heap.size + 1, 3, none⟩ = some (.slice a1.at_ a1.args.length a1.cap)) ∧ Ext ((w.alloc (.cells #[.int .i64 a0.kind, .int .i64 a0.num, .string a0.name, .slice a0.at_ a0.args.length a0.cap] 24)).alloc (.cells #[.int .i64 a1.kind, .int .i64 a1.num, .string a1.name, .slice a1.at_ a1.args.length a1.cap] 24)) W) v6 := ⟨boxes_two G6.out, G6.out⟩
          refine ⟨_, rfl, hS, ?_⟩
          clear h1
          go_frame
          refine held_take (i := 11) (dst := some 50) (v := ?_) rfl rfl (by kernel_rfl) (by kernel_rfl) (by kernel_rfl) rfl hS ?_ ?_; rotate_left
          · rintro w' ⟨⟨⟨q0, q1, q2, q3⟩, q4, q5, q6, q7⟩, qx⟩; go_simp; with_reducible rfl
          go_frame
          refine held_take (i := 12) (dst := some 51) (v := ?_) rfl rfl (by kernel_rfl) (by kernel_rfl) (by kernel_rfl) rfl hS ?_ ?_; rotate_left
          · rintro w' ⟨⟨⟨q0, q1, q2, q3⟩, q4, q5, q6, q7⟩, qx⟩; go_simp; with_reducible rfl
          go_frame
          refine held_take (i := 13) (dst := some 52) (v := ?_) rfl rfl (by kernel_rfl) (by kernel_rfl) (by kernel_rfl) rfl hS ?_ ?_; rotate_left
          · rintro w' ⟨⟨⟨q0, q1, q2, q3⟩, q4, q5, q6, q7⟩, qx⟩; go_simp; with_reducible rfl
          go_frame
          refine held_take (i := 14) (dst := some 53) (v := ?_) rfl rfl (by kernel_rfl) (by kernel_rfl) (by kernel_rfl) rfl hS ?_ ?_; rotate_left
          · rintro w' ⟨⟨⟨q0, q1, q2, q3⟩, q4, q5, q6, q7⟩, qx⟩; go_simp; with_reducible rfl
          go_frame
          refine held_take (i := 15) (dst := some 54) (v := ?_) rfl rfl (by kernel_rfl) (by kernel_rfl) (by kernel_rfl) rfl hS ?_ ?_; rotate_left
          · rintro w' ⟨⟨⟨q0, q1, q2, q3⟩, q4, q5, q6, q7⟩, qx⟩; go_simp; with_reducible rfl
          go_frame
          refine held_take (i := 17) (dst := some 56) (v := ?_) rfl rfl (by kernel_rfl) (by kernel_rfl) (by kernel_rfl) rfl hS ?_ ?_; rotate_left
          · rintro w' ⟨⟨⟨q0, q1, q2, q3⟩, q4, q5, q6, q7⟩, qx⟩; go_simp; with_reducible rfl
          go_frame
          refine held_take (i := 18) (dst := some 57) (v := ?_) rfl rfl (by kernel_rfl) (by kernel_rfl) (by kernel_rfl) rfl hS ?_ ?_; rotate_left
          · rintro w' ⟨⟨⟨q0, q1, q2, q3⟩, q4, q5, q6, q7⟩, qx⟩; go_simp; with_reducible rfl
          go_frame
          refine round_one (i := 16) (by kernel_rfl) ?_
          refine held_call (dst := some 55) rfl rfl rfl ?_ (rapply_at (W2.out.below (base_ext G6.out)) (W0.out.below (base_ext G6.out)) N0.out) ?_
          · go_simp
          rintro e v7 ⟨u1, rfl, t1, t2, h1⟩
          have G7 := Lib.hid (G6.out.trans (h1))
          have hS : (fun W => ((W.cell? ⟨w.heap.size, 0, none⟩ = some (.int .i64 a0.kind) ∧ W.cell? ⟨w.heap.size, 1, none⟩ = some (.int .i64 a0.num) ∧ W.cell? ⟨w.heap.size, 2, none⟩ = some (.string a0.name) ∧ W.cell? ⟨w.heap.size, 3, none⟩ = some (.slice a0.at_ a0.args.length a0.cap)) ∧ W.cell? ⟨w.heap.size + 1, 0, none⟩ = some (.int .i64 a1.kind) ∧ W.cell? ⟨w.heap.size + 1, 1, none⟩ = some (.int .i64 a1.num) ∧ W.cell? ⟨w.heap.size + 1, 2, none⟩ = some (.string a1.name) ∧ W.cell? ⟨w.heap.size + 1, 3, none⟩ = some (.slice a1.at_ a1.args.length a1.cap)) ∧ Ext ((w.alloc (.cells #[.int .i64 a0.kind, .int .i64 a0.num, .string a0.name, .slice a0.at_ a0.args.length a0.cap] 24)).alloc (.cells #[.int .i64 a1.kind, .int .i64 a1.num, .string a1.name, .slice a1.at_ a1.args.length a1.cap] 24)) W) v7 := ⟨boxes_two G7.out, G7.out⟩
          refine ⟨_, rfl, hS, ?_⟩
          have T1 := Lib.hid t1
          have T2 := Lib.hid t2
          clear t1 t2
          clear h1
          go_frame
          refine round_one (i := 19) (by kernel_rfl) ?_
          refine held_call (dst := some 58) rfl rfl rfl ?_ (rapply_at (W2.out.below (base_ext G7.out)) (W1.out.below (base_ext G7.out)) N1.out) ?_
          · go_simp
          rintro e v8 ⟨u2, rfl, t1, t2, h1⟩
          have G8 := Lib.hid (G7.out.trans (h1))
          have hS : (fun W => ((W.cell? ⟨w.heap.size, 0, none⟩ = some (.int .i64 a0.kind) ∧ W.cell? ⟨w.heap.size, 1, none⟩ = some (.int .i64 a0.num) ∧ W.cell? ⟨w.heap.size, 2, none⟩ = some (.string a0.name) ∧ W.cell? ⟨w.heap.size, 3, none⟩ = some (.slice a0.at_ a0.args.length a0.cap)) ∧ W.cell? ⟨w.heap.size + 1, 0, none⟩ = some (.int .i64 a1.kind) ∧ W.cell? ⟨w.heap.size + 1, 1, none⟩ = some (.int .i64 a1.num) ∧ W.cell? ⟨w.heap.size + 1, 2, none⟩ = some (.string a1.name) ∧ W.cell? ⟨w.heap.size + 1, 3, none⟩ = some (.slice a1.at_ a1.args.length a1.cap)) ∧ Ext ((w.alloc (.cells #[.int .i64 a0.kind, .int .i64 a0.num, .string a0.name, .slice a0.at_ a0.args.length a0.cap] 24)).alloc (.cells #[.int .i64 a1.kind, .int .i64 a1.num, .string a1.name, .slice a1.at_ a1.args.length a1.cap] 24)) W) v8 := ⟨boxes_two G8.out, G8.out⟩
          refine ⟨_, rfl, hS, ?_⟩
          have T3 := Lib.hid (T2.out.below h1)
          have T4 := Lib.hid t1
          have T5 := Lib.hid t2
          clear t1 t2
          clear h1
          go_frame
          refine round_one (i := 20) (by kernel_rfl) ?_
          refine held_call (dst := some 59) rfl rfl rfl ?_ (same_t2 HM.out T1.out T4.out T3.out T5.out) ?_
          · go_simp
          rintro e v10 ⟨rfl, h1⟩
          have G10 := Lib.hid (G8.out.trans (h1))
          have hS : (fun W => ((W.cell? ⟨w.heap.size, 0, none⟩ = some (.int .i64 a0.kind) ∧ W.cell? ⟨w.heap.size, 1, none⟩ = some (.int .i64 a0.num) ∧ W.cell? ⟨w.heap.size, 2, none⟩ = some (.string a0.name) ∧ W.cell? ⟨w.heap.size, 3, none⟩ = some (.slice a0.at_ a0.args.length a0.cap)) ∧ W.cell? ⟨w.heap.size + 1, 0, none⟩ = some (.int .i64 a1.kind) ∧ W.cell? ⟨w.heap.size + 1, 1, none⟩ = some (.int .i64 a1.num) ∧ W.cell? ⟨w.heap.size + 1, 2, none⟩ = some (.string a1.name) ∧ W.cell? ⟨w.heap.size + 1, 3, none⟩ = some (.slice a1.at_ a1.args.length a1.cap)) ∧ Ext ((w.alloc (.cells #[.int .i64 a0.kind, .int .i64 a0.num, .string a0.name, .slice a0.at_ a0.args.length a0.cap] 24)).alloc (.cells #[.int .i64 a1.kind, .int .i64 a1.num, .string a1.name, .slice a1.at_ a1.args.length a1.cap] 24)) W) v10 := ⟨boxes_two G10.out, G10.out⟩
          refine ⟨_, rfl, hS, ?_⟩
          clear h1
          go_frame
          refine held_take (i := 21) (dst := some 60) (v := ?_) rfl rfl (by kernel_rfl) (by kernel_rfl) (by kernel_rfl) rfl hS ?_ ?_; rotate_left
          · rintro w' ⟨⟨⟨q0, q1, q2, q3⟩, q4, q5, q6, q7⟩, qx⟩; go_simp; with_reducible rfl
          go_frame
          refine held_take (i := 22) (dst := some 61) (v := ?_) rfl rfl (by kernel_rfl) (by kernel_rfl) (by kernel_rfl) rfl hS ?_ ?_; rotate_left
          · rintro w' ⟨⟨⟨q0, q1, q2, q3⟩, q4, q5, q6, q7⟩, qx⟩; go_simp; with_reducible rfl
          go_frame
          refine round_end (by kernel_rfl) ?_
          have C1 := Lib.hid (fun (W : World) (h : Ext ((w.alloc (.cells #[.int .i64 a0.kind, .int .i64 a0.num, .string a0.name, .slice a0.at_ a0.args.length a0.cap] 24)).alloc (.cells #[.int .i64 a1.kind, .int .i64 a1.num, .string a1.name, .slice a1.at_ a1.args.length a1.cap] 24)) W) => show Calls Try.prog 13 #[.agg #[.int .i64 a0.kind, .int .i64 a0.num, .string a0.name, .slice a0.at_ a0.args.length a0.cap], .agg #[.int .i64 a1.kind, .int .i64 a1.num, .string a1.name, .slice a1.at_ a1.args.length a1.cap]] W (fun e w' => e = .returned (.bool true) ∧ Ext W w') from (unifiable_at a0 a1 W (W0.out.below (base_ext h)) (W1.out.below (base_ext h))).mono fun _ _ ⟨r, e1, e2, e3⟩ => ⟨by rw [e1, e2.2 ⟨HR0.out, HR1.out, _, HU.out⟩], e3⟩)
          have U0 := Lib.hid (fun (W : World) (h : Ext ((w.alloc (.cells #[.int .i64 a0.kind, .int .i64 a0.num, .string a0.name, .slice a0.at_ a0.args.length a0.cap] 24)).alloc (.cells #[.int .i64 a1.kind, .int .i64 a1.num, .string a1.name, .slice a1.at_ a1.args.length a1.cap] 24)) W) => show Calls Try.prog 10 #[.agg #[.int .i64 a0.kind, .int .i64 a0.num, .string a0.name, .slice a0.at_ a0.args.length a0.cap], .agg #[.int .i64 a1.kind, .int .i64 a1.num, .string a1.name, .slice a1.at_ a1.args.length a1.cap]] W (AnsR [a0] [a1] W) from (unify_at a0 a1 W (W0.out.below (base_ext h)) (W1.out.below (base_ext h))).mono fun _ _ h => allr_form h)
          clear hS HS x0 x1 x2 x3 y0 y1 y2 y3
          obtain ⟨⟨x0, x1, x2, x3⟩, y0, y1, y2, y3⟩ := boxes_two G10.out
          go_upto_region 14 with (first
      | (go_at_call 13; have hF := C1.out _ G10.out; (with_reducible refine hF.mono ?_); rintro e v11 ⟨rfl, h1⟩; have G11 := Lib.hid (G10.out.trans h1); clear x0 x1 x2 x3 y0 y1 y2 y3; obtain ⟨⟨x0, x1, x2, x3⟩, y0, y1, y2, y3⟩ := boxes_two G11.out; clear h1 hF)
      | (go_at_call 10; have hF := U0.out _ G11.out; (with_reducible refine hF.mono ?_); rintro e v12 ⟨A5, c5, l5, er5, rfl, o5, b5, h1⟩; have G12 := Lib.hid (G11.out.trans h1); clear x0 x1 x2 x3 y0 y1 y2 y3; obtain ⟨⟨x0, x1, x2, x3⟩, y0, y1, y2, y3⟩ := boxes_two G12.out; have O5 := Lib.hid o5; have B5 := Lib.hid b5; clear h1 hF o5 b5))
          rcases gen_code HR0.out HR1.out HU.out O5.out with rfl | rfl
          · have HA := Lib.hid (gen_all HU.out O5.out)
            have HB := Lib.hid (ans_right O5.out)
            have n5 : l5.length ≤ 9223372036854775807 := B5.out.len
            clear C1 U0 O5 R0 R1 R2 G4 G5 G6 G7 G8 G10 G11 T1 T2 T3 T4 T5 x0 x1 x2 x3 y0 y1 y2 y3
            go_wp2_with fail
            go_loopw [82] (fun i w2 => ∃ j : Nat, j ≤ l5.length ∧ i = .int .i64 j ∧ Hid (Ext v12 w2)) (fun i _ => l5.length - (intOf i).toNat)
            case atStart => exact ⟨0, Nat.zero_le _, rfl, Lib.hid (Ext.refl _)⟩
            case round =>
              obtain ⟨j, hj, rfl, G13⟩ := hrel
              by_cases hlt : j < l5.length
              · obtain ⟨b, o, rfl, ⟨c0, c1, c2, c3, c4⟩, hf, hx⟩ := (B5.out.below G13.out).get hlt
                have hm := bgetD_mem hlt
                have HX := Lib.hid (HA.out _ hm)
                have HN := Lib.hid (HB.out _ hm)
                have HT := Lib.hid hx
                have HF := Lib.hid hf
                generalize l5.getD j default = x at *
                clear hx hf hm
                obtain ⟨xv, ⟨k', n', s', A', c', a'⟩⟩ := x
                simp only [Tm.kind, Tm.num, Tm.name, Tm.at_, Tm.args, Tm.cap] at c0 c1 c2 c3 c4
                have V := Lib.hid (v_at xv)
                have CC := Lib.hid (show (wr.cell? ⟨b, o + j * 5, none⟩ = some (.int .i64 xv) ∧ wr.cell? ⟨b, o + j * 5 + 1, none⟩ = some (.int .i64 k') ∧ wr.cell? ⟨b, o + j * 5 + 2, none⟩ = some (.int .i64 n') ∧ wr.cell? ⟨b, o + j * 5 + 3, none⟩ = some (.string s') ∧ wr.cell? ⟨b, o + j * 5 + 4, none⟩ = some (.slice A' a'.length c')) from ⟨c0, c1, c2, c3, c4⟩)
                go_wp2_with fail
                first | (go_region_held3 (fun W => (W.cell? ⟨b, o + j * 5, none⟩ = some (.int .i64 xv) ∧ W.cell? ⟨b, o + j * 5 + 1, none⟩ = some (.int .i64 k') ∧ W.cell? ⟨b, o + j * 5 + 2, none⟩ = some (.int .i64 n') ∧ W.cell? ⟨b, o + j * 5 + 3, none⟩ = some (.string s') ∧ W.cell? ⟨b, o + j * 5 + 4, none⟩ = some (.slice A' a'.length c')) ∧ Ext v12 W) (first | exact ⟨⟨c0, c1, c2, c3, c4⟩, G13.out⟩ | exact ⟨⟨c0, c1, c2, c3, c4⟩, G13.out.trans (Ext.drew _)⟩ | exact ⟨K14, G14.out⟩ | exact ⟨K15, G15.out⟩ | exact ⟨K16, G16.out⟩ | exact ⟨K17, G17.out⟩ | fail) (first
                  | (go_at_call 22; refine (V.out _).mono ?_; rintro e z14 ⟨rfl, h1⟩; have E14 := Lib.hid h1.undrew; have G14 := Lib.hid (G13.out.trans E14.out); have K14 := cells5 E14.out CC.out; clear h1)
                  | (go_at_call 20; have hF := rapply_v (W2.out.below (base_ext (G12.out.trans G14.out))) HF.out; (with_reducible refine hF.mono ?_); rintro e z15 ⟨u3, rfl, t1, t2, h1⟩; have E15 := Lib.hid (E14.out.trans h1); have G15 := Lib.hid (G13.out.trans E15.out); have K15 := cells5 E15.out CC.out; have T1 := Lib.hid t1; have T2 := Lib.hid t2; clear h1 hF t1 t2)
                  | (go_at_call 20; have hF := rapply_m (W2.out.below (base_ext (G12.out.trans G15.out))) (HT.out.below E15.out) HN.out; (with_reducible refine hF.mono ?_); rintro e z16 ⟨u4, rfl, t1, t2, h1⟩; have E16 := Lib.hid (E15.out.trans h1); have G16 := Lib.hid (G13.out.trans E16.out); have K16 := cells5 E16.out CC.out; have T3 := Lib.hid (T2.out.below h1); have T4 := Lib.hid t1; have T5 := Lib.hid t2; clear h1 hF t1 t2)
                  | (go_at_call 19; have hF := same_t2 HX.out T1.out T4.out T3.out T5.out; (with_reducible refine hF.mono ?_); rintro e z17 ⟨rfl, h1⟩; have E17 := Lib.hid (E16.out.trans h1); have G17 := Lib.hid (G13.out.trans E17.out); have K17 := cells5 E17.out CC.out; clear h1 hF))) | fail
                go_wp2_with fail
                go_roundw
                case rel => exact ⟨j + 1, by omega, by go_num, G17⟩
                case measure => simp [intOf]; omega
              · obtain rfl : j = l5.length := by omega
                go_wp2_with (first | (go_at_call 9; refine (AW.out _).mono ?_; rintro e v9 ⟨rfl, h1⟩; have X9 := Lib.hid (base_ext ((G12.out.trans G13.out).trans h1)); clear h1))
                go_ret
                exact ⟨rfl, X9.out⟩
          · clear C1 U0 O5 R0 R1 R2
            go_wp2_with (first | (go_at_call 9; refine (AW.out _).mono ?_; rintro e v9 ⟨rfl, h1⟩; have X9 := Lib.hid (base_ext (G12.out.trans h1)); clear h1))
            go_ret
            exact ⟨rfl, X9.out⟩
            
  · have d2 : decide ((40 : Int) < (a2.length : Int)) = true := by simp; omega
    clear hq0 hq1
    go_enter Try.func6, Try.ntmps6
    go_wp2_with (first
      | (go_at_call 8; have hF := Q0.out _ G0.out; (with_reducible refine hF.mono ?_); rintro e v1 ⟨rfl, h1⟩; have G1 := Lib.hid (G0.out.trans h1); clear x0 x1 x2 x3 y0 y1 y2 y3; obtain ⟨⟨x0, x1, x2, x3⟩, y0, y1, y2, y3⟩ := boxes_two G1.out; clear h1 hF)
      | (go_at_call 8; have hF := Q1.out _ G1.out; (with_reducible refine hF.mono ?_); rintro e v2 ⟨rfl, h1⟩; have G2 := Lib.hid (G1.out.trans h1); clear x0 x1 x2 x3 y0 y1 y2 y3; obtain ⟨⟨x0, x1, x2, x3⟩, y0, y1, y2, y3⟩ := boxes_two G2.out; clear h1 hF)
      | (go_at_call 9; refine (AW.out _).mono ?_; rintro e v9 ⟨rfl, h1⟩; have X9 := Lib.hid (base_ext (G2.out.trans h1)); clear h1))
    go_ret
    exact ⟨rfl, X9.out⟩
end Go.Proofs.Ytdjbigfobodecaa.unifyGeneral
