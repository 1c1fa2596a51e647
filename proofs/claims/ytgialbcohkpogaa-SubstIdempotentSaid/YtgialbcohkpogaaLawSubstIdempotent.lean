/-
  Proves SubstIdempotent: for every list of bindings and every term, a substitution in solved form leaves none of its variables, applying it twice changes nothing, and composed with itself or with the empty one it is itself (for a list of more than 300 nodes, a term of more than 200, or a nesting above 64 only the fixed examples are asked). No condition.
  The walk of SubstIdempotent.
-/
import Derived.Test.YtgialbcohkpogaaSuLiveW
import Derived.Test.YtgialbcohkpogaaSuNodes
import Derived.Test.YtgialbcohkpogaaSuOpen
import Derived.Test.YtgialbcohkpogaaTmOne
import Derived.Test.YtgialbcohkpogaaTmGround
import Derived.Deep.RegionHeld3
import Derived.Test.YtgialbcohkpogaaRows
import Derived.ProofKit
import Derived.OpenShut
import Derived.ShutString
import Derived.ChangeOld
import Derived.Below
namespace Go.Proofs.Ytgialbcohkpogaa.substIdempotent
open Go.ChangeShapes Go.WideShapes Go.ChangeAt Go.RowKit Go.Sort
set_option linter.unusedVariables false

/-- What holds behind the application: the box of its result. -/
structure Idem (a0 : List Bd) (a1 u : Tm) (w W : World) (T : Nat) : Prop where
  below : Below w.heap.size w W
  box : Held T W (.int .i64 u.kind) (.int .i64 u.num) (.string u.name) (.slice u.at_ u.args.length u.cap)
  at_ : u.At W
  like : u.strip = (a1.app a0).strip
theorem Idem.keep {a0 : List Bd} {a1 u : Tm} {w W W' : World} {T : Nat} (h : Idem a0 a1 u w W T) (hb : Below W.heap.size W W') : Idem a0 a1 u w W' T := ⟨h.below.trans (hb.mono h.below.size), h.box.below hb, h.at_.below hb, h.like⟩

set_option maxHeartbeats 16000000 in
set_option maxRecDepth 100000 in
theorem walk (A0 : Option Addr) (a0 : List Bd) (c0 : Nat) (a1 : Tm) (w : World) (w0 : BLst w A0 a0 c0) (w1 : a1.At w) :
    Calls Try.prog 4 #[.slice A0 a0.length c0, a1.val] w fun e w' => e = .returned (.bool true) ∧ Below w.heap.size w w' := by
  obtain ⟨g0, hg0⟩ : ∃ g, greatB a0 300 = g := ⟨_, rfl⟩
  obtain ⟨g2, hg2⟩ : ∃ g, decide (weigh [a1] 200 64 < 0) = g := ⟨_, rfl⟩
  obtain ⟨r, hr⟩ : ∃ r, rightS a0 = r := ⟨_, rfl⟩
  have G0 := Lib.hid (fun (W : World) (h : Below w.heap.size w W) => great_s_at a0 A0 c0 300 W (w0.below h) (by omega) (by omega) hg0)
  have G2 := Lib.hid (fun (W : World) (b : Nat) (hb : b = W.heap.size) (h : Below w.heap.size w W) => great_single a1 200 W b hb (w1.below h) (by omega) (by omega) hg2)
  have W0 := Lib.hid w0
  have W1 := Lib.hid w1
  have HG0 := Lib.hid hg0
  have HG2 := Lib.hid hg2
  have HR := Lib.hid hr
  have R1 := Lib.hid (fun (W : World) (h : Below w.heap.size w W) (hl : a0.length ≤ 1000000) => show Calls Try.prog 11 #[.slice A0 a0.length c0] W fun e w' => e = .returned (.bool r) ∧ Below W.heap.size W w' from by rw [← hr]; exact right_s_at a0 A0 c0 W (w0.below h) hl)
  have HBX := Lib.hid (held_new (v0 := .int .i64 a1.kind) (v1 := .int .i64 a1.num) (v2 := .string a1.name) (v3 := .slice a1.at_ a1.args.length a1.cap) w 26)
  clear w0 w1 hg0 hg2 hr
  go_enter Try.func4, Try.ntmps4
  go_wp2_with fail
  refine (live_at _).mono ?_
  rintro e w3 ⟨rfl, hb3⟩
  have H3 := Lib.hid (HBX.out.below hb3)
  have B3 := Lib.hid ((below1 w _).trans (hb3.mono (by simp)))
  clear hb3 HBX
  go_wp2_with fail
  refine (G0.out _ B3.out).mono ?_
  rintro e w4 ⟨rfl, hb4⟩
  have H4 := Lib.hid (H3.out.below hb4)
  have B4 := Lib.hid (B3.out.trans (hb4.mono B3.out.size))
  clear hb4 H3 B3 G0
  cases g0 with
  | true =>
    go_wp2_with fail
    go_ret
    exact ⟨rfl, B4.out⟩
  | false =>
    have hN0 := great_nodes HG0.out
    have L0 := len_nodes_b hN0
    have M0 := Lib.hid (fun x (hx : x ∈ a0) => show x.tm.nodes ≤ 300 by have := nodes_mem_b hN0 x hx; omega)
    clear hN0 HG0
    obtain ⟨x0, d0, d1, d2, d3, _⟩ := H4.out
    go_wp2_with fail
    refine (G2.out _ _ rfl B4.out).mono ?_
    rintro e w6 ⟨rfl, hb6⟩
    have H6 := Lib.hid (H4.out.below hb6)
    have B6 := Lib.hid (B4.out.trans (hb6.mono B4.out.size))
    clear hb6 H4 B4 x0 d0 d1 d2 d3 G2
    cases g2 with
    | true =>
      go_wp2_with fail
      go_ret
      exact ⟨rfl, B6.out⟩
    | false =>
      have hN2 := not_great HG2.out
      have HN2 := Lib.hid (show a1.nodes ≤ 200 by simp only [nodesL] at hN2; omega)
      clear hN2 HG2
      go_wp2_with fail
      refine (R1.out _ B6.out (by omega)).mono ?_
      rintro e w7 ⟨rfl, hb7⟩
      have H7 := Lib.hid (H6.out.below hb7)
      have B7 := Lib.hid (B6.out.trans (hb7.mono B6.out.size))
      clear hb7 H6 B6 R1
      cases r with
      | false =>
        go_wp2_with fail
        go_ret
        exact ⟨rfl, B7.out⟩
      | true =>
        have GA := Lib.hid (right_good HR.out (by omega))
        have QA := Lib.hid (show Calls Try.prog 13 #[.slice A0 a0.length c0, .agg #[.int .i64 a1.kind, .int .i64 a1.num, .string a1.name, .slice a1.at_ a1.args.length a1.cap]] w7 (Made (a1.app a0) w7) from apply_at a0 A0 c0 a1 w7 (W1.out.below B7.out) (by have := HN2.out; omega) (fun W' h' => in_order_at a0 A0 c0 W' ((W0.out.below B7.out).below h') GA.out))
        obtain ⟨x0, d0, d1, d2, d3, _⟩ := H7.out
        go_wp2_with fail
        refine (QA.out).mono ?_
        rintro e w8 ⟨u, rfl, hu, hlie, hb8⟩
        have hI0 : Idem a0 a1 u w (w8.alloc (.cells #[.int .i64 u.kind, .int .i64 u.num, .string u.name, .slice u.at_ u.args.length u.cap] 26)) w8.heap.size :=
          ⟨(B7.out.trans (hb8.mono B7.out.size)).alloc (Nat.le_trans B7.out.size hb8.size) _, held_new w8 _, (hlie.at trivial).alloc _, hu⟩
        have I0 := Lib.hid hI0
        clear hu hlie hb8 QA x0 d0 d1 d2 d3 H7 B7 hI0
        go_wp2_with fail
        go_loopw [6] (fun i wr => ∃ j : Nat, j ≤ a0.length ∧ i = .int .i64 j ∧ Hid (Idem a0 a1 u w wr w8.heap.size)) (fun i _ => a0.length - (intOf i).toNat)
        case atStart => exact ⟨0, Nat.zero_le _, rfl, I0⟩
        case round =>
          clear I0
          obtain ⟨j, hj, rfl, I⟩ := hrel
          by_cases hlt : j < a0.length
          · obtain ⟨b0, o, rfl, ⟨c00, _⟩, _⟩ := (W0.out.below I.out.below).get hlt
            have hno : decide ((a0.getD j default).var ∈ u.occ) = false := by
              rw [← occ_strip.1, I.out.like, occ_strip.1]
              exact decide_eq_false (solved_var HR.out a1 (bgetD_mem hlt))
            generalize (a0.getD j default).var = v at *
            have QO := Lib.hid (fun (W : World) (h : Below wr.heap.size wr W) => show Calls Try.prog 14 #[.int .i64 v, .agg #[.int .i64 u.kind, .int .i64 u.num, .string u.name, .slice u.at_ u.args.length u.cap]] W fun e w' => e = .returned (.bool false) ∧ Below W.heap.size W w' from occurs_at v u W (I.out.at_.below h) hno)
            have c00' := cell_regrown c00
            have e0 := cell_regrown I.out.box.c0
            have e1 := cell_regrown I.out.box.c1
            have e2 := cell_regrown I.out.box.c2
            have e3 := cell_regrown I.out.box.c3
            clear hno
            go_wp2_with fail
            refine wp_region_quiet_below (by kernel_rfl) (by kernel_rfl) ?_
            go_big_quiet_step (first | (go_at_call 14; exact Calls.regrown_of (QO.out _ (below_regrown _ _ _))))
            go_big_quiet_step (first | (go_at_call 14; exact Calls.regrown_of (QO.out _ (below_regrown _ _ _))))
            go_big_quiet_step (first | (go_at_call 14; exact Calls.regrown_of (QO.out _ (below_regrown _ _ _))))
            go_big_quiet_step (first | (go_at_call 14; exact Calls.regrown_of (QO.out _ (below_regrown _ _ _))))
            repeat (go_big_quiet_step (first | (go_at_call 14; exact Calls.regrown_of (QO.out _ (below_regrown _ _ _)))))
            refine wpQuiet_nil ?_
            intro w9 hw'
            have I9 := Lib.hid (I.out.keep (regrown_below hw'))
            clear e0 e1 e2 e3 c00 c00' hw'
            go_wp2_with fail
            go_roundw
            case rel => exact ⟨j + 1, by omega, by go_num, I9⟩
            case measure => simp [intOf]; omega
          · obtain rfl : j = a0.length := by omega
            have C1 := Lib.hid (fun (W : World) (h : Below w.heap.size w W) => compose_at a0 a0 A0 A0 c0 c0 W (W0.out.below h) (W0.out.below h) (by omega) GA.out.nodes GA.out.nodes)
            have C2 := Lib.hid (fun (W : World) (h : Below w.heap.size w W) => show Calls Try.prog 10 #[.slice none 0 0, .slice A0 a0.length c0] W (CompR [] a0 W) from compose_at [] a0 none A0 0 c0 W (BLst.nil W) (W0.out.below h) (by simp; omega) (fun x hx => by cases hx) GA.out.nodes)
            have C3 := Lib.hid (fun (W : World) (h : Below w.heap.size w W) => show Calls Try.prog 10 #[.slice A0 a0.length c0, .slice none 0 0] W (CompR a0 [] W) from compose_at a0 [] A0 none c0 0 W (W0.out.below h) (BLst.nil W) (by simp; omega) GA.out.nodes (fun x hx => by cases hx))
            clear hlt
            go_wp2_with fail
            refine (C1.out _ I.out.below).mono ?_
            rintro e w10 ⟨X, q1, lx, he, hs1, hl1, hb1⟩
            rw [comp_self HR.out] at he hs1
            simp only at he hs1
            subst he
            have I1 := Lib.hid (I.out.keep hb1)
            have S1 := Lib.hid hs1
            have L1 := Lib.hid hl1
            clear hs1 hl1 hb1 C1 I
            go_wp2_with fail
            refine (C2.out _ I1.out.below).mono ?_
            rintro e w11 ⟨Y, q2, ly, he, hs1, hl1, hb1⟩
            rw [comp_nil_left HR.out] at he hs1
            simp only at he hs1
            subst he
            have I2 := Lib.hid (I1.out.keep hb1)
            have L1' := Lib.hid (L1.out.below hb1)
            have S2 := Lib.hid hs1
            have L2 := Lib.hid hl1
            clear hs1 hl1 hb1 C2 I1 L1
            go_wp2_with fail
            refine (C3.out _ I2.out.below).mono ?_
            rintro e w13 ⟨Z, q3, lz, he, hs1, hl1, hb1⟩
            rw [comp_nil_right HR.out] at he hs1
            simp only at he hs1
            subst he
            have I3 := Lib.hid (I2.out.keep hb1)
            have L1 := Lib.hid (L1'.out.below hb1)
            have L2' := Lib.hid (L2.out.below hb1)
            have S3 := Lib.hid hs1
            have L3 := Lib.hid hl1
            clear hs1 hl1 hb1 C3 I2 L1' L2
            have hr : Below w13.heap.size w13 w13 := Below.refl _ _
            have BB := Lib.hid (fun (W : World) (h : Below w13.heap.size w13 W) => I3.out.below.trans (h.mono I3.out.below.size))
            have R1 := Lib.hid (fun (W : World) (h : Below w13.heap.size w13 W) => show Calls Try.prog 13 #[.slice A0 a0.length c0, .agg #[.int .i64 u.kind, .int .i64 u.num, .string u.name, .slice u.at_ u.args.length u.cap]] W (Made (u.app a0) W) from apply_at a0 A0 c0 u W (I3.out.at_.below h) (by
              rw [nodes_same I3.out.like]
              have h1 := (nodes_app (b := a0) (N := 300) M0.out).1 a1
              have h2 := HN2.out
              omega) (fun W' h' => in_order_at a0 A0 c0 W' ((W0.out.below (BB.out W h)).below h') GA.out))
            have R2 := Lib.hid (fun (W : World) (h : Below w13.heap.size w13 W) (y : Tm) (hy : y.strip = (u.app a0).strip) (hya : y.At W) => show Calls Try.prog 12 #[y.val, .agg #[.int .i64 u.kind, .int .i64 u.num, .string u.name, .slice u.at_ u.args.length u.cap]] W fun e w' => e = .returned (.bool true) ∧ Below W.heap.size W w' from same_at y u W hya (I3.out.at_.below h) (same_strip (by rw [hy, app_like (b := a0) (b' := a0) rfl I3.out.like, solved_twice HR.out, I3.out.like])))
            have R3 := Lib.hid (fun (W : World) (h : Below w13.heap.size w13 W) => show Calls Try.prog 15 #[.slice X lx.length q1, .slice A0 a0.length c0] W fun e w' => e = .returned (.bool true) ∧ Below W.heap.size W w' from by rw [← sameB_strip S1.out]; exact same_s_at lx a0 X A0 q1 c0 W (L1.out.below h) (W0.out.below (BB.out W h)))
            have R4 := Lib.hid (fun (W : World) (h : Below w13.heap.size w13 W) => show Calls Try.prog 15 #[.slice Y ly.length q2, .slice A0 a0.length c0] W fun e w' => e = .returned (.bool true) ∧ Below W.heap.size W w' from by rw [← sameB_strip S2.out]; exact same_s_at ly a0 Y A0 q2 c0 W (L2'.out.below h) (W0.out.below (BB.out W h)))
            have R5 := Lib.hid (fun (W : World) (h : Below w13.heap.size w13 W) => show Calls Try.prog 15 #[.slice Z lz.length q3, .slice A0 a0.length c0] W fun e w' => e = .returned (.bool true) ∧ Below W.heap.size W w' from by rw [← sameB_strip S3.out]; exact same_s_at lz a0 Z A0 q3 c0 W (L3.out.below h) (W0.out.below (BB.out W h)))
            have HK := Lib.hid (fun (W : World) (h : Below w13.heap.size w13 W) => show Below w13.heap.size w13 W ∧ W.cell? ⟨w8.heap.size, 0, none⟩ = some (.int .i64 u.kind) ∧ W.cell? ⟨w8.heap.size, 1, none⟩ = some (.int .i64 u.num) ∧ W.cell? ⟨w8.heap.size, 2, none⟩ = some (.string u.name) ∧ W.cell? ⟨w8.heap.size, 3, none⟩ = some (.slice u.at_ u.args.length u.cap) from ⟨h, keepv h I3.out.box.c0, keepv h I3.out.box.c1, keepv h I3.out.box.c2, keepv h I3.out.box.c3⟩)
            clear L1 L2' L3 I3 GA HN2
            go_wp2_with fail
            first | (go_region_held3 (fun W => Below w13.heap.size w13 W ∧ W.cell? ⟨w8.heap.size, 0, none⟩ = some (.int .i64 u.kind) ∧ W.cell? ⟨w8.heap.size, 1, none⟩ = some (.int .i64 u.num) ∧ W.cell? ⟨w8.heap.size, 2, none⟩ = some (.string u.name) ∧ W.cell? ⟨w8.heap.size, 3, none⟩ = some (.slice u.at_ u.args.length u.cap)) (exact HK.out _ (by first | assumption | exact hr.drew | exact hr)) (first
              | (go_at_call 13; have hH := (‹Below w13.heap.size w13 _ ∧ _›).1; (with_reducible refine (R1.out _ hH).mono ?_); rintro e v1 ⟨y, rfl, hy, hly, hb1⟩; have hyv := hly.at trivial; have hI := hH.trans (hb1.mono hH.size); clear hb1 hH hly)
              | (go_at_call 12; have hH := (‹Below w13.heap.size w13 _ ∧ _›).1; (with_reducible refine (R2.out _ hH y hy hyv).mono ?_); rintro e v2 ⟨rfl, hb1⟩; have hI := hH.trans (hb1.mono hH.size); clear hb1 hH)
              | (go_at_call 15; have hH := (‹Below w13.heap.size w13 _ ∧ _›).1; (with_reducible refine (R3.out _ hH).mono ?_); rintro e v3 ⟨rfl, hb1⟩; have hI := hH.trans (hb1.mono hH.size); clear hb1 hH)
              | (go_at_call 15; have hH := (‹Below w13.heap.size w13 _ ∧ _›).1; (with_reducible refine (R4.out _ hH).mono ?_); rintro e v4 ⟨rfl, hb1⟩; have hI := hH.trans (hb1.mono hH.size); clear hb1 hH)
              | (go_at_call 15; have hH := (‹Below w13.heap.size w13 _ ∧ _›).1; (with_reducible refine (R5.out _ hH).mono ?_); rintro e v5 ⟨rfl, hb1⟩; have hI := hH.trans (hb1.mono hH.size); clear hb1 hH))) | fail
            all_goals (have hS := (‹Below w13.heap.size w13 _ ∧ _›).1)
            all_goals (have HE := Lib.hid (BB.out _ hS))
            all_goals go_wp2_with fail
            all_goals go_ret
            all_goals exact ⟨rfl, HE.out⟩
end Go.Proofs.Ytgialbcohkpogaa.substIdempotent
namespace Go.Proofs.Ytgialbcohkpogaa.substIdempotent
open Go.ChangeShapes Go.WideShapes Go.ChangeAt Go.RowKit Go.Sort
open Go.ChangeMaps (open_string shut_string)
set_option linter.unusedVariables false

theorem own : ownKnob Try.prog.godebug = none := by kernel_rfl
theorem laidOut : laidOutB Try.prog = true := by kernel_rfl

set_option maxRecDepth 100000 in
theorem lifted (os : Os) (started : os.Started) (H : Type) (enc : TypeId × Value → H) :
    ReturnsInHanded {} Try.checked os 4 .any (Rows.substIdempotentSpec.pre6 enc Try.prog Try.f4 Rows.substIdempotentRow.domain false) (Rows.substIdempotentSpec.post enc Try.prog Try.f4 false true false false) := by
  refine returnsInHanded_of_change (C := Try.checked) own started (by kernel_rfl) Try.func4
    (ChangeSpec.witness6 (enc := enc) (C := Try.checked) false ⟨#[], #[.slice none 0 0, .agg #[.int .i64 0, .int .i64 0, .string ByteArray.empty, .slice none 0 0]], []⟩ 8 (by kernel_rfl) (by kernel_rfl) (by kernel_rfl) (by kernel_rfl)) ?_
  intro W base args ds gs before hval0 hW hcnd _
  have hval : ∀ (j : Nat) t v, Try.f4.params[j]? = some t → args[j]? = some v → Value.okWide Try.prog W .any base t v := hval0
  have hW' := hW
  obtain ⟨p, q, hA0, hV, rfl, hfz, hnd⟩ := hW
  have hA : DataW.TrodAll enc Try.prog W 0 (fun _ => true) true Try.f4.params.toList args.toList ds p := hA0
  rw [Try.params4] at hA hval
  obtain ⟨v0, vs0, d0, ds0, p0, q0, hargs, rfl, rfl, h0, r0⟩ := trodAll_cons hA
  obtain ⟨v1, vs1, d1, ds1, p1, q1, rfl, rfl, rfl, h1, r1⟩ := trodAll_cons r0
  obtain ⟨rfl, rfl, rfl⟩ := trodAll_nil r1
  obtain rfl : args = #[v0, v1] := by cases args; simp_all
  obtain ⟨rfl, rfl⟩ := trodVars_none hV
  have lt0 : ∀ x ∈ p0, x.block < W.heap.size := by obtain ⟨m, hm⟩ := h0; exact DataW.trod_lt m _ _ _ hm
  obtain ⟨A0, a0, c0, rfl, w0⟩ := open_bds (hval 0 23 v0 rfl rfl) h0
  have lt1 : ∀ x ∈ p1, x.block < W.heap.size := by obtain ⟨m, hm⟩ := h1; exact DataW.trod_lt m _ _ _ hm
  obtain ⟨a1, rfl, w1⟩ := open_tm types (hval 1 26 v1 rfl rfl) h1
  clear hA0 hval0
  refine (walk A0 a0 c0 a1 W w0 w1).mono fun e W' ⟨he, bel⟩ => ?_
  subst he
  exact ⟨_, rfl, _, _, _, [], _, [], hW', trodAll_mk1 (shut_bool Try.underlying4 _), (trodAll_cons_mk (Below.trod laidOut (by kernel_rfl) (of_decide_eq_true (by kernel_rfl)) h0 bel lt0) (trodAll_cons_mk (Below.trod laidOut (by kernel_rfl) (of_decide_eq_true (by kernel_rfl)) h1 bel lt1) trodAll_mk0)), rfl, bel.frame _, fun h => by cases h⟩

theorem over : Rows.substIdempotentRow.holds Try.pinned (OpenSpec.ofChange Rows.substIdempotentSpec) :=
  OpenClaim.holds_of_wide 4 Try.f4 rfl rfl rfl rfl rfl rfl rfl ⟨rfl, rfl, rfl, rfl, rfl⟩ rfl rfl rfl rfl rfl (by kernel_rfl) Try.func4 (by kernel_rfl)
    (of_decide_eq_true (by kernel_rfl)) (by unfold Func.isWrapper; first | (rw [if_pos (by decide +kernel)]; kernel_rfl) | (rw [if_neg (by decide +kernel)]; exact ⟨rfl, rfl⟩))
    (fun os started H enc _ => lifted os started H enc)

/-- THE STATEMENT. -/
theorem proved : Rows.SubstIdempotentSaid := over
#print axioms proved
end Go.Proofs.Ytgialbcohkpogaa.substIdempotent
