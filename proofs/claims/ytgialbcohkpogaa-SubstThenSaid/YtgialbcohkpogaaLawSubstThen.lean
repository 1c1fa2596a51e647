/-
  Proves SubstThen: for every two lists of bindings and every term, applying a composition is the same as applying its first part and then its second part (for lists of more than 300 nodes, a term of more than 200, or a nesting above 64 only the fixed examples are asked). No condition.
  The walk of SubstThen.
-/
import Derived.Test.YtgialbcohkpogaaSuLiveW
import Derived.Test.YtgialbcohkpogaaSuNodes
import Derived.Test.YtgialbcohkpogaaSuOpen
import Derived.Test.YtgialbcohkpogaaTmOne
import Derived.Deep.RegionHeld3
import Derived.Test.YtgialbcohkpogaaRows
import Derived.ProofKit
import Derived.OpenShut
import Derived.ShutString
import Derived.ChangeOld
import Derived.Below
namespace Go.Proofs.Ytgialbcohkpogaa.substThen
open Go.ChangeShapes Go.WideShapes Go.ChangeAt Go.RowKit Go.Sort
set_option linter.unusedVariables false

set_option maxHeartbeats 16000000 in
set_option maxRecDepth 100000 in
theorem walk (A0 : Option Addr) (a0 : List Bd) (c0 : Nat) (A1 : Option Addr) (a1 : List Bd) (c1 : Nat) (a2 : Tm) (w : World) (w0 : BLst w A0 a0 c0) (w1 : BLst w A1 a1 c1) (w2 : a2.At w) :
    Calls Try.prog 3 #[.slice A0 a0.length c0, .slice A1 a1.length c1, a2.val] w fun e w' => e = .returned (.bool true) ∧ Below w.heap.size w w' := by
  obtain ⟨g0, hg0⟩ : ∃ g, greatB a0 300 = g := ⟨_, rfl⟩
  obtain ⟨g1, hg1⟩ : ∃ g, greatB a1 300 = g := ⟨_, rfl⟩
  obtain ⟨g2, hg2⟩ : ∃ g, decide (weigh [a2] 200 64 < 0) = g := ⟨_, rfl⟩
  have G0 := Lib.hid (fun (W : World) (h : Below w.heap.size w W) => great_s_at a0 A0 c0 300 W (w0.below h) (by omega) (by omega) hg0)
  have G1 := Lib.hid (fun (W : World) (h : Below w.heap.size w W) => great_s_at a1 A1 c1 300 W (w1.below h) (by omega) (by omega) hg1)
  have G2 := Lib.hid (fun (W : World) (b : Nat) (hb : b = W.heap.size) (h : Below w.heap.size w W) => great_single a2 200 W b hb (w2.below h) (by omega) (by omega) hg2)
  have hl0 := w0.len
  have hl1 := w1.len
  have W0 := Lib.hid w0
  have W1 := Lib.hid w1
  have W2 := Lib.hid w2
  have HG0 := Lib.hid hg0
  have HG1 := Lib.hid hg1
  have HG2 := Lib.hid hg2
  have HBX := Lib.hid (held_new (v0 := .int .i64 a2.kind) (v1 := .int .i64 a2.num) (v2 := .string a2.name) (v3 := .slice a2.at_ a2.args.length a2.cap) w 26)
  clear w0 w1 w2 hg0 hg1 hg2
  have HC := Lib.hid (fun (W : World) (h : Below w.heap.size w W) (hh0 : greatB a0 300 = false) (hh1 : greatB a1 300 = false) => compose_at a0 a1 A0 A1 c0 c1 W (W0.out.below h) (W1.out.below h) (by have := len_nodes_b (great_nodes hh0); have := len_nodes_b (great_nodes hh1); omega) (fun x hx => by have := nodes_mem_b (great_nodes hh0) x hx; omega) (fun x hx => by have := nodes_mem_b (great_nodes hh1) x hx; omega))
  go_enter Try.func3, Try.ntmps3
  go_wp2_with fail
  refine (live_at _).mono ?_
  rintro e w3 ⟨rfl, hb3⟩
  have H3 := Lib.hid (HBX.out.below hb3)
  have B3 := Lib.hid ((below1 w _).trans (hb3.mono (by simp)))
  obtain ⟨x0, d0, d1, d2, d3, _⟩ := H3.out
  clear hb3 HBX
  go_wp2_with fail
  refine (G0.out _ B3.out).mono ?_
  rintro e w4 ⟨rfl, hb4⟩
  have H4 := Lib.hid (H3.out.below hb4)
  have B4 := Lib.hid (B3.out.trans (hb4.mono B3.out.size))
  clear hb4 x0 d0 d1 d2 d3 H3 B3 G0
  cases g0 with
  | true =>
    go_wp2_with fail
    go_ret
    exact ⟨rfl, B4.out⟩
  | false =>
    go_wp2_with fail
    refine (G1.out _ B4.out).mono ?_
    rintro e w5 ⟨rfl, hb5⟩
    have H5 := Lib.hid (H4.out.below hb5)
    have B5 := Lib.hid (B4.out.trans (hb5.mono B4.out.size))
    clear hb5 H4 B4 G1
    cases g1 with
    | true =>
      go_wp2_with fail
      go_ret
      exact ⟨rfl, B5.out⟩
    | false =>
      obtain ⟨x0, d0, d1, d2, d3, _⟩ := H5.out
      go_wp2_with fail
      refine (G2.out _ _ rfl B5.out).mono ?_
      rintro e w6 ⟨rfl, hb6⟩
      have H6 := Lib.hid (H5.out.below hb6)
      have B6 := Lib.hid (B5.out.trans (hb6.mono B5.out.size))
      clear hb6 H5 B5 x0 d0 d1 d2 d3 G2
      cases g2 with
      | true =>
        go_wp2_with fail
        go_ret
        exact ⟨rfl, B6.out⟩
      | false =>
        have hN0 := great_nodes HG0.out
        have hN1 := great_nodes HG1.out
        have hN2 := not_great HG2.out
        have HN0 := Lib.hid hN0
        have HN1 := Lib.hid hN1
        have HN2 := Lib.hid (show a2.nodes ≤ 200 by simp only [nodesL] at hN2; omega)
        clear hN0 hN1 hN2
        go_wp2_with fail
        refine (HC.out _ B6.out HG0.out HG1.out).mono ?_
        rintro e w7 ⟨A, q, l, rfl, hs, hl, hb7⟩
        have H7 := Lib.hid (H6.out.below hb7)
        have B7 := Lib.hid (B6.out.trans (hb7.mono B6.out.size))
        have HS := Lib.hid hs
        have HL := Lib.hid hl
        have hcode := comp_code a0 a1
        have HE := Lib.hid (comp_err (a := a0) (c := a1))
        obtain ⟨code, hc⟩ : ∃ k, (comp a0 a1).2 = k := ⟨_, rfl⟩
        rw [hc] at hcode HE ⊢
        have HCo := Lib.hid hc
        clear hb7 H6 B6 hs hl hc
        by_cases hz : code = 0
        · subst hz
          have HO := Lib.hid (show comp a0 a1 = ((comp a0 a1).1, 0) by rw [← HCo.out])
          clear hcode HE HCo
          have hok := comp_ok HO.out
          have HRl := Lib.hid (show rightS l = true by rw [rightS_like HS.out]; exact hok.2.2.2)
          have hll : l.length ≤ 1000 := by
            have h1 := comp_length HO.out
            have h2 : l.length = (comp a0 a1).1.length := by rw [← stripB_len l, HS.out, stripB_len]
            have := len_nodes_b HN0.out
            have := len_nodes_b HN1.out
            omega
          have GL := Lib.hid (right_good HRl.out (by omega))
          have GA0 := Lib.hid (right_good hok.1 (by have := len_nodes_b HN0.out; omega))
          have GA1 := Lib.hid (right_good hok.2.1 (by have := len_nodes_b HN1.out; omega))
          clear hok hll
          have R1 := Lib.hid (fun (W : World) (h : Below w7.heap.size w7 W) => show Calls Try.prog 11 #[.slice A l.length q] W fun e w' => e = .returned (.bool true) ∧ Below W.heap.size W w' from by rw [← HRl.out]; exact right_s_at l A q W (HL.out.below h) GL.out.len)
          have R2 := Lib.hid (fun (W : World) (h : Below w7.heap.size w7 W) => show Calls Try.prog 13 #[.slice A l.length q, .agg #[.int .i64 a2.kind, .int .i64 a2.num, .string a2.name, .slice a2.at_ a2.args.length a2.cap]] W (Made (a2.app l) W) from apply_at l A q a2 W (W2.out.below (B7.out.trans (h.mono B7.out.size))) (by have := HN2.out; omega) (fun W' h' => in_order_at l A q W' ((HL.out.below h).below h') GL.out))
          have R3 := Lib.hid (fun (W : World) (h : Below w7.heap.size w7 W) => show Calls Try.prog 13 #[.slice A0 a0.length c0, .agg #[.int .i64 a2.kind, .int .i64 a2.num, .string a2.name, .slice a2.at_ a2.args.length a2.cap]] W (Made (a2.app a0) W) from apply_at a0 A0 c0 a2 W (W2.out.below (B7.out.trans (h.mono B7.out.size))) (by have := HN2.out; omega) (fun W' h' => in_order_at a0 A0 c0 W' ((W0.out.below (B7.out.trans (h.mono B7.out.size))).below h') GA0.out))
          have R4 := Lib.hid (fun (W : World) (h : Below w7.heap.size w7 W) (y : Tm) (hy : y.strip = (a2.app a0).strip) (hya : y.At W) => apply_at a1 A1 c1 y W hya (by
            rw [nodes_same hy]
            have h1 := (nodes_app (b := a0) (N := 300) (fun x hx => by have := nodes_mem_b HN0.out x hx; omega)).1 a2
            have h2 := HN2.out
            omega) (fun W' h' => in_order_at a1 A1 c1 W' ((W1.out.below (B7.out.trans (h.mono B7.out.size))).below h') GA1.out))
          have R5 := Lib.hid (fun (W : World) (x y z : Tm) (hx : x.strip = (a2.app l).strip) (hy : y.strip = (a2.app a0).strip) (hz : z.strip = (y.app a1).strip) (hxa : x.At W) (hza : z.At W) => same_at x z W hxa hza (then_same HO.out HS.out hx hy hz))
          have HK := Lib.hid (fun (W : World) (h : Below w7.heap.size w7 W) => show Below w7.heap.size w7 W ∧ W.cell? ⟨w.heap.size, 0, none⟩ = some (.int .i64 a2.kind) ∧ W.cell? ⟨w.heap.size, 1, none⟩ = some (.int .i64 a2.num) ∧ W.cell? ⟨w.heap.size, 2, none⟩ = some (.string a2.name) ∧ W.cell? ⟨w.heap.size, 3, none⟩ = some (.slice a2.at_ a2.args.length a2.cap) from
            ⟨h, keepv h H7.out.c0, keepv h H7.out.c1, keepv h H7.out.c2, keepv h H7.out.c3⟩)
          have hr : Below w7.heap.size w7 w7 := Below.refl _ _
          clear GL GA0 GA1 HRl HO HC H7 HN0 HN1 HN2 HG0 HG1 HG2
          go_wp2_with fail
          first | (go_region_held3 (fun W => Below w7.heap.size w7 W ∧ W.cell? ⟨w.heap.size, 0, none⟩ = some (.int .i64 a2.kind) ∧ W.cell? ⟨w.heap.size, 1, none⟩ = some (.int .i64 a2.num) ∧ W.cell? ⟨w.heap.size, 2, none⟩ = some (.string a2.name) ∧ W.cell? ⟨w.heap.size, 3, none⟩ = some (.slice a2.at_ a2.args.length a2.cap)) (exact HK.out _ (by first | assumption | exact hr.drew | exact hr)) (first
            | (go_at_call 11; have hH := (‹Below w7.heap.size w7 _ ∧ _›).1; (with_reducible refine (R1.out _ hH).mono ?_); rintro e v1 ⟨rfl, hb1⟩; have hI := hH.trans (hb1.mono hH.size); clear hb1 hH)
            | (go_at_call 13; have hH := (‹Below w7.heap.size w7 _ ∧ _›).1; (with_reducible refine (R2.out _ hH).mono ?_); rintro e v2 ⟨x, rfl, hx, hlx, hb1⟩; have hxv := hlx.at trivial; have hI := hH.trans (hb1.mono hH.size); clear hb1 hH hlx)
            | (go_at_call 13; have hH := (‹Below w7.heap.size w7 _ ∧ _›).1; (with_reducible refine (R3.out _ hH).mono ?_); rintro e v3 ⟨y, rfl, hy, hly, hb1⟩; have hyv := hly.at trivial; have hxw := hxv.below hb1; have hI := hH.trans (hb1.mono hH.size); clear hb1 hH hly)
            | (go_at_call 13; have hH := (‹Below w7.heap.size w7 _ ∧ _›).1; (with_reducible refine (R4.out _ hH y hy hyv).mono ?_); rintro e v4 ⟨z, rfl, hz, hlz, hb1⟩; have hzv := hlz.at trivial; have hxz := hxw.below hb1; have hI := hH.trans (hb1.mono hH.size); clear hb1 hH hlz)
            | (go_at_call 12; have hH := (‹Below w7.heap.size w7 _ ∧ _›).1; (with_reducible refine (R5.out _ x y z hx hy hz hxz hzv).mono ?_); rintro e v5 ⟨rfl, hb1⟩; have hI := hH.trans (hb1.mono hH.size); clear hb1 hH))) | fail
          all_goals (have hS := (‹Below w7.heap.size w7 _ ∧ _›).1)
          all_goals (have HE := Lib.hid (B7.out.trans (hS.mono B7.out.size)))
          all_goals go_wp2_with fail
          all_goals go_ret
          all_goals exact ⟨rfl, HE.out⟩
        · have hne : (code != 0) = true := by simpa using hz
          have hl0 : l.length = 0 := by
            have h1 := HE.out hz
            have h2 := HS.out
            rw [h1] at h2
            have h3 := congrArg List.length h2
            rw [stripB_len] at h3
            exact h3
          clear hz hcode
          go_wp2_with fail
          go_ret
          exact ⟨by simp, B7.out⟩
end Go.Proofs.Ytgialbcohkpogaa.substThen
namespace Go.Proofs.Ytgialbcohkpogaa.substThen
open Go.ChangeShapes Go.WideShapes Go.ChangeAt Go.RowKit Go.Sort
open Go.ChangeMaps (open_string shut_string)
set_option linter.unusedVariables false

theorem own : ownKnob Try.prog.godebug = none := by kernel_rfl
theorem laidOut : laidOutB Try.prog = true := by kernel_rfl

set_option maxRecDepth 100000 in
theorem lifted (os : Os) (started : os.Started) (H : Type) (enc : TypeId × Value → H) :
    ReturnsInHanded {} Try.checked os 3 .any (Rows.substThenSpec.pre6 enc Try.prog Try.f3 Rows.substThenRow.domain false) (Rows.substThenSpec.post enc Try.prog Try.f3 false true false false) := by
  refine returnsInHanded_of_change (C := Try.checked) own started (by kernel_rfl) Try.func3
    (ChangeSpec.witness6 (enc := enc) (C := Try.checked) false ⟨#[], #[.slice none 0 0, .slice none 0 0, .agg #[.int .i64 0, .int .i64 0, .string ByteArray.empty, .slice none 0 0]], []⟩ 8 (by kernel_rfl) (by kernel_rfl) (by kernel_rfl) (by kernel_rfl)) ?_
  intro W base args ds gs before hval0 hW hcnd _
  have hval : ∀ (j : Nat) t v, Try.f3.params[j]? = some t → args[j]? = some v → Value.okWide Try.prog W .any base t v := hval0
  have hW' := hW
  obtain ⟨p, q, hA0, hV, rfl, hfz, hnd⟩ := hW
  have hA : DataW.TrodAll enc Try.prog W 0 (fun _ => true) true Try.f3.params.toList args.toList ds p := hA0
  rw [Try.params3] at hA hval
  obtain ⟨v0, vs0, d0, ds0, p0, q0, hargs, rfl, rfl, h0, r0⟩ := trodAll_cons hA
  obtain ⟨v1, vs1, d1, ds1, p1, q1, rfl, rfl, rfl, h1, r1⟩ := trodAll_cons r0
  obtain ⟨v2, vs2, d2, ds2, p2, q2, rfl, rfl, rfl, h2, r2⟩ := trodAll_cons r1
  obtain ⟨rfl, rfl, rfl⟩ := trodAll_nil r2
  obtain rfl : args = #[v0, v1, v2] := by cases args; simp_all
  obtain ⟨rfl, rfl⟩ := trodVars_none hV
  have lt0 : ∀ x ∈ p0, x.block < W.heap.size := by obtain ⟨m, hm⟩ := h0; exact DataW.trod_lt m _ _ _ hm
  obtain ⟨A0, a0, c0, rfl, w0⟩ := open_bds (hval 0 23 v0 rfl rfl) h0
  have lt1 : ∀ x ∈ p1, x.block < W.heap.size := by obtain ⟨m, hm⟩ := h1; exact DataW.trod_lt m _ _ _ hm
  obtain ⟨A1, a1, c1, rfl, w1⟩ := open_bds (hval 1 23 v1 rfl rfl) h1
  have lt2 : ∀ x ∈ p2, x.block < W.heap.size := by obtain ⟨m, hm⟩ := h2; exact DataW.trod_lt m _ _ _ hm
  obtain ⟨a2, rfl, w2⟩ := open_tm types (hval 2 26 v2 rfl rfl) h2
  clear hA0 hval0
  refine (walk A0 a0 c0 A1 a1 c1 a2 W w0 w1 w2).mono fun e W' ⟨he, bel⟩ => ?_
  subst he
  exact ⟨_, rfl, _, _, _, [], _, [], hW', trodAll_mk1 (shut_bool Try.underlying4 _), (trodAll_cons_mk (Below.trod laidOut (by kernel_rfl) (of_decide_eq_true (by kernel_rfl)) h0 bel lt0) (trodAll_cons_mk (Below.trod laidOut (by kernel_rfl) (of_decide_eq_true (by kernel_rfl)) h1 bel lt1) (trodAll_cons_mk (Below.trod laidOut (by kernel_rfl) (of_decide_eq_true (by kernel_rfl)) h2 bel lt2) trodAll_mk0))), rfl, bel.frame _, fun h => by cases h⟩

theorem over : Rows.substThenRow.holds Try.pinned (OpenSpec.ofChange Rows.substThenSpec) :=
  OpenClaim.holds_of_wide 3 Try.f3 rfl rfl rfl rfl rfl rfl rfl ⟨rfl, rfl, rfl, rfl, rfl⟩ rfl rfl rfl rfl rfl (by kernel_rfl) Try.func3 (by kernel_rfl)
    (of_decide_eq_true (by kernel_rfl)) (by unfold Func.isWrapper; first | (rw [if_pos (by decide +kernel)]; kernel_rfl) | (rw [if_neg (by decide +kernel)]; exact ⟨rfl, rfl⟩))
    (fun os started H enc _ => lifted os started H enc)

/-- THE STATEMENT. -/
theorem proved : Rows.SubstThenSaid := over
#print axioms proved
end Go.Proofs.Ytgialbcohkpogaa.substThen
