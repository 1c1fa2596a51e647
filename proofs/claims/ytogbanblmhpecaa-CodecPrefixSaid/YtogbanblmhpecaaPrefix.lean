/-
  Proves CodecPrefix: for every two integers the encoding of the first has 1 to 10 bytes and begins with the encoding of the second exactly if they are equal. No condition.
-/
import Derived.Test.YtogbanblmhpecaaRows
import Derived.WalkKit
import Derived.ProofKit
import Derived.OpenShut
import Derived.Below
import Derived.Test.YtogbanblmhpecaaAwake
import Derived.ShutString
namespace Go.Proofs.Ytogbanblmhpecaa.codecPrefix
open Go.ChangeShapes Go.WideShapes Go.ChangeAt Go.RowKit
open Go.ChangeMaps (open_string shut_string)
set_option linter.unusedVariables false      -- a walk need not use every 'w<i>' (that an integer argument fits its kind)

theorem own : ownKnob Try.prog.godebug = none := by kernel_rfl

set_option maxHeartbeats 1000000 in
set_option maxRecDepth 10000 in
theorem walk (a0 : Int) (a1 : Int) (w0 : (Lit.int .i64 a0).wf = true) (w1 : (Lit.int .i64 a1).wf = true) (w : World) :
    Calls Try.prog 6 #[.int .i64 a0, .int .i64 a1] w fun e w' => e = .returned (.bool true) ∧ Below w.heap.size w w' := by
  obtain ⟨p1, p2⟩ := bounds_i64 w0
  obtain ⟨q1, q2⟩ := bounds_i64 w1
  have hu := zig_lt p1 p2
  have hv := zig_lt q1 q2
  obtain ⟨l, hl⟩ : ∃ l, l = enc (zig a0) := ⟨_, rfl⟩
  obtain ⟨m, hm⟩ : ∃ m, m = enc (zig a1) := ⟨_, rfl⟩
  have hl1 : 1 ≤ l.length := by rw [hl]; exact enc_len _
  have hl2 : l.length ≤ 10 := by rw [hl]; exact enc_len_10 hu
  have hm2 : m.length ≤ 10 := by rw [hm]; exact enc_len_10 hv
  have hp : decide (m <+: l) = (a0 == a1) := by
    rw [Bool.eq_iff_iff]
    simp only [decide_eq_true_eq, beq_iff_eq]
    constructor
    · intro h
      rw [hl, hm] at h
      exact (zig_inj (enc_prefix hv hu h)).symm
    · intro h
      rw [hl, hm, h]
      exact List.prefix_rfl
  have hpl := put_int none [] 0 a0 w (Lies.nil _ _) (by simp) p1 p2
  have hpm := fun W => put_int none [] 0 a1 W (Lies.nil _ _) (by simp) q1 q2
  rw [← hl] at hpl
  rw [← hm] at hpm
  have HL := Lib.hid hpl
  have HM := Lib.hid hpm
  obtain ⟨r, hr⟩ : ∃ r : Bool, r = (a0 == a1) := ⟨_, rfl⟩
  rw [← hr] at hp
  have HP := Lib.hid hp
  clear hp hpl hpm hu hv hl hm w0 w1 p1 p2 q1 q2
  have hl1' : (1 : Int) ≤ (l.length : Int) := by omega
  have hl2' : (l.length : Int) ≤ 10 := by omega
  cases r
  all_goals
    have hr' := hr.symm
    clear hr
    go_enter Try.func6, Try.ntmps6
    go_wp2_with fail
    refine HL.out.mono ?_
    rintro e x1 ⟨v1, rfl, hown1, hb1⟩
    obtain ⟨A1, c1, rfl, hlie1, hc1⟩ := hown1.lies
    simp only [List.nil_append] at hlie1 hc1
    go_wp2_with fail
    refine (HM.out _).mono ?_
    rintro e x2 ⟨v2, rfl, hown2, hb2⟩
    obtain ⟨A2, c2, rfl, hlie2, hc2⟩ := hown2.lies
    simp only [List.nil_append] at hlie2 hc2
    go_wp2_with fail
    refine (prefix_at A1 A2 l m c1 c2 _ (hlie1.below hb2) hlie2 hc1 HP.out).mono ?_
    rintro e x3 ⟨rfl, rfl⟩
    go_wp2_with fail
    refine (awake_any _).mono ?_
    rintro e x4 ⟨rfl, hb4⟩
    go_wp2_with fail
    go_ret
    exact ⟨rfl, (hb1.trans (hb2.mono hb1.size)).trans (hb4.mono (hb1.trans (hb2.mono hb1.size)).size)⟩

/-! ### THE ROW's STEP: WRITTEN OUT: LEAVE IT -/
set_option maxRecDepth 100000 in
theorem lifted (os : Os) (started : os.Started) (H : Type) (enc : TypeId × Value → H) :
    ReturnsInHanded {} Try.checked os 6 .any (Rows.codecPrefixSpec.pre6 enc Try.prog Try.f6 Rows.codecPrefixRow.domain false) (Rows.codecPrefixSpec.post enc Try.prog Try.f6 false true false false) := by
  refine returnsInHanded_of_change (C := Try.checked) own started (by kernel_rfl) Try.func6
    (ChangeSpec.witness6 (enc := enc) (C := Try.checked) false ⟨#[], #[.int .i64 0, .int .i64 0], []⟩ 8 (by kernel_rfl) (by kernel_rfl) (by kernel_rfl) (by kernel_rfl)) ?_
  intro W base args ds gs before hval0 hW hcnd _
  have hval : ∀ (j : Nat) t v, Try.f6.params[j]? = some t → args[j]? = some v → Value.okWide Try.prog W .any base t v := hval0
  have hW' := hW
  obtain ⟨p, q, hA0, hV, rfl, hfz, hnd⟩ := hW
  have hA : DataW.TrodAll enc Try.prog W 0 (fun _ => true) true Try.f6.params.toList args.toList ds p := hA0
  rw [Try.params6] at hA hval
  obtain ⟨v0, vs0, d0, ds0, p0, q0, hargs, rfl, rfl, h0, r0⟩ := trodAll_cons hA
  obtain ⟨v1, vs1, d1, ds1, p1, q1, rfl, rfl, rfl, h1, r1⟩ := trodAll_cons r0
  obtain ⟨rfl, rfl, rfl⟩ := trodAll_nil r1
  obtain rfl : args = #[v0, v1] := by cases args; simp_all
  obtain ⟨rfl, rfl⟩ := trodVars_none hV
  obtain ⟨a0, rfl, rfl, rfl, w0⟩ := open_int Try.underlying3 (hval 0 3 v0 rfl rfl) h0
  obtain ⟨a1, rfl, rfl, rfl, w1⟩ := open_int Try.underlying3 (hval 1 3 v1 rfl rfl) h1
  clear hA0 hval0
  refine (walk a0 a1 w0 w1 W).mono fun e W' ⟨he, bel⟩ => ?_
  subst he
  exact ⟨_, rfl, _, _, _, [], _, [], hW', trodAll_mk1 (shut_bool Try.underlying4 _), (trodAll_cons_mk (shut_int Try.underlying3 w0) (trodAll_cons_mk (shut_int Try.underlying3 w1) trodAll_mk0)), rfl, bel.frame _, fun h => by cases h⟩

theorem over : Rows.codecPrefixRow.holds Try.pinned (OpenSpec.ofChange Rows.codecPrefixSpec) :=
  OpenClaim.holds_of_wide 6 Try.f6 rfl rfl rfl rfl rfl rfl rfl ⟨rfl, rfl, rfl, rfl, rfl⟩ rfl rfl rfl rfl rfl (by kernel_rfl) Try.func6 (by kernel_rfl)
    (of_decide_eq_true (by kernel_rfl)) (by unfold Func.isWrapper; first | (rw [if_pos (by decide +kernel)]; kernel_rfl) | (rw [if_neg (by decide +kernel)]; exact ⟨rfl, rfl⟩))
    (fun os started H enc _ => lifted os started H enc)

/-- ████ THE STATEMENT ████ -/
theorem proved : Rows.CodecPrefixSaid :=
  over
#print axioms proved
end Go.Proofs.Ytogbanblmhpecaa.codecPrefix
