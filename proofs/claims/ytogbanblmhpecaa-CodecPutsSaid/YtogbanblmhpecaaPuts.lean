/-
  Proves CodecPuts: for every byte slice, integer and string the codec's PutInt, PutText and PutBool append what the reference appends (or the slice or the string is longer than 5000 bytes, where only the fixed examples are asked). No condition.
-/
import Derived.Test.YtogbanblmhpecaaRows
import Derived.WalkKit
import Derived.ProofKit
import Derived.OpenShut
import Derived.ShutString
import Derived.ChangeOld
import Derived.Below
import Derived.Test.YtogbanblmhpecaaAwake
import Derived.Test.YtogbanblmhpecaaRef
import Derived.Test.YtogbanblmhpecaaOpen
namespace Go.Proofs.Ytogbanblmhpecaa.codecPuts
open Go.ChangeShapes Go.WideShapes Go.ChangeAt Go.RowKit
open Go.ChangeMaps (open_string shut_string)
set_option linter.unusedVariables false

theorem own : ownKnob Try.prog.godebug = none := by kernel_rfl
theorem laidOut : laidOutB Try.prog = true := by kernel_rfl

set_option maxHeartbeats 2000000 in
set_option maxRecDepth 10000 in
theorem walk (a0 : Option Addr) (l0 : List UInt8) (cap0 : Nat) (a1 : Int) (a2 : ByteArray) (w : World) (w0 : Lies w a0 l0) (c0 : l0.length ≤ cap0) (w1 : (Lit.int .i64 a1).wf = true) (w2 : a2.size ≤ maxLen) :
    Calls Try.prog 3 #[.slice a0 l0.length cap0, .int .i64 a1, .string a2] w fun e w' => e = .returned (.bool true) ∧ Below w.heap.size w w' := by
  have hs2 : a2.size ≤ 9223372036854775807 := by unfold maxLen at w2; exact w2
  clear w2
  by_cases h1 : 5000 < l0.length
  · have h1' : (5000 : Int) < (l0.length : Int) := by omega
    go_enter Try.func3, Try.ntmps3
    go_wp2_with (go_at_call 7; refine (awake_any _).mono ?_; rintro e x4 ⟨rfl, hb4⟩)
    go_ret
    exact ⟨rfl, hb4⟩
  by_cases h2 : 5000 < a2.size
  · have h1' : decide ((5000 : Int) < (l0.length : Int)) = false := by simp; omega
    have h2' : (5000 : Int) < (a2.size : Int) := by omega
    go_enter Try.func3, Try.ntmps3
    go_wp2_with (go_at_call 7; refine (awake_any _).mono ?_; rintro e x4 ⟨rfl, hb4⟩)
    go_ret
    exact ⟨rfl, hb4⟩
  have h1' : decide ((5000 : Int) < (l0.length : Int)) = false := by simp; omega
  have h2' : decide ((5000 : Int) < (a2.size : Int)) = false := by simp; omega
  have hl5 : l0.length ≤ 5000 := by omega
  have hs5 : a2.size ≤ 5000 := by omega
  obtain ⟨p1, p2⟩ := bounds_i64 w1
  obtain ⟨y1, hy1⟩ : ∃ y, y = l0 ++ enc (zig a1) := ⟨_, rfl⟩
  obtain ⟨y2, hy2⟩ : ∃ y, y = l0 ++ enc (zig a2.size) ++ a2.data.toList := ⟨_, rfl⟩
  have P1 := fun A c W h => put_int A l0 c a1 W h (by omega) p1 p2
  have R1 := fun A c W h => ref_int A l0 c a1 W h (by omega) p1 p2
  have P2 := fun A c W h => put_text A l0 c a2 W h (by omega) (by omega)
  have R2 := fun A c W h => ref_text A l0 c a2 W h (by omega) (by omega)
  rw [← hy1] at P1 R1
  rw [← hy2] at P2 R2
  have HP1 := Lib.hid P1
  have HR1 := Lib.hid R1
  have HP2 := Lib.hid P2
  have HR2 := Lib.hid R2
  clear h1 h2 p1 p2 w1 P1 R1 P2 R2 hy1 hy2
  go_enter Try.func3, Try.ntmps3
  go_wp2_with fail
  refine (HP1.out _ _ _ w0).mono ?_
  rintro e x1 ⟨v1, rfl, o1, b1⟩
  obtain ⟨A1, k1, rfl, e1, q1⟩ := o1.lies
  go_wp2_with fail
  refine (HR1.out _ _ _ (w0.below b1)).mono ?_
  rintro e x2 ⟨v2, rfl, o2, b2⟩
  obtain ⟨A2, k2, rfl, e2, q2⟩ := o2.lies
  go_wp2_with fail
  refine (equal_at A1 A2 y1 y1 k1 k2 _ (e1.below b2) e2 (r := true) (by simp)).mono ?_
  rintro e x3 ⟨rfl, rfl⟩
  have w02 := (w0.below b1).below b2
  have B2 := b1.trans (b2.mono b1.size)
  clear b1 b2 e1 e2 o1 o2 q1 q2
  go_wp2_with fail
  refine (HP2.out _ _ _ w02).mono ?_
  rintro e x1 ⟨v1, rfl, o1, b1⟩
  obtain ⟨A1, k1, rfl, e1, q1⟩ := o1.lies
  go_wp2_with fail
  refine (HR2.out _ _ _ (w02.below b1)).mono ?_
  rintro e x2 ⟨v2, rfl, o2, b2⟩
  obtain ⟨A2, k2, rfl, e2, q2⟩ := o2.lies
  go_wp2_with fail
  refine (equal_at A1 A2 y2 y2 k1 k2 _ (e1.below b2) e2 (r := true) (by simp)).mono ?_
  rintro e x3 ⟨rfl, rfl⟩
  have w04 := (w02.below b1).below b2
  have B3 := B2.trans (b1.mono B2.size)
  have B4 := B3.trans (b2.mono B3.size)
  clear b1 b2 e1 e2 o1 o2 q1 q2 w02 B2 B3
  go_wp2_with fail
  obtain ⟨y3, hy3⟩ : ∃ y, y = l0 ++ [if (((a2.size : Nat) : Int) % 2 == 0) then (1 : UInt8) else 0] := ⟨_, rfl⟩
  have P3 := fun A c W h => put_bool A l0 c (((a2.size : Nat) : Int) % 2 == 0) W h (by omega)
  have R3 := fun A c W h => ref_bool A l0 c (((a2.size : Nat) : Int) % 2 == 0) W h (by omega)
  rw [← hy3] at P3 R3
  have HP3 := Lib.hid P3
  have HR3 := Lib.hid R3
  clear P3 R3 hy3
  refine (HP3.out _ _ _ w04).mono ?_
  rintro e x1 ⟨v1, rfl, o1, b1⟩
  obtain ⟨A1, k1, rfl, e1, q1⟩ := o1.lies
  go_wp2_with fail
  refine (HR3.out _ _ _ (w04.below b1)).mono ?_
  rintro e x2 ⟨v2, rfl, o2, b2⟩
  obtain ⟨A2, k2, rfl, e2, q2⟩ := o2.lies
  go_wp2_with fail
  refine (equal_at A1 A2 y3 y3 k1 k2 _ (e1.below b2) e2 (r := true) (by simp)).mono ?_
  rintro e x3 ⟨rfl, rfl⟩
  have B5 := B4.trans (b1.mono B4.size)
  have B6 := B5.trans (b2.mono B5.size)
  clear b1 b2 e1 e2 o1 o2 q1 q2 w04 B4 B5
  go_wp2_with fail
  refine (awake_any _).mono ?_
  rintro e x4 ⟨rfl, hb4⟩
  go_wp2_with fail
  go_ret
  exact ⟨rfl, B6.trans (hb4.mono B6.size)⟩

/-! ### THE ROW's STEP: WRITTEN OUT: LEAVE IT -/
set_option maxRecDepth 100000 in
theorem lifted (os : Os) (started : os.Started) (H : Type) (enc : TypeId × Value → H) :
    ReturnsInHanded {} Try.checked os 3 .any (Rows.codecPutsSpec.pre6 enc Try.prog Try.f3 Rows.codecPutsRow.domain false) (Rows.codecPutsSpec.post enc Try.prog Try.f3 false true false false) := by
  refine returnsInHanded_of_change (C := Try.checked) own started (by kernel_rfl) Try.func3
    (ChangeSpec.witness6 (enc := enc) (C := Try.checked) false ⟨#[], #[.slice none 0 0, .int .i64 0, .string ByteArray.empty], []⟩ 8 (by kernel_rfl) (by kernel_rfl) (by kernel_rfl) (by kernel_rfl)) ?_
  intro W base args ds gs before hval0 hW hcnd _
  have hval : ∀ (j : Nat) t v, Try.f3.params[j]? = some t → args[j]? = some v → Value.okWide Try.prog W .any base t v := hval0
  have hW' := hW
  obtain ⟨p, q, hA0, hV, rfl, hfz, hnd⟩ := hW
  have hA : DataW.TrodAll enc Try.prog W 0 (fun _ => true) true Try.f3.params.toList args.toList ds p := hA0
  rw [Try.params3] at hA hval
  obtain ⟨v0, vs0, d0, ds0, p0, q0, hargs, rfl, rfl, h0, r0⟩ := trodAll_cons hA
  obtain ⟨v1, vs1, d1, ds1, p1, q1, rfl, rfl, rfl, h1, r1⟩ := trodAll_cons r0
  obtain ⟨v2, vs2, d2, ds2, p2, q2, rfl, rfl, rfl, h2, r2⟩ := trodAll_cons r1
  obtain ⟨rfl, rfl, rfl⟩ := trodAll_nil r2
  obtain rfl : args = #[v0, v1, v2] := by cases args; simp_all
  obtain ⟨rfl, rfl⟩ := trodVars_none hV
  obtain ⟨a0, len0, cap0, rfl⟩ := okWide_slice Try.underlying22 (hval 0 22 v0 rfl rfl)
  have k0 := h0
  have lt0 : ∀ x ∈ p0, x.block < W.heap.size := by obtain ⟨m, hm⟩ := k0; exact DataW.trod_lt m _ _ _ hm
  obtain ⟨l0, rfl, w0, c0⟩ := open_lies Try.underlying22 Try.underlying5 (by kernel_rfl) h0
  obtain ⟨a1, rfl, rfl, rfl, w1⟩ := open_int Try.underlying3 (hval 1 3 v1 rfl rfl) h1
  obtain ⟨a2, rfl, rfl, rfl, w2⟩ := open_string Try.underlying9 (hval 2 9 v2 rfl rfl) h2
  clear hA0 hval0
  refine (walk a0 l0 cap0 a1 a2 W w0 c0 w1 w2).mono fun e W' ⟨he, bel⟩ => ?_
  subst he
  exact ⟨_, rfl, _, _, _, [], _, [], hW', trodAll_mk1 (shut_bool Try.underlying4 _), (trodAll_cons_mk (Below.trod laidOut (by kernel_rfl) (of_decide_eq_true (by kernel_rfl)) k0 bel lt0) (trodAll_cons_mk (shut_int Try.underlying3 w1) (trodAll_cons_mk (shut_string Try.underlying9 w2) trodAll_mk0))), rfl, bel.frame _, fun h => by cases h⟩

theorem over : Rows.codecPutsRow.holds Try.pinned (OpenSpec.ofChange Rows.codecPutsSpec) :=
  OpenClaim.holds_of_wide 3 Try.f3 rfl rfl rfl rfl rfl rfl rfl ⟨rfl, rfl, rfl, rfl, rfl⟩ rfl rfl rfl rfl rfl (by kernel_rfl) Try.func3 (by kernel_rfl)
    (of_decide_eq_true (by kernel_rfl)) (by unfold Func.isWrapper; first | (rw [if_pos (by decide +kernel)]; kernel_rfl) | (rw [if_neg (by decide +kernel)]; exact ⟨rfl, rfl⟩))
    (fun os started H enc _ => lifted os started H enc)

/-- ████ THE STATEMENT ████ -/
theorem proved : Rows.CodecPutsSaid := over
#print axioms proved
end Go.Proofs.Ytogbanblmhpecaa.codecPuts
