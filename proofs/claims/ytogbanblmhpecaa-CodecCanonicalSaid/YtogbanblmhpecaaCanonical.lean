/-
  Proves CodecCanonical: for every byte slice and offset, what the codec's Int and Text read without an error is the encoding of what they return, and with an error they return zeros (or the slice is longer than 5000 bytes, where only the fixed examples are asked). No condition.
-/
import Derived.Test.YtogbanblmhpecaaRows
import Derived.WalkKit
import Derived.ProofKit
import Derived.OpenShut
import Derived.ShutString
import Derived.ChangeOld
import Derived.Below
import Derived.Deep.RegionWith
import Derived.Deep.RegionHeld3
import Derived.Deep.DrawnRows
import Derived.BigQuiet
import Derived.Deep.QuietTactic
import Derived.Test.YtogbanblmhpecaaAwake
import Derived.Test.YtogbanblmhpecaaOpen
namespace Go.Proofs.Ytogbanblmhpecaa.codecCanonical
open Go.ChangeShapes Go.WideShapes Go.ChangeAt Go.RowKit
open Go.ChangeMaps (open_string shut_string)
set_option linter.unusedVariables false

theorem own : ownKnob Try.prog.godebug = none := by kernel_rfl
theorem laidOut : laidOutB Try.prog = true := by kernel_rfl

attribute [local go_sem ↓] Go.wp_at_zero Go.wp_at_succ
set_option maxHeartbeats 800000 in
set_option maxRecDepth 10000 in
theorem walk (a0 : Option Addr) (l0 : List UInt8) (cap0 : Nat) (a1 : Int) (w : World) (w0 : Lies w a0 l0) (c0 : l0.length ≤ cap0) (w1 : (Lit.int .i64 a1).wf = true) :
    Calls Try.prog 5 #[.slice a0 l0.length cap0, .int .i64 a1] w fun e w' => e = .returned (.bool true) ∧ Below w.heap.size w w' := by
  clear w1
  by_cases h1 : 5000 < l0.length
  · have h1' : (5000 : Int) < (l0.length : Int) := by omega
    go_enter Try.func5, Try.ntmps5
    go_wp2_with (go_at_call 7; refine (awake_any _).mono ?_; rintro e x4 ⟨rfl, hb4⟩)
    go_ret
    exact ⟨rfl, hb4⟩
  have h1' : (l0.length : Int) ≤ 5000 := by omega
  have hl5 : l0.length ≤ 5000 := by omega
  obtain ⟨n, nx, e0, hr⟩ : ∃ n nx e0, intE l0 a1 (-9223372036854775808) 9223372036854775807 = (n, nx, e0) := ⟨_, _, _, rfl⟩
  obtain ⟨S, nt, f0, ht⟩ : ∃ (S : ByteArray) (nt f0 : Int), textE l0 a1 5000 = (S.data.toList, nt, f0) := ⟨⟨(textE l0 a1 5000).1.toArray⟩, _, _, rfl⟩
  have hci := fun W h => int_at a0 l0 cap0 a1 _ _ W h (by omega) c0 hr
  have hct := fun W h => text_at a0 l0 cap0 a1 _ W h (by omega) c0 ht
  have HI := Lib.hid hci
  have HT := Lib.hid hct
  clear hci hct h1
  by_cases he : e0 = 0
  · subst he
    obtain ⟨k, s, rfl, rfl, q1, q2, -, -, q5, q6, q7, q8⟩ := intE_ok hr
    obtain ⟨y, hy⟩ : ∃ y, y = enc (zig n) := ⟨_, rfl⟩
    rw [← hy] at q5 q8
    subst q8
    have hcut : Lies w (Option.map (fun x => x.add k) a0) y := by rw [q5]; exact (w0.cut2 k).take _
    have P1 := fun W => put_int none [] 0 n W (Lies.nil _ _) (by simp) q6 q7
    rw [← hy] at P1
    have HP := Lib.hid P1
    have hck : ¬ cap0 = k := by omega
    have HN := Lib.hid (show ((k : Int) + (y.length : Int)).toNat - k = y.length by omega)
    have g1 : decide ((k : Int) + (y.length : Int) ≤ (k : Int)) = false := by simp; omega
    have g2 : decide ((l0.length : Int) < (k : Int) + (y.length : Int)) = false := by simp; omega
    have g3 : (k : Int) ≤ (k : Int) + (y.length : Int) := by omega
    have g4 : (k : Int) + (y.length : Int) ≤ (cap0 : Int) := by omega
    clear hr hy q5 q6 q7 P1
    by_cases hf : f0 = 0
    · subst hf
      obtain ⟨K, t, hK, rfl, r1, r2, r4, r5, r6⟩ := textE_ok ht
      obtain rfl : k = K := by omega
      clear hK
      obtain ⟨z, hz⟩ : ∃ z, z = enc (zig S.size) ++ S.data.toList := ⟨_, rfl⟩
      rw [← hz] at r4 r5
      subst r5
      have hcut2 : ∀ W, Lies W a0 l0 → Lies W (Option.map (fun x => x.add k) a0) z := fun W h => by rw [r4]; exact (h.cut2 k).take _
      have HC2 := Lib.hid hcut2
      have P2 := fun W => put_text none [] 0 S W (Lies.nil _ _) (by simp) (by omega)
      rw [List.nil_append, ← hz] at P2
      have HP2 := Lib.hid P2
      have hck2 : ¬ cap0 = k := by omega
      have HN2 := Lib.hid (show ((k : Int) + (z.length : Int)).toNat - k = z.length by omega)
      have m1 : decide ((k : Int) + (z.length : Int) ≤ (k : Int)) = false := by simp; omega
      have m2 : decide ((l0.length : Int) < (k : Int) + (z.length : Int)) = false := by simp; omega
      have m3 : (k : Int) ≤ (k : Int) + (z.length : Int) := by omega
      have m4 : (k : Int) + (z.length : Int) ≤ (cap0 : Int) := by omega
      clear ht hz r4 r6 P2 hcut2
      go_enter Try.func5, Try.ntmps5
      go_wp2_with (go_at_call 15; refine (HI.out _ w0).mono ?_; rintro e x4 ⟨rfl, rfl⟩)
      go_region_held3 (fun _ => True) (trivial) (first
        | (go_at_call 9; refine (HP.out _).mono ?_; rintro e x1 ⟨v1, rfl, o1, b1⟩; obtain ⟨A1, k1, rfl, g1', r1'⟩ := o1.lies)
        | (go_at_call 8; rw [HN.out]; refine (equal_at A1 _ y y k1 _ _ g1' (Lies.below (show Lies w.drew _ y from hcut) b1) (r := true) (by simp)).mono ?_; rintro e x3 ⟨rfl, rfl⟩))
      have B1 : Below w.heap.size w x1 := ((Below.refl _ _).drew).trans b1
      have w2 : Lies x1 a0 l0 := w0.below B1
      clear b1 o1 g1' hcut g1 g2 g3 g4 w0
      go_wp2_with (go_at_call 16; refine (HT.out _ w2).mono ?_; rintro e x4 ⟨rfl, rfl⟩)
      have hcutz := HC2.out x1.drew w2
      go_region_held3 (fun _ => True) (trivial) (first
        | (go_at_call 11; refine (HP2.out _).mono ?_; rintro e x2 ⟨v2, rfl, o2, b2⟩; obtain ⟨A2, k2, rfl, g2', r2'⟩ := o2.lies)
        | (go_at_call 8; rw [HN2.out]; refine (equal_at A2 _ z z k2 _ _ g2' (Lies.below hcutz b2) (r := true) (by simp)).mono ?_; rintro e x3 ⟨rfl, rfl⟩))
      have B2 : Below w.heap.size w x2 := (B1.drew).trans (b2.mono B1.size)
      clear b2 o2 g2' hcutz m1 m2 m3 m4 w2 B1
      go_wp2_with (go_at_call 7; refine (awake_any _).mono ?_; rintro e x4 ⟨rfl, hb4⟩)
      go_ret
      exact ⟨rfl, B2.trans (hb4.mono B2.size)⟩
    · obtain ⟨hSe, rfl⟩ := textE_err ht hf
      obtain rfl : S = ⟨#[]⟩ := bytes_inj hSe
      have f1 : (f0 == 0) = false := by simpa using hf
      clear ht hf hSe
      go_enter Try.func5, Try.ntmps5
      go_wp2_with (go_at_call 15; refine (HI.out _ w0).mono ?_; rintro e x4 ⟨rfl, rfl⟩)
      go_region_held3 (fun _ => True) (trivial) (first
        | (go_at_call 9; refine (HP.out _).mono ?_; rintro e x1 ⟨v1, rfl, o1, b1⟩; obtain ⟨A1, k1, rfl, g1', r1'⟩ := o1.lies)
        | (go_at_call 8; rw [HN.out]; refine (equal_at A1 _ y y k1 _ _ g1' (Lies.below (show Lies w.drew _ y from hcut) b1) (r := true) (by simp)).mono ?_; rintro e x3 ⟨rfl, rfl⟩))
      have B1 : Below w.heap.size w x1 := ((Below.refl _ _).drew).trans b1
      have w2 : Lies x1 a0 l0 := w0.below B1
      clear b1 o1 g1' hcut g1 g2 g3 g4 w0
      go_wp2_with (go_at_call 16; refine (HT.out _ w2).mono ?_; rintro e x4 ⟨rfl, rfl⟩)
      go_quiet (fail)
      obtain ⟨x2, hx2⟩ : ∃ x2, x2 = x1.drewN nq := ⟨_, rfl⟩
      have B2 : Below w.heap.size w x2 := by rw [hx2]; exact B1.trans ⟨rfl, rfl, rfl, Nat.le_refl _, fun _ _ => rfl⟩
      rw [← hx2]
      clear hx2 w2 B1
      go_wp2_with (go_at_call 7; refine (awake_any _).mono ?_; rintro e x4 ⟨rfl, hb4⟩)
      go_ret
      exact ⟨rfl, B2.trans (hb4.mono B2.size)⟩
  · obtain ⟨rfl, rfl⟩ := intE_err hr he
    have e1 : (e0 == 0) = false := by simpa using he
    clear hr he
    by_cases hf : f0 = 0
    · subst hf
      obtain ⟨K, t, hK, rfl, r1, r2, r4, r5, r6⟩ := textE_ok ht
      subst hK
      obtain ⟨z, hz⟩ : ∃ z, z = enc (zig S.size) ++ S.data.toList := ⟨_, rfl⟩
      rw [← hz] at r4 r5
      subst r5
      have hcut2 : ∀ W, Lies W a0 l0 → Lies W (Option.map (fun x => x.add K) a0) z := fun W h => by rw [r4]; exact (h.cut2 K).take _
      have HC2 := Lib.hid hcut2
      have P2 := fun W => put_text none [] 0 S W (Lies.nil _ _) (by simp) (by omega)
      rw [List.nil_append, ← hz] at P2
      have HP2 := Lib.hid P2
      have hck2 : ¬ cap0 = K := by omega
      have HN2 := Lib.hid (show ((K : Int) + (z.length : Int)).toNat - K = z.length by omega)
      have m1 : decide ((K : Int) + (z.length : Int) ≤ (K : Int)) = false := by simp; omega
      have m2 : decide ((l0.length : Int) < (K : Int) + (z.length : Int)) = false := by simp; omega
      have m3 : (K : Int) ≤ (K : Int) + (z.length : Int) := by omega
      have m4 : (K : Int) + (z.length : Int) ≤ (cap0 : Int) := by omega
      clear ht hz r4 r6 P2 hcut2
      go_enter Try.func5, Try.ntmps5
      go_wp2_with (go_at_call 15; refine (HI.out _ w0).mono ?_; rintro e x4 ⟨rfl, rfl⟩)
      go_quiet (fail)
      obtain ⟨x1, hx1⟩ : ∃ x1, x1 = w.drewN nq := ⟨_, rfl⟩
      have B1 : Below w.heap.size w x1 := by rw [hx1]; exact ⟨rfl, rfl, rfl, Nat.le_refl _, fun _ _ => rfl⟩
      have w2 : Lies x1 a0 l0 := w0.below B1
      rw [← hx1]
      clear hx1 w0
      go_wp2_with (go_at_call 16; refine (HT.out _ w2).mono ?_; rintro e x4 ⟨rfl, rfl⟩)
      have hcutz := HC2.out x1.drew w2
      go_region_held3 (fun _ => True) (trivial) (first
        | (go_at_call 11; refine (HP2.out _).mono ?_; rintro e x2 ⟨v2, rfl, o2, b2⟩; obtain ⟨A2, k2, rfl, g2', r2'⟩ := o2.lies)
        | (go_at_call 8; rw [HN2.out]; refine (equal_at A2 _ z z k2 _ _ g2' (Lies.below hcutz b2) (r := true) (by simp)).mono ?_; rintro e x3 ⟨rfl, rfl⟩))
      have B2 : Below w.heap.size w x2 := (B1.drew).trans (b2.mono B1.size)
      clear b2 o2 g2' hcutz m1 m2 m3 m4 w2 B1
      go_wp2_with (go_at_call 7; refine (awake_any _).mono ?_; rintro e x4 ⟨rfl, hb4⟩)
      go_ret
      exact ⟨rfl, B2.trans (hb4.mono B2.size)⟩
    · obtain ⟨hSe, rfl⟩ := textE_err ht hf
      obtain rfl : S = ⟨#[]⟩ := bytes_inj hSe
      have f1 : (f0 == 0) = false := by simpa using hf
      clear ht hf hSe
      go_enter Try.func5, Try.ntmps5
      go_wp2_with (go_at_call 15; refine (HI.out _ w0).mono ?_; rintro e x4 ⟨rfl, rfl⟩)
      go_quiet (fail)
      obtain ⟨x1, hx1⟩ : ∃ x1, x1 = w.drewN nq := ⟨_, rfl⟩
      have B1 : Below w.heap.size w x1 := by rw [hx1]; exact ⟨rfl, rfl, rfl, Nat.le_refl _, fun _ _ => rfl⟩
      have w2 : Lies x1 a0 l0 := w0.below B1
      rw [← hx1]
      clear hx1 w0
      go_wp2_with (go_at_call 16; refine (HT.out _ w2).mono ?_; rintro e x4 ⟨rfl, rfl⟩)
      go_quiet (fail)
      obtain ⟨x2, hx2⟩ : ∃ x2, x2 = x1.drewN nq := ⟨_, rfl⟩
      have B2 : Below w.heap.size w x2 := by rw [hx2]; exact B1.trans ⟨rfl, rfl, rfl, Nat.le_refl _, fun _ _ => rfl⟩
      rw [← hx2]
      clear hx2 w2 B1
      go_wp2_with (go_at_call 7; refine (awake_any _).mono ?_; rintro e x4 ⟨rfl, hb4⟩)
      go_ret
      exact ⟨rfl, B2.trans (hb4.mono B2.size)⟩

/-! ### THE ROW's STEP: WRITTEN OUT: LEAVE IT -/
set_option maxRecDepth 100000 in
theorem lifted (os : Os) (started : os.Started) (H : Type) (enc : TypeId × Value → H) :
    ReturnsInHanded {} Try.checked os 5 .any (Rows.codecCanonicalSpec.pre6 enc Try.prog Try.f5 Rows.codecCanonicalRow.domain false) (Rows.codecCanonicalSpec.post enc Try.prog Try.f5 false true false false) := by
  refine returnsInHanded_of_change (C := Try.checked) own started (by kernel_rfl) Try.func5
    (ChangeSpec.witness6 (enc := enc) (C := Try.checked) false ⟨#[], #[.slice none 0 0, .int .i64 0], []⟩ 8 (by kernel_rfl) (by kernel_rfl) (by kernel_rfl) (by kernel_rfl)) ?_
  intro W base args ds gs before hval0 hW hcnd _
  have hval : ∀ (j : Nat) t v, Try.f5.params[j]? = some t → args[j]? = some v → Value.okWide Try.prog W .any base t v := hval0
  have hW' := hW
  obtain ⟨p, q, hA0, hV, rfl, hfz, hnd⟩ := hW
  have hA : DataW.TrodAll enc Try.prog W 0 (fun _ => true) true Try.f5.params.toList args.toList ds p := hA0
  rw [Try.params5] at hA hval
  obtain ⟨v0, vs0, d0, ds0, p0, q0, hargs, rfl, rfl, h0, r0⟩ := trodAll_cons hA
  obtain ⟨v1, vs1, d1, ds1, p1, q1, rfl, rfl, rfl, h1, r1⟩ := trodAll_cons r0
  obtain ⟨rfl, rfl, rfl⟩ := trodAll_nil r1
  obtain rfl : args = #[v0, v1] := by cases args; simp_all
  obtain ⟨rfl, rfl⟩ := trodVars_none hV
  obtain ⟨a0, len0, cap0, rfl⟩ := okWide_slice Try.underlying22 (hval 0 22 v0 rfl rfl)
  have k0 := h0
  have lt0 : ∀ x ∈ p0, x.block < W.heap.size := by obtain ⟨m, hm⟩ := k0; exact DataW.trod_lt m _ _ _ hm
  obtain ⟨l0, rfl, w0, c0⟩ := open_lies Try.underlying22 Try.underlying5 (by kernel_rfl) h0
  obtain ⟨a1, rfl, rfl, rfl, w1⟩ := open_int Try.underlying3 (hval 1 3 v1 rfl rfl) h1
  clear hA0 hval0
  refine (walk a0 l0 cap0 a1 W w0 c0 w1).mono fun e W' ⟨he, bel⟩ => ?_
  subst he
  exact ⟨_, rfl, _, _, _, [], _, [], hW', trodAll_mk1 (shut_bool Try.underlying4 _), (trodAll_cons_mk (Below.trod laidOut (by kernel_rfl) (of_decide_eq_true (by kernel_rfl)) k0 bel lt0) (trodAll_cons_mk (shut_int Try.underlying3 w1) trodAll_mk0)), rfl, bel.frame _, fun h => by cases h⟩

theorem over : Rows.codecCanonicalRow.holds Try.pinned (OpenSpec.ofChange Rows.codecCanonicalSpec) :=
  OpenClaim.holds_of_wide 5 Try.f5 rfl rfl rfl rfl rfl rfl rfl ⟨rfl, rfl, rfl, rfl, rfl⟩ rfl rfl rfl rfl rfl (by kernel_rfl) Try.func5 (by kernel_rfl)
    (of_decide_eq_true (by kernel_rfl)) (by unfold Func.isWrapper; first | (rw [if_pos (by decide +kernel)]; kernel_rfl) | (rw [if_neg (by decide +kernel)]; exact ⟨rfl, rfl⟩))
    (fun os started H enc _ => lifted os started H enc)

/-- ████ THE STATEMENT ████ -/
theorem proved : Rows.CodecCanonicalSaid := over
#print axioms proved
end Go.Proofs.Ytogbanblmhpecaa.codecCanonical
