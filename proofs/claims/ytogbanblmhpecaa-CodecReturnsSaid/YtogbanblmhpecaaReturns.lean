/-
  Proves CodecReturns: for every case (bytes before and after, an integer, a string and a boolean) what is put one after the other is read back (or a part is longer than 5000 bytes, where only the fixed examples are asked). No condition.
-/
import Derived.Test.YtogbanblmhpecaaRows
import Derived.WalkKit
import Derived.ProofKit
import Derived.OpenShut
import Derived.ShutString
import Derived.ChangeOld
import Derived.Below
import Derived.Deep.RegionWith
import Derived.Deep.RegionHeld3
import Derived.Deep.DrawnRows
import Derived.BigQuiet
import Derived.Deep.QuietTactic
import Derived.Test.YtogbanblmhpecaaAwake
import Derived.Test.YtogbanblmhpecaaOpen
namespace Go.Proofs.Ytogbanblmhpecaa.codecReturns
open Go.ChangeShapes Go.WideShapes Go.ChangeAt Go.RowKit
open Go.ChangeMaps (open_string shut_string)
set_option linter.unusedVariables false

theorem own : ownKnob Try.prog.godebug = none := by kernel_rfl
theorem laidOut : laidOutB Try.prog = true := by kernel_rfl

theorem array5 {cs : Array Value} (h : cs.size = 5) : ∃ a b c d e, cs = #[a, b, c, d, e] := by
  obtain ⟨l⟩ := cs
  match l, h with
  | [a, b, c, d, e], _ => exact ⟨a, b, c, d, e, rfl⟩

attribute [local go_sem ↓] Go.wp_at_zero Go.wp_at_succ
set_option maxHeartbeats 1000000 in
set_option maxRecDepth 100000 in
theorem walk (A C : Option Addr) (b t : List UInt8) (cb ct : Nat) (n : Int) (S : ByteArray) (x : Bool) (w : World) (hA : Lies w A b) (hC : Lies w C t) (hcb : b.length ≤ cb) (hct : t.length ≤ ct) (hn : (Lit.int .i64 n).wf = true) (hS : S.size ≤ 9223372036854775807) :
    Calls Try.prog 4 #[.agg #[.slice A b.length cb, .slice C t.length ct, .int .i64 n, .string S, .bool x]] w fun e w' => e = .returned (.bool true) ∧ Below w.heap.size w w' := by
  obtain ⟨i0, hi0, hz0, hz1, hz2⟩ := info_parts u8_info
  obtain ⟨p1, p2⟩ := bounds_i64 hn
  have HB := Lib.hid (And.intro p1 p2)
  clear hn p1 p2
  by_cases h1 : 5000 < b.length ∨ 5000 < t.length ∨ 5000 < S.size
  · have h2 : (5000 : Int) < (b.length : Int) ∨ (decide ((5000 : Int) < (b.length : Int)) = false ∧ (5000 : Int) < (t.length : Int)) ∨ (decide ((5000 : Int) < (b.length : Int)) = false ∧ decide ((5000 : Int) < (t.length : Int)) = false ∧ (5000 : Int) < (S.size : Int)) := by
      simp only [decide_eq_false_iff_not]
      omega
    clear h1
    rcases h2 with h2 | ⟨h2, h3⟩ | ⟨h2, h3, h4⟩
    all_goals
      go_enter Try.func4, Try.ntmps4
      go_wp2_with fail
      go_quiet (fail)
      go_wp2_with (go_at_call 7; refine (awake_any _).mono ?_; rintro e x4 ⟨rfl, hb4⟩)
      go_ret
      exact ⟨rfl, (below_drewN ((Below.refl _ _).alloc (Nat.le_refl _) _) _).trans (hb4.mono (by simp))⟩
  have hb5 : b.length ≤ 5000 := by omega
  have ht5 : t.length ≤ 5000 := by omega
  have hs5 : S.size ≤ 5000 := by omega
  have g1 : decide ((5000 : Int) < (b.length : Int)) = false := by simp; omega
  have g2 : decide ((5000 : Int) < (t.length : Int)) = false := by simp; omega
  have g3 : decide ((5000 : Int) < (S.size : Int)) = false := by simp; omega
  obtain ⟨y1, hy1⟩ : ∃ y, y = b ++ enc (zig n) := ⟨_, rfl⟩
  obtain ⟨y2, hy2⟩ : ∃ y, y = y1 ++ enc (zig S.size) ++ S.data.toList := ⟨_, rfl⟩
  obtain ⟨y3, hy3⟩ : ∃ y, y = y2 ++ [if x then (1 : UInt8) else 0] := ⟨_, rfl⟩
  obtain ⟨L, hL⟩ : ∃ y, y = y3 ++ t := ⟨_, rfl⟩
  have l1 : y1.length ≤ 5010 := by
    have := enc_len_10 (zig_lt HB.out.1 HB.out.2)
    rw [hy1, List.length_append]; omega
  have l2 : y2.length ≤ 10020 := by
    have := enc_len_10 (zig_lt (n := (S.size : Int)) (by omega) (by omega))
    rw [hy2, List.length_append, List.length_append, len_string]; omega
  have l3 : y3.length ≤ 10021 := by rw [hy3, List.length_append, List.length_singleton]; omega
  have hLl : L.length = y3.length + t.length := by rw [hL, List.length_append]
  have P1 := fun A c W h => put_int A b c n W h (by omega) HB.out.1 HB.out.2
  have P2 := fun A c W h => put_text A y1 c S W h (by omega) (by omega)
  have P3 := fun A c W h => put_bool A y2 c x W h (by omega)
  rw [← hy1] at P1
  rw [← hy2] at P2
  rw [← hy3] at P3
  have hI : intE L b.length n n = (n, ((y1.length : Nat) : Int), 0) := by
    rw [hy1]
    exact intE_put (rest := enc (zig S.size) ++ S.data.toList ++ [if x then (1 : UInt8) else 0] ++ t) (by rw [hL, hy3, hy2, hy1]; simp) HB.out.1 HB.out.2 (Int.le_refl _) (Int.le_refl _)
  have hT : textE L y1.length S.size = (S.data.toList, ((y2.length : Nat) : Int), 0) := by
    rw [hy2]
    exact textE_put (rest := [if x then (1 : UInt8) else 0] ++ t) (by rw [hL, hy3, hy2]; simp) (by omega)
  have hX : boolE L y2.length = (x, ((y3.length : Nat) : Int), 0) := by
    rw [hy3]
    exact boolE_put (rest := t) (by rw [hL, hy3])
  have HP1 := Lib.hid P1
  have HP2 := Lib.hid P2
  have HP3 := Lib.hid P3
  have HI := Lib.hid hI
  have HT := Lib.hid hT
  have HX := Lib.hid hX
  have HL := Lib.hid hL
  have hfin : (((y3.length : Nat) : Int) == (L.length : Int) - (t.length : Int)) = true := by simp; omega
  have lL : L.length ≤ 20000 := by omega
  clear hy1 hy2 hy3 hL hLl P1 P2 P3 hI hT hX h1
  go_enter Try.func4, Try.ntmps4
  go_wp2_with fail
  go_quiet (fail)
  obtain ⟨x0, hx0⟩ : ∃ x0, x0 = (w.alloc (.cells #[.slice A b.length cb, .slice C t.length ct, .int .i64 n, .string S, .bool x] 30)).drewN nq := ⟨_, rfl⟩
  have B0 : Below w.heap.size w x0 := by
    rw [hx0]
    exact ((Below.refl _ _).alloc (Nat.le_refl _) _).trans ⟨rfl, rfl, rfl, Nat.le_refl _, fun _ _ => rfl⟩
  rw [← hx0]
  have hA0 := hA.below B0
  have hC0 := hC.below B0
  clear hx0 hA hC
  go_wp2_with (at_builtin; refine wpList_append_bytes _ rfl (.tmp 42) (.tmp 43) _ _ rfl x0.heap.size i0 _ Try.underlying22 hi0 hz0 hz1 hz2 rfl _ [] rfl (Own.empty rfl (Nat.le_refl _)) _ b rfl ((hA0.alloc _).src Try.underlying22 cb) (by simp; omega) (by simp) ?_; intro v1 w1 o1 b1; simp only [List.nil_append] at o1; obtain ⟨A1, c1, rfl, q1, r1⟩ := o1.lies)
  have B1 : Below w.heap.size w w1 := B0.trans ((((Below.refl _ _).alloc (Nat.le_refl _) _).trans b1).mono B0.size)
  have hC1 : Lies w1 C t := hC0.below (((Below.refl _ _).alloc (Nat.le_refl _) _).trans b1)
  clear b1 hA0 hC0 B0 o1 r1
  refine (HP1.out A1 c1 w1 q1).mono ?_
  rintro e w2 ⟨v2, rfl, o2, b2⟩
  obtain ⟨A2, c2, rfl, q2, r2⟩ := o2.lies
  have B2 := B1.trans (b2.mono B1.size)
  have hC2 := hC1.below b2
  clear b2 hC1 B1 q1 o2 r2
  go_wp2_with fail
  refine (HP2.out A2 c2 w2 q2).mono ?_
  rintro e w3 ⟨v3, rfl, o3, b3⟩
  obtain ⟨A3, c3, rfl, q3, r3⟩ := o3.lies
  have B3 := B2.trans (b3.mono B2.size)
  have hC3 := hC2.below b3
  clear b3 hC2 B2 q2 o3 r3
  go_wp2_with fail
  refine (HP3.out A3 c3 w3 q3).mono ?_
  rintro e w4 ⟨v4, rfl, o4, b4⟩
  obtain ⟨A4, c4, rfl, q4, r4⟩ := o4.lies
  have B4 := B3.trans (b4.mono B3.size)
  have hC4 := hC3.below b4
  clear b4 hC3 B3 q3 o4 r4
  go_wp2_with (first
    | (at_builtin; refine wpList_append_bytes _ rfl (.tmp 51) (.tmp 52) _ _ rfl w4.heap.size i0 _ Try.underlying22 hi0 hz0 hz1 hz2 rfl _ [] rfl (Own.empty rfl (Nat.le_refl _)) _ y3 rfl ((q4.alloc _).src Try.underlying22 c4) (by simp; omega) (by simp) ?_; intro v5 w5 o5 b5; simp only [List.nil_append] at o5; have d5 := ((Below.refl w4.heap.size w4).alloc (Nat.le_refl _) _).trans b5)
    | (at_builtin; refine wpList_append_bytes _ rfl (.tmp 53) (.tmp 54) _ _ rfl w4.heap.size i0 _ Try.underlying22 hi0 hz0 hz1 hz2 rfl _ _ rfl o5 _ t rfl ((hC4.below d5).src Try.underlying22 ct) (by omega) d5.size ?_; intro v6 w6 o6 b6; rw [← HL.out] at o6; obtain ⟨A6, c6, rfl, q6, r6⟩ := o6.lies)
    | (go_at_call 15; refine (int_at A6 L c6 _ _ _ _ q6 (by omega) r6 HI.out).mono ?_; rintro e x3 ⟨rfl, rfl⟩)
    | (go_at_call 16; refine (text_at A6 L c6 _ _ _ q6 (by omega) r6 HT.out).mono ?_; rintro e x3 ⟨rfl, rfl⟩)
    | (go_at_call 17; refine (bool_at A6 L c6 _ _ q6 (by omega) HX.out).mono ?_; rintro e x3 ⟨rfl, rfl⟩)
    | (go_at_call 7; refine (awake_any _).mono ?_; rintro e x4 ⟨rfl, hb4⟩))
  go_ret
  have B6 := B4.trans ((d5.trans b6).mono B4.size)
  exact ⟨rfl, B6.trans (hb4.mono B6.size)⟩

/-! ### THE ROW's STEP -/
set_option maxRecDepth 100000 in
theorem lifted (os : Os) (started : os.Started) (H : Type) (enc : TypeId × Value → H) :
    ReturnsInHanded {} Try.checked os 4 .any (Rows.codecReturnsSpec.pre6 enc Try.prog Try.f4 Rows.codecReturnsRow.domain false) (Rows.codecReturnsSpec.post enc Try.prog Try.f4 false true false false) := by
  refine returnsInHanded_of_change (C := Try.checked) own started (by kernel_rfl) Try.func4
    (ChangeSpec.witness6 (enc := enc) (C := Try.checked) false ⟨#[], #[.agg #[.slice none 0 0, .slice none 0 0, .int .i64 0, .string ByteArray.empty, .bool false]], []⟩ 8 (by kernel_rfl) (by kernel_rfl) (by kernel_rfl) (by kernel_rfl)) ?_
  intro W base args ds gs before hval0 hW hcnd _
  have hval : ∀ (j : Nat) t v, Try.f4.params[j]? = some t → args[j]? = some v → Value.okWide Try.prog W .any base t v := hval0
  have hW' := hW
  obtain ⟨p, q, hA0, hV, rfl, hfz, hnd⟩ := hW
  have hA : DataW.TrodAll enc Try.prog W 0 (fun _ => true) true Try.f4.params.toList args.toList ds p := hA0
  rw [Try.params4] at hA hval
  obtain ⟨v0, vs0, d0, ds0, p0, q0, hargs, rfl, rfl, h0, r0⟩ := trodAll_cons hA
  obtain ⟨rfl, rfl, rfl⟩ := trodAll_nil r0
  obtain rfl : args = #[v0] := by cases args; simp_all
  obtain ⟨rfl, rfl⟩ := trodVars_none hV
  have k0 := h0
  have lt0 : ∀ x ∈ p0, x.block < W.heap.size := by obtain ⟨m, hm⟩ := k0; exact DataW.trod_lt m _ _ _ hm
  obtain ⟨cs, N, rfl, hsz, hf⟩ := open_fields Try.underlying30 (by kernel_rfl) (by kernel_rfl) (hval 0 30 v0 rfl rfl) h0
  obtain ⟨u0, u1, u2, u3, u4, rfl⟩ := array5 hsz
  obtain ⟨_, f0⟩ := hf 0 _ u0 rfl rfl
  obtain ⟨_, f1⟩ := hf 1 _ u1 rfl rfl
  obtain ⟨_, f2⟩ := hf 2 _ u2 rfl rfl
  obtain ⟨_, f3⟩ := hf 3 _ u3 rfl rfl
  obtain ⟨_, f4⟩ := hf 4 _ u4 rfl rfl
  obtain ⟨A, b, cb, rfl, hAb, hcb⟩ := trod_lies Try.underlying22 Try.underlying5 (by kernel_rfl) f0
  obtain ⟨C, t, ct, rfl, hCt, hct⟩ := trod_lies Try.underlying22 Try.underlying5 (by kernel_rfl) f1
  obtain ⟨n, hn1, _, hn⟩ := DataW.trod_int Try.underlying3 f2
  obtain rfl : u2 = .int .i64 n := by simpa using hn1
  obtain ⟨S, hs1, _, hS⟩ := DataW.trod_string Try.underlying9 f3
  obtain rfl : u3 = .string S := by simpa using hs1
  obtain ⟨x, hx1, _⟩ := DataW.trod_bool Try.underlying4 f4
  obtain rfl : u4 = .bool x := by simpa using hx1
  clear hA0 hval0
  refine (walk A C b t cb ct n S x W hAb hCt hcb hct hn (by unfold maxLen at hS; exact hS)).mono fun e W' ⟨he, bel⟩ => ?_
  subst he
  exact ⟨_, rfl, _, _, _, [], _, [], hW', trodAll_mk1 (shut_bool Try.underlying4 _), (trodAll_cons_mk (Below.trod laidOut (by kernel_rfl) (of_decide_eq_true (by kernel_rfl)) k0 bel lt0) trodAll_mk0), rfl, bel.frame _, fun h => by cases h⟩

theorem over : Rows.codecReturnsRow.holds Try.pinned (OpenSpec.ofChange Rows.codecReturnsSpec) :=
  OpenClaim.holds_of_wide 4 Try.f4 rfl rfl rfl rfl rfl rfl rfl ⟨rfl, rfl, rfl, rfl, rfl⟩ rfl rfl rfl rfl rfl (by kernel_rfl) Try.func4 (by kernel_rfl)
    (of_decide_eq_true (by kernel_rfl)) (by unfold Func.isWrapper; first | (rw [if_pos (by decide +kernel)]; kernel_rfl) | (rw [if_neg (by decide +kernel)]; exact ⟨rfl, rfl⟩))
    (fun os started H enc _ => lifted os started H enc)

theorem proved : Rows.CodecReturnsSaid := over
#print axioms proved
end Go.Proofs.Ytogbanblmhpecaa.codecReturns
