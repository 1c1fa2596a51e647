/-
  Contracts of the program's functions that tell whether a term is valid: isPlain, isFunctor, rightWithin, rightAllWithin, Right, rightTogether.
-/
import Derived.Test.YtgialbcohkpogaaNmKinds
import Derived.Test.YtgialbcohkpogaaTmMem
import Derived.Outline
import Derived.WalkLawsBesides
import Derived.Deep.RegionHeld3
namespace Go.Proofs.Ytgialbcohkpogaa
open Go.RowKit

theorem ret_int {k : IntKind} {a b : Int} (h : a = b) : Ending.returned (.int k a) = .returned (.int k b) := by rw [h]
theorem empty_iff (s : ByteArray) : s.toList.isEmpty = decide (s.size = 0) := by
  rw [raw_list, Bool.eq_iff_iff, List.isEmpty_iff, decide_eq_true_eq, ← List.length_eq_zero_iff, len_str]

theorem plain_at (t : Tm) (w : World) (ht : t.args.length ≤ 9223372036854775807) {r : Bool} (hr : plainB t = r) :
    Calls Try.prog 65 #[t.val] w fun e w' => e = .returned (.bool r) ∧ Below w.heap.size w w' := by
  obtain ⟨k, n, s, A, c, a⟩ := t
  show Calls Try.prog 65 #[.agg #[.int .i64 k, .int .i64 n, .string s, .slice A a.length c]] w _
  have HR := Lib.hid hr
  clear hr
  simp only [Tm.args] at ht
  obtain ⟨b1, hb1⟩ : ∃ b, decide (s.size = 0) = b := ⟨_, rfl⟩
  obtain ⟨b2, hb2⟩ : ∃ b, decide (a.length = 0) = b := ⟨_, rfl⟩
  have HV := Lib.hid (show (b1 && b2) = r by rw [← hb1, ← hb2]; exact HR.out)
  have e1 : s.toList.isEmpty = b1 := by rw [empty_iff, hb1]
  have e2 : ((a.length : Int) == 0) = b2 := by rw [← hb2, Bool.eq_iff_iff]; simp
  clear HR hb1 hb2
  cases b1
  · clear e2
    go_enter Try.func65, Try.ntmps65
    go_wp2_with fail
    go_ret
    exact ⟨by rw [← HV.out]; rfl, (Below.refl _ _).alloc (Nat.le_refl _) _⟩
  · cases b2
    · go_enter Try.func65, Try.ntmps65
      go_wp2_with fail
      go_ret
      exact ⟨by rw [← HV.out]; rfl, (Below.refl _ _).alloc (Nat.le_refl _) _⟩
    · go_enter Try.func65, Try.ntmps65
      go_wp2_with fail
      go_ret
      exact ⟨by rw [← HV.out]; rfl, (Below.refl _ _).alloc (Nat.le_refl _) _⟩

theorem func_at (s : ByteArray) (n : Nat) (w : World) (hs : s.size ≤ 9223372036854775807) (hn : n ≤ 9223372036854775807) {r : Bool} (hr : funcB s.data.toList n = r) :
    Calls Try.prog 66 #[.string s, .int .i64 (n : Int)] w fun e w' => e = .returned (.bool r) ∧ w = w' := by
  have HR := Lib.hid hr
  clear hr
  obtain ⟨b1, hb1⟩ : ∃ b, opB s.data.toList = b := ⟨_, rfl⟩
  have q1 := Lib.hid (op_at s w hb1)
  cases b1
  · obtain ⟨b2, hb2⟩ : ∃ b, rightB s.data.toList = b := ⟨_, rfl⟩
    have q2 := Lib.hid (right_at s w hs hb2)
    by_cases h6 : n ≤ 6
    · have h6' : (n : Int) ≤ 6 := by omega
      have HV := Lib.hid (show b2 = r by rw [← HR.out]; simp [funcB, hb1, hb2, h6])
      clear hb1 hb2 HR h6
      go_enter Try.func66, Try.ntmps66
      go_wp2_with fail
      refine q1.out.mono ?_
      rintro e w' ⟨rfl, rfl⟩
      go_wp2_with fail
      refine q2.out.mono ?_
      rintro e w' ⟨rfl, rfl⟩
      go_wp2_with fail
      go_ret
      exact ⟨by rw [← HV.out]; rfl, rfl⟩
    · have h6' : decide ((n : Int) ≤ 6) = false := by simp; omega
      have HV := Lib.hid (show false = r by rw [← HR.out]; simp [funcB, hb1, h6])
      clear hb1 hb2 HR h6
      go_enter Try.func66, Try.ntmps66
      go_wp2_with fail
      refine q1.out.mono ?_
      rintro e w' ⟨rfl, rfl⟩
      go_wp2_with fail
      go_ret
      exact ⟨by rw [← HV.out]; rfl, rfl⟩
  · obtain ⟨b2, hb2⟩ : ∃ b, ((n : Int) == 2) = b := ⟨_, rfl⟩
    have HV := Lib.hid (show b2 = r by rw [← HR.out, ← hb2, Bool.eq_iff_iff]; simp [funcB, hb1]; omega)
    clear hb1 HR
    cases b2
    all_goals
      go_enter Try.func66, Try.ntmps66
      go_wp2_with fail
      refine q1.out.mono ?_
      rintro e w' ⟨rfl, rfl⟩
      go_wp2_with fail
      go_ret
      exact ⟨by rw [← HV.out]; rfl, rfl⟩
end Go.Proofs.Ytgialbcohkpogaa
