/-
  Contracts of the operators: isOperator, isInRange, quotient, compute and Apply of the program; operator, in, floor and Apply of the reference.
-/
import Derived.Test.YtponcbnghiaclaaProg
import Derived.Test.YtponcbnghiaclaaArPlain
import Derived.Test.YtponcbnghiaclaaTmBelow
import Derived.IntWalk
import Derived.Outline
import Derived.WalkLawsBesides
namespace Go.Proofs.Ytponcbnghiaclaa
open Go.RowKit

theorem raw_list (s : ByteArray) : s.toList = s.data.toList := ByteArray.toList_eq s
theorem str_of {s : ByteArray} {l : List UInt8} (h : s.data.toList = l) : s = ⟨l.toArray⟩ := by
  subst h
  rfl
theorem raw_ne {s : ByteArray} {l : List UInt8} (h : s.data.toList ≠ l) : (s.toList == l) = false := by
  rw [raw_list]
  simpa using h

set_option maxHeartbeats 1000000 in
theorem is_op_at (s : ByteArray) (w : World) {r : Bool} (hr : opB s.data.toList = r) :
    Calls Try.prog 22 #[.string s] w fun e w' => e = .returned (.bool r) ∧ w = w' := by
  by_cases h0 : s.data.toList = [43]
  · obtain rfl := str_of h0
    obtain rfl : true = r := by rw [← hr]; decide
    clear h0 hr
    go_enter Try.func22, Try.ntmps22
    go_wp2
    go_ret
    exact ⟨rfl, rfl⟩
  by_cases h1 : s.data.toList = [45]
  · obtain rfl := str_of h1
    obtain rfl : true = r := by rw [← hr]; decide
    clear h0 h1 hr
    go_enter Try.func22, Try.ntmps22
    go_wp2
    go_ret
    exact ⟨rfl, rfl⟩
  by_cases h2 : s.data.toList = [42]
  · obtain rfl := str_of h2
    obtain rfl : true = r := by rw [← hr]; decide
    clear h0 h1 h2 hr
    go_enter Try.func22, Try.ntmps22
    go_wp2
    go_ret
    exact ⟨rfl, rfl⟩
  by_cases h3 : s.data.toList = [47]
  · obtain rfl := str_of h3
    obtain rfl : true = r := by rw [← hr]; decide
    clear h0 h1 h2 h3 hr
    go_enter Try.func22, Try.ntmps22
    go_wp2
    go_ret
    exact ⟨rfl, rfl⟩
  by_cases h4 : s.data.toList = [37]
  · obtain rfl := str_of h4
    obtain rfl : true = r := by rw [← hr]; decide
    clear h0 h1 h2 h3 h4 hr
    go_enter Try.func22, Try.ntmps22
    go_wp2
    go_ret
    exact ⟨rfl, rfl⟩
  obtain rfl : false = r := by
    rw [← hr]
    simp only [opB, operators, List.mem_cons, List.not_mem_nil, or_false, h0, h1, h2, h3, h4, decide_false]
  have n0 := raw_ne h0
  have n1 := raw_ne h1
  have n2 := raw_ne h2
  have n3 := raw_ne h3
  have n4 := raw_ne h4
  clear h0 h1 h2 h3 h4 hr
  go_enter Try.func22, Try.ntmps22
  go_wp2
  go_ret
  exact ⟨rfl, rfl⟩

set_option maxHeartbeats 1000000 in
theorem ref_oper_at (s : ByteArray) (w : World) {r : Bool} (hr : opB s.data.toList = r) :
    Calls Try.prog 25 #[.string s] w fun e w' => e = .returned (.bool r) ∧ w = w' := by
  by_cases h0 : s.data.toList = [43]
  · obtain rfl := str_of h0
    obtain rfl : true = r := by rw [← hr]; decide
    clear h0 hr
    go_enter Try.func25, Try.ntmps25
    go_wp2
    go_ret
    exact ⟨rfl, rfl⟩
  by_cases h1 : s.data.toList = [45]
  · obtain rfl := str_of h1
    obtain rfl : true = r := by rw [← hr]; decide
    clear h0 h1 hr
    go_enter Try.func25, Try.ntmps25
    go_wp2
    go_ret
    exact ⟨rfl, rfl⟩
  by_cases h2 : s.data.toList = [42]
  · obtain rfl := str_of h2
    obtain rfl : true = r := by rw [← hr]; decide
    clear h0 h1 h2 hr
    go_enter Try.func25, Try.ntmps25
    go_wp2
    go_ret
    exact ⟨rfl, rfl⟩
  by_cases h3 : s.data.toList = [47]
  · obtain rfl := str_of h3
    obtain rfl : true = r := by rw [← hr]; decide
    clear h0 h1 h2 h3 hr
    go_enter Try.func25, Try.ntmps25
    go_wp2
    go_ret
    exact ⟨rfl, rfl⟩
  by_cases h4 : s.data.toList = [37]
  · obtain rfl := str_of h4
    obtain rfl : true = r := by rw [← hr]; decide
    clear h0 h1 h2 h3 h4 hr
    go_enter Try.func25, Try.ntmps25
    go_wp2
    go_ret
    exact ⟨rfl, rfl⟩
  obtain rfl : false = r := by
    rw [← hr]
    simp only [opB, operators, List.mem_cons, List.not_mem_nil, or_false, h0, h1, h2, h3, h4, decide_false]
  have n0 := raw_ne h0
  have n1 := raw_ne h1
  have n2 := raw_ne h2
  have n3 := raw_ne h3
  have n4 := raw_ne h4
  clear h0 h1 h2 h3 h4 hr
  go_enter Try.func25, Try.ntmps25
  go_wp2
  go_ret
  exact ⟨rfl, rfl⟩

theorem in_range_at (n : Int) (w : World) {r : Bool} (hr : inR n = r) :
    Calls Try.prog 23 #[.int .i64 n] w fun e w' => e = .returned (.bool r) ∧ w = w' := by
  by_cases h1 : -2147483648 ≤ n
  · obtain ⟨b, hb⟩ : ∃ b, decide (n ≤ 2147483648) = b := ⟨_, rfl⟩
    obtain rfl : b = r := by rw [← hr, ← hb]; simp [inR, h1]
    clear hr
    have HB := Lib.hid hb
    clear hb
    go_enter Try.func23, Try.ntmps23
    go_wp2
    go_ret
    exact ⟨by rw [← HB.out]; rfl, rfl⟩
  · have h2 : decide (-2147483648 ≤ n) = false := by simpa using h1
    obtain rfl : false = r := by rw [← hr]; simp [inR, h1]
    clear hr h1
    go_enter Try.func23, Try.ntmps23
    go_wp2
    go_ret
    exact ⟨rfl, rfl⟩

theorem ref_in_at (n : Int) (w : World) {r : Bool} (hr : inR n = r) :
    Calls Try.prog 26 #[.int .i64 n] w fun e w' => e = .returned (.bool r) ∧ w = w' := by
  by_cases h1 : -2147483648 ≤ n
  · obtain ⟨b, hb⟩ : ∃ b, decide (n ≤ 2147483648) = b := ⟨_, rfl⟩
    obtain rfl : b = r := by rw [← hr, ← hb]; simp [inR, h1]
    clear hr
    have HB := Lib.hid hb
    clear hb
    go_enter Try.func26, Try.ntmps26
    go_wp2
    go_ret
    exact ⟨by rw [← HB.out]; rfl, rfl⟩
  · have h2 : decide (-2147483648 ≤ n) = false := by simpa using h1
    obtain rfl : false = r := by rw [← hr]; simp [inR, h1]
    clear hr h1
    go_enter Try.func26, Try.ntmps26
    go_wp2
    go_ret
    exact ⟨rfl, rfl⟩
end Go.Proofs.Ytponcbnghiaclaa
