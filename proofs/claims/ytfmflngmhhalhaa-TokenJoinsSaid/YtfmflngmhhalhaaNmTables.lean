/-
  Contracts of Operator and Reserved of the program, and of the reference's own.
-/
import Derived.Test.YtfmflngmhhalhaaNmWord
namespace Go.Proofs.Ytfmflngmhhalhaa
open Go.RowKit

theorem raw_list (s : ByteArray) : s.toList = s.data.toList := Lib.toList_data s
theorem str_of {s : ByteArray} {l : List UInt8} (h : s.data.toList = l) : s = ⟨l.toArray⟩ := by
  subst h
  rfl
theorem raw_ne {s : ByteArray} {l : List UInt8} (h : s.data.toList ≠ l) : (s.toList == l) = false := by
  rw [raw_list]
  simpa using h

set_option maxHeartbeats 1000000 in
theorem res_at (s : ByteArray) (w : World) {r : Bool} (hr : resB s.data.toList = r) :
    Calls Try.prog 37 #[.string s] w fun e w' => e = .returned (.bool r) ∧ w = w' := by
  by_cases h0 : s.data.toList = [99, 111, 110, 115, 116, 114, 97, 105, 110, 116]
  · obtain rfl := str_of h0
    obtain rfl : true = r := by rw [← hr]; decide
    clear h0 hr
    go_enter Try.func37, Try.ntmps37
    go_wp2
    go_ret
    exact ⟨rfl, rfl⟩
  by_cases h1 : s.data.toList = [116, 114, 117, 101]
  · obtain rfl := str_of h1
    obtain rfl : true = r := by rw [← hr]; decide
    clear h0 h1 hr
    go_enter Try.func37, Try.ntmps37
    go_wp2
    go_ret
    exact ⟨rfl, rfl⟩
  by_cases h2 : s.data.toList = [102, 97, 105, 108]
  · obtain rfl := str_of h2
    obtain rfl : true = r := by rw [← hr]; decide
    clear h0 h1 h2 hr
    go_enter Try.func37, Try.ntmps37
    go_wp2
    go_ret
    exact ⟨rfl, rfl⟩
  by_cases h3 : s.data.toList = [105, 115]
  · obtain rfl := str_of h3
    obtain rfl : true = r := by rw [← hr]; decide
    clear h0 h1 h2 h3 hr
    go_enter Try.func37, Try.ntmps37
    go_wp2
    go_ret
    exact ⟨rfl, rfl⟩
  by_cases h4 : s.data.toList = [105, 110, 116]
  · obtain rfl := str_of h4
    obtain rfl : true = r := by rw [← hr]; decide
    clear h0 h1 h2 h3 h4 hr
    go_enter Try.func37, Try.ntmps37
    go_wp2
    go_ret
    exact ⟨rfl, rfl⟩
  by_cases h5 : s.data.toList = [103, 114, 111, 117, 110, 100]
  · obtain rfl := str_of h5
    obtain rfl : true = r := by rw [← hr]; decide
    clear h0 h1 h2 h3 h4 h5 hr
    go_enter Try.func37, Try.ntmps37
    go_wp2
    go_ret
    exact ⟨rfl, rfl⟩
  obtain rfl : false = r := by
    rw [← hr]
    simp only [resB, reserved, List.mem_cons, List.not_mem_nil, or_false, h0, h1, h2, h3, h4, h5, decide_false]
  have n0 := raw_ne h0
  have n1 := raw_ne h1
  have n2 := raw_ne h2
  have n3 := raw_ne h3
  have n4 := raw_ne h4
  have n5 := raw_ne h5
  clear h0 h1 h2 h3 h4 h5 hr
  go_enter Try.func37, Try.ntmps37
  go_wp2
  go_ret
  exact ⟨rfl, rfl⟩

end Go.Proofs.Ytfmflngmhhalhaa
