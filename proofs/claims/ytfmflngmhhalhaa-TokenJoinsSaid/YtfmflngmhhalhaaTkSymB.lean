/-
  The contract of isSymbol: the 23 symbols.
-/
import Derived.Test.YtfmflngmhhalhaaTkByte
namespace Go.Proofs.Ytfmflngmhhalhaa
open Go.RowKit

def symB (l : List UInt8) : Bool := decide (l ∈ syms)
theorem sym_is0 (w : World) : Calls Try.prog 27 #[.string ⟨#[64]⟩] w fun e w' => e = .returned (.bool true) ∧ w = w' := by
  go_enter Try.func27, Try.ntmps27
  go_wp2
  go_ret
  exact ⟨rfl, rfl⟩
theorem sym_is1 (w : World) : Calls Try.prog 27 #[.string ⟨#[44]⟩] w fun e w' => e = .returned (.bool true) ∧ w = w' := by
  go_enter Try.func27, Try.ntmps27
  go_wp2
  go_ret
  exact ⟨rfl, rfl⟩
theorem sym_is2 (w : World) : Calls Try.prog 27 #[.string ⟨#[46]⟩] w fun e w' => e = .returned (.bool true) ∧ w = w' := by
  go_enter Try.func27, Try.ntmps27
  go_wp2
  go_ret
  exact ⟨rfl, rfl⟩
theorem sym_is3 (w : World) : Calls Try.prog 27 #[.string ⟨#[40]⟩] w fun e w' => e = .returned (.bool true) ∧ w = w' := by
  go_enter Try.func27, Try.ntmps27
  go_wp2
  go_ret
  exact ⟨rfl, rfl⟩
theorem sym_is4 (w : World) : Calls Try.prog 27 #[.string ⟨#[41]⟩] w fun e w' => e = .returned (.bool true) ∧ w = w' := by
  go_enter Try.func27, Try.ntmps27
  go_wp2
  go_ret
  exact ⟨rfl, rfl⟩
theorem sym_is5 (w : World) : Calls Try.prog 27 #[.string ⟨#[124]⟩] w fun e w' => e = .returned (.bool true) ∧ w = w' := by
  go_enter Try.func27, Try.ntmps27
  go_wp2
  go_ret
  exact ⟨rfl, rfl⟩
theorem sym_is6 (w : World) : Calls Try.prog 27 #[.string ⟨#[47]⟩] w fun e w' => e = .returned (.bool true) ∧ w = w' := by
  go_enter Try.func27, Try.ntmps27
  go_wp2
  go_ret
  exact ⟨rfl, rfl⟩
theorem sym_is7 (w : World) : Calls Try.prog 27 #[.string ⟨#[92]⟩] w fun e w' => e = .returned (.bool true) ∧ w = w' := by
  go_enter Try.func27, Try.ntmps27
  go_wp2
  go_ret
  exact ⟨rfl, rfl⟩
theorem sym_is8 (w : World) : Calls Try.prog 27 #[.string ⟨#[43]⟩] w fun e w' => e = .returned (.bool true) ∧ w = w' := by
  go_enter Try.func27, Try.ntmps27
  go_wp2
  go_ret
  exact ⟨rfl, rfl⟩
theorem sym_is9 (w : World) : Calls Try.prog 27 #[.string ⟨#[45]⟩] w fun e w' => e = .returned (.bool true) ∧ w = w' := by
  go_enter Try.func27, Try.ntmps27
  go_wp2
  go_ret
  exact ⟨rfl, rfl⟩
theorem sym_is10 (w : World) : Calls Try.prog 27 #[.string ⟨#[42]⟩] w fun e w' => e = .returned (.bool true) ∧ w = w' := by
  go_enter Try.func27, Try.ntmps27
  go_wp2
  go_ret
  exact ⟨rfl, rfl⟩
theorem sym_is11 (w : World) : Calls Try.prog 27 #[.string ⟨#[37]⟩] w fun e w' => e = .returned (.bool true) ∧ w = w' := by
  go_enter Try.func27, Try.ntmps27
  go_wp2
  go_ret
  exact ⟨rfl, rfl⟩
theorem sym_is12 (w : World) : Calls Try.prog 27 #[.string ⟨#[61]⟩] w fun e w' => e = .returned (.bool true) ∧ w = w' := by
  go_enter Try.func27, Try.ntmps27
  go_wp2
  go_ret
  exact ⟨rfl, rfl⟩
theorem sym_is13 (w : World) : Calls Try.prog 27 #[.string ⟨#[61, 61]⟩] w fun e w' => e = .returned (.bool true) ∧ w = w' := by
  go_enter Try.func27, Try.ntmps27
  go_wp2
  go_ret
  exact ⟨rfl, rfl⟩
theorem sym_is14 (w : World) : Calls Try.prog 27 #[.string ⟨#[92, 61]⟩] w fun e w' => e = .returned (.bool true) ∧ w = w' := by
  go_enter Try.func27, Try.ntmps27
  go_wp2
  go_ret
  exact ⟨rfl, rfl⟩
theorem sym_is15 (w : World) : Calls Try.prog 27 #[.string ⟨#[60]⟩] w fun e w' => e = .returned (.bool true) ∧ w = w' := by
  go_enter Try.func27, Try.ntmps27
  go_wp2
  go_ret
  exact ⟨rfl, rfl⟩
theorem sym_is16 (w : World) : Calls Try.prog 27 #[.string ⟨#[61, 60]⟩] w fun e w' => e = .returned (.bool true) ∧ w = w' := by
  go_enter Try.func27, Try.ntmps27
  go_wp2
  go_ret
  exact ⟨rfl, rfl⟩
theorem sym_is17 (w : World) : Calls Try.prog 27 #[.string ⟨#[62]⟩] w fun e w' => e = .returned (.bool true) ∧ w = w' := by
  go_enter Try.func27, Try.ntmps27
  go_wp2
  go_ret
  exact ⟨rfl, rfl⟩
theorem sym_is18 (w : World) : Calls Try.prog 27 #[.string ⟨#[62, 61]⟩] w fun e w' => e = .returned (.bool true) ∧ w = w' := by
  go_enter Try.func27, Try.ntmps27
  go_wp2
  go_ret
  exact ⟨rfl, rfl⟩
theorem sym_is19 (w : World) : Calls Try.prog 27 #[.string ⟨#[61, 58, 61]⟩] w fun e w' => e = .returned (.bool true) ∧ w = w' := by
  go_enter Try.func27, Try.ntmps27
  go_wp2
  go_ret
  exact ⟨rfl, rfl⟩
theorem sym_is20 (w : World) : Calls Try.prog 27 #[.string ⟨#[61, 92, 61]⟩] w fun e w' => e = .returned (.bool true) ∧ w = w' := by
  go_enter Try.func27, Try.ntmps27
  go_wp2
  go_ret
  exact ⟨rfl, rfl⟩
theorem sym_is21 (w : World) : Calls Try.prog 27 #[.string ⟨#[60, 61, 62]⟩] w fun e w' => e = .returned (.bool true) ∧ w = w' := by
  go_enter Try.func27, Try.ntmps27
  go_wp2
  go_ret
  exact ⟨rfl, rfl⟩
theorem sym_is22 (w : World) : Calls Try.prog 27 #[.string ⟨#[61, 61, 62]⟩] w fun e w' => e = .returned (.bool true) ∧ w = w' := by
  go_enter Try.func27, Try.ntmps27
  go_wp2
  go_ret
  exact ⟨rfl, rfl⟩
set_option maxHeartbeats 1000000 in
theorem sym_not (s : ByteArray) (w : World) (h0 : s.data.toList ≠ [64]) (h1 : s.data.toList ≠ [44]) (h2 : s.data.toList ≠ [46]) (h3 : s.data.toList ≠ [40]) (h4 : s.data.toList ≠ [41]) (h5 : s.data.toList ≠ [124]) (h6 : s.data.toList ≠ [47]) (h7 : s.data.toList ≠ [92]) (h8 : s.data.toList ≠ [43]) (h9 : s.data.toList ≠ [45]) (h10 : s.data.toList ≠ [42]) (h11 : s.data.toList ≠ [37]) (h12 : s.data.toList ≠ [61]) (h13 : s.data.toList ≠ [61, 61]) (h14 : s.data.toList ≠ [92, 61]) (h15 : s.data.toList ≠ [60]) (h16 : s.data.toList ≠ [61, 60]) (h17 : s.data.toList ≠ [62]) (h18 : s.data.toList ≠ [62, 61]) (h19 : s.data.toList ≠ [61, 58, 61]) (h20 : s.data.toList ≠ [61, 92, 61]) (h21 : s.data.toList ≠ [60, 61, 62]) (h22 : s.data.toList ≠ [61, 61, 62]) : Calls Try.prog 27 #[.string s] w fun e w' => e = .returned (.bool false) ∧ w = w' := by
  have n0 := raw_ne h0
  have n1 := raw_ne h1
  have n2 := raw_ne h2
  have n3 := raw_ne h3
  have n4 := raw_ne h4
  have n5 := raw_ne h5
  have n6 := raw_ne h6
  have n7 := raw_ne h7
  have n8 := raw_ne h8
  have n9 := raw_ne h9
  have n10 := raw_ne h10
  have n11 := raw_ne h11
  have n12 := raw_ne h12
  have n13 := raw_ne h13
  have n14 := raw_ne h14
  have n15 := raw_ne h15
  have n16 := raw_ne h16
  have n17 := raw_ne h17
  have n18 := raw_ne h18
  have n19 := raw_ne h19
  have n20 := raw_ne h20
  have n21 := raw_ne h21
  have n22 := raw_ne h22
  clear h0 h1 h2 h3 h4 h5 h6 h7 h8 h9 h10 h11 h12 h13 h14 h15 h16 h17 h18 h19 h20 h21 h22
  go_enter Try.func27, Try.ntmps27
  go_wp2
  go_ret
  exact ⟨rfl, rfl⟩
theorem symb_at (s : ByteArray) (w : World) {r : Bool} (hr : symB s.data.toList = r) :
    Calls Try.prog 27 #[.string s] w fun e w' => e = .returned (.bool r) ∧ w = w' := by
  by_cases h0 : s.data.toList = [64]
  · obtain rfl := str_of h0
    obtain rfl : true = r := by rw [← hr]; decide
    exact sym_is0 w
  by_cases h1 : s.data.toList = [44]
  · obtain rfl := str_of h1
    obtain rfl : true = r := by rw [← hr]; decide
    exact sym_is1 w
  by_cases h2 : s.data.toList = [46]
  · obtain rfl := str_of h2
    obtain rfl : true = r := by rw [← hr]; decide
    exact sym_is2 w
  by_cases h3 : s.data.toList = [40]
  · obtain rfl := str_of h3
    obtain rfl : true = r := by rw [← hr]; decide
    exact sym_is3 w
  by_cases h4 : s.data.toList = [41]
  · obtain rfl := str_of h4
    obtain rfl : true = r := by rw [← hr]; decide
    exact sym_is4 w
  by_cases h5 : s.data.toList = [124]
  · obtain rfl := str_of h5
    obtain rfl : true = r := by rw [← hr]; decide
    exact sym_is5 w
  by_cases h6 : s.data.toList = [47]
  · obtain rfl := str_of h6
    obtain rfl : true = r := by rw [← hr]; decide
    exact sym_is6 w
  by_cases h7 : s.data.toList = [92]
  · obtain rfl := str_of h7
    obtain rfl : true = r := by rw [← hr]; decide
    exact sym_is7 w
  by_cases h8 : s.data.toList = [43]
  · obtain rfl := str_of h8
    obtain rfl : true = r := by rw [← hr]; decide
    exact sym_is8 w
  by_cases h9 : s.data.toList = [45]
  · obtain rfl := str_of h9
    obtain rfl : true = r := by rw [← hr]; decide
    exact sym_is9 w
  by_cases h10 : s.data.toList = [42]
  · obtain rfl := str_of h10
    obtain rfl : true = r := by rw [← hr]; decide
    exact sym_is10 w
  by_cases h11 : s.data.toList = [37]
  · obtain rfl := str_of h11
    obtain rfl : true = r := by rw [← hr]; decide
    exact sym_is11 w
  by_cases h12 : s.data.toList = [61]
  · obtain rfl := str_of h12
    obtain rfl : true = r := by rw [← hr]; decide
    exact sym_is12 w
  by_cases h13 : s.data.toList = [61, 61]
  · obtain rfl := str_of h13
    obtain rfl : true = r := by rw [← hr]; decide
    exact sym_is13 w
  by_cases h14 : s.data.toList = [92, 61]
  · obtain rfl := str_of h14
    obtain rfl : true = r := by rw [← hr]; decide
    exact sym_is14 w
  by_cases h15 : s.data.toList = [60]
  · obtain rfl := str_of h15
    obtain rfl : true = r := by rw [← hr]; decide
    exact sym_is15 w
  by_cases h16 : s.data.toList = [61, 60]
  · obtain rfl := str_of h16
    obtain rfl : true = r := by rw [← hr]; decide
    exact sym_is16 w
  by_cases h17 : s.data.toList = [62]
  · obtain rfl := str_of h17
    obtain rfl : true = r := by rw [← hr]; decide
    exact sym_is17 w
  by_cases h18 : s.data.toList = [62, 61]
  · obtain rfl := str_of h18
    obtain rfl : true = r := by rw [← hr]; decide
    exact sym_is18 w
  by_cases h19 : s.data.toList = [61, 58, 61]
  · obtain rfl := str_of h19
    obtain rfl : true = r := by rw [← hr]; decide
    exact sym_is19 w
  by_cases h20 : s.data.toList = [61, 92, 61]
  · obtain rfl := str_of h20
    obtain rfl : true = r := by rw [← hr]; decide
    exact sym_is20 w
  by_cases h21 : s.data.toList = [60, 61, 62]
  · obtain rfl := str_of h21
    obtain rfl : true = r := by rw [← hr]; decide
    exact sym_is21 w
  by_cases h22 : s.data.toList = [61, 61, 62]
  · obtain rfl := str_of h22
    obtain rfl : true = r := by rw [← hr]; decide
    exact sym_is22 w
  obtain rfl : false = r := by
    rw [← hr]
    simp only [symB, syms, List.mem_cons, List.not_mem_nil, or_false, h0, h1, h2, h3, h4, h5, h6, h7, h8, h9, h10, h11, h12, h13, h14, h15, h16, h17, h18, h19, h20, h21, h22, decide_false]
  exact sym_not s w h0 h1 h2 h3 h4 h5 h6 h7 h8 h9 h10 h11 h12 h13 h14 h15 h16 h17 h18 h19 h20 h21 h22
end Go.Proofs.Ytfmflngmhhalhaa
