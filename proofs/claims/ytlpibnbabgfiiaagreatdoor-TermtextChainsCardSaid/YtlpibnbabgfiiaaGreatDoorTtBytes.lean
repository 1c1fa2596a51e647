/-
  Contracts of the reader's functions on bytes: isLower, isUpper, isDigit, isWordByte; the strength of an operator.
-/
import Derived.Test.YtlpibnbabgfiiaaGreatDoorTtPlain
import Derived.Test.YtlpibnbabgfiiaaGreatDoorNmAll
namespace Go.Proofs.YtlpibnbabgfiiaaGreatDoor
open Go.RowKit

theorem tt_low_at (x : UInt8) (w : World) {r : Bool} (h : lowB x = r) :
    Calls Tryz.prog 80 #[.int .u8 (x.toNat : Int)] w fun e w' => e = .returned (.bool r) ∧ w = w' := by
  subst h
  by_cases h1 : 97 ≤ x.toNat
  · have h1' : (97 : Int) ≤ (x.toNat : Int) := by omega
    by_cases h2 : x.toNat ≤ 122
    · have h2' : (x.toNat : Int) ≤ 122 := by omega
      have HV := Lib.hid (show lowB x = true by simp only [lowB, h1, h2, and_self, decide_true])
      clear h1 h2
      go_enter Tryz.func80, Tryz.ntmps80
      go_wp2
      go_ret
      exact ⟨ret_bool (by rw [HV.out]), rfl⟩
    · have h2' : decide ((x.toNat : Int) ≤ 122) = false := by simp; omega
      have HV := Lib.hid (show lowB x = false by simp only [lowB, h2, and_false, decide_false])
      clear h1 h2
      go_enter Tryz.func80, Tryz.ntmps80
      go_wp2
      go_ret
      exact ⟨ret_bool (by rw [HV.out]), rfl⟩
  · have h1' : decide ((97 : Int) ≤ (x.toNat : Int)) = false := by simp; omega
    have HV := Lib.hid (show lowB x = false by simp only [lowB, h1, false_and, decide_false])
    clear h1
    go_enter Tryz.func80, Tryz.ntmps80
    go_wp2
    go_ret
    exact ⟨ret_bool (by rw [HV.out]), rfl⟩

theorem tt_upp_at (x : UInt8) (w : World) {r : Bool} (h : uppB x = r) :
    Calls Tryz.prog 110 #[.int .u8 (x.toNat : Int)] w fun e w' => e = .returned (.bool r) ∧ w = w' := by
  subst h
  by_cases h1 : 65 ≤ x.toNat
  · have h1' : (65 : Int) ≤ (x.toNat : Int) := by omega
    by_cases h2 : x.toNat ≤ 90
    · have h2' : (x.toNat : Int) ≤ 90 := by omega
      have HV := Lib.hid (show uppB x = true by simp only [uppB, h1, h2, and_self, decide_true])
      clear h1 h2
      go_enter Tryz.func110, Tryz.ntmps110
      go_wp2
      go_ret
      exact ⟨ret_bool (by rw [HV.out]), rfl⟩
    · have h2' : decide ((x.toNat : Int) ≤ 90) = false := by simp; omega
      have HV := Lib.hid (show uppB x = false by simp only [uppB, h2, and_false, decide_false])
      clear h1 h2
      go_enter Tryz.func110, Tryz.ntmps110
      go_wp2
      go_ret
      exact ⟨ret_bool (by rw [HV.out]), rfl⟩
  · have h1' : decide ((65 : Int) ≤ (x.toNat : Int)) = false := by simp; omega
    have HV := Lib.hid (show uppB x = false by simp only [uppB, h1, false_and, decide_false])
    clear h1
    go_enter Tryz.func110, Tryz.ntmps110
    go_wp2
    go_ret
    exact ⟨ret_bool (by rw [HV.out]), rfl⟩

theorem tt_dig_at (x : UInt8) (w : World) {r : Bool} (h : digB x = r) :
    Calls Tryz.prog 111 #[.int .u8 (x.toNat : Int)] w fun e w' => e = .returned (.bool r) ∧ w = w' := by
  subst h
  by_cases h1 : 48 ≤ x.toNat
  · have h1' : (48 : Int) ≤ (x.toNat : Int) := by omega
    by_cases h2 : x.toNat ≤ 57
    · have h2' : (x.toNat : Int) ≤ 57 := by omega
      have HV := Lib.hid (show digB x = true by simp only [digB, h1, h2, and_self, decide_true])
      clear h1 h2
      go_enter Tryz.func111, Tryz.ntmps111
      go_wp2
      go_ret
      exact ⟨ret_bool (by rw [HV.out]), rfl⟩
    · have h2' : decide ((x.toNat : Int) ≤ 57) = false := by simp; omega
      have HV := Lib.hid (show digB x = false by simp only [digB, h2, and_false, decide_false])
      clear h1 h2
      go_enter Tryz.func111, Tryz.ntmps111
      go_wp2
      go_ret
      exact ⟨ret_bool (by rw [HV.out]), rfl⟩
  · have h1' : decide ((48 : Int) ≤ (x.toNat : Int)) = false := by simp; omega
    have HV := Lib.hid (show digB x = false by simp only [digB, h1, false_and, decide_false])
    clear h1
    go_enter Tryz.func111, Tryz.ntmps111
    go_wp2
    go_ret
    exact ⟨ret_bool (by rw [HV.out]), rfl⟩

theorem tt_word_at (x : UInt8) (w : World) {r : Bool} (h : inB x = r) :
    Calls Tryz.prog 83 #[.int .u8 (x.toNat : Int)] w fun e w' => e = .returned (.bool r) ∧ w = w' := by
  subst h
  obtain ⟨b1, h1⟩ : ∃ b, lowB x = b := ⟨_, rfl⟩
  obtain ⟨b2, h2⟩ : ∃ b, uppB x = b := ⟨_, rfl⟩
  obtain ⟨b3, h3⟩ : ∃ b, digB x = b := ⟨_, rfl⟩
  have HV := Lib.hid (show inB x = (b1 || b2 || b3 || undB x) by rw [← h1, ← h2, ← h3]; rfl)
  have H4 := Lib.hid (show undB x = (((x.toNat : Int) == 95)) by
    unfold undB
    rw [Bool.eq_iff_iff]
    simp
    omega)
  have Q1 := Lib.hid (tt_low_at x w h1)
  have Q2 := Lib.hid (tt_upp_at x w h2)
  have Q3 := Lib.hid (tt_dig_at x w h3)
  clear h1 h2 h3
  cases b1
  all_goals cases b2
  all_goals cases b3
  all_goals
    go_enter Tryz.func83, Tryz.ntmps83
    go_wp2_with (first | (go_at_call 80; refine Q1.out.mono ?_; rintro e w' ⟨rfl, rfl⟩) | (go_at_call 110; refine Q2.out.mono ?_; rintro e w' ⟨rfl, rfl⟩) | (go_at_call 111; refine Q3.out.mono ?_; rintro e w' ⟨rfl, rfl⟩))
    go_ret
    exact ⟨ret_bool (by rw [HV.out]; simp [H4.out]), rfl⟩

theorem ret_int64 {a b : Int} (h : a = b) : Ending.returned (.int .i64 a) = .returned (.int .i64 b) := by rw [h]
theorem str_is {x : ByteArray} {l : List UInt8} (h : x.data.toList = l) : (x.toList == l) = true := by
  rw [raw_list, h]
  simp
theorem str_not {x : ByteArray} {l : List UInt8} (h : x.data.toList ≠ l) : (x.toList == l) = false := by
  rw [raw_list]
  simpa using h
set_option maxHeartbeats 1000000 in
theorem ostr_at (s : ByteArray) (w : World) {n : Nat} (hn : ostr s.data.toList = n) :
    Calls Tryz.prog 62 #[.string s] w fun e w' => e = .returned (.int .i64 (n : Int)) ∧ w = w' := by
  subst hn
  by_cases c1 : s.data.toList = [43]
  · have HV := Lib.hid (show ostr s.data.toList = 0 by simp [ostr, c1])
    have t1 := str_is c1
    clear c1
    go_enter Tryz.func62, Tryz.ntmps62
    go_wp2
    go_ret
    exact ⟨by rw [HV.out]; rfl, rfl⟩
  have t1 := str_not c1
  by_cases c2 : s.data.toList = [45]
  · have HV := Lib.hid (show ostr s.data.toList = 0 by simp [ostr, c2])
    have t2 := str_is c2
    clear c1 c2
    go_enter Tryz.func62, Tryz.ntmps62
    go_wp2
    go_ret
    exact ⟨by rw [HV.out]; rfl, rfl⟩
  have t2 := str_not c2
  by_cases c3 : s.data.toList = [42]
  · have HV := Lib.hid (show ostr s.data.toList = 1 by simp [ostr, c3])
    have t3 := str_is c3
    clear c1 c2 c3
    go_enter Tryz.func62, Tryz.ntmps62
    go_wp2
    go_ret
    exact ⟨by rw [HV.out]; rfl, rfl⟩
  have t3 := str_not c3
  by_cases c4 : s.data.toList = [47]
  · have HV := Lib.hid (show ostr s.data.toList = 1 by simp [ostr, c4])
    have t4 := str_is c4
    clear c1 c2 c3 c4
    go_enter Tryz.func62, Tryz.ntmps62
    go_wp2
    go_ret
    exact ⟨by rw [HV.out]; rfl, rfl⟩
  have t4 := str_not c4
  by_cases c5 : s.data.toList = [37]
  · have HV := Lib.hid (show ostr s.data.toList = 1 by simp [ostr, c5])
    have t5 := str_is c5
    clear c1 c2 c3 c4 c5
    go_enter Tryz.func62, Tryz.ntmps62
    go_wp2
    go_ret
    exact ⟨by rw [HV.out]; rfl, rfl⟩
  have t5 := str_not c5
  have HV := Lib.hid (show ostr s.data.toList = 2 by simp [ostr, c1, c2, c3, c4, c5])
  clear c1 c2 c3 c4 c5
  go_enter Tryz.func62, Tryz.ntmps62
  go_wp2
  go_ret
  exact ⟨by rw [HV.out]; rfl, rfl⟩
end Go.Proofs.YtlpibnbabgfiiaaGreatDoor
