/-
  Contracts of the functions that tell the kinds of bytes and words: isLower, isUpper, isDigit, isWord, Operator, Reserved, Right and Variable of the program, and the reference's own.
-/
import Derived.Test.YtfmflngmhhalhaaProg
import Derived.Test.YtfmflngmhhalhaaNmPlain
import Derived.WalkKit
import Derived.Below
import Derived.Lib.Hide
import Derived.Outline
namespace Go.Proofs.Ytfmflngmhhalhaa
open Go.RowKit

theorem ret_bool {a b : Bool} (h : a = b) : Ending.returned (.bool a) = .returned (.bool b) := by rw [h]
theorem len_str (s : ByteArray) : s.data.toList.length = s.size := Array.length_toList

theorem low_at (x : UInt8) (w : World) {r : Bool} (h : lowB x = r) :
    Calls Try.prog 43 #[.int .u8 (x.toNat : Int)] w fun e w' => e = .returned (.bool r) ∧ w = w' := by
  subst h
  by_cases h1 : 97 ≤ x.toNat
  · have h1' : (97 : Int) ≤ (x.toNat : Int) := by omega
    by_cases h2 : x.toNat ≤ 122
    · have h2' : (x.toNat : Int) ≤ 122 := by omega
      have HV := Lib.hid (show lowB x = true by simp only [lowB, h1, h2, and_self, decide_true])
      clear h1 h2
      go_enter Try.func43, Try.ntmps43
      go_wp2
      go_ret
      exact ⟨ret_bool (by rw [HV.out]), rfl⟩
    · have h2' : decide ((x.toNat : Int) ≤ 122) = false := by simp; omega
      have HV := Lib.hid (show lowB x = false by simp only [lowB, h2, and_false, decide_false])
      clear h1 h2
      go_enter Try.func43, Try.ntmps43
      go_wp2
      go_ret
      exact ⟨ret_bool (by rw [HV.out]), rfl⟩
  · have h1' : decide ((97 : Int) ≤ (x.toNat : Int)) = false := by simp; omega
    have HV := Lib.hid (show lowB x = false by simp only [lowB, h1, false_and, decide_false])
    clear h1
    go_enter Try.func43, Try.ntmps43
    go_wp2
    go_ret
    exact ⟨ret_bool (by rw [HV.out]), rfl⟩

theorem upp_at (x : UInt8) (w : World) {r : Bool} (h : uppB x = r) :
    Calls Try.prog 44 #[.int .u8 (x.toNat : Int)] w fun e w' => e = .returned (.bool r) ∧ w = w' := by
  subst h
  by_cases h1 : 65 ≤ x.toNat
  · have h1' : (65 : Int) ≤ (x.toNat : Int) := by omega
    by_cases h2 : x.toNat ≤ 90
    · have h2' : (x.toNat : Int) ≤ 90 := by omega
      have HV := Lib.hid (show uppB x = true by simp only [uppB, h1, h2, and_self, decide_true])
      clear h1 h2
      go_enter Try.func44, Try.ntmps44
      go_wp2
      go_ret
      exact ⟨ret_bool (by rw [HV.out]), rfl⟩
    · have h2' : decide ((x.toNat : Int) ≤ 90) = false := by simp; omega
      have HV := Lib.hid (show uppB x = false by simp only [uppB, h2, and_false, decide_false])
      clear h1 h2
      go_enter Try.func44, Try.ntmps44
      go_wp2
      go_ret
      exact ⟨ret_bool (by rw [HV.out]), rfl⟩
  · have h1' : decide ((65 : Int) ≤ (x.toNat : Int)) = false := by simp; omega
    have HV := Lib.hid (show uppB x = false by simp only [uppB, h1, false_and, decide_false])
    clear h1
    go_enter Try.func44, Try.ntmps44
    go_wp2
    go_ret
    exact ⟨ret_bool (by rw [HV.out]), rfl⟩

theorem dig_at (x : UInt8) (w : World) {r : Bool} (h : digB x = r) :
    Calls Try.prog 46 #[.int .u8 (x.toNat : Int)] w fun e w' => e = .returned (.bool r) ∧ w = w' := by
  subst h
  by_cases h1 : 48 ≤ x.toNat
  · have h1' : (48 : Int) ≤ (x.toNat : Int) := by omega
    by_cases h2 : x.toNat ≤ 57
    · have h2' : (x.toNat : Int) ≤ 57 := by omega
      have HV := Lib.hid (show digB x = true by simp only [digB, h1, h2, and_self, decide_true])
      clear h1 h2
      go_enter Try.func46, Try.ntmps46
      go_wp2
      go_ret
      exact ⟨ret_bool (by rw [HV.out]), rfl⟩
    · have h2' : decide ((x.toNat : Int) ≤ 57) = false := by simp; omega
      have HV := Lib.hid (show digB x = false by simp only [digB, h2, and_false, decide_false])
      clear h1 h2
      go_enter Try.func46, Try.ntmps46
      go_wp2
      go_ret
      exact ⟨ret_bool (by rw [HV.out]), rfl⟩
  · have h1' : decide ((48 : Int) ≤ (x.toNat : Int)) = false := by simp; omega
    have HV := Lib.hid (show digB x = false by simp only [digB, h1, false_and, decide_false])
    clear h1
    go_enter Try.func46, Try.ntmps46
    go_wp2
    go_ret
    exact ⟨ret_bool (by rw [HV.out]), rfl⟩

end Go.Proofs.Ytfmflngmhhalhaa
