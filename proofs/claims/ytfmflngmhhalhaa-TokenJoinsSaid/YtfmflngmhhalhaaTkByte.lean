/-
  Contracts of the functions on bytes: isLower, isUpper, isDigit, isWordByte, isSpace of the program; lower, upper, digit, space of the reference.
-/
import Derived.Test.YtfmflngmhhalhaaTkRest
import Derived.Test.YtfmflngmhhalhaaNmKinds
namespace Go.Proofs.Ytfmflngmhhalhaa
open Go.RowKit

theorem spc_nat (x : UInt8) : spcB x = decide (x.toNat = 32 ∨ x.toNat = 9 ∨ x.toNat = 10 ∨ x.toNat = 13) := by
  have e : ∀ n : UInt8, (x == n) = decide (x.toNat = n.toNat) := fun n => by
    rw [Bool.eq_iff_iff]; simp [UInt8.toNat_inj]
  unfold spcB
  rw [e 32, e 9, e 10, e 13, Bool.eq_iff_iff]
  simp only [Bool.or_eq_true, decide_eq_true_eq]
  rw [show (32 : UInt8).toNat = 32 from rfl, show (9 : UInt8).toNat = 9 from rfl, show (10 : UInt8).toNat = 10 from rfl, show (13 : UInt8).toNat = 13 from rfl]
  omega
theorem tk_low_at (x : UInt8) (w : World) {r : Bool} (h : lowB x = r) :
    Calls Try.prog 31 #[.int .u8 (x.toNat : Int)] w fun e w' => e = .returned (.bool r) ∧ w = w' := by
  subst h
  by_cases h1 : 97 ≤ x.toNat
  · have h1' : (97 : Int) ≤ (x.toNat : Int) := by omega
    by_cases h2 : x.toNat ≤ 122
    · have h2' : (x.toNat : Int) ≤ 122 := by omega
      have HV := Lib.hid (show lowB x = true by simp only [lowB, h1, h2, and_self, decide_true])
      clear h1 h2
      go_enter Try.func31, Try.ntmps31
      go_wp2
      go_ret
      exact ⟨ret_bool (by rw [HV.out]), rfl⟩
    · have h2' : decide ((x.toNat : Int) ≤ 122) = false := by simp; omega
      have HV := Lib.hid (show lowB x = false by simp only [lowB, h2, and_false, decide_false])
      clear h1 h2
      go_enter Try.func31, Try.ntmps31
      go_wp2
      go_ret
      exact ⟨ret_bool (by rw [HV.out]), rfl⟩
  · have h1' : decide ((97 : Int) ≤ (x.toNat : Int)) = false := by simp; omega
    have HV := Lib.hid (show lowB x = false by simp only [lowB, h1, false_and, decide_false])
    clear h1
    go_enter Try.func31, Try.ntmps31
    go_wp2
    go_ret
    exact ⟨ret_bool (by rw [HV.out]), rfl⟩

theorem tk_upp_at (x : UInt8) (w : World) {r : Bool} (h : uppB x = r) :
    Calls Try.prog 34 #[.int .u8 (x.toNat : Int)] w fun e w' => e = .returned (.bool r) ∧ w = w' := by
  subst h
  by_cases h1 : 65 ≤ x.toNat
  · have h1' : (65 : Int) ≤ (x.toNat : Int) := by omega
    by_cases h2 : x.toNat ≤ 90
    · have h2' : (x.toNat : Int) ≤ 90 := by omega
      have HV := Lib.hid (show uppB x = true by simp only [uppB, h1, h2, and_self, decide_true])
      clear h1 h2
      go_enter Try.func34, Try.ntmps34
      go_wp2
      go_ret
      exact ⟨ret_bool (by rw [HV.out]), rfl⟩
    · have h2' : decide ((x.toNat : Int) ≤ 90) = false := by simp; omega
      have HV := Lib.hid (show uppB x = false by simp only [uppB, h2, and_false, decide_false])
      clear h1 h2
      go_enter Try.func34, Try.ntmps34
      go_wp2
      go_ret
      exact ⟨ret_bool (by rw [HV.out]), rfl⟩
  · have h1' : decide ((65 : Int) ≤ (x.toNat : Int)) = false := by simp; omega
    have HV := Lib.hid (show uppB x = false by simp only [uppB, h1, false_and, decide_false])
    clear h1
    go_enter Try.func34, Try.ntmps34
    go_wp2
    go_ret
    exact ⟨ret_bool (by rw [HV.out]), rfl⟩

theorem tk_dig_at (x : UInt8) (w : World) {r : Bool} (h : digB x = r) :
    Calls Try.prog 35 #[.int .u8 (x.toNat : Int)] w fun e w' => e = .returned (.bool r) ∧ w = w' := by
  subst h
  by_cases h1 : 48 ≤ x.toNat
  · have h1' : (48 : Int) ≤ (x.toNat : Int) := by omega
    by_cases h2 : x.toNat ≤ 57
    · have h2' : (x.toNat : Int) ≤ 57 := by omega
      have HV := Lib.hid (show digB x = true by simp only [digB, h1, h2, and_self, decide_true])
      clear h1 h2
      go_enter Try.func35, Try.ntmps35
      go_wp2
      go_ret
      exact ⟨ret_bool (by rw [HV.out]), rfl⟩
    · have h2' : decide ((x.toNat : Int) ≤ 57) = false := by simp; omega
      have HV := Lib.hid (show digB x = false by simp only [digB, h2, and_false, decide_false])
      clear h1 h2
      go_enter Try.func35, Try.ntmps35
      go_wp2
      go_ret
      exact ⟨ret_bool (by rw [HV.out]), rfl⟩
  · have h1' : decide ((48 : Int) ≤ (x.toNat : Int)) = false := by simp; omega
    have HV := Lib.hid (show digB x = false by simp only [digB, h1, false_and, decide_false])
    clear h1
    go_enter Try.func35, Try.ntmps35
    go_wp2
    go_ret
    exact ⟨ret_bool (by rw [HV.out]), rfl⟩

theorem tk_word_at (x : UInt8) (w : World) {r : Bool} (h : inB x = r) :
    Calls Try.prog 33 #[.int .u8 (x.toNat : Int)] w fun e w' => e = .returned (.bool r) ∧ w = w' := by
  subst h
  obtain ⟨b1, h1⟩ : ∃ b, lowB x = b := ⟨_, rfl⟩
  obtain ⟨b2, h2⟩ : ∃ b, uppB x = b := ⟨_, rfl⟩
  obtain ⟨b3, h3⟩ : ∃ b, digB x = b := ⟨_, rfl⟩
  have HV := Lib.hid (show inB x = (b1 || b2 || b3 || undB x) by rw [← h1, ← h2, ← h3]; rfl)
  have H4 := Lib.hid (show undB x = (((x.toNat : Int) == 95)) by
    unfold undB
    rw [Bool.eq_iff_iff]
    simp
    omega)
  have Q1 := Lib.hid (tk_low_at x w h1)
  have Q2 := Lib.hid (tk_upp_at x w h2)
  have Q3 := Lib.hid (tk_dig_at x w h3)
  clear h1 h2 h3
  cases b1
  all_goals cases b2
  all_goals cases b3
  all_goals
    go_enter Try.func33, Try.ntmps33
    go_wp2_with (first | (go_at_call 31; refine Q1.out.mono ?_; rintro e w' ⟨rfl, rfl⟩) | (go_at_call 34; refine Q2.out.mono ?_; rintro e w' ⟨rfl, rfl⟩) | (go_at_call 35; refine Q3.out.mono ?_; rintro e w' ⟨rfl, rfl⟩))
    go_ret
    exact ⟨ret_bool (by rw [HV.out]; simp [H4.out]), rfl⟩

theorem tr_low_at (x : UInt8) (w : World) {r : Bool} (h : lowB x = r) :
    Calls Try.prog 23 #[.int .u8 (x.toNat : Int)] w fun e w' => e = .returned (.bool r) ∧ w = w' := by
  subst h
  by_cases h1 : 97 ≤ x.toNat
  · have h1' : (97 : Int) ≤ (x.toNat : Int) := by omega
    by_cases h2 : x.toNat ≤ 122
    · have h2' : (x.toNat : Int) ≤ 122 := by omega
      have HV := Lib.hid (show lowB x = true by simp only [lowB, h1, h2, and_self, decide_true])
      clear h1 h2
      go_enter Try.func23, Try.ntmps23
      go_wp2
      go_ret
      exact ⟨ret_bool (by rw [HV.out]), rfl⟩
    · have h2' : decide ((x.toNat : Int) ≤ 122) = false := by simp; omega
      have HV := Lib.hid (show lowB x = false by simp only [lowB, h2, and_false, decide_false])
      clear h1 h2
      go_enter Try.func23, Try.ntmps23
      go_wp2
      go_ret
      exact ⟨ret_bool (by rw [HV.out]), rfl⟩
  · have h1' : decide ((97 : Int) ≤ (x.toNat : Int)) = false := by simp; omega
    have HV := Lib.hid (show lowB x = false by simp only [lowB, h1, false_and, decide_false])
    clear h1
    go_enter Try.func23, Try.ntmps23
    go_wp2
    go_ret
    exact ⟨ret_bool (by rw [HV.out]), rfl⟩

theorem tr_upp_at (x : UInt8) (w : World) {r : Bool} (h : (uppB x || undB x) = r) :
    Calls Try.prog 24 #[.int .u8 (x.toNat : Int)] w fun e w' => e = .returned (.bool r) ∧ w = w' := by
  subst h
  have HC := Lib.hid (show (uppB x || undB x) = decide ((65 ≤ x.toNat ∧ x.toNat ≤ 90) ∨ x.toNat = 95) by unfold uppB undB; rw [Bool.eq_iff_iff]; simp)
  by_cases h1 : 65 ≤ x.toNat
  · have h1' : (65 : Int) ≤ (x.toNat : Int) := by omega
    by_cases h2 : x.toNat ≤ 90
    · have h2' : (x.toNat : Int) ≤ 90 := by omega
      have HV := Lib.hid (show (uppB x || undB x) = true by rw [HC.out]; simp; omega)
      clear h1 h2
      go_enter Try.func24, Try.ntmps24
      go_wp2
      go_ret
      exact ⟨ret_bool (by rw [HV.out]), rfl⟩
    · have h2' : decide ((x.toNat : Int) ≤ 90) = false := by simp; omega
      by_cases h3 : x.toNat = 95
      · have h3' : ((x.toNat : Int) == 95) = true := by simp; omega
        have HV := Lib.hid (show (uppB x || undB x) = true by rw [HC.out]; simp; omega)
        clear h1 h2 h3
        go_enter Try.func24, Try.ntmps24
        go_wp2
        go_ret
        exact ⟨ret_bool (by rw [HV.out]), rfl⟩
      · have h3' : ((x.toNat : Int) == 95) = false := by simp; omega
        have HV := Lib.hid (show (uppB x || undB x) = false by rw [HC.out]; simp; omega)
        clear h1 h2 h3
        go_enter Try.func24, Try.ntmps24
        go_wp2
        go_ret
        exact ⟨ret_bool (by rw [HV.out]), rfl⟩
  · have h1' : decide ((65 : Int) ≤ (x.toNat : Int)) = false := by simp; omega
    have h3' : ((x.toNat : Int) == 95) = false := by simp; omega
    have HV := Lib.hid (show (uppB x || undB x) = false by rw [HC.out]; simp; omega)
    clear h1
    go_enter Try.func24, Try.ntmps24
    go_wp2
    go_ret
    exact ⟨ret_bool (by rw [HV.out]), rfl⟩

theorem tr_dig_at (x : UInt8) (w : World) {r : Bool} (h : digB x = r) :
    Calls Try.prog 25 #[.int .u8 (x.toNat : Int)] w fun e w' => e = .returned (.bool r) ∧ w = w' := by
  subst h
  by_cases h1 : 48 ≤ x.toNat
  · have h1' : (48 : Int) ≤ (x.toNat : Int) := by omega
    by_cases h2 : x.toNat ≤ 57
    · have h2' : (x.toNat : Int) ≤ 57 := by omega
      have HV := Lib.hid (show digB x = true by simp only [digB, h1, h2, and_self, decide_true])
      clear h1 h2
      go_enter Try.func25, Try.ntmps25
      go_wp2
      go_ret
      exact ⟨ret_bool (by rw [HV.out]), rfl⟩
    · have h2' : decide ((x.toNat : Int) ≤ 57) = false := by simp; omega
      have HV := Lib.hid (show digB x = false by simp only [digB, h2, and_false, decide_false])
      clear h1 h2
      go_enter Try.func25, Try.ntmps25
      go_wp2
      go_ret
      exact ⟨ret_bool (by rw [HV.out]), rfl⟩
  · have h1' : decide ((48 : Int) ≤ (x.toNat : Int)) = false := by simp; omega
    have HV := Lib.hid (show digB x = false by simp only [digB, h1, false_and, decide_false])
    clear h1
    go_enter Try.func25, Try.ntmps25
    go_wp2
    go_ret
    exact ⟨ret_bool (by rw [HV.out]), rfl⟩

theorem tk_spc_at (x : UInt8) (w : World) {r : Bool} (h : spcB x = r) :
    Calls Try.prog 29 #[.int .u8 (x.toNat : Int)] w fun e w' => e = .returned (.bool r) ∧ w = w' := by
  subst h
  by_cases h0 : x.toNat = 32
  · have HV := Lib.hid (show spcB x = true by rw [spc_nat]; simp [h0])
    have k0 : ((x.toNat : Int) == 32) = true := by simp; omega
    clear h0
    go_enter Try.func29, Try.ntmps29
    go_wp2
    go_ret
    exact ⟨ret_bool (by rw [HV.out]), rfl⟩
  have k0 : ((x.toNat : Int) == 32) = false := by simp; omega
  by_cases h1 : x.toNat = 9
  · have HV := Lib.hid (show spcB x = true by rw [spc_nat]; simp [h1])
    have k1 : ((x.toNat : Int) == 9) = true := by simp; omega
    clear h0 h1
    go_enter Try.func29, Try.ntmps29
    go_wp2
    go_ret
    exact ⟨ret_bool (by rw [HV.out]), rfl⟩
  have k1 : ((x.toNat : Int) == 9) = false := by simp; omega
  by_cases h2 : x.toNat = 13
  · have HV := Lib.hid (show spcB x = true by rw [spc_nat]; simp [h2])
    have k2 : ((x.toNat : Int) == 13) = true := by simp; omega
    clear h0 h1 h2
    go_enter Try.func29, Try.ntmps29
    go_wp2
    go_ret
    exact ⟨ret_bool (by rw [HV.out]), rfl⟩
  have k2 : ((x.toNat : Int) == 13) = false := by simp; omega
  by_cases h3 : x.toNat = 10
  · have HV := Lib.hid (show spcB x = true by rw [spc_nat]; simp [h3])
    have k3 : ((x.toNat : Int) == 10) = true := by simp; omega
    clear h0 h1 h2 h3
    go_enter Try.func29, Try.ntmps29
    go_wp2
    go_ret
    exact ⟨ret_bool (by rw [HV.out]), rfl⟩
  have k3 : ((x.toNat : Int) == 10) = false := by simp; omega
  have HV := Lib.hid (show spcB x = false by rw [spc_nat]; simp [h0, h1, h2, h3])
  clear h0 h1 h2 h3
  go_enter Try.func29, Try.ntmps29
  go_wp2
  go_ret
  exact ⟨ret_bool (by rw [HV.out]), rfl⟩

theorem tr_spc_at (x : UInt8) (w : World) {r : Bool} (h : spcB x = r) :
    Calls Try.prog 40 #[.int .u8 (x.toNat : Int)] w fun e w' => e = .returned (.bool r) ∧ w = w' := by
  subst h
  by_cases h0 : x.toNat = 32
  · have HV := Lib.hid (show spcB x = true by rw [spc_nat]; simp [h0])
    have k0 : ((x.toNat : Int) == 32) = true := by simp; omega
    clear h0
    go_enter Try.func40, Try.ntmps40
    go_wp2
    go_ret
    exact ⟨ret_bool (by rw [HV.out]), rfl⟩
  have k0 : ((x.toNat : Int) == 32) = false := by simp; omega
  by_cases h1 : x.toNat = 9
  · have HV := Lib.hid (show spcB x = true by rw [spc_nat]; simp [h1])
    have k1 : ((x.toNat : Int) == 9) = true := by simp; omega
    clear h0 h1
    go_enter Try.func40, Try.ntmps40
    go_wp2
    go_ret
    exact ⟨ret_bool (by rw [HV.out]), rfl⟩
  have k1 : ((x.toNat : Int) == 9) = false := by simp; omega
  by_cases h2 : x.toNat = 10
  · have HV := Lib.hid (show spcB x = true by rw [spc_nat]; simp [h2])
    have k2 : ((x.toNat : Int) == 10) = true := by simp; omega
    clear h0 h1 h2
    go_enter Try.func40, Try.ntmps40
    go_wp2
    go_ret
    exact ⟨ret_bool (by rw [HV.out]), rfl⟩
  have k2 : ((x.toNat : Int) == 10) = false := by simp; omega
  by_cases h3 : x.toNat = 13
  · have HV := Lib.hid (show spcB x = true by rw [spc_nat]; simp [h3])
    have k3 : ((x.toNat : Int) == 13) = true := by simp; omega
    clear h0 h1 h2 h3
    go_enter Try.func40, Try.ntmps40
    go_wp2
    go_ret
    exact ⟨ret_bool (by rw [HV.out]), rfl⟩
  have k3 : ((x.toNat : Int) == 13) = false := by simp; omega
  have HV := Lib.hid (show spcB x = false by rw [spc_nat]; simp [h0, h1, h2, h3])
  clear h0 h1 h2 h3
  go_enter Try.func40, Try.ntmps40
  go_wp2
  go_ret
  exact ⟨ret_bool (by rw [HV.out]), rfl⟩

theorem byte_eq {a b : UInt8} (h : a = b) : ((a.toNat : Int) == (b.toNat : Int)) = true := by simp [h]
theorem byte_ne {a b : UInt8} (h : a ≠ b) : ((a.toNat : Int) == (b.toNat : Int)) = false := by
  have : a.toNat ≠ b.toNat := fun e => h (UInt8.toNat_inj.1 e)
  simp; omega
end Go.Proofs.Ytfmflngmhhalhaa
