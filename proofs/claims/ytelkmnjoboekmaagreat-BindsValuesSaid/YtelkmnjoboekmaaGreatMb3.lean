/-
  Contracts of the functions that tell the kinds of bytes and words: isLower, isUpper, isDigit, isWord, Operator, Reserved, Right and Variable of the program, and the reference's own.
  Contracts of isWord, Operator, Reserved, Right and Variable of the program, and of the reference's own.
  Contract of the reference's word.
  Contracts of Operator and Reserved of the program, and of the reference's own.
  Contracts of Right and Variable of the program, and of the reference's own.
  Contracts of the program's functions that tell whether a term is valid: isPlain, isFunctor, rightWithin, rightAllWithin, Right, rightTogether.
  Contracts of the comparisons of numbers, strings and kinds: cmp.Compare, strings.Compare, rank, compareUnknown of the program; ints, texts, class of the reference.
-/
import Derived.Test.YtelkmnjoboekmaaGreatProg
import Derived.Test.YtelkmnjoboekmaaGreatMb1
import Derived.WalkKit
import Derived.Below
import Derived.Lib.Hide
import Derived.Outline
import Derived.Test.YtelkmnjoboekmaaGreatMb2
import Derived.WalkLawsBesides
import Derived.Deep.RegionHeld3
import Derived.BigQuiet
import Derived.Lib.QuietBelow
import Derived.Lib.Bytealg
namespace Go.Proofs.YtelkmnjoboekmaaGreat
open Go.RowKit

theorem ret_bool {a b : Bool} (h : a = b) : Ending.returned (.bool a) = .returned (.bool b) := by rw [h]
theorem len_str (s : ByteArray) : s.data.toList.length = s.size := Array.length_toList

theorem low_at (x : UInt8) (w : World) {r : Bool} (h : lowB x = r) :
    Calls Tryz.prog 146 #[.int .u8 (x.toNat : Int)] w fun e w' => e = .returned (.bool r) ∧ w = w' := by
  subst h
  by_cases h1 : 97 ≤ x.toNat
  · have h1' : (97 : Int) ≤ (x.toNat : Int) := by omega
    by_cases h2 : x.toNat ≤ 122
    · have h2' : (x.toNat : Int) ≤ 122 := by omega
      have HV := Lib.hid (show lowB x = true by simp only [lowB, h1, h2, and_self, decide_true])
      clear h1 h2
      go_enter Tryz.func146, Tryz.ntmps146
      go_wp2
      go_ret
      exact ⟨ret_bool (by rw [HV.out]), rfl⟩
    · have h2' : decide ((x.toNat : Int) ≤ 122) = false := by simp; omega
      have HV := Lib.hid (show lowB x = false by simp only [lowB, h2, and_false, decide_false])
      clear h1 h2
      go_enter Tryz.func146, Tryz.ntmps146
      go_wp2
      go_ret
      exact ⟨ret_bool (by rw [HV.out]), rfl⟩
  · have h1' : decide ((97 : Int) ≤ (x.toNat : Int)) = false := by simp; omega
    have HV := Lib.hid (show lowB x = false by simp only [lowB, h1, false_and, decide_false])
    clear h1
    go_enter Tryz.func146, Tryz.ntmps146
    go_wp2
    go_ret
    exact ⟨ret_bool (by rw [HV.out]), rfl⟩

theorem upp_at (x : UInt8) (w : World) {r : Bool} (h : uppB x = r) :
    Calls Tryz.prog 158 #[.int .u8 (x.toNat : Int)] w fun e w' => e = .returned (.bool r) ∧ w = w' := by
  subst h
  by_cases h1 : 65 ≤ x.toNat
  · have h1' : (65 : Int) ≤ (x.toNat : Int) := by omega
    by_cases h2 : x.toNat ≤ 90
    · have h2' : (x.toNat : Int) ≤ 90 := by omega
      have HV := Lib.hid (show uppB x = true by simp only [uppB, h1, h2, and_self, decide_true])
      clear h1 h2
      go_enter Tryz.func158, Tryz.ntmps158
      go_wp2
      go_ret
      exact ⟨ret_bool (by rw [HV.out]), rfl⟩
    · have h2' : decide ((x.toNat : Int) ≤ 90) = false := by simp; omega
      have HV := Lib.hid (show uppB x = false by simp only [uppB, h2, and_false, decide_false])
      clear h1 h2
      go_enter Tryz.func158, Tryz.ntmps158
      go_wp2
      go_ret
      exact ⟨ret_bool (by rw [HV.out]), rfl⟩
  · have h1' : decide ((65 : Int) ≤ (x.toNat : Int)) = false := by simp; omega
    have HV := Lib.hid (show uppB x = false by simp only [uppB, h1, false_and, decide_false])
    clear h1
    go_enter Tryz.func158, Tryz.ntmps158
    go_wp2
    go_ret
    exact ⟨ret_bool (by rw [HV.out]), rfl⟩

theorem dig_at (x : UInt8) (w : World) {r : Bool} (h : digB x = r) :
    Calls Tryz.prog 159 #[.int .u8 (x.toNat : Int)] w fun e w' => e = .returned (.bool r) ∧ w = w' := by
  subst h
  by_cases h1 : 48 ≤ x.toNat
  · have h1' : (48 : Int) ≤ (x.toNat : Int) := by omega
    by_cases h2 : x.toNat ≤ 57
    · have h2' : (x.toNat : Int) ≤ 57 := by omega
      have HV := Lib.hid (show digB x = true by simp only [digB, h1, h2, and_self, decide_true])
      clear h1 h2
      go_enter Tryz.func159, Tryz.ntmps159
      go_wp2
      go_ret
      exact ⟨ret_bool (by rw [HV.out]), rfl⟩
    · have h2' : decide ((x.toNat : Int) ≤ 57) = false := by simp; omega
      have HV := Lib.hid (show digB x = false by simp only [digB, h2, and_false, decide_false])
      clear h1 h2
      go_enter Tryz.func159, Tryz.ntmps159
      go_wp2
      go_ret
      exact ⟨ret_bool (by rw [HV.out]), rfl⟩
  · have h1' : decide ((48 : Int) ≤ (x.toNat : Int)) = false := by simp; omega
    have HV := Lib.hid (show digB x = false by simp only [digB, h1, false_and, decide_false])
    clear h1
    go_enter Tryz.func159, Tryz.ntmps159
    go_wp2
    go_ret
    exact ⟨ret_bool (by rw [HV.out]), rfl⟩

theorem ref_low_at (x : UInt8) (w : World) {r : Bool} (h : lowB x = r) :
    Calls Tryz.prog 140 #[.int .u8 (x.toNat : Int)] w fun e w' => e = .returned (.bool r) ∧ w = w' := by
  subst h
  by_cases h1 : 97 ≤ x.toNat
  · have h1' : (97 : Int) ≤ (x.toNat : Int) := by omega
    by_cases h2 : x.toNat ≤ 122
    · have h2' : (x.toNat : Int) ≤ 122 := by omega
      have HV := Lib.hid (show lowB x = true by simp only [lowB, h1, h2, and_self, decide_true])
      clear h1 h2
      go_enter Tryz.func140, Tryz.ntmps140
      go_wp2
      go_ret
      exact ⟨ret_bool (by rw [HV.out]), rfl⟩
    · have h2' : decide ((x.toNat : Int) ≤ 122) = false := by simp; omega
      have HV := Lib.hid (show lowB x = false by simp only [lowB, h2, and_false, decide_false])
      clear h1 h2
      go_enter Tryz.func140, Tryz.ntmps140
      go_wp2
      go_ret
      exact ⟨ret_bool (by rw [HV.out]), rfl⟩
  · have h1' : decide ((97 : Int) ≤ (x.toNat : Int)) = false := by simp; omega
    have HV := Lib.hid (show lowB x = false by simp only [lowB, h1, false_and, decide_false])
    clear h1
    go_enter Tryz.func140, Tryz.ntmps140
    go_wp2
    go_ret
    exact ⟨ret_bool (by rw [HV.out]), rfl⟩

theorem ref_upp_at (x : UInt8) (w : World) {r : Bool} (h : uppB x = r) :
    Calls Tryz.prog 155 #[.int .u8 (x.toNat : Int)] w fun e w' => e = .returned (.bool r) ∧ w = w' := by
  subst h
  by_cases h1 : 65 ≤ x.toNat
  · have h1' : (65 : Int) ≤ (x.toNat : Int) := by omega
    by_cases h2 : x.toNat ≤ 90
    · have h2' : (x.toNat : Int) ≤ 90 := by omega
      have HV := Lib.hid (show uppB x = true by simp only [uppB, h1, h2, and_self, decide_true])
      clear h1 h2
      go_enter Tryz.func155, Tryz.ntmps155
      go_wp2
      go_ret
      exact ⟨ret_bool (by rw [HV.out]), rfl⟩
    · have h2' : decide ((x.toNat : Int) ≤ 90) = false := by simp; omega
      have HV := Lib.hid (show uppB x = false by simp only [uppB, h2, and_false, decide_false])
      clear h1 h2
      go_enter Tryz.func155, Tryz.ntmps155
      go_wp2
      go_ret
      exact ⟨ret_bool (by rw [HV.out]), rfl⟩
  · have h1' : decide ((65 : Int) ≤ (x.toNat : Int)) = false := by simp; omega
    have HV := Lib.hid (show uppB x = false by simp only [uppB, h1, false_and, decide_false])
    clear h1
    go_enter Tryz.func155, Tryz.ntmps155
    go_wp2
    go_ret
    exact ⟨ret_bool (by rw [HV.out]), rfl⟩
end Go.Proofs.YtelkmnjoboekmaaGreat
namespace Go.Proofs.YtelkmnjoboekmaaGreat
open Go.RowKit

theorem take_next {s : ByteArray} {k : Nat} (h : k < s.size) : s.data.toList.take (k + 1) = s.data.toList.take k ++ [s[k]] := by
  rw [List.take_succ_eq_append_getElem (by simpa using h)]; rfl
theorem all_next {s : ByteArray} {k : Nat} (h : k < s.size) (ha : ∀ c ∈ s.data.toList.take k, inB c = true) (hc : inB s[k] = true) : ∀ c ∈ s.data.toList.take (k + 1), inB c = true := by
  intro c hm
  rw [take_next h] at hm
  rcases List.mem_append.1 hm with h1 | h1
  · exact ha c h1
  · obtain rfl := List.mem_singleton.1 h1
    exact hc
theorem word_stop {s : ByteArray} {k : Nat} (h : k < s.size) (hc : inB s[k] = false) : wordB s.data.toList = false := by
  cases hw : wordB s.data.toList
  · rfl
  · have := ((wordB_iff _).1 hw).2.2 s[k] (List.getElem_mem (l := s.data.toList) (n := k) (by simpa using h))
    rw [this] at hc
    cases hc
theorem word_end {s : ByteArray} (h1 : 1 ≤ s.size) (h2 : s.size ≤ 40) (ha : ∀ c ∈ s.data.toList.take s.size, inB c = true) : wordB s.data.toList = true := by
  rw [wordB_iff, len_str]
  refine ⟨h1, h2, fun c hc => ha c ?_⟩
  rw [List.take_of_length_le (by rw [len_str]; omega)]
  exact hc
theorem word_short {s : ByteArray} (h : s.size < 1) : wordB s.data.toList = false := by
  cases hw : wordB s.data.toList
  · rfl
  · have := ((wordB_iff _).1 hw).1
    rw [len_str] at this
    omega
theorem word_long {s : ByteArray} (h : 40 < s.size) : wordB s.data.toList = false := by
  cases hw : wordB s.data.toList
  · rfl
  · have := ((wordB_iff _).1 hw).2.1
    rw [len_str] at this
    omega
theorem byte_u8 (x : UInt8) : x.toNat < 256 := x.toNat_lt

set_option maxRecDepth 100000 in
set_option maxHeartbeats 1000000 in
theorem word_at (s : ByteArray) (w : World) (hs : s.size ≤ 9223372036854775807) {r : Bool} (hr : wordB s.data.toList = r) :
    Calls Tryz.prog 145 #[.string s] w fun e w' => e = .returned (.bool r) ∧ w = w' := by
  subst hr
  by_cases h1 : s.size < 1
  · have h1' : ((s.size : Nat) : Int) < 1 := by omega
    have HV := Lib.hid (word_short h1)
    clear h1
    go_enter Tryz.func145, Tryz.ntmps145
    go_wp2
    go_ret
    exact ⟨ret_bool (by rw [HV.out]), rfl⟩
  by_cases h2 : 40 < s.size
  · have h1' : decide (((s.size : Nat) : Int) < 1) = false := by simp; omega
    have h2' : (40 : Int) < ((s.size : Nat) : Int) := by omega
    have HV := Lib.hid (word_long h2)
    clear h1 h2
    go_enter Tryz.func145, Tryz.ntmps145
    go_wp2
    go_ret
    exact ⟨ret_bool (by rw [HV.out]), rfl⟩
  have h1' : decide (((s.size : Nat) : Int) < 1) = false := by simp; omega
  have h2' : decide ((40 : Int) < ((s.size : Nat) : Int)) = false := by simp; omega
  have H1 := Lib.hid (show 1 ≤ s.size by omega)
  have H2 := Lib.hid (show s.size ≤ 40 by omega)
  clear h1 h2
  go_enter Tryz.func145, Tryz.ntmps145
  go_wp2
  go_loop [14] (fun i => ∃ k : Nat, k ≤ s.size ∧ i = .int .i64 (k : Int) ∧ Hid (∀ c ∈ s.data.toList.take k, inB c = true)) (fun i => s.size - (intOf i).toNat)
  case atStart => exact ⟨0, Nat.zero_le _, rfl, fun c hc => by simp at hc⟩
  case round =>
    obtain ⟨k, hk, rfl, ha⟩ := hrel
    by_cases hlt : k < s.size
    · obtain ⟨b1, hb1⟩ : ∃ b, lowB s[k] = b := ⟨_, rfl⟩
      obtain ⟨b2, hb2⟩ : ∃ b, uppB s[k] = b := ⟨_, rfl⟩
      obtain ⟨b3, hb3⟩ : ∃ b, digB s[k] = b := ⟨_, rfl⟩
      have HI := Lib.hid (show inB s[k] = (b1 || b2 || b3 || undB s[k]) by unfold inB; rw [hb1, hb2, hb3])
      have q1 := Lib.hid hb1
      have q2 := Lib.hid hb2
      have q3 := Lib.hid hb3
      clear hb1 hb2 hb3
      cases b1
      · cases b2
        · cases b3
          · by_cases h4 : s[k].toNat = 95
            · have h4' : ((s[k].toNat : Int) != 95) = false := by simp; omega
              have HN := Lib.hid (all_next hlt ha.out (by rw [HI.out]; simp only [undB, h4, decide_true, Bool.or_true]))
              clear h4
              go_wp2_with (first | (go_at_call 146; refine (low_at _ _ q1).mono ?_; rintro e w' ⟨rfl, rfl⟩) | (go_at_call 158; refine (upp_at _ _ q2).mono ?_; rintro e w' ⟨rfl, rfl⟩) | (go_at_call 159; refine (dig_at _ _ q3).mono ?_; rintro e w' ⟨rfl, rfl⟩))
              go_round
              case rel => exact ⟨k + 1, by omega, by go_num, HN.out⟩
              case measure => simp [intOf]; omega
            · have h4' : ((s[k].toNat : Int) != 95) = true := by simp; omega
              have HN := Lib.hid (word_stop hlt (by rw [HI.out]; simp only [undB, h4, decide_false, Bool.or_false]))
              clear h4
              go_wp2_with (first | (go_at_call 146; refine (low_at _ _ q1).mono ?_; rintro e w' ⟨rfl, rfl⟩) | (go_at_call 158; refine (upp_at _ _ q2).mono ?_; rintro e w' ⟨rfl, rfl⟩) | (go_at_call 159; refine (dig_at _ _ q3).mono ?_; rintro e w' ⟨rfl, rfl⟩))
              go_ret
              exact ⟨ret_bool (by rw [HN.out]), rfl⟩
          · have HN := Lib.hid (all_next hlt ha.out (by rw [HI.out]; simp))
            go_wp2_with (first | (go_at_call 146; refine (low_at _ _ q1).mono ?_; rintro e w' ⟨rfl, rfl⟩) | (go_at_call 158; refine (upp_at _ _ q2).mono ?_; rintro e w' ⟨rfl, rfl⟩) | (go_at_call 159; refine (dig_at _ _ q3).mono ?_; rintro e w' ⟨rfl, rfl⟩))
            go_round
            case rel => exact ⟨k + 1, by omega, by go_num, HN.out⟩
            case measure => simp [intOf]; omega
        · have HN := Lib.hid (all_next hlt ha.out (by rw [HI.out]; simp))
          go_wp2_with (first | (go_at_call 146; refine (low_at _ _ q1).mono ?_; rintro e w' ⟨rfl, rfl⟩) | (go_at_call 158; refine (upp_at _ _ q2).mono ?_; rintro e w' ⟨rfl, rfl⟩) | (go_at_call 159; refine (dig_at _ _ q3).mono ?_; rintro e w' ⟨rfl, rfl⟩))
          go_round
          case rel => exact ⟨k + 1, by omega, by go_num, HN.out⟩
          case measure => simp [intOf]; omega
      · have HN := Lib.hid (all_next hlt ha.out (by rw [HI.out]; simp))
        go_wp2_with (first | (go_at_call 146; refine (low_at _ _ q1).mono ?_; rintro e w' ⟨rfl, rfl⟩) | (go_at_call 158; refine (upp_at _ _ q2).mono ?_; rintro e w' ⟨rfl, rfl⟩) | (go_at_call 159; refine (dig_at _ _ q3).mono ?_; rintro e w' ⟨rfl, rfl⟩))
        go_round
        case rel => exact ⟨k + 1, by omega, by go_num, HN.out⟩
        case measure => simp [intOf]; omega
    · obtain rfl : k = s.size := by omega
      have HN := Lib.hid (word_end H1.out H2.out ha.out)
      go_wp2
      go_ret
      exact ⟨ret_bool (by rw [HN.out]), rfl⟩
end Go.Proofs.YtelkmnjoboekmaaGreat
namespace Go.Proofs.YtelkmnjoboekmaaGreat
open Go.RowKit

theorem word_of_all {s : ByteArray} (ha : ∀ c ∈ s.data.toList.take s.size, inB c = true) : wordB s.data.toList = (decide (1 ≤ s.size) && decide (s.size ≤ 40)) := by
  rw [Bool.eq_iff_iff, wordB_iff, len_str]
  simp only [Bool.and_eq_true, decide_eq_true_eq]
  refine ⟨fun h => ⟨h.1, h.2.1⟩, fun h => ⟨h.1, h.2, fun c hc => ha c ?_⟩⟩
  rw [List.take_of_length_le (by rw [len_str]; omega)]
  exact hc

set_option maxRecDepth 100000 in
set_option maxHeartbeats 1000000 in
theorem ref_word_at (s : ByteArray) (w : World) (hs : s.size ≤ 9223372036854775807) {r : Bool} (hr : wordB s.data.toList = r) :
    Calls Tryz.prog 139 #[.string s] w fun e w' => e = .returned (.bool r) ∧ w = w' := by
  subst hr
  go_enter Tryz.func139, Tryz.ntmps139
  go_wp2
  go_loop [3] (fun i => ∃ k : Nat, k ≤ s.size ∧ i = .int .i64 (k : Int) ∧ Hid (∀ c ∈ s.data.toList.take k, inB c = true)) (fun i => s.size - (intOf i).toNat)
  case atStart => exact ⟨0, Nat.zero_le _, rfl, fun c hc => by simp at hc⟩
  case round =>
    obtain ⟨k, hk, rfl, ha⟩ := hrel
    by_cases hlt : k < s.size
    · obtain ⟨b1, hb1⟩ : ∃ b, lowB s[k] = b := ⟨_, rfl⟩
      obtain ⟨b2, hb2⟩ : ∃ b, uppB s[k] = b := ⟨_, rfl⟩
      obtain ⟨b3, hb3⟩ : ∃ b, digB s[k] = b := ⟨_, rfl⟩
      have HI := Lib.hid (show inB s[k] = (b1 || b2 || b3 || undB s[k]) by unfold inB; rw [hb1, hb2, hb3])
      have q1 := Lib.hid hb1
      have q2 := Lib.hid hb2
      have q3 := Lib.hid hb3
      clear hb1 hb2 hb3
      cases b1
      · cases b2
        · by_cases h5 : s[k].toNat < 48
          · have h5' : (s[k].toNat : Int) < 48 := by omega
            have h4' : ((s[k].toNat : Int) != 95) = true := by simp; omega
            have e3 : b3 = false := by rw [← q3.out]; simp only [digB, decide_eq_false_iff_not]; omega
            have HN := Lib.hid (word_stop hlt (by rw [HI.out, e3]; simp only [undB, Bool.false_or, decide_eq_false_iff_not]; omega))
            clear h5 e3
            go_wp2_with (first | (go_at_call 140; refine (ref_low_at _ _ q1.out).mono ?_; rintro e w' ⟨rfl, rfl⟩) | (go_at_call 155; refine (ref_upp_at _ _ q2.out).mono ?_; rintro e w' ⟨rfl, rfl⟩))
            go_ret
            exact ⟨ret_bool (by rw [HN.out]), rfl⟩
          have h5' : decide ((s[k].toNat : Int) < 48) = false := by simp; omega
          by_cases h6 : 57 < s[k].toNat
          · have h6' : (57 : Int) < (s[k].toNat : Int) := by omega
            have e3 : b3 = false := by rw [← q3.out]; simp only [digB, decide_eq_false_iff_not]; omega
            by_cases h4 : s[k].toNat = 95
            · have h4' : ((s[k].toNat : Int) != 95) = false := by simp; omega
              have HN := Lib.hid (all_next hlt ha.out (by rw [HI.out]; simp only [undB, h4, decide_true, Bool.or_true]))
              clear h4 h5 h6 e3
              go_wp2_with (first | (go_at_call 140; refine (ref_low_at _ _ q1.out).mono ?_; rintro e w' ⟨rfl, rfl⟩) | (go_at_call 155; refine (ref_upp_at _ _ q2.out).mono ?_; rintro e w' ⟨rfl, rfl⟩))
              go_round
              case rel => exact ⟨k + 1, by omega, by go_num, HN.out⟩
              case measure => simp [intOf]; omega
            · have h4' : ((s[k].toNat : Int) != 95) = true := by simp; omega
              have HN := Lib.hid (word_stop hlt (by rw [HI.out, e3]; simp only [undB, h4, decide_false, Bool.or_false]))
              clear h4 h5 h6 e3
              go_wp2_with (first | (go_at_call 140; refine (ref_low_at _ _ q1.out).mono ?_; rintro e w' ⟨rfl, rfl⟩) | (go_at_call 155; refine (ref_upp_at _ _ q2.out).mono ?_; rintro e w' ⟨rfl, rfl⟩))
              go_ret
              exact ⟨ret_bool (by rw [HN.out]), rfl⟩
          · have h6' : decide ((57 : Int) < (s[k].toNat : Int)) = false := by simp; omega
            have e3 : b3 = true := by rw [← q3.out]; simp only [digB, decide_eq_true_eq]; omega
            have HN := Lib.hid (all_next hlt ha.out (by rw [HI.out, e3]; simp))
            clear h5 h6 e3
            go_wp2_with (first | (go_at_call 140; refine (ref_low_at _ _ q1.out).mono ?_; rintro e w' ⟨rfl, rfl⟩) | (go_at_call 155; refine (ref_upp_at _ _ q2.out).mono ?_; rintro e w' ⟨rfl, rfl⟩))
            go_round
            case rel => exact ⟨k + 1, by omega, by go_num, HN.out⟩
            case measure => simp [intOf]; omega
        · have HN := Lib.hid (all_next hlt ha.out (by rw [HI.out]; simp))
          go_wp2_with (first | (go_at_call 140; refine (ref_low_at _ _ q1.out).mono ?_; rintro e w' ⟨rfl, rfl⟩) | (go_at_call 155; refine (ref_upp_at _ _ q2.out).mono ?_; rintro e w' ⟨rfl, rfl⟩))
          go_round
          case rel => exact ⟨k + 1, by omega, by go_num, HN.out⟩
          case measure => simp [intOf]; omega
      · have HN := Lib.hid (all_next hlt ha.out (by rw [HI.out]; simp))
        go_wp2_with (first | (go_at_call 140; refine (ref_low_at _ _ q1.out).mono ?_; rintro e w' ⟨rfl, rfl⟩) | (go_at_call 155; refine (ref_upp_at _ _ q2.out).mono ?_; rintro e w' ⟨rfl, rfl⟩))
        go_round
        case rel => exact ⟨k + 1, by omega, by go_num, HN.out⟩
        case measure => simp [intOf]; omega
    · obtain rfl : k = s.size := by omega
      have HN := Lib.hid (word_of_all ha.out)
      by_cases h1 : 1 ≤ s.size
      · have h1' : (1 : Int) ≤ ((s.size : Nat) : Int) := by omega
        by_cases h2 : s.size ≤ 40
        · have h2' : ((s.size : Nat) : Int) ≤ 40 := by omega
          have HB := Lib.hid (show wordB s.data.toList = true by rw [HN.out]; simp [h1, h2])
          clear h1 h2
          go_wp2
          go_ret
          exact ⟨ret_bool (by rw [HB.out]), rfl⟩
        · have h2' : decide (((s.size : Nat) : Int) ≤ 40) = false := by simp; omega
          have HB := Lib.hid (show wordB s.data.toList = false by rw [HN.out]; simp [h2])
          clear h1 h2
          go_wp2
          go_ret
          exact ⟨ret_bool (by rw [HB.out]), rfl⟩
      · have h1' : decide ((1 : Int) ≤ ((s.size : Nat) : Int)) = false := by simp; omega
        have HB := Lib.hid (show wordB s.data.toList = false by rw [HN.out]; simp [h1])
        clear h1
        go_wp2
        go_ret
        exact ⟨ret_bool (by rw [HB.out]), rfl⟩
end Go.Proofs.YtelkmnjoboekmaaGreat
namespace Go.Proofs.YtelkmnjoboekmaaGreat
open Go.RowKit

theorem raw_list (s : ByteArray) : s.toList = s.data.toList := ByteArray.toList_eq s
theorem str_of {s : ByteArray} {l : List UInt8} (h : s.data.toList = l) : s = ⟨l.toArray⟩ := by
  subst h
  rfl
theorem raw_ne {s : ByteArray} {l : List UInt8} (h : s.data.toList ≠ l) : (s.toList == l) = false := by
  rw [raw_list]
  simpa using h

set_option maxHeartbeats 1000000 in
theorem op_at (s : ByteArray) (w : World) {r : Bool} (hr : opB s.data.toList = r) :
    Calls Tryz.prog 123 #[.string s] w fun e w' => e = .returned (.bool r) ∧ w = w' := by
  by_cases h0 : s.data.toList = [43]
  · obtain rfl := str_of h0
    obtain rfl : true = r := by rw [← hr]; decide
    clear h0 hr
    go_enter Tryz.func123, Tryz.ntmps123
    go_wp2
    go_ret
    exact ⟨rfl, rfl⟩
  by_cases h1 : s.data.toList = [45]
  · obtain rfl := str_of h1
    obtain rfl : true = r := by rw [← hr]; decide
    clear h0 h1 hr
    go_enter Tryz.func123, Tryz.ntmps123
    go_wp2
    go_ret
    exact ⟨rfl, rfl⟩
  by_cases h2 : s.data.toList = [42]
  · obtain rfl := str_of h2
    obtain rfl : true = r := by rw [← hr]; decide
    clear h0 h1 h2 hr
    go_enter Tryz.func123, Tryz.ntmps123
    go_wp2
    go_ret
    exact ⟨rfl, rfl⟩
  by_cases h3 : s.data.toList = [47]
  · obtain rfl := str_of h3
    obtain rfl : true = r := by rw [← hr]; decide
    clear h0 h1 h2 h3 hr
    go_enter Tryz.func123, Tryz.ntmps123
    go_wp2
    go_ret
    exact ⟨rfl, rfl⟩
  by_cases h4 : s.data.toList = [37]
  · obtain rfl := str_of h4
    obtain rfl : true = r := by rw [← hr]; decide
    clear h0 h1 h2 h3 h4 hr
    go_enter Tryz.func123, Tryz.ntmps123
    go_wp2
    go_ret
    exact ⟨rfl, rfl⟩
  obtain rfl : false = r := by
    rw [← hr]
    simp only [opB, operators, List.mem_cons, List.not_mem_nil, or_false, h0, h1, h2, h3, h4, decide_false]
  have n0 := raw_ne h0
  have n1 := raw_ne h1
  have n2 := raw_ne h2
  have n3 := raw_ne h3
  have n4 := raw_ne h4
  clear h0 h1 h2 h3 h4 hr
  go_enter Tryz.func123, Tryz.ntmps123
  go_wp2
  go_ret
  exact ⟨rfl, rfl⟩

set_option maxHeartbeats 1000000 in
theorem ref_op_at (s : ByteArray) (w : World) {r : Bool} (hr : opB s.data.toList = r) :
    Calls Tryz.prog 110 #[.string s] w fun e w' => e = .returned (.bool r) ∧ w = w' := by
  by_cases h0 : s.data.toList = [43]
  · obtain rfl := str_of h0
    obtain rfl : true = r := by rw [← hr]; decide
    clear h0 hr
    go_enter Tryz.func110, Tryz.ntmps110
    go_wp2
    go_ret
    exact ⟨rfl, rfl⟩
  by_cases h1 : s.data.toList = [45]
  · obtain rfl := str_of h1
    obtain rfl : true = r := by rw [← hr]; decide
    clear h0 h1 hr
    go_enter Tryz.func110, Tryz.ntmps110
    go_wp2
    go_ret
    exact ⟨rfl, rfl⟩
  by_cases h2 : s.data.toList = [42]
  · obtain rfl := str_of h2
    obtain rfl : true = r := by rw [← hr]; decide
    clear h0 h1 h2 hr
    go_enter Tryz.func110, Tryz.ntmps110
    go_wp2
    go_ret
    exact ⟨rfl, rfl⟩
  by_cases h3 : s.data.toList = [47]
  · obtain rfl := str_of h3
    obtain rfl : true = r := by rw [← hr]; decide
    clear h0 h1 h2 h3 hr
    go_enter Tryz.func110, Tryz.ntmps110
    go_wp2
    go_ret
    exact ⟨rfl, rfl⟩
  by_cases h4 : s.data.toList = [37]
  · obtain rfl := str_of h4
    obtain rfl : true = r := by rw [← hr]; decide
    clear h0 h1 h2 h3 h4 hr
    go_enter Tryz.func110, Tryz.ntmps110
    go_wp2
    go_ret
    exact ⟨rfl, rfl⟩
  obtain rfl : false = r := by
    rw [← hr]
    simp only [opB, operators, List.mem_cons, List.not_mem_nil, or_false, h0, h1, h2, h3, h4, decide_false]
  have n0 := raw_ne h0
  have n1 := raw_ne h1
  have n2 := raw_ne h2
  have n3 := raw_ne h3
  have n4 := raw_ne h4
  clear h0 h1 h2 h3 h4 hr
  go_enter Tryz.func110, Tryz.ntmps110
  go_wp2
  go_ret
  exact ⟨rfl, rfl⟩

set_option maxHeartbeats 1000000 in
theorem res_at (s : ByteArray) (w : World) {r : Bool} (hr : resB s.data.toList = r) :
    Calls Tryz.prog 147 #[.string s] w fun e w' => e = .returned (.bool r) ∧ w = w' := by
  by_cases h0 : s.data.toList = [99, 111, 110, 115, 116, 114, 97, 105, 110, 116]
  · obtain rfl := str_of h0
    obtain rfl : true = r := by rw [← hr]; decide
    clear h0 hr
    go_enter Tryz.func147, Tryz.ntmps147
    go_wp2
    go_ret
    exact ⟨rfl, rfl⟩
  by_cases h1 : s.data.toList = [116, 114, 117, 101]
  · obtain rfl := str_of h1
    obtain rfl : true = r := by rw [← hr]; decide
    clear h0 h1 hr
    go_enter Tryz.func147, Tryz.ntmps147
    go_wp2
    go_ret
    exact ⟨rfl, rfl⟩
  by_cases h2 : s.data.toList = [102, 97, 105, 108]
  · obtain rfl := str_of h2
    obtain rfl : true = r := by rw [← hr]; decide
    clear h0 h1 h2 hr
    go_enter Tryz.func147, Tryz.ntmps147
    go_wp2
    go_ret
    exact ⟨rfl, rfl⟩
  by_cases h3 : s.data.toList = [105, 115]
  · obtain rfl := str_of h3
    obtain rfl : true = r := by rw [← hr]; decide
    clear h0 h1 h2 h3 hr
    go_enter Tryz.func147, Tryz.ntmps147
    go_wp2
    go_ret
    exact ⟨rfl, rfl⟩
  by_cases h4 : s.data.toList = [105, 110, 116]
  · obtain rfl := str_of h4
    obtain rfl : true = r := by rw [← hr]; decide
    clear h0 h1 h2 h3 h4 hr
    go_enter Tryz.func147, Tryz.ntmps147
    go_wp2
    go_ret
    exact ⟨rfl, rfl⟩
  by_cases h5 : s.data.toList = [103, 114, 111, 117, 110, 100]
  · obtain rfl := str_of h5
    obtain rfl : true = r := by rw [← hr]; decide
    clear h0 h1 h2 h3 h4 h5 hr
    go_enter Tryz.func147, Tryz.ntmps147
    go_wp2
    go_ret
    exact ⟨rfl, rfl⟩
  obtain rfl : false = r := by
    rw [← hr]
    simp only [resB, reserved, List.mem_cons, List.not_mem_nil, or_false, h0, h1, h2, h3, h4, h5, decide_false]
  have n0 := raw_ne h0
  have n1 := raw_ne h1
  have n2 := raw_ne h2
  have n3 := raw_ne h3
  have n4 := raw_ne h4
  have n5 := raw_ne h5
  clear h0 h1 h2 h3 h4 h5 hr
  go_enter Tryz.func147, Tryz.ntmps147
  go_wp2
  go_ret
  exact ⟨rfl, rfl⟩

set_option maxHeartbeats 1000000 in
theorem ref_res_at (s : ByteArray) (w : World) {r : Bool} (hr : resB s.data.toList = r) :
    Calls Tryz.prog 141 #[.string s] w fun e w' => e = .returned (.bool r) ∧ w = w' := by
  by_cases h0 : s.data.toList = [99, 111, 110, 115, 116, 114, 97, 105, 110, 116]
  · obtain rfl := str_of h0
    obtain rfl : true = r := by rw [← hr]; decide
    clear h0 hr
    go_enter Tryz.func141, Tryz.ntmps141
    go_wp2
    go_ret
    exact ⟨rfl, rfl⟩
  by_cases h1 : s.data.toList = [116, 114, 117, 101]
  · obtain rfl := str_of h1
    obtain rfl : true = r := by rw [← hr]; decide
    clear h0 h1 hr
    go_enter Tryz.func141, Tryz.ntmps141
    go_wp2
    go_ret
    exact ⟨rfl, rfl⟩
  by_cases h2 : s.data.toList = [102, 97, 105, 108]
  · obtain rfl := str_of h2
    obtain rfl : true = r := by rw [← hr]; decide
    clear h0 h1 h2 hr
    go_enter Tryz.func141, Tryz.ntmps141
    go_wp2
    go_ret
    exact ⟨rfl, rfl⟩
  by_cases h3 : s.data.toList = [105, 115]
  · obtain rfl := str_of h3
    obtain rfl : true = r := by rw [← hr]; decide
    clear h0 h1 h2 h3 hr
    go_enter Tryz.func141, Tryz.ntmps141
    go_wp2
    go_ret
    exact ⟨rfl, rfl⟩
  by_cases h4 : s.data.toList = [105, 110, 116]
  · obtain rfl := str_of h4
    obtain rfl : true = r := by rw [← hr]; decide
    clear h0 h1 h2 h3 h4 hr
    go_enter Tryz.func141, Tryz.ntmps141
    go_wp2
    go_ret
    exact ⟨rfl, rfl⟩
  by_cases h5 : s.data.toList = [103, 114, 111, 117, 110, 100]
  · obtain rfl := str_of h5
    obtain rfl : true = r := by rw [← hr]; decide
    clear h0 h1 h2 h3 h4 h5 hr
    go_enter Tryz.func141, Tryz.ntmps141
    go_wp2
    go_ret
    exact ⟨rfl, rfl⟩
  obtain rfl : false = r := by
    rw [← hr]
    simp only [resB, reserved, List.mem_cons, List.not_mem_nil, or_false, h0, h1, h2, h3, h4, h5, decide_false]
  have n0 := raw_ne h0
  have n1 := raw_ne h1
  have n2 := raw_ne h2
  have n3 := raw_ne h3
  have n4 := raw_ne h4
  have n5 := raw_ne h5
  clear h0 h1 h2 h3 h4 h5 hr
  go_enter Tryz.func141, Tryz.ntmps141
  go_wp2
  go_ret
  exact ⟨rfl, rfl⟩
end Go.Proofs.YtelkmnjoboekmaaGreat
namespace Go.Proofs.YtelkmnjoboekmaaGreat
open Go.RowKit

theorem head_at {s : ByteArray} (h : 0 < s.size) : s.data.toList.getD 0 0 = s[0] := by
  rw [List.getD_eq_getElem?_getD, List.getElem?_eq_getElem (by rw [len_str]; exact h)]
  rfl
theorem word_size {s : ByteArray} (h : wordB s.data.toList = true) : 0 < s.size := by
  have := ((wordB_iff _).1 h).1
  rw [len_str] at this
  omega

set_option maxHeartbeats 1000000 in
theorem right_at (s : ByteArray) (w : World) (hs : s.size ≤ 9223372036854775807) {r : Bool} (hr : rightB s.data.toList = r) :
    Calls Tryz.prog 124 #[.string s] w fun e w' => e = .returned (.bool r) ∧ w = w' := by
  subst hr
  obtain ⟨b1, hb1⟩ : ∃ b, wordB s.data.toList = b := ⟨_, rfl⟩
  have qw := Lib.hid hb1
  cases b1
  · have HV := Lib.hid (show rightB s.data.toList = false by unfold rightB; rw [hb1]; rfl)
    clear hb1
    go_enter Tryz.func124, Tryz.ntmps124
    go_wp2_with (go_at_call 145; refine (word_at _ _ hs qw.out).mono ?_; rintro e w' ⟨rfl, rfl⟩)
    go_ret
    exact ⟨ret_bool (by rw [HV.out]), rfl⟩
  · have h0 := word_size hb1
    obtain ⟨b2, hb2⟩ : ∃ b, lowB s[0] = b := ⟨_, rfl⟩
    obtain ⟨b3, hb3⟩ : ∃ b, resB s.data.toList = b := ⟨_, rfl⟩
    have HV := Lib.hid (show rightB s.data.toList = (b2 && !b3) by unfold rightB; rw [hb1, head_at h0, hb2, hb3]; rfl)
    have ql := Lib.hid hb2
    have qr := Lib.hid hb3
    clear hb1 hb2 hb3
    cases b2
    · go_enter Tryz.func124, Tryz.ntmps124
      go_wp2_with (first | (go_at_call 145; refine (word_at _ _ hs qw.out).mono ?_; rintro e w' ⟨rfl, rfl⟩) | (go_at_call 146; refine (low_at _ _ ql.out).mono ?_; rintro e w' ⟨rfl, rfl⟩) | (go_at_call 147; refine (res_at _ _ qr.out).mono ?_; rintro e w' ⟨rfl, rfl⟩))
      go_ret
      exact ⟨ret_bool (by rw [HV.out]; rfl), rfl⟩
    · cases b3
      · go_enter Tryz.func124, Tryz.ntmps124
        go_wp2_with (first | (go_at_call 145; refine (word_at _ _ hs qw.out).mono ?_; rintro e w' ⟨rfl, rfl⟩) | (go_at_call 146; refine (low_at _ _ ql.out).mono ?_; rintro e w' ⟨rfl, rfl⟩) | (go_at_call 147; refine (res_at _ _ qr.out).mono ?_; rintro e w' ⟨rfl, rfl⟩))
        go_ret
        exact ⟨ret_bool (by rw [HV.out]; rfl), rfl⟩
      · go_enter Tryz.func124, Tryz.ntmps124
        go_wp2_with (first | (go_at_call 145; refine (word_at _ _ hs qw.out).mono ?_; rintro e w' ⟨rfl, rfl⟩) | (go_at_call 146; refine (low_at _ _ ql.out).mono ?_; rintro e w' ⟨rfl, rfl⟩) | (go_at_call 147; refine (res_at _ _ qr.out).mono ?_; rintro e w' ⟨rfl, rfl⟩))
        go_ret
        exact ⟨ret_bool (by rw [HV.out]; rfl), rfl⟩

set_option maxHeartbeats 1000000 in
theorem ref_right_at (s : ByteArray) (w : World) (hs : s.size ≤ 9223372036854775807) {r : Bool} (hr : rightB s.data.toList = r) :
    Calls Tryz.prog 111 #[.string s] w fun e w' => e = .returned (.bool r) ∧ w = w' := by
  subst hr
  obtain ⟨b1, hb1⟩ : ∃ b, wordB s.data.toList = b := ⟨_, rfl⟩
  have qw := Lib.hid hb1
  cases b1
  · have HV := Lib.hid (show rightB s.data.toList = false by unfold rightB; rw [hb1]; rfl)
    clear hb1
    go_enter Tryz.func111, Tryz.ntmps111
    go_wp2_with (go_at_call 139; refine (ref_word_at _ _ hs qw.out).mono ?_; rintro e w' ⟨rfl, rfl⟩)
    go_ret
    exact ⟨ret_bool (by rw [HV.out]), rfl⟩
  · have h0 := word_size hb1
    obtain ⟨b2, hb2⟩ : ∃ b, lowB s[0] = b := ⟨_, rfl⟩
    obtain ⟨b3, hb3⟩ : ∃ b, resB s.data.toList = b := ⟨_, rfl⟩
    have HV := Lib.hid (show rightB s.data.toList = (b2 && !b3) by unfold rightB; rw [hb1, head_at h0, hb2, hb3]; rfl)
    have ql := Lib.hid hb2
    have qr := Lib.hid hb3
    clear hb1 hb2 hb3
    cases b2
    · go_enter Tryz.func111, Tryz.ntmps111
      go_wp2_with (first | (go_at_call 139; refine (ref_word_at _ _ hs qw.out).mono ?_; rintro e w' ⟨rfl, rfl⟩) | (go_at_call 140; refine (ref_low_at _ _ ql.out).mono ?_; rintro e w' ⟨rfl, rfl⟩) | (go_at_call 141; refine (ref_res_at _ _ qr.out).mono ?_; rintro e w' ⟨rfl, rfl⟩))
      go_ret
      exact ⟨ret_bool (by rw [HV.out]; rfl), rfl⟩
    · cases b3
      · go_enter Tryz.func111, Tryz.ntmps111
        go_wp2_with (first | (go_at_call 139; refine (ref_word_at _ _ hs qw.out).mono ?_; rintro e w' ⟨rfl, rfl⟩) | (go_at_call 140; refine (ref_low_at _ _ ql.out).mono ?_; rintro e w' ⟨rfl, rfl⟩) | (go_at_call 141; refine (ref_res_at _ _ qr.out).mono ?_; rintro e w' ⟨rfl, rfl⟩))
        go_ret
        exact ⟨ret_bool (by rw [HV.out]; rfl), rfl⟩
      · go_enter Tryz.func111, Tryz.ntmps111
        go_wp2_with (first | (go_at_call 139; refine (ref_word_at _ _ hs qw.out).mono ?_; rintro e w' ⟨rfl, rfl⟩) | (go_at_call 140; refine (ref_low_at _ _ ql.out).mono ?_; rintro e w' ⟨rfl, rfl⟩) | (go_at_call 141; refine (ref_res_at _ _ qr.out).mono ?_; rintro e w' ⟨rfl, rfl⟩))
        go_ret
        exact ⟨ret_bool (by rw [HV.out]; rfl), rfl⟩

end Go.Proofs.YtelkmnjoboekmaaGreat
namespace Go.Proofs.YtelkmnjoboekmaaGreat
open Go.RowKit

theorem ret_int {k : IntKind} {a b : Int} (h : a = b) : Ending.returned (.int k a) = .returned (.int k b) := by rw [h]
theorem empty_iff (s : ByteArray) : s.toList.isEmpty = decide (s.size = 0) := by
  rw [raw_list, Bool.eq_iff_iff, List.isEmpty_iff, decide_eq_true_eq, ← List.length_eq_zero_iff, len_str]

theorem plain_at (t : Tm) (w : World) (ht : t.args.length ≤ 9223372036854775807) {r : Bool} (hr : plainB t = r) :
    Calls Tryz.prog 92 #[t.val] w fun e w' => e = .returned (.bool r) ∧ Below w.heap.size w w' := by
  obtain ⟨k, n, s, A, c, a⟩ := t
  show Calls Tryz.prog 92 #[.agg #[.int .i64 k, .int .i64 n, .string s, .slice A a.length c]] w _
  have HR := Lib.hid hr
  clear hr
  simp only [Tm.args] at ht
  obtain ⟨b1, hb1⟩ : ∃ b, decide (s.size = 0) = b := ⟨_, rfl⟩
  obtain ⟨b2, hb2⟩ : ∃ b, decide (a.length = 0) = b := ⟨_, rfl⟩
  have HV := Lib.hid (show (b1 && b2) = r by rw [← hb1, ← hb2]; exact HR.out)
  have e1 : s.toList.isEmpty = b1 := by rw [empty_iff, hb1]
  have e2 : ((a.length : Int) == 0) = b2 := by rw [← hb2, Bool.eq_iff_iff]; simp
  clear HR hb1 hb2
  cases b1
  · clear e2
    go_enter Tryz.func92, Tryz.ntmps92
    go_wp2_with fail
    go_ret
    exact ⟨by rw [← HV.out]; rfl, (Below.refl _ _).alloc (Nat.le_refl _) _⟩
  · cases b2
    · go_enter Tryz.func92, Tryz.ntmps92
      go_wp2_with fail
      go_ret
      exact ⟨by rw [← HV.out]; rfl, (Below.refl _ _).alloc (Nat.le_refl _) _⟩
    · go_enter Tryz.func92, Tryz.ntmps92
      go_wp2_with fail
      go_ret
      exact ⟨by rw [← HV.out]; rfl, (Below.refl _ _).alloc (Nat.le_refl _) _⟩

theorem func_at (s : ByteArray) (n : Nat) (w : World) (hs : s.size ≤ 9223372036854775807) (hn : n ≤ 9223372036854775807) {r : Bool} (hr : funcB s.data.toList n = r) :
    Calls Tryz.prog 93 #[.string s, .int .i64 (n : Int)] w fun e w' => e = .returned (.bool r) ∧ w = w' := by
  have HR := Lib.hid hr
  clear hr
  obtain ⟨b1, hb1⟩ : ∃ b, opB s.data.toList = b := ⟨_, rfl⟩
  have q1 := Lib.hid (op_at s w hb1)
  cases b1
  · obtain ⟨b2, hb2⟩ : ∃ b, rightB s.data.toList = b := ⟨_, rfl⟩
    have q2 := Lib.hid (right_at s w hs hb2)
    by_cases h6 : n ≤ 6
    · have h6' : (n : Int) ≤ 6 := by omega
      have HV := Lib.hid (show b2 = r by rw [← HR.out]; simp [funcB, hb1, hb2, h6])
      clear hb1 hb2 HR h6
      go_enter Tryz.func93, Tryz.ntmps93
      go_wp2_with fail
      refine q1.out.mono ?_
      rintro e w' ⟨rfl, rfl⟩
      go_wp2_with fail
      refine q2.out.mono ?_
      rintro e w' ⟨rfl, rfl⟩
      go_wp2_with fail
      go_ret
      exact ⟨by rw [← HV.out]; rfl, rfl⟩
    · have h6' : decide ((n : Int) ≤ 6) = false := by simp; omega
      have HV := Lib.hid (show false = r by rw [← HR.out]; simp [funcB, hb1, h6])
      clear hb1 hb2 HR h6
      go_enter Tryz.func93, Tryz.ntmps93
      go_wp2_with fail
      refine q1.out.mono ?_
      rintro e w' ⟨rfl, rfl⟩
      go_wp2_with fail
      go_ret
      exact ⟨by rw [← HV.out]; rfl, rfl⟩
  · obtain ⟨b2, hb2⟩ : ∃ b, ((n : Int) == 2) = b := ⟨_, rfl⟩
    have HV := Lib.hid (show b2 = r by rw [← HR.out, ← hb2, Bool.eq_iff_iff]; simp [funcB, hb1]; omega)
    clear hb1 HR
    cases b2
    all_goals
      go_enter Tryz.func93, Tryz.ntmps93
      go_wp2_with fail
      refine q1.out.mono ?_
      rintro e w' ⟨rfl, rfl⟩
      go_wp2_with fail
      go_ret
      exact ⟨by rw [← HV.out]; rfl, rfl⟩
end Go.Proofs.YtelkmnjoboekmaaGreat
namespace Go.Proofs.YtelkmnjoboekmaaGreat
open Go.RowKit Go.Sort

theorem texts_bytes (a b : List UInt8) : Lib.compareBytes a b = texts a b := by
  induction a generalizing b with
  | nil => cases b <;> simp [Lib.compareBytes, texts, Op.bytesLess]
  | cons x r ih =>
    cases b with
    | nil => simp [Lib.compareBytes, texts, Op.bytesLess]
    | cons y q =>
      rw [texts_cons, ← ih q, Lib.compareBytes]
      unfold lex
      rcases Nat.lt_trichotomy x.toNat y.toNat with h | h | h
      · rw [if_pos (UInt8.lt_iff_toNat_lt.2 h), ints_lt (by omega)]; rfl
      · rw [if_neg (fun e => by rw [UInt8.lt_iff_toNat_lt] at e; omega), if_neg (fun e => by rw [UInt8.lt_iff_toNat_lt] at e; omega), h, ints_self]; rfl
      · rw [if_neg (fun e => by rw [UInt8.lt_iff_toNat_lt] at e; omega), if_pos (UInt8.lt_iff_toNat_lt.2 h), ints_gt (by omega)]; rfl

theorem less_eq {a b : List UInt8} (h1 : Op.bytesLess a b = false) (h2 : Op.bytesLess b a = false) : a = b := by
  induction a generalizing b with
  | nil => cases b <;> simp [Op.bytesLess] at *
  | cons x r ih =>
    cases b with
    | nil => simp [Op.bytesLess] at h2
    | cons y q =>
      simp only [Op.bytesLess, Bool.or_eq_false_iff, Bool.and_eq_false_iff, decide_eq_false_iff_not, beq_eq_false_iff_ne, UInt8.lt_iff_toNat_lt] at h1 h2
      have e : x = y := UInt8.toNat_inj.1 (by omega)
      subst e
      rw [ih (h1.2.resolve_left (fun h => h rfl)) (h2.2.resolve_left (fun h => h rfl))]

theorem nan_at (x : Int) (w : World) : Calls Tryz.prog 107 #[.int .i64 x] w fun e w' => e = .returned (.bool false) ∧ w = w' := by
  go_enter Tryz.func107, Tryz.ntmps107
  go_wp2
  go_ret
  exact ⟨ret_bool (by simp), rfl⟩

theorem cmp_int_at (x y : Int) (w : World) {r : Int} (hr : ints x y = r) : Calls Tryz.prog 70 #[.int .i64 x, .int .i64 y] w fun e w' => e = .returned (.int .i64 r) ∧ w = w' := by
  have q1 := Lib.hid (nan_at x)
  have q2 := Lib.hid (nan_at y)
  have HV := Lib.hid hr
  clear hr
  by_cases h1 : x < y
  · have HE := Lib.hid (ints_lt h1)
    go_enter Tryz.func70, Tryz.ntmps70
    go_wp2_with fail
    refine (q1.out _).mono ?_
    rintro e w' ⟨rfl, rfl⟩
    go_wp2_with fail
    refine (q2.out _).mono ?_
    rintro e w' ⟨rfl, rfl⟩
    go_wp2_with fail
    go_ret
    exact ⟨by rw [← HV.out, HE.out]; rfl, rfl⟩
  · have h1' : decide (x < y) = false := by simpa using h1
    by_cases h2 : y < x
    · have HE := Lib.hid (ints_gt h2)
      clear h1
      go_enter Tryz.func70, Tryz.ntmps70
      go_wp2_with fail
      refine (q1.out _).mono ?_
      rintro e w' ⟨rfl, rfl⟩
      go_wp2_with fail
      refine (q2.out _).mono ?_
      rintro e w' ⟨rfl, rfl⟩
      go_wp2_with fail
      go_ret
      exact ⟨by rw [← HV.out, HE.out]; rfl, rfl⟩
    · have h2' : decide (y < x) = false := by simpa using h2
      have HE := Lib.hid (show ints x y = 0 by have e : x = y := by omega
                                               rw [e, ints_self])
      clear h1 h2
      go_enter Tryz.func70, Tryz.ntmps70
      go_wp2_with fail
      refine (q1.out _).mono ?_
      rintro e w' ⟨rfl, rfl⟩
      go_wp2_with fail
      refine (q2.out _).mono ?_
      rintro e w' ⟨rfl, rfl⟩
      go_wp2_with fail
      go_ret
      exact ⟨by rw [← HV.out, HE.out]; rfl, rfl⟩

theorem ref_ints_at (x y : Int) (w : World) {r : Int} (hr : ints x y = r) : Calls Tryz.prog 79 #[.int .i64 x, .int .i64 y] w fun e w' => e = .returned (.int .i64 r) ∧ w = w' := by
  have HV := Lib.hid hr
  clear hr
  by_cases h1 : x < y
  · have HE := Lib.hid (ints_lt h1)
    go_enter Tryz.func79, Tryz.ntmps79
    go_wp2_with fail
    go_ret
    exact ⟨by rw [← HV.out, HE.out]; rfl, rfl⟩
  · have h1' : decide (x < y) = false := by simpa using h1
    by_cases h2 : y < x
    · have HE := Lib.hid (ints_gt h2)
      clear h1
      go_enter Tryz.func79, Tryz.ntmps79
      go_wp2_with fail
      go_ret
      exact ⟨by rw [← HV.out, HE.out]; rfl, rfl⟩
    · have h2' : decide (y < x) = false := by simpa using h2
      have HE := Lib.hid (show ints x y = 0 by have e : x = y := by omega
                                               rw [e, ints_self])
      clear h1 h2
      go_enter Tryz.func79, Tryz.ntmps79
      go_wp2_with fail
      go_ret
      exact ⟨by rw [← HV.out, HE.out]; rfl, rfl⟩

set_option maxRecDepth 100000 in
theorem bytes_at (a b : ByteArray) (w : World) : Calls Tryz.prog 142 #[.string a, .string b] w fun e w' => e = .returned (.int .i64 (texts a.data.toList b.data.toList)) ∧ w = w' := by
  go_enter Tryz.func142, Tryz.ntmps142
  go_wp2
  rw [run_callFunc_extern Tryz.func156 (by kernel_rfl) (by kernel_rfl) (by kernel_rfl) (e := Extern.BytealgCompare.compare) (by kernel_rfl), Lib.run_compareString]
  simp only [Result.andThen]
  rw [Oper.upon_value]
  go_wp2
  go_ret
  exact ⟨ret_int (texts_bytes _ _), rfl⟩
theorem str_cmp_at (a b : ByteArray) (w : World) {r : Int} (hr : texts a.data.toList b.data.toList = r) : Calls Tryz.prog 119 #[.string a, .string b] w fun e w' => e = .returned (.int .i64 r) ∧ w = w' := by
  subst hr
  have q := Lib.hid (bytes_at a b)
  go_enter Tryz.func119, Tryz.ntmps119
  go_wp2_with fail
  refine (q.out _).mono ?_
  rintro e w' ⟨rfl, rfl⟩
  go_wp2_with fail
  go_ret
  exact ⟨rfl, rfl⟩
theorem ref_texts_at (a b : ByteArray) (w : World) {r : Int} (hr : texts a.data.toList b.data.toList = r) : Calls Tryz.prog 81 #[.string a, .string b] w fun e w' => e = .returned (.int .i64 r) ∧ w = w' := by
  have HV := Lib.hid hr
  clear hr
  have z := texts_tri a.data.toList b.data.toList a.data.toList
  rw [texts_self] at z
  obtain ⟨b1, h1⟩ : ∃ c, Op.bytesLess a.data.toList b.data.toList = c := ⟨_, rfl⟩
  obtain ⟨b2, h2⟩ : ∃ c, Op.bytesLess b.data.toList a.data.toList = c := ⟨_, rfl⟩
  have e1 : Op.bytesLess a.toList b.toList = b1 := by rw [raw_list, raw_list, h1]
  have e2 : Op.bytesLess b.toList a.toList = b2 := by rw [raw_list, raw_list, h2]
  obtain ⟨b3, e3⟩ : ∃ c, (a.toList == b.toList) = c := ⟨_, rfl⟩
  have HT := Lib.hid (show (!b1 && !b3) = (!b1 && b2) by
    cases b1
    · simp only [texts, h1, h2] at z
      cases b3
      · cases b2
        · exfalso
          have hne : a.data.toList ≠ b.data.toList := by
            intro e
            rw [raw_list, raw_list, e] at e3
            simp at e3
          exact hne (less_eq h1 h2)
        · rfl
      · have e : a.data.toList = b.data.toList := by rw [raw_list, raw_list] at e3; simpa using e3
        rw [e, bytesLess_self] at h2
        rw [← h2]; rfl
    · rfl)
  have HE := Lib.hid (show texts a.data.toList b.data.toList = if b1 then -1 else if b2 then 1 else 0 by unfold texts; rw [h1, h2])
  clear h1 h2 z
  cases b1
  · cases b3
    · obtain rfl : b2 = true := by simpa using HT.out
      clear e2
      go_enter Tryz.func81, Tryz.ntmps81
      go_wp2_with fail
      go_ret
      exact ⟨by rw [← HV.out, HE.out]; rfl, rfl⟩
    · obtain rfl : b2 = false := by simpa using HT.out
      clear e2
      go_enter Tryz.func81, Tryz.ntmps81
      go_wp2_with fail
      go_ret
      exact ⟨by rw [← HV.out, HE.out]; rfl, rfl⟩
  · clear e2 e3
    go_enter Tryz.func81, Tryz.ntmps81
    go_wp2_with fail
    go_ret
    exact ⟨by rw [← HV.out, HE.out]; rfl, rfl⟩

theorem rank_at (t : Tm) (w : World) {r : Int} (hr : cls t.kind = r) : Calls Tryz.prog 83 #[t.val] w fun e w' => e = .returned (.int .i64 r) ∧ Below w.heap.size w w' := by
  obtain ⟨k, n, s, A, c, a⟩ := t
  show Calls Tryz.prog 83 #[.agg #[.int .i64 k, .int .i64 n, .string s, .slice A a.length c]] w _
  have HV := Lib.hid (show cls k = r from hr)
  clear hr
  by_cases h1 : k = 1
  · subst h1
    have HE := Lib.hid (show cls 1 = 0 by simp [cls])
    go_enter Tryz.func83, Tryz.ntmps83
    go_wp2_with fail
    go_ret
    exact ⟨by rw [← HV.out, HE.out]; rfl, (Below.refl _ _).alloc (Nat.le_refl _) _⟩
  have e1 : (k == 1) = false := by simp [h1]
  by_cases h0 : k = 0
  · subst h0
    have HE := Lib.hid (show cls 0 = 1 by simp [cls])
    go_enter Tryz.func83, Tryz.ntmps83
    go_wp2_with fail
    go_ret
    exact ⟨by rw [← HV.out, HE.out]; rfl, (Below.refl _ _).alloc (Nat.le_refl _) _⟩
  have e0 : (k == 0) = false := by simp [h0]
  by_cases h2 : k = 2
  · subst h2
    have HE := Lib.hid (show cls 2 = 2 by simp [cls])
    go_enter Tryz.func83, Tryz.ntmps83
    go_wp2_with fail
    go_ret
    exact ⟨by rw [← HV.out, HE.out]; rfl, (Below.refl _ _).alloc (Nat.le_refl _) _⟩
  have e2 : (k == 2) = false := by simp [h2]
  have HE := Lib.hid (show cls k = 3 by simp [cls, h1, h0, h2])
  clear h0 h1 h2
  go_enter Tryz.func83, Tryz.ntmps83
  go_wp2_with fail
  go_ret
  exact ⟨by rw [← HV.out, HE.out]; rfl, (Below.refl _ _).alloc (Nat.le_refl _) _⟩

theorem class_at (t : Tm) (w : World) {r : Int} (hr : cls t.kind = r) : Calls Tryz.prog 80 #[t.val] w fun e w' => e = .returned (.int .i64 r) ∧ Below w.heap.size w w' := by
  obtain ⟨k, n, s, A, c, a⟩ := t
  show Calls Tryz.prog 80 #[.agg #[.int .i64 k, .int .i64 n, .string s, .slice A a.length c]] w _
  have HV := Lib.hid (show cls k = r from hr)
  clear hr
  by_cases h1 : k = 1
  · subst h1
    have HE := Lib.hid (show cls 1 = 0 by simp [cls])
    go_enter Tryz.func80, Tryz.ntmps80
    go_wp2_with fail
    go_ret
    exact ⟨by rw [← HV.out, HE.out]; rfl, (Below.refl _ _).alloc (Nat.le_refl _) _⟩
  have e1 : (k == 1) = false := by simp [h1]
  by_cases h0 : k = 0
  · subst h0
    have HE := Lib.hid (show cls 0 = 1 by simp [cls])
    go_enter Tryz.func80, Tryz.ntmps80
    go_wp2_with fail
    go_ret
    exact ⟨by rw [← HV.out, HE.out]; rfl, (Below.refl _ _).alloc (Nat.le_refl _) _⟩
  have e0 : (k == 0) = false := by simp [h0]
  by_cases h2 : k = 2
  · subst h2
    have HE := Lib.hid (show cls 2 = 2 by simp [cls])
    go_enter Tryz.func80, Tryz.ntmps80
    go_wp2_with fail
    go_ret
    exact ⟨by rw [← HV.out, HE.out]; rfl, (Below.refl _ _).alloc (Nat.le_refl _) _⟩
  have e2 : (k == 2) = false := by simp [h2]
  have HE := Lib.hid (show cls k = 3 by simp [cls, h1, h0, h2])
  clear h0 h1 h2
  go_enter Tryz.func80, Tryz.ntmps80
  go_wp2_with fail
  go_ret
  exact ⟨by rw [← HV.out, HE.out]; rfl, (Below.refl _ _).alloc (Nat.le_refl _) _⟩
end Go.Proofs.YtelkmnjoboekmaaGreat
