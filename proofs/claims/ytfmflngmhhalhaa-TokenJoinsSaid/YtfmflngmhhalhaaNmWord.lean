/-
  Contracts of isWord, Operator, Reserved, Right and Variable of the program, and of the reference's own.
-/
import Derived.Test.YtfmflngmhhalhaaNmBytes
namespace Go.Proofs.Ytfmflngmhhalhaa
open Go.RowKit

theorem take_next {s : ByteArray} {k : Nat} (h : k < s.size) : s.data.toList.take (k + 1) = s.data.toList.take k ++ [s[k]] := by
  rw [List.take_succ_eq_append_getElem (by simpa using h)]; rfl
theorem all_next {s : ByteArray} {k : Nat} (h : k < s.size) (ha : ∀ c ∈ s.data.toList.take k, inB c = true) (hc : inB s[k] = true) : ∀ c ∈ s.data.toList.take (k + 1), inB c = true := by
  intro c hm
  rw [take_next h] at hm
  rcases List.mem_append.1 hm with h1 | h1
  · exact ha c h1
  · obtain rfl := List.mem_singleton.1 h1
    exact hc
theorem word_stop {s : ByteArray} {k : Nat} (h : k < s.size) (hc : inB s[k] = false) : wordB s.data.toList = false := by
  cases hw : wordB s.data.toList
  · rfl
  · have := ((wordB_iff _).1 hw).2.2 s[k] (List.getElem_mem (l := s.data.toList) (n := k) (by simpa using h))
    rw [this] at hc
    cases hc
theorem word_end {s : ByteArray} (h1 : 1 ≤ s.size) (h2 : s.size ≤ 40) (ha : ∀ c ∈ s.data.toList.take s.size, inB c = true) : wordB s.data.toList = true := by
  rw [wordB_iff, len_str]
  refine ⟨h1, h2, fun c hc => ha c ?_⟩
  rw [List.take_of_length_le (by rw [len_str]; omega)]
  exact hc
theorem word_short {s : ByteArray} (h : s.size < 1) : wordB s.data.toList = false := by
  cases hw : wordB s.data.toList
  · rfl
  · have := ((wordB_iff _).1 hw).1
    rw [len_str] at this
    omega
theorem word_long {s : ByteArray} (h : 40 < s.size) : wordB s.data.toList = false := by
  cases hw : wordB s.data.toList
  · rfl
  · have := ((wordB_iff _).1 hw).2.1
    rw [len_str] at this
    omega
theorem byte_u8 (x : UInt8) : x.toNat < 256 := x.toNat_lt

set_option maxRecDepth 100000 in
set_option maxHeartbeats 1000000 in
theorem word_at (s : ByteArray) (w : World) (hs : s.size ≤ 9223372036854775807) {r : Bool} (hr : wordB s.data.toList = r) :
    Calls Try.prog 42 #[.string s] w fun e w' => e = .returned (.bool r) ∧ w = w' := by
  subst hr
  by_cases h1 : s.size < 1
  · have h1' : ((s.size : Nat) : Int) < 1 := by omega
    have HV := Lib.hid (word_short h1)
    clear h1
    go_enter Try.func42, Try.ntmps42
    go_wp2
    go_ret
    exact ⟨ret_bool (by rw [HV.out]), rfl⟩
  by_cases h2 : 40 < s.size
  · have h1' : decide (((s.size : Nat) : Int) < 1) = false := by simp; omega
    have h2' : (40 : Int) < ((s.size : Nat) : Int) := by omega
    have HV := Lib.hid (word_long h2)
    clear h1 h2
    go_enter Try.func42, Try.ntmps42
    go_wp2
    go_ret
    exact ⟨ret_bool (by rw [HV.out]), rfl⟩
  have h1' : decide (((s.size : Nat) : Int) < 1) = false := by simp; omega
  have h2' : decide ((40 : Int) < ((s.size : Nat) : Int)) = false := by simp; omega
  have H1 := Lib.hid (show 1 ≤ s.size by omega)
  have H2 := Lib.hid (show s.size ≤ 40 by omega)
  clear h1 h2
  go_enter Try.func42, Try.ntmps42
  go_wp2
  go_loop [14] (fun i => ∃ k : Nat, k ≤ s.size ∧ i = .int .i64 (k : Int) ∧ Hid (∀ c ∈ s.data.toList.take k, inB c = true)) (fun i => s.size - (intOf i).toNat)
  case atStart => exact ⟨0, Nat.zero_le _, rfl, fun c hc => by simp at hc⟩
  case round =>
    obtain ⟨k, hk, rfl, ha⟩ := hrel
    by_cases hlt : k < s.size
    · obtain ⟨b1, hb1⟩ : ∃ b, lowB s[k] = b := ⟨_, rfl⟩
      obtain ⟨b2, hb2⟩ : ∃ b, uppB s[k] = b := ⟨_, rfl⟩
      obtain ⟨b3, hb3⟩ : ∃ b, digB s[k] = b := ⟨_, rfl⟩
      have HI := Lib.hid (show inB s[k] = (b1 || b2 || b3 || undB s[k]) by unfold inB; rw [hb1, hb2, hb3])
      have q1 := Lib.hid hb1
      have q2 := Lib.hid hb2
      have q3 := Lib.hid hb3
      clear hb1 hb2 hb3
      cases b1
      · cases b2
        · cases b3
          · by_cases h4 : s[k].toNat = 95
            · have h4' : ((s[k].toNat : Int) != 95) = false := by simp; omega
              have HN := Lib.hid (all_next hlt ha.out (by rw [HI.out]; simp only [undB, h4, decide_true, Bool.or_true]))
              clear h4
              go_wp2_with (first | (go_at_call 43; refine (low_at _ _ q1).mono ?_; rintro e w' ⟨rfl, rfl⟩) | (go_at_call 44; refine (upp_at _ _ q2).mono ?_; rintro e w' ⟨rfl, rfl⟩) | (go_at_call 46; refine (dig_at _ _ q3).mono ?_; rintro e w' ⟨rfl, rfl⟩))
              go_round
              case rel => exact ⟨k + 1, by omega, by go_num, HN.out⟩
              case measure => simp [intOf]; omega
            · have h4' : ((s[k].toNat : Int) != 95) = true := by simp; omega
              have HN := Lib.hid (word_stop hlt (by rw [HI.out]; simp only [undB, h4, decide_false, Bool.or_false]))
              clear h4
              go_wp2_with (first | (go_at_call 43; refine (low_at _ _ q1).mono ?_; rintro e w' ⟨rfl, rfl⟩) | (go_at_call 44; refine (upp_at _ _ q2).mono ?_; rintro e w' ⟨rfl, rfl⟩) | (go_at_call 46; refine (dig_at _ _ q3).mono ?_; rintro e w' ⟨rfl, rfl⟩))
              go_ret
              exact ⟨ret_bool (by rw [HN.out]), rfl⟩
          · have HN := Lib.hid (all_next hlt ha.out (by rw [HI.out]; simp))
            go_wp2_with (first | (go_at_call 43; refine (low_at _ _ q1).mono ?_; rintro e w' ⟨rfl, rfl⟩) | (go_at_call 44; refine (upp_at _ _ q2).mono ?_; rintro e w' ⟨rfl, rfl⟩) | (go_at_call 46; refine (dig_at _ _ q3).mono ?_; rintro e w' ⟨rfl, rfl⟩))
            go_round
            case rel => exact ⟨k + 1, by omega, by go_num, HN.out⟩
            case measure => simp [intOf]; omega
        · have HN := Lib.hid (all_next hlt ha.out (by rw [HI.out]; simp))
          go_wp2_with (first | (go_at_call 43; refine (low_at _ _ q1).mono ?_; rintro e w' ⟨rfl, rfl⟩) | (go_at_call 44; refine (upp_at _ _ q2).mono ?_; rintro e w' ⟨rfl, rfl⟩) | (go_at_call 46; refine (dig_at _ _ q3).mono ?_; rintro e w' ⟨rfl, rfl⟩))
          go_round
          case rel => exact ⟨k + 1, by omega, by go_num, HN.out⟩
          case measure => simp [intOf]; omega
      · have HN := Lib.hid (all_next hlt ha.out (by rw [HI.out]; simp))
        go_wp2_with (first | (go_at_call 43; refine (low_at _ _ q1).mono ?_; rintro e w' ⟨rfl, rfl⟩) | (go_at_call 44; refine (upp_at _ _ q2).mono ?_; rintro e w' ⟨rfl, rfl⟩) | (go_at_call 46; refine (dig_at _ _ q3).mono ?_; rintro e w' ⟨rfl, rfl⟩))
        go_round
        case rel => exact ⟨k + 1, by omega, by go_num, HN.out⟩
        case measure => simp [intOf]; omega
    · obtain rfl : k = s.size := by omega
      have HN := Lib.hid (word_end H1.out H2.out ha.out)
      go_wp2
      go_ret
      exact ⟨ret_bool (by rw [HN.out]), rfl⟩
end Go.Proofs.Ytfmflngmhhalhaa
