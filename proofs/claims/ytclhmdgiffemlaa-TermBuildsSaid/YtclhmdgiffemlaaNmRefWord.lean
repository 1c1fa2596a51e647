/-
  Contract of the reference's word.
-/
import Derived.Test.YtclhmdgiffemlaaNmWord
namespace Go.Proofs.Ytclhmdgiffemlaa
open Go.RowKit

theorem word_of_all {s : ByteArray} (ha : ∀ c ∈ s.data.toList.take s.size, inB c = true) : wordB s.data.toList = (decide (1 ≤ s.size) && decide (s.size ≤ 40)) := by
  rw [Bool.eq_iff_iff, wordB_iff, len_str]
  simp only [Bool.and_eq_true, decide_eq_true_eq]
  refine ⟨fun h => ⟨h.1, h.2.1⟩, fun h => ⟨h.1, h.2, fun c hc => ha c ?_⟩⟩
  rw [List.take_of_length_le (by rw [len_str]; omega)]
  exact hc

set_option maxRecDepth 100000 in
set_option maxHeartbeats 1000000 in
theorem ref_word_at (s : ByteArray) (w : World) (hs : s.size ≤ 9223372036854775807) {r : Bool} (hr : wordB s.data.toList = r) :
    Calls Try.prog 89 #[.string s] w fun e w' => e = .returned (.bool r) ∧ w = w' := by
  subst hr
  go_enter Try.func89, Try.ntmps89
  go_wp2
  go_loop [3] (fun i => ∃ k : Nat, k ≤ s.size ∧ i = .int .i64 (k : Int) ∧ Hid (∀ c ∈ s.data.toList.take k, inB c = true)) (fun i => s.size - (intOf i).toNat)
  case atStart => exact ⟨0, Nat.zero_le _, rfl, fun c hc => by simp at hc⟩
  case round =>
    obtain ⟨k, hk, rfl, ha⟩ := hrel
    by_cases hlt : k < s.size
    · obtain ⟨b1, hb1⟩ : ∃ b, lowB s[k] = b := ⟨_, rfl⟩
      obtain ⟨b2, hb2⟩ : ∃ b, uppB s[k] = b := ⟨_, rfl⟩
      obtain ⟨b3, hb3⟩ : ∃ b, digB s[k] = b := ⟨_, rfl⟩
      have HI := Lib.hid (show inB s[k] = (b1 || b2 || b3 || undB s[k]) by unfold inB; rw [hb1, hb2, hb3])
      have q1 := Lib.hid hb1
      have q2 := Lib.hid hb2
      have q3 := Lib.hid hb3
      clear hb1 hb2 hb3
      cases b1
      · cases b2
        · by_cases h5 : s[k].toNat < 48
          · have h5' : (s[k].toNat : Int) < 48 := by omega
            have h4' : ((s[k].toNat : Int) != 95) = true := by simp; omega
            have e3 : b3 = false := by rw [← q3.out]; simp only [digB, decide_eq_false_iff_not]; omega
            have HN := Lib.hid (word_stop hlt (by rw [HI.out, e3]; simp only [undB, Bool.false_or, decide_eq_false_iff_not]; omega))
            clear h5 e3
            go_wp2_with (first | (go_at_call 90; refine (ref_low_at _ _ q1.out).mono ?_; rintro e w' ⟨rfl, rfl⟩) | (go_at_call 96; refine (ref_upp_at _ _ q2.out).mono ?_; rintro e w' ⟨rfl, rfl⟩))
            go_ret
            exact ⟨ret_bool (by rw [HN.out]), rfl⟩
          have h5' : decide ((s[k].toNat : Int) < 48) = false := by simp; omega
          by_cases h6 : 57 < s[k].toNat
          · have h6' : (57 : Int) < (s[k].toNat : Int) := by omega
            have e3 : b3 = false := by rw [← q3.out]; simp only [digB, decide_eq_false_iff_not]; omega
            by_cases h4 : s[k].toNat = 95
            · have h4' : ((s[k].toNat : Int) != 95) = false := by simp; omega
              have HN := Lib.hid (all_next hlt ha.out (by rw [HI.out]; simp only [undB, h4, decide_true, Bool.or_true]))
              clear h4 h5 h6 e3
              go_wp2_with (first | (go_at_call 90; refine (ref_low_at _ _ q1.out).mono ?_; rintro e w' ⟨rfl, rfl⟩) | (go_at_call 96; refine (ref_upp_at _ _ q2.out).mono ?_; rintro e w' ⟨rfl, rfl⟩))
              go_round
              case rel => exact ⟨k + 1, by omega, by go_num, HN.out⟩
              case measure => simp [intOf]; omega
            · have h4' : ((s[k].toNat : Int) != 95) = true := by simp; omega
              have HN := Lib.hid (word_stop hlt (by rw [HI.out, e3]; simp only [undB, h4, decide_false, Bool.or_false]))
              clear h4 h5 h6 e3
              go_wp2_with (first | (go_at_call 90; refine (ref_low_at _ _ q1.out).mono ?_; rintro e w' ⟨rfl, rfl⟩) | (go_at_call 96; refine (ref_upp_at _ _ q2.out).mono ?_; rintro e w' ⟨rfl, rfl⟩))
              go_ret
              exact ⟨ret_bool (by rw [HN.out]), rfl⟩
          · have h6' : decide ((57 : Int) < (s[k].toNat : Int)) = false := by simp; omega
            have e3 : b3 = true := by rw [← q3.out]; simp only [digB, decide_eq_true_eq]; omega
            have HN := Lib.hid (all_next hlt ha.out (by rw [HI.out, e3]; simp))
            clear h5 h6 e3
            go_wp2_with (first | (go_at_call 90; refine (ref_low_at _ _ q1.out).mono ?_; rintro e w' ⟨rfl, rfl⟩) | (go_at_call 96; refine (ref_upp_at _ _ q2.out).mono ?_; rintro e w' ⟨rfl, rfl⟩))
            go_round
            case rel => exact ⟨k + 1, by omega, by go_num, HN.out⟩
            case measure => simp [intOf]; omega
        · have HN := Lib.hid (all_next hlt ha.out (by rw [HI.out]; simp))
          go_wp2_with (first | (go_at_call 90; refine (ref_low_at _ _ q1.out).mono ?_; rintro e w' ⟨rfl, rfl⟩) | (go_at_call 96; refine (ref_upp_at _ _ q2.out).mono ?_; rintro e w' ⟨rfl, rfl⟩))
          go_round
          case rel => exact ⟨k + 1, by omega, by go_num, HN.out⟩
          case measure => simp [intOf]; omega
      · have HN := Lib.hid (all_next hlt ha.out (by rw [HI.out]; simp))
        go_wp2_with (first | (go_at_call 90; refine (ref_low_at _ _ q1.out).mono ?_; rintro e w' ⟨rfl, rfl⟩) | (go_at_call 96; refine (ref_upp_at _ _ q2.out).mono ?_; rintro e w' ⟨rfl, rfl⟩))
        go_round
        case rel => exact ⟨k + 1, by omega, by go_num, HN.out⟩
        case measure => simp [intOf]; omega
    · obtain rfl : k = s.size := by omega
      have HN := Lib.hid (word_of_all ha.out)
      by_cases h1 : 1 ≤ s.size
      · have h1' : (1 : Int) ≤ ((s.size : Nat) : Int) := by omega
        by_cases h2 : s.size ≤ 40
        · have h2' : ((s.size : Nat) : Int) ≤ 40 := by omega
          have HB := Lib.hid (show wordB s.data.toList = true by rw [HN.out]; simp [h1, h2])
          clear h1 h2
          go_wp2
          go_ret
          exact ⟨ret_bool (by rw [HB.out]), rfl⟩
        · have h2' : decide (((s.size : Nat) : Int) ≤ 40) = false := by simp; omega
          have HB := Lib.hid (show wordB s.data.toList = false by rw [HN.out]; simp [h2])
          clear h1 h2
          go_wp2
          go_ret
          exact ⟨ret_bool (by rw [HB.out]), rfl⟩
      · have h1' : decide ((1 : Int) ≤ ((s.size : Nat) : Int)) = false := by simp; omega
        have HB := Lib.hid (show wordB s.data.toList = false by rw [HN.out]; simp [h1])
        clear h1
        go_wp2
        go_ret
        exact ⟨ret_bool (by rw [HB.out]), rfl⟩
end Go.Proofs.Ytclhmdgiffemlaa
