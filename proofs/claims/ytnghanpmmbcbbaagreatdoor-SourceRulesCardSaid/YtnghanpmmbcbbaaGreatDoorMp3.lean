/-
  NmRefWord.
  NmTables.
  NmKinds.
  TmRight.
  TmFit.
  TmSize.
-/
import Derived.Test.YtnghanpmmbcbbaaGreatDoorMp2
import Derived.Test.YtnghanpmmbcbbaaGreatDoorMp1
import Derived.Outline
import Derived.WalkLawsBesides
import Derived.Deep.RegionHeld3
import Derived.BigQuiet
import Derived.Lib.QuietBelow
import Derived.Test.YtnghanpmmbcbbaaGreatDoorProg
namespace Go.Proofs.YtnghanpmmbcbbaaGreatDoor
open Go.RowKit
theorem word_of_all {s : ByteArray} (ha : ∀ c ∈ s.data.toList.take s.size, inB c = true) : wordB s.data.toList = (decide (1 ≤ s.size) && decide (s.size ≤ 40)) := by
  rw [Bool.eq_iff_iff, wordB_iff, len_str]
  simp only [Bool.and_eq_true, decide_eq_true_eq]
  refine ⟨fun h => ⟨h.1, h.2.1⟩, fun h => ⟨h.1, h.2, fun c hc => ha c ?_⟩⟩
  rw [List.take_of_length_le (by rw [len_str]; omega)]
  exact hc
set_option maxRecDepth 100000 in
set_option maxHeartbeats 1000000 in
theorem ref_word_at (s : ByteArray) (w : World) (hs : s.size ≤ 9223372036854775807) {r : Bool} (hr : wordB s.data.toList = r) :
    Calls Tryz.prog 77 #[.string s] w fun e w' => e = .returned (.bool r) ∧ w = w' := by
  subst hr
  go_enter Tryz.func77, Tryz.ntmps77
  go_wp2
  go_loop [3] (fun i => ∃ k : Nat, k ≤ s.size ∧ i = .int .i64 (k : Int) ∧ Hid (∀ c ∈ s.data.toList.take k, inB c = true)) (fun i => s.size - (intOf i).toNat)
  case atStart => exact ⟨0, Nat.zero_le _, rfl, fun c hc => by simp at hc⟩
  case round =>
    obtain ⟨k, hk, rfl, ha⟩ := hrel
    by_cases hlt : k < s.size
    · obtain ⟨b1, hb1⟩ : ∃ b, lowB s[k] = b := ⟨_, rfl⟩
      obtain ⟨b2, hb2⟩ : ∃ b, uppB s[k] = b := ⟨_, rfl⟩
      obtain ⟨b3, hb3⟩ : ∃ b, digB s[k] = b := ⟨_, rfl⟩
      have HI := Lib.hid (show inB s[k] = (b1 || b2 || b3 || undB s[k]) by unfold inB; rw [hb1, hb2, hb3])
      have q1 := Lib.hid hb1
      have q2 := Lib.hid hb2
      have q3 := Lib.hid hb3
      clear hb1 hb2 hb3
      cases b1
      · cases b2
        · by_cases h5 : s[k].toNat < 48
          · have h5' : (s[k].toNat : Int) < 48 := by omega
            have h4' : ((s[k].toNat : Int) != 95) = true := by simp; omega
            have e3 : b3 = false := by rw [← q3.out]; simp only [digB, decide_eq_false_iff_not]; omega
            have HN := Lib.hid (word_stop hlt (by rw [HI.out, e3]; simp only [undB, Bool.false_or, decide_eq_false_iff_not]; omega))
            clear h5 e3
            go_wp2_with (first | (go_at_call 78; refine (ref_low_at _ _ q1.out).mono ?_; rintro e w' ⟨rfl, rfl⟩) | (go_at_call 122; refine (ref_upp_at _ _ q2.out).mono ?_; rintro e w' ⟨rfl, rfl⟩))
            go_ret
            exact ⟨ret_bool (by rw [HN.out]), rfl⟩
          have h5' : decide ((s[k].toNat : Int) < 48) = false := by simp; omega
          by_cases h6 : 57 < s[k].toNat
          · have h6' : (57 : Int) < (s[k].toNat : Int) := by omega
            have e3 : b3 = false := by rw [← q3.out]; simp only [digB, decide_eq_false_iff_not]; omega
            by_cases h4 : s[k].toNat = 95
            · have h4' : ((s[k].toNat : Int) != 95) = false := by simp; omega
              have HN := Lib.hid (all_next hlt ha.out (by rw [HI.out]; simp only [undB, h4, decide_true, Bool.or_true]))
              clear h4 h5 h6 e3
              go_wp2_with (first | (go_at_call 78; refine (ref_low_at _ _ q1.out).mono ?_; rintro e w' ⟨rfl, rfl⟩) | (go_at_call 122; refine (ref_upp_at _ _ q2.out).mono ?_; rintro e w' ⟨rfl, rfl⟩))
              go_round
              case rel => exact ⟨k + 1, by omega, by go_num, HN.out⟩
              case measure => simp [intOf]; omega
            · have h4' : ((s[k].toNat : Int) != 95) = true := by simp; omega
              have HN := Lib.hid (word_stop hlt (by rw [HI.out, e3]; simp only [undB, h4, decide_false, Bool.or_false]))
              clear h4 h5 h6 e3
              go_wp2_with (first | (go_at_call 78; refine (ref_low_at _ _ q1.out).mono ?_; rintro e w' ⟨rfl, rfl⟩) | (go_at_call 122; refine (ref_upp_at _ _ q2.out).mono ?_; rintro e w' ⟨rfl, rfl⟩))
              go_ret
              exact ⟨ret_bool (by rw [HN.out]), rfl⟩
          · have h6' : decide ((57 : Int) < (s[k].toNat : Int)) = false := by simp; omega
            have e3 : b3 = true := by rw [← q3.out]; simp only [digB, decide_eq_true_eq]; omega
            have HN := Lib.hid (all_next hlt ha.out (by rw [HI.out, e3]; simp))
            clear h5 h6 e3
            go_wp2_with (first | (go_at_call 78; refine (ref_low_at _ _ q1.out).mono ?_; rintro e w' ⟨rfl, rfl⟩) | (go_at_call 122; refine (ref_upp_at _ _ q2.out).mono ?_; rintro e w' ⟨rfl, rfl⟩))
            go_round
            case rel => exact ⟨k + 1, by omega, by go_num, HN.out⟩
            case measure => simp [intOf]; omega
        · have HN := Lib.hid (all_next hlt ha.out (by rw [HI.out]; simp))
          go_wp2_with (first | (go_at_call 78; refine (ref_low_at _ _ q1.out).mono ?_; rintro e w' ⟨rfl, rfl⟩) | (go_at_call 122; refine (ref_upp_at _ _ q2.out).mono ?_; rintro e w' ⟨rfl, rfl⟩))
          go_round
          case rel => exact ⟨k + 1, by omega, by go_num, HN.out⟩
          case measure => simp [intOf]; omega
      · have HN := Lib.hid (all_next hlt ha.out (by rw [HI.out]; simp))
        go_wp2_with (first | (go_at_call 78; refine (ref_low_at _ _ q1.out).mono ?_; rintro e w' ⟨rfl, rfl⟩) | (go_at_call 122; refine (ref_upp_at _ _ q2.out).mono ?_; rintro e w' ⟨rfl, rfl⟩))
        go_round
        case rel => exact ⟨k + 1, by omega, by go_num, HN.out⟩
        case measure => simp [intOf]; omega
    · obtain rfl : k = s.size := by omega
      have HN := Lib.hid (word_of_all ha.out)
      by_cases h1 : 1 ≤ s.size
      · have h1' : (1 : Int) ≤ ((s.size : Nat) : Int) := by omega
        by_cases h2 : s.size ≤ 40
        · have h2' : ((s.size : Nat) : Int) ≤ 40 := by omega
          have HB := Lib.hid (show wordB s.data.toList = true by rw [HN.out]; simp [h1, h2])
          clear h1 h2
          go_wp2
          go_ret
          exact ⟨ret_bool (by rw [HB.out]), rfl⟩
        · have h2' : decide (((s.size : Nat) : Int) ≤ 40) = false := by simp; omega
          have HB := Lib.hid (show wordB s.data.toList = false by rw [HN.out]; simp [h2])
          clear h1 h2
          go_wp2
          go_ret
          exact ⟨ret_bool (by rw [HB.out]), rfl⟩
      · have h1' : decide ((1 : Int) ≤ ((s.size : Nat) : Int)) = false := by simp; omega
        have HB := Lib.hid (show wordB s.data.toList = false by rw [HN.out]; simp [h1])
        clear h1
        go_wp2
        go_ret
        exact ⟨ret_bool (by rw [HB.out]), rfl⟩
end Go.Proofs.YtnghanpmmbcbbaaGreatDoor
namespace Go.Proofs.YtnghanpmmbcbbaaGreatDoor
open Go.RowKit
theorem raw_list (s : ByteArray) : s.toList = s.data.toList := ByteArray.toList_eq s
theorem str_of {s : ByteArray} {l : List UInt8} (h : s.data.toList = l) : s = ⟨l.toArray⟩ := by
  subst h
  rfl
theorem raw_ne {s : ByteArray} {l : List UInt8} (h : s.data.toList ≠ l) : (s.toList == l) = false := by
  rw [raw_list]
  simpa using h
set_option maxHeartbeats 1000000 in
theorem op_at (s : ByteArray) (w : World) {r : Bool} (hr : opB s.data.toList = r) :
    Calls Tryz.prog 167 #[.string s] w fun e w' => e = .returned (.bool r) ∧ w = w' := by
  by_cases h0 : s.data.toList = [43]
  · obtain rfl := str_of h0
    obtain rfl : true = r := by rw [← hr]; decide
    clear h0 hr
    go_enter Tryz.func167, Tryz.ntmps167
    go_wp2
    go_ret
    exact ⟨rfl, rfl⟩
  by_cases h1 : s.data.toList = [45]
  · obtain rfl := str_of h1
    obtain rfl : true = r := by rw [← hr]; decide
    clear h0 h1 hr
    go_enter Tryz.func167, Tryz.ntmps167
    go_wp2
    go_ret
    exact ⟨rfl, rfl⟩
  by_cases h2 : s.data.toList = [42]
  · obtain rfl := str_of h2
    obtain rfl : true = r := by rw [← hr]; decide
    clear h0 h1 h2 hr
    go_enter Tryz.func167, Tryz.ntmps167
    go_wp2
    go_ret
    exact ⟨rfl, rfl⟩
  by_cases h3 : s.data.toList = [47]
  · obtain rfl := str_of h3
    obtain rfl : true = r := by rw [← hr]; decide
    clear h0 h1 h2 h3 hr
    go_enter Tryz.func167, Tryz.ntmps167
    go_wp2
    go_ret
    exact ⟨rfl, rfl⟩
  by_cases h4 : s.data.toList = [37]
  · obtain rfl := str_of h4
    obtain rfl : true = r := by rw [← hr]; decide
    clear h0 h1 h2 h3 h4 hr
    go_enter Tryz.func167, Tryz.ntmps167
    go_wp2
    go_ret
    exact ⟨rfl, rfl⟩
  obtain rfl : false = r := by
    rw [← hr]
    simp only [opB, operators, List.mem_cons, List.not_mem_nil, or_false, h0, h1, h2, h3, h4, decide_false]
  have n0 := raw_ne h0
  have n1 := raw_ne h1
  have n2 := raw_ne h2
  have n3 := raw_ne h3
  have n4 := raw_ne h4
  clear h0 h1 h2 h3 h4 hr
  go_enter Tryz.func167, Tryz.ntmps167
  go_wp2
  go_ret
  exact ⟨rfl, rfl⟩
set_option maxHeartbeats 1000000 in
theorem ref_op_at (s : ByteArray) (w : World) {r : Bool} (hr : opB s.data.toList = r) :
    Calls Tryz.prog 186 #[.string s] w fun e w' => e = .returned (.bool r) ∧ w = w' := by
  by_cases h0 : s.data.toList = [43]
  · obtain rfl := str_of h0
    obtain rfl : true = r := by rw [← hr]; decide
    clear h0 hr
    go_enter Tryz.func186, Tryz.ntmps186
    go_wp2
    go_ret
    exact ⟨rfl, rfl⟩
  by_cases h1 : s.data.toList = [45]
  · obtain rfl := str_of h1
    obtain rfl : true = r := by rw [← hr]; decide
    clear h0 h1 hr
    go_enter Tryz.func186, Tryz.ntmps186
    go_wp2
    go_ret
    exact ⟨rfl, rfl⟩
  by_cases h2 : s.data.toList = [42]
  · obtain rfl := str_of h2
    obtain rfl : true = r := by rw [← hr]; decide
    clear h0 h1 h2 hr
    go_enter Tryz.func186, Tryz.ntmps186
    go_wp2
    go_ret
    exact ⟨rfl, rfl⟩
  by_cases h3 : s.data.toList = [47]
  · obtain rfl := str_of h3
    obtain rfl : true = r := by rw [← hr]; decide
    clear h0 h1 h2 h3 hr
    go_enter Tryz.func186, Tryz.ntmps186
    go_wp2
    go_ret
    exact ⟨rfl, rfl⟩
  by_cases h4 : s.data.toList = [37]
  · obtain rfl := str_of h4
    obtain rfl : true = r := by rw [← hr]; decide
    clear h0 h1 h2 h3 h4 hr
    go_enter Tryz.func186, Tryz.ntmps186
    go_wp2
    go_ret
    exact ⟨rfl, rfl⟩
  obtain rfl : false = r := by
    rw [← hr]
    simp only [opB, operators, List.mem_cons, List.not_mem_nil, or_false, h0, h1, h2, h3, h4, decide_false]
  have n0 := raw_ne h0
  have n1 := raw_ne h1
  have n2 := raw_ne h2
  have n3 := raw_ne h3
  have n4 := raw_ne h4
  clear h0 h1 h2 h3 h4 hr
  go_enter Tryz.func186, Tryz.ntmps186
  go_wp2
  go_ret
  exact ⟨rfl, rfl⟩
set_option maxHeartbeats 1000000 in
theorem res_at (s : ByteArray) (w : World) {r : Bool} (hr : resB s.data.toList = r) :
    Calls Tryz.prog 112 #[.string s] w fun e w' => e = .returned (.bool r) ∧ w = w' := by
  by_cases h0 : s.data.toList = [99, 111, 110, 115, 116, 114, 97, 105, 110, 116]
  · obtain rfl := str_of h0
    obtain rfl : true = r := by rw [← hr]; decide
    clear h0 hr
    go_enter Tryz.func112, Tryz.ntmps112
    go_wp2
    go_ret
    exact ⟨rfl, rfl⟩
  by_cases h1 : s.data.toList = [116, 114, 117, 101]
  · obtain rfl := str_of h1
    obtain rfl : true = r := by rw [← hr]; decide
    clear h0 h1 hr
    go_enter Tryz.func112, Tryz.ntmps112
    go_wp2
    go_ret
    exact ⟨rfl, rfl⟩
  by_cases h2 : s.data.toList = [102, 97, 105, 108]
  · obtain rfl := str_of h2
    obtain rfl : true = r := by rw [← hr]; decide
    clear h0 h1 h2 hr
    go_enter Tryz.func112, Tryz.ntmps112
    go_wp2
    go_ret
    exact ⟨rfl, rfl⟩
  by_cases h3 : s.data.toList = [105, 115]
  · obtain rfl := str_of h3
    obtain rfl : true = r := by rw [← hr]; decide
    clear h0 h1 h2 h3 hr
    go_enter Tryz.func112, Tryz.ntmps112
    go_wp2
    go_ret
    exact ⟨rfl, rfl⟩
  by_cases h4 : s.data.toList = [105, 110, 116]
  · obtain rfl := str_of h4
    obtain rfl : true = r := by rw [← hr]; decide
    clear h0 h1 h2 h3 h4 hr
    go_enter Tryz.func112, Tryz.ntmps112
    go_wp2
    go_ret
    exact ⟨rfl, rfl⟩
  by_cases h5 : s.data.toList = [103, 114, 111, 117, 110, 100]
  · obtain rfl := str_of h5
    obtain rfl : true = r := by rw [← hr]; decide
    clear h0 h1 h2 h3 h4 h5 hr
    go_enter Tryz.func112, Tryz.ntmps112
    go_wp2
    go_ret
    exact ⟨rfl, rfl⟩
  obtain rfl : false = r := by
    rw [← hr]
    simp only [resB, reserved, List.mem_cons, List.not_mem_nil, or_false, h0, h1, h2, h3, h4, h5, decide_false]
  have n0 := raw_ne h0
  have n1 := raw_ne h1
  have n2 := raw_ne h2
  have n3 := raw_ne h3
  have n4 := raw_ne h4
  have n5 := raw_ne h5
  clear h0 h1 h2 h3 h4 h5 hr
  go_enter Tryz.func112, Tryz.ntmps112
  go_wp2
  go_ret
  exact ⟨rfl, rfl⟩
set_option maxHeartbeats 1000000 in
theorem ref_res_at (s : ByteArray) (w : World) {r : Bool} (hr : resB s.data.toList = r) :
    Calls Tryz.prog 79 #[.string s] w fun e w' => e = .returned (.bool r) ∧ w = w' := by
  by_cases h0 : s.data.toList = [99, 111, 110, 115, 116, 114, 97, 105, 110, 116]
  · obtain rfl := str_of h0
    obtain rfl : true = r := by rw [← hr]; decide
    clear h0 hr
    go_enter Tryz.func79, Tryz.ntmps79
    go_wp2
    go_ret
    exact ⟨rfl, rfl⟩
  by_cases h1 : s.data.toList = [116, 114, 117, 101]
  · obtain rfl := str_of h1
    obtain rfl : true = r := by rw [← hr]; decide
    clear h0 h1 hr
    go_enter Tryz.func79, Tryz.ntmps79
    go_wp2
    go_ret
    exact ⟨rfl, rfl⟩
  by_cases h2 : s.data.toList = [102, 97, 105, 108]
  · obtain rfl := str_of h2
    obtain rfl : true = r := by rw [← hr]; decide
    clear h0 h1 h2 hr
    go_enter Tryz.func79, Tryz.ntmps79
    go_wp2
    go_ret
    exact ⟨rfl, rfl⟩
  by_cases h3 : s.data.toList = [105, 115]
  · obtain rfl := str_of h3
    obtain rfl : true = r := by rw [← hr]; decide
    clear h0 h1 h2 h3 hr
    go_enter Tryz.func79, Tryz.ntmps79
    go_wp2
    go_ret
    exact ⟨rfl, rfl⟩
  by_cases h4 : s.data.toList = [105, 110, 116]
  · obtain rfl := str_of h4
    obtain rfl : true = r := by rw [← hr]; decide
    clear h0 h1 h2 h3 h4 hr
    go_enter Tryz.func79, Tryz.ntmps79
    go_wp2
    go_ret
    exact ⟨rfl, rfl⟩
  by_cases h5 : s.data.toList = [103, 114, 111, 117, 110, 100]
  · obtain rfl := str_of h5
    obtain rfl : true = r := by rw [← hr]; decide
    clear h0 h1 h2 h3 h4 h5 hr
    go_enter Tryz.func79, Tryz.ntmps79
    go_wp2
    go_ret
    exact ⟨rfl, rfl⟩
  obtain rfl : false = r := by
    rw [← hr]
    simp only [resB, reserved, List.mem_cons, List.not_mem_nil, or_false, h0, h1, h2, h3, h4, h5, decide_false]
  have n0 := raw_ne h0
  have n1 := raw_ne h1
  have n2 := raw_ne h2
  have n3 := raw_ne h3
  have n4 := raw_ne h4
  have n5 := raw_ne h5
  clear h0 h1 h2 h3 h4 h5 hr
  go_enter Tryz.func79, Tryz.ntmps79
  go_wp2
  go_ret
  exact ⟨rfl, rfl⟩
end Go.Proofs.YtnghanpmmbcbbaaGreatDoor
namespace Go.Proofs.YtnghanpmmbcbbaaGreatDoor
open Go.RowKit
theorem head_at {s : ByteArray} (h : 0 < s.size) : s.data.toList.getD 0 0 = s[0] := by
  rw [List.getD_eq_getElem?_getD, List.getElem?_eq_getElem (by rw [len_str]; exact h)]
  rfl
theorem word_size {s : ByteArray} (h : wordB s.data.toList = true) : 0 < s.size := by
  have := ((wordB_iff _).1 h).1
  rw [len_str] at this
  omega
set_option maxHeartbeats 1000000 in
theorem right_at (s : ByteArray) (w : World) (hs : s.size ≤ 9223372036854775807) {r : Bool} (hr : rightB s.data.toList = r) :
    Calls Tryz.prog 69 #[.string s] w fun e w' => e = .returned (.bool r) ∧ w = w' := by
  subst hr
  obtain ⟨b1, hb1⟩ : ∃ b, wordB s.data.toList = b := ⟨_, rfl⟩
  have qw := Lib.hid hb1
  cases b1
  · have HV := Lib.hid (show rightB s.data.toList = false by unfold rightB; rw [hb1]; rfl)
    clear hb1
    go_enter Tryz.func69, Tryz.ntmps69
    go_wp2_with (go_at_call 110; refine (word_at _ _ hs qw.out).mono ?_; rintro e w' ⟨rfl, rfl⟩)
    go_ret
    exact ⟨ret_bool (by rw [HV.out]), rfl⟩
  · have h0 := word_size hb1
    obtain ⟨b2, hb2⟩ : ∃ b, lowB s[0] = b := ⟨_, rfl⟩
    obtain ⟨b3, hb3⟩ : ∃ b, resB s.data.toList = b := ⟨_, rfl⟩
    have HV := Lib.hid (show rightB s.data.toList = (b2 && !b3) by unfold rightB; rw [hb1, head_at h0, hb2, hb3]; rfl)
    have ql := Lib.hid hb2
    have qr := Lib.hid hb3
    clear hb1 hb2 hb3
    cases b2
    · go_enter Tryz.func69, Tryz.ntmps69
      go_wp2_with (first | (go_at_call 110; refine (word_at _ _ hs qw.out).mono ?_; rintro e w' ⟨rfl, rfl⟩) | (go_at_call 111; refine (low_at _ _ ql.out).mono ?_; rintro e w' ⟨rfl, rfl⟩) | (go_at_call 112; refine (res_at _ _ qr.out).mono ?_; rintro e w' ⟨rfl, rfl⟩))
      go_ret
      exact ⟨ret_bool (by rw [HV.out]; rfl), rfl⟩
    · cases b3
      · go_enter Tryz.func69, Tryz.ntmps69
        go_wp2_with (first | (go_at_call 110; refine (word_at _ _ hs qw.out).mono ?_; rintro e w' ⟨rfl, rfl⟩) | (go_at_call 111; refine (low_at _ _ ql.out).mono ?_; rintro e w' ⟨rfl, rfl⟩) | (go_at_call 112; refine (res_at _ _ qr.out).mono ?_; rintro e w' ⟨rfl, rfl⟩))
        go_ret
        exact ⟨ret_bool (by rw [HV.out]; rfl), rfl⟩
      · go_enter Tryz.func69, Tryz.ntmps69
        go_wp2_with (first | (go_at_call 110; refine (word_at _ _ hs qw.out).mono ?_; rintro e w' ⟨rfl, rfl⟩) | (go_at_call 111; refine (low_at _ _ ql.out).mono ?_; rintro e w' ⟨rfl, rfl⟩) | (go_at_call 112; refine (res_at _ _ qr.out).mono ?_; rintro e w' ⟨rfl, rfl⟩))
        go_ret
        exact ⟨ret_bool (by rw [HV.out]; rfl), rfl⟩
set_option maxHeartbeats 1000000 in
theorem ref_right_at (s : ByteArray) (w : World) (hs : s.size ≤ 9223372036854775807) {r : Bool} (hr : rightB s.data.toList = r) :
    Calls Tryz.prog 41 #[.string s] w fun e w' => e = .returned (.bool r) ∧ w = w' := by
  subst hr
  obtain ⟨b1, hb1⟩ : ∃ b, wordB s.data.toList = b := ⟨_, rfl⟩
  have qw := Lib.hid hb1
  cases b1
  · have HV := Lib.hid (show rightB s.data.toList = false by unfold rightB; rw [hb1]; rfl)
    clear hb1
    go_enter Tryz.func41, Tryz.ntmps41
    go_wp2_with (go_at_call 77; refine (ref_word_at _ _ hs qw.out).mono ?_; rintro e w' ⟨rfl, rfl⟩)
    go_ret
    exact ⟨ret_bool (by rw [HV.out]), rfl⟩
  · have h0 := word_size hb1
    obtain ⟨b2, hb2⟩ : ∃ b, lowB s[0] = b := ⟨_, rfl⟩
    obtain ⟨b3, hb3⟩ : ∃ b, resB s.data.toList = b := ⟨_, rfl⟩
    have HV := Lib.hid (show rightB s.data.toList = (b2 && !b3) by unfold rightB; rw [hb1, head_at h0, hb2, hb3]; rfl)
    have ql := Lib.hid hb2
    have qr := Lib.hid hb3
    clear hb1 hb2 hb3
    cases b2
    · go_enter Tryz.func41, Tryz.ntmps41
      go_wp2_with (first | (go_at_call 77; refine (ref_word_at _ _ hs qw.out).mono ?_; rintro e w' ⟨rfl, rfl⟩) | (go_at_call 78; refine (ref_low_at _ _ ql.out).mono ?_; rintro e w' ⟨rfl, rfl⟩) | (go_at_call 79; refine (ref_res_at _ _ qr.out).mono ?_; rintro e w' ⟨rfl, rfl⟩))
      go_ret
      exact ⟨ret_bool (by rw [HV.out]; rfl), rfl⟩
    · cases b3
      · go_enter Tryz.func41, Tryz.ntmps41
        go_wp2_with (first | (go_at_call 77; refine (ref_word_at _ _ hs qw.out).mono ?_; rintro e w' ⟨rfl, rfl⟩) | (go_at_call 78; refine (ref_low_at _ _ ql.out).mono ?_; rintro e w' ⟨rfl, rfl⟩) | (go_at_call 79; refine (ref_res_at _ _ qr.out).mono ?_; rintro e w' ⟨rfl, rfl⟩))
        go_ret
        exact ⟨ret_bool (by rw [HV.out]; rfl), rfl⟩
      · go_enter Tryz.func41, Tryz.ntmps41
        go_wp2_with (first | (go_at_call 77; refine (ref_word_at _ _ hs qw.out).mono ?_; rintro e w' ⟨rfl, rfl⟩) | (go_at_call 78; refine (ref_low_at _ _ ql.out).mono ?_; rintro e w' ⟨rfl, rfl⟩) | (go_at_call 79; refine (ref_res_at _ _ qr.out).mono ?_; rintro e w' ⟨rfl, rfl⟩))
        go_ret
        exact ⟨ret_bool (by rw [HV.out]; rfl), rfl⟩
end Go.Proofs.YtnghanpmmbcbbaaGreatDoor
namespace Go.Proofs.YtnghanpmmbcbbaaGreatDoor
open Go.RowKit
theorem empty_iff (s : ByteArray) : s.toList.isEmpty = decide (s.size = 0) := by
  rw [raw_list, Bool.eq_iff_iff, List.isEmpty_iff, decide_eq_true_eq, ← List.length_eq_zero_iff, len_str]
theorem plain_at (t : Tm) (w : World) (ht : t.args.length ≤ 9223372036854775807) {r : Bool} (hr : plainB t = r) :
    Calls Tryz.prog 222 #[t.val] w fun e w' => e = .returned (.bool r) ∧ Below w.heap.size w w' := by
  obtain ⟨k, n, s, A, c, a⟩ := t
  show Calls Tryz.prog 222 #[.agg #[.int .i64 k, .int .i64 n, .string s, .slice A a.length c]] w _
  have HR := Lib.hid hr
  clear hr
  simp only [Tm.args] at ht
  obtain ⟨b1, hb1⟩ : ∃ b, decide (s.size = 0) = b := ⟨_, rfl⟩
  obtain ⟨b2, hb2⟩ : ∃ b, decide (a.length = 0) = b := ⟨_, rfl⟩
  have HV := Lib.hid (show (b1 && b2) = r by rw [← hb1, ← hb2]; exact HR.out)
  have e1 : s.toList.isEmpty = b1 := by rw [empty_iff, hb1]
  have e2 : ((a.length : Int) == 0) = b2 := by rw [← hb2, Bool.eq_iff_iff]; simp
  clear HR hb1 hb2
  cases b1
  · clear e2
    go_enter Tryz.func222, Tryz.ntmps222
    go_wp2_with fail
    go_ret
    exact ⟨by rw [← HV.out]; rfl, (Below.refl _ _).alloc (Nat.le_refl _) _⟩
  · cases b2
    · go_enter Tryz.func222, Tryz.ntmps222
      go_wp2_with fail
      go_ret
      exact ⟨by rw [← HV.out]; rfl, (Below.refl _ _).alloc (Nat.le_refl _) _⟩
    · go_enter Tryz.func222, Tryz.ntmps222
      go_wp2_with fail
      go_ret
      exact ⟨by rw [← HV.out]; rfl, (Below.refl _ _).alloc (Nat.le_refl _) _⟩
theorem func_at (s : ByteArray) (n : Nat) (w : World) (hs : s.size ≤ 9223372036854775807) (hn : n ≤ 9223372036854775807) {r : Bool} (hr : funcB s.data.toList n = r) :
    Calls Tryz.prog 223 #[.string s, .int .i64 (n : Int)] w fun e w' => e = .returned (.bool r) ∧ w = w' := by
  have HR := Lib.hid hr
  clear hr
  obtain ⟨b1, hb1⟩ : ∃ b, opB s.data.toList = b := ⟨_, rfl⟩
  have q1 := Lib.hid (op_at s w hb1)
  cases b1
  · obtain ⟨b2, hb2⟩ : ∃ b, rightB s.data.toList = b := ⟨_, rfl⟩
    have q2 := Lib.hid (right_at s w hs hb2)
    by_cases h6 : n ≤ 6
    · have h6' : (n : Int) ≤ 6 := by omega
      have HV := Lib.hid (show b2 = r by rw [← HR.out]; simp [funcB, hb1, hb2, h6])
      clear hb1 hb2 HR h6
      go_enter Tryz.func223, Tryz.ntmps223
      go_wp2_with fail
      refine q1.out.mono ?_
      rintro e w' ⟨rfl, rfl⟩
      go_wp2_with fail
      refine q2.out.mono ?_
      rintro e w' ⟨rfl, rfl⟩
      go_wp2_with fail
      go_ret
      exact ⟨by rw [← HV.out]; rfl, rfl⟩
    · have h6' : decide ((n : Int) ≤ 6) = false := by simp; omega
      have HV := Lib.hid (show false = r by rw [← HR.out]; simp [funcB, hb1, h6])
      clear hb1 hb2 HR h6
      go_enter Tryz.func223, Tryz.ntmps223
      go_wp2_with fail
      refine q1.out.mono ?_
      rintro e w' ⟨rfl, rfl⟩
      go_wp2_with fail
      go_ret
      exact ⟨by rw [← HV.out]; rfl, rfl⟩
  · obtain ⟨b2, hb2⟩ : ∃ b, ((n : Int) == 2) = b := ⟨_, rfl⟩
    have HV := Lib.hid (show b2 = r by rw [← HR.out, ← hb2, Bool.eq_iff_iff]; simp [funcB, hb1]; omega)
    clear hb1 HR
    cases b2
    all_goals
      go_enter Tryz.func223, Tryz.ntmps223
      go_wp2_with fail
      refine q1.out.mono ?_
      rintro e w' ⟨rfl, rfl⟩
      go_wp2_with fail
      go_ret
      exact ⟨by rw [← HV.out]; rfl, rfl⟩
end Go.Proofs.YtnghanpmmbcbbaaGreatDoor
namespace Go.Proofs.YtnghanpmmbcbbaaGreatDoor
open Go.RowKit Go.Sort
theorem boxed4 (w : World) (v0 v1 v2 v3 : Value) (T : TypeId) :
    (∀ d os, (grow (redrawn (w.alloc (.cells #[v0, v1, v2, v3] T)) d) os).cell? ⟨w.heap.size, 0, none⟩ = some v0) ∧ (∀ d os, (grow (redrawn (w.alloc (.cells #[v0, v1, v2, v3] T)) d) os).cell? ⟨w.heap.size, 1, none⟩ = some v1) ∧
    (∀ d os, (grow (redrawn (w.alloc (.cells #[v0, v1, v2, v3] T)) d) os).cell? ⟨w.heap.size, 2, none⟩ = some v2) ∧ (∀ d os, (grow (redrawn (w.alloc (.cells #[v0, v1, v2, v3] T)) d) os).cell? ⟨w.heap.size, 3, none⟩ = some v3) := by
  have h : ∀ j v, (#[v0, v1, v2, v3] : Array Value)[j]? = some v → (w.alloc (.cells #[v0, v1, v2, v3] T)).cell? ⟨w.heap.size, j, none⟩ = some v := fun j v hv => by rw [World.cell?_alloc_at _ _ _ _ rfl, hv]
  exact ⟨cell_regrown (h 0 v0 rfl), cell_regrown (h 1 v1 rfl), cell_regrown (h 2 v2 rfl), cell_regrown (h 3 v3 rfl)⟩
def FitAt (x : Tm) : Prop := ∀ (nodes depth : Nat) (w : World), x.At w → nodes ≤ 1000 → depth ≤ 1000 →
    Calls Tryz.prog 209 #[x.val, .int .i64 (nodes : Int), .int .i64 (depth : Int)] w fun e w' => e = .returned (.tuple #[.int .i64 (x.fit nodes depth).1, .bool (x.fit nodes depth).2]) ∧ Below w.heap.size w w'
set_option maxHeartbeats 1000000 in
theorem fitL_at (l : List Tm) (ih : ∀ x ∈ l, FitAt x) (A : Option Addr) (c nodes depth : Nat) (w : World) (hl : Lst w A l c) (hn : nodes ≤ 1000) (hd : depth ≤ 1000) :
    Calls Tryz.prog 183 #[.slice A l.length c, .int .i64 (nodes : Int), .int .i64 (depth : Int)] w fun e w' =>
      e = .returned (.tuple #[.int .i64 (fitL l nodes depth).1, .bool (fitL l nodes depth).2]) ∧ Below w.heap.size w w' := by
  have hlen : l.length ≤ 9223372036854775807 := by have := hl.1; have := hl.2.1; unfold maxLen at *; omega
  have QI := Lib.hid ih
  clear ih
  go_enter Tryz.func183, Tryz.ntmps183
  go_wp2_with fail
  go_loopw [6, 13] (fun z i wr => ∃ j m : Nat, j ≤ l.length ∧ i = .int .i64 j ∧ z = .int .i64 (m : Int) ∧ m ≤ 1000 ∧ Hid (fitL (l.take j) nodes depth = ((m : Int), true)) ∧ Below w.heap.size w wr) (fun _ i _ => l.length - (intOf i).toNat)
  case atStart => exact ⟨0, nodes, Nat.zero_le _, rfl, rfl, hn, Lib.hid rfl, Below.refl _ _⟩
  case round =>
    obtain ⟨j, m, hj, rfl, rfl, hm, HF, hb⟩ := hrel
    by_cases hlt : j < l.length
    · obtain ⟨b, o, rfl, ⟨c0, c1, c2, c3⟩, hx⟩ := (hl.below hb).get hlt
      have hmem := getD_mem hlt
      have HN := Lib.hid (fitL_next hlt (nodes : Int) (depth : Int) (by rw [HF.out]))
      have HS := Lib.hid (fun h => fitL_stop hlt (nodes : Int) (depth : Int) (by rw [HF.out]) h)
      rw [HF.out] at HN HS
      generalize l.getD j default = x at *
      have Q1 := Lib.hid (QI.out x hmem m depth)
      have HX := Lib.hid hx
      clear hx QI hmem
      obtain ⟨p, hp⟩ : ∃ p, x.fit m depth = p := ⟨_, rfl⟩
      have HT := Lib.hid (fun h => fit_nat (t := x) (nodes := m) (depth := depth) h)
      rw [hp] at HN HS Q1 HT
      clear hp
      obtain ⟨z, b2⟩ := p
      obtain ⟨k', n', s', A', c', a'⟩ := x
      simp only [Tm.kind, Tm.num, Tm.name, Tm.at_, Tm.args, Tm.cap] at c0 c1 c2 c3
      cases b2
      · go_wp2_with fail
        refine (Q1.out _ (HX.out.alloc _) hm hd).mono ?_
        rintro e w2 ⟨rfl, hb3⟩
        go_wp2_with fail
        go_ret2
        refine ⟨?_, (hb.alloc hb.size _).trans (hb3.mono (by have := hb.size; simp; omega))⟩
        rw [HS.out True.intro]
        rfl
      · obtain ⟨m', hm', hle⟩ := HT.out rfl
        obtain rfl : z = (m' : Int) := hm'
        clear HT HS
        go_wp2_with fail
        refine (Q1.out _ (HX.out.alloc _) hm hd).mono ?_
        rintro e w2 ⟨rfl, hb3⟩
        go_wp2_with fail
        go_roundw
        case rel => exact ⟨j + 1, m', by omega, by go_num, rfl, by omega, Lib.hid (by rw [HN.out]; rfl), (hb.alloc hb.size _).trans (hb3.mono (by have := hb.size; simp; omega))⟩
        case measure => simp [intOf]; omega
    · obtain rfl : j = l.length := by omega
      have HE := Lib.hid (show fitL l nodes depth = ((m : Int), true) by rw [← HF.out, List.take_length])
      clear HF
      go_wp2_with fail
      go_ret2
      refine ⟨?_, hb⟩
      rw [HE.out]
      rfl
theorem tuple_fit (z : Int) (b : Bool) (p : Int × Bool) (h : p = (z, b)) : Ending.returned (.tuple #[.int .i64 z, .bool b]) = .returned (.tuple #[.int .i64 p.1, .bool p.2]) := by rw [h]
set_option maxHeartbeats 1000000 in
theorem fit_at (t : Tm) : FitAt t := by
  induction t using Tm.induct with
  | h k n s A c a ih0 =>
    intro nodes depth w hat hn hd
    have hl := hat.lst
    have hsz : s.size ≤ 9223372036854775807 := by have := ((At_iff _ _).1 hat).1.2.2; unfold maxLen at this; exact this
    have hlen : a.length ≤ 9223372036854775807 := by have := hl.1; have := hl.2.1; simp only [Tm.args, Tm.cap] at *; unfold maxLen at *; omega
    show Calls Tryz.prog 209 #[.agg #[.int .i64 k, .int .i64 n, .string s, .slice A a.length c], .int .i64 (nodes : Int), .int .i64 (depth : Int)] w _
    by_cases hn0 : nodes = 0
    · have HV := Lib.hid (show (Tm.mk k n s A c a).fit nodes depth = (0, false) by subst hn0; simp [Tm.fit])
      have e0 : ((nodes : Int) == 0) = true := by simp [hn0]
      clear hn0 ih0 hl
      go_enter Tryz.func209, Tryz.ntmps209
      go_wp2_with fail
      go_ret2
      exact ⟨tuple_fit _ _ _ HV.out, (Below.refl _ _).alloc (Nat.le_refl _) _⟩
    have e0 : ((nodes : Int) == 0) = false := by simp [hn0]
    by_cases hd0 : depth = 0
    · have HV := Lib.hid (show (Tm.mk k n s A c a).fit nodes depth = (0, false) by subst hd0; simp [Tm.fit])
      have e1 : ((depth : Int) == 0) = true := by simp [hd0]
      clear hd0 ih0 hl
      go_enter Tryz.func209, Tryz.ntmps209
      go_wp2_with fail
      go_ret2
      exact ⟨tuple_fit _ _ _ HV.out, (Below.refl _ _).alloc (Nat.le_refl _) _⟩
    have e1 : ((depth : Int) == 0) = false := by simp [hd0]
    have hg : ¬ ((nodes : Int) = 0 ∨ (depth : Int) = 0) := by omega
    by_cases hk0 : k = 0
    · subst hk0
      clear ih0 hl
      obtain ⟨b1, hb1⟩ : ∃ b, plainB (.mk 0 n s A c a) = b := ⟨_, rfl⟩
      have q1 := Lib.hid (fun W => plain_at (.mk 0 n s A c a) W hlen hb1)
      have HV0 : (Tm.mk 0 n s A c a).fit nodes depth = ((nodes : Int) - 1, b1 && (decide (-2147483648 ≤ n) && decide (n ≤ 2147483648))) := by
        simp only [Tm.fit]
        rw [if_neg hg, hb1]
        simp
      clear hb1
      cases b1
      · have HV := Lib.hid HV0
        clear HV0
        go_enter Tryz.func209, Tryz.ntmps209
        go_wp2_with fail
        have kb := boxed4 w (.int .i64 0) (.int .i64 n) (.string s) (.slice A a.length c) 69
        obtain ⟨kb0, kb1, kb2, kb3⟩ := kb
        refine wp_region_quiet_below (by kernel_rfl) (by kernel_rfl) ?_
        repeat (go_big_quiet_step ((go_at_call 222; exact Calls.regrown_of (q1.out _))))
        refine wpQuiet_nil ?_
        intro _ hw'
        obtain ⟨⟨nd, nos⟩, hw''⟩ := hw'
        subst hw''
        go_wp2_with fail
        go_ret2
        exact ⟨tuple_fit _ _ _ HV.out, ((Below.refl _ _).alloc (Nat.le_refl _) _).trans ((below_regrown _ nd nos).mono (by simp))⟩
      · by_cases h1 : -2147483648 ≤ n
        · by_cases h2 : n ≤ 2147483648
          · have HV := Lib.hid (show (Tm.mk 0 n s A c a).fit nodes depth = ((nodes : Int) - 1, true) by rw [HV0]; simp [h1, h2])
            clear HV0
            go_enter Tryz.func209, Tryz.ntmps209
            go_wp2_with fail
            have kb := boxed4 w (.int .i64 0) (.int .i64 n) (.string s) (.slice A a.length c) 69
            obtain ⟨kb0, kb1, kb2, kb3⟩ := kb
            refine wp_region_quiet_below (by kernel_rfl) (by kernel_rfl) ?_
            repeat (go_big_quiet_step ((go_at_call 222; exact Calls.regrown_of (q1.out _))))
            refine wpQuiet_nil ?_
            intro _ hw'
            obtain ⟨⟨nd, nos⟩, hw''⟩ := hw'
            subst hw''
            go_wp2_with fail
            go_ret2
            exact ⟨tuple_fit _ _ _ HV.out, ((Below.refl _ _).alloc (Nat.le_refl _) _).trans ((below_regrown _ nd nos).mono (by simp))⟩
          · have HV := Lib.hid (show (Tm.mk 0 n s A c a).fit nodes depth = ((nodes : Int) - 1, false) by rw [HV0]; simp [h1, h2])
            have h2' : decide (n ≤ 2147483648) = false := by simpa using h2
            clear HV0 h2
            go_enter Tryz.func209, Tryz.ntmps209
            go_wp2_with fail
            have kb := boxed4 w (.int .i64 0) (.int .i64 n) (.string s) (.slice A a.length c) 69
            obtain ⟨kb0, kb1, kb2, kb3⟩ := kb
            refine wp_region_quiet_below (by kernel_rfl) (by kernel_rfl) ?_
            repeat (go_big_quiet_step ((go_at_call 222; exact Calls.regrown_of (q1.out _))))
            refine wpQuiet_nil ?_
            intro _ hw'
            obtain ⟨⟨nd, nos⟩, hw''⟩ := hw'
            subst hw''
            go_wp2_with fail
            go_ret2
            exact ⟨tuple_fit _ _ _ HV.out, ((Below.refl _ _).alloc (Nat.le_refl _) _).trans ((below_regrown _ nd nos).mono (by simp))⟩
        · have HV := Lib.hid (show (Tm.mk 0 n s A c a).fit nodes depth = ((nodes : Int) - 1, false) by rw [HV0]; simp [h1])
          have h1' : decide (-2147483648 ≤ n) = false := by simpa using h1
          clear HV0 h1
          go_enter Tryz.func209, Tryz.ntmps209
          go_wp2_with fail
          have kb := boxed4 w (.int .i64 0) (.int .i64 n) (.string s) (.slice A a.length c) 69
          obtain ⟨kb0, kb1, kb2, kb3⟩ := kb
          refine wp_region_quiet_below (by kernel_rfl) (by kernel_rfl) ?_
          repeat (go_big_quiet_step ((go_at_call 222; exact Calls.regrown_of (q1.out _))))
          refine wpQuiet_nil ?_
          intro _ hw'
          obtain ⟨⟨nd, nos⟩, hw''⟩ := hw'
          subst hw''
          go_wp2_with fail
          go_ret2
          exact ⟨tuple_fit _ _ _ HV.out, ((Below.refl _ _).alloc (Nat.le_refl _) _).trans ((below_regrown _ nd nos).mono (by simp))⟩
    have k0 : (k == 0) = false := by simp [hk0]
    by_cases hk1 : k = 1
    · subst hk1
      clear ih0 hl
      obtain ⟨b1, hb1⟩ : ∃ b, plainB (.mk 1 n s A c a) = b := ⟨_, rfl⟩
      have q1 := Lib.hid (fun W => plain_at (.mk 1 n s A c a) W hlen hb1)
      have HV0 : (Tm.mk 1 n s A c a).fit nodes depth = ((nodes : Int) - 1, b1 && (decide (0 ≤ n) && decide (n ≤ 1048576))) := by
        simp only [Tm.fit]
        rw [if_neg hg, hb1]
        simp
      clear hb1
      cases b1
      · have HV := Lib.hid HV0
        clear HV0
        go_enter Tryz.func209, Tryz.ntmps209
        go_wp2_with fail
        have kb := boxed4 w (.int .i64 1) (.int .i64 n) (.string s) (.slice A a.length c) 69
        obtain ⟨kb0, kb1, kb2, kb3⟩ := kb
        refine wp_region_quiet_below (by kernel_rfl) (by kernel_rfl) ?_
        repeat (go_big_quiet_step ((go_at_call 222; exact Calls.regrown_of (q1.out _))))
        refine wpQuiet_nil ?_
        intro _ hw'
        obtain ⟨⟨nd, nos⟩, hw''⟩ := hw'
        subst hw''
        go_wp2_with fail
        go_ret2
        exact ⟨tuple_fit _ _ _ HV.out, ((Below.refl _ _).alloc (Nat.le_refl _) _).trans ((below_regrown _ nd nos).mono (by simp))⟩
      · by_cases h1 : 0 ≤ n
        · by_cases h2 : n ≤ 1048576
          · have HV := Lib.hid (show (Tm.mk 1 n s A c a).fit nodes depth = ((nodes : Int) - 1, true) by rw [HV0]; simp [h1, h2])
            clear HV0
            go_enter Tryz.func209, Tryz.ntmps209
            go_wp2_with fail
            have kb := boxed4 w (.int .i64 1) (.int .i64 n) (.string s) (.slice A a.length c) 69
            obtain ⟨kb0, kb1, kb2, kb3⟩ := kb
            refine wp_region_quiet_below (by kernel_rfl) (by kernel_rfl) ?_
            repeat (go_big_quiet_step ((go_at_call 222; exact Calls.regrown_of (q1.out _))))
            refine wpQuiet_nil ?_
            intro _ hw'
            obtain ⟨⟨nd, nos⟩, hw''⟩ := hw'
            subst hw''
            go_wp2_with fail
            go_ret2
            exact ⟨tuple_fit _ _ _ HV.out, ((Below.refl _ _).alloc (Nat.le_refl _) _).trans ((below_regrown _ nd nos).mono (by simp))⟩
          · have HV := Lib.hid (show (Tm.mk 1 n s A c a).fit nodes depth = ((nodes : Int) - 1, false) by rw [HV0]; simp [h1, h2])
            have h2' : decide (n ≤ 1048576) = false := by simpa using h2
            clear HV0 h2
            go_enter Tryz.func209, Tryz.ntmps209
            go_wp2_with fail
            have kb := boxed4 w (.int .i64 1) (.int .i64 n) (.string s) (.slice A a.length c) 69
            obtain ⟨kb0, kb1, kb2, kb3⟩ := kb
            refine wp_region_quiet_below (by kernel_rfl) (by kernel_rfl) ?_
            repeat (go_big_quiet_step ((go_at_call 222; exact Calls.regrown_of (q1.out _))))
            refine wpQuiet_nil ?_
            intro _ hw'
            obtain ⟨⟨nd, nos⟩, hw''⟩ := hw'
            subst hw''
            go_wp2_with fail
            go_ret2
            exact ⟨tuple_fit _ _ _ HV.out, ((Below.refl _ _).alloc (Nat.le_refl _) _).trans ((below_regrown _ nd nos).mono (by simp))⟩
        · have HV := Lib.hid (show (Tm.mk 1 n s A c a).fit nodes depth = ((nodes : Int) - 1, false) by rw [HV0]; simp [h1])
          have h1' : decide (0 ≤ n) = false := by simpa using h1
          clear HV0 h1
          go_enter Tryz.func209, Tryz.ntmps209
          go_wp2_with fail
          have kb := boxed4 w (.int .i64 1) (.int .i64 n) (.string s) (.slice A a.length c) 69
          obtain ⟨kb0, kb1, kb2, kb3⟩ := kb
          refine wp_region_quiet_below (by kernel_rfl) (by kernel_rfl) ?_
          repeat (go_big_quiet_step ((go_at_call 222; exact Calls.regrown_of (q1.out _))))
          refine wpQuiet_nil ?_
          intro _ hw'
          obtain ⟨⟨nd, nos⟩, hw''⟩ := hw'
          subst hw''
          go_wp2_with fail
          go_ret2
          exact ⟨tuple_fit _ _ _ HV.out, ((Below.refl _ _).alloc (Nat.le_refl _) _).trans ((below_regrown _ nd nos).mono (by simp))⟩
    have k1 : (k == 1) = false := by simp [hk1]
    by_cases hk2 : k = 2
    · subst hk2
      by_cases hn1 : n = 0
      · subst hn1
        obtain ⟨b1, hb1⟩ : ∃ b, funcB s.data.toList a.length = b := ⟨_, rfl⟩
        have q1 := Lib.hid (fun W => func_at s a.length W hsz hlen hb1)
        have hn' : (nodes : Int) - 1 = ((nodes - 1 : Nat) : Int) := by omega
        have hd' : (depth : Int) - 1 = ((depth - 1 : Nat) : Int) := by omega
        cases b1
        · have HV := Lib.hid (show (Tm.mk 2 0 s A c a).fit nodes depth = (0, false) by simp only [Tm.fit]; rw [if_neg hg, hb1]; simp)
          clear ih0 hl hb1 hn' hd'
          go_enter Tryz.func209, Tryz.ntmps209
          go_wp2_with fail
          refine (q1.out _).mono ?_
          rintro e w' ⟨rfl, rfl⟩
          go_wp2_with fail
          go_ret2
          exact ⟨tuple_fit _ _ _ HV.out, (Below.refl _ _).alloc (Nat.le_refl _) _⟩
        · have HV := Lib.hid (show (Tm.mk 2 0 s A c a).fit nodes depth = fitL a ((nodes : Int) - 1) ((depth : Int) - 1) by simp only [Tm.fit]; rw [if_neg hg, hb1]; simp)
          have q2 := Lib.hid (fun W h => fitL_at a ih0 A c (nodes - 1) (depth - 1) W h (by omega) (by omega))
          rw [← hn', ← hd'] at q2
          have HL := Lib.hid (show Lst (w.alloc (.cells #[.int .i64 2, .int .i64 0, .string s, .slice A a.length c] 69)) A a c from hl.below ((Below.refl _ _).alloc (Nat.le_refl _) _))
          clear ih0 hl hb1 hn' hd'
          go_enter Tryz.func209, Tryz.ntmps209
          go_wp2_with fail
          refine (q1.out _).mono ?_
          rintro e w' ⟨rfl, rfl⟩
          go_wp2_with fail
          refine (q2.out _ HL.out).mono ?_
          rintro e w2 ⟨rfl, hb2⟩
          go_wp2_with fail
          go_ret2
          refine ⟨?_, ((Below.refl _ _).alloc (Nat.le_refl _) _).trans (hb2.mono (by simp))⟩
          rw [HV.out]
          rfl
      · have HV := Lib.hid (show (Tm.mk 2 n s A c a).fit nodes depth = (0, false) by simp only [Tm.fit]; rw [if_neg hg]; simp [hn1])
        have hn1' : (n != 0) = true := by simp [hn1]
        clear ih0 hl
        go_enter Tryz.func209, Tryz.ntmps209
        go_wp2_with fail
        go_ret2
        exact ⟨tuple_fit _ _ _ HV.out, (Below.refl _ _).alloc (Nat.le_refl _) _⟩
    · have HV := Lib.hid (show (Tm.mk k n s A c a).fit nodes depth = (0, false) by simp only [Tm.fit]; rw [if_neg hg]; simp [hk0, hk1, hk2])
      have k2 : (k == 2) = false := by simp [hk2]
      clear ih0 hl
      go_enter Tryz.func209, Tryz.ntmps209
      go_wp2_with fail
      go_ret2
      exact ⟨tuple_fit _ _ _ HV.out, (Below.refl _ _).alloc (Nat.le_refl _) _⟩
end Go.Proofs.YtnghanpmmbcbbaaGreatDoor
namespace Go.Proofs.YtnghanpmmbcbbaaGreatDoor
open Go.RowKit
theorem args_at (t : Tm) (w : World) :
    Calls Tryz.prog 103 #[t.val] w fun e w' => e = .returned (.slice t.uat t.used.length t.ucap) ∧ Below w.heap.size w w' := by
  obtain ⟨k, n, s, A, c, a⟩ := t
  show Calls Tryz.prog 103 #[.agg #[.int .i64 k, .int .i64 n, .string s, .slice A a.length c]] w _
  by_cases hk : k = 2
  · have HV := Lib.hid (show (Tm.mk k n s A c a).uat = A ∧ (Tm.mk k n s A c a).used = a ∧ (Tm.mk k n s A c a).ucap = c by simp [Tm.uat, Tm.used, Tm.ucap, Tm.kind, Tm.at_, Tm.args, Tm.cap, hk])
    have hk' : (k == 2) = true := by simp [hk]
    clear hk
    go_enter Tryz.func103, Tryz.ntmps103
    go_wp2
    go_ret
    obtain ⟨h1, h2, h3⟩ := HV.out
    exact ⟨by rw [h1, h2, h3]; rfl, (Below.refl _ _).alloc (Nat.le_refl _) _⟩
  · have HV := Lib.hid (show (Tm.mk k n s A c a).uat = none ∧ (Tm.mk k n s A c a).used = [] ∧ (Tm.mk k n s A c a).ucap = 0 by simp [Tm.uat, Tm.used, Tm.ucap, Tm.kind, hk])
    have hk' : (k == 2) = false := by simp [hk]
    clear hk
    go_enter Tryz.func103, Tryz.ntmps103
    go_wp2
    go_ret
    obtain ⟨h1, h2, h3⟩ := HV.out
    exact ⟨by rw [h1, h2, h3]; rfl, (Below.refl _ _).alloc (Nat.le_refl _) _⟩
set_option maxHeartbeats 1000000 in
theorem ref_size_at (t : Tm) : ∀ w : World, t.At w → t.size ≤ 1000000 →
    Calls Tryz.prog 155 #[t.val] w fun e w' => e = .returned (.int .i64 (t.size : Int)) ∧ Below w.heap.size w w' := by
  induction t using Tm.induct with
  | h k n s A c a ih0 =>
    intro w hat hs
    have hl := hat.ulst
    have hsz := size_used (.mk k n s A c a)
    have ih : ∀ x ∈ (Tm.mk k n s A c a).used, ∀ w : World, x.At w → x.size ≤ 1000000 → Calls Tryz.prog 155 #[x.val] w fun e w' => e = .returned (.int .i64 (x.size : Int)) ∧ Below w.heap.size w w' := by
      unfold Tm.used
      split
      · exact ih0
      · intro x hx; cases hx
    have qa := Lib.hid (args_at (.mk k n s A c a))
    rw [hsz] at hs ⊢
    clear hat ih0 hsz
    generalize (Tm.mk k n s A c a).used = l at *
    generalize (Tm.mk k n s A c a).uat = U at *
    generalize (Tm.mk k n s A c a).ucap = q at *
    have QI := Lib.hid ih
    clear ih
    have hlen : l.length ≤ 9223372036854775807 := by have := hl.1; have := hl.2.1; unfold maxLen at *; omega
    show Calls Tryz.prog 155 #[.agg #[.int .i64 k, .int .i64 n, .string s, .slice A a.length c]] w _
    go_enter Tryz.func155, Tryz.ntmps155
    go_wp2_with fail
    refine (qa.out _).mono ?_
    rintro e w1 ⟨rfl, hb1⟩
    go_wp2_with fail
    have hb2 : Below w.heap.size w w1 := ((Below.refl _ _).alloc (Nat.le_refl _) _).trans (hb1.mono (by simp))
    clear hb1
    go_loopw [3, 5] (fun z i wr => ∃ j : Nat, j ≤ l.length ∧ i = .int .i64 j ∧ z = .int .i64 ((1 + sizeL (l.take j) : Nat) : Int) ∧ Below w.heap.size w wr) (fun _ i _ => l.length - (intOf i).toNat)
    case atStart => exact ⟨0, Nat.zero_le _, rfl, rfl, hb2⟩
    case round =>
      obtain ⟨j, hj, rfl, rfl, hb⟩ := hrel
      by_cases hlt : j < l.length
      · obtain ⟨b, o, rfl, ⟨c0, c1, c2, c3⟩, hx⟩ := (hl.below hb).get hlt
        have hm := getD_mem hlt
        have hn := sizeL_next hlt
        have ht := sizeL_take l (j + 1)
        have ht' := sizeL_take l j
        generalize l.getD j default = x at *
        have q1 := QI.out x hm
        obtain ⟨k', n', s', A', c', a'⟩ := x
        simp only [Tm.kind, Tm.num, Tm.name, Tm.at_, Tm.args, Tm.cap] at c0 c1 c2 c3
        have hB : sizeL (l.take j) + (Tm.mk k' n' s' A' c' a').size ≤ sizeL l := by omega
        have HN := Lib.hid hn
        clear hn
        have Q1 := Lib.hid q1
        have HX := Lib.hid hx
        clear q1 hx QI qa
        go_wp2_with fail
        refine (Q1.out _ (HX.out) (by omega)).mono ?_
        rintro e w2 ⟨rfl, hb3⟩
        go_wp2_with fail
        go_roundw
        case rel => exact ⟨j + 1, by omega, by go_num, by rw [HN.out]; go_num, hb.trans (hb3.mono hb.size)⟩
        case measure => simp [intOf]; omega
      · obtain rfl : j = l.length := by omega
        go_wp2_with fail
        go_ret
        exact ⟨by rw [List.take_length]; rfl, hb⟩
set_option maxHeartbeats 1000000 in
theorem ref_depth_at (t : Tm) : ∀ w : World, t.At w → t.depth ≤ 1000000 →
    Calls Tryz.prog 185 #[t.val] w fun e w' => e = .returned (.int .i64 (t.depth : Int)) ∧ Below w.heap.size w w' := by
  induction t using Tm.induct with
  | h k n s A c a ih0 =>
    intro w hat hs
    have hl := hat.ulst
    have hsz := depth_used (.mk k n s A c a)
    have ih : ∀ x ∈ (Tm.mk k n s A c a).used, ∀ w : World, x.At w → x.depth ≤ 1000000 → Calls Tryz.prog 185 #[x.val] w fun e w' => e = .returned (.int .i64 (x.depth : Int)) ∧ Below w.heap.size w w' := by
      unfold Tm.used
      split
      · exact ih0
      · intro x hx; cases hx
    have qa := Lib.hid (args_at (.mk k n s A c a))
    rw [hsz] at hs ⊢
    clear hat ih0 hsz
    generalize (Tm.mk k n s A c a).used = l at *
    generalize (Tm.mk k n s A c a).uat = U at *
    generalize (Tm.mk k n s A c a).ucap = q at *
    have QI := Lib.hid ih
    clear ih
    have hlen : l.length ≤ 9223372036854775807 := by have := hl.1; have := hl.2.1; unfold maxLen at *; omega
    show Calls Tryz.prog 185 #[.agg #[.int .i64 k, .int .i64 n, .string s, .slice A a.length c]] w _
    go_enter Tryz.func185, Tryz.ntmps185
    go_wp2_with fail
    refine (qa.out _).mono ?_
    rintro e w1 ⟨rfl, hb1⟩
    go_wp2_with fail
    have hb2 : Below w.heap.size w w1 := ((Below.refl _ _).alloc (Nat.le_refl _) _).trans (hb1.mono (by simp))
    clear hb1
    go_loopw [3, 5] (fun z i wr => ∃ j : Nat, j ≤ l.length ∧ i = .int .i64 j ∧ z = .int .i64 ((depthL (l.take j) : Nat) : Int) ∧ Below w.heap.size w wr) (fun _ i _ => l.length - (intOf i).toNat)
    case atStart => exact ⟨0, Nat.zero_le _, rfl, rfl, hb2⟩
    case round =>
      obtain ⟨j, hj, rfl, rfl, hb⟩ := hrel
      by_cases hlt : j < l.length
      · obtain ⟨b, o, rfl, ⟨c0, c1, c2, c3⟩, hx⟩ := (hl.below hb).get hlt
        have hm := getD_mem hlt
        have hn := depthL_next hlt
        have ht := depthL_take l (j + 1)
        have ht' := depthL_take l j
        generalize l.getD j default = x at *
        have q1 := QI.out x hm
        obtain ⟨k', n', s', A', c', a'⟩ := x
        simp only [Tm.kind, Tm.num, Tm.name, Tm.at_, Tm.args, Tm.cap] at c0 c1 c2 c3
        have hB : (Tm.mk k' n' s' A' c' a').depth ≤ depthL l := by omega
        have HN := Lib.hid hn
        clear hn
        have Q1 := Lib.hid q1
        have HX := Lib.hid hx
        clear q1 hx QI qa
        go_wp2_with fail
        refine (Q1.out _ (HX.out) (by omega)).mono ?_
        rintro e w2 ⟨rfl, hb3⟩
        go_wp2_with fail
        go_roundw
        case rel => exact ⟨j + 1, by omega, by go_num, by rw [HN.out]; go_num, hb.trans (hb3.mono hb.size)⟩
        case measure => simp [intOf]; omega
      · obtain rfl : j = l.length := by omega
        go_wp2_with fail
        go_ret
        exact ⟨by rw [List.take_length]; rfl, hb⟩
end Go.Proofs.YtnghanpmmbcbbaaGreatDoor
