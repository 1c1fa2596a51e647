/-
  Contracts of Right and Variable of the program, and of the reference's own.
-/
import Derived.Test.YtfmflngmhhalhaaNmTables
namespace Go.Proofs.Ytfmflngmhhalhaa
open Go.RowKit

theorem head_at {s : ByteArray} (h : 0 < s.size) : s.data.toList.getD 0 0 = s[0] := by
  rw [List.getD_eq_getElem?_getD, List.getElem?_eq_getElem (by rw [len_str]; exact h)]
  rfl
theorem word_size {s : ByteArray} (h : wordB s.data.toList = true) : 0 < s.size := by
  have := ((wordB_iff _).1 h).1
  rw [len_str] at this
  omega

set_option maxHeartbeats 1000000 in
theorem right_at (s : ByteArray) (w : World) (hs : s.size ≤ 9223372036854775807) {r : Bool} (hr : rightB s.data.toList = r) :
    Calls Try.prog 36 #[.string s] w fun e w' => e = .returned (.bool r) ∧ w = w' := by
  subst hr
  obtain ⟨b1, hb1⟩ : ∃ b, wordB s.data.toList = b := ⟨_, rfl⟩
  have qw := Lib.hid hb1
  cases b1
  · have HV := Lib.hid (show rightB s.data.toList = false by unfold rightB; rw [hb1]; rfl)
    clear hb1
    go_enter Try.func36, Try.ntmps36
    go_wp2_with (go_at_call 42; refine (word_at _ _ hs qw.out).mono ?_; rintro e w' ⟨rfl, rfl⟩)
    go_ret
    exact ⟨ret_bool (by rw [HV.out]), rfl⟩
  · have h0 := word_size hb1
    obtain ⟨b2, hb2⟩ : ∃ b, lowB s[0] = b := ⟨_, rfl⟩
    obtain ⟨b3, hb3⟩ : ∃ b, resB s.data.toList = b := ⟨_, rfl⟩
    have HV := Lib.hid (show rightB s.data.toList = (b2 && !b3) by unfold rightB; rw [hb1, head_at h0, hb2, hb3]; rfl)
    have ql := Lib.hid hb2
    have qr := Lib.hid hb3
    clear hb1 hb2 hb3
    cases b2
    · go_enter Try.func36, Try.ntmps36
      go_wp2_with (first | (go_at_call 42; refine (word_at _ _ hs qw.out).mono ?_; rintro e w' ⟨rfl, rfl⟩) | (go_at_call 43; refine (low_at _ _ ql.out).mono ?_; rintro e w' ⟨rfl, rfl⟩) | (go_at_call 37; refine (res_at _ _ qr.out).mono ?_; rintro e w' ⟨rfl, rfl⟩))
      go_ret
      exact ⟨ret_bool (by rw [HV.out]; rfl), rfl⟩
    · cases b3
      · go_enter Try.func36, Try.ntmps36
        go_wp2_with (first | (go_at_call 42; refine (word_at _ _ hs qw.out).mono ?_; rintro e w' ⟨rfl, rfl⟩) | (go_at_call 43; refine (low_at _ _ ql.out).mono ?_; rintro e w' ⟨rfl, rfl⟩) | (go_at_call 37; refine (res_at _ _ qr.out).mono ?_; rintro e w' ⟨rfl, rfl⟩))
        go_ret
        exact ⟨ret_bool (by rw [HV.out]; rfl), rfl⟩
      · go_enter Try.func36, Try.ntmps36
        go_wp2_with (first | (go_at_call 42; refine (word_at _ _ hs qw.out).mono ?_; rintro e w' ⟨rfl, rfl⟩) | (go_at_call 43; refine (low_at _ _ ql.out).mono ?_; rintro e w' ⟨rfl, rfl⟩) | (go_at_call 37; refine (res_at _ _ qr.out).mono ?_; rintro e w' ⟨rfl, rfl⟩))
        go_ret
        exact ⟨ret_bool (by rw [HV.out]; rfl), rfl⟩

set_option maxHeartbeats 1000000 in
theorem var_at (s : ByteArray) (w : World) (hs : s.size ≤ 9223372036854775807) {r : Bool} (hr : varB s.data.toList = r) :
    Calls Try.prog 38 #[.string s] w fun e w' => e = .returned (.bool r) ∧ w = w' := by
  subst hr
  obtain ⟨b1, hb1⟩ : ∃ b, wordB s.data.toList = b := ⟨_, rfl⟩
  have qw := Lib.hid hb1
  cases b1
  · have HV := Lib.hid (show varB s.data.toList = false by unfold varB; rw [hb1]; rfl)
    clear hb1
    go_enter Try.func38, Try.ntmps38
    go_wp2_with (go_at_call 42; refine (word_at _ _ hs qw.out).mono ?_; rintro e w' ⟨rfl, rfl⟩)
    go_ret
    exact ⟨ret_bool (by rw [HV.out]), rfl⟩
  · have h0 := word_size hb1
    obtain ⟨b2, hb2⟩ : ∃ b, uppB s[0] = b := ⟨_, rfl⟩
    have HV := Lib.hid (show varB s.data.toList = (b2 || undB s[0]) by unfold varB; rw [hb1, head_at h0, hb2]; rfl)
    have qu := Lib.hid hb2
    clear hb1 hb2
    cases b2
    · by_cases h4 : s[0].toNat = 95
      · have h4' : ((s[0].toNat : Int) == 95) = true := by simp; omega
        have HU := Lib.hid (show undB s[0] = true by simp only [undB, h4, decide_true])
        clear h4
        go_enter Try.func38, Try.ntmps38
        go_wp2_with (first | (go_at_call 42; refine (word_at _ _ hs qw.out).mono ?_; rintro e w' ⟨rfl, rfl⟩) | (go_at_call 44; refine (upp_at _ _ qu.out).mono ?_; rintro e w' ⟨rfl, rfl⟩))
        go_ret
        exact ⟨ret_bool (by rw [HV.out, HU.out]; rfl), rfl⟩
      · have h4' : ((s[0].toNat : Int) == 95) = false := by simp; omega
        have HU := Lib.hid (show undB s[0] = false by simp only [undB, h4, decide_false])
        clear h4
        go_enter Try.func38, Try.ntmps38
        go_wp2_with (first | (go_at_call 42; refine (word_at _ _ hs qw.out).mono ?_; rintro e w' ⟨rfl, rfl⟩) | (go_at_call 44; refine (upp_at _ _ qu.out).mono ?_; rintro e w' ⟨rfl, rfl⟩))
        go_ret
        exact ⟨ret_bool (by rw [HV.out, HU.out]; rfl), rfl⟩
    · go_enter Try.func38, Try.ntmps38
      go_wp2_with (first | (go_at_call 42; refine (word_at _ _ hs qw.out).mono ?_; rintro e w' ⟨rfl, rfl⟩) | (go_at_call 44; refine (upp_at _ _ qu.out).mono ?_; rintro e w' ⟨rfl, rfl⟩))
      go_ret
      exact ⟨ret_bool (by rw [HV.out]; rfl), rfl⟩

end Go.Proofs.Ytfmflngmhhalhaa
