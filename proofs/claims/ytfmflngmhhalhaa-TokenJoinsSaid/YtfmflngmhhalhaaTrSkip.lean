/-
  Contracts of skip, value and Gap of the reference.
-/
import Derived.Test.YtfmflngmhhalhaaTkByte
import Derived.Test.YtfmflngmhhalhaaTkSpan
import Derived.WalkSpells
namespace Go.Proofs.Ytfmflngmhhalhaa
open Go.RowKit

set_option maxHeartbeats 2000000 in
theorem tr_skip_at (s : ByteArray) (p : Nat) (w : World) (hs : s.size ≤ 100000) (hp : p ≤ s.size) {n : Nat} (hn : skipP s p = n) :
    Calls Try.prog 22 #[.string s, .int .i64 (p : Int)] w fun e w' => e = .returned (.int .i64 (n : Int)) ∧ w = w' := by
  have QS := Lib.hid tr_spc_at
  go_enter Try.func22, Try.ntmps22
  go_wp2
  go_loop [1] (fun i => ∃ q : Nat, q ≤ s.size ∧ i = .int .i64 (q : Int) ∧ Hid (skipP s q = n)) (fun i => s.size - (intOf i).toNat)
  case atStart => exact ⟨p, hp, rfl, hn⟩
  case round =>
    obtain ⟨q, hq, rfl, hk⟩ := hrel
    by_cases hlt : q < s.size
    · have hlt' : (q : Int) < (s.size : Int) := by omega
      obtain ⟨b1, hb1⟩ : ∃ b, spcB s[q] = b := ⟨_, rfl⟩
      have Q1 := Lib.hid (fun W => QS.out s[q] W hb1)
      have HB := Lib.hid hb1
      clear hb1
      cases b1
      · by_cases h35 : s[q] = 35
        · have h35' : ((s[q].toNat : Int) == 35) = true := byte_eq (b := 35) h35
          have HG := Lib.hid (gap_note_at hlt h35)
          have H35 := Lib.hid h35
          clear h35
          go_wp2_with (go_at_call 40; refine (Q1.out _).mono ?_; rintro e w' ⟨rfl, rfl⟩)
          go_loop [1] (fun i => ∃ m : Nat, q ≤ m ∧ m ≤ s.size ∧ i = .int .i64 (m : Int) ∧ Hid (gap true (rest s m) = gap false (rest s q))) (fun i => s.size - (intOf i).toNat)
          case atStart => exact ⟨q, Nat.le_refl _, hq, rfl, Lib.hid HG.out.symm⟩
          case round =>
            obtain ⟨m, hqm, hm, rfl, hkm⟩ := hrel
            by_cases hml : m < s.size
            · have hml' : (m : Int) < (s.size : Int) := by omega
              by_cases h10 : s[m] = 10
              · have h10' : ((s[m].toNat : Int) == 10) = true := byte_eq (b := 10) h10
                have h10n : ((s[m].toNat : Int) != 10) = false := by simp [bne, h10']
                have HM := Lib.hid (show q < m from by
                  rcases Nat.lt_or_ge q m with h | h
                  · exact h
                  · obtain rfl : m = q := by omega
                    rw [H35.out] at h10; exact absurd h10 (by decide))
                have HN := Lib.hid (show skipP s m = n by rw [← hk.out]; exact skipP_same ((gap_note_end hml h10).symm.trans hkm.out))
                clear h10
                go_wp2
                have := HM.out
                go_round
                case rel => exact ⟨m, hm, rfl, HN⟩
                case measure => simp [intOf]; omega
              · have h10' : ((s[m].toNat : Int) == 10) = false := byte_ne (b := 10) h10
                have h10n : ((s[m].toNat : Int) != 10) = true := by simp [bne, h10']
                have HN := Lib.hid (show gap true (rest s (m + 1)) = gap false (rest s q) by rw [← gap_note_next hml h10]; exact hkm.out)
                have hq1 : ¬ (9223372036854775807 < (m : Int) + 1) := by omega
                clear h10
                go_wp2
                go_round
                case rel => exact ⟨m + 1, by omega, by omega, by go_num, HN⟩
                case measure => simp [intOf]; omega
            · obtain rfl : m = s.size := by omega
              have HN := Lib.hid (show skipP s s.size = n by rw [← hk.out]; exact skipP_same ((gap_note_out (Nat.le_refl _)).symm.trans hkm.out))
              go_wp2
              go_round
              case rel => exact ⟨s.size, Nat.le_refl _, rfl, HN⟩
              case measure => simp [intOf]; omega
        · have h35' : ((s[q].toNat : Int) == 35) = false := byte_ne (b := 35) h35
          have HS := Lib.hid (skipP_stop hq (gap_cons_stop hlt HB.out h35))
          clear h35
          go_wp2_with (go_at_call 40; refine (Q1.out _).mono ?_; rintro e w' ⟨rfl, rfl⟩)
          go_ret
          exact ⟨by rw [← hk.out, HS.out]; rfl, rfl⟩
      · have hq1 : ¬ (9223372036854775807 < (q : Int) + 1) := by omega
        go_wp2_with (go_at_call 40; refine (Q1.out _).mono ?_; rintro e w' ⟨rfl, rfl⟩)
        go_round
        case rel => exact ⟨q + 1, by omega, by go_num, by rw [← hk.out]; exact (skipP_same (gap_cons_spc hlt HB.out)).symm⟩
        case measure => simp [intOf]; omega
    · obtain rfl : q = s.size := by omega
      have HS := Lib.hid (skipP_stop hq (gap_at_end (Nat.le_refl s.size)))
      go_wp2
      go_ret
      exact ⟨by rw [← hk.out, HS.out]; rfl, rfl⟩

set_option maxHeartbeats 1000000 in
theorem value_at (s : ByteArray) (w : World) (hs : s.size ≤ 100000) (hd : ∀ k (h : k < s.size), digB s[k] = true) {r : Int} (hr : valD s.data.toList = r) :
    Calls Try.prog 26 #[.string s] w fun e w' => e = .returned (.int .i64 r) ∧ w = w' := by
  have HD := Lib.hid hd
  have HR := Lib.hid hr
  clear hd hr
  go_enter Try.func26, Try.ntmps26
  go_wp2
  go_loop [3, 4] (fun v i => ∃ (k : Nat) (x : Int), k ≤ s.size ∧ i = .int .i64 (k : Int) ∧ v = .int .i64 x ∧ 0 ≤ x ∧ x ≤ 2147483649 ∧ Hid (valD (s.data.toList.take k) = x)) (fun _ i => s.size - (intOf i).toNat)
  case atStart => exact ⟨0, 0, Nat.zero_le _, rfl, rfl, by decide, by decide, Lib.hid rfl⟩
  case round =>
    obtain ⟨k, x, hk, rfl, rfl, hx0, hx1, hv⟩ := hrel
    by_cases hlt : k < s.size
    · have hlt' : (k : Int) < (s.size : Int) := by omega
      obtain ⟨d1, d2⟩ := dig_range (HD.out k hlt)
      have hm : valD (s.data.toList.take (k + 1)) = min (x * 10 + (s[k].toNat - 48 : Int)) 2147483649 := valD_step hlt hv.out
      by_cases hbig : 2147483649 < x * 10 + ((s[k].toNat : Int) - 48)
      · have HV := Lib.hid (show valD (s.data.toList.take (k + 1)) = 2147483649 by rw [hm]; omega)
        clear hm
        go_wp2
        go_round
        case rel => exact ⟨k + 1, _, by omega, by go_num, rfl, by decide, by decide, HV⟩
        case measure => simp [intOf]; omega
      · have HV := Lib.hid (show valD (s.data.toList.take (k + 1)) = x * 10 + ((s[k].toNat : Int) - 48) by rw [hm]; omega)
        clear hm
        go_wp2
        go_round
        case rel => exact ⟨k + 1, _, by omega, by go_num, rfl, by omega, by omega, HV⟩
        case measure => simp [intOf]; omega
    · obtain rfl : k = s.size := by omega
      have HV := Lib.hid (show x = r by rw [← HR.out, ← take_all s, hv.out])
      go_wp2
      go_ret
      exact ⟨by rw [HV.out]; rfl, rfl⟩
end Go.Proofs.Ytfmflngmhhalhaa
