/-
  Contracts of span and inRange of the program.
-/
import Derived.Test.YtfmflngmhhalhaaTkByte
import Derived.Deep.QuietTactic
import Derived.BigQuiet
import Derived.WalkSpells
namespace Go.Proofs.Ytfmflngmhhalhaa
open Go.RowKit

set_option maxHeartbeats 1000000 in
theorem span_word (s : ByteArray) (p : Nat) (w : World) (hs : s.size ≤ 100000) (hp : p ≤ s.size) {n : Nat} (hn : p + runP inB s p = n) :
    Calls Try.prog 32 #[.string s, .int .i64 (p : Int), .func (.func 33) #[] #[]] w fun e w' => e = .returned (.int .i64 (n : Int)) ∧ w = w' := by
  have QF := Lib.hid tk_word_at
  go_enter Try.func32, Try.ntmps32
  go_wp2
  go_loop [1] (fun i => ∃ q : Nat, q ≤ s.size ∧ i = .int .i64 (q : Int) ∧ Hid (q + runP inB s q = n)) (fun i => s.size - (intOf i).toNat)
  case atStart => exact ⟨p, hp, rfl, hn⟩
  case round =>
    obtain ⟨q, hq, rfl, hk⟩ := hrel
    by_cases hlt : q < s.size
    · have hlt' : (q : Int) < (s.size : Int) := by omega
      obtain ⟨b1, hb1⟩ : ∃ b, inB s[q] = b := ⟨_, rfl⟩
      have Q1 := Lib.hid (fun W => QF.out s[q] W hb1)
      have HB := Lib.hid hb1
      clear hb1
      cases b1
      · have HE := Lib.hid (show q = n by have := hk.out; rw [runP_stop (fun _ => HB.out)] at this; exact this)
        go_wp2_with (go_at_call 33; refine (Q1.out _).mono ?_; rintro e w' ⟨rfl, rfl⟩)
        go_ret
        exact ⟨by rw [← HE.out]; rfl, rfl⟩
      · have HE := Lib.hid (show (q + 1) + runP inB s (q + 1) = n by have := hk.out; rw [runP_next hlt HB.out] at this; omega)
        have hq1 : ¬ (9223372036854775807 < (q : Int) + 1) := by omega
        go_wp2_with (go_at_call 33; refine (Q1.out _).mono ?_; rintro e w' ⟨rfl, rfl⟩)
        go_round
        case rel => exact ⟨q + 1, by omega, by go_num, HE.out⟩
        case measure => simp [intOf]; omega
    · have HE := Lib.hid (show q = n by have := hk.out; rw [runP_stop (fun h => absurd h hlt)] at this; exact this)
      go_wp2
      go_ret
      exact ⟨by rw [← HE.out]; rfl, rfl⟩
set_option maxHeartbeats 1000000 in
theorem span_dig (s : ByteArray) (p : Nat) (w : World) (hs : s.size ≤ 100000) (hp : p ≤ s.size) {n : Nat} (hn : p + runP digB s p = n) :
    Calls Try.prog 32 #[.string s, .int .i64 (p : Int), .func (.func 35) #[] #[]] w fun e w' => e = .returned (.int .i64 (n : Int)) ∧ w = w' := by
  have QF := Lib.hid tk_dig_at
  go_enter Try.func32, Try.ntmps32
  go_wp2
  go_loop [1] (fun i => ∃ q : Nat, q ≤ s.size ∧ i = .int .i64 (q : Int) ∧ Hid (q + runP digB s q = n)) (fun i => s.size - (intOf i).toNat)
  case atStart => exact ⟨p, hp, rfl, hn⟩
  case round =>
    obtain ⟨q, hq, rfl, hk⟩ := hrel
    by_cases hlt : q < s.size
    · have hlt' : (q : Int) < (s.size : Int) := by omega
      obtain ⟨b1, hb1⟩ : ∃ b, digB s[q] = b := ⟨_, rfl⟩
      have Q1 := Lib.hid (fun W => QF.out s[q] W hb1)
      have HB := Lib.hid hb1
      clear hb1
      cases b1
      · have HE := Lib.hid (show q = n by have := hk.out; rw [runP_stop (fun _ => HB.out)] at this; exact this)
        go_wp2_with (go_at_call 35; refine (Q1.out _).mono ?_; rintro e w' ⟨rfl, rfl⟩)
        go_ret
        exact ⟨by rw [← HE.out]; rfl, rfl⟩
      · have HE := Lib.hid (show (q + 1) + runP digB s (q + 1) = n by have := hk.out; rw [runP_next hlt HB.out] at this; omega)
        have hq1 : ¬ (9223372036854775807 < (q : Int) + 1) := by omega
        go_wp2_with (go_at_call 35; refine (Q1.out _).mono ?_; rintro e w' ⟨rfl, rfl⟩)
        go_round
        case rel => exact ⟨q + 1, by omega, by go_num, HE.out⟩
        case measure => simp [intOf]; omega
    · have HE := Lib.hid (show q = n by have := hk.out; rw [runP_stop (fun h => absurd h hlt)] at this; exact this)
      go_wp2
      go_ret
      exact ⟨by rw [← HE.out]; rfl, rfl⟩
/-! ### The value of digits -/
theorem valD_top : ∀ (l : List UInt8), l.foldl (fun (n : Int) c => min (n * 10 + (c.toNat - 48 : Int)) 2147483649) 2147483649 = 2147483649
  | [] => rfl
  | c :: l => by
    rw [List.foldl_cons, Int.min_eq_right (by omega)]
    exact valD_top l
theorem valD_snoc (l : List UInt8) (c : UInt8) : valD (l ++ [c]) = min (valD l * 10 + (c.toNat - 48 : Int)) 2147483649 := by simp [valD]
theorem valD_past {l m : List UInt8} (h : 2147483648 < valD l) : 2147483648 < valD (l ++ m) := by
  have h1 : valD l ≤ 2147483649 := by
    rcases List.eq_nil_or_concat l with rfl | ⟨k, c, rfl⟩
    · decide
    · rw [List.concat_eq_append, valD_snoc]; exact Int.min_le_right _ _
  have h2 : valD l = 2147483649 := by omega
  unfold valD at h2 ⊢
  rw [List.foldl_append, h2, valD_top]
  omega
theorem take_snoc {s : ByteArray} {k : Nat} (h : k < s.size) : s.data.toList.take (k + 1) = s.data.toList.take k ++ [s[k]] := take_next h
theorem valD_step {s : ByteArray} {k : Nat} {v : Int} (h : k < s.size) (hv : valD (s.data.toList.take k) = v) : valD (s.data.toList.take (k + 1)) = min (v * 10 + (s[k].toNat - 48 : Int)) 2147483649 := by
  rw [take_next h, valD_snoc, hv]
theorem take_all (s : ByteArray) : s.data.toList.take s.size = s.data.toList := List.take_of_length_le (by rw [len_str]; exact Nat.le_refl _)
theorem valD_over {s : ByteArray} {k : Nat} (h : 2147483648 < valD (s.data.toList.take k)) : 2147483648 < valD s.data.toList := by
  rw [← List.take_append_drop k s.data.toList]
  exact valD_past h
theorem dig_range {c : UInt8} (h : digB c = true) : 48 ≤ c.toNat ∧ c.toNat ≤ 57 := by simpa [digB] using h

set_option maxHeartbeats 1000000 in
theorem range_at (s : ByteArray) (w : World) (hs : s.size ≤ 100000) (hd : ∀ k (h : k < s.size), digB s[k] = true) {r : Bool} (hr : decide (valD s.data.toList ≤ 2147483648) = r) :
    Calls Try.prog 39 #[.string s] w fun e w' => e = .returned (.bool r) ∧ w = w' := by
  have HD := Lib.hid hd
  have HR := Lib.hid hr
  clear hd hr
  go_enter Try.func39, Try.ntmps39
  go_wp2
  go_loop [7, 3] (fun i v => ∃ (k : Nat) (x : Int), k ≤ s.size ∧ i = .int .i64 (k : Int) ∧ v = .int .i64 x ∧ 0 ≤ x ∧ x ≤ 2147483648 ∧ Hid (valD (s.data.toList.take k) = x)) (fun i _ => s.size - (intOf i).toNat)
  case atStart => exact ⟨0, 0, Nat.zero_le _, rfl, rfl, by decide, by decide, Lib.hid rfl⟩
  case round =>
    obtain ⟨k, x, hk, rfl, rfl, hx0, hx1, hv⟩ := hrel
    by_cases hlt : k < s.size
    · have hlt' : (k : Int) < (s.size : Int) := by omega
      obtain ⟨d1, d2⟩ := dig_range (HD.out k hlt)
      have hm : valD (s.data.toList.take (k + 1)) = min (x * 10 + (s[k].toNat - 48 : Int)) 2147483649 := valD_step hlt hv.out
      by_cases hbig : 2147483648 < 10 * x + ((s[k].toNat : Int) - 48)
      · have HV := Lib.hid (show r = false by
          rw [← HR.out]
          have := valD_over (s := s) (k := k + 1) (by rw [hm]; omega)
          simp; omega)
        clear hm
        go_wp2
        go_ret
        exact ⟨ret_bool HV.out.symm, rfl⟩
      · have HV := Lib.hid (show valD (s.data.toList.take (k + 1)) = 10 * x + ((s[k].toNat : Int) - 48) by rw [hm]; omega)
        clear hm
        have hle : 10 * x + ((s[k].toNat : Int) - 48) ≤ 2147483648 := by omega
        go_wp2
        go_round
        case rel => exact ⟨k + 1, _, by omega, by go_num, rfl, by omega, hle, HV⟩
        case measure => simp [intOf]; omega
    · obtain rfl : k = s.size := by omega
      have HV := Lib.hid (show r = true by rw [← HR.out, ← take_all s, hv.out]; simpa using hx1)
      go_wp2
      go_ret
      exact ⟨ret_bool HV.out.symm, rfl⟩
end Go.Proofs.Ytfmflngmhhalhaa
