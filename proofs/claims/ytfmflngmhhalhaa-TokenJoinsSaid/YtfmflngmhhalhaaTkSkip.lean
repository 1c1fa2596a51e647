/-
  Contracts of skip and lineEnd of the program, and of the library's IndexByte.
-/
import Derived.Test.YtfmflngmhhalhaaTkByte
import Derived.Lib.Bytealg
import Derived.Deep.QuietTactic
import Derived.BigQuiet
import Derived.WalkSpells
namespace Go.Proofs.Ytfmflngmhhalhaa
open Go.RowKit

theorem index_none : ∀ (l : List UInt8), Lib.indexByte l 10 = -1 → gap true l = []
  | [], _ => rfl
  | b :: l, h => by
    unfold Lib.indexByte at h
    by_cases hb : b = 10
    · subst hb; simp at h
    · have hb' : (b == 10) = false := by simpa using hb
      have hge := Lib.indexByte_ge l 10
      rw [hb'] at h
      simp only [Bool.false_eq_true, if_false] at h
      by_cases h1 : Lib.indexByte l 10 = -1
      · rw [gap, if_neg hb]
        exact index_none l h1
      · rw [if_neg (by simpa using h1)] at h
        omega
theorem index_some : ∀ (l : List UInt8), Lib.indexByte l 10 ≠ -1 → ∃ k : Nat, Lib.indexByte l 10 = (k : Int) ∧ k < l.length ∧ gap true l = gap false (l.drop k) ∧ (l.headD 0 ≠ 10 → 0 < k)
  | [], h => absurd rfl h
  | b :: l, h => by
    by_cases hb : b = 10
    · subst hb
      refine ⟨0, rfl, by simp, by simp [gap, spcB], fun h => absurd rfl h⟩
    · have hb' : (b == 10) = false := by simpa using hb
      have e : Lib.indexByte (b :: l) 10 = if Lib.indexByte l 10 == -1 then -1 else Lib.indexByte l 10 + 1 := by
        rw [Lib.indexByte, hb']; rfl
      by_cases h1 : Lib.indexByte l 10 = -1
      · rw [e, h1] at h; exact absurd rfl h
      · obtain ⟨k, hk, hl, hg, _⟩ := index_some l h1
        refine ⟨k + 1, ?_, by simp only [List.length_cons]; omega, ?_, fun _ => Nat.succ_pos k⟩
        · rw [e, hk, if_neg (by simp)]; omega
        · rw [gap, if_neg hb, hg]; rfl

theorem lite_index_at (s : ByteArray) (c : Int) (w : World) :
    Calls Try.prog 45 #[.string s, .int .u8 c] w fun e w' => e = .returned (.int .i64 (Lib.indexByte s.data.toList c.toNat.toUInt8)) ∧ w = w' := by
  go_enter Try.func45, Try.ntmps45
  go_wp2
  rw [run_callFunc_extern Try.func47 (by kernel_rfl) (by kernel_rfl) (by kernel_rfl) (e := Extern.BytealgIndexByte.indexByte) (by kernel_rfl), Lib.run_indexByteString]
  simp only [Result.andThen]
  rw [Oper.upon_value]
  go_wp2
  go_ret
  exact ⟨rfl, rfl⟩
theorem index_at (s : ByteArray) (c : Int) (w : World) :
    Calls Try.prog 41 #[.string s, .int .u8 c] w fun e w' => e = .returned (.int .i64 (Lib.indexByte s.data.toList c.toNat.toUInt8)) ∧ w = w' := by
  go_enter Try.func41, Try.ntmps41
  go_wp2_with (go_at_call 45; refine (lite_index_at _ _ _).mono ?_; rintro e w' ⟨rfl, rfl⟩)
  go_ret
  exact ⟨rfl, rfl⟩

def LineEnd (s : ByteArray) (q : Nat) (w : World) (e : Ending) (w' : World) : Prop := ∃ n : Nat, q < n ∧ n ≤ s.size ∧ gap false (rest s n) = gap false (rest s q) ∧ e = .returned (.int .i64 (n : Int)) ∧ w = w'
theorem line_at (s : ByteArray) (q : Nat) (w : World) (hs : s.size ≤ 100000) (hq : q < s.size) (hc : s[q] = 35) :
    Calls Try.prog 30 #[.string s, .int .i64 (q : Int)] w (LineEnd s q w) := by
  have hq1 : (q : Int) ≤ (s.size : Int) := by omega
  have hq0 : (0 : Int) ≤ (q : Int) := by omega
  have HG := Lib.hid (gap_note_at hq hc)
  have HH := Lib.hid (show (rest s q).headD 0 ≠ 10 by rw [rest_cons hq]; simp [hc])
  have QI := Lib.hid (fun W => index_at (s.extract q s.size) 10 W)
  rw [rest_of_extract] at QI
  by_cases h1 : Lib.indexByte (rest s q) 10 = -1
  · have HE := Lib.hid (show gap false (rest s s.size) = gap false (rest s q) by rw [HG.out, index_none _ h1, rest_end (Nat.le_refl _)]; rfl)
    rw [show ((10 : Int).toNat.toUInt8) = 10 from rfl, h1] at QI
    clear hc h1
    go_enter Try.func30, Try.ntmps30
    go_wp2_with (go_at_call 41; refine (QI.out _).mono ?_; rintro e w' ⟨rfl, rfl⟩)
    go_ret
    exact ⟨s.size, hq, Nat.le_refl _, HE.out, rfl, rfl⟩
  · obtain ⟨k, hk, hl, hg, h0⟩ := index_some _ h1
    rw [rest_len] at hl
    rw [show ((10 : Int).toNat.toUInt8) = 10 from rfl, hk] at QI
    have HK := Lib.hid (show gap false (rest s (q + k)) = gap false (rest s q) by rw [rest_drop, ← hg, HG.out])
    have H0 := Lib.hid (h0 HH.out)
    have hk0 : decide ((k : Int) < 0) = false := by simp
    have hk1 : ¬ (9223372036854775807 < (q : Int) + (k : Int)) := by omega
    clear hc h1 hk hg h0
    go_enter Try.func30, Try.ntmps30
    go_wp2_with (go_at_call 41; refine (QI.out _).mono ?_; rintro e w' ⟨rfl, rfl⟩)
    go_ret
    exact ⟨q + k, by have := H0.out; omega, by omega, HK.out, by rw [Int.natCast_add]; rfl, rfl⟩

set_option maxHeartbeats 1000000 in
theorem skip_at (s : ByteArray) (p : Nat) (w : World) (hs : s.size ≤ 100000) (hp : p ≤ s.size) {n : Nat} (hn : skipP s p = n) :
    Calls Try.prog 19 #[.string s, .int .i64 (p : Int)] w fun e w' => e = .returned (.int .i64 (n : Int)) ∧ w = w' := by
  have QS := Lib.hid tk_spc_at
  have QL := Lib.hid (line_at s)
  go_enter Try.func19, Try.ntmps19
  go_wp2
  go_loop [1] (fun i => ∃ q : Nat, q ≤ s.size ∧ i = .int .i64 (q : Int) ∧ Hid (skipP s q = n)) (fun i => s.size - (intOf i).toNat)
  case atStart => exact ⟨p, hp, rfl, hn⟩
  case round =>
    obtain ⟨q, hq, rfl, hk⟩ := hrel
    by_cases hlt : q < s.size
    · have hlt' : (q : Int) < (s.size : Int) := by omega
      obtain ⟨b1, hb1⟩ : ∃ b, spcB s[q] = b := ⟨_, rfl⟩
      have Q1 := Lib.hid (fun W => QS.out s[q] W hb1)
      have HB := Lib.hid hb1
      clear hb1
      cases b1
      · by_cases h35 : s[q] = 35
        · have h35' : ((s[q].toNat : Int) == 35) = true := byte_eq (b := 35) h35
          have Q2 := Lib.hid (fun W => QL.out q W hs hlt h35)
          clear h35
          go_wp2_with (first | (go_at_call 29; refine (Q1.out _).mono ?_; rintro e w' ⟨rfl, rfl⟩) | (go_at_call 30; refine (Q2.out _).mono ?_; rintro e w' ⟨m, hm1, hm2, hm3, rfl, rfl⟩))
          go_round
          case rel => exact ⟨m, hm2, rfl, by rw [skipP_same hm3]; exact hk.out⟩
          case measure => simp [intOf]; omega
        · have h35' : ((s[q].toNat : Int) == 35) = false := byte_ne (b := 35) h35
          have HS := Lib.hid (skipP_stop hq (gap_cons_stop hlt HB.out h35))
          clear h35
          go_wp2_with (go_at_call 29; refine (Q1.out _).mono ?_; rintro e w' ⟨rfl, rfl⟩)
          go_ret
          exact ⟨by rw [← hk.out, HS.out]; rfl, rfl⟩
      · have hq1 : ¬ (9223372036854775807 < (q : Int) + 1) := by omega
        go_wp2_with (go_at_call 29; refine (Q1.out _).mono ?_; rintro e w' ⟨rfl, rfl⟩)
        go_round
        case rel => exact ⟨q + 1, by omega, by go_num, by rw [← hk.out]; exact (skipP_same (gap_cons_spc hlt HB.out)).symm⟩
        case measure => simp [intOf]; omega
    · obtain rfl : q = s.size := by omega
      have HS := Lib.hid (skipP_stop hq (gap_at_end (Nat.le_refl s.size)))
      go_wp2
      go_ret
      exact ⟨by rw [← hk.out, HS.out]; rfl, rfl⟩
end Go.Proofs.Ytfmflngmhhalhaa
