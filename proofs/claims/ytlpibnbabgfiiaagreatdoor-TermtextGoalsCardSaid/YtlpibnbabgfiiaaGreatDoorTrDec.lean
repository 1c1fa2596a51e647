/-
  The reference's Decimal of every valid integer; strength.
-/
import Derived.Test.YtlpibnbabgfiiaaGreatDoorTtText
import Derived.Test.YtlpibnbabgfiiaaGreatDoorNmLab
import Derived.Test.YtlpibnbabgfiiaaGreatDoorNmAll
namespace Go.Proofs.YtlpibnbabgfiiaaGreatDoor
open Go.RowKit

set_option maxHeartbeats 1000000 in
theorem ref_dec_pos (n : Nat) : ∀ (w : World), n ≤ 2147483648 →
    Calls Tryz.prog 65 #[.int .i64 (n : Int)] w fun e w' => e = .returned (.string ⟨(Lib.decDigits n).toArray⟩) ∧ Below w.heap.size w w' := by
  induction n using Nat.strongRecOn with
  | _ n ih =>
    intro w hn
    have h0 : decide ((n : Int) < 0) = false := by simp
    obtain ⟨y, hy⟩ : ∃ y : UInt8, y = UInt8.ofNat (48 + n % 10) := ⟨_, rfl⟩
    have hcv := str_one w (48 + (n : Int) % 10) y (by rw [hy, digit_nat (by omega)]; omega)
    by_cases h : n < 10
    · have h' : (n : Int) < 10 := by omega
      have HV := Lib.hid (show Lib.decDigits n = [y] by rw [dec_small h, hy, show n % 10 = n by omega])
      clear ih h hn hy
      go_enter Tryz.func65, Tryz.ntmps65
      go_wp2_with fail
      go_ret
      exact ⟨ret_str (by rw [HV.out]), (Below.refl _ _).alloc (Nat.le_refl _) _⟩
    · have h' : decide ((n : Int) < 10) = false := by simp; omega
      have HV := dec_big h
      rw [← hy] at HV
      have hb : (n : Int) ≤ 2147483648 := by omega
      have IH := fun w' => ih (n / 10) (by omega) w' (by omega)
      have e : ((n / 10 : Nat) : Int) = (n : Int) / 10 := by omega
      rw [e] at IH
      have hl := dec_len10 (n := n / 10) (by omega)
      obtain ⟨x, hx⟩ : ∃ x : List UInt8, x = Lib.decDigits (n / 10) := ⟨_, rfl⟩
      rw [← hx] at IH hl HV
      have q := Lib.hid IH
      have HV := Lib.hid HV
      have hz : ¬ 9223372036854775807 < x.length + 1 := by omega
      clear ih h hn e IH hx hl hy
      go_enter Tryz.func65, Tryz.ntmps65
      go_wp2_with fail
      ((with_reducible refine (q.out _).mono ?_); rintro e w' ⟨rfl, hb2⟩)
      go_wp2_with fail
      go_ret
      exact ⟨ret_str (by rw [HV.out]; exact append_str _ [_]), ((Below.refl _ _).alloc (Nat.le_refl _) _).trans (hb2.mono (by simp))⟩

set_option maxHeartbeats 2000000 in
set_option maxRecDepth 10000 in
theorem ref_dec_neg (m : Nat) : ∀ (w : World), 1 ≤ m → m ≤ 2147483648 →
    Calls Tryz.prog 65 #[.int .i64 (-(m : Int))] w fun e w' => e = .returned (.string ⟨(45 :: Lib.decDigits m).toArray⟩) ∧ Below w.heap.size w w' := by
  induction m using Nat.strongRecOn with
  | _ m ih =>
    intro w h1 hm
    obtain ⟨n, hn⟩ : ∃ n : Int, -(m : Int) = n := ⟨_, rfl⟩
    obtain ⟨d, hd⟩ : ∃ d : Int, n.tdiv 10 = d := ⟨_, rfl⟩
    have hdm : d = -((m / 10 : Nat) : Int) := by
      rw [← hd, ← hn, Int.neg_tdiv]; rfl
    have h0 : n < 0 := by omega
    obtain ⟨y, hy⟩ : ∃ y : UInt8, y = UInt8.ofNat (48 + m % 10) := ⟨_, rfl⟩
    have hcv := str_one w ((48 + d * 10 - n) % 256) y (by rw [hy, digit_nat (by omega)]; omega)
    rw [hn]
    by_cases h : m < 10
    · have h' : -10 < n := by omega
      have hb : -2147483648 ≤ n := by omega
      have hd1 : -2147483648 ≤ d := by omega
      have hd2 : d ≤ 0 := by omega
      have HV := Lib.hid (show Lib.decDigits m = [y] by rw [dec_small h, hy, show m % 10 = m by omega])
      clear ih h hm hy hdm hn h1
      go_enter Tryz.func65, Tryz.ntmps65
      go_wp2_with fail
      go_ret
      exact ⟨ret_str (by rw [HV.out]; exact append_str [_] [_]), (Below.refl _ _).alloc (Nat.le_refl _) _⟩
    · have h' : decide (-10 < n) = false := by simp; omega
      have hb : -2147483648 ≤ n := by omega
      have HV := dec_big h
      rw [← hy] at HV
      have IH := fun w' => ih (m / 10) (by omega) w' (by omega) (by omega)
      rw [← hdm] at IH
      have hl := dec_len10 (n := m / 10) (by omega)
      have hd1 : -2147483648 ≤ d := by omega
      have hd2 : d ≤ 0 := by omega
      obtain ⟨x, hx⟩ : ∃ x : List UInt8, x = Lib.decDigits (m / 10) := ⟨_, rfl⟩
      rw [← hx] at IH hl HV
      have q := Lib.hid IH
      have HV := Lib.hid HV
      have hz : ¬ 9223372036854775807 < x.length + 1 + 1 := by omega
      have hz1 : ¬ 9223372036854775807 < x.length + 1 := by omega
      clear ih h hm IH hx hl hy hdm hn h1
      go_enter Tryz.func65, Tryz.ntmps65
      go_wp2_with fail
      ((with_reducible refine (q.out _).mono ?_); rintro e w' ⟨rfl, hb2⟩)
      go_wp2_with fail
      go_ret
      exact ⟨ret_str (by rw [HV.out]; exact append_str (45 :: _) [_]), ((Below.refl _ _).alloc (Nat.le_refl _) _).trans (hb2.mono (by simp))⟩

theorem ref_dec (n : Int) (w : World) (h1 : -2147483648 ≤ n) (h2 : n ≤ 2147483648) :
    Calls Tryz.prog 65 #[.int .i64 n] w fun e w' => e = .returned (.string (S (Lib.itoa n))) ∧ Below w.heap.size w w' := by
  by_cases h : n < 0
  · obtain ⟨m, rfl⟩ : ∃ m : Nat, n = -(m : Int) := ⟨n.natAbs, by omega⟩
    rw [show Lib.itoa (-(m : Int)) = 45 :: Lib.decDigits m by unfold Lib.itoa; rw [if_pos h]; simp]
    exact ref_dec_neg m w (by omega) (by omega)
  · obtain ⟨m, rfl⟩ : ∃ m : Nat, n = (m : Int) := ⟨n.toNat, by omega⟩
    rw [show Lib.itoa (m : Int) = Lib.decDigits m by unfold Lib.itoa; rw [if_neg h]; simp]
    exact ref_dec_pos m w (by omega)

set_option maxHeartbeats 2000000 in
theorem rstrength_op (n : Int) (s : ByteArray) (v : Value) (w : World) (ho : opB s.data.toList = true) :
    Calls Tryz.prog 67 #[.agg #[.int .i64 2, .int .i64 n, .string s, v]] w fun e w' => e = .returned (.int .i64 ((ostr s.data.toList : Int) + 1)) ∧ Below w.heap.size w w' := by
  have Q := Lib.hid (fun W => ref_op_at s W ho)
  simp only [opB, operators, List.mem_cons, List.not_mem_nil, or_false, decide_eq_true_eq] at ho
  rcases ho with h | h | h | h | h
  all_goals
    obtain rfl := str_of h
    clear h
    go_enter Tryz.func67, Tryz.ntmps67
    go_wp2_with fail
    refine (Q.out _).mono ?_
    rintro e w' ⟨rfl, rfl⟩
    go_wp2_with fail
    go_ret
    exact ⟨rfl, (Below.refl _ _).alloc (Nat.le_refl _) _⟩
set_option maxHeartbeats 2000000 in
theorem rstrength_no (n : Int) (s : ByteArray) (v : Value) (w : World) (ho : opB s.data.toList = false) :
    Calls Tryz.prog 67 #[.agg #[.int .i64 2, .int .i64 n, .string s, v]] w fun e w' => e = .returned (.int .i64 3) ∧ Below w.heap.size w w' := by
  have Q := Lib.hid (fun W => ref_op_at s W ho)
  clear ho
  go_enter Tryz.func67, Tryz.ntmps67
  go_wp2_with fail
  refine (Q.out _).mono ?_
  rintro e w' ⟨rfl, rfl⟩
  go_wp2_with fail
  go_ret
  exact ⟨rfl, (Below.refl _ _).alloc (Nat.le_refl _) _⟩
theorem rstrength_other (k n : Int) (s : ByteArray) (v : Value) (w : World) (hk : k ≠ 2) :
    Calls Tryz.prog 67 #[.agg #[.int .i64 k, .int .i64 n, .string s, v]] w fun e w' => e = .returned (.int .i64 3) ∧ Below w.heap.size w w' := by
  go_enter Tryz.func67, Tryz.ntmps67
  go_wp2_with fail
  go_ret
  exact ⟨rfl, (Below.refl _ _).alloc (Nat.le_refl _) _⟩

theorem rstrength_at (t : Tm) (hf : t.form = true) (w : World) : Calls Tryz.prog 67 #[t.val] w fun e w' => e = .returned (.int .i64 ((t.pw : Int) + 1)) ∧ Below w.heap.size w w' := by
  obtain ⟨k, n, s, A, c, a⟩ := t
  show Calls Tryz.prog 67 #[.agg #[.int .i64 k, .int .i64 n, .string s, .slice A a.length c]] w fun e w' => e = .returned (.int .i64 ((ostr s.data.toList : Int) + 1)) ∧ Below w.heap.size w w'
  by_cases hk2 : k = 2
  · subst hk2
    by_cases ho : opB s.data.toList = true
    · exact rstrength_op n s _ w ho
    · have hn : ¬ ostr s.data.toList < 2 := fun h => ho ((ostr_op _).2 h)
      have he : ostr s.data.toList = 2 := by
        unfold ostr at hn ⊢
        by_cases a1 : s.data.toList = [43] ∨ s.data.toList = [45]
        · rw [if_pos a1] at hn; omega
        · by_cases a2 : s.data.toList = [42] ∨ s.data.toList = [47] ∨ s.data.toList = [37]
          · rw [if_neg a1, if_pos a2] at hn; omega
          · rw [if_neg a1, if_neg a2]
      rw [he]
      exact rstrength_no n s _ w (by simpa using ho)
  · have hs : s.size = 0 := by
      simp only [Tm.form] at hf
      by_cases hk0 : k = 0
      · subst hk0; simp only [if_true, Bool.and_eq_true, decide_eq_true_eq] at hf; exact hf.2.2.1
      by_cases hk1 : k = 1
      · subst hk1; simp only [if_true, show ¬ ((1 : Int) = 0) by omega, if_false, Bool.and_eq_true, decide_eq_true_eq] at hf; exact hf.2.2.1
      simp [hk0, hk1, hk2] at hf
    have hl : s.data.toList = [] := List.length_eq_zero_iff.1 (by rw [len_str]; exact hs)
    rw [hl]
    exact rstrength_other k n s _ w hk2
end Go.Proofs.YtlpibnbabgfiiaaGreatDoor
