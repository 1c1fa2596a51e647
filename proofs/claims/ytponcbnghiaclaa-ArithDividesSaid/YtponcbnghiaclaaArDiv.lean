/-
  Quotient and remainder as Apply answers them: plain facts.
-/
import Derived.Test.YtponcbnghiaclaaArApp
namespace Go.Proofs.Ytponcbnghiaclaa
open Go

theorem divide (a b : Int) : (∃ c : Int, c ≠ 0 ∧ app [47] a b = (0, c) ∧ app [37] a b = (0, c)) ∨
    ∃ q r : Int, app [47] a b = (q, 0) ∧ app [37] a b = (r, 0) ∧ -2147483648 ≤ q ∧ q ≤ 2147483648 ∧ -4611686018427387904 ≤ q * b ∧ q * b ≤ 4611686018427387904 ∧ -2147483648 ≤ r ∧ r ≤ 2147483648 ∧ -2147483648 ≤ b ∧ b ≤ 2147483648 ∧ -2147483648 ≤ a ∧ a ≤ 2147483648 ∧
      q * b + r = a ∧ (0 < b → 0 ≤ r ∧ r < b) ∧ (b < 0 → r ≤ 0 ∧ b < r) ∧ b ≠ 0 := by
  have o1 : opB [47] = true := by decide
  have o2 : opB [37] = true := by decide
  by_cases hi : (inR a && inR b) = true
  · have hx := hi
    simp only [Bool.and_eq_true, inR_iff] at hx
    by_cases hb : b = 0
    · subst hb
      refine .inl ⟨12, by decide, ?_, ?_⟩
      · unfold app
        rw [if_neg (by rw [o1]; simp), if_neg (by rw [hi]; simp), if_pos (by decide)]
      · unfold app
        rw [if_neg (by rw [o2]; simp), if_neg (by rw [hi]; simp), if_pos (by decide)]
    · have z1 : zeroB [47] b = false := by simp [zeroB, hb]
      have z2 : zeroB [37] b = false := by simp [zeroB, hb]
      have hs := flr_small hb hx.1.1 hx.1.2
      have hm := mul_fit hs hx.2
      have hr := flr_rem (a := a) hb
      have hrb : -2147483648 ≤ a - flr a b * b ∧ a - flr a b * b ≤ 2147483648 := by
        rcases Int.lt_or_gt_of_ne hb with h | h
        · have := hr.2 h; omega
        · have := hr.1 h; omega
      have i1 : inR (comp [47] a b) = true := (inR_iff _).2 hs
      have i2 : inR (comp [37] a b) = true := (inR_iff _).2 hrb
      refine .inr ⟨flr a b, a - flr a b * b, ?_, ?_, hs.1, hs.2, hm.1, hm.2, hrb.1, hrb.2, hx.2.1, hx.2.2, hx.1.1, hx.1.2, by omega, hr.1, hr.2, hb⟩
      · unfold app
        rw [if_neg (by rw [o1]; simp), if_neg (by rw [hi]; simp), if_neg (by rw [z1]; simp), if_pos i1]
        rfl
      · unfold app
        rw [if_neg (by rw [o2]; simp), if_neg (by rw [hi]; simp), if_neg (by rw [z2]; simp), if_pos i2]
        rfl
  · refine .inl ⟨5, by decide, ?_, ?_⟩
    · unfold app
      rw [if_neg (by rw [o1]; simp), if_pos (by simpa using hi)]
    · unfold app
      rw [if_neg (by rw [o2]; simp), if_pos (by simpa using hi)]
end Go.Proofs.Ytponcbnghiaclaa
