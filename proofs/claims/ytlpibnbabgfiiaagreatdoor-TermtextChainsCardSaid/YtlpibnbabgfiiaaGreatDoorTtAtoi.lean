/-
  What strconv.Atoi makes of digits, with or without a minus sign, plainly; decimal numerals of integers.
-/
import Derived.Test.YtlpibnbabgfiiaaGreatDoorTtPlain
namespace Go.Proofs.YtlpibnbabgfiiaaGreatDoor
open Go

def spellA (acc : Nat) (l : List UInt8) : Nat := l.foldl (fun a c => 10 * a + (c.toNat - 48)) acc
theorem spellA_ge (l : List UInt8) (acc : Nat) : acc ≤ spellA acc l := by
  induction l generalizing acc with
  | nil => exact Nat.le_refl _
  | cons c r ih => exact Nat.le_trans (by omega) (ih (10 * acc + (c.toNat - 48)))
theorem pu_spell (l : List UInt8) (acc : Nat) (h : ∀ c ∈ l, digB c = true) : Lib.parseUint10 acc l = .ok (spellA acc l) ∨ (Lib.parseUint10 acc l = .range ∧ 18446744073709551616 ≤ spellA acc l) := by
  induction l generalizing acc with
  | nil => exact .inl rfl
  | cons c r ih =>
    have hc := h c List.mem_cons_self
    simp only [digB, decide_eq_true_eq] at hc
    have hs : spellA acc (c :: r) = spellA (10 * acc + (c.toNat - 48)) r := rfl
    have hg := spellA_ge r (10 * acc + (c.toNat - 48))
    simp only [Lib.parseUint10, if_pos hc]
    split
    · exact .inr ⟨rfl, by rw [hs]; omega⟩
    · split
      · exact .inr ⟨rfl, by rw [hs]; omega⟩
      · have := ih (acc * 10 + (c.toNat - 48)) (fun x hx => h x (List.mem_cons_of_mem _ hx))
        rw [hs, show 10 * acc + (c.toNat - 48) = acc * 10 + (c.toNat - 48) by omega]
        exact this
theorem mag_spell {l : List UInt8} (hne : l ≠ []) (h : ∀ c ∈ l, digB c = true) : Lib.parseMag l = .ok (spell l) ∨ (Lib.parseMag l = .range ∧ 18446744073709551616 ≤ spell l) := by
  unfold Lib.parseMag
  rw [if_neg hne]
  exact pu_spell l 0 h
/-- What Atoi answers: the number, if it is small; else a number that is greater yet, or none. -/
theorem atoi_plain {l : List UInt8} (hne : l ≠ []) (h : ∀ c ∈ l, digB c = true) :
    (spell l ≤ 2147483648 ∧ Lib.atoiAll l = .ok (spell l : Int)) ∨ (2147483648 < spell l ∧ ((∃ v : Int, Lib.atoiAll l = .ok v ∧ 2147483648 < v) ∨ ∀ v, Lib.atoiAll l ≠ .ok v)) := by
  rcases l with _ | ⟨c, r⟩
  · exact absurd rfl hne
  · have hc := h c List.mem_cons_self
    simp only [digB, decide_eq_true_eq] at hc
    rw [Lib.atoiAll_plain c r (by omega) (by omega)]
    rcases mag_spell hne h with hm | ⟨hm, hb⟩
    · rw [hm]
      simp only [Lib.signless]
      by_cases h1 : 9223372036854775808 ≤ spell (c :: r)
      · rw [if_pos h1]
        exact .inr ⟨by omega, .inr (fun v e => by cases e)⟩
      · rw [if_neg h1]
        by_cases h2 : spell (c :: r) ≤ 2147483648
        · exact .inl ⟨h2, rfl⟩
        · exact .inr ⟨by omega, .inl ⟨_, rfl, by omega⟩⟩
    · rw [hm]
      exact .inr ⟨by omega, .inr (fun v e => by cases e)⟩
theorem atoi_minus {l : List UInt8} (hne : l ≠ []) (h : ∀ c ∈ l, digB c = true) :
    (spell l ≤ 2147483648 ∧ Lib.atoiAll (45 :: l) = .ok (-(spell l : Int))) ∨ (2147483648 < spell l ∧ ((∃ v : Int, Lib.atoiAll (45 :: l) = .ok v ∧ v < -2147483648) ∨ ∀ v, Lib.atoiAll (45 :: l) ≠ .ok v)) := by
  rw [Lib.atoiAll_minus]
  rcases mag_spell hne h with hm | ⟨hm, hb⟩
  · rw [hm]
    simp only [Lib.signed]
    by_cases h1 : 9223372036854775808 < spell l
    · rw [if_pos h1]
      exact .inr ⟨by omega, .inr (fun v e => by cases e)⟩
    · rw [if_neg h1]
      by_cases h2 : spell l ≤ 2147483648
      · exact .inl ⟨h2, rfl⟩
      · exact .inr ⟨by omega, .inl ⟨_, rfl, by omega⟩⟩
  · rw [hm]
    exact .inr ⟨by omega, .inr (fun v e => by cases e)⟩
theorem while_all (p : UInt8 → Bool) (l : List UInt8) : ∀ c ∈ l.takeWhile p, p c = true := by
  induction l with
  | nil => intro c hc; simp at hc
  | cons x r ih =>
    intro c hc
    rw [List.takeWhile_cons] at hc
    split at hc
    · rename_i hx
      rcases List.mem_cons.1 hc with rfl | hc
      · exact hx
      · exact ih c hc
    · simp at hc
theorem while_take (p : UInt8 → Bool) (l : List UInt8) : l.take (l.takeWhile p).length = l.takeWhile p := by
  have := List.takeWhile_append_dropWhile (p := p) (l := l)
  conv => lhs; rw [← this]
  rw [List.take_append_of_le_length (by simp)]
  simp
theorem dec_len10 {n : Nat} (h : n ≤ 4294967296) : (Lib.decDigits n).length ≤ 10 := by
  rw [Lib.decDigits_length]
  suffices H : ∀ k m : Nat, m < 10 ^ (k + 1) → Lib.nDigits m ≤ k + 1 from H 9 n (by omega)
  intro k
  induction k with
  | zero => intro m hm; rw [Lib.nDigits_small (by simpa using hm)]; omega
  | succ k ih =>
    intro m hm
    by_cases h : m < 10
    · rw [Lib.nDigits_small h]; omega
    · rw [Lib.nDigits_big h]
      have := ih (m / 10) (by rw [Nat.pow_succ] at hm; omega)
      omega
end Go.Proofs.YtlpibnbabgfiiaaGreatDoor
