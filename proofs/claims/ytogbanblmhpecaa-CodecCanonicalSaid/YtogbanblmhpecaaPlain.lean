/-
  Plain facts on the codec's numbers, with no program: the base-128 groups of a natural number, the number of an integer, and reading groups back.
-/
namespace Go.Proofs.Ytogbanblmhpecaa

/-- The groups of u, low ones first, all but the last with 128 added. -/
def enc (u : Nat) : List UInt8 :=
  if u < 128 then [UInt8.ofNat u] else UInt8.ofNat (u % 128 + 128) :: enc (u / 128)
termination_by u
decreasing_by omega

/-- The number of an integer. -/
def zig (n : Int) : Nat := if 0 ≤ n then (2 * n).toNat else (-2 * n - 1).toNat
/-- The integer of a number. -/
def zag (u : Nat) : Int := if u % 2 = 0 then ((u / 2 : Nat) : Int) else -((u / 2 : Nat) : Int) - 1

theorem enc_small {u : Nat} (h : u < 128) : enc u = [UInt8.ofNat u] := by rw [enc, if_pos h]
theorem enc_big {u : Nat} (h : 128 ≤ u) : enc u = UInt8.ofNat (u % 128 + 128) :: enc (u / 128) := by rw [enc, if_neg (by omega)]

theorem zag_zig (n : Int) : zag (zig n) = n := by
  unfold zag zig
  by_cases h : 0 ≤ n
  · rw [if_pos h, if_pos (by omega)]; omega
  · rw [if_neg h, if_neg (by omega)]; omega
theorem zig_zag (u : Nat) : zig (zag u) = u := by
  unfold zag zig
  by_cases h : u % 2 = 0
  · rw [if_pos h, if_pos (by omega)]; omega
  · rw [if_neg h, if_neg (by omega)]; omega
theorem zig_inj {n m : Int} (h : zig n = zig m) : n = m := by rw [← zag_zig n, h, zag_zig]
theorem zig_pos {n : Int} (h : 0 ≤ n) : (zig n : Int) = 2 * n := by unfold zig; rw [if_pos h]; omega
theorem zig_neg {n : Int} (h : n < 0) : (zig n : Int) = 2 * (-(n + 1)) + 1 := by unfold zig; rw [if_neg (by omega)]; omega
theorem zig_lt {n : Int} (h1 : -9223372036854775808 ≤ n) (h2 : n ≤ 9223372036854775807) : zig n < 18446744073709551616 := by
  unfold zig
  by_cases h : 0 ≤ n
  · rw [if_pos h]; omega
  · rw [if_neg h]; omega
theorem zag_bd {u : Nat} (h : u < 18446744073709551616) : -9223372036854775808 ≤ zag u ∧ zag u ≤ 9223372036854775807 := by
  unfold zag
  by_cases h0 : u % 2 = 0
  · rw [if_pos h0]; omega
  · rw [if_neg h0]; omega
theorem zag_even {u : Nat} (h : u % 2 = 0) : zag u = ((u / 2 : Nat) : Int) := by unfold zag; rw [if_pos h]
theorem zag_odd {u : Nat} (h : ¬ u % 2 = 0) : zag u = -((u / 2 : Nat) : Int) - 1 := by unfold zag; rw [if_neg h]

theorem enc_len (u : Nat) : 1 ≤ (enc u).length := by
  rw [enc]; split <;> simp

/-- Up to 10 groups where the number has 64 bits. -/
theorem enc_len_le : ∀ (k u : Nat), u < 128 ^ (k + 1) → (enc u).length ≤ k + 1
  | 0, u, h => by rw [enc_small (by simpa using h)]; simp
  | k + 1, u, h => by
    by_cases hu : u < 128
    · rw [enc_small hu]; simp
    · rw [enc_big (by omega)]
      have := enc_len_le k (u / 128) (by rw [Nat.div_lt_iff_lt_mul (by omega)]; rw [Nat.pow_succ] at h; exact h)
      simpa using this
theorem enc_len_10 {u : Nat} (h : u < 18446744073709551616) : (enc u).length ≤ 10 := enc_len_le 9 u (by omega)

theorem byte_toNat {n : Nat} (h : n < 256) : (UInt8.ofNat n).toNat = n := by simp; omega

/-- Reading groups: the number, how many groups, and the code of the error (0: none; 3: the form; 4: too short). -/
def rd (i acc : Nat) : List UInt8 → Nat × Nat × Int
  | [] => (0, 0, 4)
  | x :: r =>
    if i = 9 ∧ 1 < x.toNat then (0, 0, 3)
    else if x.toNat < 128 then (if 0 < i ∧ x.toNat = 0 then (0, 0, 3) else (acc + x.toNat % 128 * 128 ^ i, i + 1, 0))
    else rd (i + 1) (acc + x.toNat % 128 * 128 ^ i) r

theorem pow_step {i : Nat} (h : i < 9) : 128 * 128 ^ (9 - (i + 1)) = 128 ^ (9 - i) := by
  rw [show 9 - i = (9 - (i + 1)) + 1 by omega, Nat.pow_succ, Nat.mul_comm]

/-- What is encoded is read back, whatever follows. -/
theorem rd_enc : ∀ (u i acc : Nat) (rest : List UInt8), i ≤ 9 → u < 2 * 128 ^ (9 - i) → (i = 0 ∨ 0 < u) → rd i acc (enc u ++ rest) = (acc + u * 128 ^ i, i + (enc u).length, 0) := by
  intro u
  induction u using Nat.strongRecOn with
  | ind u ih =>
    intro i acc rest hi hu h0
    by_cases hs : u < 128
    · rw [enc_small hs]
      have e : (UInt8.ofNat u).toNat = u := byte_toNat (by omega)
      simp only [List.cons_append, List.nil_append, rd, e]
      rw [if_neg, if_pos hs, if_neg, Nat.mod_eq_of_lt hs]
      · simp
      · omega
      · rintro ⟨rfl, h1⟩
        simp at hu
        omega
    · have hi9 : i < 9 := by
        rcases Nat.lt_or_ge i 9 with h | h
        · exact h
        · obtain rfl : i = 9 := by omega
          simp at hu
          omega
      rw [enc_big (by omega)]
      have e : (UInt8.ofNat (u % 128 + 128)).toNat = u % 128 + 128 := byte_toNat (by omega)
      simp only [List.cons_append, rd, e]
      rw [if_neg (by omega), if_neg (by omega), ih (u / 128) (by omega) (i + 1) _ rest (by omega) (by have := pow_step hi9; omega) (by omega)]
      have e1 : (u % 128 + 128) % 128 = u % 128 := by omega
      have e2 : u % 128 * 128 ^ i + u / 128 * 128 ^ (i + 1) = u * 128 ^ i := by
        rw [Nat.pow_succ, ← Nat.mul_assoc, Nat.mul_right_comm, ← Nat.add_mul]
        congr 1
        omega
      simp only [e1, List.length_cons, Prod.mk.injEq]
      refine ⟨by omega, by omega, trivial⟩

/-- What is read is an encoding. -/
theorem rd_ok : ∀ (l : List UInt8) (i acc v s : Nat), i ≤ 9 → rd i acc l = (v, s, 0) →
    ∃ u, v = acc + u * 128 ^ i ∧ s = i + (enc u).length ∧ enc u = l.take (enc u).length ∧ u < 2 * 128 ^ (9 - i) ∧ (i = 0 ∨ 0 < u)
  | [], i, acc, v, s, _, h => by simp [rd] at h
  | x :: r, i, acc, v, s, hi, h => by
    have hx : x.toNat < 256 := x.toNat_lt
    simp only [rd] at h
    by_cases h1 : i = 9 ∧ 1 < x.toNat
    · rw [if_pos h1] at h; simp at h
    · rw [if_neg h1] at h
      by_cases h2 : x.toNat < 128
      · rw [if_pos h2] at h
        by_cases h3 : 0 < i ∧ x.toNat = 0
        · rw [if_pos h3] at h; simp at h
        · rw [if_neg h3, Nat.mod_eq_of_lt h2] at h
          simp only [Prod.mk.injEq] at h
          have hp : 1 ≤ 128 ^ (9 - i) := Nat.pow_pos (by omega)
          refine ⟨x.toNat, h.1.symm, by rw [enc_small h2]; simpa using h.2.1.symm, by rw [enc_small h2]; simp, ?_, by omega⟩
          rcases Nat.lt_or_ge i 9 with h9 | h9
          · have hp' : 1 ≤ 128 ^ (9 - (i + 1)) := Nat.pow_pos (by omega)
            have := pow_step h9
            omega
          · omega
      · rw [if_neg h2] at h
        have h9 : i < 9 := by omega
        obtain ⟨u, e1, e2, e3, e4, e5⟩ := rd_ok r (i + 1) _ v s (by omega) h
        have hps := pow_step h9
        have hb : 128 ≤ u * 128 + x.toNat % 128 := by omega
        have hd : (u * 128 + x.toNat % 128) / 128 = u := by omega
        have hm : (u * 128 + x.toNat % 128) % 128 = x.toNat % 128 := by omega
        refine ⟨u * 128 + x.toNat % 128, ?_, ?_, ?_, by omega, .inr (by omega)⟩
        · rw [e1, Nat.pow_succ, Nat.add_mul, Nat.mul_comm (128 ^ i) 128, ← Nat.mul_assoc]
          omega
        · rw [enc_big hb, hd]; simp; omega
        · rw [enc_big hb, hd, hm]
          have hxe : UInt8.ofNat (x.toNat % 128 + 128) = x := by
            apply UInt8.toNat_inj.1
            rw [byte_toNat (by omega)]
            omega
          rw [hxe, List.length_cons, List.take_succ_cons, ← e3]

/-- From the start: a number of 64 bits. -/
theorem rd_enc0 {u : Nat} (h : u < 18446744073709551616) (rest : List UInt8) : rd 0 0 (enc u ++ rest) = (u, (enc u).length, 0) := by
  rw [rd_enc u 0 0 rest (by omega) (by omega) (.inl rfl)]; simp
theorem rd_ok0 {l : List UInt8} {v s : Nat} (h : rd 0 0 l = (v, s, 0)) : s = (enc v).length ∧ enc v = l.take s ∧ v < 18446744073709551616 ∧ 1 ≤ s ∧ s ≤ l.length := by
  obtain ⟨u, e1, e2, e3, e4, _⟩ := rd_ok l 0 0 v s (by omega) h
  obtain rfl : v = u := by simpa using e1
  obtain rfl : s = (enc v).length := by simpa using e2
  refine ⟨rfl, e3, by omega, enc_len v, ?_⟩
  have := congrArg List.length e3
  rw [List.length_take] at this
  omega
theorem rd_err {l : List UInt8} : ∀ {i acc : Nat}, (rd i acc l).2.2 ≠ 0 → rd i acc l = (0, 0, (rd i acc l).2.2) := by
  induction l with
  | nil => intro i acc _; rfl
  | cons x r ih =>
    intro i acc
    simp only [rd]
    repeat' split
    · intro _; rfl
    · intro _; rfl
    · intro h; simp at h
    · exact ih

/-- No encoding begins with another one. -/
theorem enc_prefix {u v : Nat} (hu : u < 18446744073709551616) (hv : v < 18446744073709551616) (h : enc u <+: enc v) : u = v := by
  obtain ⟨r, hr⟩ := h
  have h1 := rd_enc0 hv []
  rw [List.append_nil, ← hr, rd_enc0 hu r] at h1
  simp only [Prod.mk.injEq] at h1
  exact h1.1

end Go.Proofs.Ytogbanblmhpecaa
