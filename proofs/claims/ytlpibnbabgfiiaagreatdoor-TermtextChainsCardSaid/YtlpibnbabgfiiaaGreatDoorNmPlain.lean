/-
  Plain facts of names: the kinds of words, decimal numerals, labels of variables.
-/
import Derived.Lib.ItoaNum
import Derived.Lib.AtoiAllCases
import Derived.Lib.Strings
namespace Go.Proofs.YtlpibnbabgfiiaaGreatDoor
open Go

/-! ### Bytes and words -/
def lowB (c : UInt8) : Bool := decide (97 ≤ c.toNat ∧ c.toNat ≤ 122)
def uppB (c : UInt8) : Bool := decide (65 ≤ c.toNat ∧ c.toNat ≤ 90)
def digB (c : UInt8) : Bool := decide (48 ≤ c.toNat ∧ c.toNat ≤ 57)
def undB (c : UInt8) : Bool := decide (c.toNat = 95)
def inB (c : UInt8) : Bool := lowB c || uppB c || digB c || undB c
def wordB (l : List UInt8) : Bool := decide (1 ≤ l.length) && (decide (l.length ≤ 40) && l.all inB)
def reserved : List (List UInt8) := [[99, 111, 110, 115, 116, 114, 97, 105, 110, 116], [116, 114, 117, 101], [102, 97, 105, 108], [105, 115], [105, 110, 116], [103, 114, 111, 117, 110, 100]]
def operators : List (List UInt8) := [[43], [45], [42], [47], [37]]
def resB (l : List UInt8) : Bool := decide (l ∈ reserved)
def opB (l : List UInt8) : Bool := decide (l ∈ operators)
def rightB (l : List UInt8) : Bool := wordB l && (lowB (l.getD 0 0) && !resB l)
def varB (l : List UInt8) : Bool := wordB l && (uppB (l.getD 0 0) || undB (l.getD 0 0))

theorem wordB_iff (l : List UInt8) : wordB l = true ↔ 1 ≤ l.length ∧ l.length ≤ 40 ∧ ∀ c ∈ l, inB c = true := by
  simp [wordB]
theorem low_upp {c : UInt8} (h : lowB c = true) : uppB c = false ∧ undB c = false := by
  simp only [lowB, uppB, undB, decide_eq_true_eq, decide_eq_false_iff_not] at *
  omega
theorem head_in {l : List UInt8} (h : wordB l = true) : inB (l.getD 0 0) = true := by
  obtain ⟨h1, _, h3⟩ := (wordB_iff l).1 h
  refine h3 _ ?_
  rcases l with _ | ⟨c, r⟩
  · simp at h1
  · simp
theorem right_var {l : List UInt8} (h : rightB l = true) : varB l = false := by
  simp only [rightB, varB, Bool.and_eq_true] at *
  obtain ⟨h1, h2, h3⟩ := h
  obtain ⟨e1, e2⟩ := low_upp h2
  rw [h1, e1, e2]
  rfl
theorem right_res {l : List UInt8} (h : rightB l = true) : resB l = false := by
  simp only [rightB, Bool.and_eq_true, Bool.not_eq_true'] at h
  exact h.2.2
theorem op_word {l : List UInt8} (h : opB l = true) : wordB l = false ∧ resB l = false := by
  simp only [opB, operators, List.mem_cons, List.not_mem_nil, or_false, decide_eq_true_eq] at h
  rcases h with rfl | rfl | rfl | rfl | rfl <;> decide
theorem op_right {l : List UInt8} (h : opB l = true) : rightB l = false ∧ varB l = false ∧ resB l = false := by
  obtain ⟨h1, h2⟩ := op_word h
  simp [rightB, varB, h1, h2]
theorem res_var {l : List UInt8} (h : resB l = true) : varB l = false ∧ opB l = false ∧ rightB l = false := by
  simp only [resB, reserved, List.mem_cons, List.not_mem_nil, or_false, decide_eq_true_eq] at h
  rcases h with rfl | rfl | rfl | rfl | rfl | rfl <;> decide
theorem right_op {l : List UInt8} (h : rightB l = true) : opB l = false := by
  cases ho : opB l
  · rfl
  · rw [(op_right ho).1] at h; cases h
theorem var_right {l : List UInt8} (h : varB l = true) : rightB l = false := by
  cases ho : rightB l
  · rfl
  · rw [right_var ho] at h; cases h
theorem var_op {l : List UInt8} (h : varB l = true) : opB l = false := by
  cases ho : opB l
  · rfl
  · rw [(op_right ho).2.1] at h; cases h
theorem var_res {l : List UInt8} (h : varB l = true) : resB l = false := by
  cases ho : resB l
  · rfl
  · rw [(res_var ho).1] at h; cases h

/-! ### With an underscore behind -/
theorem und_last {l m : List UInt8} (h : l ++ [95] = m) : m.getLast? = some 95 := by rw [← h]; simp
theorem res_und (l : List UInt8) : resB (l ++ [95]) = false := by
  simp only [resB, reserved, List.mem_cons, List.not_mem_nil, or_false, decide_eq_false_iff_not]
  intro h
  rcases h with h | h | h | h | h | h <;> exact absurd (und_last h) (by decide)
theorem op_und (l : List UInt8) : opB (l ++ [95]) = false := by
  simp only [opB, operators, List.mem_cons, List.not_mem_nil, or_false, decide_eq_false_iff_not]
  intro h
  rcases h with h | h | h | h | h <;> exact absurd (und_last h) (by decide)
theorem word_und {l : List UInt8} (h : wordB l = true) (hs : l.length < 40) : wordB (l ++ [95]) = true := by
  rw [wordB_iff] at h ⊢
  obtain ⟨h1, h2, h3⟩ := h
  refine ⟨by simp, by simp; omega, fun c hc => ?_⟩
  rcases List.mem_append.1 hc with h | h
  · exact h3 c h
  · obtain rfl := List.mem_singleton.1 h
    decide
theorem head_und {l : List UInt8} (h : wordB l = true) : (l ++ [95]).getD 0 0 = l.getD 0 0 := by
  obtain ⟨h1, _, _⟩ := (wordB_iff l).1 h
  rcases l with _ | ⟨c, r⟩
  · simp at h1
  · simp
theorem right_und {l : List UInt8} (h : rightB l = true) (hs : l.length < 40) : rightB (l ++ [95]) = true := by
  simp only [rightB, Bool.and_eq_true] at h
  simp only [rightB, word_und h.1 hs, head_und h.1, h.2.1, res_und]
  rfl
theorem var_und {l : List UInt8} (h : varB l = true) (hs : l.length < 40) : varB (l ++ [95]) = true := by
  simp only [varB, Bool.and_eq_true] at h
  simp only [varB, word_und h.1 hs, head_und h.1, h.2]
  rfl
theorem res_right_und {l : List UInt8} (h : resB l = true) : rightB (l ++ [95]) = true := by
  simp only [resB, reserved, List.mem_cons, List.not_mem_nil, or_false, decide_eq_true_eq] at h
  rcases h with rfl | rfl | rfl | rfl | rfl | rfl <;> decide

/-! ### Decimal numerals -/
theorem dec_small {n : Nat} (h : n < 10) : Lib.decDigits n = [UInt8.ofNat (48 + n)] := by rw [Lib.decDigits, dif_pos h]
theorem dec_big {n : Nat} (h : ¬ n < 10) : Lib.decDigits n = Lib.decDigits (n / 10) ++ [UInt8.ofNat (48 + n % 10)] := by rw [Lib.decDigits, dif_neg h]
theorem digit_nat {d : Nat} (h : d < 10) : (UInt8.ofNat (48 + d)).toNat = 48 + d := by
  simp only [UInt8.toNat_ofNat']; omega
theorem dec_digit (n : Nat) : ∀ c ∈ Lib.decDigits n, 48 ≤ c.toNat ∧ c.toNat ≤ 57 := by
  induction n using Nat.strongRecOn with
  | _ n ih =>
    intro c hc
    by_cases h : n < 10
    · rw [dec_small h] at hc
      obtain rfl := List.mem_singleton.1 hc
      rw [digit_nat h]; omega
    · rw [dec_big h] at hc
      rcases List.mem_append.1 hc with h1 | h1
      · exact ih (n / 10) (by omega) c h1
      · obtain rfl := List.mem_singleton.1 h1
        rw [digit_nat (by omega)]; omega
theorem dec_len (n : Nat) : 1 ≤ (Lib.decDigits n).length := by rw [Lib.decDigits_length]; exact Lib.nDigits_pos n
theorem dec_len7 {n : Nat} (h : n ≤ 1048576) : (Lib.decDigits n).length ≤ 7 := by
  rw [Lib.decDigits_length]
  suffices H : ∀ k m : Nat, m < 10 ^ (k + 1) → Lib.nDigits m ≤ k + 1 from H 6 n (by omega)
  intro k
  induction k with
  | zero => intro m hm; rw [Lib.nDigits_small (by simpa using hm)]; omega
  | succ k ih =>
    intro m hm
    by_cases h : m < 10
    · rw [Lib.nDigits_small h]; omega
    · rw [Lib.nDigits_big h]
      have := ih (m / 10) (by rw [Nat.pow_succ] at hm; omega)
      omega

/-- What a row of digits spells. -/
def spell (l : List UInt8) : Nat := l.foldl (fun a c => 10 * a + (c.toNat - 48)) 0
theorem spell_snoc (l : List UInt8) (c : UInt8) : spell (l ++ [c]) = 10 * spell l + (c.toNat - 48) := by simp [spell]
theorem spell_dec (n : Nat) : spell (Lib.decDigits n) = n := by
  induction n using Nat.strongRecOn with
  | _ n ih =>
    by_cases h : n < 10
    · rw [dec_small h]
      show 10 * 0 + ((UInt8.ofNat (48 + n)).toNat - 48) = n
      rw [digit_nat h]; omega
    · rw [dec_big h, spell_snoc, ih (n / 10) (by omega), digit_nat (by omega)]; omega
theorem spell_lt (l : List UInt8) (h : ∀ c ∈ l, c.toNat ≤ 57) : spell l < 10 ^ l.length := by
  suffices H : ∀ (m : List UInt8), (∀ c ∈ m, c.toNat ≤ 57) → spell m.reverse < 10 ^ m.length by
    have := H l.reverse (fun c hc => h c (by simpa using hc))
    simpa using this
  intro m
  induction m with
  | nil => intro _; simp [spell]
  | cons c r ih =>
    intro hm
    rw [List.reverse_cons, spell_snoc, List.length_cons, Nat.pow_succ]
    have h1 := ih (fun x hx => hm x (List.mem_cons_of_mem _ hx))
    have h2 := hm c List.mem_cons_self
    omega

theorem pu_snoc : ∀ (l : List UInt8) (acc u : Nat) (c : UInt8), Lib.parseUint10 acc l = .ok u → 48 ≤ c.toNat → c.toNat ≤ 57 → u < 1844674407370955161 →
    Lib.parseUint10 acc (l ++ [c]) = .ok (u * 10 + (c.toNat - 48))
  | [], acc, u, c, h, h1, h2, h3 => by
    simp only [Lib.parseUint10] at h
    injection h with h
    subst h
    simp only [List.nil_append, Lib.parseUint10]
    rw [if_pos ⟨h1, h2⟩, if_neg (by omega), if_neg (by omega)]
  | x :: l, acc, u, c, h, h1, h2, h3 => by
    simp only [Lib.parseUint10] at h
    simp only [List.cons_append, Lib.parseUint10]
    split at h
    · rename_i hx
      split at h
      · cases h
      · rename_i hy
        split at h
        · cases h
        · rename_i hz
          rw [if_pos hx, if_neg hy, if_neg hz]
          exact pu_snoc l _ u c h h1 h2 h3
    · cases h
theorem pu_dec (n : Nat) (hn : n < 1000000000000000000) : Lib.parseUint10 0 (Lib.decDigits n) = .ok n := by
  induction n using Nat.strongRecOn with
  | _ n ih =>
    by_cases h : n < 10
    · rw [dec_small h]
      have := pu_snoc [] 0 0 (UInt8.ofNat (48 + n)) rfl (by rw [digit_nat h]; omega) (by rw [digit_nat h]; omega) (by omega)
      rw [digit_nat h] at this
      rw [show n = 0 * 10 + (48 + n - 48) by omega]
      simpa using this
    · rw [dec_big h]
      have := pu_snoc _ 0 (n / 10) (UInt8.ofNat (48 + n % 10)) (ih (n / 10) (by omega) (by omega)) (by rw [digit_nat (by omega)]; omega) (by rw [digit_nat (by omega)]; omega) (by omega)
      rw [digit_nat (by omega)] at this
      rw [this]
      congr 1
      omega
theorem atoi_dec {n : Nat} (hn : n ≤ 1048576) : Lib.atoiAll (Lib.decDigits n) = .ok (n : Int) := by
  have hl := dec_len n
  have hd := dec_digit n
  have hp := pu_dec n (by omega)
  generalize Lib.decDigits n = l at hl hd hp
  rcases l with _ | ⟨c, r⟩
  · simp at hl
  · have hc := hd c List.mem_cons_self
    have h43 : c.toNat ≠ 43 := by omega
    have h45 : c.toNat ≠ 45 := by omega
    have hm : Lib.parseMag (c :: r) = .ok n := by
      unfold Lib.parseMag
      rw [if_neg (by simp), hp]
    simp only [Lib.atoiAll, h43, h45, or_self, if_false, hm]
    rw [if_neg (by omega), if_neg (by simp)]

/-! ### Labels -/
def label (n : Nat) : List UInt8 := 86 :: Lib.decDigits n
theorem label_inj {n m : Nat} (h : label n = label m) : n = m := by
  unfold label at h
  injection h with _ h
  rw [← spell_dec n, h, spell_dec]
theorem label_len {n : Nat} (h : n ≤ 1048576) : 2 ≤ (label n).length ∧ (label n).length ≤ 8 := by
  have h1 := dec_len n
  have h2 := dec_len7 h
  simp only [label, List.length_cons]
  omega
theorem label_var {n : Nat} (h : n ≤ 1048576) : varB (label n) = true := by
  have h1 := label_len h
  have hw : wordB (label n) = true := by
    rw [wordB_iff]
    refine ⟨by omega, by omega, fun c hc => ?_⟩
    rcases List.mem_cons.1 hc with rfl | hc
    · decide
    · have := dec_digit n c hc
      simp only [inB, digB, this, and_self, decide_true, Bool.or_true, Bool.true_or]
  simp only [varB, hw, Bool.true_and]
  rfl
theorem label_right {n : Nat} (h : n ≤ 1048576) : rightB (label n) = false := var_right (label_var h)
theorem label_ne (n : Nat) : label n ≠ [] := by simp [label]

/-- The bytes are the label of the number n. -/
def IsLabel (l : List UInt8) (n : Nat) : Prop := n ≤ 1048576 ∧ l = label n
/-- The bytes are no label. -/
def NoLabel (l : List UInt8) : Prop := ∀ n, n ≤ 1048576 → l ≠ label n
theorem label_or (l : List UInt8) : (∃ n, IsLabel l n) ∨ NoLabel l := by
  by_cases h : ∃ n, IsLabel l n
  · exact .inl h
  · exact .inr fun n hn e => h ⟨n, hn, e⟩
theorem noLabel_nil : NoLabel [] := fun n _ h => label_ne n h.symm

/-- What is cut off of a label. -/
theorem trim_label (n : Nat) : Lib.trimPrefix (label n) [86] = Lib.decDigits n := by
  have : Lib.hasPrefix (label n) [86] = true := by simp [Lib.hasPrefix, label]
  unfold Lib.trimPrefix
  rw [if_pos this]
  rfl
end Go.Proofs.YtlpibnbabgfiiaaGreatDoor
