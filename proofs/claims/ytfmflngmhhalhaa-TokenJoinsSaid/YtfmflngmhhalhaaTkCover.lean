/-
  How the tokens of a text cover it, token by token.
-/
import Derived.Test.YtfmflngmhhalhaaTkMem
namespace Go.Proofs.Ytfmflngmhhalhaa
open Go.RowKit

theorem cell_lt {w : World} {p : Addr} {v : Value} (h : w.cell? p = some v) : p.block < w.heap.size := by
  rcases Nat.lt_or_ge p.block w.heap.size with h1 | h1
  · exact h1
  · simp [World.cell?, Array.getElem?_eq_none h1] at h
/-- From token i on: the offset p is where the search for it begins. -/
def Cov (s : ByteArray) (l : List Tk) (i p : Nat) : Prop := (i = l.length ∧ p = s.size) ∨ (i < l.length ∧ p ≤ s.size ∧ ∃ n, toksAt s n p = (l.drop i, 0, 0) ∧ s.size < p + n)
theorem toks_shape (s : ByteArray) : ∀ (n p : Nat), (toksAt s n p).2.2 = 0 → toksAt s n p = ((toksAt s n p).1, 0, 0)
  | 0, _, _ => rfl
  | n + 1, p, h => by
    by_cases he : (tokAt s p).2.2 = 0
    · by_cases hk : (tokAt s p).1.1 = 0
      · rw [toks_end he hk]
      · rw [toks_next he hk] at h ⊢
        by_cases h3 : (toksAt s n (tokAt s p).2.1).2.2 ≠ 0
        · rw [if_pos h3] at h; exact absurd h h3
        · rw [if_neg h3]
    · rw [toks_err he] at h; exact absurd h he
theorem toks_errs (s : ByteArray) : ∀ (n p : Nat), p ≤ s.size → (toksAt s n p).2.2 ≠ 0 → (toksAt s n p).1 = [] ∧ (toksAt s n p).2.1 ≤ s.size
  | 0, _, _, h => absurd rfl h
  | n + 1, p, hp, h => by
    by_cases he : (tokAt s p).2.2 = 0
    · by_cases hk : (tokAt s p).1.1 = 0
      · rw [toks_end he hk] at h; exact absurd rfl h
      · rw [toks_next he hk] at h ⊢
        by_cases h3 : (toksAt s n (tokAt s p).2.1).2.2 ≠ 0
        · rw [if_pos h3]
          exact toks_errs s n _ (tokAt_in hp) h3
        · rw [if_neg h3] at h; exact absurd rfl h
    · rw [toks_err he]
      exact ⟨rfl, tokAt_in hp⟩
/-- With time enough the last one is the end, and none before it. -/
theorem toks_last (s : ByteArray) : ∀ (n p : Nat), p ≤ s.size → s.size < p + n → (toksAt s n p).2.2 = 0 → ∃ r x, (toksAt s n p).1 = r ++ [x] ∧ x.1 = 0 ∧ ∀ y ∈ r, y.1 ≠ 0
  | 0, p, hp, hn, _ => by omega
  | n + 1, p, hp, hn, h => by
    by_cases he : (tokAt s p).2.2 = 0
    · obtain ⟨t1, t2, t3, t4, t5, t6, _⟩ := tokAt_facts hp he
      by_cases hk : (tokAt s p).1.1 = 0
      · rw [toks_end he hk]
        exact ⟨[], _, rfl, hk, by simp⟩
      · have hpos := t5 hk
        rw [toks_next he hk] at h ⊢
        by_cases h3 : (toksAt s n (tokAt s p).2.1).2.2 ≠ 0
        · rw [if_pos h3] at h; exact absurd h h3
        · rw [if_neg h3]
          obtain ⟨r, x, e, hx, hr⟩ := toks_last s n (tokAt s p).2.1 t4 (by omega) (Classical.not_not.1 h3)
          refine ⟨(tokAt s p).1 :: r, x, by simp only [e]; rfl, hx, fun y hy => ?_⟩
          rcases List.mem_cons.1 hy with rfl | hy
          · exact hk
          · exact hr y hy
    · rw [toks_err he] at h; exact absurd h he
theorem toks_some {s : ByteArray} {n p : Nat} (h0 : 0 < n) (h : (toksAt s n p).2.2 = 0) : (toksAt s n p).1 ≠ [] := by
  obtain ⟨n, rfl⟩ : ∃ m, n = m + 1 := ⟨n - 1, by omega⟩
  by_cases he : (tokAt s p).2.2 = 0
  · by_cases hk : (tokAt s p).1.1 = 0
    · rw [toks_end he hk]; simp
    · rw [toks_next he hk] at h ⊢
      split
      · rename_i h1; rw [if_pos h1] at h; exact absurd h h1
      · simp
  · rw [toks_err he] at h; exact absurd h he
/-- The token i, and what comes behind it. -/
theorem cov_step {s : ByteArray} {l : List Tk} {i p : Nat} (h : Cov s l i p) (hi : i < l.length) :
    ∃ m, p ≤ s.size ∧ tokAt s p = (l.getD i default, m, 0) ∧ Cov s l (i + 1) m := by
  rcases h with ⟨rfl, _⟩ | ⟨_, hp, n, hn, ht⟩
  · omega
  · obtain ⟨n, rfl⟩ : ∃ m, n = m + 1 := ⟨n - 1, by omega⟩
    have hd : l.drop i = l.getD i default :: l.drop (i + 1) := by
      rw [List.drop_eq_getElem_cons hi, List.getD_eq_getElem?_getD, List.getElem?_eq_getElem hi]; rfl
    by_cases he : (tokAt s p).2.2 = 0
    · obtain ⟨t1, t2, t3, t4, t5, t6, _⟩ := tokAt_facts hp he
      by_cases hk : (tokAt s p).1.1 = 0
      · rw [toks_end he hk, hd] at hn
        simp only [Prod.mk.injEq, List.cons.injEq, and_true] at hn
        refine ⟨(tokAt s p).2.1, hp, by rw [← hn.1, ← he], .inl ⟨?_, ?_⟩⟩
        · have := congrArg List.length hn.2
          simp only [List.length_nil, List.length_drop] at this
          omega
        · obtain ⟨h1, h2⟩ := t6 hk
          rw [t2, h1, h2]; rfl
      · rw [toks_next he hk, hd] at hn
        by_cases h3 : (toksAt s n (tokAt s p).2.1).2.2 ≠ 0
        · rw [if_pos h3] at hn; rw [hn] at h3; exact absurd rfl h3
        · rw [if_neg h3] at hn
          have h3' : (toksAt s n (tokAt s p).2.1).2.2 = 0 := Classical.not_not.1 h3
          simp only [Prod.mk.injEq, List.cons.injEq, and_true] at hn
          have hpos := t5 hk
          have hne := toks_some (s := s) (n := n) (p := (tokAt s p).2.1) (by omega) h3'
          refine ⟨(tokAt s p).2.1, hp, by rw [← hn.1, ← he], .inr ⟨?_, t4, n, ?_, by omega⟩⟩
          · rw [hn.2] at hne
            rcases Nat.lt_or_ge (i + 1) l.length with h | h
            · exact h
            · exact absurd (List.drop_eq_nil_of_le h) hne
          · rw [toks_shape s n _ h3', hn.2]
    · rw [toks_err he] at hn
      simp only [Prod.mk.injEq] at hn
      exact absurd hn.2.2 he
theorem scan_cases (s : ByteArray) : ((scanP s).2.2 ≠ 0 ∧ (scanP s).1 = [] ∧ (scanP s).2.1 ≤ s.size) ∨
    ((scanP s).2.2 = 0 ∧ (scanP s).2.1 = 0 ∧ s.size ≤ 16384 ∧ ∃ M, (scanP s).1.length = M + 1 ∧ ((scanP s).1.getD M default).1 = 0 ∧ Cov s (scanP s).1 0 0) := by
  by_cases hbig : 16384 < s.size
  · have e : scanP s = ([], 0, 6) := by unfold scanP; rw [if_pos hbig]
    rw [e]
    exact .inl ⟨by simp, rfl, Nat.zero_le _⟩
  · have e : scanP s = toksAt s (s.size + 1) 0 := by unfold scanP; rw [if_neg hbig]
    rw [e]
    by_cases h : (toksAt s (s.size + 1) 0).2.2 = 0
    · obtain ⟨r, x, e1, hx, _⟩ := toks_last s (s.size + 1) 0 (Nat.zero_le _) (by omega) h
      have hsh := toks_shape s _ _ h
      refine .inr ⟨h, by rw [hsh], by omega, r.length, by rw [e1]; simp, ?_, .inr ⟨by rw [e1]; simp, Nat.zero_le _, s.size + 1, by rw [List.drop_zero]; exact hsh, by omega⟩⟩
      rw [e1, List.getD_eq_getElem?_getD, List.getElem?_append_right (Nat.le_refl _)]
      simpa using hx
    · exact .inl ⟨h, toks_errs s _ _ (Nat.zero_le _) h⟩
end Go.Proofs.Ytfmflngmhhalhaa
