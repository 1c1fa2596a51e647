/-
  Tokens joined again are the same.
-/
import Derived.Test.YtfmflngmhhalhaaTkPlain
namespace Go.Proofs.Ytfmflngmhhalhaa
open Go

theorem gap_suffix : ∀ (b : Bool) (l : List UInt8), gap b l <:+ l
  | b, [] => by cases b <;> simp [gap]
  | false, c :: r => by
    unfold gap
    split
    · exact (gap_suffix false r).trans (List.suffix_cons c r)
    · split
      · exact (gap_suffix true r).trans (List.suffix_cons c r)
      · exact List.suffix_refl _
  | true, c :: r => by
    unfold gap
    split
    · exact (gap_suffix false r).trans (List.suffix_cons c r)
    · exact (gap_suffix true r).trans (List.suffix_cons c r)
theorem tok_cons {a : UInt8} {l t : List UInt8} {k : Int} (h : tokL (a :: l) = (k, t, 0)) : k ≠ 0 ∧ t <+: a :: l := by
  unfold tokL at h
  simp only at h
  by_cases hw : (lowB a || (uppB a || undB a)) = true
  · rw [if_pos hw] at h
    by_cases hn : 40 < ((a :: l).takeWhile inB).length
    · rw [if_pos hn] at h; simp only [Prod.mk.injEq] at h; exact absurd h.2.2 (by decide)
    · rw [if_neg hn] at h
      simp only [Prod.mk.injEq] at h
      refine ⟨?_, by rw [← h.2.1]; exact List.takeWhile_prefix _⟩
      rw [← h.1]
      split <;> decide
  · rw [if_neg hw] at h
    by_cases hd : digB a = true
    · rw [if_pos hd] at h
      by_cases hn : 2147483648 < valD ((a :: l).takeWhile digB)
      · rw [if_pos hn] at h; simp only [Prod.mk.injEq] at h; exact absurd h.2.2 (by decide)
      · rw [if_neg hn] at h
        simp only [Prod.mk.injEq] at h
        exact ⟨by rw [← h.1]; decide, by rw [← h.2.1]; exact List.takeWhile_prefix _⟩
    · rw [if_neg hd] at h
      by_cases hs : symP (a :: l) = []
      · rw [if_pos hs] at h; simp only [Prod.mk.injEq] at h; exact absurd h.2.2 (by decide)
      · rw [if_neg hs] at h
        simp only [Prod.mk.injEq] at h
        exact ⟨by rw [← h.1]; decide, by rw [← h.2.1]; exact (symP_facts _).2.1⟩
/-- A token's text stands at the head, and only the end's is empty. -/
theorem tok_head {l t : List UInt8} {k : Int} (h : tokL l = (k, t, 0)) : t <+: l ∧ (k ≠ 0 → 0 < t.length) ∧ (k = 0 → l = [] ∧ t = []) := by
  cases l with
  | nil =>
    simp only [tokL, Prod.mk.injEq] at h
    obtain ⟨rfl, rfl, _⟩ := h
    exact ⟨List.nil_prefix, fun h => absurd rfl h, fun _ => ⟨rfl, rfl⟩⟩
  | cons a l =>
    obtain ⟨h0, hp⟩ := tok_cons h
    obtain ⟨_, x, s, e, _⟩ := tok_again (r := []) (c := 32) h h0 (by decide)
    exact ⟨hp, fun _ => by rw [e]; simp, fun e => absurd e h0⟩
/-- With time enough a scan without error ends at the end. -/
theorem scan_ended : ∀ (n : Nat) (l : List UInt8), l.length < n → (scanL n l).2.2 = 0 → ∃ ts, (scanL n l).1 = ts ++ [(0, 0, [])] ∧ ∀ t ∈ ts, t.1 ≠ 0
  | 0, l, h, _ => by omega
  | n + 1, l, h, he => by
    have hg := (gap_suffix false l).length_le
    unfold scanL at he ⊢
    simp only at he ⊢
    by_cases h1 : (tokL (gap false l)).2.2 ≠ 0
    · rw [if_pos h1] at he; exact absurd he h1
    · rw [if_neg h1] at he ⊢
      have h3 : (tokL (gap false l)).2.2 = 0 := Classical.not_not.1 h1
      have ht : tokL (gap false l) = ((tokL (gap false l)).1, (tokL (gap false l)).2.1, 0) := by rw [← h3]
      obtain ⟨t1, t2, t3⟩ := tok_head ht
      by_cases h2 : (tokL (gap false l)).1 = 0
      · rw [if_pos h2]
        exact ⟨[], by rw [(t3 h2).1]; rfl, by simp⟩
      · rw [if_neg h2] at he ⊢
        have hlt : ((gap false l).drop (tokL (gap false l)).2.1.length).length < n := by
          have := t2 h2; have := t1.length_le
          rw [List.length_drop]; omega
        by_cases h4 : (scanL n ((gap false l).drop (tokL (gap false l)).2.1.length)).2.2 ≠ 0
        · rw [if_pos h4] at he; exact absurd he h4
        · rw [if_neg h4]
          obtain ⟨ts, e, hk⟩ := scan_ended n _ hlt (Classical.not_not.1 h4)
          refine ⟨_ :: ts, by simp only [e]; rfl, fun t hm => ?_⟩
          rcases List.mem_cons.1 hm with rfl | hm
          · exact h2
          · exact hk t hm
def joinT (sep : List UInt8) (ts : List (Int × Nat × List UInt8)) : List UInt8 := ts.flatMap fun t => t.2.2 ++ sep
def words (ts : List (Int × Nat × List UInt8)) : List (Int × List UInt8) := ts.map fun t => (t.1, t.2.2)
theorem scan_join {sep : List UInt8} (hs : SepOk sep) {z : List UInt8} (hz : gap false z = []) : ∀ (ts : List (Int × Nat × List UInt8)), Toks ts → (∀ t ∈ ts, t.1 ≠ 0) → ∀ (y : List UInt8), gap false y = gap false (joinT sep ts ++ z) → ∀ n, ts.length < n → (scanL n y).2.2 = 0 ∧ words (scanL n y).1 = words ts ++ [(0, [])]
  | [], _, _, y, hy, 0, hn => by simp at hn
  | [], _, _, y, hy, n + 1, _ => by
    have e : gap false y = [] := by rw [hy]; simpa [joinT] using hz
    unfold scanL
    simp [e, tokL, words]
  | t :: ts, _, _, y, hy, 0, hn => by simp at hn
  | t :: ts, hT, hk, y, hy, n + 1, hn => by
    obtain ⟨k, m, x⟩ := t
    obtain ⟨c, q, rfl, hc, hq⟩ := hs
    have hk0 : k ≠ 0 := hk (k, m, x) (by simp)
    obtain ⟨l, hl⟩ := hT.1 hk0
    obtain ⟨h1, x0, s, hx, b1, b2⟩ := tok_again (r := q ++ (joinT (c :: q) ts ++ z)) hl hk0 hc
    have e1 : joinT (c :: q) ((k, m, x) :: ts) ++ z = x ++ c :: (q ++ (joinT (c :: q) ts ++ z)) := by simp [joinT]
    have e2 : gap false y = x ++ c :: (q ++ (joinT (c :: q) ts ++ z)) := by
      rw [hy, e1]
      simp only at hx
      rw [hx, List.cons_append, gap_stop b1 b2]
    have h2 := scan_join (sep := c :: q) ⟨c, q, rfl, hc, hq⟩ hz ts hT.2.2 (fun t ht => hk t (List.mem_cons_of_mem _ ht)) (c :: (q ++ (joinT (c :: q) ts ++ z))) (by rw [gap_spc hc, hq]) n (by simp only [List.length_cons] at hn; omega)
    unfold scanL
    simp only
    rw [e2, h1]
    simp only
    rw [if_neg (by simp), if_neg hk0, List.drop_left, if_neg (by rw [h2.1]; simp)]
    refine ⟨rfl, ?_⟩
    simp only [words, List.map_cons, List.cons_append] at h2 ⊢
    rw [h2.2]
end Go.Proofs.Ytfmflngmhhalhaa
