/-
  Tokens, in plain words: gaps, symbols, the token at the head of a list of bytes, all tokens of a text.
-/
import Derived.Test.YtfmflngmhhalhaaNmPlain
namespace Go.Proofs.Ytfmflngmhhalhaa
open Go

def spcB (c : UInt8) : Bool := c == 32 || c == 9 || c == 10 || c == 13
/-- What stands behind white space and comments (true: within a comment). -/
def gap : Bool → List UInt8 → List UInt8
  | _, [] => []
  | false, c :: r => if spcB c = true then gap false r else if c = 35 then gap true r else c :: r
  | true, c :: r => if c = 10 then gap false r else gap true r
def syms : List (List UInt8) := [[64], [44], [46], [40], [41], [124], [47], [92], [43], [45], [42], [37], [61], [61, 61], [92, 61], [60], [61, 60], [62], [62, 61], [61, 58, 61], [61, 92, 61], [60, 61, 62], [61, 61, 62]]
def symStep (l b x : List UInt8) : List UInt8 := if (x.isPrefixOf l && decide (b.length < x.length)) = true then x else b
/-- The longest symbol with which l begins. -/
def symP (l : List UInt8) : List UInt8 := syms.foldl (symStep l) []
def valD (l : List UInt8) : Int := l.foldl (fun n c => min (n * 10 + (c.toNat - 48 : Int)) 2147483649) 0
/-- Kind, text and error of the token at the head. -/
def tokL (l : List UInt8) : Int × List UInt8 × Int :=
  match l with
  | [] => (0, [], 0)
  | c :: _ =>
    if (lowB c || (uppB c || undB c)) = true then
      if 40 < (l.takeWhile inB).length then (0, [], 7) else (if lowB c = true then 1 else 2, l.takeWhile inB, 0)
    else if digB c = true then
      if 2147483648 < valD (l.takeWhile digB) then (0, [], 5) else (3, l.takeWhile digB, 0)
    else if symP l = [] then (0, [], 16) else (4, symP l, 0)
/-- All tokens: kind, how much of the text is left where it begins, text; what is left at the first error, and the error. -/
def scanL : Nat → List UInt8 → List (Int × Nat × List UInt8) × Nat × Int
  | 0, _ => ([], 0, 0)
  | n + 1, l =>
    let g := gap false l
    let t := tokL g
    if t.2.2 ≠ 0 then ([], g.length, t.2.2)
    else if t.1 = 0 then ([(0, g.length, [])], 0, 0)
    else
      let s := scanL n (g.drop t.2.1.length)
      if s.2.2 ≠ 0 then s else ((t.1, g.length, t.2.1) :: s.1, 0, 0)

/-! ### Symbols -/
theorem symStep_cases (l b x : List UInt8) : (symStep l b x = x ∧ x <+: l ∧ b.length < x.length) ∨ (symStep l b x = b ∧ ¬ (x <+: l ∧ b.length < x.length)) := by
  unfold symStep
  by_cases h : (x.isPrefixOf l && decide (b.length < x.length)) = true
  · rw [if_pos h]
    simp only [Bool.and_eq_true, List.isPrefixOf_iff_prefix, decide_eq_true_eq] at h
    exact .inl ⟨rfl, h⟩
  · rw [if_neg h]
    simp only [Bool.and_eq_true, List.isPrefixOf_iff_prefix, decide_eq_true_eq] at h
    exact .inr ⟨rfl, h⟩
theorem symF_facts (l : List UInt8) : ∀ (L : List (List UInt8)) (b : List UInt8), (L.foldl (symStep l) b = b ∨ (L.foldl (symStep l) b ∈ L ∧ L.foldl (symStep l) b <+: l)) ∧ b.length ≤ (L.foldl (symStep l) b).length ∧ ∀ x ∈ L, x <+: l → x.length ≤ (L.foldl (symStep l) b).length := by
  intro L
  induction L with
  | nil => intro b; simp
  | cons y L ih =>
    intro b
    obtain ⟨h1, h2, h3⟩ := ih (symStep l b y)
    rw [List.foldl_cons]
    rcases symStep_cases l b y with ⟨e, hp, hl⟩ | ⟨e, hn⟩
    · rw [e] at h1 h2 h3 ⊢
      refine ⟨.inr ?_, by omega, fun x hx hxl => ?_⟩
      · rcases h1 with h1 | h1
        · rw [h1]; exact ⟨by simp, hp⟩
        · exact ⟨List.mem_cons_of_mem _ h1.1, h1.2⟩
      · rcases List.mem_cons.1 hx with rfl | hx
        · exact h2
        · exact h3 x hx hxl
    · rw [e] at h1 h2 h3 ⊢
      refine ⟨?_, h2, fun x hx hxl => ?_⟩
      · rcases h1 with h1 | h1
        · exact .inl h1
        · exact .inr ⟨List.mem_cons_of_mem _ h1.1, h1.2⟩
      · rcases List.mem_cons.1 hx with rfl | hx
        · by_cases h : b.length < x.length
          · exact absurd ⟨hxl, h⟩ hn
          · omega
        · exact h3 x hx hxl
theorem symP_facts (l : List UInt8) : (symP l = [] ∨ symP l ∈ syms) ∧ symP l <+: l ∧ ∀ x ∈ syms, x <+: l → x.length ≤ (symP l).length := by
  obtain ⟨h1, _, h3⟩ := symF_facts l syms []
  refine ⟨h1.imp id (·.1), ?_, h3⟩
  rcases h1 with h1 | h1
  · unfold symP; rw [h1]; exact List.nil_prefix
  · exact h1.2
/-- The longest is one: two prefixes of one length are the same. -/
theorem symP_unique {l x : List UInt8} (hx : x ∈ syms) (hp : x <+: l) (hm : ∀ y ∈ syms, y <+: l → y.length ≤ x.length) : symP l = x := by
  obtain ⟨h1, h2, h3⟩ := symP_facts l
  have h4 := h3 x hx hp
  have hx0 : 0 < x.length := (show ∀ y ∈ syms, 0 < y.length by decide) x hx
  have h5 : symP l ∈ syms := h1.resolve_left fun e => by
    rw [e] at h4
    simp only [List.length_nil] at h4
    omega
  have h6 := hm _ h5 h2
  have h7 : (symP l).length = x.length := by omega
  rw [List.prefix_iff_eq_take] at h2 hp
  rw [h2, hp, h7]
def symByteB (c : UInt8) : Bool := !spcB c && (c != 35 && (!lowB c && (!uppB c && (!undB c && !digB c))))
theorem sym_bytes (x : List UInt8) (hx : x ∈ syms) (c : UInt8) (hc : c ∈ x) : spcB c = false ∧ c ≠ 35 ∧ lowB c = false ∧ uppB c = false ∧ undB c = false ∧ digB c = false := by
  have h := List.all_eq_true.1 (List.all_eq_true.1 (show (syms.all fun x => x.all symByteB) = true by decide) x hx) c hc
  simpa [symByteB] using h
/-- A prefix of 't, c, ..' without c is one of t. -/
theorem pre_of {x t r : List UInt8} {c : UInt8} (h : x <+: t ++ c :: r) (hc : c ∉ x) : x <+: t := by
  rcases Nat.lt_or_ge t.length x.length with h1 | h1
  · exact absurd (by
      obtain ⟨s, hs⟩ := h
      have h2 : (x ++ s)[t.length]? = some c := by rw [hs]; simp
      rw [List.getElem?_append_left h1] at h2
      exact List.mem_of_getElem? h2) hc
  · exact (List.prefix_append_right_inj []).1 (by simpa using List.prefix_of_prefix_length_le h (List.prefix_append t (c :: r)) h1)
theorem symP_sep {l r : List UInt8} {c : UInt8} (h : symP l ≠ []) (hc : spcB c = true) : symP (symP l ++ c :: r) = symP l := by
  obtain ⟨h1, h2, h3⟩ := symP_facts l
  have h4 := h1.resolve_left h
  refine symP_unique h4 (List.prefix_append _ _) fun y hy hp => ?_
  have h5 : y <+: symP l := pre_of hp fun hm => by
    have := (sym_bytes y hy c hm).1
    rw [hc] at this; cases this
  exact h5.length_le

/-! ### Words and numbers -/
theorem take_sep {k : UInt8 → Bool} {l r : List UInt8} {c : UInt8} (hc : k c = false) : (l.takeWhile k ++ c :: r).takeWhile k = l.takeWhile k := by
  induction l with
  | nil => simp [hc]
  | cons x l ih =>
    by_cases hx : k x = true
    · simp [hx, ih]
    · simp [hx, hc]
theorem spc_out {c : UInt8} (h : spcB c = true) : inB c = false ∧ digB c = false := by
  simp only [spcB, Bool.or_eq_true, beq_iff_eq] at h
  rcases h with ((rfl | rfl) | rfl) | rfl <;> decide
/-- A token's text, followed by white space, is this token. -/
theorem tok_again {l r t : List UInt8} {k : Int} {c : UInt8} (h : tokL l = (k, t, 0)) (hk : k ≠ 0) (hc : spcB c = true) : tokL (t ++ c :: r) = (k, t, 0) ∧ ∃ x s, t = x :: s ∧ spcB x = false ∧ x ≠ 35 := by
  obtain ⟨o1, o2⟩ := spc_out hc
  cases l with
  | nil => simp only [tokL, Prod.mk.injEq] at h; exact absurd h.1.symm hk
  | cons a l =>
    unfold tokL at h
    simp only at h
    by_cases hw : (lowB a || (uppB a || undB a)) = true
    · have hi : inB a = true := by
        simp only [Bool.or_eq_true] at hw
        simp only [inB, Bool.or_eq_true]
        rcases hw with h | h | h
        · exact .inl (.inl (.inl h))
        · exact .inl (.inl (.inr h))
        · exact .inr h
      rw [if_pos hw] at h
      by_cases hn : 40 < ((a :: l).takeWhile inB).length
      · rw [if_pos hn] at h; simp only [Prod.mk.injEq] at h; exact absurd h.2.2 (by decide)
      · rw [if_neg hn] at h
        simp only [Prod.mk.injEq] at h
        obtain ⟨h1, rfl, _⟩ := h
        have e : (a :: l).takeWhile inB = a :: l.takeWhile inB := by simp [hi]
        refine ⟨?_, a, l.takeWhile inB, e, ?_⟩
        · have h2 := take_sep (l := a :: l) (r := r) o1
          rw [e] at h2 hn ⊢
          unfold tokL
          simp only [List.cons_append] at h2 ⊢
          rw [if_pos hw, h2, if_neg hn, h1]
        · refine ⟨?_, ?_⟩
          · cases hs : spcB a with
            | false => rfl
            | true => rw [(spc_out hs).1] at hi; cases hi
          · rintro rfl; exact absurd hi (by decide)
    · rw [if_neg hw] at h
      by_cases hd : digB a = true
      · rw [if_pos hd] at h
        by_cases hn : 2147483648 < valD ((a :: l).takeWhile digB)
        · rw [if_pos hn] at h; simp only [Prod.mk.injEq] at h; exact absurd h.2.2 (by decide)
        · rw [if_neg hn] at h
          simp only [Prod.mk.injEq] at h
          obtain ⟨h1, rfl, _⟩ := h
          have e : (a :: l).takeWhile digB = a :: l.takeWhile digB := by simp [hd]
          refine ⟨?_, a, l.takeWhile digB, e, ?_⟩
          · have h2 := take_sep (l := a :: l) (r := r) o2
            rw [e] at h2 hn ⊢
            unfold tokL
            simp only [List.cons_append] at h2 ⊢
            rw [if_neg hw, if_pos hd, h2, if_neg hn, h1]
          · refine ⟨?_, ?_⟩
            · cases hs : spcB a with
              | false => rfl
              | true => rw [(spc_out hs).2] at hd; cases hd
            · rintro rfl; exact absurd hd (by decide)
      · rw [if_neg hd] at h
        by_cases hs : symP (a :: l) = []
        · rw [if_pos hs] at h; simp only [Prod.mk.injEq] at h; exact absurd h.2.2 (by decide)
        · rw [if_neg hs] at h
          simp only [Prod.mk.injEq] at h
          obtain ⟨h1, rfl, _⟩ := h
          have hm := (symP_facts (a :: l)).1.resolve_left hs
          obtain ⟨x, s, e⟩ : ∃ x s, symP (a :: l) = x :: s := by
            cases he : symP (a :: l) with
            | nil => exact absurd he hs
            | cons x s => exact ⟨x, s, rfl⟩
          obtain ⟨b1, b2, b3, b4, b5, b6⟩ := sym_bytes _ hm x (by rw [e]; simp)
          refine ⟨?_, x, s, e, b1, b2⟩
          have h2 := symP_sep (r := r) hs hc
          rw [e] at h2 ⊢
          unfold tokL
          simp only [List.cons_append] at h2 ⊢
          rw [h2, if_neg (by rw [b3, b4, b5]; decide), if_neg (by rw [b6]; decide), if_neg (by simp), h1]

/-! ### Joined again -/
theorem gap_stop {x : UInt8} {s : List UInt8} (h1 : spcB x = false) (h2 : x ≠ 35) : gap false (x :: s) = x :: s := by
  simp [gap, h1, h2]
theorem gap_spc {c : UInt8} {s : List UInt8} (h : spcB c = true) : gap false (c :: s) = gap false s := by
  simp [gap, h]
theorem gap_note (n s : List UInt8) (h : 10 ∉ n) : gap true (n ++ 10 :: s) = gap false s := by
  induction n with
  | nil => simp [gap]
  | cons x n ih =>
    simp only [List.mem_cons, not_or] at h
    rw [List.cons_append, gap, if_neg (fun e => h.1 e.symm), ih h.2]
/-- What may stand between tokens, and begins with white space. -/
def SepOk (sep : List UInt8) : Prop := ∃ c q, sep = c :: q ∧ spcB c = true ∧ ∀ s, gap false (q ++ s) = gap false s
theorem sep_one : SepOk [32] := ⟨32, [], rfl, by decide, fun _ => rfl⟩
theorem sep_note {n : List UInt8} (h : 10 ∉ n) : SepOk (9 :: 35 :: (n ++ [10])) := ⟨9, 35 :: (n ++ [10]), rfl, by decide, fun s => by
  rw [List.cons_append, gap, if_neg (by decide), if_pos rfl, List.append_assoc]
  exact gap_note n s h⟩
/-- Each is a token of some text; the last one is the end. -/
def Toks : List (Int × Nat × List UInt8) → Prop
  | [] => True
  | t :: ts => (t.1 ≠ 0 → ∃ l, tokL l = (t.1, t.2.2, 0)) ∧ (t.1 = 0 → t.2.2 = []) ∧ Toks ts
theorem scan_toks : ∀ (n : Nat) (l : List UInt8), Toks (scanL n l).1
  | 0, _ => trivial
  | n + 1, l => by
    unfold scanL
    simp only
    by_cases h1 : (tokL (gap false l)).2.2 ≠ 0
    · rw [if_pos h1]; trivial
    · rw [if_neg h1]
      by_cases h2 : (tokL (gap false l)).1 = 0
      · rw [if_pos h2]; exact ⟨fun h => absurd rfl h, fun _ => rfl, trivial⟩
      · rw [if_neg h2]
        split
        · exact scan_toks n _
        · exact ⟨fun _ => ⟨gap false l, by
            have h3 : (tokL (gap false l)).2.2 = 0 := Classical.not_not.1 h1
            rw [← h3]⟩, fun h => absurd h h2, scan_toks n _⟩
end Go.Proofs.Ytfmflngmhhalhaa
