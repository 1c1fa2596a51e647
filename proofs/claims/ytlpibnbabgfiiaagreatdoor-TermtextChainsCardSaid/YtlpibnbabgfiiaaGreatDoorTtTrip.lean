/-
  What is written is read back, plainly. No program.
-/
import Derived.Test.YtlpibnbabgfiiaaGreatDoorTtPlain
import Derived.WalkKit
namespace Go.Proofs.YtlpibnbabgfiiaaGreatDoor
open Go

theorem while_stop {p : UInt8 → Bool} {l k : List UInt8} (h : ∀ c ∈ l, p c = true) (hk : k = [] ∨ p (k.headD 0) = false) : (l ++ k).takeWhile p = l ∧ (l ++ k).dropWhile p = k := by
  induction l with
  | nil =>
    rcases k with _ | ⟨c, r⟩
    · simp
    · rcases hk with hk | hk
      · cases hk
      · simp only [List.headD_cons] at hk
        simp [hk]
  | cons c r ih =>
    have := ih (fun x hx => h x (List.mem_cons_of_mem _ hx))
    have hc := h c List.mem_cons_self
    simp [hc, this]
theorem dec_head {n : Nat} (h : n ≠ 0) : (Lib.decDigits n).headD 0 ≠ 48 := by
  induction n using Nat.strongRecOn with
  | _ n ih =>
    by_cases h1 : n < 10
    · rw [dec_small h1]
      intro e
      have := congrArg UInt8.toNat e
      simp only [List.headD_cons] at this
      rw [digit_nat h1] at this
      have e48 : (48 : UInt8).toNat = 48 := rfl
      omega
    · rw [dec_big h1]
      have h2 := ih (n / 10) (by omega) (by omega)
      have h3 := dec_len (n / 10)
      rcases hd : Lib.decDigits (n / 10) with _ | ⟨c, r⟩
      · rw [hd] at h3; simp at h3
      · rw [hd] at h2; simpa using h2
theorem dec_zero : Lib.decDigits 0 = [48] := by rw [dec_small (by omega)]; rfl
theorem dec_dig (n : Nat) : ∀ c ∈ Lib.decDigits n, digB c = true := fun c hc => by
  have := dec_digit n c hc
  simp only [digB, decide_eq_true_eq]
  exact this
theorem dig_in {c : UInt8} (h : digB c = true) : inB c = true := by simp [inB, h]
theorem dec_ne (n : Nat) : Lib.decDigits n ≠ [] := fun e => by have := dec_len n; rw [e] at this; simp at this
theorem dec_head_dig (n : Nat) (k : List UInt8) : digB ((Lib.decDigits n ++ k).headD 0) = true ∧ (Lib.decDigits n ++ k).headD 0 = (Lib.decDigits n).headD 0 := by
  rcases hd : Lib.decDigits n with _ | ⟨c, r⟩
  · exact absurd hd (dec_ne n)
  · have := dec_dig n c (by rw [hd]; exact List.mem_cons_self)
    simpa using this
theorem dig_not {c : UInt8} (h : digB c = true) : c ≠ 45 ∧ c ≠ 40 ∧ c ≠ 32 := by
  simp only [digB, decide_eq_true_eq] at h
  refine ⟨?_, ?_, ?_⟩ <;> rintro rfl <;> simp at h

theorem int_read (n : Int) (k : List UInt8) (h1 : -2147483648 ≤ n) (h2 : n ≤ 2147483648) (hk : k = [] ∨ digB (k.headD 0) = false) : intP (Lib.itoa n ++ k) = .ok (intT n) (skip k) := by
  unfold Lib.itoa
  by_cases hn : n < 0
  · rw [if_pos hn]
    obtain ⟨m, hm, rfl⟩ : ∃ m : Nat, m ≠ 0 ∧ n = -(m : Int) := ⟨n.natAbs, by omega, by omega⟩
    have e : (-(m : Int)).natAbs = m := by omega
    rw [e]
    obtain ⟨w1, w2⟩ := while_stop (p := digB) (l := Lib.decDigits m) (k := k) (dec_dig m) hk
    have h3 := dec_head hm
    have h4 := dec_ne m
    have h5 : ¬ 2147483648 < m := by omega
    have h3' : ¬ (Lib.decDigits m).head?.getD 0 = 48 := by simpa using h3
    simp [intP, w1, w2, h4, h3', spell_dec, h5]
  · rw [if_neg hn]
    obtain ⟨m, rfl⟩ : ∃ m : Nat, n = (m : Int) := ⟨n.toNat, by omega⟩
    have e : ((m : Nat) : Int).toNat = m := by omega
    rw [e]
    obtain ⟨w1, w2⟩ := while_stop (p := digB) (l := Lib.decDigits m) (k := k) (dec_dig m) hk
    obtain ⟨hd1, hd2⟩ := dec_head_dig m k
    have h4 := dec_ne m
    have h5 : ¬ 2147483648 < m := by omega
    have h45 : ¬ (Lib.decDigits m ++ k).headD 0 = 45 := (dig_not hd1).1
    have hz : ¬ ((Lib.decDigits m).headD 0 = 48 ∧ 1 < (Lib.decDigits m).length) := by
      rintro ⟨z1, z2⟩
      by_cases hm : m = 0
      · subst hm; rw [dec_zero] at z2; simp at z2
      · exact dec_head hm z1
    unfold intP
    simp only [h45, if_false, w1, w2, h4, false_or, hz, spell_dec, h5]
theorem lab_read (n : Nat) (k : List UInt8) (h : n ≤ 1048576) (hk : k = [] ∨ inB (k.headD 0) = false) : labP (label n ++ k) = .ok (varT n) (skip k) := by
  obtain ⟨w1, w2⟩ := while_stop (p := inB) (l := label n) (k := k) (fun c hc => by
    rcases List.mem_cons.1 hc with rfl | hc
    · decide
    · exact dig_in (dec_dig n c hc)) hk
  have e : spell ((label n).drop 1) = n := spell_dec n
  unfold labP
  simp only [w1, w2, e, h, and_self, if_true]

/-- What may stand behind a term: no byte of a word, and no '(' behind spaces. -/
def Cont (k : List UInt8) : Prop := inB (k.headD 0) = false ∧ (skip k).headD 0 ≠ 40
theorem cont_nil : Cont [] := ⟨by decide, by decide⟩
theorem cont_sp {n : Nat} {c : UInt8} (r : List UInt8) (h1 : inB c = false) (h2 : c ≠ 40) (h3 : c ≠ 32) : Cont (sp n ++ c :: r) := by
  refine ⟨?_, by rw [skip_at h3]; exact h2⟩
  cases n with
  | zero => exact h1
  | succ n =>
    show inB 32 = false
    decide
theorem Cont.word {k : List UInt8} (h : Cont k) : k = [] ∨ inB (k.headD 0) = false := .inr h.1
theorem in_dig {c : UInt8} (h : inB c = false) : digB c = false := by
  cases hd : digB c
  · rfl
  · rw [dig_in hd] at h; cases h
theorem Cont.dig {k : List UInt8} (h : Cont k) : k = [] ∨ digB (k.headD 0) = false := .inr (in_dig h.1)

section
variable (σ : Sty)
def RA (t : Tm) : Prop := ∀ n k, (t.txt σ ++ k).length ≤ n → Cont k → t.pw = 2 → opnd (exprP n) (skip (t.txt σ ++ k)) = .ok t.strip (skip k)
def RB (t : Tm) : Prop := ∀ n k, (t.txt σ ++ k).length ≤ n → Cont k → 1 ≤ t.pw → level 1 (opnd (exprP n)) (skip (t.txt σ ++ k)) = chain 1 (opnd (exprP n)) t.strip (skip k)
def RC (t : Tm) : Prop := ∀ n k, (t.txt σ ++ k).length ≤ n → Cont k → ostr [(skip k).headD 0] ≠ 1 → level 0 (level 1 (opnd (exprP n))) (skip (t.txt σ ++ k)) = chain 0 (level 1 (opnd (exprP n))) t.strip (skip k)
def RD (t : Tm) : Prop := ∀ n k, (t.txt σ ++ k).length ≤ n → Cont k → ostr [(skip k).headD 0] = 2 → exprP (n + 1) (skip (t.txt σ ++ k)) = .ok t.strip (skip k)
variable {σ}
theorem chain_stop {own : Nat} {o : List UInt8 → PR Tm} {t : Tm} {r : List UInt8} (h : ostr [r.headD 0] ≠ own) : chain own o t r = .ok t r := by rw [chain, if_neg h]
theorem RA.b {t : Tm} (h : RA σ t) (h2 : t.pw = 2) : RB σ t := fun n k hn hk _ => by unfold level; rw [h n k hn hk h2]
theorem RB.c {t : Tm} (h : RB σ t) (h1 : 1 ≤ t.pw) : RC σ t := fun n k hn hk h3 => by rw [level, h n k hn hk h1, chain_stop h3]
theorem RC.d {t : Tm} (h : RC σ t) : RD σ t := fun n k hn hk h3 => by rw [exprP, h n k hn hk (by omega), chain_stop (by omega)]

theorem group_read {x : Tm} (h : RD σ x) (n : Nat) (k : List UInt8) (hn : (σ.lp ++ (x.txt σ ++ (σ.rp ++ k))).length ≤ n) :
    opnd (exprP n) (skip (σ.lp ++ (x.txt σ ++ (σ.rp ++ k)))) = .ok x.strip (skip k) := by
  have e1 : skip (σ.lp ++ (x.txt σ ++ (σ.rp ++ k))) = 40 :: (sp σ.b ++ (x.txt σ ++ (σ.rp ++ k))) := by
    unfold Sty.lp
    rw [List.append_assoc, List.cons_append, skip_at (by decide)]
  have e2 : skip (σ.rp ++ k) = 41 :: (sp σ.d ++ k) := by
    unfold Sty.rp
    rw [List.append_assoc, List.cons_append, skip_at (by decide)]
  have hc : Cont (σ.rp ++ k) := by
    unfold Sty.rp
    rw [List.append_assoc, List.cons_append]
    exact cont_sp _ (by decide) (by decide) (by decide)
  have hl : σ.lp.length = σ.a + (σ.b + 1) := by simp [Sty.lp, sp]
  rw [List.length_append, hl] at hn
  cases n with
  | zero => omega
  | succ n =>
    have hr := h n (σ.rp ++ k) (by omega) hc (by rw [e2]; rfl)
    rw [e1]
    unfold opnd
    rw [List.headD_cons, if_pos rfl]
    unfold groupP
    rw [List.tail_cons, skip_sp, hr, e2]
    simp [skip_sp]

theorem args_read (x : Tm) (r : List Tm) (h : ∀ y ∈ x :: r, RD σ y) (n : Nat) (acc : List Tm) (k : List UInt8) (hn : (x.txt σ ++ (restT σ (txtL σ r) ++ (σ.rp ++ k))).length ≤ n) :
    argsP (exprP (n + 1)) acc (skip (x.txt σ ++ (restT σ (txtL σ r) ++ (σ.rp ++ k)))) = .ok (acc ++ stripL (x :: r)) (skip k) := by
  induction r generalizing x acc with
  | nil =>
    have e2 : skip (σ.rp ++ k) = 41 :: (sp σ.d ++ k) := by
      unfold Sty.rp
      rw [List.append_assoc, List.cons_append, skip_at (by decide)]
    have hc : Cont (σ.rp ++ k) := by
      unfold Sty.rp
      rw [List.append_assoc, List.cons_append]
      exact cont_sp _ (by decide) (by decide) (by decide)
    have hr := h x List.mem_cons_self n (σ.rp ++ k) hn hc (by rw [e2]; rfl)
    simp only [txtL, restT, List.nil_append]
    rw [argsP, hr, e2]
    simp [skip_sp, stripL]
  | cons y r ih =>
    generalize hK : restT σ (txtL σ (y :: r)) ++ (σ.rp ++ k) = K at hn ⊢
    have hK' : K = sp σ.e ++ 44 :: (32 :: (y.txt σ ++ (restT σ (txtL σ r) ++ (σ.rp ++ k)))) := by
      rw [← hK]
      simp [txtL, restT, Sty.cm]
    have e2 : skip K = 44 :: (32 :: (y.txt σ ++ (restT σ (txtL σ r) ++ (σ.rp ++ k)))) := by rw [hK', skip_at (by decide)]
    have hc : Cont K := by rw [hK']; exact cont_sp _ (by decide) (by decide) (by decide)
    have hr := h x List.mem_cons_self n K hn hc (by rw [e2]; rfl)
    have hlt := expr_shrinks _ _ _ _ hr
    rw [e2] at hlt
    have hlen : (y.txt σ ++ (restT σ (txtL σ r) ++ (σ.rp ++ k))).length ≤ n := by
      have := congrArg List.length hK'
      simp only [List.length_append, List.length_cons] at this hn ⊢
      omega
    have hi := ih y (fun z hz => h z (List.mem_cons_of_mem _ hz)) (acc ++ [x.strip]) hlen
    rw [argsP, hr, e2]
    simp only [List.length_cons] at hlt
    have hg : (32 :: (y.txt σ ++ (restT σ (txtL σ r) ++ (σ.rp ++ k)))).length < (skip (x.txt σ ++ K)).length := by simp only [List.length_cons]; omega
    simp only [show ¬ ((44 : UInt8) = 41) by decide, if_false, if_true, hg, dif_pos, skip_space, hi]
    simp [stripL]

theorem word_read {s : List UInt8} (hs : rightB s = true) (k : List UInt8) (hk : inB (k.headD 0) = false) :
    skip (s ++ k) = s ++ k ∧ lowB ((s ++ k).headD 0) = true ∧ (s ++ k).takeWhile inB = s ∧ (s ++ k).dropWhile inB = k ∧ ∀ ex, opnd ex (s ++ k) = asFun (atomP ex (s ++ k)) := by
  have hr := hs
  simp only [rightB, Bool.and_eq_true] at hr
  obtain ⟨hw, hl, _⟩ := hr
  obtain ⟨h1, _, h3⟩ := (wordB_iff s).1 hw
  obtain ⟨w1, w2⟩ := while_stop (p := inB) (l := s) (k := k) h3 (.inr hk)
  rcases s with _ | ⟨c, r⟩
  · simp at h1
  · have hc : lowB c = true := by simpa using hl
    have hb := hc
    simp only [lowB, decide_eq_true_eq] at hb
    have n40 : c ≠ 40 := by rintro rfl; simp at hb
    have n45 : c ≠ 45 := by rintro rfl; simp at hb
    have n32 : c ≠ 32 := by rintro rfl; simp at hb
    have nd : digB c = false := by simp only [digB, decide_eq_false_iff_not]; omega
    obtain ⟨nu, nv⟩ := low_upp hc
    refine ⟨by rw [List.cons_append, skip_cons _ n32], by simpa using hc, w1, w2, fun ex => ?_⟩
    unfold opnd
    simp only [List.cons_append, List.headD_cons, n40, n45, nd, nu, nv, if_false, or_self, Bool.false_eq_true]
theorem atom_read {s : List UInt8} (hs : rightB s = true) (l : List Tm) (h : ∀ y ∈ l, RD σ y) (n : Nat) (k : List UInt8) (hn : (callT σ s (txtL σ l) ++ k).length ≤ n) (hk : Cont k) :
    skip (callT σ s (txtL σ l) ++ k) = callT σ s (txtL σ l) ++ k ∧ atomP (exprP n) (callT σ s (txtL σ l) ++ k) = .ok (s, stripL l) (skip k) ∧ opnd (exprP n) (callT σ s (txtL σ l) ++ k) = .ok (funT s (stripL l)) (skip k) := by
  suffices H : skip (callT σ s (txtL σ l) ++ k) = callT σ s (txtL σ l) ++ k ∧ atomP (exprP n) (callT σ s (txtL σ l) ++ k) = .ok (s, stripL l) (skip k) ∧ opnd (exprP n) (callT σ s (txtL σ l) ++ k) = asFun (atomP (exprP n) (callT σ s (txtL σ l) ++ k)) by
    refine ⟨H.1, H.2.1, ?_⟩
    rw [H.2.2, H.2.1]
    rfl
  rcases l with _ | ⟨x, r⟩
  · simp only [txtL, callT]
    obtain ⟨e1, e2, e3, e4, e5⟩ := word_read hs k hk.1
    refine ⟨e1, ?_, e5 _⟩
    unfold atomP
    rw [e2, e3, e4, if_pos rfl, if_pos hs]
    have h2 := hk.2
    rcases hsk : skip k with _ | ⟨c, q⟩
    · rfl
    · rw [hsk] at h2
      simp only [List.headD_cons] at h2
      simp [h2, stripL]
  · have hK : callT σ s (txtL σ (x :: r)) ++ k = s ++ (sp σ.a ++ 40 :: (sp σ.b ++ (x.txt σ ++ (restT σ (txtL σ r) ++ (σ.rp ++ k))))) := by simp [txtL, callT, Sty.lp]
    rw [hK] at hn ⊢
    have hin : inB ((sp σ.a ++ 40 :: (sp σ.b ++ (x.txt σ ++ (restT σ (txtL σ r) ++ (σ.rp ++ k))))).headD 0) = false := by
      cases σ.a with
      | zero => rfl
      | succ m =>
        show inB 32 = false
        decide
    obtain ⟨e1, e2, e3, e4, e5⟩ := word_read hs _ hin
    refine ⟨e1, ?_, e5 _⟩
    unfold atomP
    rw [e2, e3, e4, if_pos rfl, if_pos hs, skip_at (by decide)]
    simp only [List.length_append, List.length_cons] at hn
    cases n with
    | zero => omega
    | succ n =>
      have ha := args_read x r h n [] k (by simp only [List.length_append]; omega)
      simp only [if_true, skip_sp, ha, List.nil_append]

theorem op_byte {s : List UInt8} (h : opB s = true) : ∃ c, s = [c] ∧ c ≠ 32 ∧ inB c = false ∧ c ≠ 40 ∧ c ≠ 0 := by
  simp only [opB, operators, List.mem_cons, List.not_mem_nil, or_false, decide_eq_true_eq] at h
  rcases h with rfl | rfl | rfl | rfl | rfl
  all_goals exact ⟨_, rfl, by decide, by decide, by decide, by decide⟩

/-- A second operand, or a first one in parentheses. -/
theorem operand_read {x : Tm} (hA : RA σ x) (hD : RD σ x) (b : Bool) (hb : b = false → x.pw = 2) (n : Nat) (k : List UInt8) (hn : (paren σ b (x.txt σ) ++ k).length ≤ n) (hk : Cont k) :
    opnd (exprP n) (skip (paren σ b (x.txt σ) ++ k)) = .ok x.strip (skip k) := by
  cases b with
  | false => exact hA n k hn hk (hb rfl)
  | true =>
    simp only [paren, if_true, List.append_assoc] at hn ⊢
    exact group_read hD n k hn

theorem pw_hi (t : Tm) : t.pw ≤ 2 := ostr_hi _
theorem trip (t : Tm) (hf : t.form = true) : RA σ t ∧ RB σ t ∧ RC σ t ∧ RD σ t := by
  induction t using Tm.induct with
  | h k0 m s A c a ih =>
    suffices H : (RA σ (.mk k0 m s A c a) ∧ (Tm.mk k0 m s A c a).pw = 2) ∨ ((Tm.mk k0 m s A c a).pw < 2 ∧ (1 ≤ (Tm.mk k0 m s A c a).pw → RB σ (.mk k0 m s A c a)) ∧ ((Tm.mk k0 m s A c a).pw = 0 → RC σ (.mk k0 m s A c a))) by
      rcases H with ⟨h1, h2⟩ | ⟨h1, h2, h3⟩
      · have hb := h1.b h2
        have hc := hb.c (by omega)
        exact ⟨h1, hb, hc, hc.d⟩
      · have hA : RA σ (.mk k0 m s A c a) := fun _ _ _ _ h => by omega
        by_cases hp : (Tm.mk k0 m s A c a).pw = 0
        · exact ⟨hA, fun _ _ _ _ h => by omega, h3 hp, (h3 hp).d⟩
        · have hb := h2 (by omega)
          have hc := hb.c (by omega)
          exact ⟨hA, hb, hc, hc.d⟩
    simp only [Tm.form] at hf
    by_cases hk0 : k0 = 0
    · subst hk0
      simp only [if_true, Bool.and_eq_true, decide_eq_true_eq] at hf
      obtain ⟨h1, h2, h3, h4⟩ := hf
      obtain rfl : a = [] := List.length_eq_zero_iff.1 h4
      have hs : s = ⟨#[]⟩ := WideShapes.bytes_inj (by rw [show s.data = #[] from Array.eq_empty_of_size_eq_zero h3])
      subst hs
      refine .inl ⟨fun n k hn hk _ => ?_, (by decide : ostr [] = 2)⟩
      have e : (Tm.mk 0 m ⟨#[]⟩ A c []).txt σ = Lib.itoa m := by simp [Tm.txt]
      rw [e]
      have hr := int_read m k h1 h2 hk.dig
      have hh : (Lib.itoa m ++ k).headD 0 = 45 ∨ digB ((Lib.itoa m ++ k).headD 0) = true := by
        unfold Lib.itoa
        split
        · exact .inl rfl
        · exact .inr (dec_head_dig _ _).1
      have h32 : (Lib.itoa m ++ k).headD 0 ≠ 32 := by
        rcases hh with h | h
        · rw [h]; decide
        · exact (dig_not h).2.2
      have h40 : (Lib.itoa m ++ k).headD 0 ≠ 40 := by
        rcases hh with h | h
        · rw [h]; decide
        · exact (dig_not h).2.1
      have hsk : skip (Lib.itoa m ++ k) = Lib.itoa m ++ k := by
        generalize Lib.itoa m ++ k = z at h32
        cases z with
        | nil => rfl
        | cons x q => exact skip_cons q h32
      rw [hsk]
      unfold opnd
      rw [if_neg h40, if_pos hh, hr]
      rfl
    · by_cases hk1 : k0 = 1
      · subst hk1
        simp only [if_true, show ¬ ((1 : Int) = 0) by omega, if_false, Bool.and_eq_true, decide_eq_true_eq] at hf
        obtain ⟨h1, h2, h3, h4⟩ := hf
        obtain rfl : a = [] := List.length_eq_zero_iff.1 h4
        have hs : s = ⟨#[]⟩ := WideShapes.bytes_inj (by rw [show s.data = #[] from Array.eq_empty_of_size_eq_zero h3])
        subst hs
        obtain ⟨q, rfl⟩ : ∃ q : Nat, m = (q : Int) := ⟨m.toNat, by omega⟩
        refine .inl ⟨fun n k hn hk _ => ?_, (by decide : ostr [] = 2)⟩
        have e : (Tm.mk 1 (q : Int) ⟨#[]⟩ A c []).txt σ = label q := by simp [Tm.txt]
        rw [e]
        have hr := lab_read q k (by omega) hk.word
        have hsk : skip (label q ++ k) = label q ++ k := skip_cons _ (by decide)
        rw [hsk]
        unfold opnd
        rw [hr]
        have hh : (label q ++ k).headD 0 = 86 := rfl
        rw [hh]
        simp only [show ¬ ((86 : UInt8) = 40) by decide, show ¬ ((86 : UInt8) = 45 ∨ digB 86 = true) by decide, show (undB 86 = true ∨ uppB 86 = true) by decide, if_false, if_true]
        rfl
      · by_cases hk2 : k0 = 2
        · subst hk2
          simp only [show ¬ ((2 : Int) = 0) by omega, show ¬ ((2 : Int) = 1) by omega, if_false, if_true, Bool.and_eq_true, Bool.or_eq_true, decide_eq_true_eq] at hf
          obtain ⟨rfl, hs, hfl⟩ := hf
          have ih' : ∀ x ∈ a, RA σ x ∧ RB σ x ∧ RC σ x ∧ RD σ x := fun x hx => ih x hx (formL_mem hx hfl)
          by_cases ho : opB s.data.toList = true
          · have ha2 : a.length = 2 := by
              rcases hs with hs | hs
              · exact hs.2
              · rw [(op_right ho).1] at hs; cases hs.1
            obtain ⟨x, y, rfl⟩ : ∃ x y, a = [x, y] := by
              match a, ha2 with
              | [x, y], _ => exact ⟨x, y, rfl⟩
            obtain ⟨xA, xB, xC, xD⟩ := ih' x (by simp)
            obtain ⟨yA, yB, yC, yD⟩ := ih' y (by simp)
            obtain ⟨o, hso, o1, o2, o3, o4⟩ := op_byte ho
            have hse : s = ⟨#[o]⟩ := WideShapes.bytes_inj (by rw [show s.data = #[o] from Array.toList_inj.1 hso])
            subst hse
            have hpw : ostr [o] < 2 := (ostr_op _).1 (by simpa using ho)
            have htx : (Tm.mk 2 0 ⟨#[o]⟩ A c [x, y]).txt σ = paren σ (decide (x.pw < ostr [o])) (x.txt σ) ++ (32 :: o :: (32 :: paren σ (decide (y.pw ≤ ostr [o])) (y.txt σ))) := by
              simp only [Tm.txt, show ¬ ((2 : Int) = 0) by omega, show ¬ ((2 : Int) = 1) by omega, if_false, txtL, opT]
              rw [if_pos (by simpa using ho)]
              simp
            have hst : (Tm.mk 2 0 ⟨#[o]⟩ A c [x, y]).strip = binT o x.strip y.strip := by simp [Tm.strip, stripL, binT]
            have key : ∀ k, (Tm.mk 2 0 ⟨#[o]⟩ A c [x, y]).txt σ ++ k = paren σ (decide (x.pw < ostr [o])) (x.txt σ) ++ (sp 1 ++ o :: (32 :: (paren σ (decide (y.pw ≤ ostr [o])) (y.txt σ) ++ k))) := fun k => by
              rw [htx]; simp [sp]
            refine .inr ⟨hpw, fun hp n k hn hk _ => ?_, fun hp n k hn hk hns => ?_⟩
            · have hp : ostr [o] = 1 := by have : ostr [o] ≥ 1 := hp; omega
              rw [key] at hn ⊢
              rw [hst]
              have hc1 : Cont (sp 1 ++ o :: (32 :: (paren σ (decide (y.pw ≤ ostr [o])) (y.txt σ) ++ k))) := cont_sp _ o2 o3 o1
              have hs1 : skip (sp 1 ++ o :: (32 :: (paren σ (decide (y.pw ≤ ostr [o])) (y.txt σ) ++ k))) = o :: (32 :: (paren σ (decide (y.pw ≤ ostr [o])) (y.txt σ) ++ k)) := skip_at o1
              have step : chain 1 (opnd (exprP n)) x.strip (o :: (32 :: (paren σ (decide (y.pw ≤ ostr [o])) (y.txt σ) ++ k))) = chain 1 (opnd (exprP n)) (binT o x.strip y.strip) (skip k) := by
                have hy := operand_read yA yD (decide (y.pw ≤ ostr [o])) (fun h => by have := pw_hi y; simp at h; omega) n k (by simp only [List.length_append, List.length_cons] at hn ⊢; omega) hk
                have hl := skip_len k
                rw [chain]
                simp only [List.headD_cons, List.tail_cons, hp, if_true, skip_space]
                rw [hp] at hy
                simp only [hy]
                rw [dif_pos (by simp only [List.length_cons, List.length_append]; omega)]
              by_cases hx : x.pw < ostr [o]
              · have hx1 := operand_read xA xD (decide (x.pw < ostr [o])) (fun h => by simp at h; omega) n _ hn hc1
                unfold level
                rw [hx1, hs1]
                exact step
              · have hd : decide (x.pw < ostr [o]) = false := by simpa using hx
                rw [hd] at hn ⊢
                have := xB n _ hn hc1 (by omega)
                rw [show paren σ false (x.txt σ) = x.txt σ from rfl, this, hs1]
                exact step
            · have hp : ostr [o] = 0 := hp
              rw [key] at hn ⊢
              rw [hst]
              have hc1 : Cont (sp 1 ++ o :: (32 :: (paren σ (decide (y.pw ≤ ostr [o])) (y.txt σ) ++ k))) := cont_sp _ o2 o3 o1
              have hs1 : skip (sp 1 ++ o :: (32 :: (paren σ (decide (y.pw ≤ ostr [o])) (y.txt σ) ++ k))) = o :: (32 :: (paren σ (decide (y.pw ≤ ostr [o])) (y.txt σ) ++ k)) := skip_at o1
              have hd : decide (x.pw < ostr [o]) = false := by simp; omega
              rw [hd] at hn ⊢
              have h1 := xC n _ hn hc1 (by rw [hs1, List.headD_cons]; omega)
              rw [show paren σ false (x.txt σ) = x.txt σ from rfl, h1, hs1]
              have hny : (paren σ (decide (y.pw ≤ ostr [o])) (y.txt σ) ++ k).length ≤ n := by simp only [List.length_append, List.length_cons] at hn ⊢; omega
              have hy : level 1 (opnd (exprP n)) (skip (paren σ (decide (y.pw ≤ ostr [o])) (y.txt σ) ++ k)) = .ok y.strip (skip k) := by
                by_cases hyp : y.pw ≤ ostr [o]
                · have := operand_read yA yD (decide (y.pw ≤ ostr [o])) (fun h => by simp at h; omega) n k hny hk
                  unfold level
                  rw [this]
                  exact chain_stop hns
                · have hd : decide (y.pw ≤ ostr [o]) = false := by simpa using hyp
                  rw [hd] at hny ⊢
                  rw [show paren σ false (y.txt σ) = y.txt σ from rfl, yB n k hny hk (by omega)]
                  exact chain_stop hns
              have hl := skip_len k
              rw [chain]
              simp only [List.headD_cons, List.tail_cons, hp, if_true, skip_space]
              rw [hp] at hy
              simp only [hy]
              rw [dif_pos (by simp only [List.length_cons, List.length_append]; omega)]
          · have ho' : opB s.data.toList = false := by simpa using ho
            have hr : rightB s.data.toList = true := by
              rcases hs with hs | hs
              · exact absurd hs.1 ho
              · exact hs.1
            have hp2 : (Tm.mk 2 0 s A c a).pw = 2 := by
              have h1 := ostr_hi s.data.toList
              have h2 := (ostr_op s.data.toList).2
              show ostr s.data.toList = 2
              by_cases h : ostr s.data.toList < 2
              · exact absurd (h2 h) ho
              · omega
            refine .inl ⟨fun n k hn hk _ => ?_, hp2⟩
            have htx : (Tm.mk 2 0 s A c a).txt σ = callT σ s.data.toList (txtL σ a) := by
              simp only [Tm.txt, show ¬ ((2 : Int) = 0) by omega, show ¬ ((2 : Int) = 1) by omega, if_false, ho', Bool.false_eq_true]
            rw [htx] at hn ⊢
            obtain ⟨a1, a2, a3⟩ := atom_read hr a (fun y hy => (ih' y hy).2.2.2) n k hn hk
            rw [a1, a3]
            rfl
        · simp [hk0, hk1, hk2] at hf

end
end Go.Proofs.YtlpibnbabgfiiaaGreatDoor
