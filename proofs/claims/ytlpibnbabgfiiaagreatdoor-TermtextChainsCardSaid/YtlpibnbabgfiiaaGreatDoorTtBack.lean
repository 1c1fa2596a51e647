/-
  What reading gives back, plainly: of a text, of a loose text, of a text in parentheses.
-/
import Derived.Test.YtlpibnbabgfiiaaGreatDoorTtLoose
import Derived.Test.YtlpibnbabgfiiaaGreatDoorTtGoal
import Derived.Test.YtlpibnbabgfiiaaGreatDoorTtWhole
namespace Go.Proofs.YtlpibnbabgfiiaaGreatDoor
open Go

/-! ### loose -/
theorem loose_append (x y : List UInt8) : looseB (x ++ y) = looseB x ++ looseB y := by simp [looseB]
def tame (l : List UInt8) : Prop := ∀ c ∈ l, c ≠ 40 ∧ c ≠ 41 ∧ c ≠ 44
theorem loose_tame {l : List UInt8} (h : tame l) : looseB l = l := by
  induction l with
  | nil => rfl
  | cons c r ih =>
    obtain ⟨h1, h2, h3⟩ := h c List.mem_cons_self
    simp only [looseB, List.flatMap_cons] at ih ⊢
    rw [ih fun x hx => h x (List.mem_cons_of_mem _ hx), lo, if_neg (by simp [h1, h2]), if_neg h3]
    rfl
theorem tame_digits {l : List UInt8} (h : ∀ c ∈ l, 48 ≤ c.toNat) : tame l := fun c hc => by
  have := h c hc
  refine ⟨?_, ?_, ?_⟩ <;> (rintro rfl; simp at this)
theorem tame_itoa (n : Int) : tame (Lib.itoa n) := by
  unfold Lib.itoa
  split
  · intro c hc
    rcases List.mem_cons.1 hc with rfl | hc
    · decide
    · exact tame_digits (fun c hc => (dec_digit _ c hc).1) c hc
  · exact tame_digits (fun c hc => (dec_digit _ c hc).1)
theorem tame_label (n : Nat) : tame (label n) := by
  intro c hc
  rcases List.mem_cons.1 hc with rfl | hc
  · decide
  · exact tame_digits (fun c hc => (dec_digit _ c hc).1) c hc
theorem tame_word {s : List UInt8} (h : rightB s = true) : tame s := by
  intro c hc
  simp only [rightB, Bool.and_eq_true] at h
  have hi := ((wordB_iff _).1 h.1).2.2 c hc
  refine ⟨?_, ?_, ?_⟩ <;> (rintro rfl; revert hi; decide)
theorem tame_op {s : List UInt8} (h : opB s = true) : tame s := by
  simp only [opB, operators, List.mem_cons, List.not_mem_nil, or_false, decide_eq_true_eq] at h
  rcases h with rfl | rfl | rfl | rfl | rfl <;> (intro c hc; simp only [List.mem_cons, List.not_mem_nil, or_false] at hc; subst hc; decide)
theorem loose_paren (b : Bool) (x : List UInt8) : looseB (paren plain b x) = paren wide b (looseB x) := by
  cases b
  · rfl
  · simp only [paren, if_true, loose_append]
    rfl
theorem loose_rest (l : List (List UInt8)) : looseB (restT plain l) = restT wide (l.map looseB) := by
  induction l with
  | nil => rfl
  | cons x r ih =>
    simp only [restT, List.map_cons, loose_append]
    rw [ih, show (32 :: x : List UInt8) = [32] ++ x from rfl, loose_append]
    rfl
theorem loose_call {s : List UInt8} (h : tame s) (l : List (List UInt8)) : looseB (callT plain s l) = callT wide s (l.map looseB) := by
  rcases l with _ | ⟨x, r⟩
  · exact loose_tame h
  · simp only [callT, List.map_cons, loose_append, loose_tame h, loose_rest]
    rfl
theorem loose_op {o : List UInt8} (h : tame o) (x y : List UInt8) : looseB (opT o x y) = opT o (looseB x) (looseB y) := by
  unfold opT
  rw [loose_append, show (32 :: o ++ (32 :: y)) = [32] ++ (o ++ ([32] ++ y)) from rfl, loose_append, loose_append, loose_append, loose_tame h]
  rfl
theorem getD_map (l : List (List UInt8)) (i : Nat) : (l.map looseB).getD i [] = looseB (l.getD i []) := by
  rw [List.getD_eq_getElem?_getD, List.getD_eq_getElem?_getD, List.getElem?_map]
  cases l[i]? <;> rfl
theorem loose_txt : (∀ t : Tm, t.form = true → looseB (t.txt plain) = t.txt wide) ∧ (∀ l, formL l = true → (txtL plain l).map looseB = txtL wide l) := by
  refine Tm.induct2 (fun k n s A c a ih hf => ?_) (fun _ => rfl) (fun t r h1 h2 h => ?_)
  · simp only [Tm.form] at hf
    by_cases hk0 : k = 0
    · subst hk0
      simp only [Tm.txt, if_true]
      exact loose_tame (tame_itoa n)
    by_cases hk1 : k = 1
    · subst hk1
      simp only [Tm.txt, if_true, show ¬ ((1 : Int) = 0) by omega, if_false]
      exact loose_tame (tame_label _)
    by_cases hk2 : k = 2
    · subst hk2
      simp only [show ¬ ((2 : Int) = 0) by omega, show ¬ ((2 : Int) = 1) by omega, if_false, if_true, Bool.and_eq_true, Bool.or_eq_true, decide_eq_true_eq] at hf
      obtain ⟨_, hs, hfl⟩ := hf
      have hi := ih hfl
      simp only [Tm.txt, show ¬ ((2 : Int) = 0) by omega, show ¬ ((2 : Int) = 1) by omega, if_false]
      by_cases ho : opB s.data.toList = true
      · rw [if_pos ho, if_pos ho, loose_op (tame_op ho), loose_paren, loose_paren, ← hi, getD_map, getD_map]
      · rw [if_neg ho, if_neg ho]
        have hr : rightB s.data.toList = true := by
          rcases hs with hs | hs
          · exact absurd hs.1 ho
          · exact hs.1
        rw [loose_call (tame_word hr), hi]
    · simp [hk0, hk1, hk2] at hf
  · simp only [formL, Bool.and_eq_true] at h
    simp only [txtL, List.map_cons, h1 h.1, h2 h.2]

/-! ### Reading back -/
theorem expr_of_opnd {n : Nat} {r r' : List UInt8} {t : Tm} (h : opnd (exprP n) r = .ok t r') (h2 : ostr [r'.headD 0] = 2) : exprP (n + 1) r = .ok t r' := by
  rw [exprP, level, level, h]
  simp only
  rw [chain_stop (by omega)]
  simp only
  rw [chain_stop (by omega)]
theorem txt_short {σ : Sty} (hσ : Slim σ) {t : Tm} (h : t.right = true) : (t.txt σ).length ≤ 10200 := by
  simp only [Tm.right, Bool.and_eq_true, decide_eq_true_eq] at h
  have := (txt_len hσ).1 t h.1
  omega
theorem parse_back {σ : Sty} (hσ : Slim σ) (t : Tm) (h : t.right = true) : parseP (t.txt σ) = .ok t.strip [] := by
  have hl := txt_short hσ h
  have hr := h
  simp only [Tm.right, Bool.and_eq_true, decide_eq_true_eq] at hr
  have hd := (trip (σ := σ) t hr.1).2.2.2 (t.txt σ).length [] (by simp) cont_nil (by decide)
  rw [List.append_nil] at hd
  rw [parse_end (by omega) hd, if_pos (by rw [right_strip]; exact h)]
theorem parse_group (t : Tm) (h : t.right = true) : parseP ([40, 40] ++ t.txt plain ++ [41, 32, 41]) = .ok t.strip [] := by
  have hl := txt_short slim_plain h
  have hr := h
  simp only [Tm.right, Bool.and_eq_true, decide_eq_true_eq] at hr
  have hd := (trip (σ := plain) t hr.1).2.2.2
  have e1 : ([40, 40] ++ t.txt plain ++ [41, 32, 41] : List UInt8) = 40 :: (plain.lp ++ (t.txt plain ++ (plain.rp ++ [32, 41]))) := by simp [plain, Sty.lp, Sty.rp, sp]
  have hlen : ([40, 40] ++ t.txt plain ++ [41, 32, 41] : List UInt8).length = (t.txt plain).length + 5 := by simp only [List.length_append, List.length_cons, List.length_nil]; omega
  have hi := group_read hd ((t.txt plain).length + 4) [32, 41] (by simp [plain, Sty.lp, Sty.rp, sp])
  have hs : skip (plain.lp ++ (t.txt plain ++ (plain.rp ++ [32, 41]))) = plain.lp ++ (t.txt plain ++ (plain.rp ++ [32, 41])) := by
    show skip (40 :: _) = _
    rw [skip_cons _ (by decide)]
    rfl
  have hx := expr_of_opnd hi (by decide)
  have ho : opnd (exprP ((t.txt plain).length + 4 + 1)) (40 :: (plain.lp ++ (t.txt plain ++ (plain.rp ++ [32, 41])))) = .ok t.strip [] := by
    unfold opnd
    rw [if_pos (show (40 :: (plain.lp ++ (t.txt plain ++ (plain.rp ++ [32, 41]))) : List UInt8).headD 0 = 40 from rfl), groupP, List.tail_cons, hx]
    rfl
  have hy := expr_of_opnd ho (by decide)
  rw [parse_end (by rw [hlen]; omega) (t := t.strip) ?_, if_pos (by rw [right_strip]; exact h)]
  rw [hlen, e1, skip_cons _ (by decide)]
  exact hy
theorem parsea_back {σ : Sty} (hσ : Slim σ) {s : List UInt8} {l : List Tm} (h : atomB s l = true) (p : Bool) : parseA ((if p then [32] else []) ++ callT σ s (txtL σ l)) = .ok (s, stripL l) [] := by
  obtain ⟨h1, h2, h3, h4, h5⟩ := atomB_parts h
  have c1 := call_len hσ s (txtL σ l)
  have c2 := (txt_len hσ).2 l h4
  have hd : ∀ y ∈ l, RD σ y := fun y hy => (trip (σ := σ) y (formL_mem hy h4)).2.2.2
  have hlen : ((if p then [32] else []) ++ callT σ s (txtL σ l) : List UInt8).length ≤ (callT σ s (txtL σ l)).length + 1 := by cases p <;> simp
  have hlen2 : (callT σ s (txtL σ l)).length ≤ ((if p then [32] else []) ++ callT σ s (txtL σ l) : List UInt8).length := by simp
  obtain ⟨a1, a2, _⟩ := atom_read h1 l hd (((if p then [32] else []) ++ callT σ s (txtL σ l) : List UInt8).length + 1) [] (by rw [List.append_nil]; omega) cont_nil
  rw [List.append_nil] at a1 a2
  have hskip : skip ((if p then [32] else []) ++ callT σ s (txtL σ l)) = callT σ s (txtL σ l) := by
    cases p
    · exact a1
    · exact a1
  have hR : atomR s (stripL l) = true := by
    simp only [atomB, rightL, Bool.and_eq_true, decide_eq_true_eq] at h
    obtain ⟨r1, r2, r3, r4, r5⟩ := h
    unfold atomR
    rw [form_strip.2, size_strip.2, depth_strip.2, stripL_len]
    simp [r1, r2, r3, r4, r5]
  unfold parseA
  rw [if_neg (by omega), hskip, a2]
  simp [hR, skip]
end Go.Proofs.YtlpibnbabgfiiaaGreatDoor
