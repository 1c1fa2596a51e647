/-
  How long the text of a term is, plainly; texts as the library and the reference build them.
-/
import Derived.Test.YtlpibnbabgfiiaaGreatDoorTtTrip
import Derived.Test.YtlpibnbabgfiiaaGreatDoorTtAtoi
import Derived.Lib.Join
namespace Go.Proofs.YtlpibnbabgfiiaaGreatDoor
open Go

/-- Few spaces. -/
def Slim (σ : Sty) : Prop := σ.a + σ.b ≤ 3 ∧ σ.c + σ.d ≤ 3 ∧ σ.e ≤ 1
theorem slim_plain : Slim plain := ⟨by decide, by decide, by decide⟩
theorem slim_wide : Slim wide := ⟨by decide, by decide, by decide⟩
theorem itoa_len {n : Int} (h1 : -2147483648 ≤ n) (h2 : n ≤ 2147483648) : (Lib.itoa n).length ≤ 11 := by
  unfold Lib.itoa
  split
  · have := dec_len10 (n := n.natAbs) (by omega)
    simp only [List.length_cons]; omega
  · have := dec_len10 (n := n.toNat) (by omega)
    omega
theorem paren_len {σ : Sty} (h : Slim σ) (b : Bool) (x : List UInt8) : (paren σ b x).length ≤ x.length + 8 := by
  obtain ⟨h1, h2, _⟩ := h
  unfold paren
  split
  · simp only [Sty.lp, Sty.rp, sp, List.length_append, List.length_cons, List.length_replicate]; omega
  · omega
theorem rest_bound {σ : Sty} (h : Slim σ) (l : List (List UInt8)) : (restT σ l).length ≤ (l.map fun x => x.length + 3).sum := by
  obtain ⟨_, _, h3⟩ := h
  induction l with
  | nil => simp [restT]
  | cons x r ih =>
    simp only [restT, Sty.cm, sp, List.length_append, List.length_cons, List.length_replicate, List.length_nil, List.map_cons, List.sum_cons]
    omega
theorem call_len {σ : Sty} (h : Slim σ) (s : List UInt8) (l : List (List UInt8)) : (callT σ s l).length ≤ s.length + 8 + (l.map fun x => x.length + 3).sum := by
  obtain ⟨h1, h2, _⟩ := id h
  rcases l with _ | ⟨x, r⟩
  · simp [callT]
  · have := rest_bound h r
    simp only [callT, Sty.lp, Sty.rp, sp, List.length_append, List.length_cons, List.length_replicate, List.map_cons, List.sum_cons]
    omega
theorem right_len {s : List UInt8} (h : rightB s = true) : s.length ≤ 40 := by
  simp only [rightB, Bool.and_eq_true] at h
  exact ((wordB_iff _).1 h.1).2.1
theorem txt_len {σ : Sty} (hσ : Slim σ) : (∀ t : Tm, t.form = true → (t.txt σ).length + 3 ≤ 51 * t.size) ∧ (∀ l, formL l = true → ((txtL σ l).map fun x => x.length + 3).sum ≤ 51 * sizeL l) := by
  refine Tm.induct2 (fun k n s A c a ih => ?_) (fun _ => by simp [txtL]) (fun t r h1 h2 h => ?_)
  · intro hf
    simp only [Tm.form] at hf
    by_cases hk0 : k = 0
    · subst hk0
      simp only [if_true, Bool.and_eq_true, decide_eq_true_eq] at hf
      have := itoa_len hf.1 hf.2.1
      simp only [Tm.txt, Tm.size, if_true, show ¬ ((0 : Int) = 2) by omega, if_false]; omega
    · by_cases hk1 : k = 1
      · subst hk1
        simp only [if_true, show ¬ ((1 : Int) = 0) by omega, if_false, Bool.and_eq_true, decide_eq_true_eq] at hf
        have := (label_len (n := n.toNat) (by omega)).2
        simp only [Tm.txt, Tm.size, if_true, show ¬ ((1 : Int) = 2) by omega, show ¬ ((1 : Int) = 0) by omega, if_false]; omega
      · by_cases hk2 : k = 2
        · subst hk2
          simp only [show ¬ ((2 : Int) = 0) by omega, show ¬ ((2 : Int) = 1) by omega, if_false, if_true, Bool.and_eq_true, Bool.or_eq_true, decide_eq_true_eq] at hf
          obtain ⟨_, hs, hfl⟩ := hf
          have hi := ih hfl
          simp only [Tm.txt, Tm.size, show ¬ ((2 : Int) = 0) by omega, show ¬ ((2 : Int) = 1) by omega, if_false, if_true]
          by_cases ho : opB s.data.toList = true
          · rw [if_pos ho]
            have ha2 : a.length = 2 := by
              rcases hs with hs | hs
              · exact hs.2
              · rw [(op_right ho).1] at hs; cases hs.1
            obtain ⟨x, y, rfl⟩ : ∃ x y, a = [x, y] := by
              match a, ha2 with
              | [x, y], _ => exact ⟨x, y, rfl⟩
            obtain ⟨o, hso, _⟩ := op_byte ho
            have p1 := paren_len hσ (decide (x.pw < ostr s.data.toList)) (x.txt σ)
            have p2 := paren_len hσ (decide (y.pw ≤ ostr s.data.toList)) (y.txt σ)
            simp only [txtL, List.map_cons, List.map_nil, List.sum_cons, List.sum_nil] at hi
            simp only [opT, txtL, List.getD_cons_zero, List.getD_cons_succ, List.length_append, List.length_cons]
            rw [show s.data.toList.length = 1 by rw [hso]; rfl]
            omega
          · rw [if_neg ho]
            have hr : rightB s.data.toList = true := by
              rcases hs with hs | hs
              · exact absurd hs.1 ho
              · exact hs.1
            have h1 := right_len hr
            have h2 := call_len hσ s.data.toList (txtL σ a)
            omega
        · simp [hk0, hk1, hk2] at hf
  · simp only [formL, Bool.and_eq_true] at h
    have a1 := h1 h.1
    have a2 := h2 h.2
    simp only [txtL, List.map_cons, List.sum_cons, sizeL]
    omega

/-! ### The same text, from the left -/
theorem plain_call (s : List UInt8) (x : List UInt8) (r : List (List UInt8)) : callT plain s (x :: r) = s ++ [40] ++ (x ++ restT plain r) ++ [41] := by
  simp [callT, Sty.lp, Sty.rp, plain, sp]
theorem rest_join (r : List (List UInt8)) : restT plain r = Lib.joinTail [44, 32] r := by
  induction r with
  | nil => rfl
  | cons x r ih => simp [restT, Sty.cm, plain, sp, Lib.joinTail] at ih ⊢; rw [ih]
theorem join_txt (x : List UInt8) (r : List (List UInt8)) : Lib.join (x :: r) [44, 32] = x ++ restT plain r := by rw [Lib.join_cons, rest_join]
theorem rest_snoc (r : List (List UInt8)) (x : List UInt8) : restT plain (r ++ [x]) = restT plain r ++ [44, 32] ++ x := by
  induction r with
  | nil => simp [restT, Sty.cm, plain, sp]
  | cons y r ih => simp only [List.cons_append, restT, ih]; simp
/-- The texts of the first terms, joined. -/
def joinT : List (List UInt8) → List UInt8
  | [] => []
  | x :: r => x ++ restT plain r
theorem join_snoc (l : List (List UInt8)) (x : List UInt8) (h : l ≠ []) : joinT (l ++ [x]) = joinT l ++ [44, 32] ++ x := by
  rcases l with _ | ⟨y, r⟩
  · exact absurd rfl h
  · simp only [List.cons_append, joinT, rest_snoc]; simp
theorem txtL_append (σ : Sty) (l m : List Tm) : txtL σ (l ++ m) = txtL σ l ++ txtL σ m := by simp [txtL_map]
theorem txtL_len (σ : Sty) (l : List Tm) : (txtL σ l).length = l.length := by rw [txtL_map, List.length_map]
end Go.Proofs.YtlpibnbabgfiiaaGreatDoor
