/-
  Arithmetic of terms, plainly: floor division, the operators, values, folding, expressions; what is left of a number of nodes; terms with the same fields.
-/
import Derived.Test.YtponcbnghiaclaaTmPlain
namespace Go.Proofs.Ytponcbnghiaclaa
open Go

/-! ### Floor division -/
def flr (a b : Int) : Int := if b < 0 then (-a) / (-b) else a / b
theorem neg_div {c d : Int} (hd : 0 < d) : (-c) / d = if c % d = 0 then -(c / d) else -(c / d) - 1 := by
  have h1 := Int.emod_add_mul_ediv c d
  have h2 := Int.emod_nonneg c (show d ≠ 0 by omega)
  have h3 := Int.emod_lt_of_pos c hd
  generalize hq : c / d = q at *
  generalize hr : c % d = r at *
  split
  · rename_i h0
    rw [show -c = d * (-q) by rw [Int.mul_neg]; omega]
    exact Int.mul_ediv_cancel_left _ (by omega)
  · rename_i h0
    rw [show -c = (d - r) + d * (-q - 1) by rw [Int.mul_sub, Int.mul_neg]; omega, Int.add_mul_ediv_left _ _ (by omega), Int.ediv_eq_zero_of_lt (by omega) (by omega)]
    omega
/-- The program's quotient. -/
def tq (a b : Int) : Int := if a.tmod b ≠ 0 ∧ (decide (a < 0) != decide (b < 0)) = true then a.tdiv b - 1 else a.tdiv b
theorem tdivmod_pos {a b : Int} (ha : 0 ≤ a) : a.tdiv b = a / b ∧ a.tmod b = a % b := ⟨Int.tdiv_eq_ediv_of_nonneg ha, Int.tmod_eq_emod_of_nonneg ha⟩
theorem ne_t {p q : Prop} [Decidable p] [Decidable q] (hp : p) (hq : ¬ q) : (decide p != decide q) = true := by simp [hp, hq]
theorem ne_t' {p q : Prop} [Decidable p] [Decidable q] (hp : ¬ p) (hq : q) : (decide p != decide q) = true := by simp [hp, hq]
theorem ne_f {p q : Prop} [Decidable p] [Decidable q] (hp : p) (hq : q) : ¬ (decide p != decide q) = true := by simp [hp, hq]
theorem ne_f' {p q : Prop} [Decidable p] [Decidable q] (hp : ¬ p) (hq : ¬ q) : ¬ (decide p != decide q) = true := by simp [hp, hq]
theorem tq_flr {a b : Int} (hb : b ≠ 0) : tq a b = flr a b := by
  unfold tq flr
  by_cases h : b < 0
  · obtain ⟨d, rfl⟩ : ∃ d, b = -d := ⟨-b, by omega⟩
    have hd : 0 < d := by omega
    rw [if_pos h, Int.tdiv_neg, Int.tmod_neg, Int.neg_neg]
    by_cases ha : a < 0
    · obtain ⟨c, rfl⟩ : ∃ c, a = -c := ⟨-a, by omega⟩
      rw [if_neg (fun h' => ne_f ha h h'.2), Int.neg_tdiv, Int.neg_neg, Int.neg_neg, (tdivmod_pos (by omega)).1]
    · rw [(tdivmod_pos (by omega)).1, (tdivmod_pos (by omega)).2, neg_div hd]
      by_cases hz : a % d = 0
      · rw [if_neg (by simp [hz]), if_pos hz]
      · rw [if_pos ⟨hz, ne_t' ha h⟩, if_neg hz]
  · have hd : 0 < b := by omega
    rw [if_neg h]
    by_cases ha : a < 0
    · obtain ⟨c, rfl⟩ : ∃ c, a = -c := ⟨-a, by omega⟩
      rw [Int.neg_tdiv, Int.neg_tmod, (tdivmod_pos (a := c) (by omega)).1, (tdivmod_pos (a := c) (by omega)).2, neg_div hd]
      by_cases hz : c % b = 0
      · rw [if_neg (by simp [hz]), if_pos hz]
      · rw [if_pos ⟨by omega, ne_t ha h⟩, if_neg hz]
    · rw [if_neg (fun h' => ne_f' ha h h'.2), (tdivmod_pos (by omega)).1]
/-- The reference's quotient, of a number that is not negative and of one that is, by a positive one. -/
theorem ref_flr {a b : Int} (hb : 0 < b) : -((b - 1 - a) / b) = a / b := by
  have h1 := Int.emod_add_mul_ediv a b
  have h2 := Int.emod_nonneg a (show b ≠ 0 by omega)
  have h3 := Int.emod_lt_of_pos a hb
  generalize hq : a / b = q at *
  generalize hr : a % b = r at *
  rw [show b - 1 - a = (b - 1 - r) + b * (-q) by rw [Int.mul_neg]; omega, Int.add_mul_ediv_left _ _ (by omega), Int.ediv_eq_zero_of_lt (by omega) (by omega)]
  omega
theorem div_small {a b : Int} (hb : 0 < b) (ha : 0 ≤ a) : 0 ≤ a / b ∧ a / b ≤ a := ⟨Int.ediv_nonneg ha (by omega), Int.ediv_le_self _ ha⟩
/-- The quotient and the remainder. -/
theorem flr_rem {a b : Int} (hb : b ≠ 0) : (0 < b → 0 ≤ a - flr a b * b ∧ a - flr a b * b < b) ∧ (b < 0 → a - flr a b * b ≤ 0 ∧ b < a - flr a b * b) := by
  unfold flr
  refine ⟨fun h => ?_, fun h => ?_⟩
  · rw [if_neg (by omega)]
    have h1 := Int.emod_add_mul_ediv a b
    have h2 := Int.emod_nonneg a hb
    have h3 := Int.emod_lt_of_pos a h
    rw [Int.mul_comm] at h1
    omega
  · rw [if_pos h]
    have h1 := Int.emod_add_mul_ediv (-a) (-b)
    have h2 := Int.emod_nonneg (-a) (show -b ≠ 0 by omega)
    have h3 := Int.emod_lt_of_pos (-a) (show 0 < -b by omega)
    rw [Int.neg_mul, Int.mul_comm] at h1
    omega

/-! ### Operators -/
def inR (n : Int) : Bool := decide (-2147483648 ≤ n) && decide (n ≤ 2147483648)
theorem inR_iff (n : Int) : inR n = true ↔ -2147483648 ≤ n ∧ n ≤ 2147483648 := by simp [inR]
theorem inR_not {n : Int} (h : inR n = false) : n < -2147483648 ∨ 2147483648 < n := by
  have h' : ¬ inR n = true := by rw [h]; simp
  rw [inR_iff] at h'
  omega
def comp (s : List UInt8) (a b : Int) : Int := if s = [43] then a + b else if s = [45] then a - b else if s = [42] then a * b else if s = [47] then flr a b else a - flr a b * b
def zeroB (s : List UInt8) (b : Int) : Bool := decide (b = 0) && (decide (s = [47]) || decide (s = [37]))
def app (s : List UInt8) (a b : Int) : Int × Int :=
  if opB s = false then (0, 7) else if (inR a && inR b) = false then (0, 5) else if zeroB s b = true then (0, 12) else if inR (comp s a b) = true then (comp s a b, 0) else (0, 5)
theorem op_cases {s : List UInt8} (h : opB s = true) : s = [43] ∨ s = [45] ∨ s = [42] ∨ s = [47] ∨ s = [37] := by
  simpa [opB, operators] using h
theorem app_codes (s : List UInt8) (a b : Int) : ((app s a b).2 = 0 ∧ inR (app s a b).1 = true) ∨ ((app s a b).1 = 0 ∧ ((app s a b).2 = 5 ∨ (app s a b).2 = 12 ∨ (opB s = false ∧ (app s a b).2 = 7))) := by
  unfold app
  split
  · rename_i h; exact .inr ⟨rfl, .inr (.inr ⟨h, rfl⟩)⟩
  · split
    · exact .inr ⟨rfl, .inl rfl⟩
    · split
      · exact .inr ⟨rfl, .inr (.inl rfl)⟩
      · split
        · rename_i h; exact .inl ⟨rfl, h⟩
        · exact .inr ⟨rfl, .inl rfl⟩
theorem flr_small {a b : Int} (hb : b ≠ 0) {m : Int} (h1 : -m ≤ a) (h2 : a ≤ m) : -m ≤ flr a b ∧ flr a b ≤ m := by
  have key : ∀ c d : Int, 0 < d → -m ≤ c → c ≤ m → -m ≤ c / d ∧ c / d ≤ m := by
    intro c d hd l1 l2
    by_cases hc : 0 ≤ c
    · have := div_small hd hc; omega
    · obtain ⟨e, rfl⟩ : ∃ e, c = -e := ⟨-c, by omega⟩
      rw [neg_div hd]
      have := div_small hd (show 0 ≤ e by omega)
      have hx := Int.emod_add_mul_ediv e d
      have h0 : 0 ≤ e / d := this.1
      split
      · omega
      · rename_i hz
        have hr1 := Int.emod_nonneg e (show d ≠ 0 by omega)
        have hle : e / d ≤ d * (e / d) := by
          have := Int.mul_le_mul_of_nonneg_right (show (1 : Int) ≤ d by omega) h0
          omega
        omega
  unfold flr
  by_cases h : b < 0
  · rw [if_pos h]; exact key _ _ (by omega) (by omega) (by omega)
  · rw [if_neg h]; exact key _ _ (by omega) h1 h2

/-! ### Values -/
def comb (s : List UInt8) : List (Int × Int) → Int × Int
  | [x, y] => if x.2 ≠ 0 then (0, x.2) else if y.2 ≠ 0 then (0, y.2) else app s x.1 y.1
  | _ => (0, 11)
mutual
def Tm.eval : Tm → Int × Int
  | .mk k n s _ _ a => if k = 0 then (if inR n = true then (n, 0) else (0, 5)) else if k = 1 then (0, 17) else if k = 2 ∧ opB s.data.toList = true then comb s.data.toList (evalL a) else (0, 11)
def evalL : List Tm → List (Int × Int)
  | [] => []
  | t :: r => t.eval :: evalL r
end
theorem evalL_map (l : List Tm) : evalL l = l.map Tm.eval := by
  induction l with
  | nil => rfl
  | cons t r ih => simp [evalL, ih]
theorem evalL_length (l : List Tm) : (evalL l).length = l.length := by simp [evalL_map]
theorem comb_two {s : List UInt8} {l : List (Int × Int)} (h : (comb s l).2 ≠ 11 ∨ True) (hl : l.length ≠ 2) : comb s l = (0, 11) := by
  match l, hl with
  | [], _ => rfl
  | [_], _ => rfl
  | [_, _], hl => exact absurd rfl hl
  | _ :: _ :: _ :: _, _ => rfl
theorem eval_fun {n : Int} {s : ByteArray} {A : Option Addr} {c : Nat} {x y : Tm} (h : opB s.data.toList = true) :
    (Tm.mk 2 n s A c [x, y]).eval = if x.eval.2 ≠ 0 then (0, x.eval.2) else if y.eval.2 ≠ 0 then (0, y.eval.2) else app s.data.toList x.eval.1 y.eval.1 := by
  simp [Tm.eval, h, evalL, comb]
/-- What a value can be. -/
def Codes (p : Int × Int) : Prop := (p.2 = 0 ∧ inR p.1 = true) ∨ (p.1 = 0 ∧ (p.2 = 5 ∨ p.2 = 11 ∨ p.2 = 12 ∨ p.2 = 17))
theorem eval_codes : (∀ t : Tm, Codes t.eval) ∧ (∀ l, ∀ p ∈ evalL l, Codes p) := by
  refine Tm.induct2 (fun k n s A c a ih => ?_) (fun p h => by cases h) (fun t r h1 h2 p h => ?_)
  · simp only [Tm.eval]
    split
    · split
      · rename_i h; exact .inl ⟨rfl, h⟩
      · exact .inr ⟨rfl, .inl rfl⟩
    · split
      · exact .inr ⟨rfl, by simp⟩
      · split
        · rename_i h
          match evalL a, ih with
          | [], _ => exact .inr ⟨rfl, by simp [comb]⟩
          | [_], _ => exact .inr ⟨rfl, by simp [comb]⟩
          | _ :: _ :: _ :: _, _ => exact .inr ⟨rfl, by simp [comb]⟩
          | [x, y], ih =>
            simp only [comb]
            split
            · rename_i hx
              rcases ih x (by simp) with h' | h'
              · exact absurd h'.1 hx
              · exact .inr ⟨rfl, h'.2⟩
            · split
              · rename_i _ hy
                rcases ih y (by simp) with h' | h'
                · exact absurd h'.1 hy
                · exact .inr ⟨rfl, h'.2⟩
              · rcases app_codes s.data.toList x.1 y.1 with h' | ⟨h1, h' | h' | h'⟩
                · exact .inl h'
                · exact .inr ⟨h1, .inl h'⟩
                · exact .inr ⟨h1, .inr (.inr (.inl h'))⟩
                · exact absurd h.2 (by simp [h'.1])
        · exact .inr ⟨rfl, by simp⟩
  · simp only [evalL, List.mem_cons] at h
    rcases h with rfl | h
    · exact h1
    · exact h2 p h

/-! ### The same fields -/
mutual
def Tm.strip : Tm → Tm
  | .mk k n s _ _ a => .mk k n s none 0 (stripL a)
def stripL : List Tm → List Tm
  | [] => []
  | t :: r => t.strip :: stripL r
end
theorem stripL_map (l : List Tm) : stripL l = l.map Tm.strip := by
  induction l with
  | nil => rfl
  | cons t r ih => simp [stripL, ih]
theorem strip_parts {t u : Tm} (h : t.strip = u.strip) : t.kind = u.kind ∧ t.num = u.num ∧ t.name = u.name ∧ t.args.length = u.args.length ∧ stripL t.args = stripL u.args := by
  obtain ⟨k, n, s, A, c, a⟩ := t
  obtain ⟨k', n', s', A', c', a'⟩ := u
  simp only [Tm.strip, Tm.mk.injEq, true_and] at h
  obtain ⟨h1, h2, h3, h4⟩ := h
  have h5 := congrArg List.length h4
  simp only [stripL_map, List.length_map] at h5
  exact ⟨h1, h2, h3, h5, h4⟩
theorem stripL_get {l m : List Tm} (h : stripL l = stripL m) (i : Nat) : (l.getD i default).strip = (m.getD i default).strip := by
  have h5 := congrArg List.length h
  simp only [stripL_map, List.length_map] at h5
  rw [stripL_map, stripL_map] at h
  by_cases hi : i < l.length
  · have := congrArg (fun x => x[i]?) h
    simp only [List.getElem?_map, List.getElem?_eq_getElem hi, List.getElem?_eq_getElem (show i < m.length by omega), Option.map_some, Option.some.injEq] at this
    simpa [List.getD, List.getElem?_eq_getElem hi, List.getElem?_eq_getElem (show i < m.length by omega)] using this
  · simp [List.getD, List.getElem?_eq_none (show l.length ≤ i by omega), List.getElem?_eq_none (show m.length ≤ i by omega)]
theorem eval_strip : (∀ t : Tm, t.strip.eval = t.eval) ∧ (∀ l, evalL (stripL l) = evalL l) := by
  refine Tm.induct2 (fun k n s A c a ih => ?_) rfl (fun t r h1 h2 => ?_)
  · simp only [Tm.strip, Tm.eval, ih]
  · simp only [stripL, evalL, h1, h2]
theorem eval_same {t u : Tm} (h : t.strip = u.strip) : t.eval = u.eval := by rw [← eval_strip.1 t, h, eval_strip.1]

/-! ### Folding -/
def numT (n : Int) : Tm := .mk 0 n ByteArray.empty none 0 []
def fin (t : Tm) : Tm := if t.eval.2 = 0 then numT t.eval.1 else t
mutual
def Tm.fold : Tm → Tm
  | .mk k n s A c a => if k = 2 then fin (.mk k n s A c (foldL a)) else fin (.mk k n s A c a)
def foldL : List Tm → List Tm
  | [] => []
  | t :: r => t.fold :: foldL r
end
theorem foldL_map (l : List Tm) : foldL l = l.map Tm.fold := by
  induction l with
  | nil => rfl
  | cons t r ih => simp [foldL, ih]
theorem numT_strip (n : Int) : (numT n).strip = numT n := rfl
theorem numT_eval {n : Int} (h : inR n = true) : (numT n).eval = (n, 0) := by simp [numT, Tm.eval, h]
theorem fin_strip (t : Tm) : (fin t).strip = fin t.strip := by
  unfold fin
  rw [eval_strip.1]
  split
  · rfl
  · rfl
theorem fin_eval (t : Tm) : (fin t).eval = t.eval := by
  unfold fin
  split
  · rename_i h
    rcases eval_codes.1 t with h' | h'
    · rw [numT_eval h'.2, ← h]
    · rw [h] at h'; omega
  · rfl
theorem fold_strip : (∀ t : Tm, t.fold.strip = t.strip.fold) ∧ (∀ l, stripL (foldL l) = foldL (stripL l)) := by
  refine Tm.induct2 (fun k n s A c a ih => ?_) rfl (fun t r h1 h2 => ?_)
  · simp only [Tm.fold, Tm.strip]
    split
    · rw [fin_strip, Tm.strip, ih]
    · rw [fin_strip, Tm.strip]
  · simp only [stripL, foldL, h1, h2]
theorem fold_same {t u : Tm} (h : t.strip = u.strip) : t.fold.strip = u.fold.strip := by rw [fold_strip.1, h, fold_strip.1]
theorem eval_fold : (∀ t : Tm, t.fold.eval = t.eval) ∧ (∀ l, evalL (foldL l) = evalL l) := by
  refine Tm.induct2 (fun k n s A c a ih => ?_) rfl (fun t r h1 h2 => ?_)
  · simp only [Tm.fold]
    split
    · rw [fin_eval]; simp only [Tm.eval, ih]
    · rw [fin_eval]
  · simp only [evalL, foldL, h1, h2]
theorem fin_num {n : Int} (h : inR n = true) : fin (numT n) = numT n := by
  unfold fin
  rw [numT_eval h]; rfl
theorem fold_val {t : Tm} (h : t.eval.2 = 0) : t.fold = numT t.eval.1 := by
  obtain ⟨k, n, s, A, c, a⟩ := t
  simp only [Tm.fold]
  split
  · have e : (Tm.mk k n s A c (foldL a)).eval = (Tm.mk k n s A c a).eval := by simp only [Tm.eval, eval_fold.2]
    unfold fin
    rw [e, if_pos h]
  · unfold fin
    rw [if_pos h]
theorem fold_fold : (∀ t : Tm, t.fold.fold = t.fold) ∧ (∀ l, foldL (foldL l) = foldL l) := by
  refine Tm.induct2 (fun k n s A c a ih => ?_) rfl (fun t r h1 h2 => ?_)
  · by_cases hv : (Tm.mk k n s A c a).eval.2 = 0
    · rw [fold_val hv]
      have hi : inR (Tm.mk k n s A c a).eval.1 = true := by
        rcases eval_codes.1 (Tm.mk k n s A c a) with h' | h'
        · exact h'.2
        · rw [hv] at h'; omega
      rw [fold_val (by rw [numT_eval hi]), numT_eval hi]
    · simp only [Tm.fold]
      split
      · rename_i hk
        have e : (Tm.mk k n s A c (foldL a)).eval = (Tm.mk k n s A c a).eval := by simp only [Tm.eval, eval_fold.2]
        have hf : fin (Tm.mk k n s A c (foldL a)) = Tm.mk k n s A c (foldL a) := by
          unfold fin; rw [e, if_neg hv]
        rw [hf]
        simp only [Tm.fold, if_pos hk, ih]
        exact hf
      · rename_i hk
        have hf : fin (Tm.mk k n s A c a) = Tm.mk k n s A c a := by
          unfold fin; rw [if_neg hv]
        rw [hf]
        simp only [Tm.fold, if_neg hk]
        exact hf
  · simp only [foldL, h1, h2]
/-- A functor whose folded arguments are not all integers has no value. -/
theorem no_value {n : Int} {s : ByteArray} {A : Option Addr} {c : Nat} {a : List Tm} (h : ∃ x ∈ foldL a, x.kind ≠ 0) : fin (.mk 2 n s A c (foldL a)) = .mk 2 n s A c (foldL a) := by
  unfold fin
  rw [if_neg]
  intro hv
  obtain ⟨x, hx, hk⟩ := h
  rw [foldL_map, List.mem_map] at hx
  obtain ⟨y, hy, rfl⟩ := hx
  have hz : y.eval.2 = 0 := by
    have hm : y.eval ∈ evalL a := by rw [evalL_map]; exact List.mem_map_of_mem hy
    simp only [Tm.eval, eval_fold.2] at hv
    simp only [show ¬((2 : Int) = 0) by decide, show ¬((2 : Int) = 1) by decide, if_false, true_and] at hv
    split at hv
    · match evalL a, hm, hv with
      | [], _, hv => simp [comb] at hv
      | [_], _, hv => simp [comb] at hv
      | _ :: _ :: _ :: _, _, hv => simp [comb] at hv
      | [p, q], hm, hv =>
        simp only [comb] at hv
        split at hv
        · rename_i h; exact absurd hv h
        · rename_i h1
          split at hv
          · rename_i h; exact absurd hv h
          · rename_i h2
            simp only [List.mem_cons, List.not_mem_nil, or_false] at hm
            rcases hm with e | e
            · rw [e]; omega
            · rw [e]; omega
    · simp at hv
  rw [fold_val hz] at hk
  exact hk rfl

/-! ### Expressions -/
mutual
def Tm.expr : Tm → Bool
  | .mk k _ s _ _ a => decide (k = 0) || (decide (k = 2) && (decide (a.length = 2) && opB s.data.toList) && opndL a)
def opndL : List Tm → Bool
  | [] => true
  | t :: r => (decide (t.kind = 1) || t.expr) && opndL r
end
mutual
def Tm.vary : Tm → Bool
  | .mk k _ _ _ _ a => decide (k = 1) || varyL a
def varyL : List Tm → Bool
  | [] => false
  | t :: r => t.vary || varyL r
end
theorem varyL_any (l : List Tm) : varyL l = l.any Tm.vary := by
  induction l with
  | nil => rfl
  | cons t r ih => simp [varyL, ih]
theorem opndL_all (l : List Tm) : opndL l = l.all fun t => decide (t.kind = 1) || t.expr := by
  induction l with
  | nil => rfl
  | cons t r ih => simp [opndL, ih]
theorem var_eval {t : Tm} (h : t.kind = 1) : t.eval = (0, 17) ∧ t.vary = true := by
  obtain ⟨k, n, s, A, c, a⟩ := t
  simp only [Tm.kind] at h
  subst h
  simp [Tm.eval, Tm.vary]
theorem closed : (∀ t : Tm, t.expr = true → t.eval.2 ≠ 11 ∧ (t.eval.2 = 17 → t.vary = true)) ∧ (∀ l, opndL l = true → ∀ t ∈ l, t.eval.2 ≠ 11 ∧ (t.eval.2 = 17 → t.vary = true)) := by
  refine Tm.induct2 (fun k n s A c a ih h => ?_) (fun _ t h => by cases h) (fun t r h1 h2 h x hx => ?_)
  · simp only [Tm.expr, Bool.or_eq_true, Bool.and_eq_true, decide_eq_true_eq] at h
    rcases h with rfl | ⟨⟨rfl, hl, ho⟩, hr⟩
    · simp only [Tm.eval, if_true]
      split <;> simp
    · have ih' := ih hr
      match a, hl, ih' with
      | [x, y], _, ih' =>
        have hx := ih' x (by simp)
        have hy := ih' y (by simp)
        rw [eval_fun ho]
        have hv : (Tm.mk 2 n s A c [x, y]).vary = (x.vary || y.vary) := by simp [Tm.vary, varyL]
        rw [hv]
        split
        · exact ⟨hx.1, fun h => by rw [hx.2 h]; rfl⟩
        · split
          · exact ⟨hy.1, fun h => by rw [hy.2 h]; simp⟩
          · rcases app_codes s.data.toList x.eval.1 y.eval.1 with h' | ⟨_, h' | h' | h'⟩
            · rw [h'.1]; simp
            · rw [h']; simp
            · rw [h']; simp
            · rw [ho] at h'; simp at h'
  · simp only [opndL, Bool.and_eq_true, Bool.or_eq_true, decide_eq_true_eq] at h
    rcases List.mem_cons.1 hx with rfl | hx
    · rcases h.1 with hk | he
      · rw [(var_eval hk).1]; exact ⟨by simp, fun _ => (var_eval hk).2⟩
      · exact h1 he
    · exact h2 h.2 x hx

/-! ### What is left of the nodes -/
mutual
def Tm.lft : Tm → Int → Int → Int
  | .mk _ _ _ _ _ a, n, d => if d < 1 ∨ n - 1 < 0 then -1 else lftL a (n - 1) (d - 1)
def lftL : List Tm → Int → Int → Int
  | [], n, _ => n
  | t :: r, n, d => if t.lft n d < 0 then -1 else lftL r (t.lft n d) d
end
theorem lftL_append (l m : List Tm) (n d : Int) (h : 0 ≤ lftL l n d) : lftL (l ++ m) n d = lftL m (lftL l n d) d := by
  induction l generalizing n with
  | nil => simp [lftL]
  | cons t r ih =>
    simp only [List.cons_append, lftL] at h ⊢
    split at h
    · omega
    · rename_i h'
      rw [if_neg h', if_neg h', ih _ h]
theorem lftL_next {l : List Tm} {k : Nat} (h : k < l.length) (n d : Int) (hk : 0 ≤ lftL (l.take k) n d) :
    lftL (l.take (k + 1)) n d = if (l.getD k default).lft (lftL (l.take k) n d) d < 0 then -1 else (l.getD k default).lft (lftL (l.take k) n d) d := by
  rw [ttake_next h, lftL_append _ _ _ _ hk]
  simp only [lftL]
theorem lftL_stop {l : List Tm} {k : Nat} (h : k < l.length) (n d : Int) (hk : 0 ≤ lftL (l.take k) n d) (hx : (l.getD k default).lft (lftL (l.take k) n d) d < 0) : lftL l n d = -1 := by
  have e : l = l.take k ++ (l.getD k default :: l.drop (k + 1)) := by
    rw [show l.getD k default = l[k] by simp [List.getD, List.getElem?_eq_getElem h], List.getElem_cons_drop, List.take_append_drop]
  rw [e, lftL_append _ _ _ _ hk]
  simp only [lftL]
  rw [if_pos hx]
theorem lft_facts : (∀ (t : Tm) (n d : Int), -1 ≤ t.lft n d ∧ (0 ≤ t.lft n d → t.lft n d + t.nodes ≤ n)) ∧ (∀ (l : List Tm) (n d : Int), 0 ≤ n → -1 ≤ lftL l n d ∧ (0 ≤ lftL l n d → lftL l n d + nodesL l ≤ n)) := by
  refine Tm.induct2 (fun k n s A c a ih => ?_) ?_ (fun t r h1 h2 => ?_)
  · intro m d
    simp only [Tm.lft, Tm.nodes]
    split
    · exact ⟨by omega, fun h => by omega⟩
    · have := ih (m - 1) (d - 1) (by omega)
      exact ⟨this.1, fun h => by have := this.2 h; omega⟩
  · intro n d h
    simp only [lftL, nodesL]
    omega
  · intro n d h
    simp only [lftL, nodesL]
    have a1 := h1 n d
    split
    · exact ⟨by omega, fun h => by omega⟩
    · rename_i h'
      have a2 := h2 (t.lft n d) d (by omega)
      exact ⟨a2.1, fun h => by have := a2.2 h; have := a1.2 (by omega); omega⟩
theorem small_nodes {t : Tm} {n d : Int} (h : decide (0 ≤ t.lft n d) = true) : (t.nodes : Int) ≤ n := by
  have := (lft_facts.1 t n d).2 (by simpa using h)
  have h0 : 0 ≤ t.lft n d := by simpa using h
  omega
end Go.Proofs.Ytponcbnghiaclaa
