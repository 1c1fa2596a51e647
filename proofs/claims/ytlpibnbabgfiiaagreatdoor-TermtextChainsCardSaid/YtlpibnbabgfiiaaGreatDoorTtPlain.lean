/-
  Terms as text, plainly: the text of a term (with spaces around parentheses and before commas), the reading of texts, terms with the same fields. No program.
-/
import Derived.Test.YtlpibnbabgfiiaaGreatDoorTmPlain
import Derived.Lib.AtoiAllCases
namespace Go.Proofs.YtlpibnbabgfiiaaGreatDoor
open Go

/-! ### The same fields -/
mutual
def Tm.strip : Tm → Tm
  | .mk k n s _ _ a => .mk k n s none 0 (stripL a)
def stripL : List Tm → List Tm
  | [] => []
  | t :: r => t.strip :: stripL r
end
theorem stripL_map (l : List Tm) : stripL l = l.map Tm.strip := by
  induction l with
  | nil => rfl
  | cons t r ih => simp [stripL, ih]
theorem stripL_len (l : List Tm) : (stripL l).length = l.length := by rw [stripL_map, List.length_map]
theorem stripL_append (l m : List Tm) : stripL (l ++ m) = stripL l ++ stripL m := by simp [stripL_map]
theorem strip_parts {t u : Tm} (h : t.strip = u.strip) : t.kind = u.kind ∧ t.num = u.num ∧ t.name = u.name ∧ t.args.length = u.args.length ∧ stripL t.args = stripL u.args := by
  obtain ⟨k, n, s, A, c, a⟩ := t
  obtain ⟨k', n', s', A', c', a'⟩ := u
  simp only [Tm.strip, Tm.mk.injEq, true_and] at h
  obtain ⟨h1, h2, h3, h4⟩ := h
  have h5 := congrArg List.length h4
  simp only [stripL_map, List.length_map] at h5
  exact ⟨h1, h2, h3, h5, h4⟩
theorem strip_strip : (∀ t : Tm, t.strip.strip = t.strip) ∧ (∀ l, stripL (stripL l) = stripL l) := by
  refine Tm.induct2 (fun k n s A c a ih => ?_) rfl (fun t r h1 h2 => ?_)
  · simp only [Tm.strip, ih]
  · simp only [stripL, h1, h2]
theorem form_strip : (∀ t : Tm, t.strip.form = t.form) ∧ (∀ l, formL (stripL l) = formL l) := by
  refine Tm.induct2 (fun k n s A c a ih => ?_) rfl (fun t r h1 h2 => ?_)
  · simp only [Tm.strip, Tm.form, ih, stripL_len]
  · simp only [stripL, formL, h1, h2]
theorem size_strip : (∀ t : Tm, t.strip.size = t.size) ∧ (∀ l, sizeL (stripL l) = sizeL l) := by
  refine Tm.induct2 (fun k n s A c a ih => ?_) rfl (fun t r h1 h2 => ?_)
  · simp only [Tm.strip, Tm.size, ih]
  · simp only [stripL, sizeL, h1, h2]
theorem depth_strip : (∀ t : Tm, t.strip.depth = t.depth) ∧ (∀ l, depthL (stripL l) = depthL l) := by
  refine Tm.induct2 (fun k n s A c a ih => ?_) rfl (fun t r h1 h2 => ?_)
  · simp only [Tm.strip, Tm.depth, ih]
  · simp only [stripL, depthL, h1, h2]
theorem right_strip (t : Tm) : t.strip.right = t.right := by
  unfold Tm.right
  rw [form_strip.1, size_strip.1, depth_strip.1]
theorem right_same {t u : Tm} (h : t.strip = u.strip) : t.right = u.right := by rw [← right_strip t, h, right_strip]

/-! ### Spaces -/
def skip : List UInt8 → List UInt8
  | [] => []
  | c :: r => if c = 32 then skip r else c :: r
theorem skip_len (l : List UInt8) : (skip l).length ≤ l.length := by
  induction l with
  | nil => simp [skip]
  | cons c r ih =>
    unfold skip
    split
    · simp only [List.length_cons]; omega
    · exact Nat.le_refl _
theorem skip_cons {c : UInt8} (r : List UInt8) (h : c ≠ 32) : skip (c :: r) = c :: r := by unfold skip; rw [if_neg h]
theorem skip_space (r : List UInt8) : skip (32 :: r) = skip r := by rw [skip, if_pos rfl]
theorem skip_skip (l : List UInt8) : skip (skip l) = skip l := by
  induction l with
  | nil => rfl
  | cons c r ih =>
    by_cases h : c = 32
    · rw [h, skip_space, ih]
    · rw [skip_cons r h, skip_cons r h]
theorem skip_head {l : List UInt8} : (skip l).headD 0 ≠ 32 := by
  induction l with
  | nil => decide
  | cons c r ih =>
    by_cases h : c = 32
    · rw [h, skip_space]; exact ih
    · rw [skip_cons r h]; exact h
def sp (n : Nat) : List UInt8 := List.replicate n 32
theorem skip_sp (n : Nat) (r : List UInt8) : skip (sp n ++ r) = skip r := by
  induction n with
  | zero => rfl
  | succ n ih => rw [sp, List.replicate_succ, List.cons_append, skip_space]; exact ih
theorem skip_at {n : Nat} {c : UInt8} {r : List UInt8} (h : c ≠ 32) : skip (sp n ++ c :: r) = c :: r := by rw [skip_sp, skip_cons r h]

/-! ### Strength -/
/-- The strength of an operator: 0 adds, 1 multiplies, 2 is none. -/
def ostr (s : List UInt8) : Nat := if s = [43] ∨ s = [45] then 0 else if s = [42] ∨ s = [47] ∨ s = [37] then 1 else 2
def Tm.pw (t : Tm) : Nat := ostr t.name.data.toList
theorem ostr_op (s : List UInt8) : opB s = true ↔ ostr s < 2 := by
  simp only [opB, operators, List.mem_cons, List.not_mem_nil, or_false, decide_eq_true_eq, ostr]
  split
  · rename_i h; rcases h with h | h <;> simp [h]
  · rename_i h
    split
    · rename_i h'; rcases h' with h' | h' | h' <;> simp [h']
    · rename_i h'
      simp only [not_or] at h h'
      simp [h, h']
theorem ostr_hi (s : List UInt8) : ostr s ≤ 2 := by unfold ostr; split <;> (try split) <;> omega

/-! ### Texts -/
/-- How many spaces: before and behind '(', before and behind ')', before ','. -/
structure Sty where
  a : Nat
  b : Nat
  c : Nat
  d : Nat
  e : Nat
def plain : Sty := ⟨0, 0, 0, 0, 0⟩
def wide : Sty := ⟨1, 2, 1, 2, 1⟩
def Sty.lp (σ : Sty) : List UInt8 := sp σ.a ++ 40 :: sp σ.b
def Sty.rp (σ : Sty) : List UInt8 := sp σ.c ++ 41 :: sp σ.d
def Sty.cm (σ : Sty) : List UInt8 := sp σ.e ++ [44]
def paren (σ : Sty) (b : Bool) (x : List UInt8) : List UInt8 := if b then σ.lp ++ (x ++ σ.rp) else x
def restT (σ : Sty) : List (List UInt8) → List UInt8
  | [] => []
  | x :: r => σ.cm ++ (32 :: x ++ restT σ r)
def callT (σ : Sty) (s : List UInt8) : List (List UInt8) → List UInt8
  | [] => s
  | x :: r => s ++ (σ.lp ++ (x ++ (restT σ r ++ σ.rp)))
def opT (s x y : List UInt8) : List UInt8 := x ++ (32 :: s ++ (32 :: y))
mutual
def Tm.txt (σ : Sty) : Tm → List UInt8
  | .mk k n s _ _ a => if k = 0 then Lib.itoa n else if k = 1 then label n.toNat
      else if opB s.data.toList then opT s.data.toList (paren σ (decide ((a.getD 0 default).pw < ostr s.data.toList)) ((txtL σ a).getD 0 [])) (paren σ (decide ((a.getD 1 default).pw ≤ ostr s.data.toList)) ((txtL σ a).getD 1 []))
      else callT σ s.data.toList (txtL σ a)
def txtL (σ : Sty) : List Tm → List (List UInt8)
  | [] => []
  | t :: r => t.txt σ :: txtL σ r
end
theorem txtL_map (σ : Sty) (l : List Tm) : txtL σ l = l.map (Tm.txt σ) := by
  induction l with
  | nil => rfl
  | cons t r ih => simp [txtL, ih]

/-! ### Reading -/
/-- What a reader answers: a value and what is left, or an error. -/
inductive PR (α : Type) where
  | ok (v : α) (r : List UInt8)
  | err (e : Int)

def binT (c : UInt8) (t u : Tm) : Tm := .mk 2 0 ⟨#[c]⟩ none 0 [t, u]
def funT (w : List UInt8) (l : List Tm) : Tm := .mk 2 0 ⟨w.toArray⟩ none 0 l
def intT (n : Int) : Tm := .mk 0 n ⟨#[]⟩ none 0 []
def varT (n : Nat) : Tm := .mk 1 (n : Int) ⟨#[]⟩ none 0 []

def intP (r : List UInt8) : PR Tm :=
  if (if r.headD 0 = 45 then r.tail else r).takeWhile digB = [] ∨ (((if r.headD 0 = 45 then r.tail else r).takeWhile digB).headD 0 = 48 ∧ (r.headD 0 = 45 ∨ 1 < ((if r.headD 0 = 45 then r.tail else r).takeWhile digB).length)) then .err 16
  else if 2147483648 < spell ((if r.headD 0 = 45 then r.tail else r).takeWhile digB) then .err 5
  else .ok (intT (if r.headD 0 = 45 then -(spell ((if r.headD 0 = 45 then r.tail else r).takeWhile digB) : Int) else (spell ((if r.headD 0 = 45 then r.tail else r).takeWhile digB) : Int))) (skip ((if r.headD 0 = 45 then r.tail else r).dropWhile digB))

def labP (r : List UInt8) : PR Tm :=
  if spell ((r.takeWhile inB).drop 1) ≤ 1048576 ∧ r.takeWhile inB = label (spell ((r.takeWhile inB).drop 1)) then .ok (varT (spell ((r.takeWhile inB).drop 1))) (skip (r.dropWhile inB)) else .err 7

def argsP (ex : List UInt8 → PR Tm) (acc : List Tm) (r : List UInt8) : PR (List Tm) :=
  match ex r with
  | .err e => .err e
  | .ok _ [] => .err 16
  | .ok t (c :: r2) => if c = 41 then .ok (acc ++ [t]) (skip r2)
      else if c = 44 then (if _h : r2.length < r.length then argsP ex (acc ++ [t]) (skip r2) else .err 0)
      else .err 16
termination_by r.length
decreasing_by have := skip_len r2; omega

def atomP (ex : List UInt8 → PR Tm) (r : List UInt8) : PR (List UInt8 × List Tm) :=
  if lowB (r.headD 0) then
    if rightB (r.takeWhile inB) then
      match skip (r.dropWhile inB) with
      | [] => .ok (r.takeWhile inB, []) []
      | c :: r2 => if c = 40 then (match argsP ex [] (skip r2) with
          | .ok l r3 => .ok (r.takeWhile inB, l) r3
          | .err e => .err e) else .ok (r.takeWhile inB, []) (c :: r2)
    else .err 7
  else .err 16

def groupP (ex : List UInt8 → PR Tm) (r : List UInt8) : PR Tm :=
  match ex (skip r.tail) with
  | .err e => .err e
  | .ok _ [] => .err 16
  | .ok t (c :: r2) => if c = 41 then .ok t (skip r2) else .err 16

def asFun : PR (List UInt8 × List Tm) → PR Tm
  | .ok (w, l) r2 => .ok (funT w l) r2
  | .err e => .err e
def opnd (ex : List UInt8 → PR Tm) (r : List UInt8) : PR Tm :=
  if r.headD 0 = 40 then groupP ex r
  else if r.headD 0 = 45 ∨ digB (r.headD 0) = true then intP r
  else if undB (r.headD 0) = true ∨ uppB (r.headD 0) = true then labP r
  else asFun (atomP ex r)

def chain (own : Nat) (o : List UInt8 → PR Tm) (t : Tm) (r : List UInt8) : PR Tm :=
  if ostr [r.headD 0] = own then
    match o (skip r.tail) with
    | .ok u r2 => if _h : r2.length < r.length then chain own o (binT (r.headD 0) t u) r2 else .err 0
    | .err e => .err e
  else .ok t r
termination_by r.length

def level (own : Nat) (o : List UInt8 → PR Tm) (r : List UInt8) : PR Tm :=
  match o r with
  | .ok t r1 => chain own o t r1
  | .err e => .err e

def exprP : Nat → List UInt8 → PR Tm
  | 0, _ => .err 0
  | n + 1, r => level 0 (level 1 (opnd (exprP n))) r

def parseP (s : List UInt8) : PR Tm :=
  if 16384 < s.length then .err 6 else
  match exprP (s.length + 1) (skip s) with
  | .err e => .err e
  | .ok t r => if r ≠ [] then .err 16 else if t.right then .ok t [] else .err 6
def atomR (w : List UInt8) (l : List Tm) : Bool := rightB w && (decide (l.length ≤ 6) && (formL l && (decide (sizeL l ≤ 200) && decide (depthL l ≤ 20))))
def parseA (s : List UInt8) : PR (List UInt8 × List Tm) :=
  if 16384 < s.length then .err 6 else
  match atomP (exprP (s.length + 1)) (skip s) with
  | .err e => .err e
  | .ok (w, l) r => if r ≠ [] then .err 16 else if atomR w l then .ok (w, l) [] else .err 6

/-! ### What is left is shorter -/
theorem dropWhile_len (p : UInt8 → Bool) (l : List UInt8) : (l.dropWhile p).length ≤ l.length := by
  induction l with
  | nil => simp
  | cons c r ih =>
    rw [List.dropWhile_cons]
    split
    · simp only [List.length_cons]; omega
    · exact Nat.le_refl _
theorem take_drop_while (p : UInt8 → Bool) (l : List UInt8) : (l.takeWhile p).length + (l.dropWhile p).length = l.length := by
  rw [← List.length_append, List.takeWhile_append_dropWhile]
def Shrinks {α : Type} (o : List UInt8 → PR α) : Prop := ∀ r t r', o r = .ok t r' → r'.length < r.length
theorem head_cons {r : List UInt8} {c : UInt8} (h : r.headD 0 = c) (h0 : c ≠ 0) : ∃ q, r = c :: q := by
  cases r with
  | nil => exact absurd h.symm h0
  | cons x q => exact ⟨q, by simpa using h⟩

theorem chain_len {own : Nat} {o : List UInt8 → PR Tm} (t : Tm) (r : List UInt8) {u : Tm} {r' : List UInt8} (h : chain own o t r = .ok u r') : r'.length ≤ r.length := by
  induction hn : r.length using Nat.strongRecOn generalizing t r with
  | _ n ih =>
    rw [chain] at h
    split at h
    · split at h
      · split at h
        · rename_i hlt
          have := ih _ (by omega) _ _ h rfl
          omega
        · cases h
      · cases h
    · injection h with _ h; subst h; omega
theorem level_shrinks {own : Nat} {o : List UInt8 → PR Tm} (ho : Shrinks o) : Shrinks (level own o) := by
  intro r t r' h
  unfold level at h
  split at h
  · rename_i t1 r1 h1
    have := ho _ _ _ h1
    have := chain_len _ _ h
    omega
  · cases h
theorem args_len {ex : List UInt8 → PR Tm} (hex : Shrinks ex) (acc : List Tm) (r : List UInt8) {l : List Tm} {r' : List UInt8} (h : argsP ex acc r = .ok l r') : r'.length < r.length := by
  induction hn : r.length using Nat.strongRecOn generalizing acc r with
  | _ n ih =>
    rw [argsP] at h
    split at h
    · cases h
    · cases h
    · rename_i t c r2 hx
      have h1 := hex _ _ _ hx
      simp only [List.length_cons] at h1
      have h2 := skip_len r2
      split at h
      · injection h with _ h; subst h; omega
      · split at h
        · split at h
          · have := ih _ (by omega) _ _ h rfl
            omega
          · cases h
        · cases h
theorem word_pos {r : List UInt8} (h : rightB (r.takeWhile inB) = true) : 1 ≤ (r.takeWhile inB).length := by
  simp only [rightB, Bool.and_eq_true] at h
  exact ((wordB_iff _).1 h.1).1
theorem atom_shrinks {ex : List UInt8 → PR Tm} (hex : Shrinks ex) : Shrinks (atomP ex) := by
  intro r t r' h
  unfold atomP at h
  have h0 := take_drop_while inB r
  split at h
  · split at h
    · rename_i hr
      have h1 := word_pos hr
      have h2 := skip_len (r.dropWhile inB)
      split at h
      · rename_i hs
        injection h with _ h; subst h
        simp only [List.length_nil]; omega
      · rename_i c r2 hs
        rw [hs] at h2
        simp only [List.length_cons] at h2
        have h3 := skip_len r2
        split at h
        · split at h
          · rename_i l r3 ha
            injection h with _ h; subst h
            have := args_len hex _ _ ha
            omega
          · cases h
        · injection h with _ h; subst h
          simp only [List.length_cons]; omega
    · cases h
  · cases h
theorem int_shrinks : Shrinks intP := by
  intro r t r' h
  unfold intP at h
  generalize hq : (if r.headD 0 = 45 then r.tail else r) = q at h
  have hql : q.length ≤ r.length := by
    rw [← hq]
    split
    · simp
    · exact Nat.le_refl _
  split at h
  · cases h
  · rename_i hne
    split at h
    · cases h
    · injection h with _ h; subst h
      have h1 := skip_len (q.dropWhile digB)
      have h2 := take_drop_while digB q
      have h3 : 1 ≤ (q.takeWhile digB).length := by
        rcases hd : q.takeWhile digB with _ | ⟨x, y⟩
        · exact absurd (Or.inl hd) hne
        · simp
      omega
theorem lab_shrinks : Shrinks labP := by
  intro r t r' h
  unfold labP at h
  split at h
  · rename_i hl
    injection h with _ h; subst h
    have h1 := skip_len (r.dropWhile inB)
    have h2 := take_drop_while inB r
    have h3 := (label_len hl.1).1
    rw [← hl.2] at h3
    omega
  · cases h
theorem opnd_shrinks {ex : List UInt8 → PR Tm} (hex : Shrinks ex) : Shrinks (opnd ex) := by
  intro r t r' h
  unfold opnd at h
  split at h
  · rename_i h40
    unfold groupP at h
    split at h
    · cases h
    · cases h
    · rename_i t' c r2 hx
      have h1 := hex _ _ _ hx
      have h2 := skip_len r.tail
      have h3 : r.tail.length ≤ r.length := by simp
      have h4 := skip_len r2
      simp only [List.length_cons] at h1
      split at h
      · injection h with _ h; subst h; omega
      · cases h
  · split at h
    · exact int_shrinks _ _ _ h
    · split at h
      · exact lab_shrinks _ _ _ h
      · rcases ha : atomP ex r with ⟨w, l⟩ | e
        · rw [ha] at h
          injection h with _ h; subst h
          exact atom_shrinks hex _ _ _ ha
        · rw [ha] at h; cases h
theorem args_err {ex : List UInt8 → PR Tm} {acc : List Tm} {r : List UInt8} {e : Int} (h : ex r = .err e) : argsP ex acc r = .err e := by rw [argsP, h]
theorem args_close {ex : List UInt8 → PR Tm} {acc : List Tm} {r r1 : List UInt8} {t : Tm} (h : ex r = .ok t r1) (h1 : r1.headD 0 = 41) : argsP ex acc r = .ok (acc ++ [t]) (skip r1.tail) := by
  obtain ⟨q, rfl⟩ := head_cons h1 (by decide)
  rw [argsP, h]
  simp
theorem args_comma {ex : List UInt8 → PR Tm} (hex : Shrinks ex) {acc : List Tm} {r r1 : List UInt8} {t : Tm} (h : ex r = .ok t r1) (h1 : r1.headD 0 = 44) : argsP ex acc r = argsP ex (acc ++ [t]) (skip r1.tail) := by
  obtain ⟨q, rfl⟩ := head_cons h1 (by decide)
  have := hex _ _ _ h
  simp only [List.length_cons] at this
  rw [argsP, h]
  simp only [show ¬ ((44 : UInt8) = 41) by decide, if_false, if_true, List.tail_cons]
  rw [dif_pos (by omega)]
theorem args_other {ex : List UInt8 → PR Tm} {acc : List Tm} {r r1 : List UInt8} {t : Tm} (h : ex r = .ok t r1) (h1 : r1.headD 0 ≠ 41) (h2 : r1.headD 0 ≠ 44) : argsP ex acc r = .err 16 := by
  rw [argsP, h]
  rcases r1 with _ | ⟨c, q⟩
  · rfl
  · simp only [List.headD_cons] at h1 h2
    simp [h1, h2]
theorem chain_step {own : Nat} {o : List UInt8 → PR Tm} (ho : Shrinks o) {t u : Tm} {r r2 : List UInt8} (h1 : ostr [r.headD 0] = own) (h : o (skip r.tail) = .ok u r2) : chain own o t r = chain own o (binT (r.headD 0) t u) r2 := by
  have h2 := ho _ _ _ h
  have h3 := skip_len r.tail
  have h4 : r.tail.length ≤ r.length := by simp
  conv => lhs; rw [chain]
  rw [if_pos h1, h]
  simp only
  rw [dif_pos (by omega)]
theorem chain_err {own : Nat} {o : List UInt8 → PR Tm} {t : Tm} {r : List UInt8} {e : Int} (h1 : ostr [r.headD 0] = own) (h : o (skip r.tail) = .err e) : chain own o t r = .err e := by
  rw [chain, if_pos h1, h]
theorem expr_shrinks (n : Nat) : Shrinks (exprP n) := by
  induction n with
  | zero => intro r t r' h; cases h
  | succ n ih => exact level_shrinks (level_shrinks (opnd_shrinks ih))
end Go.Proofs.YtlpibnbabgfiiaaGreatDoor
