/-
  Plain facts of names: the kinds of words.
  Terms as plain trees (with the place and the capacity of their argument lists), their measures, validity and the standard order.
  Terms with the same fields (without addresses and capacities): measures, validity and comparison are the same. No program.
  Substitutions, plainly: looking up, applying, the solved form, composition, restriction, identity. No program.
  Substitutions, plainly: a composition applies one after the other, is associative, and leaves solved forms as they are; restriction; identity. No program.
  Matching, plainly: environments, the match of terms and of lists, instances. No program.
  Instances of patterns, plainly, and what they have to do with matching. No program.
-/
import Derived.WalkKit
namespace Go.Proofs.Ytpnjjahimhhjkaa
open Go

/-! ### Bytes and words -/
def lowB (c : UInt8) : Bool := decide (97 ≤ c.toNat ∧ c.toNat ≤ 122)
def uppB (c : UInt8) : Bool := decide (65 ≤ c.toNat ∧ c.toNat ≤ 90)
def digB (c : UInt8) : Bool := decide (48 ≤ c.toNat ∧ c.toNat ≤ 57)
def undB (c : UInt8) : Bool := decide (c.toNat = 95)
def inB (c : UInt8) : Bool := lowB c || uppB c || digB c || undB c
def wordB (l : List UInt8) : Bool := decide (1 ≤ l.length) && (decide (l.length ≤ 40) && l.all inB)
def reserved : List (List UInt8) := [[99, 111, 110, 115, 116, 114, 97, 105, 110, 116], [116, 114, 117, 101], [102, 97, 105, 108], [105, 115], [105, 110, 116], [103, 114, 111, 117, 110, 100]]
def operators : List (List UInt8) := [[43], [45], [42], [47], [37]]
def resB (l : List UInt8) : Bool := decide (l ∈ reserved)
def opB (l : List UInt8) : Bool := decide (l ∈ operators)
def rightB (l : List UInt8) : Bool := wordB l && (lowB (l.getD 0 0) && !resB l)
def varB (l : List UInt8) : Bool := wordB l && (uppB (l.getD 0 0) || undB (l.getD 0 0))

theorem wordB_iff (l : List UInt8) : wordB l = true ↔ 1 ≤ l.length ∧ l.length ≤ 40 ∧ ∀ c ∈ l, inB c = true := by
  simp [wordB]
theorem low_upp {c : UInt8} (h : lowB c = true) : uppB c = false ∧ undB c = false := by
  simp only [lowB, uppB, undB, decide_eq_true_eq, decide_eq_false_iff_not] at *
  omega
theorem head_in {l : List UInt8} (h : wordB l = true) : inB (l.getD 0 0) = true := by
  obtain ⟨h1, _, h3⟩ := (wordB_iff l).1 h
  refine h3 _ ?_
  rcases l with _ | ⟨c, r⟩
  · simp at h1
  · simp
theorem right_var {l : List UInt8} (h : rightB l = true) : varB l = false := by
  simp only [rightB, varB, Bool.and_eq_true] at *
  obtain ⟨h1, h2, h3⟩ := h
  obtain ⟨e1, e2⟩ := low_upp h2
  rw [h1, e1, e2]
  rfl
theorem right_res {l : List UInt8} (h : rightB l = true) : resB l = false := by
  simp only [rightB, Bool.and_eq_true, Bool.not_eq_true'] at h
  exact h.2.2
theorem op_word {l : List UInt8} (h : opB l = true) : wordB l = false ∧ resB l = false := by
  simp only [opB, operators, List.mem_cons, List.not_mem_nil, or_false, decide_eq_true_eq] at h
  rcases h with rfl | rfl | rfl | rfl | rfl <;> decide
theorem op_right {l : List UInt8} (h : opB l = true) : rightB l = false ∧ varB l = false ∧ resB l = false := by
  obtain ⟨h1, h2⟩ := op_word h
  simp [rightB, varB, h1, h2]
theorem res_var {l : List UInt8} (h : resB l = true) : varB l = false ∧ opB l = false ∧ rightB l = false := by
  simp only [resB, reserved, List.mem_cons, List.not_mem_nil, or_false, decide_eq_true_eq] at h
  rcases h with rfl | rfl | rfl | rfl | rfl | rfl <;> decide
theorem right_op {l : List UInt8} (h : rightB l = true) : opB l = false := by
  cases ho : opB l
  · rfl
  · rw [(op_right ho).1] at h; cases h
theorem var_right {l : List UInt8} (h : varB l = true) : rightB l = false := by
  cases ho : rightB l
  · rfl
  · rw [right_var ho] at h; cases h
theorem var_op {l : List UInt8} (h : varB l = true) : opB l = false := by
  cases ho : opB l
  · rfl
  · rw [(op_right ho).2.1] at h; cases h
theorem var_res {l : List UInt8} (h : varB l = true) : resB l = false := by
  cases ho : resB l
  · rfl
  · rw [(res_var ho).1] at h; cases h

/-! ### With an underscore behind -/
theorem und_last {l m : List UInt8} (h : l ++ [95] = m) : m.getLast? = some 95 := by rw [← h]; simp
theorem res_und (l : List UInt8) : resB (l ++ [95]) = false := by
  simp only [resB, reserved, List.mem_cons, List.not_mem_nil, or_false, decide_eq_false_iff_not]
  intro h
  rcases h with h | h | h | h | h | h <;> exact absurd (und_last h) (by decide)
theorem op_und (l : List UInt8) : opB (l ++ [95]) = false := by
  simp only [opB, operators, List.mem_cons, List.not_mem_nil, or_false, decide_eq_false_iff_not]
  intro h
  rcases h with h | h | h | h | h <;> exact absurd (und_last h) (by decide)
theorem word_und {l : List UInt8} (h : wordB l = true) (hs : l.length < 40) : wordB (l ++ [95]) = true := by
  rw [wordB_iff] at h ⊢
  obtain ⟨h1, h2, h3⟩ := h
  refine ⟨by simp, by simp; omega, fun c hc => ?_⟩
  rcases List.mem_append.1 hc with h | h
  · exact h3 c h
  · obtain rfl := List.mem_singleton.1 h
    decide
theorem head_und {l : List UInt8} (h : wordB l = true) : (l ++ [95]).getD 0 0 = l.getD 0 0 := by
  obtain ⟨h1, _, _⟩ := (wordB_iff l).1 h
  rcases l with _ | ⟨c, r⟩
  · simp at h1
  · simp
theorem right_und {l : List UInt8} (h : rightB l = true) (hs : l.length < 40) : rightB (l ++ [95]) = true := by
  simp only [rightB, Bool.and_eq_true] at h
  simp only [rightB, word_und h.1 hs, head_und h.1, h.2.1, res_und]
  rfl
theorem var_und {l : List UInt8} (h : varB l = true) (hs : l.length < 40) : varB (l ++ [95]) = true := by
  simp only [varB, Bool.and_eq_true] at h
  simp only [varB, word_und h.1 hs, head_und h.1, h.2]
  rfl
theorem res_right_und {l : List UInt8} (h : resB l = true) : rightB (l ++ [95]) = true := by
  simp only [resB, reserved, List.mem_cons, List.not_mem_nil, or_false, decide_eq_true_eq] at h
  rcases h with rfl | rfl | rfl | rfl | rfl | rfl <;> decide

end Go.Proofs.Ytpnjjahimhhjkaa
namespace Go.Proofs.Ytpnjjahimhhjkaa
open Go

/-- A term: kind, number, name, where its arguments lie, the capacity there, the arguments. -/
inductive Tm where
  | mk (kind num : Int) (name : ByteArray) (A : Option Addr) (cap : Nat) (args : List Tm)

namespace Tm
def kind : Tm → Int | mk k _ _ _ _ _ => k
def num : Tm → Int | mk _ n _ _ _ _ => n
def name : Tm → ByteArray | mk _ _ s _ _ _ => s
def at_ : Tm → Option Addr | mk _ _ _ A _ _ => A
def cap : Tm → Nat | mk _ _ _ _ c _ => c
def args : Tm → List Tm | mk _ _ _ _ _ a => a
end Tm
instance : Inhabited Tm := ⟨.mk 0 0 ByteArray.empty none 0 []⟩

theorem Tm.induct {p : Tm → Prop} (h : ∀ k n s A c a, (∀ t ∈ a, p t) → p (.mk k n s A c a)) : ∀ t, p t := fun t =>
  Tm.rec (motive_1 := p) (motive_2 := fun l => ∀ t ∈ l, p t) (fun k n s A c a ih => h k n s A c a ih) (fun _ h => by cases h)
    (fun t r h1 h2 x hx => by
      rcases List.mem_cons.1 hx with rfl | hx
      · exact h1
      · exact h2 x hx) t
theorem Tm.induct2 {p : Tm → Prop} {q : List Tm → Prop} (h : ∀ k n s A c a, q a → p (.mk k n s A c a)) (h0 : q []) (h1 : ∀ t r, p t → q r → q (t :: r)) : (∀ t, p t) ∧ (∀ l, q l) :=
  have hp : ∀ t, p t := fun t => Tm.rec (motive_1 := p) (motive_2 := q) h h0 h1 t
  ⟨hp, fun l => by
    induction l with
    | nil => exact h0
    | cons t r ih => exact h1 t r (hp t) ih⟩

theorem ttake_next {l : List Tm} {k : Nat} (h : k < l.length) : l.take (k + 1) = l.take k ++ [l.getD k default] := by
  rw [List.take_succ_eq_append_getElem h]
  simp [List.getD, List.getElem?_eq_getElem h]
theorem getD_mem {l : List Tm} {k : Nat} (h : k < l.length) : l.getD k default ∈ l := by
  simp only [List.getD, List.getElem?_eq_getElem h, Option.getD_some]
  exact List.getElem_mem h

/-- The arguments that a term uses. -/
def Tm.used (t : Tm) : List Tm := if t.kind = 2 then t.args else []

/-! ### Measures -/
mutual
def Tm.size : Tm → Nat
  | .mk k _ _ _ _ a => if k = 2 then 1 + sizeL a else 1
def sizeL : List Tm → Nat
  | [] => 0
  | t :: r => t.size + sizeL r
end
mutual
def Tm.depth : Tm → Nat
  | .mk k _ _ _ _ a => if k = 2 then depthL a + 1 else 1
def depthL : List Tm → Nat
  | [] => 0
  | t :: r => max t.depth (depthL r)
end
/- All nodes, those of arguments that are not used among them. -/
mutual
def Tm.nodes : Tm → Nat
  | .mk _ _ _ _ _ a => 1 + nodesL a
def nodesL : List Tm → Nat
  | [] => 0
  | t :: r => t.nodes + nodesL r
end
/- The numbers of the variables, with repeats. -/
mutual
def Tm.occ : Tm → List Int
  | .mk k n _ _ _ a => if k = 1 then [n] else if k = 2 then occL a else []
def occL : List Tm → List Int
  | [] => []
  | t :: r => t.occ ++ occL r
end
theorem size_used (t : Tm) : t.size = 1 + sizeL t.used := by
  cases t with
  | mk k n s A c a => by_cases h : k = 2 <;> simp [Tm.size, Tm.used, Tm.kind, Tm.args, h, sizeL]
theorem depth_used (t : Tm) : t.depth = depthL t.used + 1 := by
  cases t with
  | mk k n s A c a => by_cases h : k = 2 <;> simp [Tm.depth, Tm.used, Tm.kind, Tm.args, h, depthL]
theorem occ_used (t : Tm) : t.occ = (if t.kind = 1 then [t.num] else occL t.used) := by
  cases t with
  | mk k n s A c a =>
    by_cases h1 : k = 1
    · simp [Tm.occ, Tm.kind, Tm.num, h1]
    · by_cases h : k = 2 <;> simp [Tm.occ, Tm.used, Tm.kind, Tm.args, h, h1, occL]
theorem sizeL_append (l m : List Tm) : sizeL (l ++ m) = sizeL l + sizeL m := by
  induction l with
  | nil => simp [sizeL]
  | cons t r ih => simp [sizeL, ih]; omega
theorem depthL_append (l m : List Tm) : depthL (l ++ m) = max (depthL l) (depthL m) := by
  induction l with
  | nil => simp [depthL]
  | cons t r ih => simp only [List.cons_append, depthL, ih]; omega
theorem nodesL_append (l m : List Tm) : nodesL (l ++ m) = nodesL l + nodesL m := by
  induction l with
  | nil => simp [nodesL]
  | cons t r ih => simp [nodesL, ih]; omega
theorem occL_append (l m : List Tm) : occL (l ++ m) = occL l ++ occL m := by
  induction l with
  | nil => simp [occL]
  | cons t r ih => simp [occL, ih]
theorem sizeL_next {l : List Tm} {k : Nat} (h : k < l.length) : sizeL (l.take (k + 1)) = sizeL (l.take k) + (l.getD k default).size := by
  rw [ttake_next h, sizeL_append]; simp [sizeL]
theorem depthL_next {l : List Tm} {k : Nat} (h : k < l.length) : depthL (l.take (k + 1)) = max (depthL (l.take k)) (l.getD k default).depth := by
  rw [ttake_next h, depthL_append]; simp [depthL]
theorem occL_next {l : List Tm} {k : Nat} (h : k < l.length) : occL (l.take (k + 1)) = occL (l.take k) ++ (l.getD k default).occ := by
  rw [ttake_next h, occL_append]; simp [occL]
theorem size_nodes : (∀ t : Tm, t.size ≤ t.nodes ∧ 1 ≤ t.size) ∧ (∀ l, sizeL l ≤ nodesL l) := by
  refine Tm.induct2 (fun k n s A c a ih => ?_) (Nat.le_refl _) (fun t r h1 h2 => ?_)
  · simp only [Tm.size, Tm.nodes]; split <;> omega
  · simp only [sizeL, nodesL]; omega
theorem depth_nodes : (∀ t : Tm, t.depth ≤ t.nodes) ∧ (∀ l, depthL l ≤ nodesL l) := by
  refine Tm.induct2 (fun k n s A c a ih => ?_) (Nat.le_refl _) (fun t r h1 h2 => ?_)
  · simp only [Tm.depth, Tm.nodes]; split <;> omega
  · simp only [depthL, nodesL]; omega
theorem depth_size : (∀ t : Tm, t.depth ≤ t.size) ∧ (∀ l, depthL l ≤ sizeL l) := by
  refine Tm.induct2 (fun k n s A c a ih => ?_) (Nat.le_refl _) (fun t r h1 h2 => ?_)
  · simp only [Tm.depth, Tm.size]; split <;> omega
  · simp only [depthL, sizeL]; omega
theorem sizeL_take (l : List Tm) (k : Nat) : sizeL (l.take k) ≤ sizeL l := by
  have := sizeL_append (l.take k) (l.drop k)
  rw [List.take_append_drop] at this
  omega
theorem depthL_take (l : List Tm) (k : Nat) : depthL (l.take k) ≤ depthL l := by
  have := depthL_append (l.take k) (l.drop k)
  rw [List.take_append_drop] at this
  omega
theorem size_mem {t : Tm} {l : List Tm} (h : t ∈ l) : t.size ≤ sizeL l := by
  induction l with
  | nil => cases h
  | cons x r ih =>
    simp only [sizeL]
    rcases List.mem_cons.1 h with rfl | h
    · omega
    · have := ih h; omega
theorem depth_mem {t : Tm} {l : List Tm} (h : t ∈ l) : t.depth ≤ depthL l := by
  induction l with
  | nil => cases h
  | cons x r ih =>
    simp only [depthL]
    rcases List.mem_cons.1 h with rfl | h
    · omega
    · have := ih h; omega
theorem nodes_mem {t : Tm} {l : List Tm} (h : t ∈ l) : t.nodes ≤ nodesL l := by
  induction l with
  | nil => cases h
  | cons x r ih =>
    simp only [nodesL]
    rcases List.mem_cons.1 h with rfl | h
    · omega
    · have := ih h; omega
theorem used_nodes (t : Tm) : nodesL t.used + 1 ≤ t.nodes := by
  cases t with
  | mk k n s A c a =>
    by_cases h : k = 2 <;> simp [Tm.used, Tm.kind, Tm.args, Tm.nodes, h, nodesL] <;> omega

/-! ### The weight that the statements bound -/
mutual
def weighT : Tm → Int → Int → Int
  | .mk _ _ _ _ _ a, left, deep => if deep = 0 ∨ left < a.length then -1 else weighL a left deep
def weighL : List Tm → Int → Int → Int
  | [], left, _ => left
  | t :: r, left, deep => if left < 0 then left else weighL r (weighT t (left - 1 - (t.name.size : Int) / 8) (deep - 1)) deep
end
def weigh (l : List Tm) (left deep : Int) : Int := if deep = 0 ∨ left < l.length then -1 else weighL l left deep
theorem weighT_eq (t : Tm) (left deep : Int) : weighT t left deep = weigh t.args left deep := by
  cases t with
  | mk k n s A c a => rfl
theorem weighL_neg (l : List Tm) (left deep : Int) (h : left < 0) : weighL l left deep = left := by
  cases l with
  | nil => rfl
  | cons t r => simp [weighL, h]
theorem weighL_append (l m : List Tm) (left deep : Int) : weighL (l ++ m) left deep = weighL m (weighL l left deep) deep := by
  induction l generalizing left with
  | nil => simp [weighL]
  | cons t r ih =>
    by_cases h : left < 0
    · rw [weighL_neg _ _ _ h, weighL_neg _ _ _ h, weighL_neg _ _ _ h]
    · simp [weighL, h, ih]
theorem weighL_next {l : List Tm} {k : Nat} (h : k < l.length) (left deep : Int) (h0 : 0 ≤ weighL (l.take k) left deep) :
    weighL (l.take (k + 1)) left deep = weigh (l.getD k default).args (weighL (l.take k) left deep - 1 - ((l.getD k default).name.size : Int) / 8) (deep - 1) := by
  rw [ttake_next h, weighL_append, weighL, weighL, if_neg (by omega), weighT_eq]
theorem weighL_stop {l : List Tm} {k : Nat} (left deep : Int) (h0 : weighL (l.take k) left deep < 0) : weighL l left deep = weighL (l.take k) left deep := by
  have := weighL_append (l.take k) (l.drop k) left deep
  rw [List.take_append_drop] at this
  rw [this, weighL_neg _ _ _ h0]
theorem weigh_facts : (∀ (t : Tm) (left deep : Int), (0 ≤ weighT t left deep → weighT t left deep + nodesL t.args ≤ left) ∧ (weighT t left deep = -1 ∨ weighT t left deep ≤ left) ∧ (left < 0 → weighT t left deep = -1)) ∧
    (∀ (l : List Tm) (left deep : Int), (0 ≤ weighL l left deep → weighL l left deep + nodesL l ≤ left) ∧ (weighL l left deep = -1 ∨ weighL l left deep ≤ left)) := by
  refine Tm.induct2 (fun k n s A c a ih => ?_) ?_ (fun t r h1 h2 => ?_)
  · intro left deep
    simp only [weighT, Tm.args]
    split
    · exact ⟨fun h => by omega, .inl rfl, fun _ => rfl⟩
    · refine ⟨(ih left deep).1, (ih left deep).2, fun h => by omega⟩
  · intro left deep
    simp [weighL, nodesL]
  · intro left deep
    simp only [weighL, nodesL]
    by_cases h : left < 0
    · rw [if_pos h]; exact ⟨fun h' => by omega, .inr (Int.le_refl _)⟩
    · rw [if_neg h]
      have hn : t.nodes = 1 + nodesL t.args := by cases t; simp [Tm.nodes, Tm.args]
      have a1 := h1 (left - 1 - (t.name.size : Int) / 8) (deep - 1)
      have a2 := h2 (weighT t (left - 1 - (t.name.size : Int) / 8) (deep - 1)) deep
      generalize weighT t (left - 1 - (t.name.size : Int) / 8) (deep - 1) = x at *
      generalize weighL r x deep = y at *
      have h8 : 0 ≤ (t.name.size : Int) / 8 := by omega
      omega
theorem weigh_lo : (∀ (t : Tm) (left deep : Int), -1 ≤ weighT t left deep) ∧ (∀ (l : List Tm) (left deep : Int), -1 ≤ left → -1 ≤ weighL l left deep) := by
  refine Tm.induct2 (fun k n s A c a ih => ?_) ?_ (fun t r h1 h2 => ?_)
  · intro left deep
    simp only [weighT]
    split
    · omega
    · exact ih _ _ (by omega)
  · intro left deep h
    simpa [weighL] using h
  · intro left deep h
    simp only [weighL]
    split
    · exact h
    · exact h2 _ _ (h1 _ _)
theorem weighL_hi (l : List Tm) (left deep : Int) (h : -1 ≤ left) : weighL l left deep ≤ left := by
  rcases (weigh_facts.2 l left deep).2 with h' | h' <;> omega
/-- What is not too great has few nodes. -/
theorem weigh_nodes {l : List Tm} {left deep : Int} (h : 0 ≤ weigh l left deep) : (nodesL l : Int) ≤ left := by
  unfold weigh at h
  split at h
  · omega
  · have := (weigh_facts.2 l left deep).1 h
    omega

/-! ### Validity -/
mutual
def Tm.form : Tm → Bool
  | .mk k n s _ _ a =>
    if k = 0 then decide (-2147483648 ≤ n) && (decide (n ≤ 2147483648) && (decide (s.size = 0) && decide (a.length = 0)))
    else if k = 1 then decide (0 ≤ n) && (decide (n ≤ 1048576) && (decide (s.size = 0) && decide (a.length = 0)))
    else if k = 2 then decide (n = 0) && (((opB s.data.toList && decide (a.length = 2)) || (rightB s.data.toList && decide (a.length ≤ 6))) && formL a)
    else false
def formL : List Tm → Bool
  | [] => true
  | t :: r => t.form && formL r
end
def Tm.right (t : Tm) : Bool := t.form && (decide (t.size ≤ 200) && decide (t.depth ≤ 20))
theorem formL_append (l m : List Tm) : formL (l ++ m) = (formL l && formL m) := by
  induction l with
  | nil => simp [formL]
  | cons t r ih => simp [formL, ih, Bool.and_assoc]
theorem formL_next {l : List Tm} {k : Nat} (h : k < l.length) : formL (l.take (k + 1)) = (formL (l.take k) && (l.getD k default).form) := by
  rw [ttake_next h, formL_append]; simp [formL]
theorem formL_false {l : List Tm} {k : Nat} (h : formL (l.take k) = false) : formL l = false := by
  have := formL_append (l.take k) (l.drop k)
  rw [List.take_append_drop] at this
  rw [this, h]; rfl
theorem formL_mem {l : List Tm} {t : Tm} (h : t ∈ l) (hf : formL l = true) : t.form = true := by
  induction l with
  | nil => cases h
  | cons x r ih =>
    simp only [formL, Bool.and_eq_true] at hf
    rcases List.mem_cons.1 h with rfl | h
    · exact hf.1
    · exact ih h hf.2

def funcB (s : List UInt8) (n : Nat) : Bool := if opB s then decide (n = 2) else decide (n ≤ 6) && rightB s
theorem funcB_eq (s : List UInt8) (n : Nat) : funcB s n = ((opB s && decide (n = 2)) || (rightB s && decide (n ≤ 6))) := by
  unfold funcB
  cases h : opB s
  · simp [Bool.and_comm]
  · simp [(op_right h).1]

/-- Validity as the program asks it: what is left of the nodes, and whether all fits. -/
def plainB (t : Tm) : Bool := decide (t.name.size = 0) && decide (t.args.length = 0)
mutual
def Tm.fit : Tm → Int → Int → Int × Bool
  | .mk k n s A c a, nodes, depth =>
    if nodes = 0 ∨ depth = 0 then (0, false)
    else if k = 0 then (nodes - 1, plainB (.mk k n s A c a) && (decide (-2147483648 ≤ n) && decide (n ≤ 2147483648)))
    else if k = 1 then (nodes - 1, plainB (.mk k n s A c a) && (decide (0 ≤ n) && decide (n ≤ 1048576)))
    else if k = 2 then (if n ≠ 0 ∨ funcB s.data.toList a.length = false then (0, false) else fitL a (nodes - 1) (depth - 1))
    else (0, false)
def fitL : List Tm → Int → Int → Int × Bool
  | [], nodes, _ => (nodes, true)
  | t :: r, nodes, depth => if (t.fit nodes depth).2 then fitL r (t.fit nodes depth).1 depth else (0, false)
end
theorem fitL_append (l m : List Tm) (nodes depth : Int) : fitL (l ++ m) nodes depth = if (fitL l nodes depth).2 then fitL m (fitL l nodes depth).1 depth else (0, false) := by
  induction l generalizing nodes with
  | nil => simp [fitL]
  | cons t r ih =>
    simp only [List.cons_append, fitL]
    by_cases h : (t.fit nodes depth).2 = true
    · simp [h, ih]
    · simp [h]
theorem fitL_next {l : List Tm} {k : Nat} (h : k < l.length) (nodes depth : Int) (hk : (fitL (l.take k) nodes depth).2 = true) :
    fitL (l.take (k + 1)) nodes depth = if ((l.getD k default).fit (fitL (l.take k) nodes depth).1 depth).2 then (l.getD k default).fit (fitL (l.take k) nodes depth).1 depth else (0, false) := by
  rw [ttake_next h, fitL_append, if_pos hk]
  simp only [fitL]
  by_cases hx : ((l.getD k default).fit (fitL (l.take k) nodes depth).1 depth).2 = true
  · rw [if_pos hx, if_pos hx, ← hx]
  · rw [if_neg hx, if_neg hx]
theorem fitL_stop {l : List Tm} {k : Nat} (h : k < l.length) (nodes depth : Int) (hk : (fitL (l.take k) nodes depth).2 = true) (hx : ((l.getD k default).fit (fitL (l.take k) nodes depth).1 depth).2 = false) :
    fitL l nodes depth = (0, false) := by
  have h1 := fitL_next h nodes depth hk
  rw [hx] at h1
  have h2 := fitL_append (l.take (k + 1)) (l.drop (k + 1)) nodes depth
  rw [List.take_append_drop, h1] at h2
  rw [h2]; rfl
theorem and4 (a b c d : Bool) : (c && d && (a && b)) = (a && (b && (c && d))) := by cases a <;> cases b <;> cases c <;> cases d <;> rfl
theorem fit_form : (∀ (t : Tm) (nodes depth : Nat), (t.fit nodes depth).2 = (t.form && (decide (t.size ≤ nodes) && decide (t.depth ≤ depth))) ∧ ((t.fit nodes depth).2 = true → (t.fit nodes depth).1 = (nodes : Int) - t.size)) ∧
    (∀ (l : List Tm) (nodes depth : Nat), (fitL l nodes depth).2 = (formL l && (decide (sizeL l ≤ nodes) && decide (depthL l ≤ depth))) ∧ ((fitL l nodes depth).2 = true → (fitL l nodes depth).1 = (nodes : Int) - sizeL l)) := by
  refine Tm.induct2 (fun k n s A c a ih => ?_) ?_ (fun t r h1 h2 => ?_)
  · intro nodes depth
    simp only [Tm.fit, Tm.form, Tm.size, Tm.depth]
    by_cases h0 : (nodes : Int) = 0 ∨ (depth : Int) = 0
    · rw [if_pos h0]
      refine ⟨?_, fun h => by simp at h⟩
      by_cases h2 : k = 2
      · simp only [h2, if_true]
        rcases h0 with h0 | h0
        · have : ¬ (1 + sizeL a ≤ nodes) := by omega
          simp [this]
        · have : ¬ (depthL a + 1 ≤ depth) := by omega
          simp [this]
      · simp only [h2, if_false]
        rcases h0 with h0 | h0
        · have : nodes = 0 := by omega
          simp [this]
        · have : depth = 0 := by omega
          simp [this]
    · rw [if_neg h0]
      have hn1 : 1 ≤ nodes := by omega
      have hd1 : 1 ≤ depth := by omega
      by_cases hk0 : k = 0
      · subst hk0
        simp only [plainB, Tm.name, Tm.args]
        refine ⟨?_, fun _ => by simp⟩
        have d1 : decide (1 ≤ nodes) = true := by simpa using hn1
        have d2 : decide (1 ≤ depth) = true := by simpa using hd1
        simp only [if_true, show ¬ ((0 : Int) = 2) by omega, if_false, d1, d2, Bool.and_true]
        exact and4 _ _ _ _
      · by_cases hk1 : k = 1
        · subst hk1
          simp only [plainB, Tm.name, Tm.args]
          refine ⟨?_, fun _ => by simp⟩
          have d1 : decide (1 ≤ nodes) = true := by simpa using hn1
          have d2 : decide (1 ≤ depth) = true := by simpa using hd1
          simp only [if_true, show ¬ ((1 : Int) = 2) by omega, show ¬ ((1 : Int) = 0) by omega, if_false, d1, d2, Bool.and_true]
          exact and4 _ _ _ _
        · by_cases hk2 : k = 2
          · subst hk2
            have e1 : (nodes : Int) - 1 = ((nodes - 1 : Nat) : Int) := by omega
            have e2 : (depth : Int) - 1 = ((depth - 1 : Nat) : Int) := by omega
            have hi := ih (nodes - 1) (depth - 1)
            simp only [hk0, hk1, if_false, if_true, ← funcB_eq]
            by_cases hf : n ≠ 0 ∨ funcB s.data.toList a.length = false
            · rw [if_pos hf]
              refine ⟨?_, fun h => by simp at h⟩
              rcases hf with hf | hf
              · simp [hf]
              · simp [hf]
            · rw [if_neg hf, e1, e2]
              have hf1 : n = 0 := by
                by_cases h : n = 0
                · exact h
                · exact absurd (Or.inl h) hf
              have hf2 : funcB s.data.toList a.length = true := by
                cases h : funcB s.data.toList a.length
                · exact absurd (Or.inr h) hf
                · rfl
              rw [hf2, hf1]
              have d1 : decide (sizeL a ≤ nodes - 1) = decide (1 + sizeL a ≤ nodes) := by rw [decide_eq_decide]; omega
              have d2 : decide (depthL a ≤ depth - 1) = decide (depthL a + 1 ≤ depth) := by rw [decide_eq_decide]; omega
              refine ⟨by rw [hi.1, d1, d2]; simp, fun h => ?_⟩
              rw [hi.2 h]
              omega
          · simp [hk0, hk1, hk2]
  · intro nodes depth
    simp [fitL, formL, sizeL, depthL]
  · intro nodes depth
    have a1 := h1 nodes depth
    simp only [fitL, formL, sizeL, depthL]
    by_cases hb : (t.fit nodes depth).2 = true
    · rw [if_pos hb, a1.2 hb]
      rw [a1.1] at hb
      simp only [Bool.and_eq_true, decide_eq_true_eq] at hb
      have e1 : (nodes : Int) - t.size = ((nodes - t.size : Nat) : Int) := by omega
      rw [e1]
      have a2 := h2 (nodes - t.size) depth
      have d1 : decide (sizeL r ≤ nodes - t.size) = decide (t.size + sizeL r ≤ nodes) := by rw [decide_eq_decide]; omega
      have d2 : decide (depthL r ≤ depth) = decide (max t.depth (depthL r) ≤ depth) := by rw [decide_eq_decide]; omega
      refine ⟨by rw [a2.1, d1, d2, hb.1, Bool.true_and]; rfl, fun h => ?_⟩
      rw [a2.2 h]
      omega
    · rw [if_neg hb]
      refine ⟨?_, fun h => by simp at h⟩
      have hb' : (t.fit nodes depth).2 = false := by simpa using hb
      rw [a1.1] at hb'
      cases hf : t.form
      · simp
      · rw [hf] at hb'
        simp only [Bool.true_and] at hb' ⊢
        have : ¬ (t.size ≤ nodes ∧ t.depth ≤ depth) := by
          intro h
          simp [h.1, h.2] at hb'
        by_cases h3 : t.size + sizeL r ≤ nodes
        · have h4 : ¬ (max t.depth (depthL r) ≤ depth) := by omega
          simp [h4]
        · simp [h3]
theorem fit_right (t : Tm) : (t.fit 200 20).2 = t.right := (fit_form.1 t 200 20).1
theorem fit_nat {t : Tm} {nodes depth : Nat} (h : (t.fit nodes depth).2 = true) : ∃ m : Nat, (t.fit nodes depth).1 = (m : Int) ∧ m ≤ nodes := by
  have h1 := (fit_form.1 t nodes depth).2 h
  rw [(fit_form.1 t nodes depth).1] at h
  simp only [Bool.and_eq_true, decide_eq_true_eq] at h
  exact ⟨nodes - t.size, by rw [h1]; omega, by omega⟩
theorem fitL_nat {l : List Tm} {nodes depth : Nat} (h : (fitL l nodes depth).2 = true) : ∃ m : Nat, (fitL l nodes depth).1 = (m : Int) ∧ m ≤ nodes := by
  have h1 := (fit_form.2 l nodes depth).2 h
  rw [(fit_form.2 l nodes depth).1] at h
  simp only [Bool.and_eq_true, decide_eq_true_eq] at h
  exact ⟨nodes - sizeL l, by rw [h1]; omega, by omega⟩

/-! ### The standard order -/
def ints (a b : Int) : Int := if a < b then -1 else if b < a then 1 else 0
def texts (a b : List UInt8) : Int := if Op.bytesLess a b then -1 else if Op.bytesLess b a then 1 else 0
def cls (k : Int) : Int := if k = 1 then 0 else if k = 0 then 1 else if k = 2 then 2 else 3
def lex (x y : Int) : Int := if x = 0 then y else x
mutual
def cmpT : Tm → Tm → Int
  | .mk k n s _ _ a, u => lex (ints (cls k) (cls u.kind))
      (if k = 1 ∨ k = 0 then ints n u.num
       else if k = 2 then lex (ints a.length u.args.length) (lex (texts s.data.toList u.name.data.toList) (cmpL a u.args))
       else lex (ints k u.kind) (lex (ints n u.num) (texts s.data.toList u.name.data.toList)))
def cmpL : List Tm → List Tm → Int
  | [], [] => 0
  | [], _ :: _ => -1
  | _ :: _, [] => 1
  | t :: r, u :: q => lex (cmpT t u) (cmpL r q)
end
/-- What three comparisons of a total preorder (a with b, b with c, a with c) have in common. -/
def Tri (x y z : Int) : Prop :=
  (x = -1 ∨ x = 0 ∨ x = 1) ∧ (y = -1 ∨ y = 0 ∨ y = 1) ∧ (z = -1 ∨ z = 0 ∨ z = 1) ∧ (x ≤ 0 → y ≤ 0 → z ≤ 0 ∧ (z = 0 → x = 0 ∧ y = 0)) ∧ (0 ≤ x → 0 ≤ y → 0 ≤ z ∧ (z = 0 → x = 0 ∧ y = 0))
theorem Tri.lex {x y z x' y' z' : Int} (h : Tri x y z) (h' : x = 0 → y = 0 → Tri x' y' z') (d1 : x' = -1 ∨ x' = 0 ∨ x' = 1) (d2 : y' = -1 ∨ y' = 0 ∨ y' = 1) (d3 : z' = -1 ∨ z' = 0 ∨ z' = 1) : Tri (lex x x') (lex y y') (lex z z') := by
  have lz : ∀ q : Int, Go.Proofs.Ytpnjjahimhhjkaa.lex 0 q = q := fun q => by simp [Go.Proofs.Ytpnjjahimhhjkaa.lex]
  have ln : ∀ p q : Int, p ≠ 0 → Go.Proofs.Ytpnjjahimhhjkaa.lex p q = p := fun p q h => by simp [Go.Proofs.Ytpnjjahimhhjkaa.lex, h]
  unfold Tri at *
  by_cases hx : x = 0
  · by_cases hy : y = 0
    · have := h' hx hy
      have hz : z = 0 := by omega
      rw [hx, hy, hz, lz, lz, lz]
      exact this
    · have hz : z ≠ 0 := by omega
      rw [hx, lz, ln y _ hy, ln z _ hz]
      omega
  · by_cases hy : y = 0
    · have hz : z ≠ 0 := by omega
      rw [hy, lz, ln x _ hx, ln z _ hz]
      omega
    · by_cases hz : z = 0
      · rw [hz, lz, ln x _ hx, ln y _ hy]
        omega
      · rw [ln x _ hx, ln y _ hy, ln z _ hz]
        omega
theorem ints_lt {a b : Int} (h : a < b) : ints a b = -1 := by unfold ints; rw [if_pos h]
theorem ints_gt {a b : Int} (h : b < a) : ints a b = 1 := by unfold ints; rw [if_neg (by omega), if_pos h]
theorem ints_self (a : Int) : ints a a = 0 := by unfold ints; simp
theorem ints_tri (a b c : Int) : Tri (ints a b) (ints b c) (ints a c) := by
  unfold Tri
  rcases Int.lt_trichotomy a b with h1 | h1 | h1
  · rw [ints_lt h1]
    rcases Int.lt_trichotomy b c with h2 | h2 | h2
    · rw [ints_lt h2, ints_lt (show a < c by omega)]; omega
    · subst h2; rw [ints_self, ints_lt h1]; omega
    · rw [ints_gt h2]
      rcases Int.lt_trichotomy a c with h3 | h3 | h3
      · rw [ints_lt h3]; omega
      · subst h3; rw [ints_self]; omega
      · rw [ints_gt h3]; omega
  · subst h1
    rw [ints_self]
    rcases Int.lt_trichotomy a c with h3 | h3 | h3
    · rw [ints_lt h3]; omega
    · subst h3; rw [ints_self]; omega
    · rw [ints_gt h3]; omega
  · rw [ints_gt h1]
    rcases Int.lt_trichotomy b c with h2 | h2 | h2
    · rw [ints_lt h2]
      rcases Int.lt_trichotomy a c with h3 | h3 | h3
      · rw [ints_lt h3]; omega
      · subst h3; rw [ints_self]; omega
      · rw [ints_gt h3]; omega
    · subst h2; rw [ints_self, ints_gt h1]; omega
    · rw [ints_gt h2, ints_gt (show c < a by omega)]; omega
theorem ints_val (a b : Int) : ints a b = -1 ∨ ints a b = 0 ∨ ints a b = 1 := by unfold ints; repeat' split
                                                                                 all_goals simp
theorem texts_val (a b : List UInt8) : texts a b = -1 ∨ texts a b = 0 ∨ texts a b = 1 := by unfold texts; repeat' split
                                                                                            all_goals simp
theorem lex_val {x y : Int} (h1 : x = -1 ∨ x = 0 ∨ x = 1) (h2 : y = -1 ∨ y = 0 ∨ y = 1) : lex x y = -1 ∨ lex x y = 0 ∨ lex x y = 1 := by unfold lex; split <;> assumption
theorem texts_cons (a b : UInt8) (x y : List UInt8) : texts (a :: x) (b :: y) = lex (ints a.toNat b.toNat) (texts x y) := by
  rcases Nat.lt_trichotomy a.toNat b.toNat with h | h | h
  · have h1 : Op.bytesLess (a :: x) (b :: y) = true := by simp [Op.bytesLess, UInt8.lt_iff_toNat_lt, h]
    rw [ints_lt (show (a.toNat : Int) < b.toNat by omega)]
    unfold texts lex
    rw [h1]; rfl
  · obtain rfl := UInt8.toNat_inj.1 h
    rw [ints_self]
    unfold texts lex
    simp [Op.bytesLess]
  · have h1 : Op.bytesLess (a :: x) (b :: y) = false := by
      have h2 : ¬ a < b := by rw [UInt8.lt_iff_toNat_lt]; omega
      have h3 : ¬ a = b := fun e => by rw [e] at h; omega
      simp [Op.bytesLess, h2, h3]
    have h4 : Op.bytesLess (b :: y) (a :: x) = true := by simp [Op.bytesLess, UInt8.lt_iff_toNat_lt, h]
    rw [ints_gt (show (b.toNat : Int) < a.toNat by omega)]
    unfold texts lex
    rw [h1, h4]; rfl
theorem texts_tri (a b c : List UInt8) : Tri (texts a b) (texts b c) (texts a c) := by
  have nn : texts [] [] = 0 := by simp [texts, Op.bytesLess]
  have nc : ∀ x l, texts [] (x :: l) = -1 := fun x l => by simp [texts, Op.bytesLess]
  have cn : ∀ x l, texts (x :: l) [] = 1 := fun x l => by simp [texts, Op.bytesLess]
  induction a generalizing b c with
  | nil =>
    cases b with
    | nil =>
      cases c with
      | nil => rw [nn]; unfold Tri; omega
      | cons z c => rw [nn, nc]; unfold Tri; omega
    | cons y b =>
      cases c with
      | nil => rw [nn, nc, cn]; unfold Tri; omega
      | cons z c =>
        have := texts_val (y :: b) (z :: c)
        rw [nc, nc]; unfold Tri; omega
  | cons x a ih =>
    cases b with
    | nil =>
      cases c with
      | nil => rw [nn, cn]; unfold Tri; omega
      | cons z c =>
        have := texts_val (x :: a) (z :: c)
        rw [nc, cn]; unfold Tri; omega
    | cons y b =>
      cases c with
      | nil =>
        have := texts_val (x :: a) (y :: b)
        rw [cn, cn]; unfold Tri; omega
      | cons z c =>
        rw [texts_cons, texts_cons, texts_cons]
        exact (ints_tri _ _ _).lex (fun _ _ => ih b c) (texts_val _ _) (texts_val _ _) (texts_val _ _)
theorem cmp_val : (∀ t u : Tm, cmpT t u = -1 ∨ cmpT t u = 0 ∨ cmpT t u = 1) ∧ (∀ l m : List Tm, cmpL l m = -1 ∨ cmpL l m = 0 ∨ cmpL l m = 1) := by
  refine Tm.induct2 (fun k n s A c a ih => ?_) ?_ (fun t r h1 h2 => ?_)
  · intro u
    simp only [cmpT]
    refine lex_val (ints_val _ _) ?_
    split
    · exact ints_val _ _
    · split
      · exact lex_val (ints_val _ _) (lex_val (texts_val _ _) (ih _))
      · exact lex_val (ints_val _ _) (lex_val (ints_val _ _) (texts_val _ _))
  · intro m
    cases m <;> simp [cmpL]
  · intro m
    cases m with
    | nil => simp [cmpL]
    | cons u q => simp only [cmpL]; exact lex_val (h1 u) (h2 q)
theorem cls_eq {j k : Int} (h : ints (cls j) (cls k) = 0) : cls j = cls k := by
  unfold ints at h
  split at h
  · omega
  · split at h <;> omega
theorem cmp_tri : (∀ t u v : Tm, Tri (cmpT t u) (cmpT u v) (cmpT t v)) ∧ (∀ l m n : List Tm, Tri (cmpL l m) (cmpL m n) (cmpL l n)) := by
  refine Tm.induct2 (fun k n s A c a ih => ?_) ?_ (fun t r h1 h2 => ?_)
  · intro u v
    have d1 := cmp_val.2
    cases u with
    | mk k2 n2 s2 A2 c2 a2 =>
      cases v with
      | mk k3 n3 s3 A3 c3 a3 =>
        simp only [cmpT, Tm.kind, Tm.num, Tm.name, Tm.args]
        have vv : ∀ (k : Int) (n n' : Int) (s s' : List UInt8) (a a' : List Tm) (k' : Int), (if k = 1 ∨ k = 0 then ints n n' else if k = 2 then lex (ints a.length a'.length) (lex (texts s s') (cmpL a a')) else lex (ints k k') (lex (ints n n') (texts s s'))) = -1 ∨
            (if k = 1 ∨ k = 0 then ints n n' else if k = 2 then lex (ints a.length a'.length) (lex (texts s s') (cmpL a a')) else lex (ints k k') (lex (ints n n') (texts s s'))) = 0 ∨
            (if k = 1 ∨ k = 0 then ints n n' else if k = 2 then lex (ints a.length a'.length) (lex (texts s s') (cmpL a a')) else lex (ints k k') (lex (ints n n') (texts s s'))) = 1 := by
          intro k n n' s s' a a' k'
          split
          · exact ints_val _ _
          · split
            · exact lex_val (ints_val _ _) (lex_val (texts_val _ _) (d1 _ _))
            · exact lex_val (ints_val _ _) (lex_val (ints_val _ _) (texts_val _ _))
        refine (ints_tri _ _ _).lex (fun e1 e2 => ?_) (vv _ _ _ _ _ _ _ _) (vv _ _ _ _ _ _ _ _) (vv _ _ _ _ _ _ _ _)
        have q1 := cls_eq e1
        have q2 := cls_eq e2
        unfold cls at q1 q2
        by_cases hk : k = 1 ∨ k = 0
        · have hk2 : k2 = 1 ∨ k2 = 0 := by
            rcases hk with rfl | rfl
            · simp only [if_true] at q1
              split at q1
              · exact .inl ‹_›
              · split at q1
                · exact .inr ‹_›
                · split at q1 <;> omega
            · simp only [if_true, show ¬ ((0 : Int) = 1) by omega, if_false] at q1
              split at q1
              · exact .inl ‹_›
              · split at q1
                · exact .inr ‹_›
                · split at q1 <;> omega
          rw [if_pos hk, if_pos hk2, if_pos hk]
          exact ints_tri _ _ _
        · have hk1 : ¬ k = 1 := fun h => hk (.inl h)
          have hk0 : ¬ k = 0 := fun h => hk (.inr h)
          rw [if_neg hk1, if_neg hk0] at q1
          by_cases h2 : k = 2
          · rw [if_pos h2] at q1
            have hk2 : k2 = 2 := by
              split at q1
              · omega
              · split at q1
                · omega
                · split at q1
                  · assumption
                  · omega
            have hk2' : ¬ (k2 = 1 ∨ k2 = 0) := by omega
            rw [if_neg hk, if_pos h2, if_neg hk2', if_pos hk2, if_neg hk, if_pos h2]
            have dl := fun x y => d1 x y
            refine (ints_tri _ _ _).lex (fun _ _ => (texts_tri _ _ _).lex (fun _ _ => ih a2 a3) (d1 _ _) (d1 _ _) (d1 _ _)) ?_ ?_ ?_
            all_goals exact lex_val (texts_val _ _) (d1 _ _)
          · rw [if_neg h2] at q1
            have hk2 : ¬ (k2 = 1 ∨ k2 = 0) ∧ ¬ k2 = 2 := by
              split at q1
              · omega
              · split at q1
                · omega
                · split at q1
                  · omega
                  · omega
            rw [if_neg hk, if_neg h2, if_neg hk2.1, if_neg hk2.2, if_neg hk, if_neg h2]
            refine (ints_tri _ _ _).lex (fun _ _ => (ints_tri _ _ _).lex (fun _ _ => texts_tri _ _ _) (texts_val _ _) (texts_val _ _) (texts_val _ _)) ?_ ?_ ?_
            all_goals exact lex_val (ints_val _ _) (texts_val _ _)
  · intro m n
    have hv := cmp_val.2
    cases m with
    | nil => cases n <;> (simp only [cmpL]; unfold Tri; omega)
    | cons u q =>
      cases n with
      | nil => simp only [cmpL]; unfold Tri; omega
      | cons v p =>
        have := hv (u :: q) (v :: p)
        rw [show cmpL [] (u :: q) = -1 from rfl, show cmpL [] (v :: p) = -1 from rfl]
        unfold Tri; omega
  · intro m n
    have hv := cmp_val.2
    cases m with
    | nil =>
      cases n with
      | nil => simp only [cmpL]; unfold Tri; omega
      | cons v p =>
        have := hv (t :: r) (v :: p)
        rw [show cmpL (t :: r) [] = 1 from rfl, show cmpL [] (v :: p) = -1 from rfl]
        unfold Tri; omega
    | cons u q =>
      cases n with
      | nil =>
        have := hv (t :: r) (u :: q)
        rw [show cmpL (t :: r) [] = 1 from rfl, show cmpL (u :: q) [] = 1 from rfl]
        unfold Tri; omega
      | cons v p =>
        simp only [cmpL]
        exact (h1 u v).lex (fun _ _ => h2 q p) (hv _ _) (hv _ _) (hv _ _)
theorem bytesLess_self (l : List UInt8) : Op.bytesLess l l = false := by
  induction l with
  | nil => rfl
  | cons a r ih => simp [Op.bytesLess, ih]
theorem texts_self (l : List UInt8) : texts l l = 0 := by unfold texts; simp [bytesLess_self]
theorem cmp_self : (∀ t : Tm, cmpT t t = 0) ∧ (∀ l : List Tm, cmpL l l = 0) := by
  refine Tm.induct2 (fun k n s A c a ih => ?_) rfl (fun t r h1 h2 => ?_)
  · simp only [cmpT, Tm.kind, Tm.num, Tm.name, Tm.args, ints_self, texts_self, ih, lex, if_true]
    split
    · rfl
    · split <;> rfl
  · simp only [cmpL, h1, h2, lex, if_true]
theorem cmpT_flip (t u : Tm) : cmpT u t = - cmpT t u := by
  have h := cmp_tri.1 t u t
  have h' := cmp_tri.1 u t u
  rw [cmp_self.1] at h h'
  unfold Tri at h h'
  omega
theorem cmpT_congr {t u : Tm} (h : cmpT t u = 0) (v : Tm) : cmpT v t = cmpT v u := by
  have h1 := cmp_tri.1 v t u
  have h2 := cmp_tri.1 v u t
  have h3 := cmpT_flip t u
  rw [h] at h1 h3
  rw [h3] at h2
  unfold Tri at h1 h2
  omega
end Go.Proofs.Ytpnjjahimhhjkaa
namespace Go.Proofs.Ytpnjjahimhhjkaa
open Go

/-! ### The same fields -/
mutual
def Tm.strip : Tm → Tm
  | .mk k n s _ _ a => .mk k n s none 0 (stripL a)
def stripL : List Tm → List Tm
  | [] => []
  | t :: r => t.strip :: stripL r
end
theorem stripL_map (l : List Tm) : stripL l = l.map Tm.strip := by
  induction l with
  | nil => rfl
  | cons t r ih => simp [stripL, ih]
theorem stripL_len (l : List Tm) : (stripL l).length = l.length := by rw [stripL_map, List.length_map]
theorem stripL_append (l m : List Tm) : stripL (l ++ m) = stripL l ++ stripL m := by simp [stripL_map]
theorem strip_parts {t u : Tm} (h : t.strip = u.strip) : t.kind = u.kind ∧ t.num = u.num ∧ t.name = u.name ∧ t.args.length = u.args.length ∧ stripL t.args = stripL u.args := by
  obtain ⟨k, n, s, A, c, a⟩ := t
  obtain ⟨k', n', s', A', c', a'⟩ := u
  simp only [Tm.strip, Tm.mk.injEq, true_and] at h
  obtain ⟨h1, h2, h3, h4⟩ := h
  have h5 := congrArg List.length h4
  simp only [stripL_map, List.length_map] at h5
  exact ⟨h1, h2, h3, h5, h4⟩
theorem strip_strip : (∀ t : Tm, t.strip.strip = t.strip) ∧ (∀ l, stripL (stripL l) = stripL l) := by
  refine Tm.induct2 (fun k n s A c a ih => ?_) rfl (fun t r h1 h2 => ?_)
  · simp only [Tm.strip, ih]
  · simp only [stripL, h1, h2]
theorem form_strip : (∀ t : Tm, t.strip.form = t.form) ∧ (∀ l, formL (stripL l) = formL l) := by
  refine Tm.induct2 (fun k n s A c a ih => ?_) rfl (fun t r h1 h2 => ?_)
  · simp only [Tm.strip, Tm.form, ih, stripL_len]
  · simp only [stripL, formL, h1, h2]
theorem size_strip : (∀ t : Tm, t.strip.size = t.size) ∧ (∀ l, sizeL (stripL l) = sizeL l) := by
  refine Tm.induct2 (fun k n s A c a ih => ?_) rfl (fun t r h1 h2 => ?_)
  · simp only [Tm.strip, Tm.size, ih]
  · simp only [stripL, sizeL, h1, h2]
theorem depth_strip : (∀ t : Tm, t.strip.depth = t.depth) ∧ (∀ l, depthL (stripL l) = depthL l) := by
  refine Tm.induct2 (fun k n s A c a ih => ?_) rfl (fun t r h1 h2 => ?_)
  · simp only [Tm.strip, Tm.depth, ih]
  · simp only [stripL, depthL, h1, h2]
theorem right_strip (t : Tm) : t.strip.right = t.right := by
  unfold Tm.right
  rw [form_strip.1, size_strip.1, depth_strip.1]
theorem right_same {t u : Tm} (h : t.strip = u.strip) : t.right = u.right := by rw [← right_strip t, h, right_strip]

theorem cmp_strip : (∀ t u : Tm, cmpT t.strip u.strip = cmpT t u) ∧ (∀ l m, cmpL (stripL l) (stripL m) = cmpL l m) := by
  suffices H : (∀ t : Tm, ∀ u : Tm, cmpT t.strip u.strip = cmpT t u) ∧ (∀ l, ∀ m, cmpL (stripL l) (stripL m) = cmpL l m) from ⟨H.1, H.2⟩
  refine Tm.induct2 (fun k n s A c a ih u => ?_) (fun m => ?_) (fun t r h1 h2 m => ?_)
  · obtain ⟨k', n', s', A', c', a'⟩ := u
    simp only [Tm.strip, cmpT, Tm.kind, Tm.num, Tm.name, Tm.args, ih, stripL_len]
  · cases m <;> simp [stripL, cmpL]
  · cases m with
    | nil => simp [stripL, cmpL]
    | cons u q => simp only [stripL, cmpL, h1, h2]
theorem same_strip {t u : Tm} (h : t.strip = u.strip) : (cmpT t u == 0) = true := by
  rw [← cmp_strip.1, h, cmp_self.1]; rfl
end Go.Proofs.Ytpnjjahimhhjkaa
namespace Go.Proofs.Ytpnjjahimhhjkaa
open Go

/-- A binding: a variable and a term. -/
structure Bd where
  var : Int
  tm : Tm
instance : Inhabited Bd := ⟨⟨0, default⟩⟩
def Bd.strip (x : Bd) : Bd := ⟨x.var, x.tm.strip⟩
def stripB (b : List Bd) : List Bd := b.map Bd.strip
theorem stripB_len (b : List Bd) : (stripB b).length = b.length := by simp [stripB]
theorem stripB_append (a b : List Bd) : stripB (a ++ b) = stripB a ++ stripB b := by simp [stripB]

/-! ### Looking up -/
def look : List Bd → Int → Option Tm
  | [], _ => none
  | x :: r, v => if x.var = v then some x.tm else look r v
theorem look_strip (b : List Bd) (v : Int) : look (stripB b) v = (look b v).map Tm.strip := by
  induction b with
  | nil => rfl
  | cons x r ih =>
    simp only [stripB, List.map_cons, look, Bd.strip] at ih ⊢
    split
    · rfl
    · exact ih
theorem look_none {b : List Bd} {v : Int} : look b v = none ↔ ∀ x ∈ b, x.var ≠ v := by
  induction b with
  | nil => simp [look]
  | cons x r ih =>
    simp only [look, List.mem_cons, forall_eq_or_imp]
    split
    · rename_i h; simp [h]
    · rename_i h; rw [ih]; simp [h]
theorem look_some {b : List Bd} {v : Int} {t : Tm} (h : look b v = some t) : ∃ x ∈ b, x.var = v ∧ x.tm = t := by
  induction b with
  | nil => simp [look] at h
  | cons x r ih =>
    simp only [look] at h
    split at h
    · rename_i hv; injection h with h; exact ⟨x, by simp, hv, h⟩
    · obtain ⟨y, hy, h1, h2⟩ := ih h
      exact ⟨y, by simp [hy], h1, h2⟩
theorem look_append (a b : List Bd) (v : Int) : look (a ++ b) v = (look a v).or (look b v) := by
  induction a with
  | nil => simp [look]
  | cons x r ih =>
    simp only [List.cons_append, look]
    split
    · rfl
    · exact ih
theorem look_next {b : List Bd} {j : Nat} {v : Int} (hj : j < b.length) (h : look (b.take j) v = none) : look (b.take (j + 1)) v = if (b.getD j default).var = v then some (b.getD j default).tm else none := by
  rw [List.take_succ_eq_append_getElem hj, look_append, h]
  simp [look, List.getD, List.getElem?_eq_getElem hj]
theorem look_take {b : List Bd} {j : Nat} {v : Int} {t : Tm} (h : look (b.take j) v = some t) : look b v = some t := by
  have := look_append (b.take j) (b.drop j) v
  rw [List.take_append_drop, h] at this
  simpa using this
theorem bgetD_mem {l : List Bd} {k : Nat} (h : k < l.length) : l.getD k default ∈ l := by
  simp only [List.getD, List.getElem?_eq_getElem h, Option.getD_some]
  exact List.getElem_mem h
theorem btake_next {l : List Bd} {k : Nat} (h : k < l.length) : l.take (k + 1) = l.take k ++ [l.getD k default] := by
  rw [List.take_succ_eq_append_getElem h]
  simp [List.getD, List.getElem?_eq_getElem h]
theorem bdrop_next {l : List Bd} {k : Nat} (h : k < l.length) : l.drop k = l.getD k default :: l.drop (k + 1) := by
  rw [List.drop_eq_getElem_cons h]
  simp [List.getD, List.getElem?_eq_getElem h]

/-! ### Applying -/
mutual
def Tm.app (b : List Bd) : Tm → Tm
  | .mk k n s A c a => if k = 1 then (look b n).getD (.mk k n s A c a) else if k = 2 then .mk k n s A c (appL b a) else .mk k n s A c a
def appL (b : List Bd) : List Tm → List Tm
  | [] => []
  | t :: r => t.app b :: appL b r
end
theorem appL_map (b : List Bd) (l : List Tm) : appL b l = l.map (Tm.app b) := by
  induction l with
  | nil => rfl
  | cons t r ih => simp [appL, ih]
theorem appL_len (b : List Bd) (l : List Tm) : (appL b l).length = l.length := by rw [appL_map, List.length_map]
theorem app_strip (b : List Bd) : (∀ t : Tm, t.strip.app (stripB b) = (t.app b).strip) ∧ (∀ l, appL (stripB b) (stripL l) = stripL (appL b l)) := by
  refine Tm.induct2 (fun k n s A c a ih => ?_) rfl (fun t r h1 h2 => ?_)
  · simp only [Tm.strip, Tm.app]
    split
    · rw [look_strip]
      cases look b n <;> simp [Tm.strip]
    · split
      · rw [ih]; rfl
      · rfl
  · simp only [stripL, appL, h1, h2]
theorem app_like {b b' : List Bd} {t t' : Tm} (hb : stripB b = stripB b') (ht : t.strip = t'.strip) : (t.app b).strip = (t'.app b').strip := by rw [← (app_strip b).1, hb, ht, (app_strip b').1]
theorem appL_like {b b' : List Bd} {l l' : List Tm} (hb : stripB b = stripB b') (ht : stripL l = stripL l') : stripL (appL b l) = stripL (appL b' l') := by rw [← (app_strip b).2, hb, ht, (app_strip b').2]
theorem app_of_look {b b' : List Bd} (h : ∀ v, look b v = look b' v) : (∀ t : Tm, t.app b = t.app b') ∧ (∀ l, appL b l = appL b' l) := by
  refine Tm.induct2 (fun k n s A c a ih => ?_) rfl (fun t r h1 h2 => ?_)
  · simp only [Tm.app, h, ih]
  · simp only [appL, h1, h2]
/-- Nothing is replaced where nothing is bound. -/
theorem app_id (b : List Bd) : (∀ t : Tm, (∀ v ∈ t.occ, look b v = none) → t.app b = t) ∧ (∀ l, (∀ v ∈ occL l, look b v = none) → appL b l = l) := by
  refine Tm.induct2 (fun k n s A c a ih h => ?_) (fun _ => rfl) (fun t r h1 h2 h => ?_)
  · simp only [Tm.occ] at h
    simp only [Tm.app]
    split
    · rename_i hk
      rw [if_pos hk] at h
      rw [h n (by simp)]; rfl
    · rename_i hk
      rw [if_neg hk] at h
      split
      · rename_i h2
        rw [if_pos h2] at h
        rw [ih h]
      · rfl
  · simp only [occL, List.mem_append] at h
    simp only [appL]
    rw [h1 fun v hv => h v (.inl hv), h2 fun v hv => h v (.inr hv)]
theorem app_occ (b : List Bd) : (∀ t : Tm, ∀ v ∈ (t.app b).occ, (v ∈ t.occ ∧ look b v = none) ∨ ∃ x ∈ b, v ∈ x.tm.occ) ∧ (∀ l, ∀ v ∈ occL (appL b l), (v ∈ occL l ∧ look b v = none) ∨ ∃ x ∈ b, v ∈ x.tm.occ) := by
  refine Tm.induct2 (fun k n s A c a ih v h => ?_) (fun v h => by simp [appL, occL] at h) (fun t r h1 h2 v h => ?_)
  · simp only [Tm.app] at h
    split at h
    · rename_i hk
      cases hl : look b n with
      | none =>
        rw [hl] at h
        simp only [Option.getD_none, Tm.occ, if_pos hk] at h
        refine .inl ⟨by simpa [Tm.occ, hk] using h, ?_⟩
        obtain rfl : v = n := by simpa using h
        exact hl
      | some t =>
        rw [hl] at h
        obtain ⟨x, hx, _, rfl⟩ := look_some hl
        exact .inr ⟨x, hx, h⟩
    · rename_i hk
      split at h
      · rename_i h2
        simp only [Tm.occ, if_neg hk, if_pos h2] at h ⊢
        exact ih v h
      · rename_i h2
        simp [Tm.occ, hk, h2] at h
  · simp only [appL, occL, List.mem_append] at h ⊢
    rcases h with h | h
    · rcases h1 v h with h | h
      · exact .inl ⟨.inl h.1, h.2⟩
      · exact .inr h
    · rcases h2 v h with h | h
      · exact .inl ⟨.inr h.1, h.2⟩
      · exact .inr h

/-! ### The solved form -/
def okAt (b : List Bd) (i : Nat) : Bool := (decide (0 ≤ (b.getD i default).var) && decide ((b.getD i default).var ≤ 1048576)) && ((b.getD i default).tm.right && (decide (i = 0) || decide ((b.getD (i - 1) default).var < (b.getD i default).var)))
def okUp (b : List Bd) (j : Nat) : Bool := (List.range j).all (okAt b)
theorem okUp_next (b : List Bd) (j : Nat) : okUp b (j + 1) = (okUp b j && okAt b j) := by simp [okUp, List.range_succ]
theorem okUp_stop {b : List Bd} {j n : Nat} (hj : j < n) (h : okAt b j = false) : okUp b n = false := by
  unfold okUp
  rw [List.all_eq_false]
  exact ⟨j, by simpa using hj, by simp [h]⟩
def apartB (b : List Bd) : Bool := b.all fun x => x.tm.occ.all fun v => (look b v).isNone
def rightS (b : List Bd) : Bool := okUp b b.length && apartB b
def Asc (b : List Bd) : Prop := b.Pairwise fun x y => x.var < y.var
/-- The same, step by step. -/
theorem asc_iff (b : List Bd) : Asc b ↔ ∀ i, i + 1 < b.length → (b.getD i default).var < (b.getD (i + 1) default).var := by
  induction b with
  | nil => simp [Asc]
  | cons x r ih =>
    constructor
    · intro h i hi
      cases i with
      | zero =>
        have := (List.pairwise_cons.1 h).1 (r.getD 0 default) (bgetD_mem (by simpa using hi))
        simpa using this
      | succ i => simpa using (ih.1 (List.pairwise_cons.1 h).2) i (by simpa using hi)
    · intro h
      have hr : Asc r := ih.2 fun i hi => by simpa using h (i + 1) (by simpa using hi)
      refine List.pairwise_cons.2 ⟨fun y hy => ?_, hr⟩
      cases r with
      | nil => simp at hy
      | cons z q =>
        have h0 : x.var < z.var := by simpa using h 0 (by simp)
        rcases List.mem_cons.1 hy with rfl | hy
        · exact h0
        · exact Int.lt_trans h0 ((List.pairwise_cons.1 hr).1 y hy)
theorem okUp_iff (b : List Bd) : okUp b b.length = true ↔ (∀ x ∈ b, 0 ≤ x.var ∧ x.var ≤ 1048576 ∧ x.tm.right = true) ∧ Asc b := by
  rw [asc_iff]
  simp only [okUp, List.all_eq_true, List.mem_range, okAt, Bool.and_eq_true, Bool.or_eq_true, decide_eq_true_eq]
  constructor
  · intro h
    refine ⟨fun x hx => ?_, fun i hi => ?_⟩
    · obtain ⟨i, hi, e⟩ := List.mem_iff_getElem.1 hx
      have := h i hi
      simp only [List.getD, List.getElem?_eq_getElem hi, Option.getD_some, e] at this
      exact ⟨this.1.1, this.1.2, this.2.1⟩
    · rcases (h (i + 1) hi).2.2 with h' | h'
      · omega
      · simpa using h'
  · rintro ⟨h1, h2⟩ i hi
    have := h1 _ (bgetD_mem hi)
    refine ⟨⟨this.1, this.2.1⟩, this.2.2, ?_⟩
    cases i with
    | zero => exact .inl rfl
    | succ i => exact .inr (by simpa using h2 i hi)
theorem apart_iff (b : List Bd) : apartB b = true ↔ ∀ x ∈ b, ∀ v ∈ x.tm.occ, look b v = none := by
  simp only [apartB, List.all_eq_true, Option.isNone_iff_eq_none]
theorem rightS_iff (b : List Bd) : rightS b = true ↔ ((∀ x ∈ b, 0 ≤ x.var ∧ x.var ≤ 1048576 ∧ x.tm.right = true) ∧ Asc b) ∧ ∀ x ∈ b, ∀ v ∈ x.tm.occ, look b v = none := by
  rw [rightS, Bool.and_eq_true, okUp_iff, apart_iff]
theorem occ_strip : (∀ t : Tm, t.strip.occ = t.occ) ∧ (∀ l, occL (stripL l) = occL l) := by
  refine Tm.induct2 (fun k n s A c a ih => ?_) rfl (fun t r h1 h2 => ?_)
  · simp only [Tm.strip, Tm.occ, ih]
  · simp only [stripL, occL, h1, h2]
theorem stripB_getD (b : List Bd) {i : Nat} (hi : i < b.length) : (stripB b).getD i default = (b.getD i default).strip := by
  simp [stripB, List.getD, hi]
theorem rightS_strip (b : List Bd) : rightS (stripB b) = rightS b := by
  have hm : ∀ p : Bd → Prop, (∀ x ∈ stripB b, p x) ↔ ∀ x ∈ b, p x.strip := fun p => by simp [stripB]
  rw [Bool.eq_iff_iff, rightS_iff, rightS_iff]
  simp only [hm]
  simp only [Bd.strip, right_strip, occ_strip.1, look_strip, Option.map_eq_none_iff]
  have : Asc (stripB b) ↔ Asc b := by unfold Asc stripB; rw [List.pairwise_map]; rfl
  rw [this]
theorem rightS_like {a b : List Bd} (h : stripB a = stripB b) : rightS a = rightS b := by rw [← rightS_strip, h, rightS_strip]

/-! ### Lists without repeated variables -/
def Dis (b : List Bd) : Prop := b.Pairwise fun x y => x.var ≠ y.var
theorem Asc.dis {b : List Bd} (h : Asc b) : Dis b := h.imp fun h => by omega
theorem look_mem {b : List Bd} (h : Dis b) {x : Bd} (hx : x ∈ b) : look b x.var = some x.tm := by
  induction b with
  | nil => cases hx
  | cons y r ih =>
    have hp := List.pairwise_cons.1 h
    simp only [look]
    rcases List.mem_cons.1 hx with rfl | hx
    · simp
    · rw [if_neg (hp.1 x hx)]; exact ih hp.2 hx
theorem Dis.perm {a b : List Bd} (h : Dis a) (p : a.Perm b) : Dis b := (p.pairwise_iff (fun h => Ne.symm h)).1 h
theorem look_perm {a b : List Bd} (h : Dis a) (p : a.Perm b) (v : Int) : look a v = look b v := by
  cases hv : look a v with
  | none =>
    rw [look_none] at hv
    exact (look_none.2 fun x hx => hv x (p.mem_iff.2 hx)).symm
  | some t =>
    obtain ⟨x, hx, rfl, rfl⟩ := look_some hv
    exact (look_mem (h.perm p) (p.mem_iff.1 hx)).symm
theorem asc_unique {a b : List Bd} (ha : Asc a) (hb : Asc b) (p : a.Perm b) : a = b := by
  induction a generalizing b with
  | nil => exact (List.Perm.nil_eq p)
  | cons x r ih =>
    cases b with
    | nil => exact absurd p.length_eq (by simp)
    | cons y q =>
      have pa := List.pairwise_cons.1 ha
      have pb := List.pairwise_cons.1 hb
      have e : x = y := by
        have h1 : x ∈ y :: q := p.mem_iff.1 (by simp)
        have h2 : y ∈ x :: r := p.mem_iff.2 (by simp)
        rcases List.mem_cons.1 h1 with h1 | h1
        · exact h1
        · rcases List.mem_cons.1 h2 with h2 | h2
          · exact h2.symm
          · have := pa.1 y h2
            have := pb.1 x h1
            omega
      subst e
      rw [ih pa.2 pb.2 (List.Perm.cons_inv p)]

/-! ### Sorting by insertion -/
def insB (x : Bd) : List Bd → List Bd
  | [] => [x]
  | y :: r => if y.var < x.var then y :: insB x r else x :: y :: r
def sortB (l : List Bd) : List Bd := l.foldl (fun acc x => insB x acc) []
theorem insB_perm (x : Bd) (l : List Bd) : (insB x l).Perm (x :: l) := by
  induction l with
  | nil => exact List.Perm.refl _
  | cons y r ih =>
    simp only [insB]
    split
    · exact (List.Perm.cons y ih).trans (List.Perm.swap x y r)
    · exact List.Perm.refl _
theorem insB_asc {x : Bd} {l : List Bd} (h : Asc l) (hx : ∀ y ∈ l, y.var ≠ x.var) : Asc (insB x l) := by
  induction l with
  | nil => simp [insB, Asc]
  | cons y r ih =>
    have hp := List.pairwise_cons.1 h
    simp only [insB]
    split
    · rename_i hlt
      refine List.pairwise_cons.2 ⟨fun z hz => ?_, ih hp.2 fun z hz => hx z (by simp [hz])⟩
      rcases List.mem_cons.1 ((insB_perm x r).mem_iff.1 hz) with rfl | hz
      · exact hlt
      · exact hp.1 z hz
    · rename_i hge
      have hlt : x.var < y.var := by have := hx y (by simp); omega
      refine List.pairwise_cons.2 ⟨fun z hz => ?_, h⟩
      rcases List.mem_cons.1 hz with rfl | hz
      · exact hlt
      · exact Int.lt_trans hlt (hp.1 z hz)
theorem foldB_perm (l acc : List Bd) : (l.foldl (fun acc x => insB x acc) acc).Perm (l ++ acc) := by
  induction l generalizing acc with
  | nil => exact List.Perm.refl _
  | cons x r ih =>
    rw [List.foldl_cons]
    refine (ih _).trans ?_
    exact ((insB_perm x acc).append_left r).trans List.perm_middle
theorem sortB_perm (l : List Bd) : (sortB l).Perm l := by
  have := foldB_perm l []
  rw [List.append_nil] at this
  exact this
theorem foldB_asc (l acc : List Bd) (ha : Asc acc) (hd : Dis (l ++ acc)) : Asc (l.foldl (fun acc x => insB x acc) acc) := by
  induction l generalizing acc with
  | nil => exact ha
  | cons x r ih =>
    rw [List.foldl_cons]
    have hp := List.pairwise_cons.1 hd
    refine ih _ (insB_asc ha fun y hy => Ne.symm (hp.1 y (by simp [hy]))) ?_
    exact Dis.perm hd (((insB_perm x acc).append_left r).trans List.perm_middle).symm
theorem sortB_asc {l : List Bd} (hd : Dis l) : Asc (sortB l) := foldB_asc l [] (by simp [Asc]) (by simpa using hd)
theorem sortB_id {l : List Bd} (h : Asc l) : sortB l = l := asc_unique (sortB_asc h.dis) h (sortB_perm l)
theorem sortB_of {l l' : List Bd} (hd : Dis l) (p : l'.Perm l) (ha : Asc l') : l' = sortB l := asc_unique ha (sortB_asc hd) (p.trans (sortB_perm l).symm)
theorem insB_strip (x : Bd) (l : List Bd) : stripB (insB x l) = insB x.strip (stripB l) := by
  induction l with
  | nil => rfl
  | cons y r ih =>
    simp only [stripB, insB, List.map_cons, Bd.strip] at ih ⊢
    split
    · simp only [List.map_cons, ih, Bd.strip]
    · rfl
theorem sortB_strip (l : List Bd) : stripB (sortB l) = sortB (stripB l) := by
  unfold sortB
  have : ∀ acc, stripB (l.foldl (fun acc x => insB x acc) acc) = (stripB l).foldl (fun acc x => insB x acc) (stripB acc) := by
    induction l with
    | nil => intro acc; rfl
    | cons x r ih =>
      intro acc
      rw [List.foldl_cons, ih, insB_strip]
      rfl
  exact this []
theorem dis_strip (l : List Bd) : Dis (stripB l) ↔ Dis l := by unfold Dis stripB; rw [List.pairwise_map]; rfl

/-! ### Composition -/
def isV (t : Tm) (v : Int) : Bool := decide (t.kind = 1) && decide (t.num = v)
def keepA (c : List Bd) (x : Bd) : Option Bd := if isV (x.tm.app c) x.var then none else some ⟨x.var, x.tm.app c⟩
def compA (a c : List Bd) : List Bd := a.filterMap (keepA c)
def compC (a c : List Bd) : List Bd := c.filter fun x => (look a x.var).isNone
def compL (a c : List Bd) : List Bd := compA a c ++ compC a c
def allRight (b : List Bd) : Bool := b.all fun x => x.tm.right
def comp (a c : List Bd) : List Bd × Int :=
  if (rightS a && rightS c) = false then ([], 2)
  else if allRight (sortB (compL a c)) = false then ([], 6)
  else if rightS (sortB (compL a c)) = false then ([], 2)
  else (sortB (compL a c), 0)
theorem comp_ok {a c o : List Bd} (h : comp a c = (o, 0)) : rightS a = true ∧ rightS c = true ∧ o = sortB (compL a c) ∧ rightS o = true := by
  unfold comp at h
  split at h
  · simp at h
  · rename_i h1
    split at h
    · simp at h
    · split at h
      · simp at h
      · rename_i h3
        simp only [Prod.mk.injEq, and_true] at h
        have : (rightS a && rightS c) = true := by simpa using h1
        rw [Bool.and_eq_true] at this
        exact ⟨this.1, this.2, h.symm, by rw [← h]; simpa using h3⟩
theorem compA_var {a c : List Bd} {y : Bd} (h : y ∈ compA a c) : ∃ x ∈ a, x.var = y.var ∧ y.tm = x.tm.app c ∧ isV (x.tm.app c) x.var = false := by
  obtain ⟨x, hx, e⟩ := List.mem_filterMap.1 h
  unfold keepA at e
  split at e
  · cases e
  · rename_i hv
    injection e with e
    exact ⟨x, hx, by rw [← e], by rw [← e], by simpa using hv⟩
theorem compL_dis {a c : List Bd} (ha : Dis a) (hc : Dis c) : Dis (compL a c) := by
  unfold compL Dis
  rw [List.pairwise_append]
  refine ⟨?_, hc.sublist List.filter_sublist, fun x hx y hy => ?_⟩
  · unfold compA
    rw [List.pairwise_filterMap]
    refine ha.imp fun {x y} hxy b hb b' hb' => ?_
    have e1 : b.var = x.var := by unfold keepA at hb; split at hb; cases hb; injection hb with hb; rw [← hb]
    have e2 : b'.var = y.var := by unfold keepA at hb'; split at hb'; cases hb'; injection hb' with hb'; rw [← hb']
    rw [e1, e2]; exact hxy
  · obtain ⟨z, hz, e, _⟩ := compA_var hx
    obtain ⟨_, hn⟩ := List.mem_filter.1 hy
    rw [Option.isNone_iff_eq_none, look_none] at hn
    rw [← e]
    exact hn z hz
theorem comp_dis {a c : List Bd} (ha : rightS a = true) (hc : rightS c = true) : Dis (compL a c) := compL_dis ((rightS_iff a).1 ha).1.2.dis ((rightS_iff c).1 hc).1.2.dis
/-- What a composition binds. -/
theorem comp_look {a c : List Bd} (ha : Dis a) (hc : Dis c) (v : Int) : look (sortB (compL a c)) v = match look a v with
    | some x => if isV (x.app c) v then none else some (x.app c)
    | none => look c v := by
  rw [look_perm ((compL_dis ha hc).perm (sortB_perm _).symm) (sortB_perm _)]
  cases hv : look a v with
  | some t =>
    obtain ⟨x, hx, rfl, rfl⟩ := look_some hv
    simp only
    split
    · rename_i hi
      refine look_none.2 fun y hy e => ?_
      rcases List.mem_append.1 hy with hy | hy
      · obtain ⟨z, hz, e1, e2, e3⟩ := compA_var hy
        have : z.tm = x.tm := by
          have h1 := look_mem ha hz
          rw [e1, e, hv] at h1
          injection h1 with h1
          exact h1.symm
        rw [this, e1, e, hi] at e3
        cases e3
      · obtain ⟨_, hn⟩ := List.mem_filter.1 hy
        rw [e, hv] at hn
        cases hn
    · rename_i hi
      have hm : (⟨x.var, x.tm.app c⟩ : Bd) ∈ compL a c := List.mem_append.2 (.inl (List.mem_filterMap.2 ⟨x, hx, by unfold keepA; rw [if_neg hi]⟩))
      exact look_mem (compL_dis ha hc) hm
  | none =>
    simp only
    cases hc' : look c v with
    | some t =>
      obtain ⟨x, hx, rfl, rfl⟩ := look_some hc'
      exact look_mem (compL_dis ha hc) (List.mem_append.2 (.inr (List.mem_filter.2 ⟨hx, by rw [hv]; rfl⟩)))
    | none =>
      rw [look_none] at hv hc' ⊢
      intro y hy
      rcases List.mem_append.1 hy with hy | hy
      · obtain ⟨z, hz, e1, _⟩ := compA_var hy
        rw [← e1]; exact hv z hz
      · exact hc' y (List.mem_filter.1 hy).1
theorem keepA_strip (c : List Bd) (x : Bd) : (keepA c x).map Bd.strip = keepA (stripB c) x.strip := by
  have e := (app_strip c).1 x.tm
  have ev : isV (x.tm.strip.app (stripB c)) x.var = isV (x.tm.app c) x.var := by rw [e]; unfold isV; cases x.tm.app c; rfl
  show (if isV (x.tm.app c) x.var then none else some (⟨x.var, x.tm.app c⟩ : Bd)).map Bd.strip = if isV (x.tm.strip.app (stripB c)) x.var then none else some (⟨x.var, x.tm.strip.app (stripB c)⟩ : Bd)
  rw [ev, e]
  cases isV (x.tm.app c) x.var <;> rfl
theorem compL_strip (a c : List Bd) : stripB (compL a c) = compL (stripB a) (stripB c) := by
  have hA : stripB (compA a c) = compA (stripB a) (stripB c) := by
    show (a.filterMap (keepA c)).map Bd.strip = (a.map Bd.strip).filterMap (keepA (stripB c))
    rw [List.map_filterMap, List.filterMap_map]
    exact congrArg (fun f => List.filterMap f a) (funext fun x => keepA_strip c x)
  have hC : stripB (compC a c) = compC (stripB a) (stripB c) := by
    show (c.filter fun x => (look a x.var).isNone).map Bd.strip = (c.map Bd.strip).filter fun x => (look (stripB a) x.var).isNone
    rw [List.filter_map]
    have : (fun x : Bd => (look a x.var).isNone) = (fun x : Bd => (look (stripB a) x.var).isNone) ∘ Bd.strip := by
      funext x
      show (look a x.var).isNone = (look (stripB a) x.var).isNone
      rw [look_strip]
      cases look a x.var <;> rfl
    rw [this]
  unfold compL
  rw [stripB_append, hA, hC]
theorem allRight_strip (b : List Bd) : allRight (stripB b) = allRight b := by
  simp only [allRight, stripB, List.all_map]
  congr 1
  funext x
  simp [Function.comp, Bd.strip, right_strip]
theorem comp_like {a a' c c' : List Bd} (ha : stripB a = stripB a') (hc : stripB c = stripB c') : (comp a c).2 = (comp a' c').2 ∧ stripB (comp a c).1 = stripB (comp a' c').1 := by
  have h1 : rightS a = rightS a' := rightS_like ha
  have h2 : rightS c = rightS c' := rightS_like hc
  have h3 : stripB (sortB (compL a c)) = stripB (sortB (compL a' c')) := by rw [sortB_strip, sortB_strip, compL_strip, compL_strip, ha, hc]
  have h4 : allRight (sortB (compL a c)) = allRight (sortB (compL a' c')) := by rw [← allRight_strip, h3, allRight_strip]
  have h5 := rightS_like h3
  unfold comp
  rw [h1, h2, h4, h5]
  repeat' split
  all_goals first | exact ⟨rfl, rfl⟩ | exact ⟨rfl, h3⟩
/-- Whether all terms are valid hangs on what the first substitution becomes alone. -/
theorem allRight_perm {a b : List Bd} (p : a.Perm b) : allRight a = allRight b := by
  unfold allRight
  rw [Bool.eq_iff_iff, List.all_eq_true, List.all_eq_true]
  exact ⟨fun h x hx => h x (p.mem_iff.2 hx), fun h x hx => h x (p.mem_iff.1 hx)⟩
theorem app_var_right {a c : List Bd} {x : Bd} (ha : rightS a = true) (hc : rightS c = true) (hx : x ∈ a) {v : Int} (hv : isV (x.tm.app c) v = true) : (x.tm.app c).right = true := by
  have hr := (((rightS_iff a).1 ha).1.1 x hx).2.2
  clear hx
  generalize x.tm = t at *
  obtain ⟨k, n, s, A, q, l⟩ := t
  simp only [Tm.app] at hv ⊢
  split
  · cases hl : look c n with
    | none => exact hr
    | some t =>
      obtain ⟨y, hy, _, rfl⟩ := look_some hl
      exact (((rightS_iff c).1 hc).1.1 y hy).2.2
  · rename_i hk
    rw [if_neg hk] at hv
    split
    · rename_i h2
      rw [if_pos h2] at hv
      simp [isV, Tm.kind, hk] at hv
    · exact hr
theorem comp_allRight {a c : List Bd} (ha : rightS a = true) (hc : rightS c = true) : allRight (sortB (compL a c)) = a.all fun x => (x.tm.app c).right := by
  rw [allRight_perm (sortB_perm _), Bool.eq_iff_iff]
  unfold allRight
  rw [List.all_eq_true, List.all_eq_true]
  constructor
  · intro h x hx
    cases hv : isV (x.tm.app c) x.var with
    | true => exact app_var_right ha hc hx hv
    | false => exact h _ (List.mem_append.2 (.inl (List.mem_filterMap.2 ⟨x, hx, by unfold keepA; rw [if_neg (by simp [hv])]⟩)))
  · intro h y hy
    rcases List.mem_append.1 hy with hy | hy
    · obtain ⟨x, hx, _, e, _⟩ := compA_var hy
      rw [e]; exact h x hx
    · exact (((rightS_iff c).1 hc).1.1 y (List.mem_filter.1 hy).1).2.2
end Go.Proofs.Ytpnjjahimhhjkaa
namespace Go.Proofs.Ytpnjjahimhhjkaa
open Go

/-! ### Terms that compare as equal -/
theorem lexz_iff {x y : Int} : lex x y = 0 ↔ x = 0 ∧ y = 0 := by
  unfold lex
  split
  · rename_i h; simp [h]
  · rename_i h; simp [h]
theorem ints_zero {a b : Int} : ints a b = 0 ↔ a = b := by
  unfold ints
  split
  · simp; omega
  · split
    · simp; omega
    · simp; omega
theorem cmp_trans {t u v : Tm} (h1 : cmpT t u = 0) (h2 : cmpT u v = 0) : cmpT t v = 0 := by rw [cmpT_congr (t := v) (u := u) (by rw [cmpT_flip, h2]; rfl), h1]
theorem cmp_symm {t u : Tm} (h : cmpT t u = 0) : cmpT u t = 0 := by rw [cmpT_flip, h]; rfl
theorem cmp_kind {t u : Tm} (h : cmpT t u = 0) : cls t.kind = cls u.kind := by
  obtain ⟨k, n, s, A, c, a⟩ := t
  simp only [cmpT, lexz_iff] at h
  exact cls_eq h.1
theorem cls_one {k : Int} : cls k = 0 ↔ k = 1 := by
  unfold cls; split
  · simp [*]
  · rename_i h; split <;> (try split) <;> simp [h]
theorem cls_two {k : Int} : cls k = 2 ↔ k = 2 := by
  unfold cls; split
  · rename_i h; simp [h]
  · split
    · rename_i h; simp [h]
    · split
      · rename_i h; simp [h]
      · rename_i h; simp [h]
theorem cmp_var {t u : Tm} (h : cmpT t u = 0) (hk : t.kind = 1) : u.kind = 1 ∧ u.num = t.num := by
  have h1 := cmp_kind h
  rw [hk] at h1
  have h2 : u.kind = 1 := cls_one.1 (h1.symm.trans (cls_one.2 rfl))
  obtain ⟨k, n, s, A, c, a⟩ := t
  simp only [Tm.kind] at hk
  subst hk
  simp only [cmpT, lexz_iff, true_or, if_true] at h
  exact ⟨h2, (ints_zero.1 h.2).symm⟩
theorem cmp_vars {t u : Tm} (h1 : t.kind = 1) (h2 : u.kind = 1) (h3 : t.num = u.num) : cmpT t u = 0 := by
  obtain ⟨k, n, s, A, c, a⟩ := t
  obtain ⟨k', n', s', A', c', a'⟩ := u
  simp only [Tm.kind, Tm.num] at h1 h2 h3
  subst h1 h2 h3
  simp [cmpT, Tm.kind, Tm.num, ints_self, lex]
theorem cmp_fun (n n' : Int) (s s' : ByteArray) (A A' : Option Addr) (c c' : Nat) (a a' : List Tm) :
    cmpT (.mk 2 n s A c a) (.mk 2 n' s' A' c' a') = 0 ↔ a.length = a'.length ∧ texts s.data.toList s'.data.toList = 0 ∧ cmpL a a' = 0 := by
  simp only [cmpT, Tm.kind, Tm.num, Tm.name, Tm.args]
  rw [if_neg (by omega), if_pos trivial, ints_self, lexz_iff, lexz_iff, lexz_iff, ints_zero]
  simp only [true_and, Int.natCast_inj]
theorem isV_iff {t : Tm} {v : Int} : isV t v = true ↔ t.kind = 1 ∧ t.num = v := by simp [isV]
theorem isV_cmp {t : Tm} {v : Int} (n : ByteArray) (A : Option Addr) (c : Nat) (a : List Tm) : (cmpT t (.mk 1 v n A c a) == 0) = isV t v := by
  rw [Bool.eq_iff_iff, isV_iff, beq_iff_eq]
  constructor
  · intro h
    have := cmp_var (cmp_symm h) rfl
    exact ⟨this.1, this.2⟩
  · intro h
    exact cmp_vars h.1 rfl h.2
theorem cmpL_len {l m : List Tm} (h : cmpL l m = 0) : l.length = m.length := by
  induction l generalizing m with
  | nil => cases m with
    | nil => rfl
    | cons _ _ => simp [cmpL] at h
  | cons t r ih => cases m with
    | nil => simp [cmpL] at h
    | cons u q =>
      simp only [cmpL, lexz_iff] at h
      simp [ih h.2]
/-- Applying keeps terms equal. -/
theorem cmp_app (b : List Bd) : (∀ t u : Tm, cmpT t u = 0 → cmpT (t.app b) (u.app b) = 0) ∧ (∀ l m : List Tm, cmpL l m = 0 → cmpL (appL b l) (appL b m) = 0) := by
  refine Tm.induct2 (fun k n s A c a ih u h => ?_) (fun m h => ?_) (fun t r h1 h2 m h => ?_)
  · have hk := cmp_kind h
    by_cases h1 : k = 1
    · subst h1
      have hu := cmp_var h rfl
      obtain ⟨k', n', s', A', c', a'⟩ := u
      simp only [Tm.kind, Tm.num] at hu
      obtain ⟨rfl, rfl⟩ := hu
      simp only [Tm.app, if_true]
      cases look b n' with
      | none => exact h
      | some x => exact cmp_self.1 x
    · by_cases h2 : k = 2
      · subst h2
        have hu : u.kind = 2 := cls_two.1 (hk.symm.trans (cls_two.2 rfl))
        obtain ⟨k', n', s', A', c', a'⟩ := u
        simp only [Tm.kind] at hu
        subst hu
        rw [cmp_fun] at h
        simp only [Tm.app, show ¬ ((2 : Int) = 1) by omega, if_false, if_true]
        rw [cmp_fun, appL_len, appL_len]
        exact ⟨h.1, h.2.1, ih a' h.2.2⟩
      · have e1 : (Tm.mk k n s A c a).app b = .mk k n s A c a := by simp [Tm.app, h1, h2]
        have e2 : u.app b = u := by
          have g1 : u.kind ≠ 1 := fun e => h1 (cls_one.1 (hk.trans (cls_one.2 e)))
          have g2 : u.kind ≠ 2 := fun e => h2 (cls_two.1 (hk.trans (cls_two.2 e)))
          obtain ⟨k', n', s', A', c', a'⟩ := u
          simp only [Tm.kind] at g1 g2
          simp [Tm.app, g1, g2]
        rw [e1, e2]; exact h
  · cases m with
    | nil => rfl
    | cons _ _ => simp [cmpL] at h
  · cases m with
    | nil => simp [cmpL] at h
    | cons u q =>
      simp only [cmpL, lexz_iff] at h
      simp only [appL, cmpL, lexz_iff]
      exact ⟨h1 u h.1, h2 q h.2⟩

/-! ### A composition applies one after the other -/
theorem then_at {a c : List Bd} (ha : Dis a) (hc : Dis c) : (∀ t : Tm, cmpT (t.app (sortB (compL a c))) ((t.app a).app c) = 0) ∧ (∀ l, cmpL (appL (sortB (compL a c)) l) (appL c (appL a l)) = 0) := by
  refine Tm.induct2 (fun k n s A q l ih => ?_) rfl (fun t r h1 h2 => ?_)
  · by_cases h1 : k = 1
    · subst h1
      simp only [Tm.app, if_true, comp_look ha hc]
      cases look a n with
      | none =>
        simp only [Option.getD_none]
        simp only [Tm.app, if_true]
        exact cmp_self.1 _
      | some x =>
        simp only [Option.getD_some]
        cases hv : isV (x.app c) n with
        | true =>
          have := isV_iff.1 hv
          exact cmp_vars rfl this.1 this.2.symm
        | false => exact cmp_self.1 _
    · by_cases h2 : k = 2
      · subst h2
        simp only [Tm.app, show ¬ ((2 : Int) = 1) by omega, if_false, if_true]
        rw [cmp_fun, appL_len, appL_len, appL_len]
        exact ⟨rfl, texts_self _, ih⟩
      · simp only [Tm.app, h1, h2, if_false]
        exact cmp_self.1 _
  · simp only [appL, cmpL, lexz_iff]
    exact ⟨h1, h2⟩
theorem comp_then {a c o : List Bd} (h : comp a c = (o, 0)) (t : Tm) : cmpT (t.app o) ((t.app a).app c) = 0 := by
  obtain ⟨ha, hc, rfl, _⟩ := comp_ok h
  exact (then_at ((rightS_iff a).1 ha).1.2.dis ((rightS_iff c).1 hc).1.2.dis).1 t

/-! ### The solved form -/
theorem solved_occ {b : List Bd} (hb : rightS b = true) (t : Tm) : ∀ v ∈ (t.app b).occ, look b v = none := by
  intro v hv
  rcases (app_occ b).1 t v hv with h | ⟨x, hx, h⟩
  · exact h.2
  · exact ((rightS_iff b).1 hb).2 x hx v h
theorem solved_var {b : List Bd} (hb : rightS b = true) (t : Tm) {x : Bd} (hx : x ∈ b) : x.var ∉ (t.app b).occ := fun h => by
  have := solved_occ hb t _ h
  rw [look_none] at this
  exact this x hx rfl
theorem solved_twice {b : List Bd} (hb : rightS b = true) (t : Tm) : (t.app b).app b = t.app b := (app_id b).1 _ (solved_occ hb t)
theorem solved_tm {b : List Bd} (hb : rightS b = true) {x : Bd} (hx : x ∈ b) : x.tm.app b = x.tm := (app_id b).1 _ (((rightS_iff b).1 hb).2 x hx)
theorem solved_isV {b : List Bd} (hb : rightS b = true) {x : Bd} (hx : x ∈ b) : isV x.tm x.var = false := by
  cases hv : isV x.tm x.var with
  | false => rfl
  | true =>
    have h1 := isV_iff.1 hv
    have h2 : x.var ∈ x.tm.occ := by
      have := occ_used x.tm
      rw [if_pos h1.1, h1.2] at this
      rw [this]; simp
    have := ((rightS_iff b).1 hb).2 x hx _ h2
    rw [look_none] at this
    exact absurd rfl (this x hx)
theorem filterMap_self {α : Type} {f : α → Option α} {l : List α} (h : ∀ x ∈ l, f x = some x) : l.filterMap f = l := by
  induction l with
  | nil => rfl
  | cons x r ih => rw [List.filterMap_cons, h x (by simp)]; simp [ih fun y hy => h y (by simp [hy])]
theorem compA_self {b c : List Bd} (hb : rightS b = true) (h : ∀ x ∈ b, x.tm.app c = x.tm) : compA b c = b := by
  refine filterMap_self fun x hx => ?_
  unfold keepA
  rw [h x hx, if_neg (by rw [solved_isV hb hx]; simp)]
theorem rightS_all {b : List Bd} (hb : rightS b = true) : allRight b = true := List.all_eq_true.2 fun x hx => (((rightS_iff b).1 hb).1.1 x hx).2.2
theorem comp_of {a c b : List Bd} (ha : rightS a = true) (hc : rightS c = true) (hb : rightS b = true) (h : compL a c = b) : comp a c = (b, 0) := by
  unfold comp
  rw [h, sortB_id ((rightS_iff b).1 hb).1.2, ha, hc, rightS_all hb, hb]
  rfl
theorem comp_self {b : List Bd} (hb : rightS b = true) : comp b b = (b, 0) := by
  refine comp_of hb hb hb ?_
  unfold compL
  rw [compA_self hb fun x hx => solved_tm hb hx]
  have : compC b b = [] := by
    refine List.filter_eq_nil_iff.2 fun x hx => ?_
    rw [look_mem ((rightS_iff b).1 hb).1.2.dis hx]
    simp
  rw [this, List.append_nil]
theorem rightS_nil : rightS [] = true := by decide
theorem app_nil : (∀ t : Tm, t.app [] = t) ∧ (∀ l, appL [] l = l) := ⟨fun t => (app_id []).1 t fun _ _ => rfl, fun l => (app_id []).2 l fun _ _ => rfl⟩
theorem comp_nil_left {b : List Bd} (hb : rightS b = true) : comp [] b = (b, 0) := by
  refine comp_of rightS_nil hb hb ?_
  unfold compL compA compC
  simp [look]
theorem comp_nil_right {b : List Bd} (hb : rightS b = true) : comp b [] = (b, 0) := by
  refine comp_of hb rightS_nil hb ?_
  unfold compL
  rw [compA_self hb fun x _ => app_nil.1 _]
  simp [compC]

/-! ### Identity -/
def sameAt (a c : List Bd) (i : Nat) : Bool := decide ((a.getD i default).var = (c.getD i default).var) && (cmpT (a.getD i default).tm (c.getD i default).tm == 0)
def sameUp (a c : List Bd) (j : Nat) : Bool := (List.range j).all (sameAt a c)
def sameB (a c : List Bd) : Bool := decide (a.length = c.length) && sameUp a c a.length
theorem sameUp_next (a c : List Bd) (j : Nat) : sameUp a c (j + 1) = (sameUp a c j && sameAt a c j) := by simp [sameUp, List.range_succ]
theorem sameUp_stop {a c : List Bd} {j n : Nat} (hj : j < n) (h : sameAt a c j = false) : sameUp a c n = false := by
  unfold sameUp
  rw [List.all_eq_false]
  exact ⟨j, by simpa using hj, by simp [h]⟩
theorem sameB_iff (a c : List Bd) : sameB a c = true ↔ a.length = c.length ∧ ∀ i, i < a.length → (a.getD i default).var = (c.getD i default).var ∧ cmpT (a.getD i default).tm (c.getD i default).tm = 0 := by
  simp only [sameB, sameUp, sameAt, Bool.and_eq_true, decide_eq_true_eq, List.all_eq_true, List.mem_range, beq_iff_eq]
theorem sameB_strip {a c : List Bd} (h : stripB a = stripB c) : sameB a c = true := by
  rw [sameB_iff]
  have hl : a.length = c.length := by rw [← stripB_len a, h, stripB_len]
  refine ⟨hl, fun i hi => ?_⟩
  have h1 := stripB_getD a hi
  have h2 := stripB_getD c (i := i) (by omega)
  rw [h] at h1
  rw [h1] at h2
  have h3 : (a.getD i default).strip = (c.getD i default).strip := h2
  unfold Bd.strip at h3
  injection h3 with h3 h4
  exact ⟨h3, by simpa using same_strip h4⟩
theorem sameB_refl (a : List Bd) : sameB a a = true := sameB_strip rfl
theorem sameB_like {a a' c c' : List Bd} (ha : stripB a = stripB a') (hc : stripB c = stripB c') : sameB a c = sameB a' c' := by
  have tr : ∀ {a a' c c' : List Bd}, stripB a = stripB a' → stripB c = stripB c' → sameB a c = true → sameB a' c' = true := fun {a a' c c'} ha hc h => by
    rw [sameB_iff] at h ⊢
    have l1 : a.length = a'.length := by rw [← stripB_len a, ha, stripB_len]
    have l2 : c.length = c'.length := by rw [← stripB_len c, hc, stripB_len]
    refine ⟨by omega, fun i hi => ?_⟩
    have e1 : (a.getD i default).strip = (a'.getD i default).strip := by rw [← stripB_getD a (by omega), ha, stripB_getD a' hi]
    have e2 : (c.getD i default).strip = (c'.getD i default).strip := by rw [← stripB_getD c (by omega), hc, stripB_getD c' (by omega)]
    unfold Bd.strip at e1 e2
    injection e1 with e1 e1'
    injection e2 with e2 e2'
    have := h.2 i (by omega)
    refine ⟨by rw [← e1, ← e2]; exact this.1, ?_⟩
    rw [← cmp_strip.1, ← e1', ← e2', cmp_strip.1]
    exact this.2
  rw [Bool.eq_iff_iff]
  exact ⟨tr ha hc, tr ha.symm hc.symm⟩
theorem asc_vars {a c : List Bd} (ha : Asc a) (hc : Asc c) (h : ∀ v, (∃ x ∈ a, x.var = v) ↔ ∃ x ∈ c, x.var = v) : a.map Bd.var = c.map Bd.var := by
  induction a generalizing c with
  | nil =>
    cases c with
    | nil => rfl
    | cons y q => exact absurd ((h y.var).2 ⟨y, by simp, rfl⟩) (by simp)
  | cons x r ih =>
    cases c with
    | nil => exact absurd ((h x.var).1 ⟨x, by simp, rfl⟩) (by simp)
    | cons y q =>
      have pa := List.pairwise_cons.1 ha
      have pc := List.pairwise_cons.1 hc
      have e : x.var = y.var := by
        obtain ⟨z, hz, e1⟩ := (h x.var).1 ⟨x, by simp, rfl⟩
        obtain ⟨z', hz', e2⟩ := (h y.var).2 ⟨y, by simp, rfl⟩
        rcases List.mem_cons.1 hz with rfl | hz
        · exact e1.symm
        · rcases List.mem_cons.1 hz' with rfl | hz'
          · exact e2
          · have := pa.1 z' hz'
            have := pc.1 z hz
            omega
      simp only [List.map_cons, e]
      congr 1
      refine ih pa.2 pc.2 fun v => ?_
      constructor
      · rintro ⟨z, hz, rfl⟩
        obtain ⟨z', hz', e1⟩ := (h z.var).1 ⟨z, by simp [hz], rfl⟩
        rcases List.mem_cons.1 hz' with rfl | hz'
        · have := pa.1 z hz; omega
        · exact ⟨z', hz', e1⟩
      · rintro ⟨z, hz, rfl⟩
        obtain ⟨z', hz', e1⟩ := (h z.var).2 ⟨z, by simp [hz], rfl⟩
        rcases List.mem_cons.1 hz' with rfl | hz'
        · have := pc.1 z hz; omega
        · exact ⟨z', hz', e1⟩
/-- Two solved forms that make the same of each variable are the same. -/
theorem solved_ext {u v : List Bd} (hu : rightS u = true) (hv : rightS v = true) (h : ∀ t : Tm, cmpT (t.app u) (t.app v) = 0) : sameB u v = true := by
  have half : ∀ {u v : List Bd}, rightS u = true → (∀ t : Tm, cmpT (t.app u) (t.app v) = 0) → ∀ x ∈ u, ∃ y ∈ v, y.var = x.var ∧ cmpT x.tm y.tm = 0 := fun {u v} hu h x hx => by
    have h1 := h (.mk 1 x.var ByteArray.empty none 0 [])
    simp only [Tm.app, if_true, look_mem ((rightS_iff u).1 hu).1.2.dis hx, Option.getD_some] at h1
    cases hl : look v x.var with
    | none =>
      rw [hl] at h1
      simp only [Option.getD_none] at h1
      have h2 := isV_cmp (t := x.tm) (v := x.var) ByteArray.empty none 0 []
      rw [h1, solved_isV hu hx] at h2
      cases h2
    | some t =>
      obtain ⟨y, hy, e, rfl⟩ := look_some hl
      rw [hl] at h1
      exact ⟨y, hy, e, h1⟩
  have ru := (rightS_iff u).1 hu
  have rv := (rightS_iff v).1 hv
  have hm := asc_vars ru.1.2 rv.1.2 fun n => ⟨fun ⟨x, hx, e⟩ => by
    obtain ⟨y, hy, e', _⟩ := half hu h x hx
    exact ⟨y, hy, e'.trans e⟩, fun ⟨x, hx, e⟩ => by
    obtain ⟨y, hy, e', _⟩ := half hv (fun t => cmp_symm (h t)) x hx
    exact ⟨y, hy, e'.trans e⟩⟩
  rw [sameB_iff]
  have hl : u.length = v.length := by simpa using congrArg List.length hm
  refine ⟨hl, fun i hi => ?_⟩
  have e : (u.getD i default).var = (v.getD i default).var := by
    have := congrArg (fun l => l.getD i 0) hm
    simpa [List.getD, hi, show i < v.length by omega] using this
  refine ⟨e, ?_⟩
  obtain ⟨y, hy, e', hc⟩ := half hu h _ (bgetD_mem hi)
  have h1 := look_mem rv.1.2.dis hy
  have h2 := look_mem rv.1.2.dis (bgetD_mem (l := v) (k := i) (by omega))
  rw [e', e, h2] at h1
  injection h1 with h1
  rw [h1]; exact hc
theorem comp_assoc {a b c x y u v : List Bd} (h1 : comp a b = (x, 0)) (h2 : comp b c = (y, 0)) (h3 : comp x c = (u, 0)) (h4 : comp a y = (v, 0)) : sameB u v = true := by
  refine solved_ext (comp_ok h3).2.2.2 (comp_ok h4).2.2.2 fun t => ?_
  have e1 : cmpT (t.app u) (((t.app a).app b).app c) = 0 := cmp_trans (comp_then h3 t) ((cmp_app c).1 _ _ (comp_then h1 t))
  have e2 : cmpT (t.app v) (((t.app a).app b).app c) = 0 := cmp_trans (comp_then h4 t) (comp_then h2 (t.app a))
  exact cmp_trans e1 (cmp_symm e2)

/-! ### Restriction -/
def restr (b : List Bd) (vars : List Int) : List Bd := b.filter fun x => decide (x.var ∈ vars)
theorem restr_next {b : List Bd} {j : Nat} (hj : j < b.length) (vars : List Int) : restr (b.take (j + 1)) vars = restr (b.take j) vars ++ (if (b.getD j default).var ∈ vars then [b.getD j default] else []) := by
  unfold restr
  rw [btake_next hj, List.filter_append]
  congr 1
  rw [List.filter_cons]
  split <;> split <;> simp_all
theorem restr_strip (b : List Bd) (vars : List Int) : stripB (restr b vars) = restr (stripB b) vars := by
  show (b.filter fun x => decide (x.var ∈ vars)).map Bd.strip = (b.map Bd.strip).filter fun x => decide (x.var ∈ vars)
  rw [List.filter_map]
  rfl
theorem restr_right {b : List Bd} (vars : List Int) (h : rightS b = true) : rightS (restr b vars) = true := by
  rw [rightS_iff] at h ⊢
  have hm : ∀ x ∈ restr b vars, x ∈ b := fun x hx => (List.mem_filter.1 hx).1
  refine ⟨⟨fun x hx => h.1.1 x (hm x hx), h.1.2.sublist List.filter_sublist⟩, fun x hx v hv => ?_⟩
  have := h.2 x (hm x hx) v hv
  rw [look_none] at this ⊢
  exact fun y hy => this y (hm y hy)
end Go.Proofs.Ytpnjjahimhhjkaa
namespace Go.Proofs.Ytpnjjahimhhjkaa
open Go

/-! ### Environments -/
/-- A binding is inserted before the first one with a greater variable. -/
def insE (b : Bd) : List Bd → List Bd
  | [] => [b]
  | x :: l => if b.var < x.var then b :: x :: l else x :: insE b l
/-- Identical up to what identity does not see. -/
def sameE (a b : List Bd) : Prop := a.length = b.length ∧ ∀ k, k < a.length → (a.getD k default).var = (b.getD k default).var ∧ cmpT (a.getD k default).tm (b.getD k default).tm = 0
/-- Two results of looking up. -/
def sameO : Option Tm → Option Tm → Prop
  | none, none => True
  | some t, some u => cmpT t u = 0
  | _, _ => False
theorem sameE_nil : sameE [] [] := ⟨rfl, fun k hk => by simp at hk⟩
theorem sameE_cons {x y : Bd} {a b : List Bd} : sameE (x :: a) (y :: b) ↔ (x.var = y.var ∧ cmpT x.tm y.tm = 0) ∧ sameE a b := by
  constructor
  · rintro ⟨h1, h2⟩
    refine ⟨?_, by simpa using h1, fun k hk => ?_⟩
    · have := h2 0 (by simp); simpa using this
    · have := h2 (k + 1) (by simp; omega); simpa using this
  · rintro ⟨⟨h1, h2⟩, h3, h4⟩
    refine ⟨by simp [h3], fun k hk => ?_⟩
    cases k with
    | zero => exact ⟨h1, h2⟩
    | succ k => have := h4 k (by simpa using hk); simpa using this
theorem sameE_refl : ∀ a : List Bd, sameE a a
  | [] => sameE_nil
  | _ :: a => sameE_cons.2 ⟨⟨rfl, cmp_self.1 _⟩, sameE_refl a⟩
theorem sameE_symm : ∀ {a b : List Bd}, sameE a b → sameE b a
  | [], [], _ => sameE_nil
  | [], _ :: _, h => by have := h.1; simp at this
  | _ :: _, [], h => by have := h.1; simp at this
  | x :: a, y :: b, h => by
    rw [sameE_cons] at h ⊢
    exact ⟨⟨h.1.1.symm, cmp_symm h.1.2⟩, sameE_symm h.2⟩
theorem sameE_trans : ∀ {a b c : List Bd}, sameE a b → sameE b c → sameE a c
  | [], [], c, _, h => h
  | [], _ :: _, _, h, _ => by have := h.1; simp at this
  | _ :: _, [], _, h, _ => by have := h.1; simp at this
  | _ :: _, _ :: _, [], _, h => by have := h.1; simp at this
  | x :: a, y :: b, z :: c, h, h' => by
    rw [sameE_cons] at h h' ⊢
    exact ⟨⟨h.1.1.trans h'.1.1, cmp_trans h.1.2 h'.1.2⟩, sameE_trans h.2 h'.2⟩
theorem sameO_refl (o : Option Tm) : sameO o o := by cases o with | none => exact trivial | some t => exact cmp_self.1 t
theorem look_same : ∀ {a b : List Bd} (_ : sameE a b) (v : Int), sameO (look a v) (look b v)
  | [], [], _, _ => trivial
  | [], _ :: _, h, _ => by have := h.1; simp at this
  | _ :: _, [], h, _ => by have := h.1; simp at this
  | x :: a, y :: b, h, v => by
    rw [sameE_cons] at h
    simp only [look]
    rw [← h.1.1]
    split
    · exact h.1.2
    · exact look_same h.2 v
theorem insE_len (b : Bd) (l : List Bd) : (insE b l).length = l.length + 1 := by
  induction l with
  | nil => rfl
  | cons x r ih =>
    simp only [insE]
    split
    · rfl
    · simp [ih]
theorem insE_same {x y : Bd} (hv : x.var = y.var) (ht : cmpT x.tm y.tm = 0) : ∀ {a b : List Bd}, sameE a b → sameE (insE x a) (insE y b)
  | [], [], _ => sameE_cons.2 ⟨⟨hv, ht⟩, sameE_nil⟩
  | [], _ :: _, h => by have := h.1; simp at this
  | _ :: _, [], h => by have := h.1; simp at this
  | u :: a, w :: b, h => by
    have h0 := h
    rw [sameE_cons] at h
    simp only [insE]
    rw [hv, h.1.1]
    split
    · exact sameE_cons.2 ⟨⟨hv, ht⟩, h0⟩
    · exact sameE_cons.2 ⟨h.1, insE_same hv ht h.2⟩
theorem insE_mem {b x : Bd} {l : List Bd} : x ∈ insE b l ↔ x = b ∨ x ∈ l := by
  induction l with
  | nil => simp [insE]
  | cons y r ih =>
    simp only [insE]
    split
    · simp
    · simp only [List.mem_cons, ih]
      constructor
      · rintro (h | h | h)
        · exact .inr (.inl h)
        · exact .inl h
        · exact .inr (.inr h)
      · rintro (h | h | h)
        · exact .inr (.inl h)
        · exact .inl h
        · exact .inr (.inr h)
/-- Looking up behind an insertion, where the variable had no entry. -/
theorem look_insE {b : Bd} {l : List Bd} (h : look l b.var = none) (v : Int) : look (insE b l) v = if b.var = v then some b.tm else look l v := by
  induction l with
  | nil => simp [insE, look]
  | cons x r ih =>
    rw [look_none] at h
    have hx := h x (by simp)
    have hr : look r b.var = none := look_none.2 fun y hy => h y (by simp [hy])
    simp only [insE]
    split
    · simp only [look]
    · simp only [look, ih hr]
      by_cases e : x.var = v
      · rw [if_pos e, if_pos e, if_neg (fun e' => hx (by rw [e, e']))]
      · rw [if_neg e, if_neg e]
theorem insE_asc {b : Bd} {l : List Bd} (ha : Asc l) (h : look l b.var = none) : Asc (insE b l) := by
  unfold Asc at *
  induction l with
  | nil => simp [insE]
  | cons x r ih =>
    rw [look_none] at h
    have hx := h x (by simp)
    rw [List.pairwise_cons] at ha
    simp only [insE]
    split
    · rename_i hlt
      rw [List.pairwise_cons]
      refine ⟨fun y hy => ?_, List.pairwise_cons.2 ha⟩
      rcases List.mem_cons.1 hy with rfl | hy
      · exact hlt
      · exact Int.lt_trans hlt (ha.1 y hy)
    · rw [List.pairwise_cons]
      refine ⟨fun y hy => ?_, ih ha.2 (look_none.2 fun y hy => h y (by simp [hy]))⟩
      rcases insE_mem.1 hy with rfl | hy
      · omega
      · exact ha.1 y hy

/-! ### Matching -/
mutual
def matT (e : List Bd) : Tm → Tm → Option (List Bd)
  | .mk k n s A c a, t =>
    if k = 2 then (if t.kind = 2 ∧ s = t.name then matL e a t.args else none)
    else if k = 1 then (match look e n with
      | some u => if cmpT u t = 0 then some e else none
      | none => some (insE ⟨n, t⟩ e))
    else if cmpT (.mk k n s A c a) t = 0 then some e else none
def matL (e : List Bd) : List Tm → List Tm → Option (List Bd)
  | [], [] => some e
  | [], _ :: _ => none
  | _ :: _, [] => none
  | p :: ps, t :: ts => (match matT e p t with
    | some e' => matL e' ps ts
    | none => none)
end
theorem matL_len {e e' : List Bd} {ps ts : List Tm} (h : matL e ps ts = some e') : ps.length = ts.length := by
  induction ps generalizing e ts with
  | nil =>
    cases ts with
    | nil => rfl
    | cons t r => simp [matL] at h
  | cons p ps ih =>
    cases ts with
    | nil => simp [matL] at h
    | cons t r =>
      simp only [matL] at h
      split at h
      · simp [ih h]
      · cases h
/-- One argument more. -/
theorem matL_next {e : List Bd} {ps ts : List Tm} {p t : Tm} (hl : ps.length = ts.length) : matL e (ps ++ [p]) (ts ++ [t]) = (matL e ps ts).bind fun e' => matT e' p t := by
  induction ps generalizing e ts with
  | nil =>
    cases ts with
    | nil =>
      simp only [List.nil_append, matL]
      show _ = matT e p t
      cases matT e p t <;> rfl
    | cons _ _ => simp at hl
  | cons q r ih =>
    cases ts with
    | nil => simp at hl
    | cons u m =>
      simp only [List.cons_append, matL]
      cases matT e q u with
      | none => rfl
      | some e' => exact ih (by simpa using hl)
theorem matL_ne {e : List Bd} {ps ts : List Tm} (hl : ps.length ≠ ts.length) : matL e ps ts = none := by
  cases h : matL e ps ts with
  | none => rfl
  | some e' => exact absurd (matL_len h) hl
/-- What matching does to an environment. -/
structure Ext8 (e e' : List Bd) (vs : List Int) : Prop where
  keep : ∀ v u, look e v = some u → look e' v = some u
  new : ∀ v u, look e' v = some u → look e v = some u ∨ v ∈ vs
  all : ∀ v ∈ vs, ∃ u, look e' v = some u
  asc : Asc e → Asc e'
theorem Ext8.refl (e : List Bd) : Ext8 e e [] := ⟨fun _ _ h => h, fun _ _ h => .inl h, fun v hv => (by cases hv), fun h => h⟩
theorem mat_ext : (∀ p : Tm, ∀ e t e', matT e p t = some e' → Ext8 e e' p.occ) ∧ (∀ ps : List Tm, ∀ e ts e', matL e ps ts = some e' → Ext8 e e' (occL ps)) := by
  refine Tm.induct2 (fun k n s A c a ih e t e' h => ?_) (fun e ts e' h => ?_) (fun p ps h1 h2 e ts e' h => ?_)
  · simp only [matT] at h
    by_cases h2 : k = 2
    · rw [if_pos h2] at h
      split at h
      · have := ih e _ e' h
        simpa [Tm.occ, h2] using this
      · cases h
    · rw [if_neg h2] at h
      by_cases h1 : k = 1
      · rw [if_pos h1] at h
        have ho : (Tm.mk k n s A c a).occ = [n] := by simp [Tm.occ, h1]
        rw [ho]
        cases hl : look e n with
        | some u =>
          rw [hl] at h
          simp only at h
          split at h
          · injection h with h
            subst h
            exact ⟨fun _ _ h => h, fun _ _ h => .inl h, fun v hv => by rw [List.mem_singleton.1 hv]; exact ⟨u, hl⟩, fun h => h⟩
          · cases h
        | none =>
          rw [hl] at h
          simp only at h
          injection h with h
          subst h
          have hli := look_insE (b := ⟨n, t⟩) hl
          refine ⟨fun v u hv => ?_, fun v u hv => ?_, fun v hv => ?_, fun ha => insE_asc ha hl⟩
          · rw [hli]
            by_cases e : n = v
            · rw [← e, hl] at hv; cases hv
            · rw [if_neg e]; exact hv
          · rw [hli] at hv
            by_cases e : n = v
            · exact .inr (by simp [e])
            · rw [if_neg e] at hv; exact .inl hv
          · rw [List.mem_singleton.1 hv, hli]
            exact ⟨t, if_pos rfl⟩
      · rw [if_neg h1] at h
        split at h
        · injection h with h
          subst h
          have ho : (Tm.mk k n s A c a).occ = [] := by simp [Tm.occ, h1, h2]
          rw [ho]
          exact Ext8.refl e
        · cases h
  · cases ts with
    | nil =>
      simp only [matL, Option.some.injEq] at h
      subst h
      exact Ext8.refl e
    | cons _ _ => simp [matL] at h
  · cases ts with
    | nil => simp [matL] at h
    | cons t r =>
      simp only [matL] at h
      split at h
      · rename_i e1 he1
        have k1 := h1 e t e1 he1
        have k2 := h2 e1 r e' h
        simp only [occL]
        refine ⟨fun v u hv => k2.keep v u (k1.keep v u hv), fun v u hv => ?_, fun v hv => ?_, fun ha => k2.asc (k1.asc ha)⟩
        · rcases k2.new v u hv with h | h
          · rcases k1.new v u h with h | h
            · exact .inl h
            · exact .inr (by simp [h])
          · exact .inr (by simp [h])
        · rcases List.mem_append.1 hv with hv | hv
          · obtain ⟨u, hu⟩ := k1.all v hv
            exact ⟨u, k2.keep v u hu⟩
          · exact k2.all v hv
      · cases h
/-- Matched again in an environment that has what the first match found. -/
theorem mat_again : (∀ p : Tm, ∀ e t e' e'', matT e p t = some e' → (∀ v u, look e' v = some u → look e'' v = some u) → matT e'' p t = some e'') ∧
    (∀ ps : List Tm, ∀ e ts e' e'', matL e ps ts = some e' → (∀ v u, look e' v = some u → look e'' v = some u) → matL e'' ps ts = some e'') := by
  refine Tm.induct2 (fun k n s A c a ih e t e' e'' h hk => ?_) (fun e ts e' e'' h hk => ?_) (fun p ps h1 h2 e ts e' e'' h hk => ?_)
  · simp only [matT] at h ⊢
    by_cases h2 : k = 2
    · rw [if_pos h2] at h ⊢
      split at h
      · rename_i hc
        rw [if_pos hc]
        exact ih e _ e' e'' h hk
      · cases h
    · rw [if_neg h2] at h ⊢
      by_cases h1 : k = 1
      · rw [if_pos h1] at h ⊢
        cases hl : look e n with
        | some u =>
          rw [hl] at h
          simp only at h
          split at h
          · rename_i hc
            injection h with h
            subst h
            rw [hk n u hl]
            simp only
            rw [if_pos hc]
          · cases h
        | none =>
          rw [hl] at h
          simp only at h
          injection h with h
          subst h
          have := look_insE (b := ⟨n, t⟩) hl n
          rw [if_pos rfl] at this
          rw [hk n t this]
          simp only
          rw [if_pos (cmp_self.1 t)]
      · rw [if_neg h1] at h ⊢
        split at h
        · rename_i hc
          rw [if_pos hc]
        · cases h
  · cases ts with
    | nil => rfl
    | cons _ _ => simp [matL] at h
  · cases ts with
    | nil => simp [matL] at h
    | cons t r =>
      simp only [matL] at h ⊢
      split at h
      · rename_i e1 he1
        have k2 := mat_ext.2 ps e1 r e' h
        rw [h1 e t e1 e'' he1 (fun v u hv => hk v u (k2.keep v u hv))]
        exact h2 e1 r e' e'' h hk
      · cases h
end Go.Proofs.Ytpnjjahimhhjkaa
namespace Go.Proofs.Ytpnjjahimhhjkaa
open Go

theorem texts_eq : ∀ {a b : List UInt8}, texts a b = 0 → a = b := by
  intro a
  induction a with
  | nil =>
    intro b h
    cases b with
    | nil => rfl
    | cons y q => simp [texts, Op.bytesLess] at h
  | cons x r ih =>
    intro b h
    cases b with
    | nil => simp [texts, Op.bytesLess] at h
    | cons y q =>
      rw [texts_cons] at h
      obtain ⟨h1, h2⟩ := lexz_iff.1 h
      have := ints_zero.1 h1
      rw [ih h2, UInt8.toNat_inj.1 (show x.toNat = y.toNat by omega)]
/-- A variable that has no entry. -/
def shiftV (f v : Int) : Int := if -9223372036854775808 ≤ f + v ∧ f + v ≤ 9223372036854775807 then f + v else v
mutual
def Tm.inst (e : List Bd) (f : Int) : Tm → Tm
  | .mk k n s A c a =>
    if k = 2 then .mk 2 0 s none 0 (instL e f a)
    else if k = 1 then (look e n).getD (.mk 1 (shiftV f n) ByteArray.empty none 0 [])
    else if k = 0 then .mk 0 n ByteArray.empty none 0 []
    else .mk k n s A c a
def instL (e : List Bd) (f : Int) : List Tm → List Tm
  | [] => []
  | t :: r => t.inst e f :: instL e f r
end
theorem instL_map (e : List Bd) (f : Int) (l : List Tm) : instL e f l = l.map (Tm.inst e f) := by
  induction l with
  | nil => rfl
  | cons t r ih => simp [instL, ih]
theorem instL_len (e : List Bd) (f : Int) (l : List Tm) : (instL e f l).length = l.length := by rw [instL_map, List.length_map]
theorem cmp_ints (n : Int) (s s' : ByteArray) (A A' : Option Addr) (c c' : Nat) (a a' : List Tm) : cmpT (.mk 0 n s A c a) (.mk 0 n s' A' c' a') = 0 := by
  simp [cmpT, Tm.kind, Tm.num, ints_self, lex]
theorem cmp_funs {n n' : Int} {s : ByteArray} {A A' : Option Addr} {c c' : Nat} {a a' : List Tm} (h : cmpL a a' = 0) : cmpT (.mk 2 n s A c a) (.mk 2 n' s A' c' a') = 0 :=
  (cmp_fun _ _ _ _ _ _ _ _ _ _).2 ⟨cmpL_len h, texts_self _, h⟩
/-- The instance of a pattern that was matched is the term. -/
theorem inst_made (f : Int) : (∀ p : Tm, ∀ e t e' e'', matT e p t = some e' → (∀ v u, look e' v = some u → look e'' v = some u) → cmpT (p.inst e'' f) t = 0) ∧
    (∀ ps : List Tm, ∀ e ts e' e'', matL e ps ts = some e' → (∀ v u, look e' v = some u → look e'' v = some u) → cmpL (instL e'' f ps) ts = 0) := by
  refine Tm.induct2 (fun k n s A c a ih e t e' e'' h hk => ?_) (fun e ts e' e'' h hk => ?_) (fun p ps h1 h2 e ts e' e'' h hk => ?_)
  · simp only [matT] at h
    simp only [Tm.inst]
    by_cases h2 : k = 2
    · rw [if_pos h2] at h ⊢
      split at h
      · rename_i hc
        obtain ⟨k', n', s', A', c', a'⟩ := t
        simp only [Tm.kind, Tm.name, Tm.args] at h hc
        obtain ⟨rfl, rfl⟩ := hc
        exact cmp_funs (ih e _ e' e'' h hk)
      · cases h
    · rw [if_neg h2] at h ⊢
      by_cases h1 : k = 1
      · rw [if_pos h1] at h ⊢
        cases hl : look e n with
        | some u =>
          rw [hl] at h
          simp only at h
          split at h
          · rename_i hc
            injection h with h
            subst h
            rw [hk n u hl]
            exact hc
          · cases h
        | none =>
          rw [hl] at h
          simp only at h
          injection h with h
          subst h
          have := look_insE (b := ⟨n, t⟩) hl n
          rw [if_pos rfl] at this
          rw [hk n t this]
          exact cmp_self.1 t
      · rw [if_neg h1] at h ⊢
        split at h
        · rename_i hc
          split
          · rename_i h0
            subst h0
            exact cmp_trans (cmp_ints n _ s _ A _ c _ a) hc
          · exact hc
        · cases h
  · cases ts with
    | nil => rfl
    | cons _ _ => simp [matL] at h
  · cases ts with
    | nil => simp [matL] at h
    | cons t r =>
      simp only [matL] at h
      split at h
      · rename_i e1 he1
        have k2 := mat_ext.2 ps e1 r e' h
        simp only [instL, cmpL, lexz_iff]
        exact ⟨h1 e t e1 e'' he1 (fun v u hv => hk v u (k2.keep v u hv)), h2 e1 r e' e'' h hk⟩
      · cases h
theorem inst_fun (e : List Bd) (f n : Int) (s : ByteArray) (A : Option Addr) (c : Nat) (a : List Tm) : (Tm.mk 2 n s A c a).inst e f = .mk 2 0 s none 0 (instL e f a) := by simp [Tm.inst]
theorem inst_var (e : List Bd) (f n : Int) (s : ByteArray) (A : Option Addr) (c : Nat) (a : List Tm) : (Tm.mk 1 n s A c a).inst e f = (look e n).getD (.mk 1 (shiftV f n) ByteArray.empty none 0 []) := by simp [Tm.inst]
theorem inst_int (e : List Bd) (f n : Int) (s : ByteArray) (A : Option Addr) (c : Nat) (a : List Tm) : (Tm.mk 0 n s A c a).inst e f = .mk 0 n ByteArray.empty none 0 [] := by simp [Tm.inst]
theorem inst_else (e : List Bd) (f : Int) {k : Int} (n : Int) (s : ByteArray) (A : Option Addr) (c : Nat) (a : List Tm) (h2 : k ≠ 2) (h1 : k ≠ 1) (h0 : k ≠ 0) : (Tm.mk k n s A c a).inst e f = .mk k n s A c a := by simp [Tm.inst, h2, h1, h0]
theorem mat_fun (e : List Bd) (n n' : Int) (s s' : ByteArray) (A A' : Option Addr) (c c' : Nat) (a a' : List Tm) : matT e (.mk 2 n s A c a) (.mk 2 n' s' A' c' a') = if s = s' then matL e a a' else none := by simp [matT, Tm.kind, Tm.name, Tm.args]
theorem mat_var (e : List Bd) (n : Int) (s : ByteArray) (A : Option Addr) (c : Nat) (a : List Tm) (t : Tm) : matT e (.mk 1 n s A c a) t = (match look e n with
      | some u => if cmpT u t = 0 then some e else none
      | none => some (insE ⟨n, t⟩ e)) := by
  simp only [matT]
  try rw [if_neg (by decide), if_pos trivial]
  try (cases look e n <;> rfl)
theorem mat_else (e : List Bd) {k : Int} (n : Int) (s : ByteArray) (A : Option Addr) (c : Nat) (a : List Tm) (t : Tm) (h2 : k ≠ 2) (h1 : k ≠ 1) : matT e (.mk k n s A c a) t = if cmpT (.mk k n s A c a) t = 0 then some e else none := by simp [matT, h2, h1]
/-- A pattern all of whose variables have entries matches its own instance. -/
theorem mat_inst (f : Int) (env : List Bd) : (∀ p : Tm, ∀ e, (∀ v ∈ p.occ, ∃ u, look env v = some u) → (∀ v u, look e v = some u → look env v = some u) → ∃ e', matT e p (p.inst env f) = some e' ∧ ∀ v u, look e' v = some u → look env v = some u) ∧
    (∀ ps : List Tm, ∀ e, (∀ v ∈ occL ps, ∃ u, look env v = some u) → (∀ v u, look e v = some u → look env v = some u) → ∃ e', matL e ps (instL env f ps) = some e' ∧ ∀ v u, look e' v = some u → look env v = some u) := by
  refine Tm.induct2 (fun k n s A c a ih e ho hk => ?_) (fun e _ hk => ⟨e, rfl, hk⟩) (fun p ps h1 h2 e ho hk => ?_)
  · by_cases h2 : k = 2
    · subst h2
      rw [inst_fun, mat_fun, if_pos rfl]
      exact ih e (by simpa [Tm.occ] using ho) hk
    · by_cases h1 : k = 1
      · subst h1
        rw [inst_var, mat_var]
        obtain ⟨u, hu⟩ := ho n (by simp [Tm.occ])
        rw [hu]
        simp only [Option.getD_some]
        cases hl : look e n with
        | some u' =>
          have := hk n u' hl
          rw [hu] at this
          injection this with this
          subst this
          simp only
          rw [if_pos (cmp_self.1 u)]
          exact ⟨e, rfl, hk⟩
        | none =>
          simp only
          refine ⟨_, rfl, fun v x hx => ?_⟩
          rw [look_insE (b := ⟨n, u⟩) hl] at hx
          by_cases e' : n = v
          · rw [if_pos e'] at hx
            injection hx with hx
            rw [← e', ← hx, hu]
          · rw [if_neg e'] at hx
            exact hk v x hx
      · by_cases h0 : k = 0
        · subst h0
          rw [inst_int, mat_else _ _ _ _ _ _ _ (by decide) (by decide), if_pos (cmp_ints n s _ A _ c _ a _)]
          exact ⟨e, rfl, hk⟩
        · rw [inst_else _ _ _ _ _ _ _ h2 h1 h0, mat_else _ _ _ _ _ _ _ h2 h1, if_pos (cmp_self.1 _)]
          exact ⟨e, rfl, hk⟩
  · simp only [occL] at ho
    obtain ⟨e1, m1, m2⟩ := h1 e (fun v hv => ho v (by simp [hv])) hk
    obtain ⟨e2, m3, m4⟩ := h2 e1 (fun v hv => ho v (by simp [hv])) m2
    refine ⟨e2, ?_, m4⟩
    simp only [matL, instL, m1]
    exact m3
/-- Two results of matching. -/
def sameM : Option (List Bd) → Option (List Bd) → Prop
  | none, none => True
  | some a, some b => sameE a b
  | _, _ => False
theorem sameM_refl (o : Option (List Bd)) : sameM o o := by cases o with | none => exact trivial | some a => exact sameE_refl a
theorem cmp_zero_iff {t u t' u' : Tm} (h1 : cmpT t t' = 0) (h2 : cmpT u u' = 0) : cmpT t u = 0 ↔ cmpT t' u' = 0 :=
  ⟨fun h => cmp_trans (cmp_trans (cmp_symm h1) h) h2, fun h => cmp_trans (cmp_trans h1 h) (cmp_symm h2)⟩
/-- Matching does not see more than identity does. -/
theorem mat_same : (∀ p : Tm, ∀ e e' t t', sameE e e' → cmpT t t' = 0 → sameM (matT e p t) (matT e' p t')) ∧
    (∀ ps : List Tm, ∀ e e' ts ts', sameE e e' → cmpL ts ts' = 0 → sameM (matL e ps ts) (matL e' ps ts')) := by
  refine Tm.induct2 (fun k n s A c a ih e e' t t' he ht => ?_) (fun e e' ts ts' he ht => ?_) (fun p ps h1 h2 e e' ts ts' he ht => ?_)
  · simp only [matT]
    by_cases h2 : k = 2
    · rw [if_pos h2, if_pos h2]
      have hk := cmp_kind ht
      by_cases hc : t.kind = 2
      · have hc' : t'.kind = 2 := cls_two.1 (by rw [← hk, hc]; rfl)
        obtain ⟨k1, n1, s1, A1, c1, a1⟩ := t
        obtain ⟨k3, n3, s3, A3, c3, a3⟩ := t'
        simp only [Tm.kind] at hc hc'
        subst hc hc'
        rw [cmp_fun] at ht
        have hs : s1 = s3 := by
          have := texts_eq ht.2.1
          cases s1; cases s3; simp at this; rw [this]
        subst hs
        simp only [Tm.kind, Tm.name, Tm.args, true_and]
        split
        · exact ih e e' _ _ he ht.2.2
        · exact trivial
      · have hc' : ¬ t'.kind = 2 := fun h => hc (cls_two.1 (by rw [hk, h]; rfl))
        rw [if_neg (fun h => hc h.1), if_neg (fun h => hc' h.1)]
        exact trivial
    · rw [if_neg h2, if_neg h2]
      by_cases h1 : k = 1
      · rw [if_pos h1, if_pos h1]
        have hl := look_same he n
        cases h3 : look e n with
        | none =>
          rw [h3] at hl
          cases h4 : look e' n with
          | none => exact insE_same (x := ⟨n, t⟩) (y := ⟨n, t'⟩) rfl ht he
          | some _ => rw [h4] at hl; exact hl.elim
        | some u =>
          rw [h3] at hl
          cases h4 : look e' n with
          | none => rw [h4] at hl; exact hl.elim
          | some u' =>
            rw [h4] at hl
            simp only
            by_cases hc : cmpT u t = 0
            · rw [if_pos hc, if_pos ((cmp_zero_iff hl ht).1 hc)]
              exact he
            · rw [if_neg hc, if_neg (fun h => hc ((cmp_zero_iff hl ht).2 h))]
              exact trivial
      · rw [if_neg h1, if_neg h1]
        by_cases hc : cmpT (.mk k n s A c a) t = 0
        · rw [if_pos hc, if_pos (cmp_trans hc ht)]
          exact he
        · rw [if_neg hc, if_neg (fun h => hc (cmp_trans h (cmp_symm ht)))]
          exact trivial
  · cases ts with
    | nil =>
      cases ts' with
      | nil => exact he
      | cons _ _ => simp [cmpL] at ht
    | cons _ _ =>
      cases ts' with
      | nil => simp [cmpL] at ht
      | cons _ _ => exact trivial
  · cases ts with
    | nil =>
      cases ts' with
      | nil => exact trivial
      | cons _ _ => simp [cmpL] at ht
    | cons t r =>
      cases ts' with
      | nil => simp [cmpL] at ht
      | cons t' r' =>
        simp only [cmpL, lexz_iff] at ht
        have k1 := h1 e e' t t' he ht.1
        simp only [matL]
        cases h3 : matT e p t with
        | none =>
          rw [h3] at k1
          cases h4 : matT e' p t' with
          | none => exact trivial
          | some _ => rw [h4] at k1; exact k1.elim
        | some e1 =>
          rw [h3] at k1
          cases h4 : matT e' p t' with
          | none => rw [h4] at k1; exact k1.elim
          | some e2 =>
            rw [h4] at k1
            exact h2 e1 e2 r r' k1 ht.2
/-- A pattern without variables. -/
theorem mat_ground : (∀ p : Tm, p.occ = [] → ∀ e t, matT e p t = if cmpT p t = 0 then some e else none) ∧
    (∀ ps : List Tm, occL ps = [] → ∀ e ts, matL e ps ts = if cmpL ps ts = 0 then some e else none) := by
  refine Tm.induct2 (fun k n s A c a ih ho e t => ?_) (fun _ e ts => ?_) (fun p ps h1 h2 ho e ts => ?_)
  · simp only [matT]
    by_cases h2 : k = 2
    · subst h2
      rw [if_pos rfl]
      have ho' : occL a = [] := by simpa [Tm.occ] using ho
      by_cases hc : t.kind = 2
      · obtain ⟨k1, n1, s1, A1, c1, a1⟩ := t
        simp only [Tm.kind] at hc
        subst hc
        simp only [Tm.kind, Tm.name, Tm.args, true_and]
        rw [ih ho']
        by_cases hs : s = s1
        · subst hs
          rw [if_pos rfl]
          by_cases hl : cmpL a a1 = 0
          · rw [if_pos hl, if_pos (cmp_funs hl)]
          · rw [if_neg hl, if_neg (fun h => hl ((cmp_fun _ _ _ _ _ _ _ _ _ _).1 h).2.2)]
        · rw [if_neg hs, if_neg (fun h => hs (by
            have := texts_eq ((cmp_fun _ _ _ _ _ _ _ _ _ _).1 h).2.1
            cases s; cases s1; simp at this; rw [this]))]
      · rw [if_neg (fun h => hc h.1), if_neg (fun h => hc (cls_two.1 (by rw [← cmp_kind h]; rfl)))]
    · rw [if_neg h2]
      by_cases h1 : k = 1
      · simp [Tm.occ, h1] at ho
      · rw [if_neg h1]
  · cases ts with
    | nil => rfl
    | cons _ _ => rfl
  · simp only [occL, List.append_eq_nil_iff] at ho
    cases ts with
    | nil => rfl
    | cons t r =>
      have hcl : cmpL (p :: ps) (t :: r) = 0 ↔ cmpT p t = 0 ∧ cmpL ps r = 0 := by simp only [cmpL, lexz_iff]
      simp only [matL]
      rw [h1 ho.1]
      by_cases hc : cmpT p t = 0
      · rw [if_pos hc]
        simp only
        rw [h2 ho.2]
        by_cases hl : cmpL ps r = 0
        · rw [if_pos hl, if_pos (hcl.2 ⟨hc, hl⟩)]
        · rw [if_neg hl, if_neg (fun h => hl (hcl.1 h).2)]
      · rw [if_neg hc, if_neg (fun h => hc (hcl.1 h).1)]
end Go.Proofs.Ytpnjjahimhhjkaa
