/-
  NmPlain.
  TkPlain.
  TkJoin.
  TkGap.
  TkRest.
  TmPlain.
  TmMem.
  TmBelow.
  TkMem.
-/
import Derived.Lib.ItoaNum
import Derived.Lib.AtoiAllCases
import Derived.Lib.Strings
import Derived.WalkKit
import Derived.Below
import Derived.Lib.Hide
import Derived.Deep.Draws
import Derived.Deep.Slices
import Derived.ProofKit
import Derived.OpenShut
import Derived.BigQuiet
import Derived.Lib.QuietBelow
import Derived.Test.YtnghanpmmbcbbaaGreatDoorProg
import Derived.Deep.AppendLies
namespace Go.Proofs.YtnghanpmmbcbbaaGreatDoor
open Go
def lowB (c : UInt8) : Bool := decide (97 ≤ c.toNat ∧ c.toNat ≤ 122)
def uppB (c : UInt8) : Bool := decide (65 ≤ c.toNat ∧ c.toNat ≤ 90)
def digB (c : UInt8) : Bool := decide (48 ≤ c.toNat ∧ c.toNat ≤ 57)
def undB (c : UInt8) : Bool := decide (c.toNat = 95)
def inB (c : UInt8) : Bool := lowB c || uppB c || digB c || undB c
def wordB (l : List UInt8) : Bool := decide (1 ≤ l.length) && (decide (l.length ≤ 40) && l.all inB)
def reserved : List (List UInt8) := [[99, 111, 110, 115, 116, 114, 97, 105, 110, 116], [116, 114, 117, 101], [102, 97, 105, 108], [105, 115], [105, 110, 116], [103, 114, 111, 117, 110, 100]]
def operators : List (List UInt8) := [[43], [45], [42], [47], [37]]
def resB (l : List UInt8) : Bool := decide (l ∈ reserved)
def opB (l : List UInt8) : Bool := decide (l ∈ operators)
def rightB (l : List UInt8) : Bool := wordB l && (lowB (l.getD 0 0) && !resB l)
def varB (l : List UInt8) : Bool := wordB l && (uppB (l.getD 0 0) || undB (l.getD 0 0))
theorem wordB_iff (l : List UInt8) : wordB l = true ↔ 1 ≤ l.length ∧ l.length ≤ 40 ∧ ∀ c ∈ l, inB c = true := by
  simp [wordB]
theorem op_word {l : List UInt8} (h : opB l = true) : wordB l = false ∧ resB l = false := by
  simp only [opB, operators, List.mem_cons, List.not_mem_nil, or_false, decide_eq_true_eq] at h
  rcases h with rfl | rfl | rfl | rfl | rfl <;> decide
theorem op_right {l : List UInt8} (h : opB l = true) : rightB l = false ∧ varB l = false ∧ resB l = false := by
  obtain ⟨h1, h2⟩ := op_word h
  simp [rightB, varB, h1, h2]
theorem dec_small {n : Nat} (h : n < 10) : Lib.decDigits n = [UInt8.ofNat (48 + n)] := by rw [Lib.decDigits, dif_pos h]
theorem dec_big {n : Nat} (h : ¬ n < 10) : Lib.decDigits n = Lib.decDigits (n / 10) ++ [UInt8.ofNat (48 + n % 10)] := by rw [Lib.decDigits, dif_neg h]
theorem digit_nat {d : Nat} (h : d < 10) : (UInt8.ofNat (48 + d)).toNat = 48 + d := by
  simp only [UInt8.toNat_ofNat']; omega
theorem dec_len (n : Nat) : 1 ≤ (Lib.decDigits n).length := by rw [Lib.decDigits_length]; exact Lib.nDigits_pos n
theorem dec_len7 {n : Nat} (h : n ≤ 1048576) : (Lib.decDigits n).length ≤ 7 := by
  rw [Lib.decDigits_length]
  suffices H : ∀ k m : Nat, m < 10 ^ (k + 1) → Lib.nDigits m ≤ k + 1 from H 6 n (by omega)
  intro k
  induction k with
  | zero => intro m hm; rw [Lib.nDigits_small (by simpa using hm)]; omega
  | succ k ih =>
    intro m hm
    by_cases h : m < 10
    · rw [Lib.nDigits_small h]; omega
    · rw [Lib.nDigits_big h]
      have := ih (m / 10) (by rw [Nat.pow_succ] at hm; omega)
      omega
def spell (l : List UInt8) : Nat := l.foldl (fun a c => 10 * a + (c.toNat - 48)) 0
def label (n : Nat) : List UInt8 := 86 :: Lib.decDigits n
theorem label_len {n : Nat} (h : n ≤ 1048576) : 2 ≤ (label n).length ∧ (label n).length ≤ 8 := by
  have h1 := dec_len n
  have h2 := dec_len7 h
  simp only [label, List.length_cons]
  omega
def IsLabel (l : List UInt8) (n : Nat) : Prop := n ≤ 1048576 ∧ l = label n
def NoLabel (l : List UInt8) : Prop := ∀ n, n ≤ 1048576 → l ≠ label n
end Go.Proofs.YtnghanpmmbcbbaaGreatDoor
namespace Go.Proofs.YtnghanpmmbcbbaaGreatDoor
open Go
def spcB (c : UInt8) : Bool := c == 32 || c == 9 || c == 10 || c == 13
def gap : Bool → List UInt8 → List UInt8
  | _, [] => []
  | false, c :: r => if spcB c = true then gap false r else if c = 35 then gap true r else c :: r
  | true, c :: r => if c = 10 then gap false r else gap true r
def syms : List (List UInt8) := [[64], [44], [46], [40], [41], [124], [47], [92], [43], [45], [42], [37], [61], [61, 61], [92, 61], [60], [61, 60], [62], [62, 61], [61, 58, 61], [61, 92, 61], [60, 61, 62], [61, 61, 62]]
def symStep (l b x : List UInt8) : List UInt8 := if (x.isPrefixOf l && decide (b.length < x.length)) = true then x else b
def symP (l : List UInt8) : List UInt8 := syms.foldl (symStep l) []
def valD (l : List UInt8) : Int := l.foldl (fun n c => min (n * 10 + (c.toNat - 48 : Int)) 2147483649) 0
def tokL (l : List UInt8) : Int × List UInt8 × Int :=
  match l with
  | [] => (0, [], 0)
  | c :: _ =>
    if (lowB c || (uppB c || undB c)) = true then
      if 40 < (l.takeWhile inB).length then (0, [], 7) else (if lowB c = true then 1 else 2, l.takeWhile inB, 0)
    else if digB c = true then
      if 2147483648 < valD (l.takeWhile digB) then (0, [], 5) else (3, l.takeWhile digB, 0)
    else if symP l = [] then (0, [], 16) else (4, symP l, 0)
def scanL : Nat → List UInt8 → List (Int × Nat × List UInt8) × Nat × Int
  | 0, _ => ([], 0, 0)
  | n + 1, l =>
    let g := gap false l
    let t := tokL g
    if t.2.2 ≠ 0 then ([], g.length, t.2.2)
    else if t.1 = 0 then ([(0, g.length, [])], 0, 0)
    else
      let s := scanL n (g.drop t.2.1.length)
      if s.2.2 ≠ 0 then s else ((t.1, g.length, t.2.1) :: s.1, 0, 0)
def symByteB (c : UInt8) : Bool := !spcB c && (c != 35 && (!lowB c && (!uppB c && (!undB c && !digB c))))
def SepOk (sep : List UInt8) : Prop := ∃ c q, sep = c :: q ∧ spcB c = true ∧ ∀ s, gap false (q ++ s) = gap false s
def Toks : List (Int × Nat × List UInt8) → Prop
  | [] => True
  | t :: ts => (t.1 ≠ 0 → ∃ l, tokL l = (t.1, t.2.2, 0)) ∧ (t.1 = 0 → t.2.2 = []) ∧ Toks ts
end Go.Proofs.YtnghanpmmbcbbaaGreatDoor
namespace Go.Proofs.YtnghanpmmbcbbaaGreatDoor
open Go
def joinT (sep : List UInt8) (ts : List (Int × Nat × List UInt8)) : List UInt8 := ts.flatMap fun t => t.2.2 ++ sep
def words (ts : List (Int × Nat × List UInt8)) : List (Int × List UInt8) := ts.map fun t => (t.1, t.2.2)
end Go.Proofs.YtnghanpmmbcbbaaGreatDoor
namespace Go.Proofs.YtnghanpmmbcbbaaGreatDoor
open Go
end Go.Proofs.YtnghanpmmbcbbaaGreatDoor
namespace Go.Proofs.YtnghanpmmbcbbaaGreatDoor
open Go
abbrev S (l : List UInt8) : ByteArray := ⟨l.toArray⟩
def rest (s : ByteArray) (p : Nat) : List UInt8 := s.data.toList.drop p
def skipP (s : ByteArray) (p : Nat) : Nat := s.size - (gap false (rest s p)).length
abbrev Tk := Int × Nat × List UInt8
def tokAt (s : ByteArray) (p : Nat) : Tk × Nat × Int :=
  if (tokL (gap false (rest s p))).2.2 ≠ 0 then ((0, 0, []), skipP s p, (tokL (gap false (rest s p))).2.2)
  else (((tokL (gap false (rest s p))).1, skipP s p, (tokL (gap false (rest s p))).2.1), skipP s p + (tokL (gap false (rest s p))).2.1.length, 0)
def nextP (s : ByteArray) (a : Int) : Tk × Nat × Int :=
  if a < 0 ∨ (s.size : Int) < a then ((0, 0, []), 0, 2) else if 16384 < s.size then ((0, 0, []), 0, 6) else tokAt s a.toNat
def tokC (t : Tk) : List Value := [.int .i64 t.1, .int .i64 (t.2.1 : Int), .string (S t.2.2)]
abbrev tokV (t : Tk) : Value := .agg #[.int .i64 t.1, .int .i64 (t.2.1 : Int), .string (S t.2.2)]
abbrev nextV (x : Tk × Nat × Int) : Value := .tuple #[tokV x.1, .int .i64 (x.2.1 : Int), .int .i64 x.2.2]
def toksAt (s : ByteArray) : Nat → Nat → List Tk × Nat × Int
  | 0, _ => ([], 0, 0)
  | n + 1, p =>
    if (tokAt s p).2.2 ≠ 0 then ([], (tokAt s p).2.1, (tokAt s p).2.2)
    else if (tokAt s p).1.1 = 0 then ([(tokAt s p).1], 0, 0)
    else if (toksAt s n (tokAt s p).2.1).2.2 ≠ 0 then toksAt s n (tokAt s p).2.1
    else ((tokAt s p).1 :: (toksAt s n (tokAt s p).2.1).1, 0, 0)
def scanP (s : ByteArray) : List Tk × Nat × Int := if 16384 < s.size then ([], 0, 6) else toksAt s (s.size + 1) 0
def symAt (s : ByteArray) (a : Int) : List UInt8 := if a < 0 ∨ (s.size : Int) < a then [] else symP (rest s a.toNat)
def wordyB (c : UInt8) : Bool := lowB c || (uppB c || undB c)
def runP (k : UInt8 → Bool) (s : ByteArray) (q : Nat) : Nat := ((rest s q).takeWhile k).length
end Go.Proofs.YtnghanpmmbcbbaaGreatDoor
namespace Go.Proofs.YtnghanpmmbcbbaaGreatDoor
open Go
inductive Tm where
  | mk (kind num : Int) (name : ByteArray) (A : Option Addr) (cap : Nat) (args : List Tm)
namespace Tm
def kind : Tm → Int | mk k _ _ _ _ _ => k
def num : Tm → Int | mk _ n _ _ _ _ => n
def name : Tm → ByteArray | mk _ _ s _ _ _ => s
def at_ : Tm → Option Addr | mk _ _ _ A _ _ => A
def cap : Tm → Nat | mk _ _ _ _ c _ => c
def args : Tm → List Tm | mk _ _ _ _ _ a => a
end Tm
instance : Inhabited Tm := ⟨.mk 0 0 ByteArray.empty none 0 []⟩
theorem Tm.induct {p : Tm → Prop} (h : ∀ k n s A c a, (∀ t ∈ a, p t) → p (.mk k n s A c a)) : ∀ t, p t := fun t =>
  Tm.rec (motive_1 := p) (motive_2 := fun l => ∀ t ∈ l, p t) (fun k n s A c a ih => h k n s A c a ih) (fun _ h => by cases h)
    (fun t r h1 h2 x hx => by
      rcases List.mem_cons.1 hx with rfl | hx
      · exact h1
      · exact h2 x hx) t
theorem Tm.induct2 {p : Tm → Prop} {q : List Tm → Prop} (h : ∀ k n s A c a, q a → p (.mk k n s A c a)) (h0 : q []) (h1 : ∀ t r, p t → q r → q (t :: r)) : (∀ t, p t) ∧ (∀ l, q l) :=
  have hp : ∀ t, p t := fun t => Tm.rec (motive_1 := p) (motive_2 := q) h h0 h1 t
  ⟨hp, fun l => by
    induction l with
    | nil => exact h0
    | cons t r ih => exact h1 t r (hp t) ih⟩
theorem ttake_next {l : List Tm} {k : Nat} (h : k < l.length) : l.take (k + 1) = l.take k ++ [l.getD k default] := by
  rw [List.take_succ_eq_append_getElem h]
  simp [List.getD, List.getElem?_eq_getElem h]
theorem getD_mem {l : List Tm} {k : Nat} (h : k < l.length) : l.getD k default ∈ l := by
  simp only [List.getD, List.getElem?_eq_getElem h, Option.getD_some]
  exact List.getElem_mem h
def Tm.used (t : Tm) : List Tm := if t.kind = 2 then t.args else []
mutual
def Tm.size : Tm → Nat
  | .mk k _ _ _ _ a => if k = 2 then 1 + sizeL a else 1
def sizeL : List Tm → Nat
  | [] => 0
  | t :: r => t.size + sizeL r
end
mutual
def Tm.depth : Tm → Nat
  | .mk k _ _ _ _ a => if k = 2 then depthL a + 1 else 1
def depthL : List Tm → Nat
  | [] => 0
  | t :: r => max t.depth (depthL r)
end
mutual
def Tm.nodes : Tm → Nat
  | .mk _ _ _ _ _ a => 1 + nodesL a
def nodesL : List Tm → Nat
  | [] => 0
  | t :: r => t.nodes + nodesL r
end
mutual
def Tm.occ : Tm → List Int
  | .mk k n _ _ _ a => if k = 1 then [n] else if k = 2 then occL a else []
def occL : List Tm → List Int
  | [] => []
  | t :: r => t.occ ++ occL r
end
theorem size_used (t : Tm) : t.size = 1 + sizeL t.used := by
  cases t with
  | mk k n s A c a => by_cases h : k = 2 <;> simp [Tm.size, Tm.used, Tm.kind, Tm.args, h, sizeL]
theorem depth_used (t : Tm) : t.depth = depthL t.used + 1 := by
  cases t with
  | mk k n s A c a => by_cases h : k = 2 <;> simp [Tm.depth, Tm.used, Tm.kind, Tm.args, h, depthL]
theorem occ_used (t : Tm) : t.occ = (if t.kind = 1 then [t.num] else occL t.used) := by
  cases t with
  | mk k n s A c a =>
    by_cases h1 : k = 1
    · simp [Tm.occ, Tm.kind, Tm.num, h1]
    · by_cases h : k = 2 <;> simp [Tm.occ, Tm.used, Tm.kind, Tm.args, h, h1, occL]
theorem sizeL_append (l m : List Tm) : sizeL (l ++ m) = sizeL l + sizeL m := by
  induction l with
  | nil => simp [sizeL]
  | cons t r ih => simp [sizeL, ih]; omega
theorem depthL_append (l m : List Tm) : depthL (l ++ m) = max (depthL l) (depthL m) := by
  induction l with
  | nil => simp [depthL]
  | cons t r ih => simp only [List.cons_append, depthL, ih]; omega
theorem occL_append (l m : List Tm) : occL (l ++ m) = occL l ++ occL m := by
  induction l with
  | nil => simp [occL]
  | cons t r ih => simp [occL, ih]
theorem sizeL_next {l : List Tm} {k : Nat} (h : k < l.length) : sizeL (l.take (k + 1)) = sizeL (l.take k) + (l.getD k default).size := by
  rw [ttake_next h, sizeL_append]; simp [sizeL]
theorem depthL_next {l : List Tm} {k : Nat} (h : k < l.length) : depthL (l.take (k + 1)) = max (depthL (l.take k)) (l.getD k default).depth := by
  rw [ttake_next h, depthL_append]; simp [depthL]
theorem occL_next {l : List Tm} {k : Nat} (h : k < l.length) : occL (l.take (k + 1)) = occL (l.take k) ++ (l.getD k default).occ := by
  rw [ttake_next h, occL_append]; simp [occL]
theorem size_nodes : (∀ t : Tm, t.size ≤ t.nodes ∧ 1 ≤ t.size) ∧ (∀ l, sizeL l ≤ nodesL l) := by
  refine Tm.induct2 (fun k n s A c a ih => ?_) (Nat.le_refl _) (fun t r h1 h2 => ?_)
  · simp only [Tm.size, Tm.nodes]; split <;> omega
  · simp only [sizeL, nodesL]; omega
theorem depth_size : (∀ t : Tm, t.depth ≤ t.size) ∧ (∀ l, depthL l ≤ sizeL l) := by
  refine Tm.induct2 (fun k n s A c a ih => ?_) (Nat.le_refl _) (fun t r h1 h2 => ?_)
  · simp only [Tm.depth, Tm.size]; split <;> omega
  · simp only [depthL, sizeL]; omega
theorem sizeL_take (l : List Tm) (k : Nat) : sizeL (l.take k) ≤ sizeL l := by
  have := sizeL_append (l.take k) (l.drop k)
  rw [List.take_append_drop] at this
  omega
theorem depthL_take (l : List Tm) (k : Nat) : depthL (l.take k) ≤ depthL l := by
  have := depthL_append (l.take k) (l.drop k)
  rw [List.take_append_drop] at this
  omega
theorem size_mem {t : Tm} {l : List Tm} (h : t ∈ l) : t.size ≤ sizeL l := by
  induction l with
  | nil => cases h
  | cons x r ih =>
    simp only [sizeL]
    rcases List.mem_cons.1 h with rfl | h
    · omega
    · have := ih h; omega
theorem nodes_mem {t : Tm} {l : List Tm} (h : t ∈ l) : t.nodes ≤ nodesL l := by
  induction l with
  | nil => cases h
  | cons x r ih =>
    simp only [nodesL]
    rcases List.mem_cons.1 h with rfl | h
    · omega
    · have := ih h; omega
mutual
def weighT : Tm → Int → Int → Int
  | .mk _ _ _ _ _ a, left, deep => if deep = 0 ∨ left < a.length then -1 else weighL a left deep
def weighL : List Tm → Int → Int → Int
  | [], left, _ => left
  | t :: r, left, deep => if left < 0 then left else weighL r (weighT t (left - 1 - (t.name.size : Int) / 8) (deep - 1)) deep
end
def weigh (l : List Tm) (left deep : Int) : Int := if deep = 0 ∨ left < l.length then -1 else weighL l left deep
theorem weighT_eq (t : Tm) (left deep : Int) : weighT t left deep = weigh t.args left deep := by
  cases t with
  | mk k n s A c a => rfl
theorem weighL_neg (l : List Tm) (left deep : Int) (h : left < 0) : weighL l left deep = left := by
  cases l with
  | nil => rfl
  | cons t r => simp [weighL, h]
theorem weighL_append (l m : List Tm) (left deep : Int) : weighL (l ++ m) left deep = weighL m (weighL l left deep) deep := by
  induction l generalizing left with
  | nil => simp [weighL]
  | cons t r ih =>
    by_cases h : left < 0
    · rw [weighL_neg _ _ _ h, weighL_neg _ _ _ h, weighL_neg _ _ _ h]
    · simp [weighL, h, ih]
theorem weighL_next {l : List Tm} {k : Nat} (h : k < l.length) (left deep : Int) (h0 : 0 ≤ weighL (l.take k) left deep) :
    weighL (l.take (k + 1)) left deep = weigh (l.getD k default).args (weighL (l.take k) left deep - 1 - ((l.getD k default).name.size : Int) / 8) (deep - 1) := by
  rw [ttake_next h, weighL_append, weighL, weighL, if_neg (by omega), weighT_eq]
theorem weighL_stop {l : List Tm} {k : Nat} (left deep : Int) (h0 : weighL (l.take k) left deep < 0) : weighL l left deep = weighL (l.take k) left deep := by
  have := weighL_append (l.take k) (l.drop k) left deep
  rw [List.take_append_drop] at this
  rw [this, weighL_neg _ _ _ h0]
theorem weigh_facts : (∀ (t : Tm) (left deep : Int), (0 ≤ weighT t left deep → weighT t left deep + nodesL t.args ≤ left) ∧ (weighT t left deep = -1 ∨ weighT t left deep ≤ left) ∧ (left < 0 → weighT t left deep = -1)) ∧
    (∀ (l : List Tm) (left deep : Int), (0 ≤ weighL l left deep → weighL l left deep + nodesL l ≤ left) ∧ (weighL l left deep = -1 ∨ weighL l left deep ≤ left)) := by
  refine Tm.induct2 (fun k n s A c a ih => ?_) ?_ (fun t r h1 h2 => ?_)
  · intro left deep
    simp only [weighT, Tm.args]
    split
    · exact ⟨fun h => by omega, .inl rfl, fun _ => rfl⟩
    · refine ⟨(ih left deep).1, (ih left deep).2, fun h => by omega⟩
  · intro left deep
    simp [weighL, nodesL]
  · intro left deep
    simp only [weighL, nodesL]
    by_cases h : left < 0
    · rw [if_pos h]; exact ⟨fun h' => by omega, .inr (Int.le_refl _)⟩
    · rw [if_neg h]
      have hn : t.nodes = 1 + nodesL t.args := by cases t; simp [Tm.nodes, Tm.args]
      have a1 := h1 (left - 1 - (t.name.size : Int) / 8) (deep - 1)
      have a2 := h2 (weighT t (left - 1 - (t.name.size : Int) / 8) (deep - 1)) deep
      generalize weighT t (left - 1 - (t.name.size : Int) / 8) (deep - 1) = x at *
      generalize weighL r x deep = y at *
      have h8 : 0 ≤ (t.name.size : Int) / 8 := by omega
      omega
theorem weigh_lo : (∀ (t : Tm) (left deep : Int), -1 ≤ weighT t left deep) ∧ (∀ (l : List Tm) (left deep : Int), -1 ≤ left → -1 ≤ weighL l left deep) := by
  refine Tm.induct2 (fun k n s A c a ih => ?_) ?_ (fun t r h1 h2 => ?_)
  · intro left deep
    simp only [weighT]
    split
    · omega
    · exact ih _ _ (by omega)
  · intro left deep h
    simpa [weighL] using h
  · intro left deep h
    simp only [weighL]
    split
    · exact h
    · exact h2 _ _ (h1 _ _)
theorem weighL_hi (l : List Tm) (left deep : Int) (h : -1 ≤ left) : weighL l left deep ≤ left := by
  rcases (weigh_facts.2 l left deep).2 with h' | h' <;> omega
theorem weigh_nodes {l : List Tm} {left deep : Int} (h : 0 ≤ weigh l left deep) : (nodesL l : Int) ≤ left := by
  unfold weigh at h
  split at h
  · omega
  · have := (weigh_facts.2 l left deep).1 h
    omega
mutual
def Tm.form : Tm → Bool
  | .mk k n s _ _ a =>
    if k = 0 then decide (-2147483648 ≤ n) && (decide (n ≤ 2147483648) && (decide (s.size = 0) && decide (a.length = 0)))
    else if k = 1 then decide (0 ≤ n) && (decide (n ≤ 1048576) && (decide (s.size = 0) && decide (a.length = 0)))
    else if k = 2 then decide (n = 0) && (((opB s.data.toList && decide (a.length = 2)) || (rightB s.data.toList && decide (a.length ≤ 6))) && formL a)
    else false
def formL : List Tm → Bool
  | [] => true
  | t :: r => t.form && formL r
end
def Tm.right (t : Tm) : Bool := t.form && (decide (t.size ≤ 200) && decide (t.depth ≤ 20))
theorem formL_append (l m : List Tm) : formL (l ++ m) = (formL l && formL m) := by
  induction l with
  | nil => simp [formL]
  | cons t r ih => simp [formL, ih, Bool.and_assoc]
theorem formL_next {l : List Tm} {k : Nat} (h : k < l.length) : formL (l.take (k + 1)) = (formL (l.take k) && (l.getD k default).form) := by
  rw [ttake_next h, formL_append]; simp [formL]
theorem formL_false {l : List Tm} {k : Nat} (h : formL (l.take k) = false) : formL l = false := by
  have := formL_append (l.take k) (l.drop k)
  rw [List.take_append_drop] at this
  rw [this, h]; rfl
theorem formL_mem {l : List Tm} {t : Tm} (h : t ∈ l) (hf : formL l = true) : t.form = true := by
  induction l with
  | nil => cases h
  | cons x r ih =>
    simp only [formL, Bool.and_eq_true] at hf
    rcases List.mem_cons.1 h with rfl | h
    · exact hf.1
    · exact ih h hf.2
def funcB (s : List UInt8) (n : Nat) : Bool := if opB s then decide (n = 2) else decide (n ≤ 6) && rightB s
theorem funcB_eq (s : List UInt8) (n : Nat) : funcB s n = ((opB s && decide (n = 2)) || (rightB s && decide (n ≤ 6))) := by
  unfold funcB
  cases h : opB s
  · simp [Bool.and_comm]
  · simp [(op_right h).1]
def plainB (t : Tm) : Bool := decide (t.name.size = 0) && decide (t.args.length = 0)
mutual
def Tm.fit : Tm → Int → Int → Int × Bool
  | .mk k n s A c a, nodes, depth =>
    if nodes = 0 ∨ depth = 0 then (0, false)
    else if k = 0 then (nodes - 1, plainB (.mk k n s A c a) && (decide (-2147483648 ≤ n) && decide (n ≤ 2147483648)))
    else if k = 1 then (nodes - 1, plainB (.mk k n s A c a) && (decide (0 ≤ n) && decide (n ≤ 1048576)))
    else if k = 2 then (if n ≠ 0 ∨ funcB s.data.toList a.length = false then (0, false) else fitL a (nodes - 1) (depth - 1))
    else (0, false)
def fitL : List Tm → Int → Int → Int × Bool
  | [], nodes, _ => (nodes, true)
  | t :: r, nodes, depth => if (t.fit nodes depth).2 then fitL r (t.fit nodes depth).1 depth else (0, false)
end
theorem fitL_append (l m : List Tm) (nodes depth : Int) : fitL (l ++ m) nodes depth = if (fitL l nodes depth).2 then fitL m (fitL l nodes depth).1 depth else (0, false) := by
  induction l generalizing nodes with
  | nil => simp [fitL]
  | cons t r ih =>
    simp only [List.cons_append, fitL]
    by_cases h : (t.fit nodes depth).2 = true
    · simp [h, ih]
    · simp [h]
theorem fitL_next {l : List Tm} {k : Nat} (h : k < l.length) (nodes depth : Int) (hk : (fitL (l.take k) nodes depth).2 = true) :
    fitL (l.take (k + 1)) nodes depth = if ((l.getD k default).fit (fitL (l.take k) nodes depth).1 depth).2 then (l.getD k default).fit (fitL (l.take k) nodes depth).1 depth else (0, false) := by
  rw [ttake_next h, fitL_append, if_pos hk]
  simp only [fitL]
  by_cases hx : ((l.getD k default).fit (fitL (l.take k) nodes depth).1 depth).2 = true
  · rw [if_pos hx, if_pos hx, ← hx]
  · rw [if_neg hx, if_neg hx]
theorem fitL_stop {l : List Tm} {k : Nat} (h : k < l.length) (nodes depth : Int) (hk : (fitL (l.take k) nodes depth).2 = true) (hx : ((l.getD k default).fit (fitL (l.take k) nodes depth).1 depth).2 = false) :
    fitL l nodes depth = (0, false) := by
  have h1 := fitL_next h nodes depth hk
  rw [hx] at h1
  have h2 := fitL_append (l.take (k + 1)) (l.drop (k + 1)) nodes depth
  rw [List.take_append_drop, h1] at h2
  rw [h2]; rfl
theorem and4 (a b c d : Bool) : (c && d && (a && b)) = (a && (b && (c && d))) := by cases a <;> cases b <;> cases c <;> cases d <;> rfl
theorem fit_form : (∀ (t : Tm) (nodes depth : Nat), (t.fit nodes depth).2 = (t.form && (decide (t.size ≤ nodes) && decide (t.depth ≤ depth))) ∧ ((t.fit nodes depth).2 = true → (t.fit nodes depth).1 = (nodes : Int) - t.size)) ∧
    (∀ (l : List Tm) (nodes depth : Nat), (fitL l nodes depth).2 = (formL l && (decide (sizeL l ≤ nodes) && decide (depthL l ≤ depth))) ∧ ((fitL l nodes depth).2 = true → (fitL l nodes depth).1 = (nodes : Int) - sizeL l)) := by
  refine Tm.induct2 (fun k n s A c a ih => ?_) ?_ (fun t r h1 h2 => ?_)
  · intro nodes depth
    simp only [Tm.fit, Tm.form, Tm.size, Tm.depth]
    by_cases h0 : (nodes : Int) = 0 ∨ (depth : Int) = 0
    · rw [if_pos h0]
      refine ⟨?_, fun h => by simp at h⟩
      by_cases h2 : k = 2
      · simp only [h2, if_true]
        rcases h0 with h0 | h0
        · have : ¬ (1 + sizeL a ≤ nodes) := by omega
          simp [this]
        · have : ¬ (depthL a + 1 ≤ depth) := by omega
          simp [this]
      · simp only [h2, if_false]
        rcases h0 with h0 | h0
        · have : nodes = 0 := by omega
          simp [this]
        · have : depth = 0 := by omega
          simp [this]
    · rw [if_neg h0]
      have hn1 : 1 ≤ nodes := by omega
      have hd1 : 1 ≤ depth := by omega
      by_cases hk0 : k = 0
      · subst hk0
        simp only [plainB, Tm.name, Tm.args]
        refine ⟨?_, fun _ => by simp⟩
        have d1 : decide (1 ≤ nodes) = true := by simpa using hn1
        have d2 : decide (1 ≤ depth) = true := by simpa using hd1
        simp only [if_true, show ¬ ((0 : Int) = 2) by omega, if_false, d1, d2, Bool.and_true]
        exact and4 _ _ _ _
      · by_cases hk1 : k = 1
        · subst hk1
          simp only [plainB, Tm.name, Tm.args]
          refine ⟨?_, fun _ => by simp⟩
          have d1 : decide (1 ≤ nodes) = true := by simpa using hn1
          have d2 : decide (1 ≤ depth) = true := by simpa using hd1
          simp only [if_true, show ¬ ((1 : Int) = 2) by omega, show ¬ ((1 : Int) = 0) by omega, if_false, d1, d2, Bool.and_true]
          exact and4 _ _ _ _
        · by_cases hk2 : k = 2
          · subst hk2
            have e1 : (nodes : Int) - 1 = ((nodes - 1 : Nat) : Int) := by omega
            have e2 : (depth : Int) - 1 = ((depth - 1 : Nat) : Int) := by omega
            have hi := ih (nodes - 1) (depth - 1)
            simp only [hk0, hk1, if_false, if_true, ← funcB_eq]
            by_cases hf : n ≠ 0 ∨ funcB s.data.toList a.length = false
            · rw [if_pos hf]
              refine ⟨?_, fun h => by simp at h⟩
              rcases hf with hf | hf
              · simp [hf]
              · simp [hf]
            · rw [if_neg hf, e1, e2]
              have hf1 : n = 0 := by
                by_cases h : n = 0
                · exact h
                · exact absurd (Or.inl h) hf
              have hf2 : funcB s.data.toList a.length = true := by
                cases h : funcB s.data.toList a.length
                · exact absurd (Or.inr h) hf
                · rfl
              rw [hf2, hf1]
              have d1 : decide (sizeL a ≤ nodes - 1) = decide (1 + sizeL a ≤ nodes) := by rw [decide_eq_decide]; omega
              have d2 : decide (depthL a ≤ depth - 1) = decide (depthL a + 1 ≤ depth) := by rw [decide_eq_decide]; omega
              refine ⟨by rw [hi.1, d1, d2]; simp, fun h => ?_⟩
              rw [hi.2 h]
              omega
          · simp [hk0, hk1, hk2]
  · intro nodes depth
    simp [fitL, formL, sizeL, depthL]
  · intro nodes depth
    have a1 := h1 nodes depth
    simp only [fitL, formL, sizeL, depthL]
    by_cases hb : (t.fit nodes depth).2 = true
    · rw [if_pos hb, a1.2 hb]
      rw [a1.1] at hb
      simp only [Bool.and_eq_true, decide_eq_true_eq] at hb
      have e1 : (nodes : Int) - t.size = ((nodes - t.size : Nat) : Int) := by omega
      rw [e1]
      have a2 := h2 (nodes - t.size) depth
      have d1 : decide (sizeL r ≤ nodes - t.size) = decide (t.size + sizeL r ≤ nodes) := by rw [decide_eq_decide]; omega
      have d2 : decide (depthL r ≤ depth) = decide (max t.depth (depthL r) ≤ depth) := by rw [decide_eq_decide]; omega
      refine ⟨by rw [a2.1, d1, d2, hb.1, Bool.true_and]; rfl, fun h => ?_⟩
      rw [a2.2 h]
      omega
    · rw [if_neg hb]
      refine ⟨?_, fun h => by simp at h⟩
      have hb' : (t.fit nodes depth).2 = false := by simpa using hb
      rw [a1.1] at hb'
      cases hf : t.form
      · simp
      · rw [hf] at hb'
        simp only [Bool.true_and] at hb' ⊢
        have : ¬ (t.size ≤ nodes ∧ t.depth ≤ depth) := by
          intro h
          simp [h.1, h.2] at hb'
        by_cases h3 : t.size + sizeL r ≤ nodes
        · have h4 : ¬ (max t.depth (depthL r) ≤ depth) := by omega
          simp [h4]
        · simp [h3]
theorem fit_nat {t : Tm} {nodes depth : Nat} (h : (t.fit nodes depth).2 = true) : ∃ m : Nat, (t.fit nodes depth).1 = (m : Int) ∧ m ≤ nodes := by
  have h1 := (fit_form.1 t nodes depth).2 h
  rw [(fit_form.1 t nodes depth).1] at h
  simp only [Bool.and_eq_true, decide_eq_true_eq] at h
  exact ⟨nodes - t.size, by rw [h1]; omega, by omega⟩
def ints (a b : Int) : Int := if a < b then -1 else if b < a then 1 else 0
def texts (a b : List UInt8) : Int := if Op.bytesLess a b then -1 else if Op.bytesLess b a then 1 else 0
def cls (k : Int) : Int := if k = 1 then 0 else if k = 0 then 1 else if k = 2 then 2 else 3
def lex (x y : Int) : Int := if x = 0 then y else x
mutual
def cmpT : Tm → Tm → Int
  | .mk k n s _ _ a, u => lex (ints (cls k) (cls u.kind))
      (if k = 1 ∨ k = 0 then ints n u.num
       else if k = 2 then lex (ints a.length u.args.length) (lex (texts s.data.toList u.name.data.toList) (cmpL a u.args))
       else lex (ints k u.kind) (lex (ints n u.num) (texts s.data.toList u.name.data.toList)))
def cmpL : List Tm → List Tm → Int
  | [], [] => 0
  | [], _ :: _ => -1
  | _ :: _, [] => 1
  | t :: r, u :: q => lex (cmpT t u) (cmpL r q)
end
def Tri (x y z : Int) : Prop :=
  (x = -1 ∨ x = 0 ∨ x = 1) ∧ (y = -1 ∨ y = 0 ∨ y = 1) ∧ (z = -1 ∨ z = 0 ∨ z = 1) ∧ (x ≤ 0 → y ≤ 0 → z ≤ 0 ∧ (z = 0 → x = 0 ∧ y = 0)) ∧ (0 ≤ x → 0 ≤ y → 0 ≤ z ∧ (z = 0 → x = 0 ∧ y = 0))
theorem Tri.lex {x y z x' y' z' : Int} (h : Tri x y z) (h' : x = 0 → y = 0 → Tri x' y' z') (d1 : x' = -1 ∨ x' = 0 ∨ x' = 1) (d2 : y' = -1 ∨ y' = 0 ∨ y' = 1) (d3 : z' = -1 ∨ z' = 0 ∨ z' = 1) : Tri (lex x x') (lex y y') (lex z z') := by
  have lz : ∀ q : Int, Go.Proofs.YtnghanpmmbcbbaaGreatDoor.lex 0 q = q := fun q => by simp [Go.Proofs.YtnghanpmmbcbbaaGreatDoor.lex]
  have ln : ∀ p q : Int, p ≠ 0 → Go.Proofs.YtnghanpmmbcbbaaGreatDoor.lex p q = p := fun p q h => by simp [Go.Proofs.YtnghanpmmbcbbaaGreatDoor.lex, h]
  unfold Tri at *
  by_cases hx : x = 0
  · by_cases hy : y = 0
    · have := h' hx hy
      have hz : z = 0 := by omega
      rw [hx, hy, hz, lz, lz, lz]
      exact this
    · have hz : z ≠ 0 := by omega
      rw [hx, lz, ln y _ hy, ln z _ hz]
      omega
  · by_cases hy : y = 0
    · have hz : z ≠ 0 := by omega
      rw [hy, lz, ln x _ hx, ln z _ hz]
      omega
    · by_cases hz : z = 0
      · rw [hz, lz, ln x _ hx, ln y _ hy]
        omega
      · rw [ln x _ hx, ln y _ hy, ln z _ hz]
        omega
theorem ints_lt {a b : Int} (h : a < b) : ints a b = -1 := by unfold ints; rw [if_pos h]
theorem ints_gt {a b : Int} (h : b < a) : ints a b = 1 := by unfold ints; rw [if_neg (by omega), if_pos h]
theorem ints_self (a : Int) : ints a a = 0 := by unfold ints; simp
theorem ints_tri (a b c : Int) : Tri (ints a b) (ints b c) (ints a c) := by
  unfold Tri
  rcases Int.lt_trichotomy a b with h1 | h1 | h1
  · rw [ints_lt h1]
    rcases Int.lt_trichotomy b c with h2 | h2 | h2
    · rw [ints_lt h2, ints_lt (show a < c by omega)]; omega
    · subst h2; rw [ints_self, ints_lt h1]; omega
    · rw [ints_gt h2]
      rcases Int.lt_trichotomy a c with h3 | h3 | h3
      · rw [ints_lt h3]; omega
      · subst h3; rw [ints_self]; omega
      · rw [ints_gt h3]; omega
  · subst h1
    rw [ints_self]
    rcases Int.lt_trichotomy a c with h3 | h3 | h3
    · rw [ints_lt h3]; omega
    · subst h3; rw [ints_self]; omega
    · rw [ints_gt h3]; omega
  · rw [ints_gt h1]
    rcases Int.lt_trichotomy b c with h2 | h2 | h2
    · rw [ints_lt h2]
      rcases Int.lt_trichotomy a c with h3 | h3 | h3
      · rw [ints_lt h3]; omega
      · subst h3; rw [ints_self]; omega
      · rw [ints_gt h3]; omega
    · subst h2; rw [ints_self, ints_gt h1]; omega
    · rw [ints_gt h2, ints_gt (show c < a by omega)]; omega
theorem ints_val (a b : Int) : ints a b = -1 ∨ ints a b = 0 ∨ ints a b = 1 := by unfold ints; repeat' split
                                                                                 all_goals simp
theorem texts_val (a b : List UInt8) : texts a b = -1 ∨ texts a b = 0 ∨ texts a b = 1 := by unfold texts; repeat' split
                                                                                            all_goals simp
theorem lex_val {x y : Int} (h1 : x = -1 ∨ x = 0 ∨ x = 1) (h2 : y = -1 ∨ y = 0 ∨ y = 1) : lex x y = -1 ∨ lex x y = 0 ∨ lex x y = 1 := by unfold lex; split <;> assumption
theorem texts_cons (a b : UInt8) (x y : List UInt8) : texts (a :: x) (b :: y) = lex (ints a.toNat b.toNat) (texts x y) := by
  rcases Nat.lt_trichotomy a.toNat b.toNat with h | h | h
  · have h1 : Op.bytesLess (a :: x) (b :: y) = true := by simp [Op.bytesLess, UInt8.lt_iff_toNat_lt, h]
    rw [ints_lt (show (a.toNat : Int) < b.toNat by omega)]
    unfold texts lex
    rw [h1]; rfl
  · obtain rfl := UInt8.toNat_inj.1 h
    rw [ints_self]
    unfold texts lex
    simp [Op.bytesLess]
  · have h1 : Op.bytesLess (a :: x) (b :: y) = false := by
      have h2 : ¬ a < b := by rw [UInt8.lt_iff_toNat_lt]; omega
      have h3 : ¬ a = b := fun e => by rw [e] at h; omega
      simp [Op.bytesLess, h2, h3]
    have h4 : Op.bytesLess (b :: y) (a :: x) = true := by simp [Op.bytesLess, UInt8.lt_iff_toNat_lt, h]
    rw [ints_gt (show (b.toNat : Int) < a.toNat by omega)]
    unfold texts lex
    rw [h1, h4]; rfl
theorem texts_tri (a b c : List UInt8) : Tri (texts a b) (texts b c) (texts a c) := by
  have nn : texts [] [] = 0 := by simp [texts, Op.bytesLess]
  have nc : ∀ x l, texts [] (x :: l) = -1 := fun x l => by simp [texts, Op.bytesLess]
  have cn : ∀ x l, texts (x :: l) [] = 1 := fun x l => by simp [texts, Op.bytesLess]
  induction a generalizing b c with
  | nil =>
    cases b with
    | nil =>
      cases c with
      | nil => rw [nn]; unfold Tri; omega
      | cons z c => rw [nn, nc]; unfold Tri; omega
    | cons y b =>
      cases c with
      | nil => rw [nn, nc, cn]; unfold Tri; omega
      | cons z c =>
        have := texts_val (y :: b) (z :: c)
        rw [nc, nc]; unfold Tri; omega
  | cons x a ih =>
    cases b with
    | nil =>
      cases c with
      | nil => rw [nn, cn]; unfold Tri; omega
      | cons z c =>
        have := texts_val (x :: a) (z :: c)
        rw [nc, cn]; unfold Tri; omega
    | cons y b =>
      cases c with
      | nil =>
        have := texts_val (x :: a) (y :: b)
        rw [cn, cn]; unfold Tri; omega
      | cons z c =>
        rw [texts_cons, texts_cons, texts_cons]
        exact (ints_tri _ _ _).lex (fun _ _ => ih b c) (texts_val _ _) (texts_val _ _) (texts_val _ _)
theorem cmp_val : (∀ t u : Tm, cmpT t u = -1 ∨ cmpT t u = 0 ∨ cmpT t u = 1) ∧ (∀ l m : List Tm, cmpL l m = -1 ∨ cmpL l m = 0 ∨ cmpL l m = 1) := by
  refine Tm.induct2 (fun k n s A c a ih => ?_) ?_ (fun t r h1 h2 => ?_)
  · intro u
    simp only [cmpT]
    refine lex_val (ints_val _ _) ?_
    split
    · exact ints_val _ _
    · split
      · exact lex_val (ints_val _ _) (lex_val (texts_val _ _) (ih _))
      · exact lex_val (ints_val _ _) (lex_val (ints_val _ _) (texts_val _ _))
  · intro m
    cases m <;> simp [cmpL]
  · intro m
    cases m with
    | nil => simp [cmpL]
    | cons u q => simp only [cmpL]; exact lex_val (h1 u) (h2 q)
theorem cls_eq {j k : Int} (h : ints (cls j) (cls k) = 0) : cls j = cls k := by
  unfold ints at h
  split at h
  · omega
  · split at h <;> omega
theorem cmp_tri : (∀ t u v : Tm, Tri (cmpT t u) (cmpT u v) (cmpT t v)) ∧ (∀ l m n : List Tm, Tri (cmpL l m) (cmpL m n) (cmpL l n)) := by
  refine Tm.induct2 (fun k n s A c a ih => ?_) ?_ (fun t r h1 h2 => ?_)
  · intro u v
    have d1 := cmp_val.2
    cases u with
    | mk k2 n2 s2 A2 c2 a2 =>
      cases v with
      | mk k3 n3 s3 A3 c3 a3 =>
        simp only [cmpT, Tm.kind, Tm.num, Tm.name, Tm.args]
        have vv : ∀ (k : Int) (n n' : Int) (s s' : List UInt8) (a a' : List Tm) (k' : Int), (if k = 1 ∨ k = 0 then ints n n' else if k = 2 then lex (ints a.length a'.length) (lex (texts s s') (cmpL a a')) else lex (ints k k') (lex (ints n n') (texts s s'))) = -1 ∨
            (if k = 1 ∨ k = 0 then ints n n' else if k = 2 then lex (ints a.length a'.length) (lex (texts s s') (cmpL a a')) else lex (ints k k') (lex (ints n n') (texts s s'))) = 0 ∨
            (if k = 1 ∨ k = 0 then ints n n' else if k = 2 then lex (ints a.length a'.length) (lex (texts s s') (cmpL a a')) else lex (ints k k') (lex (ints n n') (texts s s'))) = 1 := by
          intro k n n' s s' a a' k'
          split
          · exact ints_val _ _
          · split
            · exact lex_val (ints_val _ _) (lex_val (texts_val _ _) (d1 _ _))
            · exact lex_val (ints_val _ _) (lex_val (ints_val _ _) (texts_val _ _))
        refine (ints_tri _ _ _).lex (fun e1 e2 => ?_) (vv _ _ _ _ _ _ _ _) (vv _ _ _ _ _ _ _ _) (vv _ _ _ _ _ _ _ _)
        have q1 := cls_eq e1
        have q2 := cls_eq e2
        unfold cls at q1 q2
        by_cases hk : k = 1 ∨ k = 0
        · have hk2 : k2 = 1 ∨ k2 = 0 := by
            rcases hk with rfl | rfl
            · simp only [if_true] at q1
              split at q1
              · exact .inl ‹_›
              · split at q1
                · exact .inr ‹_›
                · split at q1 <;> omega
            · simp only [if_true, show ¬ ((0 : Int) = 1) by omega, if_false] at q1
              split at q1
              · exact .inl ‹_›
              · split at q1
                · exact .inr ‹_›
                · split at q1 <;> omega
          rw [if_pos hk, if_pos hk2, if_pos hk]
          exact ints_tri _ _ _
        · have hk1 : ¬ k = 1 := fun h => hk (.inl h)
          have hk0 : ¬ k = 0 := fun h => hk (.inr h)
          rw [if_neg hk1, if_neg hk0] at q1
          by_cases h2 : k = 2
          · rw [if_pos h2] at q1
            have hk2 : k2 = 2 := by
              split at q1
              · omega
              · split at q1
                · omega
                · split at q1
                  · assumption
                  · omega
            have hk2' : ¬ (k2 = 1 ∨ k2 = 0) := by omega
            rw [if_neg hk, if_pos h2, if_neg hk2', if_pos hk2, if_neg hk, if_pos h2]
            have dl := fun x y => d1 x y
            refine (ints_tri _ _ _).lex (fun _ _ => (texts_tri _ _ _).lex (fun _ _ => ih a2 a3) (d1 _ _) (d1 _ _) (d1 _ _)) ?_ ?_ ?_
            all_goals exact lex_val (texts_val _ _) (d1 _ _)
          · rw [if_neg h2] at q1
            have hk2 : ¬ (k2 = 1 ∨ k2 = 0) ∧ ¬ k2 = 2 := by
              split at q1
              · omega
              · split at q1
                · omega
                · split at q1
                  · omega
                  · omega
            rw [if_neg hk, if_neg h2, if_neg hk2.1, if_neg hk2.2, if_neg hk, if_neg h2]
            refine (ints_tri _ _ _).lex (fun _ _ => (ints_tri _ _ _).lex (fun _ _ => texts_tri _ _ _) (texts_val _ _) (texts_val _ _) (texts_val _ _)) ?_ ?_ ?_
            all_goals exact lex_val (ints_val _ _) (texts_val _ _)
  · intro m n
    have hv := cmp_val.2
    cases m with
    | nil => cases n <;> (simp only [cmpL]; unfold Tri; omega)
    | cons u q =>
      cases n with
      | nil => simp only [cmpL]; unfold Tri; omega
      | cons v p =>
        have := hv (u :: q) (v :: p)
        rw [show cmpL [] (u :: q) = -1 from rfl, show cmpL [] (v :: p) = -1 from rfl]
        unfold Tri; omega
  · intro m n
    have hv := cmp_val.2
    cases m with
    | nil =>
      cases n with
      | nil => simp only [cmpL]; unfold Tri; omega
      | cons v p =>
        have := hv (t :: r) (v :: p)
        rw [show cmpL (t :: r) [] = 1 from rfl, show cmpL [] (v :: p) = -1 from rfl]
        unfold Tri; omega
    | cons u q =>
      cases n with
      | nil =>
        have := hv (t :: r) (u :: q)
        rw [show cmpL (t :: r) [] = 1 from rfl, show cmpL (u :: q) [] = 1 from rfl]
        unfold Tri; omega
      | cons v p =>
        simp only [cmpL]
        exact (h1 u v).lex (fun _ _ => h2 q p) (hv _ _) (hv _ _) (hv _ _)
theorem bytesLess_self (l : List UInt8) : Op.bytesLess l l = false := by
  induction l with
  | nil => rfl
  | cons a r ih => simp [Op.bytesLess, ih]
theorem texts_self (l : List UInt8) : texts l l = 0 := by unfold texts; simp [bytesLess_self]
theorem cmp_self : (∀ t : Tm, cmpT t t = 0) ∧ (∀ l : List Tm, cmpL l l = 0) := by
  refine Tm.induct2 (fun k n s A c a ih => ?_) rfl (fun t r h1 h2 => ?_)
  · simp only [cmpT, Tm.kind, Tm.num, Tm.name, Tm.args, ints_self, texts_self, ih, lex, if_true]
    split
    · rfl
    · split <;> rfl
  · simp only [cmpL, h1, h2, lex, if_true]
theorem cmpT_flip (t u : Tm) : cmpT u t = - cmpT t u := by
  have h := cmp_tri.1 t u t
  have h' := cmp_tri.1 u t u
  rw [cmp_self.1] at h h'
  unfold Tri at h h'
  omega
theorem cmpT_congr {t u : Tm} (h : cmpT t u = 0) (v : Tm) : cmpT v t = cmpT v u := by
  have h1 := cmp_tri.1 v t u
  have h2 := cmp_tri.1 v u t
  have h3 := cmpT_flip t u
  rw [h] at h1 h3
  rw [h3] at h2
  unfold Tri at h1 h2
  omega
end Go.Proofs.YtnghanpmmbcbbaaGreatDoor
namespace Go.Proofs.YtnghanpmmbcbbaaGreatDoor
open Go.ChangeShapes Go.WideShapes Go.ChangeAt Go.RowKit
theorem add_plain (b o k : Nat) : (⟨b, o, none⟩ : Addr).add k = ⟨b, o + k, none⟩ := by unfold Addr.add; split <;> simp_all
theorem below_drewN {B : Nat} {a w : World} (h : Below B a w) (n : Nat) : Below B a (w.drewN n) := ⟨h.os, h.tape, h.output, h.size, h.block⟩
theorem undrew {B : Nat} {w w' : World} (h : Below B w.drew w') : Below B w w' := ⟨h.os, h.tape, h.output, h.size, h.block⟩
theorem box4 {w w' : World} {v0 v1 v2 v3 : Value} {T : TypeId} (hb : Below (w.alloc (.cells #[v0, v1, v2, v3] T)).heap.size (w.alloc (.cells #[v0, v1, v2, v3] T)) w') :
    w'.cell? ⟨w.heap.size, 0, none⟩ = some v0 ∧ w'.cell? ⟨w.heap.size, 1, none⟩ = some v1 ∧ w'.cell? ⟨w.heap.size, 2, none⟩ = some v2 ∧ w'.cell? ⟨w.heap.size, 3, none⟩ = some v3 ∧ Below w.heap.size w w' := by
  have h : ∀ j, w'.cell? ⟨w.heap.size, j, none⟩ = (#[v0, v1, v2, v3] : Array Value)[j]? := fun j => by
    rw [hb.cell (p := ⟨w.heap.size, j, none⟩) (by simp), World.cell?_alloc_at _ _ _ _ rfl]
  exact ⟨h 0, h 1, h 2, h 3, ((Below.refl _ _).alloc (Nat.le_refl _) _).trans (hb.mono (by simp))⟩
abbrev Tm.val (t : Tm) : Value := .agg #[.int .i64 t.kind, .int .i64 t.num, .string t.name, .slice t.at_ t.args.length t.cap]
def Tm.cells (t : Tm) : List Value := [.int .i64 t.kind, .int .i64 t.num, .string t.name, .slice t.at_ t.args.length t.cap]
def Fits (n : Int) : Prop := -9223372036854775808 ≤ n ∧ n ≤ 9223372036854775807
mutual
def Tm.At (w : World) : Tm → Prop
  | .mk k n s A c a => (Fits k ∧ Fits n ∧ s.size ≤ maxLen) ∧ a.length ≤ c ∧ c ≤ maxLen ∧ (0 < a.length → ∃ b o, A = some ⟨b, o, none⟩ ∧ RowAt w a b o)
def RowAt (w : World) : List Tm → Nat → Nat → Prop
  | [], _, _ => True
  | t :: r, b, o => (w.cell? ⟨b, o, none⟩ = some (.int .i64 t.kind) ∧ w.cell? ⟨b, o + 1, none⟩ = some (.int .i64 t.num) ∧ w.cell? ⟨b, o + 2, none⟩ = some (.string t.name) ∧
      w.cell? ⟨b, o + 3, none⟩ = some (.slice t.at_ t.args.length t.cap)) ∧ t.At w ∧ RowAt w r b (o + 4)
end
def Lst (w : World) (A : Option Addr) (l : List Tm) (c : Nat) : Prop := l.length ≤ c ∧ c ≤ maxLen ∧ (0 < l.length → ∃ b o, A = some ⟨b, o, none⟩ ∧ RowAt w l b o)
theorem At_iff (w : World) (t : Tm) : t.At w ↔ (Fits t.kind ∧ Fits t.num ∧ t.name.size ≤ maxLen) ∧ Lst w t.at_ t.args t.cap := by
  cases t with
  | mk k n s A c a => simp only [Tm.At, Lst, Tm.kind, Tm.num, Tm.name, Tm.at_, Tm.args, Tm.cap]
theorem RowAt.get {w : World} {l : List Tm} {b o : Nat} (h : RowAt w l b o) {i : Nat} (hi : i < l.length) :
    (w.cell? ⟨b, o + i * 4, none⟩ = some (.int .i64 (l.getD i default).kind) ∧ w.cell? ⟨b, o + i * 4 + 1, none⟩ = some (.int .i64 (l.getD i default).num) ∧ w.cell? ⟨b, o + i * 4 + 2, none⟩ = some (.string (l.getD i default).name) ∧
      w.cell? ⟨b, o + i * 4 + 3, none⟩ = some (.slice (l.getD i default).at_ (l.getD i default).args.length (l.getD i default).cap)) ∧ (l.getD i default).At w := by
  induction l generalizing o i with
  | nil => simp at hi
  | cons t r ih =>
    simp only [RowAt] at h
    cases i with
    | zero => simpa using ⟨h.1, h.2.1⟩
    | succ i =>
      have := ih h.2.2 (i := i) (by simpa using hi)
      rw [show o + 4 + i * 4 = o + (i + 1) * 4 by omega] at this
      simpa using this
theorem RowAt.of {w : World} {l : List Tm} {b o : Nat}
    (h : ∀ i, i < l.length → (∀ j u, (l.getD i default).cells[j]? = some u → w.cell? ⟨b, o + 4 * i + j, none⟩ = some u) ∧ (l.getD i default).At w) : RowAt w l b o := by
  induction l generalizing o with
  | nil => simp [RowAt]
  | cons t r ih =>
    simp only [RowAt]
    have h0 := h 0 (by simp)
    refine ⟨⟨h0.1 0 _ rfl, h0.1 1 _ rfl, h0.1 2 _ rfl, h0.1 3 _ rfl⟩, h0.2, ih fun i hi => ?_⟩
    have := h (i + 1) (by simpa using hi)
    rw [show o + 4 * (i + 1) = o + 4 + 4 * i by omega] at this
    simpa using this
theorem At_keep {w w' : World} (hb : Below w.heap.size w w') : (∀ t : Tm, t.At w → t.At w') ∧ (∀ (l : List Tm) b o, RowAt w l b o → RowAt w' l b o) := by
  have hc : ∀ p v, w.cell? p = some v → w'.cell? p = some v := fun p v h => by rw [hb.cell (World.block_lt_of_cell? w _ h)]; exact h
  refine Tm.induct2 (fun k n s A c a ih h => ?_) (fun _ _ _ => by simp [RowAt]) (fun t r h1 h2 b o h => ?_)
  · simp only [Tm.At] at h ⊢
    refine ⟨h.1, h.2.1, h.2.2.1, fun hn => ?_⟩
    obtain ⟨b, o, e, hr⟩ := h.2.2.2 hn
    exact ⟨b, o, e, ih b o hr⟩
  · simp only [RowAt] at h ⊢
    exact ⟨⟨hc _ _ h.1.1, hc _ _ h.1.2.1, hc _ _ h.1.2.2.1, hc _ _ h.1.2.2.2⟩, h1 h.2.1, h2 b (o + 4) h.2.2⟩
theorem Tm.At.below {w w' : World} {t : Tm} (h : t.At w) (hb : Below w.heap.size w w') : t.At w' := (At_keep hb).1 t h
theorem Lst.below {w w' : World} {A : Option Addr} {l : List Tm} {c : Nat} (h : Lst w A l c) (hb : Below w.heap.size w w') : Lst w' A l c :=
  ⟨h.1, h.2.1, fun hn => by
    obtain ⟨b, o, e, hr⟩ := h.2.2 hn
    exact ⟨b, o, e, (At_keep hb).2 _ _ _ hr⟩⟩
theorem Tm.At.alloc {w : World} {t : Tm} (h : t.At w) (o : Obj) : t.At (w.alloc o) := h.below ((Below.refl _ _).alloc (Nat.le_refl _) o)
theorem Tm.At.lst {w : World} {t : Tm} (h : t.At w) : Lst w t.at_ t.args t.cap := ((At_iff w t).1 h).2
theorem Lst.get {w : World} {A : Option Addr} {l : List Tm} {c : Nat} (h : Lst w A l c) {i : Nat} (hi : i < l.length) : ∃ b o, A = some ⟨b, o, none⟩ ∧
    (w.cell? ⟨b, o + i * 4, none⟩ = some (.int .i64 (l.getD i default).kind) ∧ w.cell? ⟨b, o + i * 4 + 1, none⟩ = some (.int .i64 (l.getD i default).num) ∧ w.cell? ⟨b, o + i * 4 + 2, none⟩ = some (.string (l.getD i default).name) ∧
      w.cell? ⟨b, o + i * 4 + 3, none⟩ = some (.slice (l.getD i default).at_ (l.getD i default).args.length (l.getD i default).cap)) ∧ (l.getD i default).At w := by
  obtain ⟨b, o, e, hr⟩ := h.2.2 (by omega)
  exact ⟨b, o, e, hr.get hi⟩
theorem Lst.mem {w : World} {A : Option Addr} {l : List Tm} {c : Nat} (h : Lst w A l c) {t : Tm} (ht : t ∈ l) : t.At w := by
  obtain ⟨i, hi, e⟩ := List.mem_iff_getElem.1 ht
  obtain ⟨_, _, _, _, h2⟩ := h.get hi
  simpa [List.getD, List.getElem?_eq_getElem hi, e] using h2
theorem Lst.nil (w : World) : Lst w none [] 0 := ⟨Nat.le_refl _, Nat.zero_le _, fun h => absurd h (by simp)⟩
theorem Lst.used {w : World} {t : Tm} (h : t.At w) (hk : t.kind = 2) : Lst w t.at_ t.used t.cap := by
  unfold Tm.used
  rw [if_pos hk]
  exact h.lst
def Tm.uat (t : Tm) : Option Addr := if t.kind = 2 then t.at_ else none
def Tm.ucap (t : Tm) : Nat := if t.kind = 2 then t.cap else 0
theorem Tm.At.ulst {w : World} {t : Tm} (h : t.At w) : Lst w t.uat t.used t.ucap := by
  unfold Tm.used Tm.uat Tm.ucap
  by_cases hk : t.kind = 2
  · rw [if_pos hk, if_pos hk, if_pos hk]; exact h.lst
  · rw [if_neg hk, if_neg hk, if_neg hk]; exact Lst.nil w
theorem int_fits {x : Int} (h : (Lit.int .i64 x).wf = true) : Fits x := by
  have h1 : IntKind.i64.min = -9223372036854775808 := rfl
  have h2 : IntKind.i64.max = 9223372036854775807 := rfl
  simp only [Lit.wf, Bool.and_eq_true, decide_eq_true_eq] at h
  unfold Fits
  omega
structure Types (P : Program) (I S L T : TypeId) : Prop where
  int : P.underlying I = some (.int .i64)
  str : P.underlying S = some .string
  lst : P.underlying L = some (.slice T)
  tm : ∃ f0 f1 f2 f3 : Field, P.underlying T = some (.struct #[f0, f1, f2, f3]) ∧ (f0.type = I ∧ f0.offset = 0) ∧ (f1.type = I ∧ f1.offset = 1) ∧ (f2.type = S ∧ f2.offset = 2) ∧ (f3.type = L ∧ f3.offset = 3)
  cI : P.cellsOf I = 1
  cS : P.cellsOf S = 1
  cL : P.cellsOf L = 1
  cT : P.cellsOf T = 4
section
variable {H : Type} {enc : TypeId × Value → H} {P : Program} {W : World} {base : Nat} {spare : Nat → Bool} {held : Bool} {I S L T : TypeId}
theorem lst_of (hy : Types P I S L T) {n : Nat} {v : Value} {x : DataW H × List MemPlace}
    (ih : ∀ m, m < n → ∀ cs x, DataW.trod enc P W base spare held m T cs = some x → ∃ t : Tm, cs = t.cells ∧ t.At W) (h : DataW.trod enc P W base spare held n L [v] = some x) :
    ∃ (A : Option Addr) (l : List Tm) (c : Nat), v = .slice A l.length c ∧ Lst W A l c := by
  rcases DataW.trod_slice hy.lst h with ⟨hcs, _⟩ | ⟨a, len, cap, elems, rest, n', hn, hcs, _, _, hl, hm, hlen, hel, _⟩
  · obtain rfl : v = .slice none 0 0 := by simpa using hcs
    exact ⟨none, [], 0, rfl, Lst.nil W⟩
  · obtain rfl : v = .slice (some a) len cap := by simpa using hcs
    obtain ⟨f, hf⟩ := Deep.choose_lt (α := Tm) (p := fun i t => W.cells? base (a.add (i * 4)) 4 = some t.cells ∧ t.At W) (n := len) (fun i hi => by
      have h1 := hel i hi
      rw [hy.cT, List.getElem?_eq_getElem (by omega)] at h1
      obtain ⟨cs', h2, h3⟩ := Option.bind_eq_some_iff.1 h1
      obtain ⟨t, rfl, ht⟩ := ih n' (by omega) _ _ h3
      exact ⟨t, h2, ht⟩)
    have hll : ((List.range len).map f).length = len := by simp
    refine ⟨some a, (List.range len).map f, cap, by rw [hll], by rw [hll]; exact hl, hm, fun h0 => ?_⟩
    rw [hll] at h0
    obtain ⟨b, o, sp⟩ := a
    have c0 := (World.cells?_some (hf 0 h0).1).2.2 0 (by omega)
    obtain rfl : sp = none := by
      rw [show (f 0).cells[0]? = some (.int .i64 (f 0).kind) from rfl] at c0
      simpa [Addr.add] using World.cell?_spot c0
    refine ⟨b, o, rfl, RowAt.of fun i hi => ?_⟩
    rw [hll] at hi
    have e : ((List.range len).map f).getD i default = f i := by simp [List.getD, hi]
    rw [e]
    refine ⟨fun j u hu => ?_, (hf i hi).2⟩
    have hj : j < 4 := by
      have := (List.getElem?_eq_some_iff.1 hu).1
      simpa [Tm.cells] using this
    have := (World.cells?_some (hf i hi).1).2.2 j hj
    rw [add_plain, add_plain, hu, Nat.mul_comm i 4] at this
    exact this
theorem tm_of (hy : Types P I S L T) : ∀ (n : Nat) (cs : List Value) (x : DataW H × List MemPlace), DataW.trod enc P W base spare held n T cs = some x → ∃ t : Tm, cs = t.cells ∧ t.At W := by
  intro n
  induction n using Nat.strongRecOn with
  | _ n ih =>
    intro cs x h
    obtain ⟨f0, f1, f2, f3, hT, ⟨t0, o0⟩, ⟨t1, o1⟩, ⟨t2, o2⟩, ⟨t3, o3⟩⟩ := hy.tm
    obtain ⟨xs, m, hn, _, hcl, hxl, hg⟩ := DataW.trod_struct hT h
    rw [hy.cT] at hcl
    match cs, hcl with
    | [c0, c1, c2, c3], _ =>
      have hxs : xs.length = 4 := hxl
      have g0 := hg 0 f0 rfl
      have g1 := hg 1 f1 rfl
      have g2 := hg 2 f2 rfl
      have g3 := hg 3 f3 rfl
      rw [t0, o0, hy.cI] at g0
      rw [t1, o1, hy.cI] at g1
      rw [t2, o2, hy.cS] at g2
      rw [t3, o3, hy.cL] at g3
      rw [List.getElem?_eq_getElem (by omega)] at g0 g1 g2 g3
      obtain ⟨k, hk, _, wk⟩ := DataW.trod_int hy.int g0
      obtain ⟨q, hq, _, wq⟩ := DataW.trod_int hy.int g1
      obtain ⟨s, hs, _, ws⟩ := DataW.trod_string hy.str g2
      obtain ⟨A, l, c, hv, hl⟩ := lst_of (v := c3) hy (fun m' hm' => ih m' (by omega)) g3
      obtain rfl : c0 = .int .i64 k := by simpa using hk
      obtain rfl : c1 = .int .i64 q := by simpa using hq
      obtain rfl : c2 = .string s := by simpa using hs
      subst hv
      exact ⟨.mk k q s A c l, rfl, (At_iff _ _).2 ⟨⟨int_fits wk, int_fits wq, ws⟩, hl⟩⟩
theorem open_lst (hy : Types P I S L T) {n : Nat} {v : Value} {x : DataW H × List MemPlace} (h : DataW.trod enc P W base spare held n L [v] = some x) :
    ∃ (A : Option Addr) (l : List Tm) (c : Nat), v = .slice A l.length c ∧ Lst W A l c := lst_of hy (fun m _ => tm_of hy m) h
end
end Go.Proofs.YtnghanpmmbcbbaaGreatDoor
namespace Go.Proofs.YtnghanpmmbcbbaaGreatDoor
open Go.RowKit Go.Sort
theorem regrown_below {W w1 : World} (h : ∃ p : Regrown, w1 = grow (redrawn W p.d) p.os) : Below W.heap.size W w1 := by
  obtain ⟨p, rfl⟩ := h
  exact below_regrown _ _ _
theorem withBelow {P : Program} {f : FuncId} {args : Array Value} {w : World} {v : Value} (h : Calls P f args w fun e w' => e = .returned v ∧ w = w') : Calls P f args w fun e w' => e = .returned v ∧ Below w.heap.size w w' :=
  h.mono fun _ _ ⟨he, hw⟩ => ⟨he, by rw [← hw]; exact Below.refl _ _⟩
theorem boxedN (w : World) (cs : Array Value) (T : TypeId) (j : Nat) (v : Value) (h : cs[j]? = some v) : ∀ d os, (grow (redrawn (w.alloc (.cells cs T)) d) os).cell? ⟨w.heap.size, j, none⟩ = some v :=
  cell_regrown (by rw [World.cell?_alloc_at _ _ _ _ rfl, h])
theorem below1 (w : World) (o : Obj) : Below w.heap.size w (w.alloc o) := (Below.refl _ _).alloc (Nat.le_refl _) _
end Go.Proofs.YtnghanpmmbcbbaaGreatDoor
namespace Go.Proofs.YtnghanpmmbcbbaaGreatDoor
open Go.RowKit
theorem keepk {w w' : World} (hb : Below w.heap.size w w') {p : Addr} {v : Value} (h : w.cell? p = some v) : w'.cell? p = some v := by
  have hp : p.block < w.heap.size := by
    rcases Nat.lt_or_ge p.block w.heap.size with h1 | h1
    · exact h1
    · simp [World.cell?, Array.getElem?_eq_none h1] at h
  rw [hb.cell hp, h]
def kcells (l : List Tk) : List Value := l.flatMap tokC
theorem kcells_len (l : List Tk) : (kcells l).length = l.length * 3 := by
  induction l with
  | nil => rfl
  | cons t r ih => simp only [kcells, List.flatMap_cons, List.length_append, List.length_cons] at *; simp only [tokC, List.length_cons, List.length_nil]; omega
theorem kcells_append (l m : List Tk) : kcells (l ++ m) = kcells l ++ kcells m := by simp [kcells]
theorem kcells_get (l : List Tk) {i j : Nat} (hi : i < l.length) (hj : j < 3) : (kcells l)[i * 3 + j]? = (tokC (l.getD i default))[j]? := by
  induction l generalizing i with
  | nil => simp at hi
  | cons t r ih =>
    have hl : (tokC t).length = 3 := rfl
    simp only [kcells, List.flatMap_cons]
    cases i with
    | zero =>
      rw [List.getElem?_append_left (by rw [hl]; omega)]
      simp
    | succ i =>
      rw [List.getElem?_append_right (by rw [hl]; omega), hl, show (i + 1) * 3 + j - 3 = i * 3 + j by omega]
      simpa [kcells] using ih (by simpa using hi)
theorem info_parts {P : Program} {T : TypeId} {z : Value} {n m : Nat} (h : (P.info? T).map (fun i => (i.zero, i.size, i.bytes)) = some (some z, n, m)) : ∃ i, P.info? T = some i ∧ i.zero = some z ∧ i.size = n ∧ i.bytes = m := by
  obtain ⟨i, hi, e⟩ := Option.map_eq_some_iff.1 h
  simp only [Prod.mk.injEq] at e
  exact ⟨i, hi, e.1, e.2.1, e.2.2⟩
def TLst (w : World) (A : Option Addr) (l : List Tk) (c : Nat) : Prop := l.length ≤ c ∧ c ≤ maxLen ∧ (0 < l.length → ∃ g, A = some ⟨g, 0, none⟩ ∧ ∀ i, i < l.length → ∀ j u, (tokC (l.getD i default))[j]? = some u → w.cell? ⟨g, i * 3 + j, none⟩ = some u)
section
variable {w w' : World} {A : Option Addr} {l : List Tk} {c : Nat}
theorem TLst.nil (w : World) : TLst w none [] 0 := ⟨Nat.le_refl _, Nat.zero_le _, fun h => absurd h (by simp)⟩
theorem TLst.below (h : TLst w A l c) (hb : Below w.heap.size w w') : TLst w' A l c := ⟨h.1, h.2.1, fun hn => by
  obtain ⟨g, e, hr⟩ := h.2.2 hn
  exact ⟨g, e, fun i hi j u hu => keepk hb (hr i hi j u hu)⟩⟩
theorem TLst.get (h : TLst w A l c) {i : Nat} (hi : i < l.length) : ∃ g, A = some ⟨g, 0, none⟩ ∧
    w.cell? ⟨g, i * 3, none⟩ = some (.int .i64 (l.getD i default).1) ∧ w.cell? ⟨g, i * 3 + 1, none⟩ = some (.int .i64 ((l.getD i default).2.1 : Int)) ∧ w.cell? ⟨g, i * 3 + 2, none⟩ = some (.string (S (l.getD i default).2.2)) := by
  obtain ⟨g, e, hr⟩ := h.2.2 (by omega)
  exact ⟨g, e, hr i hi 0 _ rfl, hr i hi 1 _ rfl, hr i hi 2 _ rfl⟩
end
theorem own_lt {w : World} {base : Nat} {e : TypeId} {size : Nat} {v : Value} {n : Nat} {xs : List Value} (h : w.ownsRow base e size v n xs) : ∀ k, v.ownBlock = some k → base ≤ k ∧ k < w.heap.size := by
  intro k hk
  rcases h.2 with ⟨rfl, _⟩ | ⟨g, cap, cur, rfl, hb, hg, _⟩
  · simp [Value.ownBlock] at hk
  · simp only [Value.ownBlock, Option.some.injEq] at hk
    subst hk
    refine ⟨hb, ?_⟩
    rcases Nat.lt_or_ge g w.heap.size with h | h
    · exact h
    · rw [Array.getElem?_eq_none h] at hg; cases hg
theorem own_below {w w' : World} {base : Nat} {e : TypeId} {size : Nat} {v : Value} {n : Nat} {xs : List Value} (h : w.ownsRow base e size v n xs) (hb : Below w.heap.size w w') : w'.ownsRow base e size v n xs :=
  World.ownsRow.kept (row := none) h ⟨hb.os, hb.tape, hb.output, hb.size, fun k hk _ => hb.block k hk⟩ (by
    rcases h.2 with ⟨rfl, _⟩ | ⟨g, cap, cur, rfl, _⟩
    · exact .inl rfl
    · exact .inr (by simp [Value.ownBlock]))
def RowK (lo : Nat) (w : World) (z : Value) (acc : List Tk) : Prop := w.ownsRow lo 135 3 z acc.length (kcells acc)
section
variable {lo : Nat} {w w' : World} {z : Value} {acc : List Tk}
theorem RowK.nil (lo : Nat) (w : World) : RowK lo w (.slice none 0 0) [] := ⟨rfl, .inl ⟨rfl, rfl⟩⟩
theorem RowK.below (h : RowK lo w z acc) (hb : Below w.heap.size w w') : RowK lo w' z acc := own_below h hb
theorem RowK.next {g cap : Nat} {w4 : World} {u : Tk}
    (hown : w4.ownsRow lo 135 3 (.slice (some ⟨g, 0, none⟩) (acc.length + 1) cap) (acc.length + 1) (kcells acc ++ tokC u)) :
    RowK lo w4 (.slice (some ⟨g, 0, none⟩) (acc.length + 1) cap) (acc ++ [u]) := by
  unfold RowK
  rw [List.length_append, kcells_append]
  simpa [kcells] using hown
theorem RowK.form (h : RowK lo w z acc) : ∃ A c, z = .slice A acc.length c ∧ acc.length ≤ c := by
  rcases h.2 with ⟨rfl, h1⟩ | ⟨g, cap, cur, rfl, hb, hg, hle, _⟩
  · exact ⟨none, 0, by rw [h1], by omega⟩
  · exact ⟨_, cap, rfl, hle⟩
theorem RowK.lies {A : Option Addr} {c n : Nat} (h : RowK lo w (.slice A n c) acc) : TLst w A acc c := by
  have hl := kcells_len acc
  rcases h.2 with ⟨e, h1⟩ | ⟨g, cap, cur, e, hb, hg, hle, hcap, hcs, hcur⟩
  · injection e with e1 _ e3
    obtain rfl : acc = [] := List.length_eq_zero_iff.1 h1
    rw [e1, e3]; exact TLst.nil w
  · injection e with e1 e2 e3
    subst e1 e2 e3
    refine ⟨hle, hcap, fun _ => ⟨g, rfl, fun i hi j u hu => ?_⟩⟩
    have hj : j < 3 := by
      have := (List.getElem?_eq_some_iff.1 hu).1
      simpa [tokC] using this
    have hc := World.ownsRow.cellAt h (i * 3 + j) (by omega)
    rw [hc]
    exact (kcells_get acc hi hj).trans hu
end
def fin (acc : List Tk) (r : List Tk × Nat × Int) : List Tk × Nat × Int := if r.2.2 ≠ 0 then r else (acc ++ r.1, 0, 0)
end Go.Proofs.YtnghanpmmbcbbaaGreatDoor
