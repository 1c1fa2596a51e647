/-
  RfP.
  RfMem.
  RfShape.
  RfJoinP.
-/
import Derived.Test.YtgpglgehlnfggaaGreatMe13
import Derived.Test.YtgpglgehlnfggaaGreatMe14
import Derived.Test.YtgpglgehlnfggaaGreatMe17
namespace Go.Proofs.YtgpglgehlnfggaaGreat
open Go
def clsR (cls : List Nat) (j : Nat) : Nat := cls.getD j j
theorem clsR_get {cls : List Nat} {j : Nat} (h : j < cls.length) : clsR cls j = cls.getD j 0 := by simp [clsR, List.getD, h]
theorem clsR_out {cls : List Nat} {j : Nat} (h : cls.length ≤ j) : clsR cls j = j := by simp [clsR, List.getD, h]
theorem clsR_more (cls : List Nat) : clsR (cls ++ [cls.length]) = clsR cls := by
  funext j
  by_cases h : j < cls.length
  · simp [clsR, List.getD, List.getElem?_append_left h]
  · rw [clsR_out (cls := cls) (by omega)]
    by_cases e : j = cls.length
    · subst e; simp [clsR, List.getD]
    · exact clsR_out (by simp; omega)
theorem clsR_ext {cls : List Nat} : extR cls.length (clsR cls) = clsR cls := by
  funext j
  unfold extR
  split
  · rfl
  · rw [clsR_out (by omega)]
theorem clsR_map {cls : List Nat} {x y : Nat} (hy : y < cls.length) : clsR (cls.map fun c => if c = y then x else c) = mergeR (clsR cls) x y := by
  funext j
  unfold mergeR
  by_cases h : j < cls.length
  · simp [clsR, List.getD, h]
  · rw [clsR_out (cls := cls) (by omega), clsR_out (by simp; omega), if_neg (by omega)]
def Roots (G : List Nd) (root : Nat → Nat) : Prop := ∀ j, j < G.length → root j < G.length ∧ root (root j) = root j
section
variable {G N : List Nd} {root : Nat → Nat} {op op' E : List (Nat × Nat)} {a b x y : Nat}
theorem Roots.merge (rl : Roots G root) (hx : x < G.length) (rx : root x = x) (hne : x ≠ y) : Roots G (mergeR root x y) := fun j hj => by
  have h1 := rl j hj
  unfold mergeR
  by_cases e : root j = y
  · rw [if_pos e, rx, if_neg hne]; exact ⟨hx, rfl⟩
  · rw [if_neg e, h1.2, if_neg e]; exact ⟨h1.1, rfl⟩
theorem Mid.merge (h : Mid G root op E) (hok : Ok G) (hab : (a, b) ∈ op) (hx : x = root a) (hy : y = root b) (hne : x ≠ y)
    (h1 : ∀ p ∈ op, p = (a, b) ∨ p ∈ op') (h2 : ∀ p ∈ op', p ∈ op ∨ ∃ m n, m < G.length ∧ n < G.length ∧ (nd G m).tm.kind ≠ 1 ∧ (nd G n).tm.kind ≠ 1 ∧ root m = x ∧ root n = y ∧ p ∈ (nd G m).kids.zip (nd G n).kids)
    (h3 : ∀ m n, m < G.length → n < G.length → (nd G m).tm.kind ≠ 1 → (nd G n).tm.kind ≠ 1 → root m = x → root n = y → ∃ m' n', m' < G.length ∧ n' < G.length ∧ (nd G m').tm.kind ≠ 1 ∧ (nd G n').tm.kind ≠ 1 ∧ root m' = x ∧ root n' = y ∧ SameLab G m' n' ∧ ∀ p ∈ (nd G m').kids.zip (nd G n').kids, p ∈ op') :
    Mid G (mergeR root x y) op' E := by
  obtain ⟨ha, hb⟩ := h.bd _ hab
  have hmono : ∀ i j, root i = root j → mergeR root x y i = mergeR root x y j := fun i j e => by unfold mergeR; rw [e]
  have hmab : mergeR root x y a = mergeR root x y b := by
    unfold mergeR
    rw [← hx, ← hy, if_neg hne, if_pos rfl]
  have hc : ∀ q, Coarse G (mergeR root x y) op' q → Coarse G root op q := fun q hq => ⟨fun i j hi hj e => hq.1 i j hi hj (hmono i j e), fun p hp => by
    rcases h1 p hp with rfl | hp
    · exact hq.1 a b ha hb hmab
    · exact hq.2 p hp⟩
  -- two nodes of one class of the new ones
  have hsplit : ∀ i j, mergeR root x y i = mergeR root x y j → root i = root j ∨ (root i = x ∧ root j = y) ∨ (root i = y ∧ root j = x) := fun i j e => by
    unfold mergeR at e
    split at e <;> split at e <;> omega
  have hcross : ∀ i j, i < G.length → j < G.length → (nd G i).tm.kind ≠ 1 → (nd G j).tm.kind ≠ 1 → root i = x → root j = y → SameLab G i j ∧ ∀ q, Coarse G (mergeR root x y) op' q → (nd G i).kids.map q = (nd G j).kids.map q := fun i j hi hj hki hkj ei ej => by
    obtain ⟨m, n, hm, hn, hkm, hkn, em, en, hl, hz⟩ := h3 i j hi hj hki hkj ei ej
    have l1 := h.lab i m hi hm hki hkm (ei.trans em.symm)
    have l2 := h.lab n j hn hj hkn hkj (en.trans ej.symm)
    refine ⟨⟨⟨l1.1.1.trans (hl.1.1.trans l2.1.1), l1.1.2.1.trans (hl.1.2.1.trans l2.1.2.1), l1.1.2.2.trans (hl.1.2.2.trans l2.1.2.2)⟩, l1.2.trans (hl.2.trans l2.2)⟩, fun q hq => ?_⟩
    rw [h.cong q (hc q hq) i m hi hm hki hkm (ei.trans em.symm), ← h.cong q (hc q hq) n j hn hj hkn hkj (en.trans ej.symm)]
    exact zip_map_eq hl.2 fun p hp => hq.2 p (hz p hp)
  have hval : ∀ f, (∀ p ∈ E, ndv f G p.1 = ndv f G p.2) → ndv f G a = ndv f G b := fun f hf => (h.sound f hf).2 _ hab
  have hswap : ∀ i j, SameLab G i j → SameLab G j i := fun i j l => ⟨⟨l.1.1.symm, l.1.2.1.symm, l.1.2.2.symm⟩, l.2.symm⟩
  have hxy : ∀ f, (∀ p ∈ E, ndv f G p.1 = ndv f G p.2) → ∀ i j, i < G.length → j < G.length → root i = x → root j = y → ndv f G i = ndv f G j := fun f hf i j hi hj ei ej => by
    have hs := (h.sound f hf).1
    rw [hs i a hi ha (ei.trans hx), hval f hf]
    exact hs b j hb hj (hy.symm.trans ej.symm)
  refine ⟨fun p hp => ?_, h.ebd, fun f hf => ⟨fun i j hi hj e => ?_, fun p hp => ?_⟩, fun i j hi hj hki hkj e => ?_, fun q hq i j hi hj hki hkj e => ?_, fun q hq => h.eqs q (hc q hq)⟩
  · rcases h2 p hp with hp | ⟨m, n, hm, hn, _, _, _, _, hz⟩
    · exact h.bd p hp
    · exact ⟨(hok m hm).mem (List.of_mem_zip hz).1, (hok n hn).mem (List.of_mem_zip hz).2⟩
  · rcases hsplit i j e with e | ⟨e1, e2⟩ | ⟨e1, e2⟩
    · exact (h.sound f hf).1 i j hi hj e
    · exact hxy f hf i j hi hj e1 e2
    · exact (hxy f hf j i hj hi e2 e1).symm
  · rcases h2 p hp with hp | ⟨m, n, hm, hn, hkm, hkn, em, en, hz⟩
    · exact (h.sound f hf).2 p hp
    · exact map_zip_eq (kids_eq (hok m hm) (hok n hn) hkm hkn (hxy f hf m n hm hn em en)) p hz
  · rcases hsplit i j e with e | ⟨e1, e2⟩ | ⟨e1, e2⟩
    · exact h.lab i j hi hj hki hkj e
    · exact (hcross i j hi hj hki hkj e1 e2).1
    · exact hswap _ _ (hcross j i hj hi hkj hki e2 e1).1
  · rcases hsplit i j e with e | ⟨e1, e2⟩ | ⟨e1, e2⟩
    · exact h.cong q (hc q hq) i j hi hj hki hkj e
    · exact (hcross i j hi hj hki hkj e1 e2).2 q hq
    · exact ((hcross j i hj hi hkj hki e2 e1).2 q hq).symm
theorem Mid.apart (h : Mid G root op E) (hok : Ok G) (hab : (a, b) ∈ op) {m n : Nat} (hm : m < G.length) (hn : n < G.length) (hkm : (nd G m).tm.kind ≠ 1) (hkn : (nd G n).tm.kind ≠ 1) (em : root m = root a) (en : root n = root b) (hl : ¬ SameLab G m n) :
    ∀ f, ¬ ∀ p ∈ E, ndv f G p.1 = ndv f G p.2 := fun f hf => by
  obtain ⟨ha, hb⟩ := h.bd _ hab
  have hs := h.sound f hf
  refine Go.Proofs.YtgpglgehlnfggaaGreat.clash (hok m hm) (hok n hn) hkm hkn hl (f := f) ?_
  rw [hs.1 m a hm ha em, hs.2 _ hab]
  exact hs.1 b n hb hn en.symm
theorem wt_merge (hy : y < G.length) (ry : root y = y) (rx : root x = x) (hne : x ≠ y) : wtOf G (mergeR root x y) G.length < wtOf G root G.length := by
  have := wt_union (G := G) rx ry hne G.length
  rw [if_pos hy] at this
  omega
end
def shapeP (G : List Nd) (root : Nat → Nat) (c i : Nat) : Bool := decide (root i = c) && decide ((nd G i).tm.kind ≠ 1)
def varP (G : List Nd) (root : Nat → Nat) (c i : Nat) : Bool := decide (root i = c) && decide ((nd G i).tm.kind = 1)
def leastP (G : List Nd) (root : Nat → Nat) (c i : Nat) : Bool := varP G root c i && (List.range G.length).all fun j => !(varP G root c j) || decide ((nd G i).tm.num ≤ (nd G j).tm.num)
def shapeOf (G : List Nd) (root : Nat → Nat) (c : Nat) : Option Nat := (List.range G.length).find? (shapeP G root c)
def leastOf (G : List Nd) (root : Nat → Nat) (c : Nat) : Option Nat := (List.range G.length).find? (leastP G root c)
def topC (G : List Nd) (root : Nat → Nat) (c : Nat) : Nat := (shapeOf G root c).getD ((leastOf G root c).getD 0)
section
variable {G : List Nd} {root : Nat → Nat} {E : List (Nat × Nat)} {c i : Nat}
theorem shapeOf_some {m : Nat} (h : shapeOf G root c = some m) : m < G.length ∧ root m = c ∧ (nd G m).tm.kind ≠ 1 := by
  unfold shapeOf at h
  have h1 := List.mem_of_find?_eq_some h
  have h2 := List.find?_some h
  simp only [shapeP, Bool.and_eq_true, decide_eq_true_eq] at h2
  exact ⟨by simpa using h1, h2⟩
theorem shapeOf_none (h : shapeOf G root c = none) : ∀ m, m < G.length → root m = c → (nd G m).tm.kind = 1 := fun m hm e => by
  unfold shapeOf at h
  rw [List.find?_eq_none] at h
  have := h m (by simpa using hm)
  apply Classical.byContradiction
  intro hk
  exact this (by simp [shapeP, e, hk])
theorem min_exists {P : Nat → Prop} (f : Nat → Int) : ∀ n, (∃ i, i < n ∧ P i) → ∃ i, i < n ∧ P i ∧ ∀ j, j < n → P j → f i ≤ f j := by
  intro n
  induction n with
  | zero => rintro ⟨i, h, _⟩; omega
  | succ n ih =>
    rintro ⟨i, hi, hp⟩
    by_cases h : ∃ i, i < n ∧ P i
    · obtain ⟨k, h1, h2, h3⟩ := ih h
      by_cases hn : P n ∧ f n < f k
      · refine ⟨n, by omega, hn.1, fun j hj hpj => ?_⟩
        by_cases e : j = n
        · subst e; omega
        · have := h3 j (by omega) hpj; omega
      · refine ⟨k, by omega, h2, fun j hj hpj => ?_⟩
        by_cases e : j = n
        · subst e
          have : ¬ f j < f k := fun h => hn ⟨hpj, h⟩
          omega
        · exact h3 j (by omega) hpj
    · have e : i = n := by
        apply Classical.byContradiction
        intro e
        exact h ⟨i, by omega, hp⟩
      subst e
      refine ⟨i, by omega, hp, fun j hj hpj => ?_⟩
      by_cases e : j = i
      · subst e; omega
      · exact absurd ⟨j, by omega, hpj⟩ h
theorem leastOf_some {v : Nat} (h : leastOf G root c = some v) : v < G.length ∧ root v = c ∧ (nd G v).tm.kind = 1 ∧ ∀ j, j < G.length → root j = c → (nd G j).tm.kind = 1 → (nd G v).tm.num ≤ (nd G j).tm.num := by
  unfold leastOf at h
  have h1 := List.mem_of_find?_eq_some h
  have h2 := List.find?_some h
  simp only [leastP, varP, Bool.and_eq_true, decide_eq_true_eq, List.all_eq_true, List.mem_range, Bool.or_eq_true] at h2
  refine ⟨by simpa using h1, h2.1.1, h2.1.2, fun j hj e hk => ?_⟩
  have := h2.2 j hj
  simpa [e, hk] using this
theorem leastOf_is (h : ∃ i, i < G.length ∧ root i = c ∧ (nd G i).tm.kind = 1) : ∃ v, leastOf G root c = some v := by
  obtain ⟨i, hi, e, hk⟩ := h
  obtain ⟨v, h1, ⟨h2, h2'⟩, h3⟩ := min_exists (P := fun i => root i = c ∧ (nd G i).tm.kind = 1) (fun i => (nd G i).tm.num) G.length ⟨i, hi, e, hk⟩
  have : (leastOf G root c).isSome := by
    unfold leastOf
    rw [List.find?_isSome]
    refine ⟨v, by simpa using h1, ?_⟩
    simp only [leastP, varP, Bool.and_eq_true, decide_eq_true_eq, List.all_eq_true, List.mem_range, Bool.or_eq_true]
    refine ⟨⟨h2, h2'⟩, fun j hj => ?_⟩
    by_cases hj2 : root j = c ∧ (nd G j).tm.kind = 1
    · exact .inr (h3 j hj hj2)
    · left
      by_cases e1 : root j = c
      · have : ¬ (nd G j).tm.kind = 1 := fun h => hj2 ⟨e1, h⟩
        simp [this]
      · simp [e1]
  exact Option.isSome_iff_exists.1 this
theorem topC_shape {m : Nat} (h : shapeOf G root c = some m) : topC G root c = m := by simp [topC, h]
theorem topC_spec (hi : i < G.length) (hc : root i = c) : topC G root c < G.length ∧ root (topC G root c) = c ∧ (shapeOf G root c = none → (nd G (topC G root c)).tm.kind = 1 ∧ leastOf G root c = some (topC G root c)) := by
  cases h : shapeOf G root c with
  | some m =>
    have := shapeOf_some h
    rw [topC_shape h]
    exact ⟨this.1, this.2.1, fun h => by cases h⟩
  | none =>
    obtain ⟨v, hv⟩ := leastOf_is (G := G) (root := root) (c := c) ⟨i, hi, hc, shapeOf_none h i hi hc⟩
    have e : topC G root c = v := by simp [topC, h, hv]
    have := leastOf_some hv
    rw [e]
    exact ⟨this.1, this.2.1, fun _ => ⟨this.2.2.1, hv⟩⟩
def topF (G : List Nd) (root : Nat → Nat) (i : Nat) : Nat := topC G root (root i)
theorem closed_of_mid (h : Mid G root [] E) (hok : Ok G) (hv : VarU G) : Closed G E (topF G root) := by
  have hs : ∀ i, i < G.length → topF G root i < G.length ∧ root (topF G root i) = root i := fun i hi => by
    have := topC_spec (G := G) (root := root) hi rfl
    exact ⟨this.1, this.2.1⟩
  have hcl : ∀ i j, i < G.length → j < G.length → topF G root i = topF G root j → root i = root j := fun i j hi hj e => by rw [← (hs i hi).2, e, (hs j hj).2]
  have hc : Coarse G root [] root := ⟨fun _ _ _ _ e => e, fun p hp => by cases hp⟩
  have hf : ∀ l m : List Nat, l.map root = m.map root → l.map (topF G root) = m.map (topF G root) := fun l m e => by
    have : ∀ l : List Nat, l.map (topF G root) = (l.map root).map (topC G root) := fun l => by rw [List.map_map]; rfl
    rw [this, this, e]
  have hn : ∀ i, i < G.length → (nd G i).tm.kind ≠ 1 → (nd G (topF G root i)).tm.kind ≠ 1 := fun i hi hk => by
    cases h : shapeOf G root (root i) with
    | some m =>
      have := shapeOf_some h
      unfold topF
      rw [topC_shape h]
      exact this.2.2
    | none => exact absurd (shapeOf_none h i hi rfl) hk
  refine ⟨hok, hv, fun i hi => (hs i hi).1, fun i hi => by unfold topF at hs ⊢; rw [(hs i hi).2], fun f hE i j hi hj e => (h.sound f hE).1 i j hi hj (hcl i j hi hj e), fun i j hi hj hki hkj e => ?_, fun p hp => ⟨(h.ebd p hp).1, (h.ebd p hp).2, ?_⟩, hn, fun i hi hk => ?_⟩
  · have e' := hcl i j hi hj e
    exact ⟨(h.lab i j hi hj hki hkj e').1, hf _ _ (h.cong root hc i j hi hj hki hkj e')⟩
  · have := h.eqs root hc p hp
    unfold topF
    rw [this]
  · cases h : shapeOf G root (root i) with
    | some m =>
      have := shapeOf_some h
      unfold topF at hk
      rw [topC_shape h] at hk
      exact absurd hk this.2.2
    | none =>
      have h1 := (topC_spec (G := G) (root := root) hi rfl).2.2 h
      exact (leastOf_some h1.2).2.2.2 i hi rfl (shapeOf_none h i hi rfl)
end
end Go.Proofs.YtgpglgehlnfggaaGreat
namespace Go.Proofs.YtgpglgehlnfggaaGreat
open Go.RowKit
structure FrX (X : Nat → Prop) (w w' : World) : Prop where
  os : w'.os = w.os
  tape : w'.tape = w.tape
  output : w'.output = w.output
  size : w.heap.size ≤ w'.heap.size
  block : ∀ k, k < w.heap.size → ¬ X k → w'.heap[k]? = w.heap[k]?
section
variable {X X' : Nat → Prop} {w w' w1 w2 a : World}
theorem FrX.of (h : Ext w w') : FrX X w w' := ⟨h.os, h.tape, h.output, h.size, fun k hk _ => h.block k hk⟩
theorem FrX.refl (w : World) : FrX X w w := FrX.of (Ext.refl w)
theorem FrX.trans (h : FrX X w w1) (k : FrX X' w1 w2) (hx : ∀ b, b < w.heap.size → X' b → X b) : FrX X w w2 :=
  ⟨k.os.trans h.os, k.tape.trans h.tape, k.output.trans h.output, Nat.le_trans h.size k.size, fun b hb hX => (k.block b (Nat.lt_of_lt_of_le hb h.size) fun e => hX (hx b hb e)).trans (h.block b hb hX)⟩
theorem FrX.mono (h : FrX X w w') (hx : ∀ b, b < w.heap.size → X b → X' b) : FrX X' w w' := ⟨h.os, h.tape, h.output, h.size, fun b hb hX => h.block b hb fun e => hX (hx b hb e)⟩
theorem FrX.cell (h : FrX X w w') {p : Addr} (hp : p.block < w.heap.size) (hX : ¬ X p.block) : w'.cell? p = w.cell? p := World.cell?_of_block (h.block _ hp hX)
theorem FrX.cellv (h : FrX X w w') {p : Addr} {v : Value} (hX : ¬ X p.block) (hc : w.cell? p = some v) : w'.cell? p = some v := (h.cell (World.block_lt_of_cell? _ _ hc) hX).trans hc
theorem FrX.frozen (h : FrX X w w') {p : Addr} (hp : p.block < w.heap.size) (hX : ¬ X p.block) : w'.frozen? p = w.frozen? p := World.frozen?_of_block (h.block _ hp hX)
theorem FrX.row {base : Nat} {e : TypeId} {size n : Nat} {v : Value} {xs : List Value} (h : FrX X w w') (hr : w.ownsRow base e size v n xs) (hv : ∀ b, v.ownBlock = some b → ¬ X b) : w'.ownsRow base e size v n xs := by
  refine ⟨hr.1, ?_⟩
  rcases hr.2 with hn | ⟨g, cap, cur, rfl, hb, hgg, rest⟩
  · exact .inl hn
  · refine .inr ⟨g, cap, cur, rfl, hb, ?_, rest⟩
    rw [h.block g (Array.getElem?_eq_some_iff.1 hgg).1 (hv g rfl)]
    exact hgg
theorem FrX.ext (h : FrX X w w') (hb : Ext a w) (hx : ∀ b, X b → a.heap.size ≤ b) : Ext a w' :=
  Below.trans hb ⟨h.os, h.tape, h.output, h.size, fun k hk => h.block k (Nat.lt_of_lt_of_le hk hb.size) fun e => by have := hx k e; omega⟩
theorem FrX.set (h : FrX X w w') {p : Addr} (hp : p.block < w.heap.size → X p.block) (v : Value) : FrX X w (w'.setCell p v) :=
  ⟨h.os, h.tape, h.output, by simpa [World.setCell] using h.size, fun k hk hX => (Below.heap_setCell _ _ _ _ (fun e => hX (by rw [e]; exact hp (by rw [← e]; exact hk)))).trans (h.block k hk hX)⟩
theorem FrX.grow {row : Option Nat} (h : FrX X w w1) (k : w1.grownBy w2 row) (hr : ∀ b, row = some b → b < w.heap.size → X b) : FrX X w w2 :=
  ⟨k.os.trans h.os, k.tape.trans h.tape, k.output.trans h.output, Nat.le_trans h.size k.size, fun b hb hX => (k.block b (Nat.lt_of_lt_of_le hb h.size) fun e => hX (hr b e.symm hb)).trans (h.block b hb hX)⟩
theorem FrX.alloc (h : FrX X w w') (o : Obj) : FrX X w (w'.alloc o) := h.trans (X' := fun _ => False) (FrX.of (Ext.al _ _)) (fun _ _ h => h.elim)
theorem FrX.drew (h : FrX X w w') : FrX X w w'.drew := ⟨h.os, h.tape, h.output, h.size, h.block⟩
theorem FrX.undrew (h : FrX X w.drew w') : FrX X w w' := ⟨h.os, h.tape, h.output, h.size, h.block⟩
end
def rncells (x : Nd) : List Value := [.int .i64 x.tm.kind, .int .i64 x.tm.num, .string x.tm.name, .slice x.A x.kids.length x.cap]
def rgcells (G : List Nd) : List Value := G.flatMap rncells
theorem rncells_length (x : Nd) : (rncells x).length = 4 := rfl
theorem rgcells_append (l m : List Nd) : rgcells (l ++ m) = rgcells l ++ rgcells m := by simp [rgcells]
theorem rncells_lt {x : Nd} {j : Nat} {u : Value} (h : (rncells x)[j]? = some u) : j < 4 := by
  have := (List.getElem?_eq_some_iff.1 h).1
  simpa [rncells] using this
theorem rgcells_get (G : List Nd) {i j : Nat} (hi : i < G.length) (hj : j < 4) : (rgcells G)[i * 4 + j]? = (rncells (nd G i))[j]? := by
  induction G generalizing i with
  | nil => simp at hi
  | cons t r ih =>
    simp only [rgcells, List.flatMap_cons]
    cases i with
    | zero =>
      rw [List.getElem?_append_left (by rw [rncells_length]; omega)]
      simp [nd]
    | succ i =>
      rw [List.getElem?_append_right (by rw [rncells_length]; omega), rncells_length, show (i + 1) * 4 + j - 4 = i * 4 + j by omega]
      simpa [rgcells, nd] using ih (by simpa using hi)
theorem rnode_info : (Tryz.prog.info? 149).map (fun i => (i.zero, i.size, i.bytes)) = some (some (.agg #[.int .i64 0, .int .i64 0, .string ⟨#[]⟩, .slice none 0 0]), 4, 56) := by kernel_rfl
structure KIn (lo : Nat) (Z : Nat → Prop) (w : World) (x : Nd) : Prop where
  le : x.kids.length ≤ x.cap
  cm : x.cap ≤ maxLen
  cells : 0 < x.kids.length → ∃ b, x.A = some ⟨b, 0, none⟩ ∧ lo ≤ b ∧ b < w.heap.size ∧ ¬ Z b ∧ ∀ j, j < x.kids.length → w.cell? ⟨b, j, none⟩ = some (.int .i64 (x.kids.getD j 0 : Nat))
theorem KIn.fr {lo : Nat} {Z Z' X : Nat → Prop} {w w' : World} {x : Nd} (h : KIn lo Z w x) (k : FrX X w w') (hX : ∀ b, b < w.heap.size → X b → Z b) (hZ : ∀ b, b < w.heap.size → Z' b → Z b) : KIn lo Z' w' x :=
  ⟨h.le, h.cm, fun hp => by
    obtain ⟨b, h1, h2, h3, h4, h5⟩ := h.cells hp
    exact ⟨b, h1, h2, Nat.lt_of_lt_of_le h3 k.size, fun e => h4 (hZ b h3 e), fun j hj => k.cellv (fun e => h4 (hX b h3 e)) (h5 j hj)⟩⟩
structure RFine (x : Nd) : Prop where
  kind : Fits x.tm.kind
  num : Fits x.tm.num
  name : x.tm.name.size ≤ maxLen
  kids : x.kids.length ≤ 1000000
def Own3 (p : Nat) (zL zC : Value) (b : Nat) : Prop := b = p ∨ zL.ownBlock = some b ∨ zC.ownBlock = some b
structure RG (lo : Nat) (Y : Nat → Prop) (w : World) (p : Nat) (zL zC : Value) (G : List Nd) (cls : List Nat) : Prop where
  hl : w.cell? ⟨p, 0, none⟩ = some zL
  hc : w.cell? ⟨p, 1, none⟩ = some zC
  row : w.ownsRow lo 149 4 zL G.length (rgcells G)
  crow : w.ownsRow lo 3 1 zC cls.length (nums cls)
  kids : ∀ i, i < G.length → KIn lo (fun b => Own3 p zL zC b ∨ Y b) w (nd G i)
  nl : zL.ownBlock ≠ some p
  nc : zC.ownBlock ≠ some p
  nn : ∀ b, zL.ownBlock = some b → zC.ownBlock ≠ some b
  lp : lo ≤ p
  fz : ∀ j, w.frozen? ⟨p, j, none⟩ = false
  fine : ∀ i, i < G.length → RFine (nd G i)
  cl : cls.length = G.length
  small : G.length ≤ 1000000
section
variable {lo p : Nat} {Y : Nat → Prop} {w w' : World} {zL zC : Value} {G : List Nd} {cls : List Nat}
theorem RG.lt (h : RG lo Y w p zL zC G cls) : p < w.heap.size := World.block_lt_of_cell? w _ h.hl
theorem RG.ownlt (h : RG lo Y w p zL zC G cls) {b : Nat} (hb : Own3 p zL zC b) : lo ≤ b ∧ b < w.heap.size := by
  rcases hb with rfl | hb | hb
  · exact ⟨h.lp, h.lt⟩
  · exact own_lt h.row b hb
  · exact own_lt h.crow b hb
theorem RG.slices (h : RG lo Y w p zL zC G cls) : (∃ A cap, zL = .slice A G.length cap ∧ G.length ≤ cap ∧ cap ≤ maxLen) ∧ ∃ A cap, zC = .slice A G.length cap ∧ G.length ≤ cap ∧ cap ≤ maxLen := by
  constructor
  · rcases h.row.2 with ⟨rfl, h1⟩ | ⟨q, cap, cur, rfl, hb, hg, hle, hcap, _⟩
    · exact ⟨none, 0, by rw [h1], by omega, Nat.zero_le _⟩
    · exact ⟨_, cap, rfl, hle, hcap⟩
  · have e := h.cl
    rcases h.crow.2 with ⟨rfl, h1⟩ | ⟨q, cap, cur, rfl, hb, hg, hle, hcap, _⟩
    · exact ⟨none, 0, by rw [← e, h1], by omega, Nat.zero_le _⟩
    · exact ⟨_, cap, by rw [e], by omega, hcap⟩
theorem RG.form (h : RG lo Y w p zL zC G cls) (hn : 0 < G.length) : ∃ q c q2 c2, zL = .slice (some ⟨q, 0, none⟩) G.length c ∧ zC = .slice (some ⟨q2, 0, none⟩) G.length c2 ∧ q ≠ p ∧ q2 ≠ p ∧ q ≠ q2 ∧ lo ≤ q ∧ lo ≤ q2 ∧ q < w.heap.size ∧ q2 < w.heap.size := by
  have e := h.cl
  obtain ⟨q, c, e1, a1, a2⟩ := World.ownsRow.form h.row hn
  obtain ⟨q2, c2, e2, b1, b2⟩ := World.ownsRow.form h.crow (by omega)
  rw [e] at e2
  refine ⟨q, c, q2, c2, e1, e2, fun x => h.nl (by rw [e1, x]; rfl), fun x => h.nc (by rw [e2, x]; rfl), fun x => ?_, a1, b1, a2, b2⟩
  exact h.nn q (by rw [e1]; rfl) (by rw [e2, x]; rfl)
theorem RG.cellAt {q c n : Nat} (h : RG lo Y w p (.slice (some ⟨q, 0, none⟩) n c) zC G cls) {i j : Nat} {u : Value} (hi : i < G.length) (hu : (rncells (nd G i))[j]? = some u) : w.cell? ⟨q, i * 4 + j, none⟩ = some u := by
  have hj := rncells_lt hu
  have hrow := h.row
  obtain rfl : n = G.length := by
    rcases hrow.2 with ⟨e, _⟩ | ⟨_, _, _, e, _⟩
    · injection e with e; cases e
    · injection e
  rw [World.ownsRow.cellAt hrow (i * 4 + j) (by omega)]
  exact (rgcells_get G hi hj).trans hu
theorem RG.cells {q c n : Nat} (h : RG lo Y w p (.slice (some ⟨q, 0, none⟩) n c) zC G cls) {i : Nat} (hi : i < G.length) :
    w.cell? ⟨q, i * 4, none⟩ = some (.int .i64 (nd G i).tm.kind) ∧ w.cell? ⟨q, i * 4 + 1, none⟩ = some (.int .i64 (nd G i).tm.num) ∧ w.cell? ⟨q, i * 4 + 2, none⟩ = some (.string (nd G i).tm.name) ∧ w.cell? ⟨q, i * 4 + 3, none⟩ = some (.slice (nd G i).A (nd G i).kids.length (nd G i).cap) :=
  ⟨h.cellAt (j := 0) hi rfl, h.cellAt (j := 1) hi rfl, h.cellAt (j := 2) hi rfl, h.cellAt (j := 3) hi rfl⟩
theorem RG.class {q c n : Nat} (h : RG lo Y w p zL (.slice (some ⟨q, 0, none⟩) n c) G cls) {i : Nat} (hi : i < G.length) : w.cell? ⟨q, i, none⟩ = some (.int .i64 (clsR cls i : Nat)) := by
  have hrow := h.crow
  have e := h.cl
  obtain rfl : n = cls.length := by
    rcases hrow.2 with ⟨e, _⟩ | ⟨_, _, _, e, _⟩
    · injection e with e; cases e
    · injection e
  rw [nums_cell hrow (v := i) (by omega), clsR_get (by omega)]
theorem RG.free {q c n : Nat} (h : RG lo Y w p zL (.slice (some ⟨q, 0, none⟩) n c) G cls) (j : Nat) : w.frozen? ⟨q, j, none⟩ = false := by
  have hrow := h.crow
  obtain rfl : n = cls.length := by
    rcases hrow.2 with ⟨e, _⟩ | ⟨_, _, _, e, _⟩
    · injection e with e; cases e
    · injection e
  exact World.ownsRow.frozenAt hrow j
theorem RG.ext (h : RG lo Y w p zL zC G cls) (e : Ext w w') : RG lo Y w' p zL zC G cls :=
  ⟨keepv e h.hl, keepv e h.hc, own_below h.row e, own_below h.crow e, fun i hi => (h.kids i hi).fr (X := fun _ => False) (FrX.of e) (fun _ _ h => h.elim) (fun _ _ h => h), h.nl, h.nc, h.nn, h.lp, fun j => (e.frozen (p := ⟨p, j, none⟩) h.lt).trans (h.fz j), h.fine, h.cl, h.small⟩
theorem RG.alloc (h : RG lo Y w p zL zC G cls) (o : Obj) : RG lo Y (w.alloc o) p zL zC G cls := h.ext (Ext.al _ _)
theorem RG.drew (h : RG lo Y w p zL zC G cls) : RG lo Y w.drew p zL zC G cls := h.ext ⟨rfl, rfl, rfl, Nat.le_refl _, fun _ _ => rfl⟩
theorem RG.fr {X : Nat → Prop} (h : RG lo Y w p zL zC G cls) (k : FrX X w w') (hX : ∀ b, b < w.heap.size → X b → ¬ Own3 p zL zC b ∧ Y b) : RG lo Y w' p zL zC G cls :=
  ⟨k.cellv (fun e => (hX p h.lt e).1 (.inl rfl)) h.hl, k.cellv (fun e => (hX p h.lt e).1 (.inl rfl)) h.hc, k.row h.row (fun b hb e => (hX b (own_lt h.row b hb).2 e).1 (.inr (.inl hb))), k.row h.crow (fun b hb e => (hX b (own_lt h.crow b hb).2 e).1 (.inr (.inr hb))),
    fun i hi => (h.kids i hi).fr k (fun b hb e => .inr (hX b hb e).2) (fun _ _ h => h), h.nl, h.nc, h.nn, h.lp, fun j => (k.frozen (p := ⟨p, j, none⟩) h.lt (fun e => (hX p h.lt e).1 (.inl rfl))).trans (h.fz j), h.fine, h.cl, h.small⟩
theorem RG.out {Y' : Nat → Prop} (h : RG lo Y w p zL zC G cls) (hY : ∀ b, b < w.heap.size → Y' b → Y b) : RG lo Y' w p zL zC G cls :=
  ⟨h.hl, h.hc, h.row, h.crow, fun i hi => (h.kids i hi).fr (X := fun _ => False) (FrX.refl w) (fun _ _ h => h.elim) (fun b hb e => e.imp id (hY b hb)), h.nl, h.nc, h.nn, h.lp, h.fz, h.fine, h.cl, h.small⟩
theorem RG.setClass {q c n i x : Nat} (h : RG lo Y w p zL (.slice (some ⟨q, 0, none⟩) n c) G cls) : RG lo Y (w.setCell ⟨q, i, none⟩ (.int .i64 (x : Nat))) p zL (.slice (some ⟨q, 0, none⟩) n c) G (cls.set i x) := by
  have hqp : q ≠ p := fun e => h.nc (by rw [e]; rfl)
  have hf : FrX (fun b => b = q) w (w.setCell ⟨q, i, none⟩ (.int .i64 (x : Nat))) := FrX.set (X := fun b => b = q) (FrX.refl w) (p := ⟨q, i, none⟩) (fun _ => rfl) _
  have hrow := h.crow
  obtain rfl : n = cls.length := by
    rcases hrow.2 with ⟨e, _⟩ | ⟨_, _, _, e, _⟩
    · injection e with e; cases e
    · injection e
  refine ⟨hf.cellv (fun e => hqp e.symm) h.hl, hf.cellv (fun e => hqp e.symm) h.hc, hf.row h.row (fun b hb e => h.nn b hb (by rw [e]; rfl)), ?_, fun k hk => (h.kids k hk).fr hf (fun b _ e => .inl (.inr (.inr (by rw [e]; rfl)))) (fun _ _ h => h), h.nl, h.nc, h.nn, h.lp, fun j => by rw [World.frozen?_setCell]; exact h.fz j, h.fine, by rw [List.length_set]; exact h.cl, h.small⟩
  rw [List.length_set]
  exact nums_set hrow i x
end
end Go.Proofs.YtgpglgehlnfggaaGreat
namespace Go.Proofs.YtgpglgehlnfggaaGreat
open Go.RowKit
def shapeI (G : List Nd) (root : Nat → Nat) (c : Nat) : Int := match shapeOf G root c with
  | some m => (m : Int)
  | none => -1
theorem shape_first {G : List Nd} {root : Nat → Nat} {c j : Nat} (h : ∀ i, i < j → shapeP G root c i = false) (hj : j < G.length) (hp : shapeP G root c j = true) : shapeI G root c = (j : Int) := by
  have : shapeOf G root c = some j := by
    unfold shapeOf
    rw [List.find?_range_eq_some]
    exact ⟨hp, by simpa using hj, fun i hi => by simp [h i hi]⟩
  unfold shapeI
  rw [this]
theorem shape_no {G : List Nd} {root : Nat → Nat} {c : Nat} (h : ∀ i, i < G.length → shapeP G root c i = false) : shapeI G root c = -1 := by
  have : shapeOf G root c = none := by
    unfold shapeOf
    rw [List.find?_eq_none]
    intro i hi
    simp [h i (by simpa using hi)]
  unfold shapeI
  rw [this]
theorem shapeI_cases (G : List Nd) (root : Nat → Nat) (c : Nat) : (shapeOf G root c = none ∧ shapeI G root c = -1) ∨ ∃ m : Nat, shapeOf G root c = some m ∧ shapeI G root c = (m : Int) := by
  unfold shapeI
  cases h : shapeOf G root c with
  | none => exact .inl ⟨rfl, rfl⟩
  | some m => exact .inr ⟨m, rfl, rfl⟩
set_option maxHeartbeats 2000000 in
theorem shape_at {lo p c : Nat} {Y : Nat → Prop} {w : World} {zL zC : Value} {G : List Nd} {cls : List Nat} (h : RG lo Y w p zL zC G cls) :
    Calls Tryz.prog 166 #[.pointer (some ⟨p, 0, none⟩), .int .i64 (c : Nat)] w fun e w' => e = .returned (.int .i64 (shapeI G (clsR cls) c)) ∧ w = w' := by
  obtain ⟨⟨A, ca, rfl, _⟩, B, cb, rfl, _⟩ := h.slices
  have h0 := h.hl
  have h1 := h.hc
  have hsm := h.small
  have HG := Lib.hid h
  obtain ⟨r, hr⟩ : ∃ r, shapeI G (clsR cls) c = r := ⟨_, rfl⟩
  have HR := Lib.hid hr
  rw [hr]
  clear h hr
  go_enter Tryz.func166, Tryz.ntmps166
  go_wp2_with fail
  go_loopw [5] (fun i wr => ∃ j : Nat, j ≤ G.length ∧ i = .int .i64 (j : Nat) ∧ Hid (∀ i, i < j → shapeP G (clsR cls) c i = false) ∧ w = wr) (fun i _ => G.length - (intOf i).toNat)
  case atStart => exact ⟨0, Nat.zero_le _, rfl, Lib.hid fun i hi => by omega, rfl⟩
  case round =>
    obtain ⟨j, hj, rfl, HF, rfl⟩ := hrel
    by_cases hlt : j < G.length
    · obtain ⟨q, c1, q2, c2, e1, e2, _⟩ := HG.out.form (by omega)
      injection e1 with e1 _ e1'
      injection e2 with e2 _ e2'
      subst e1 e1' e2 e2'
      have d0 := (HG.out.cells hlt).1
      have d4 := HG.out.class hlt
      have HS := Lib.hid (fun hp => shape_first HF.out hlt hp)
      have HN := Lib.hid (fun (hp : shapeP G (clsR cls) c j = false) => show ∀ i, i < j + 1 → shapeP G (clsR cls) c i = false from fun i hi => by
        by_cases e : i = j
        · rw [e]; exact hp
        · exact HF.out i (by omega))
      by_cases he : clsR cls j = c
      · have he' : (((clsR cls j : Nat) : Int) == ((c : Nat) : Int)) = true := by simp [he]
        by_cases hk : (nd G j).tm.kind = 1
        · have HE := Lib.hid (HN.out (by simp [shapeP, hk]))
          have hk' : ((nd G j).tm.kind != 1) = false := by simp [hk]
          clear hk he HS HN HF
          generalize clsR cls j = cj at *
          generalize (nd G j).tm.kind = kj at *
          go_wp2_with fail
          go_roundw
          case rel => exact ⟨j + 1, by omega, by go_num, HE, trivial⟩
          case measure => simp [intOf]; omega
        · have HE := Lib.hid (HS.out (by simp [shapeP, hk, he]))
          have hk' : ((nd G j).tm.kind != 1) = true := by simp [hk]
          clear hk he HS HN HF
          generalize clsR cls j = cj at *
          generalize (nd G j).tm.kind = kj at *
          go_wp2_with fail
          go_ret
          exact ⟨by rw [← HR.out, HE.out]; rfl, rfl⟩
      · have HE := Lib.hid (HN.out (by simp [shapeP, he]))
        have he' : (((clsR cls j : Nat) : Int) == ((c : Nat) : Int)) = false := by simp; omega
        clear he HS HN HF
        generalize clsR cls j = cj at *
        go_wp2_with fail
        go_roundw
        case rel => exact ⟨j + 1, by omega, by go_num, HE, trivial⟩
        case measure => simp [intOf]; omega
    · obtain rfl : j = G.length := by omega
      have HE := Lib.hid (show -1 = r by rw [← HR.out, shape_no HF.out])
      go_wp2_with fail
      go_ret
      exact ⟨by rw [← HE.out]; rfl, rfl⟩
def LeastUp (G : List Nd) (root : Nat → Nat) (c j : Nat) (v : Int) : Prop :=
  (v = -1 ∧ ∀ i, i < j → varP G root c i = false) ∨ ∃ m, m < j ∧ varP G root c m = true ∧ v = (nd G m).tm.num ∧ ∀ i, i < j → varP G root c i = true → (nd G m).tm.num ≤ (nd G i).tm.num
theorem LeastUp.skip {G : List Nd} {root : Nat → Nat} {c j : Nat} {v : Int} (h : LeastUp G root c j v) (hp : varP G root c j = false) : LeastUp G root c (j + 1) v := by
  rcases h with ⟨rfl, h⟩ | ⟨m, h1, h2, h3, h4⟩
  · exact .inl ⟨rfl, fun i hi => by
      by_cases e : i = j
      · rw [e]; exact hp
      · exact h i (by omega)⟩
  · exact .inr ⟨m, by omega, h2, h3, fun i hi hv => by
      by_cases e : i = j
      · rw [e, hp] at hv; cases hv
      · exact h4 i (by omega) hv⟩
theorem LeastUp.keep {G : List Nd} {root : Nat → Nat} {c j : Nat} {v : Int} (h : LeastUp G root c j v) (h0 : ¬ v < 0) (hn : ¬ (nd G j).tm.num < v) : LeastUp G root c (j + 1) v := by
  rcases h with ⟨rfl, h⟩ | ⟨m, h1, h2, h3, h4⟩
  · omega
  · exact .inr ⟨m, by omega, h2, h3, fun i hi hv => by
      by_cases e : i = j
      · rw [e]; omega
      · exact h4 i (by omega) hv⟩
theorem LeastUp.take {G : List Nd} {root : Nat → Nat} {c j : Nat} {v : Int} (h : LeastUp G root c j v) (hp : varP G root c j = true) (hn : v < 0 ∨ (nd G j).tm.num < v) (hpos : ∀ i, i < j → varP G root c i = true → 0 ≤ (nd G i).tm.num) : LeastUp G root c (j + 1) (nd G j).tm.num := by
  refine .inr ⟨j, by omega, hp, rfl, fun i hi hv => ?_⟩
  by_cases e : i = j
  · rw [e]; exact Int.le_refl _
  · rcases h with ⟨rfl, h⟩ | ⟨m, h1, h2, h3, h4⟩
    · rw [h i (by omega)] at hv; cases hv
    · have a1 := h4 i (by omega) hv
      have a2 := hpos m h1 h2
      omega
theorem LeastUp.is {G : List Nd} {root : Nat → Nat} {c t : Nat} {v : Int} (h : LeastUp G root c G.length v) (ht : leastOf G root c = some t) : v = (nd G t).tm.num := by
  obtain ⟨h1, h2, h3, h4⟩ := leastOf_some ht
  have hv : varP G root c t = true := by simp [varP, h2, h3]
  rcases h with ⟨rfl, h⟩ | ⟨m, a1, a2, a3, a4⟩
  · rw [h t h1] at hv; cases hv
  · have b1 := a4 t h1 hv
    simp only [varP, Bool.and_eq_true, decide_eq_true_eq] at a2
    have b2 := h4 m a1 a2.1 a2.2
    omega
set_option maxHeartbeats 4000000 in
theorem least_at {lo p c : Nat} {Y : Nat → Prop} {w : World} {zL zC : Value} {G : List Nd} {cls : List Nat} (h : RG lo Y w p zL zC G cls) (hf : ∀ i, i < G.length → (nd G i).tm.form = true) :
    Calls Tryz.prog 167 #[.pointer (some ⟨p, 0, none⟩), .int .i64 (c : Nat)] w fun e w' => ∃ v, e = .returned (.int .i64 v) ∧ LeastUp G (clsR cls) c G.length v ∧ w = w' := by
  obtain ⟨⟨A, ca, rfl, _⟩, B, cb, rfl, _⟩ := h.slices
  have h0 := h.hl
  have h1 := h.hc
  have hsm := h.small
  have HG := Lib.hid h
  have HP := Lib.hid (show ∀ i, i < G.length → varP G (clsR cls) c i = true → 0 ≤ (nd G i).tm.num from fun i hi hv => by
    simp only [varP, Bool.and_eq_true, decide_eq_true_eq] at hv
    exact (form_var (hf i hi) hv.2).2.1)
  clear h hf
  go_enter Tryz.func167, Tryz.ntmps167
  go_wp2_with fail
  go_loopw [5, 6] (fun s5 i wr => ∃ (v : Int) (j : Nat), j ≤ G.length ∧ s5 = .int .i64 v ∧ i = .int .i64 (j : Nat) ∧ Hid (LeastUp G (clsR cls) c j v) ∧ w = wr) (fun _ i _ => G.length - (intOf i).toNat)
  case atStart => exact ⟨-1, 0, Nat.zero_le _, rfl, rfl, Lib.hid (.inl ⟨rfl, fun i hi => by omega⟩), rfl⟩
  case round =>
    obtain ⟨v, j, hj, rfl, rfl, HF, rfl⟩ := hrel
    by_cases hlt : j < G.length
    · obtain ⟨q, c1, q2, c2, e1, e2, _⟩ := HG.out.form (by omega)
      injection e1 with e1 _ e1'
      injection e2 with e2 _ e2'
      subst e1 e1' e2 e2'
      have d0 := (HG.out.cells hlt).1
      have d1 := (HG.out.cells hlt).2.1
      have d4 := HG.out.class hlt
      by_cases he : clsR cls j = c
      · have he' : (((clsR cls j : Nat) : Int) == ((c : Nat) : Int)) = true := by simp [he]
        by_cases hk : (nd G j).tm.kind = 1
        · have hk' : ((nd G j).tm.kind == 1) = true := by simp [hk]
          have hvp : varP G (clsR cls) c j = true := by simp [varP, hk, he]
          have HT := Lib.hid (fun hn => HF.out.take hvp hn (fun i hi => HP.out i (by omega)))
          have HK := Lib.hid (fun h0 hn => HF.out.keep h0 hn)
          clear hk he HF hvp
          generalize clsR cls j = cj at *
          generalize (nd G j).tm.kind = kj at *
          generalize (nd G j).tm.num = nj at *
          by_cases hv : v < 0
          · have hv' : decide (v < 0) = true := decide_eq_true hv
            have HE := Lib.hid (HT.out (.inl hv))
            clear HT HK hv
            go_wp2_with fail
            go_roundw
            case rel => exact ⟨nj, j + 1, by omega, rfl, by go_num, HE, trivial⟩
            case measure => simp [intOf]; omega
          · have hv' : decide (v < 0) = false := decide_eq_false hv
            by_cases hn : nj < v
            · have hn' : decide (nj < v) = true := decide_eq_true hn
              have HE := Lib.hid (HT.out (.inr hn))
              clear HT HK hv hn
              go_wp2_with fail
              go_roundw
              case rel => exact ⟨nj, j + 1, by omega, rfl, by go_num, HE, trivial⟩
              case measure => simp [intOf]; omega
            · have hn' : decide (nj < v) = false := decide_eq_false hn
              have HE := Lib.hid (HK.out hv hn)
              clear HT HK hv hn
              go_wp2_with fail
              go_roundw
              case rel => exact ⟨v, j + 1, by omega, rfl, by go_num, HE, trivial⟩
              case measure => simp [intOf]; omega
        · have HE := Lib.hid (HF.out.skip (by simp [varP, hk]))
          have hk' : ((nd G j).tm.kind == 1) = false := by simp [hk]
          clear hk he HF
          generalize clsR cls j = cj at *
          generalize (nd G j).tm.kind = kj at *
          go_wp2_with fail
          go_roundw
          case rel => exact ⟨v, j + 1, by omega, rfl, by go_num, HE, trivial⟩
          case measure => simp [intOf]; omega
      · have HE := Lib.hid (HF.out.skip (by simp [varP, he]))
        have he' : (((clsR cls j : Nat) : Int) == ((c : Nat) : Int)) = false := by simp; omega
        clear he HF
        generalize clsR cls j = cj at *
        go_wp2_with fail
        go_roundw
        case rel => exact ⟨v, j + 1, by omega, rfl, by go_num, HE, trivial⟩
        case measure => simp [intOf]; omega
    · obtain rfl : j = G.length := by omega
      go_wp2_with fail
      go_ret
      exact ⟨_, rfl, HF.out, rfl⟩
end Go.Proofs.YtgpglgehlnfggaaGreat
namespace Go.Proofs.YtgpglgehlnfggaaGreat
open Go.RowKit
def remap (x y c : Nat) : Nat := if c = y then x else c
def mixed (cls : List Nat) (x y j : Nat) : List Nat := (cls.take j).map (remap x y) ++ cls.drop j
theorem mixed_zero (cls : List Nat) (x y : Nat) : mixed cls x y 0 = cls := by simp [mixed]
theorem mixed_all (cls : List Nat) (x y : Nat) {n : Nat} (h : cls.length = n) : mixed cls x y n = cls.map (remap x y) := by
  subst h
  simp [mixed]
theorem mixed_len (cls : List Nat) (x y j : Nat) : (mixed cls x y j).length = cls.length := by
  simp [mixed]; omega
theorem mixed_at {cls : List Nat} {x y j : Nat} (h : j < cls.length) : clsR (mixed cls x y j) j = clsR cls j := by
  rw [clsR_get (by rw [mixed_len]; exact h), clsR_get h]
  simp only [mixed, List.getD]
  rw [List.getElem?_append_right (by simp; omega), List.length_map, List.length_take, Nat.min_eq_left (by omega), Nat.sub_self, List.getElem?_drop]
  simp
theorem mixed_next {cls : List Nat} {x y j : Nat} (h : j < cls.length) : mixed cls x y (j + 1) = (mixed cls x y j).set j (remap x y (clsR cls j)) := by
  have e : cls.drop j = clsR cls j :: cls.drop (j + 1) := by
    rw [clsR_get h]
    simp [List.getD, h]
  simp only [mixed]
  rw [e, List.set_append_right _ _ (by simp; omega), List.length_map, List.length_take, Nat.min_eq_left (by omega), Nat.sub_self, List.set_cons_zero, List.take_succ_eq_append_getElem h, List.map_append, List.append_assoc]
  congr 1
  rw [clsR_get h]
  simp [List.getD, h]
theorem mixed_same {cls : List Nat} {x y j : Nat} (h : j < cls.length) (hn : clsR cls j ≠ y) : mixed cls x y (j + 1) = mixed cls x y j := by
  rw [mixed_next h]
  have e := mixed_at (x := x) (y := y) h
  unfold remap
  rw [if_neg hn, ← e, clsR_get (by rw [mixed_len]; exact h)]
  refine List.ext_getElem? fun m => ?_
  rw [List.getElem?_set]
  split
  · rename_i e; subst e
    rw [if_pos (by rw [mixed_len]; exact h)]
    simp [List.getD, show j < (mixed cls x y j).length by rw [mixed_len]; exact h]
  · rfl
section
variable {G : List Nd} {cls : List Nat} {op E : List (Nat × Nat)} {a b x y : Nat}
theorem rmap_root (hy : y < cls.length) : clsR (cls.map (remap x y)) = mergeR (clsR cls) x y := clsR_map hy
theorem merge_var (h : Mid G (clsR cls) ((a, b) :: op) E) (hok : Ok G) (hx : x = clsR cls a) (hy : y = clsR cls b) (hne : x ≠ y) (hs : shapeOf G (clsR cls) x = none ∨ shapeOf G (clsR cls) y = none) : Mid G (mergeR (clsR cls) x y) op E :=
  h.merge hok (List.mem_cons_self) hx hy hne (fun p hp => by rcases List.mem_cons.1 hp with h | h; exact .inl h; exact .inr h) (fun p hp => .inl (List.mem_cons_of_mem _ hp)) fun m n hm hn hkm hkn em en => by
    rcases hs with hs | hs
    · exact absurd (shapeOf_none hs m hm em) hkm
    · exact absurd (shapeOf_none hs n hn en) hkn
theorem merge_fun (h : Mid G (clsR cls) ((a, b) :: op) E) (hok : Ok G) (hx : x = clsR cls a) (hy : y = clsR cls b) (hne : x ≠ y) {m n : Nat} (hm : shapeOf G (clsR cls) x = some m) (hn : shapeOf G (clsR cls) y = some n) (hl : SameLab G m n) :
    Mid G (mergeR (clsR cls) x y) ((nd G m).kids.zip (nd G n).kids ++ op) E := by
  obtain ⟨a1, a2, a3⟩ := shapeOf_some hm
  obtain ⟨b1, b2, b3⟩ := shapeOf_some hn
  refine h.merge hok (List.mem_cons_self) hx hy hne (fun p hp => ?_) (fun p hp => ?_) fun m' n' _ _ _ _ _ _ => ⟨m, n, a1, b1, a3, b3, a2, b2, hl, fun p hp => List.mem_append.2 (.inl hp)⟩
  · rcases List.mem_cons.1 hp with h | h
    · exact .inl h
    · exact .inr (List.mem_append.2 (.inr h))
  · rcases List.mem_append.1 hp with h | h
    · exact .inr ⟨m, n, a1, b1, a3, b3, a2, b2, h⟩
    · exact .inl (List.mem_cons_of_mem _ h)
theorem merge_apart (h : Mid G (clsR cls) ((a, b) :: op) E) (hok : Ok G) {m n : Nat} (hm : shapeOf G (clsR cls) (clsR cls a) = some m) (hn : shapeOf G (clsR cls) (clsR cls b) = some n) (hl : ¬ SameLab G m n) : ∀ f, ¬ ∀ p ∈ E, ndv f G p.1 = ndv f G p.2 := by
  obtain ⟨a1, a2, a3⟩ := shapeOf_some hm
  obtain ⟨b1, b2, b3⟩ := shapeOf_some hn
  exact h.apart hok (List.mem_cons_self) a1 b1 a3 b3 a2 b2 hl
theorem zip_drop {l m : List Nat} {j : Nat} (h1 : j < l.length) (h2 : j < m.length) : (l.zip m).drop j = (l.getD j 0, m.getD j 0) :: (l.zip m).drop (j + 1) := by
  rw [List.drop_eq_getElem_cons (by rw [List.length_zip]; omega)]
  simp [List.getD, h1, h2]
end
def JoinO (lo : Nat) (Y : Nat → Prop) (p : Nat) (zL zC : Value) (G : List Nd) (cls : List Nat) (op E : List (Nat × Nat)) (w : World) (e : Ending) (w' : World) : Prop :=
  ∃ (ok : Bool) (cls' : List Nat), e = .returned (.bool ok) ∧ RG lo Y w' p zL zC G cls' ∧ FrX (fun b => zC.ownBlock = some b) w w' ∧ (ok = true → Mid G (clsR cls') op E ∧ Roots G (clsR cls') ∧ wtOf G (clsR cls') G.length ≤ wtOf G (clsR cls) G.length) ∧ (ok = false → ∀ f, ¬ ∀ p ∈ E, ndv f G p.1 = ndv f G p.2)
theorem JoinO.yes {lo p : Nat} {Y : Nat → Prop} {zL zC : Value} {G : List Nd} {cls cls' : List Nat} {op E : List (Nat × Nat)} {w w' : World} (h1 : RG lo Y w' p zL zC G cls') (h2 : FrX (fun b => zC.ownBlock = some b) w w') (h3 : Mid G (clsR cls') op E) (h4 : Roots G (clsR cls')) (h5 : wtOf G (clsR cls') G.length ≤ wtOf G (clsR cls) G.length) :
    JoinO lo Y p zL zC G cls op E w (.returned (.bool true)) w' := ⟨true, cls', rfl, h1, h2, fun _ => ⟨h3, h4, h5⟩, fun h => (by cases h)⟩
theorem JoinO.no {lo p : Nat} {Y : Nat → Prop} {zL zC : Value} {G : List Nd} {cls cls' : List Nat} {op E : List (Nat × Nat)} {w w' : World} (h1 : RG lo Y w' p zL zC G cls') (h2 : FrX (fun b => zC.ownBlock = some b) w w') (h3 : ∀ f, ¬ ∀ p ∈ E, ndv f G p.1 = ndv f G p.2) :
    JoinO lo Y p zL zC G cls op E w (.returned (.bool false)) w' := ⟨false, cls', rfl, h1, h2, fun h => (by cases h), fun _ => h3⟩
end Go.Proofs.YtgpglgehlnfggaaGreat
