/-
  Contract of find of the program: the node that stands for a class; the way there is shortened.
  What holds while classes are joined, plainly: pairs of nodes are still open; a pair is done, two classes become one. No program.
  The order of the nodes, plainly: how often a class is still used; what an order is; nodes that are left over. No program.
  Contracts of sameFunctor and remains of the program.
-/
import Derived.Test.YtelkmnjoboekmaaGreatProg
import Derived.Test.YtelkmnjoboekmaaGreatMb6
import Derived.BigRegion
import Derived.StillTailTactics
namespace Go.Proofs.YtelkmnjoboekmaaGreat
open Go.RowKit

/-- The chains of nodes: root: where they end; r goes down along them. -/
structure UF (G : List Nd) (root r : Nat → Nat) : Prop where
  lt : ∀ i, i < G.length → (nd G i).next < G.length
  step : ∀ i, i < G.length → root (nd G i).next = root i
  fix : ∀ i, i < G.length → ((nd G i).next = i ↔ root i = i)
  dec : ∀ i, i < G.length → (nd G i).next ≠ i → r (nd G i).next < r i
/-- The same nodes but for their next ones. -/
def Alike (G H : List Nd) : Prop := H.length = G.length ∧ ∀ i, i < G.length → ∃ k, nd H i = { nd G i with next := k }
theorem Alike.refl (G : List Nd) : Alike G G := ⟨rfl, fun i _ => ⟨(nd G i).next, rfl⟩⟩
theorem Alike.trans {G H I : List Nd} (h : Alike G H) (k : Alike H I) : Alike G I := ⟨k.1.trans h.1, fun i hi => by
  obtain ⟨a, ha⟩ := h.2 i hi
  obtain ⟨b, hb⟩ := k.2 i (by rw [h.1]; exact hi)
  exact ⟨b, by rw [hb, ha]⟩⟩
theorem Alike.set {G : List Nd} {i : Nat} (hi : i < G.length) (k : Nat) : Alike G (G.set i { nd G i with next := k }) := ⟨by simp, fun j hj => by
  rw [nd_set _ _ _ _ hi]
  split
  · rename_i h; exact ⟨k, by rw [h]⟩
  · exact ⟨(nd G j).next, rfl⟩⟩
theorem Alike.tm {G H : List Nd} (h : Alike G H) {i : Nat} (hi : i < G.length) : (nd H i).tm = (nd G i).tm ∧ (nd H i).kids = (nd G i).kids ∧ (nd H i).A = (nd G i).A ∧ (nd H i).cap = (nd G i).cap := by
  obtain ⟨k, hk⟩ := h.2 i hi
  rw [hk]
  exact ⟨rfl, rfl, rfl, rfl⟩
section
variable {G : List Nd} {root r : Nat → Nat}
theorem UF.root_lt (h : UF G root r) : ∀ i, i < G.length → root i < G.length ∧ root (root i) = root i := by
  suffices H : ∀ n i, i < G.length → r i < n → root i < G.length ∧ root (root i) = root i from fun i hi => H _ i hi (Nat.lt_succ_self _)
  intro n
  induction n with
  | zero => intro i _ h; omega
  | succ n ih =>
    intro i hi hn
    by_cases hk : (nd G i).next = i
    · have := (h.fix i hi).1 hk
      rw [this]; exact ⟨hi, this⟩
    · have h1 := h.dec i hi hk
      have h2 := ih _ (h.lt i hi) (by omega)
      rw [h.step i hi] at h2
      exact h2
/-- The way is shortened by one step. -/
theorem UF.halve (h : UF G root r) {i : Nat} (hi : i < G.length) (hk : (nd G i).next ≠ i) : UF (G.set i { nd G i with next := (nd G (nd G i).next).next }) root r := by
  have hl := h.lt i hi
  have hd := h.dec i hi hk
  have hle : r (nd G (nd G i).next).next ≤ r (nd G i).next := by
    by_cases h2 : (nd G (nd G i).next).next = (nd G i).next
    · rw [h2]; exact Nat.le_refl _
    · exact Nat.le_of_lt (h.dec _ hl h2)
  refine ⟨fun j hj => ?_, fun j hj => ?_, fun j hj => ?_, fun j hj hn => ?_⟩
  all_goals
    rw [List.length_set] at hj
    rw [nd_set _ _ _ _ hi] at *
  · rw [List.length_set]
    split
    · exact h.lt _ hl
    · exact h.lt j hj
  · split
    · rename_i e; subst e
      show root (nd G (nd G j).next).next = root j
      rw [h.step _ hl, h.step j hj]
    · exact h.step j hj
  · split
    · rename_i e; subst e
      show (nd G (nd G j).next).next = j ↔ root j = j
      constructor
      · intro e; rw [e] at hle; omega
      · intro e; exact absurd ((h.fix j hj).2 e) hk
    · exact h.fix j hj
  · by_cases e : j = i
    · subst e
      rw [if_pos rfl]
      show r (nd G (nd G j).next).next < r j
      omega
    · rw [if_neg e] at hn ⊢
      exact h.dec j hj hn
end

def Found (lo : Nat) (X : Nat → Prop) (p : Nat) (z : Value) (G : List Nd) (root r : Nat → Nat) (i : Nat) (w : World) (e : Ending) (w' : World) : Prop :=
  ∃ H, e = .returned (.int .i64 (root i : Nat)) ∧ Alike G H ∧ UF H root r ∧ Gph lo X w' p z H ∧ w.grownBy w' z.ownBlock ∧ w'.heap.size = w.heap.size

/-- In the loop: on the way at j. -/
def Finding (lo : Nat) (X : Nat → Prop) (p q cap : Nat) (G : List Nd) (root r : Nat → Nat) (i j : Nat) (w wr : World) : Prop :=
  ∃ H, root j = root i ∧ Alike G H ∧ UF H root r ∧ Gph lo X wr p (.slice (some ⟨q, 0, none⟩) G.length cap) H ∧ w.grownBy wr (some q) ∧ wr.heap.size = w.heap.size

theorem Finding.drew {lo : Nat} {X : Nat → Prop} {p q cap : Nat} {G : List Nd} {root r : Nat → Nat} {i j : Nat} {w wr : World} (h : Finding lo X p q cap G root r i j w wr) : Finding lo X p q cap G root r i j w wr.drew := by
  obtain ⟨H, e1, e2, e3, e4, e5, e6⟩ := h
  exact ⟨H, e1, e2, e3, e4.drew, fr_drew e5, e6⟩

set_option maxHeartbeats 2000000 in
theorem ufind_at {lo : Nat} {X : Nat → Prop} {p : Nat} {z : Value} {G : List Nd} {root r : Nat → Nat} {i : Nat} {w : World} (h : Gph lo X w p z G) (hu : UF G root r) (hi : i < G.length) :
    Calls Tryz.prog 72 #[.pointer (some ⟨p, 0, none⟩), .int .i64 (i : Nat)] w (Found lo X p z G root r i w) := by
  obtain ⟨q, cap, rfl, _⟩ := h.form (by omega)
  have hsm := h.small
  have H0 := Lib.hid (show Finding lo X p q cap G root r i i w w from ⟨G, rfl, Alike.refl _, hu, h, fr_refl _ _, rfl⟩)
  clear h hu
  go_enter Tryz.func72, Tryz.ntmps72
  go_wp2_with fail
  go_loopw [1] (fun s1 wr => ∃ j : Nat, s1 = .int .i64 (j : Nat) ∧ j < G.length ∧ Hid (Finding lo X p q cap G root r i j w wr)) (fun s1 _ => r (intOf s1).toNat)
  case atStart => exact ⟨i, rfl, hi, H0⟩
  case round =>
    clear H0
    obtain ⟨j, rfl, hj, HF⟩ := hrel
    obtain ⟨H, e1, e2, e3, e4, e5, e6⟩ := HF.out
    have hjH : j < H.length := by rw [e2.1]; exact hj
    obtain ⟨k, hk⟩ : ∃ k, k = (nd H j).next := ⟨_, rfl⟩
    have hkl : k < H.length := by rw [hk]; exact e3.lt j hjH
    have hkn : k < G.length := by rw [← e2.1]; exact hkl
    have c0 := e4.hdr
    have c5 := (e4.cells hjH).2.2.2.2.2
    rw [← hk] at c5
    by_cases hkj : k = j
    · subst hkj
      have hne : ((k : Int) != (k : Int)) = false := by simp
      have hr : root k = k := (e3.fix k hjH).1 hk.symm
      have HE := Lib.hid (show Found lo X p (.slice (some ⟨q, 0, none⟩) G.length cap) G root r i w (.returned (.int .i64 (k : Nat))) wr from ⟨H, by rw [← e1, hr], e2, e3, e4, e5, e6⟩)
      clear e1 e2 e3 e4 e5 e6 hk HF hr hkl hjH
      go_wp2_with fail
      go_ret
      exact HE.out
    · have hne : ((k : Int) != (j : Int)) = true := by simp; omega
      have d5 := (e4.cells hkl).2.2.2.2.2
      obtain ⟨m, hm⟩ : ∃ m, m = (nd H k).next := ⟨_, rfl⟩
      rw [← hm] at d5
      have fz := e4.free (j * 6 + 5)
      have hml : m < G.length := by rw [← e2.1, hm]; exact e3.lt k hkl
      have hq : (⟨q, j * 6 + 5, none⟩ : Addr) ≠ ⟨q, k * 6 + 5, none⟩ := fun e => by injection e with _ e _; omega
      have hpq : p ≠ q := fun e => e4.np (by rw [e]; rfl)
      have hmr : r m < r j := by
        have a1 := e3.dec j hjH (by omega)
        by_cases h2 : m = k
        · rw [h2]; rw [← hk] at a1; exact a1
        · have a2 := e3.dec k hkl (by omega)
          rw [← hk] at a1; rw [← hm] at a2; omega
      have HE := Lib.hid (show Finding lo X p q cap G root r i m w (wr.setCell ⟨q, j * 6 + 5, none⟩ (.int .i64 (m : Nat))) from by
        have a1 := e3.halve hjH (by omega)
        rw [← hk, ← hm] at a1
        refine ⟨_, ?_, e2.trans (Alike.set hjH m), a1, e4.setNext hjH, fr_set e5 rfl _, by simpa [World.setCell] using e6⟩
        rw [← e1, hm, e3.step k hkl, hk, e3.step j hjH])
      have g0 : (wr.setCell ⟨q, j * 6 + 5, none⟩ (.int .i64 (m : Nat))).cell? ⟨p, 0, none⟩ = some (.slice (some ⟨q, 0, none⟩) G.length cap) := by
        obtain ⟨_, _, _, _, a, _⟩ := HE.out; exact a.hdr
      clear e1 e2 e3 e4 e5 e6 hk hm HF hkl hjH
      go_wp2_with fail
      go_region
      all_goals
        go_wp2_with fail
        go_roundw
        case rel => exact ⟨m, rfl, hml, Lib.hid HE.out.drew⟩
        case measure => simpa [intOf] using hmr
end Go.Proofs.YtelkmnjoboekmaaGreat
namespace Go.Proofs.YtelkmnjoboekmaaGreat
open Go

/-- q makes no difference within a class, nor between the nodes of an open pair. -/
def Coarse (G : List Nd) (root : Nat → Nat) (op : List (Nat × Nat)) (q : Nat → Nat) : Prop := (∀ i j, i < G.length → j < G.length → root i = root j → q i = q j) ∧ ∀ p ∈ op, q p.1 = q p.2
def SameLab (G : List Nd) (i j : Nat) : Prop := ((nd G i).tm.kind = (nd G j).tm.kind ∧ (nd G i).tm.num = (nd G j).tm.num ∧ (nd G i).tm.name = (nd G j).tm.name) ∧ (nd G i).kids.length = (nd G j).kids.length
/-- The classes (root), the open pairs, the equations so far. -/
structure Mid (G : List Nd) (root : Nat → Nat) (op E : List (Nat × Nat)) : Prop where
  bd : ∀ p ∈ op, p.1 < G.length ∧ p.2 < G.length
  ebd : ∀ p ∈ E, p.1 < G.length ∧ p.2 < G.length
  sound : ∀ f, (∀ p ∈ E, ndv f G p.1 = ndv f G p.2) → (∀ i j, i < G.length → j < G.length → root i = root j → ndv f G i = ndv f G j) ∧ ∀ p ∈ op, ndv f G p.1 = ndv f G p.2
  lab : ∀ i j, i < G.length → j < G.length → (nd G i).tm.kind ≠ 1 → (nd G j).tm.kind ≠ 1 → root i = root j → SameLab G i j
  cong : ∀ q, Coarse G root op q → ∀ i j, i < G.length → j < G.length → (nd G i).tm.kind ≠ 1 → (nd G j).tm.kind ≠ 1 → root i = root j → (nd G i).kids.map q = (nd G j).kids.map q
  eqs : ∀ q, Coarse G root op q → ∀ p ∈ E, q p.1 = q p.2
/-- What stands for a class is no variable if it can, else the smallest one. -/
structure Tops (G : List Nd) (root : Nat → Nat) : Prop where
  nonvar : ∀ i, i < G.length → (nd G i).tm.kind ≠ 1 → (nd G (root i)).tm.kind ≠ 1
  least : ∀ i, i < G.length → (nd G (root i)).tm.kind = 1 → (nd G (root i)).tm.num ≤ (nd G i).tm.num
section
variable {G : List Nd} {root : Nat → Nat} {op op' E : List (Nat × Nat)} {a b i k : Nat}
/-- An open pair whose nodes are in one class is done. -/
theorem Mid.pop (h : Mid G root op E) (h1 : ∀ p ∈ op, p = (a, b) ∨ p ∈ op') (h2 : ∀ p ∈ op', p ∈ op) (ha : a < G.length) (hb : b < G.length) (e : root a = root b) : Mid G root op' E := by
  have hc : ∀ q, Coarse G root op' q → Coarse G root op q := fun q hq => ⟨hq.1, fun p hp => by
    rcases h1 p hp with rfl | hp
    · exact hq.1 a b ha hb e
    · exact hq.2 p hp⟩
  exact ⟨fun p hp => h.bd p (h2 p hp), h.ebd, fun f hf => ⟨(h.sound f hf).1, fun p hp => (h.sound f hf).2 p (h2 p hp)⟩, h.lab, fun q hq => h.cong q (hc q hq), fun q hq => h.eqs q (hc q hq)⟩
/-- A new equation. -/
theorem Mid.push (h : Mid G root op E) (ha : a < G.length) (hb : b < G.length) : Mid G root ((a, b) :: op) (E ++ [(a, b)]) := by
  have hc : ∀ q, Coarse G root ((a, b) :: op) q → Coarse G root op q ∧ q a = q b := fun q hq => ⟨⟨hq.1, fun p hp => hq.2 p (List.mem_cons_of_mem _ hp)⟩, hq.2 (a, b) (by simp)⟩
  refine ⟨fun p hp => ?_, fun p hp => ?_, fun f hf => ?_, h.lab, fun q hq => h.cong q (hc q hq).1, fun q hq p hp => ?_⟩
  · rcases List.mem_cons.1 hp with rfl | hp
    · exact ⟨ha, hb⟩
    · exact h.bd p hp
  · rcases List.mem_append.1 hp with hp | hp
    · exact h.ebd p hp
    · rw [List.mem_singleton.1 hp]; exact ⟨ha, hb⟩
  · have hs := h.sound f fun p hp => hf p (List.mem_append.2 (.inl hp))
    refine ⟨hs.1, fun p hp => ?_⟩
    rcases List.mem_cons.1 hp with rfl | hp
    · exact hf (a, b) (by simp)
    · exact hs.2 p hp
  · rcases List.mem_append.1 hp with hp | hp
    · exact h.eqs q (hc q hq).1 p hp
    · rw [List.mem_singleton.1 hp]; exact (hc q hq).2
/-- Two classes become one. -/
def mergeR (root : Nat → Nat) (i k : Nat) : Nat → Nat := fun j => if root j = k then i else root j
theorem roots_eq (h : Mid G root op E) (hab : (a, b) ∈ op) (rl : ∀ j, j < G.length → root j < G.length ∧ root (root j) = root j) (hik : (i = root a ∧ k = root b) ∨ (i = root b ∧ k = root a)) {f : Int → Tm} (hf : ∀ p ∈ E, ndv f G p.1 = ndv f G p.2) : ndv f G i = ndv f G k := by
  obtain ⟨ha, hb⟩ := h.bd _ hab
  have hs := h.sound f hf
  have e : ndv f G a = ndv f G b := hs.2 _ hab
  have ea : ndv f G (root a) = ndv f G a := hs.1 _ _ (rl a ha).1 ha (rl a ha).2
  have eb : ndv f G (root b) = ndv f G b := hs.1 _ _ (rl b hb).1 hb (rl b hb).2
  rcases hik with ⟨rfl, rfl⟩ | ⟨rfl, rfl⟩
  · rw [ea, eb, e]
  · rw [ea, eb, e]
theorem Mid.clash (h : Mid G root op E) (hok : Ok G) (hab : (a, b) ∈ op) (rl : ∀ j, j < G.length → root j < G.length ∧ root (root j) = root j) (hik : (i = root a ∧ k = root b) ∨ (i = root b ∧ k = root a))
    (hi : i < G.length) (hk : k < G.length) (hki : (nd G i).tm.kind ≠ 1) (hkk : (nd G k).tm.kind ≠ 1) (hl : ¬ SameLab G i k) : ∀ f, ¬ ∀ p ∈ E, ndv f G p.1 = ndv f G p.2 := fun _ hf =>
  Go.Proofs.YtelkmnjoboekmaaGreat.clash (hok i hi) (hok k hk) hki hkk hl (roots_eq h hab rl hik hf)
theorem zip_map_eq {α β : Type} {q : α → β} : ∀ {l m : List α}, l.length = m.length → (∀ p ∈ l.zip m, q p.1 = q p.2) → l.map q = m.map q
  | [], [], _, _ => rfl
  | [], _ :: _, h, _ => by simp at h
  | _ :: _, [], h, _ => by simp at h
  | x :: l, y :: m, h, hq => by
    simp only [List.zip_cons_cons, List.mem_cons, forall_eq_or_imp] at hq
    rw [List.map_cons, List.map_cons, hq.1, zip_map_eq (by simpa using h) hq.2]
theorem map_zip_eq {α β : Type} {q : α → β} : ∀ {l m : List α}, l.map q = m.map q → ∀ p ∈ l.zip m, q p.1 = q p.2
  | [], _, _, p, hp => by simp at hp
  | _ :: _, [], _, p, hp => by simp at hp
  | x :: l, y :: m, h, p, hp => by
    simp only [List.map_cons, List.cons.injEq] at h
    rcases List.mem_cons.1 hp with rfl | hp
    · exact h.1
    · exact map_zip_eq h.2 p hp
theorem Mid.union (h : Mid G root op E) (hok : Ok G) (ht : Tops G root) (hab : (a, b) ∈ op) (rl : ∀ j, j < G.length → root j < G.length ∧ root (root j) = root j) (hik : (i = root a ∧ k = root b) ∨ (i = root b ∧ k = root a)) (hne : i ≠ k)
    (hrem : (nd G i).tm.kind = 1 → (nd G k).tm.kind = 1 ∧ (nd G i).tm.num ≤ (nd G k).tm.num)
    (h1 : ∀ p ∈ op, p = (a, b) ∨ p ∈ op') (h2 : ∀ p ∈ op', p ∈ op ∨ ((nd G k).tm.kind ≠ 1 ∧ p ∈ (nd G i).kids.zip (nd G k).kids)) (h3 : (nd G k).tm.kind ≠ 1 → SameLab G i k ∧ ∀ p ∈ (nd G i).kids.zip (nd G k).kids, p ∈ op') :
    Mid G (mergeR root i k) op' E ∧ Tops G (mergeR root i k) := by
  obtain ⟨ha, hb⟩ := h.bd _ hab
  have hi : i < G.length := by rcases hik with ⟨rfl, _⟩ | ⟨rfl, _⟩ <;> exact (rl _ (by assumption)).1
  have hk : k < G.length := by rcases hik with ⟨_, rfl⟩ | ⟨_, rfl⟩ <;> exact (rl _ (by assumption)).1
  have ri : root i = i := by rcases hik with ⟨rfl, _⟩ | ⟨rfl, _⟩ <;> exact (rl _ (by assumption)).2
  have rk : root k = k := by rcases hik with ⟨_, rfl⟩ | ⟨_, rfl⟩ <;> exact (rl _ (by assumption)).2
  have hmono : ∀ x y, root x = root y → mergeR root i k x = mergeR root i k y := fun x y e => by unfold mergeR; rw [e]
  have hmab : mergeR root i k a = mergeR root i k b := by
    unfold mergeR
    rcases hik with ⟨rfl, rfl⟩ | ⟨rfl, rfl⟩
    · rw [if_neg hne, if_pos rfl]
    · rw [if_pos rfl, if_neg hne]
  have hkv : (nd G k).tm.kind ≠ 1 → (nd G i).tm.kind ≠ 1 := fun hkk hki => hkk (hrem hki).1
  have hc : ∀ q, Coarse G (mergeR root i k) op' q → Coarse G root op q := fun q hq => ⟨fun x y hx hy e => hq.1 x y hx hy (hmono x y e), fun p hp => by
    rcases h1 p hp with rfl | hp
    · exact hq.1 a b ha hb hmab
    · exact hq.2 p hp⟩
  have hzip : ∀ q, Coarse G (mergeR root i k) op' q → (nd G k).tm.kind ≠ 1 → (nd G i).kids.map q = (nd G k).kids.map q := fun q hq hkk =>
    zip_map_eq (h3 hkk).1.2 fun p hp => hq.2 p ((h3 hkk).2 p hp)
  -- a node of a class that is no variable: its class's is none
  have hroot : ∀ x, x < G.length → (nd G x).tm.kind ≠ 1 → SameLab G x (root x) ∧ ∀ q, Coarse G root op q → (nd G x).kids.map q = (nd G (root x)).kids.map q := fun x hx hkx =>
    ⟨h.lab x (root x) hx (rl x hx).1 hkx (ht.nonvar x hx hkx) (rl x hx).2.symm, fun q hq => h.cong q hq x (root x) hx (rl x hx).1 hkx (ht.nonvar x hx hkx) (rl x hx).2.symm⟩
  have hlab' : ∀ x, x < G.length → (nd G x).tm.kind ≠ 1 → SameLab G x (mergeR root i k x) ∧ (nd G (mergeR root i k x)).tm.kind ≠ 1 ∧ ∀ q, Coarse G (mergeR root i k) op' q → (nd G x).kids.map q = (nd G (mergeR root i k x)).kids.map q := fun x hx hkx => by
    have hr := hroot x hx hkx
    have hn := ht.nonvar x hx hkx
    unfold mergeR
    split
    · rename_i e
      rw [e] at hr hn
      have h4 := (h3 hn).1
      refine ⟨⟨⟨hr.1.1.1.trans h4.1.1.symm, hr.1.1.2.1.trans h4.1.2.1.symm, hr.1.1.2.2.trans h4.1.2.2.symm⟩, hr.1.2.trans h4.2.symm⟩, hkv hn, fun q hq => ?_⟩
      rw [hr.2 q (hc q hq), hzip q hq hn]
    · exact ⟨hr.1, hn, fun q hq => hr.2 q (hc q hq)⟩
  refine ⟨⟨fun p hp => ?_, h.ebd, fun f hf => ?_, fun x y hx hy hkx hky e => ?_, fun q hq x y hx hy hkx hky e => ?_, fun q hq => h.eqs q (hc q hq)⟩, ⟨fun x hx hkx => (hlab' x hx hkx).2.1, fun x hx hv => ?_⟩⟩
  · rcases h2 p hp with hp | ⟨_, hp⟩
    · exact h.bd p hp
    · exact ⟨(hok i hi).mem (List.of_mem_zip hp).1, (hok k hk).mem (List.of_mem_zip hp).2⟩
  · have hs := h.sound f hf
    have hv := roots_eq h hab rl hik hf
    have hm : ∀ x, x < G.length → ndv f G x = ndv f G (mergeR root i k x) := fun x hx => by
      have e : ndv f G (root x) = ndv f G x := hs.1 _ _ (rl x hx).1 hx (rl x hx).2
      unfold mergeR
      split
      · rename_i e'; rw [hv, ← e', e]
      · exact e.symm
    refine ⟨fun x y hx hy e => by rw [hm x hx, hm y hy, e], fun p hp => ?_⟩
    rcases h2 p hp with hp | ⟨hkk, hp⟩
    · exact hs.2 p hp
    · exact map_zip_eq (kids_eq (hok i hi) (hok k hk) (hkv hkk) hkk hv) p hp
  · have h4 := (hlab' x hx hkx).1
    have h5 := (hlab' y hy hky).1
    rw [e] at h4
    exact ⟨⟨h4.1.1.trans h5.1.1.symm, h4.1.2.1.trans h5.1.2.1.symm, h4.1.2.2.trans h5.1.2.2.symm⟩, h4.2.trans h5.2.symm⟩
  · rw [(hlab' x hx hkx).2.2 q hq, e, ← (hlab' y hy hky).2.2 q hq]
  · unfold mergeR at hv ⊢
    split at hv
    · rename_i e
      rw [if_pos e]
      have hkk := hrem hv
      have := ht.least x hx (by rw [e]; exact hkk.1)
      rw [e] at this
      omega
    · rename_i e
      rw [if_neg e]
      exact ht.least x hx hv
/-- The chains behind it. -/
theorem UF.union {r : Nat → Nat} (h : UF G root r) (hi : i < G.length) (hk : k < G.length) (ri : root i = i) (rk : root k = k) (hne : i ≠ k) :
    UF (G.set k { nd G k with next := i }) (mergeR root i k) (fun j => if root j = k then r j + r i + 1 else r j) := by
  have hl : ∀ j, j < G.length → root j < G.length ∧ root (root j) = root j := h.root_lt
  refine ⟨fun j hj => ?_, fun j hj => ?_, fun j hj => ?_, fun j hj hn => ?_⟩
  all_goals
    rw [List.length_set] at hj
    rw [nd_set _ _ _ _ hk] at *
  · rw [List.length_set]
    split
    · exact hi
    · exact h.lt j hj
  · by_cases e : j = k
    · subst e
      rw [if_pos rfl]
      show mergeR root i j i = mergeR root i j j
      unfold mergeR
      rw [if_pos rk, if_neg (by rw [ri]; exact hne), ri]
    · rw [if_neg e]
      unfold mergeR
      rw [h.step j hj]
  · by_cases e : j = k
    · subst e
      rw [if_pos rfl]
      show i = j ↔ mergeR root i j j = j
      unfold mergeR
      rw [if_pos rk]
    · rw [if_neg e]
      rw [h.fix j hj]
      unfold mergeR
      split
      · rename_i e1
        constructor
        · intro e2; rw [e1] at e2; exact absurd e2.symm e
        · intro e2; rw [← e2, ri] at e1; exact absurd e1 hne
      · exact Iff.rfl
  · by_cases e : j = k
    · subst e
      rw [if_pos rfl]
      show (if root i = j then r i + r i + 1 else r i) < if root j = j then r j + r i + 1 else r j
      rw [if_neg (by rw [ri]; exact hne), if_pos rk]
      omega
    · rw [if_neg e] at hn ⊢
      have h1 := h.dec j hj hn
      rw [h.step j hj]
      split <;> omega
end

/-- What is still to be done at most: each class counts one more than its node has arguments. -/
def wtOf (G : List Nd) (root : Nat → Nat) : Nat → Nat
  | 0 => 0
  | n + 1 => wtOf G root n + if root n = n then 1 + (nd G n).kids.length else 0
theorem wt_union {G : List Nd} {root : Nat → Nat} {i k : Nat} (ri : root i = i) (rk : root k = k) (hne : i ≠ k) : ∀ n, wtOf G (mergeR root i k) n + (if k < n then 1 + (nd G k).kids.length else 0) = wtOf G root n := by
  intro n
  induction n with
  | zero => simp [wtOf]
  | succ n ih =>
    simp only [wtOf]
    by_cases e : n = k
    · subst e
      rw [if_neg (by omega)] at ih
      have : mergeR root i n n = i := by unfold mergeR; rw [if_pos rk]
      rw [if_pos rk, this, if_neg hne, if_pos (Nat.lt_succ_self n)]
      omega
    · have e1 : (mergeR root i k n = n) ↔ root n = n := by
        unfold mergeR
        split
        · rename_i e1
          constructor
          · intro e2; rw [← e2, ri] at e1; exact absurd e1 hne
          · intro e2; rw [e1] at e2; exact absurd e2.symm e
        · exact Iff.rfl
      have e2 : (if mergeR root i k n = n then 1 + (nd G n).kids.length else 0) = if root n = n then 1 + (nd G n).kids.length else 0 := by
        by_cases h : root n = n
        · rw [if_pos h, if_pos (e1.2 h)]
        · rw [if_neg h, if_neg fun h' => h (e1.1 h')]
      rw [e2]
      by_cases h : k < n
      · rw [if_pos h] at ih; rw [if_pos (show k < n + 1 by omega)]; omega
      · rw [if_neg h] at ih; rw [if_neg (show ¬ k < n + 1 by omega)]; omega
end Go.Proofs.YtelkmnjoboekmaaGreat
namespace Go.Proofs.YtelkmnjoboekmaaGreat
open Go

def sumTo (f : Nat → Nat) : Nat → Nat
  | 0 => 0
  | n + 1 => sumTo f n + f n
theorem sumTo_congr {f g : Nat → Nat} {n : Nat} (h : ∀ j, j < n → f j = g j) : sumTo f n = sumTo g n := by
  induction n with
  | zero => rfl
  | succ n ih => simp only [sumTo]; rw [ih fun j hj => h j (by omega), h n (by omega)]
theorem sumTo_zero {f : Nat → Nat} {n : Nat} : sumTo f n = 0 ↔ ∀ j, j < n → f j = 0 := by
  induction n with
  | zero => simp [sumTo]
  | succ n ih =>
    simp only [sumTo]
    constructor
    · intro h j hj
      by_cases e : j = n
      · subst e; omega
      · exact ih.1 (by omega) j (by omega)
    · intro h
      rw [ih.2 fun j hj => h j (by omega), h n (by omega)]
/-- All but one stay. -/
theorem sumTo_except {f g : Nat → Nat} {k n : Nat} (hk : k < n) (h : ∀ j, j < n → j ≠ k → f j = g j) : sumTo f n + g k = sumTo g n + f k := by
  induction n with
  | zero => omega
  | succ n ih =>
    simp only [sumTo]
    by_cases e : k = n
    · subst e
      rw [sumTo_congr fun j hj => h j (by omega) (by omega)]
      omega
    · have := ih (by omega) fun j hj => h j (by omega)
      rw [h n (by omega) (by omega)]
      omega
theorem sumTo_le {f : Nat → Nat} {n B : Nat} (h : ∀ j, j < n → f j ≤ B) : sumTo f n ≤ n * B := by
  induction n with
  | zero => simp [sumTo]
  | succ n ih =>
    have h1 := ih fun j hj => h j (by omega)
    have h2 := h n (by omega)
    simp only [sumTo]
    rw [Nat.succ_mul]
    omega
/-- How often the arguments of node j lead to class v. -/
def uses (G : List Nd) (root : Nat → Nat) (v j : Nat) : Nat := ((nd G j).kids.map root).count v
theorem uses_le (G : List Nd) (root : Nat → Nat) (v j : Nat) : uses G root v j ≤ (nd G j).kids.length := by
  unfold uses
  have := List.count_le_length (a := v) (l := (nd G j).kids.map root)
  simpa using this
theorem uses_pos {G : List Nd} {root : Nat → Nat} {v j : Nat} : uses G root v j ≠ 0 ↔ ∃ c ∈ (nd G j).kids, root c = v := by
  unfold uses
  rw [Ne, List.count_eq_zero, Decidable.not_not, List.mem_map]
/-- .. of all nodes but those that are done. -/
def left (G : List Nd) (root : Nat → Nat) (done : List Nat) (v : Nat) : Nat := sumTo (fun j => if j ∈ done then 0 else uses G root v j) G.length
theorem left_next {G : List Nd} {root : Nat → Nat} {done : List Nat} {i v : Nat} (hi : i < G.length) (hn : i ∉ done) : left G root (done ++ [i]) v + uses G root v i = left G root done v := by
  unfold left
  have := sumTo_except (f := fun j => if j ∈ done ++ [i] then 0 else uses G root v j) (g := fun j => if j ∈ done then 0 else uses G root v j) hi fun j _ hj => by simp [hj]
  simp only [hn, if_false, List.mem_append, List.mem_singleton, or_true, if_true, Nat.add_zero] at this
  simp only [List.mem_append, List.mem_singleton]
  exact this
/-- The order so far: at nodes are done, and rest is how often the arguments of the node under way, that are still to come, lead to a class. -/
structure Ordering (G : List Nd) (root : Nat → Nat) (ord : List Nat) (at_ : Nat) (rest : List Nat) (us : List Nat) : Prop where
  nodup : ord.Nodup
  lt : ∀ i ∈ ord, i < G.length
  len : us.length = G.length
  cnt : ∀ v, v < G.length → us.getD v 0 = left G root (ord.take at_) v + rest.count v
  mem : ∀ v, v < G.length → (v ∈ ord ↔ us.getD v 0 = 0)
  pre : ∀ s, s < ord.length → ∀ j, j < G.length → uses G root (ord.getD s 0) j ≠ 0 → j ∈ ord.take s
section
variable {G : List Nd} {root : Nat → Nat} {ord rest us : List Nat} {at_ : Nat}
theorem nat_getD_mem {l : List Nat} {i : Nat} (h : i < l.length) : l.getD i 0 ∈ l := by
  simp only [List.getD, List.getElem?_eq_getElem h, Option.getD_some]
  exact List.getElem_mem h
theorem nat_take_next {l : List Nat} {i : Nat} (h : i < l.length) : l.take (i + 1) = l.take i ++ [l.getD i 0] := by
  rw [List.take_succ_eq_append_getElem h]
  simp [List.getD, List.getElem?_eq_getElem h]
theorem nodup_take {l : List Nat} (h : l.Nodup) {i : Nat} (hi : i < l.length) : l.getD i 0 ∉ l.take i := by
  intro hm
  obtain ⟨j, hj, e⟩ := List.mem_iff_getElem.1 hm
  rw [List.length_take] at hj
  rw [List.getElem_take] at e
  have e2 : l.getD i 0 = l[i] := by simp [List.getD, List.getElem?_eq_getElem hi]
  rw [e2] at e
  have := (List.getElem_inj h).1 e
  omega
/-- The next node's arguments come. -/
theorem Ordering.start (h : Ordering G root ord at_ [] us) (ha : at_ < ord.length) : Ordering G root ord (at_ + 1) ((nd G (ord.getD at_ 0)).kids.map root) us := by
  refine ⟨h.nodup, h.lt, h.len, fun v hv => ?_, h.mem, h.pre⟩
  have h1 := left_next (G := G) (root := root) (done := ord.take at_) (v := v) (h.lt _ (nat_getD_mem ha)) (nodup_take h.nodup ha)
  rw [← nat_take_next ha] at h1
  rw [h.cnt v hv, List.count_nil, ← h1]
  rfl
theorem count_cons' (x v : Nat) (l : List Nat) : (x :: l).count v = (if x = v then 1 else 0) + l.count v := by
  rw [List.count_cons]
  by_cases h : x = v
  · simp [h, Nat.add_comm]
  · simp [h]
/-- One argument more, of a class that is used further. -/
theorem Ordering.down {x : Nat} (h : Ordering G root ord at_ (x :: rest) us) (hx : x < G.length) :
    us.getD x 0 ≠ 0 ∧ (us.getD x 0 ≠ 1 → Ordering G root ord at_ rest (us.set x (us.getD x 0 - 1))) ∧
    (us.getD x 0 = 1 → at_ ≤ ord.length → Ordering G root (ord ++ [x]) at_ rest (us.set x (us.getD x 0 - 1))) := by
  have hxl : x < us.length := by rw [h.len]; exact hx
  have hne : us.getD x 0 ≠ 0 := by
    rw [h.cnt x hx, count_cons', if_pos rfl]
    omega
  have hset : ∀ v, (us.set x (us.getD x 0 - 1)).getD v 0 = if v = x then us.getD x 0 - 1 else us.getD v 0 := fun v => by
    by_cases e : v = x
    · subst e; simp [List.getD, hxl]
    · rw [if_neg e]; simp [List.getD, Ne.symm e]
  have hus : ∀ v, v < G.length → (us.set x (us.getD x 0 - 1)).getD v 0 = left G root (ord.take at_) v + rest.count v := fun v hv => by
    rw [hset]
    have h1 := h.cnt v hv
    rw [count_cons'] at h1
    by_cases e : v = x
    · subst e
      rw [if_pos rfl] at h1 ⊢
      omega
    · rw [if_neg (Ne.symm e)] at h1
      rw [if_neg e]
      omega
  have hxo : x ∉ ord := fun hm => hne ((h.mem x hx).1 hm)
  refine ⟨hne, fun h1 => ⟨h.nodup, h.lt, by rw [List.length_set]; exact h.len, hus, fun v hv => ?_, h.pre⟩, fun h1 ha => ?_⟩
  · rw [hset]
    by_cases e : v = x
    · subst e
      rw [if_pos rfl]
      exact ⟨fun hm => absurd hm hxo, fun h2 => by omega⟩
    · rw [if_neg e]; exact h.mem v hv
  · have htk : (ord ++ [x]).take at_ = ord.take at_ := List.take_append_of_le_length ha
    refine ⟨?_, fun i hi => ?_, by rw [List.length_set]; exact h.len, fun v hv => by rw [htk]; exact hus v hv, fun v hv => ?_, fun s hs j hj hu => ?_⟩
    · rw [List.nodup_append]
      refine ⟨h.nodup, by simp, fun y hy z hz e => ?_⟩
      rw [List.mem_singleton.1 hz] at e
      exact hxo (e ▸ hy)
    · rcases List.mem_append.1 hi with hi | hi
      · exact h.lt i hi
      · rw [List.mem_singleton.1 hi]; exact hx
    · rw [hset]
      by_cases e : v = x
      · subst e
        rw [if_pos rfl]
        exact ⟨fun _ => by omega, fun _ => by simp⟩
      · rw [if_neg e, ← h.mem v hv]
        simp [e]
    · by_cases hs2 : s < ord.length
      · have e : (ord ++ [x]).getD s 0 = ord.getD s 0 := by simp [List.getD, List.getElem?_append_left hs2]
        rw [e] at hu
        rw [List.take_append_of_le_length (by omega)]
        exact h.pre s hs2 j hj hu
      · obtain rfl : s = ord.length := by simp at hs; omega
        have e : (ord ++ [x]).getD ord.length 0 = x := by simp [List.getD]
        rw [e] at hu
        rw [List.take_append_of_le_length (Nat.le_refl _), List.take_length]
        -- nothing is left of x
        have h2 := hus x hx
        rw [hset, if_pos rfl] at h2
        have h3 : left G root (ord.take at_) x = 0 := by omega
        unfold left at h3
        have h4 := sumTo_zero.1 h3 j hj
        split at h4
        · rename_i hm; exact List.mem_of_mem_take hm
        · exact absurd h4 hu
theorem Ordering.bound (h : Ordering G root ord at_ rest us) {B : Nat} (hB : ∀ j, j < G.length → (nd G j).kids.length ≤ B) {v : Nat} (hv : v < G.length) : us.getD v 0 ≤ G.length * B + rest.length := by
  rw [h.cnt v hv]
  have h1 : left G root (ord.take at_) v ≤ G.length * B := sumTo_le fun j hj => by
    have := uses_le G root v j
    have := hB j hj
    split <;> omega
  have h2 := List.count_le_length (a := v) (l := rest)
  omega
theorem nodup_sub : ∀ (l m : List Nat), l.Nodup → (∀ x ∈ l, x ∈ m) → l.length ≤ m.length := by
  intro l
  induction l with
  | nil => intro m _ _; exact Nat.zero_le _
  | cons x r ih =>
    intro m h hs
    have hp := List.nodup_cons.1 h
    have hx := hs x (by simp)
    have h1 := ih (m.erase x) hp.2 fun y hy => by
      have hne : y ≠ x := fun e => hp.1 (e ▸ hy)
      exact (List.mem_erase_of_ne hne).2 (hs y (by simp [hy]))
    have h2 := List.length_erase_of_mem hx
    have h3 := List.length_pos_of_mem hx
    simp only [List.length_cons]
    omega
theorem pigeon : ∀ (n : Nat) (l : List Nat), l.Nodup → (∀ i ∈ l, i < n) → l.length ≤ n ∧ (l.length = n → ∀ v, v < n → v ∈ l) := by
  intro n
  induction n with
  | zero =>
    intro l _ hl
    cases l with
    | nil => exact ⟨Nat.le_refl _, fun _ v hv => absurd hv (Nat.not_lt_zero _)⟩
    | cons x r => exact absurd (hl x (by simp)) (Nat.not_lt_zero _)
  | succ n ih =>
    intro l h hl
    by_cases hn : n ∈ l
    · have h1 := ih (l.erase n) (h.erase n) fun i hi => by
        have := (h.mem_erase_iff.1 hi)
        have := hl i this.2
        omega
      have h2 := List.length_erase_of_mem hn
      have h3 : 0 < l.length := List.length_pos_of_mem hn
      refine ⟨by omega, fun e v hv => ?_⟩
      by_cases hvn : v = n
      · rw [hvn]; exact hn
      · exact List.mem_of_mem_erase (h1.2 (by omega) v (by omega))
    · have h1 := ih l h fun i hi => by
        have := hl i hi
        have : i ≠ n := fun e => hn (e ▸ hi)
        omega
      exact ⟨by omega, fun e => by omega⟩
/-- All nodes are in order: there is a rank. -/
theorem Ordering.ranked (h : Ordering G root ord ord.length [] us) (hn : ord.length = G.length) (hl : ∀ i, i < G.length → root i < G.length ∧ root (root i) = root i) (hok : Ok G) : Ranked G root (fun v => G.length - ord.idxOf v) (G.length + 1) := by
  have hall : ∀ v, v < G.length → v ∈ ord := fun v hv => by
    rw [h.mem v hv, h.cnt v hv, List.take_length, List.count_nil, Nat.add_zero]
    refine sumTo_zero.2 fun j hj => ?_
    split
    · rfl
    · rename_i hm
      exfalso
      exact hm ((pigeon _ _ h.nodup h.lt).2 hn j hj)
  intro i hi
  refine ⟨by show G.length - _ < _; omega, fun c hc => ?_⟩
  have hri := (hl i hi).1
  have hcl := (hok _ hri).mem hc
  have hrc := (hl c hcl).1
  have hm := hall _ hrc
  have hs := List.idxOf_lt_length_of_mem hm
  have hg : ord.getD (ord.idxOf (root c)) 0 = root c := by simp [List.getD, List.getElem?_eq_getElem hs]
  have hu : uses G root (ord.getD (ord.idxOf (root c)) 0) (root i) ≠ 0 := by rw [hg]; exact uses_pos.2 ⟨c, hc, rfl⟩
  have hp := h.pre _ hs (root i) hri hu
  have hlt : ord.idxOf (root i) < ord.idxOf (root c) := by
    obtain ⟨j, hj, e⟩ := List.mem_iff_getElem.1 hp
    rw [List.length_take] at hj
    rw [List.getElem_take] at e
    have : ord.idxOf (root i) = j := by rw [← e]; exact h.nodup.idxOf_getElem j (by omega)
    omega
  show G.length - ord.idxOf (root c) < G.length - ord.idxOf (root i)
  omega
/-- Some are left over: a circle. -/
theorem Ordering.circle (h : Ordering G root ord ord.length [] us) (hn : ord.length < G.length) (hok : Ok G) {f : Int → Tm} (hs : ∀ i j, i < G.length → j < G.length → root i = root j → ndv f G i = ndv f G j) (hl : ∀ i, i < G.length → root i < G.length ∧ root (root i) = root i) : False := by
  have hne : (List.range G.length).filter (fun v => decide (v ∉ ord)) ≠ [] := fun e => by
    have hsub : ∀ i, i < G.length → i ∈ ord := fun i hi => by
      apply Classical.byContradiction
      intro hm
      have : i ∈ (List.range G.length).filter (fun v => decide (v ∉ ord)) := List.mem_filter.2 ⟨List.mem_range.2 hi, by simpa using hm⟩
      rw [e] at this
      cases this
    have := nodup_sub (List.range G.length) ord List.nodup_range fun i hi => hsub i (List.mem_range.1 hi)
    simp at this
    omega
  refine no_growth (fun v => (ndv f G v).nodes) hne fun u hu => ?_
  obtain ⟨hu1, hu2⟩ := List.mem_filter.1 hu
  have hul := List.mem_range.1 hu1
  have huo : u ∉ ord := by simpa using hu2
  have h1 : us.getD u 0 ≠ 0 := fun e => huo ((h.mem u hul).2 e)
  rw [h.cnt u hul, List.take_length, List.count_nil, Nat.add_zero] at h1
  have h2 : ∃ j, j < G.length ∧ j ∉ ord ∧ uses G root u j ≠ 0 := by
    apply Classical.byContradiction
    intro hc
    refine h1 (sumTo_zero.2 fun j hj => ?_)
    split
    · rfl
    · rename_i hm
      apply Classical.byContradiction
      intro h3
      exact hc ⟨j, hj, hm, h3⟩
  obtain ⟨j, hj, hjo, huj⟩ := h2
  obtain ⟨c, hc, e⟩ := uses_pos.1 huj
  refine ⟨j, List.mem_filter.2 ⟨List.mem_range.2 hj, by simpa using hjo⟩, ?_⟩
  have hcl := (hok j hj).mem hc
  have hkn : (nd G j).tm.kind ≠ 1 := fun hk => by
    rw [(hok j hj).var hk] at hc
    cases hc
  have e1 : ndv f G u = ndv f G c := hs u c hul hcl (by rw [← e]; exact (hl c hcl).2)
  show (ndv f G u).nodes < (ndv f G j).nodes
  rw [e1]
  exact ndv_lt (hok j hj) hkn hc
end
end Go.Proofs.YtelkmnjoboekmaaGreat
namespace Go.Proofs.YtelkmnjoboekmaaGreat
open Go.RowKit

/-- The same label: kind, number, name, number of arguments. -/
def headB (a b : Tm) : Bool := decide (a.kind = b.kind) && (decide (a.num = b.num) && (decide (a.name = b.name) && decide (a.args.length = b.args.length)))
theorem headB_iff (a b : Tm) : headB a b = true ↔ a.kind = b.kind ∧ a.num = b.num ∧ a.name = b.name ∧ a.args.length = b.args.length := by simp [headB]
theorem below2b (w : World) (o p : Obj) : Below w.heap.size w ((w.alloc o).alloc p) := ((Below.refl _ _).alloc (Nat.le_refl _) _).alloc (by simp) _

set_option maxHeartbeats 1000000 in
theorem same_functor_at (a b : Tm) (w : World) : Calls Tryz.prog 104 #[a.val, b.val] w fun e w' => e = .returned (.bool (headB a b)) ∧ Below w.heap.size w w' := by
  obtain ⟨k, n, s, A, c, l⟩ := a
  obtain ⟨k', n', s', A', c', l'⟩ := b
  obtain ⟨r, hr⟩ : ∃ r, r = headB (.mk k n s A c l) (.mk k' n' s' A' c' l') := ⟨_, rfl⟩
  rw [← hr]
  have HR := Lib.hid (show r = (decide (k = k') && (decide (n = n') && (decide (s = s') && decide (l.length = l'.length)))) from hr)
  have HB := Lib.hid (fun o p => below2b w o p)
  clear hr
  show Calls Tryz.prog 104 #[.agg #[.int .i64 k, .int .i64 n, .string s, .slice A l.length c], .agg #[.int .i64 k', .int .i64 n', .string s', .slice A' l'.length c']] w _
  by_cases h1 : k = k'
  · have g1 : (k == k') = true := by simpa using h1
    by_cases h2 : n = n'
    · have g2 : (n == n') = true := by simpa using h2
      by_cases h3 : s = s'
      · subst h3
        by_cases h4 : l.length = l'.length
        · have g4 : ((l.length : Int) == (l'.length : Int)) = true := by rw [h4]; simp
          have HE := Lib.hid (show r = true by rw [HR.out]; simp [h1, h2, h4])
          clear h1 h2 h4 HR
          go_enter Tryz.func104, Tryz.ntmps104
          go_wp2_with fail
          go_ret
          exact ⟨by rw [HE.out]; rfl, HB.out _ _⟩
        · have g4 : ((l.length : Int) == (l'.length : Int)) = false := by simp; omega
          have HE := Lib.hid (show r = false by rw [HR.out]; simp [h4])
          clear h1 h2 h4 HR
          go_enter Tryz.func104, Tryz.ntmps104
          go_wp2_with fail
          go_ret
          exact ⟨by rw [HE.out]; rfl, HB.out _ _⟩
      · have g3 : (s.toList == s'.toList) = false := by
          rw [ByteArray.toList_eq, ByteArray.toList_eq, beq_eq_false_iff_ne]
          intro e
          apply h3
          obtain ⟨d⟩ := s
          obtain ⟨d'⟩ := s'
          have : d = d' := Array.toList_inj.1 e
          rw [this]
        have HE := Lib.hid (show r = false by rw [HR.out]; simp [h3])
        clear h1 h2 h3 HR
        go_enter Tryz.func104, Tryz.ntmps104
        go_wp2_with fail
        go_ret
        exact ⟨by rw [HE.out]; rfl, HB.out _ _⟩
    · have g2 : (n == n') = false := by simpa using h2
      have HE := Lib.hid (show r = false by rw [HR.out]; simp [h2])
      clear h1 h2 HR
      go_enter Tryz.func104, Tryz.ntmps104
      go_wp2_with fail
      go_ret
      exact ⟨by rw [HE.out]; rfl, HB.out _ _⟩
  · have g1 : (k == k') = false := by simpa using h1
    have HE := Lib.hid (show r = false by rw [HR.out]; simp [h1])
    clear h1 HR
    go_enter Tryz.func104, Tryz.ntmps104
    go_wp2_with fail
    go_ret
    exact ⟨by rw [HE.out]; rfl, HB.out _ _⟩

theorem al1 {w : World} {a : Addr} {v : Value} (h : w.cell? a = some v) : ∀ o, (w.alloc o).cell? a = some v := fun o => keepv ((Below.refl _ _).alloc (Nat.le_refl _) o) h
theorem al2 {w : World} {a : Addr} {v : Value} (h : w.cell? a = some v) : ∀ o o', ((w.alloc o).alloc o').cell? a = some v := fun o o' => al1 (al1 h o) o'
/-- Whether the first one stands for both. -/
def remB (a b : Tm) : Bool := if a.kind = 1 ∧ b.kind = 1 then decide (a.num < b.num) else decide (a.kind ≠ 1)

set_option maxHeartbeats 2000000 in
theorem remains_at {lo : Nat} {X : Nat → Prop} {p : Nat} {z : Value} {G : List Nd} {i k : Nat} {w : World} (h : Gph lo X w p z G) (hi : i < G.length) (hk : k < G.length) :
    Calls Tryz.prog 103 #[.pointer (some ⟨p, 0, none⟩), .int .i64 (i : Nat), .int .i64 (k : Nat)] w fun e w' => e = .returned (.bool (remB (nd G i).tm (nd G k).tm)) ∧ Below w.heap.size w w' := by
  obtain ⟨q, cap, rfl, _⟩ := h.form (by omega)
  have hsm := h.small
  have c0 := h.hdr
  obtain ⟨a0, a1, a2, a3, _, _⟩ := h.cells hi
  obtain ⟨b0, b1, b2, b3, _, _⟩ := h.cells hk
  have HB := Lib.hid (fun o p => below2b w o p)
  clear h
  generalize (nd G i).tm = x at *
  generalize (nd G k).tm = y at *
  obtain ⟨r, hr⟩ : ∃ r, r = remB x y := ⟨_, rfl⟩
  rw [← hr]
  have HR := Lib.hid hr
  clear hr
  obtain ⟨kx, nx, sx, Ax, cx, lx⟩ := x
  obtain ⟨ky, ny, sy, Ay, cy, ly⟩ := y
  simp only [Tm.kind, Tm.num, Tm.name, Tm.at_, Tm.args, Tm.cap] at a0 a1 a2 a3 b0 b1 b2 b3
  have c0x := al1 c0
  have c0y := al2 c0
  have a0x := al1 a0
  have a0y := al2 a0
  have a1x := al1 a1
  have a1y := al2 a1
  have a2x := al1 a2
  have a2y := al2 a2
  have a3x := al1 a3
  have a3y := al2 a3
  have b0x := al1 b0
  have b0y := al2 b0
  have b1x := al1 b1
  have b1y := al2 b1
  have b2x := al1 b2
  have b2y := al2 b2
  have b3x := al1 b3
  have b3y := al2 b3
  by_cases h1 : kx = 1
  · subst h1
    by_cases h2 : ky = 1
    · subst h2
      have HE := Lib.hid (show r = decide (nx < ny) by rw [HR.out]; unfold remB; rw [if_pos ⟨rfl, rfl⟩]; rfl)
      clear HR
      go_enter Tryz.func103, Tryz.ntmps103
      go_wp2_with fail
      go_region
      all_goals
        go_wp2_with fail
        go_ret
        exact ⟨by rw [HE.out]; rfl, (HB.out _ _).drew⟩
    · have g2 : (ky == 1) = false := by simpa using h2
      have HE := Lib.hid (show r = false by rw [HR.out]; unfold remB; rw [if_neg (fun h => h2 h.2)]; rfl)
      clear HR h2
      go_enter Tryz.func103, Tryz.ntmps103
      go_wp2_with fail
      go_region
      all_goals
        go_wp2_with fail
        go_ret
        exact ⟨by rw [HE.out]; rfl, (HB.out _ _).drew⟩
  · have g1 : (kx == 1) = false := by simpa using h1
    have g2 : (kx != 1) = true := by simpa using h1
    have HE := Lib.hid (show r = true by rw [HR.out]; unfold remB; rw [if_neg (fun h => h1 h.1)]; exact decide_eq_true h1)
    clear HR h1
    go_enter Tryz.func103, Tryz.ntmps103
    go_wp2_with fail
    go_region
    all_goals
      go_wp2_with fail
      go_ret
      exact ⟨by rw [HE.out]; rfl, (HB.out _ _).drew⟩
end Go.Proofs.YtelkmnjoboekmaaGreat
