/-
  What a functor of two terms measures: plain facts, and its contracts.
-/
import Derived.Test.YtclhmdgiffemlaaTmTwo
import Derived.Test.YtclhmdgiffemlaaTmFun
import Derived.Test.YtclhmdgiffemlaaTmVarsOf
import Derived.Test.YtclhmdgiffemlaaTmCon
import Derived.Test.YtclhmdgiffemlaaTmGround
import Derived.Test.YtclhmdgiffemlaaTmSize
import Derived.Test.YtclhmdgiffemlaaTmRight
namespace Go.Proofs.Ytclhmdgiffemlaa
open Go.ChangeShapes Go.WideShapes Go.ChangeAt Go.RowKit
set_option linter.unusedVariables false

theorem built_size (s : ByteArray) (A : Option Addr) (a b : Tm) : (Tm.mk 2 0 s A 2 [a, b]).size = 1 + a.size + b.size := by
  simp only [Tm.size, sizeL, if_true]; omega
theorem built_depth (s : ByteArray) (A : Option Addr) (a b : Tm) : (Tm.mk 2 0 s A 2 [a, b]).depth = 1 + max a.depth b.depth := by
  simp only [Tm.depth, depthL, if_true]; omega
theorem built_occ (s : ByteArray) (A : Option Addr) (a b : Tm) : (Tm.mk 2 0 s A 2 [a, b]).occ = occL [a, b] := by
  simp [Tm.occ]
theorem built_ground (s : ByteArray) (A : Option Addr) (a b : Tm) : decide ((Tm.mk 2 0 s A 2 [a, b]).occ = []) = (decide (a.occ = []) && decide (b.occ = [])) := by
  simp [Tm.occ, occL]
theorem right_parts {s : ByteArray} {A : Option Addr} {a b : Tm} (h : (Tm.mk 2 0 s A 2 [a, b]).right = true) : a.right = true ∧ b.right = true := by
  have h1 := built_size s A a b
  have h2 := built_depth s A a b
  simp only [Tm.right, Bool.and_eq_true, decide_eq_true_eq] at h ⊢
  obtain ⟨hf, hs, hd⟩ := h
  simp only [Tm.form] at hf
  simp only [if_false, show ¬((2 : Int) = 0) by decide, show ¬((2 : Int) = 1) by decide, if_true, formL, Bool.and_eq_true, Bool.and_true] at hf
  exact ⟨⟨hf.2.2.1, by omega, by omega⟩, ⟨hf.2.2.2, by omega, by omega⟩⟩
theorem right_f (A : Option Addr) (a b : Tm) : (Tm.mk 2 0 ⟨#[102]⟩ A 2 [a, b]).right = ((a.right && b.right) && (decide ((Tm.mk 2 0 ⟨#[102]⟩ A 2 [a, b]).size ≤ 200) && decide ((Tm.mk 2 0 ⟨#[102]⟩ A 2 [a, b]).depth ≤ 20))) := by
  have h1 := built_size ⟨#[102]⟩ A a b
  have h2 := built_depth ⟨#[102]⟩ A a b
  have hn : rightB [102] = true := by decide +kernel
  rw [Bool.eq_iff_iff]
  constructor
  · intro h
    obtain ⟨ha, hb⟩ := right_parts h
    simp only [Tm.right, Bool.and_eq_true] at h
    simpa [ha, hb] using h.2
  · intro h
    simp only [Bool.and_eq_true, decide_eq_true_eq] at h
    obtain ⟨⟨ha, hb⟩, hs, hd⟩ := h
    simp only [Tm.right, Bool.and_eq_true, decide_eq_true_eq] at ha hb ⊢
    refine ⟨?_, hs, hd⟩
    simp only [Tm.form]
    simp only [if_false, show ¬((2 : Int) = 0) by decide, show ¬((2 : Int) = 1) by decide, if_true, formL]
    simp [ha.1, hb.1, hn]
theorem weigh_two {a b : Tm} {most : Int} (h : decide (weigh [a, b] most 64 < 0) = false) (hm : most ≤ 1000) : a.size ≤ 1000 ∧ b.size ≤ 1000 ∧ a.size + b.size ≤ 1000 := by
  have h1 := not_great h
  have h2 := size_nodes.1 a
  have h3 := size_nodes.1 b
  simp only [nodesL] at h1
  omega

/-- Fun of a slice of two terms that is just laid. -/
theorem fun_two (s : ByteArray) (hs : s.size ≤ maxLen) (t u : Tm) (W : World) (b : Nat) (hb : b = W.heap.size) (ht : t.At W) (hu : u.At W) :
    Calls Try.prog 29 #[.string s, .slice (some ⟨b, 0, none⟩) 2 2] (W.alloc (.cells #[.int .i64 t.kind, .int .i64 t.num, .string t.name, .slice t.at_ t.args.length t.cap, .int .i64 u.kind, .int .i64 u.num, .string u.name, .slice u.at_ u.args.length u.cap] 24))
      fun e w' => ∃ b o : Nat, e = .returned (.agg #[.int .i64 2, .int .i64 0, .string s, .slice (some ⟨b, o, none⟩) 2 2]) ∧ (Tm.mk 2 0 s (some ⟨b, o, none⟩) 2 [t, u]).At w' ∧ Below W.heap.size W w' := by
  subst hb
  refine (fun_at s [t, u] W.heap.size 0 2 _ (by simp) (row_two t u ht hu) (by simp) hs).mono fun e w' ⟨A, he, hat, h⟩ => ?_
  obtain ⟨b, o, rfl, _⟩ := hat.lst.get (i := 0) (by simp [Tm.args])
  exact ⟨b, o, he, hat, (below1 _ _).trans (h.mono (below1 _ _).size)⟩
/-- The two arguments' cells. -/
theorem built_cells {w : World} {s : ByteArray} {b o : Nat} {t u : Tm} (h : (Tm.mk 2 0 s (some ⟨b, o, none⟩) 2 [t, u]).At w) :
    (w.cell? ⟨b, o, none⟩ = some (.int .i64 t.kind) ∧ w.cell? ⟨b, o + 1, none⟩ = some (.int .i64 t.num) ∧ w.cell? ⟨b, o + 2, none⟩ = some (.string t.name) ∧ w.cell? ⟨b, o + 3, none⟩ = some (.slice t.at_ t.args.length t.cap)) ∧
    (w.cell? ⟨b, o + 4, none⟩ = some (.int .i64 u.kind) ∧ w.cell? ⟨b, o + 4 + 1, none⟩ = some (.int .i64 u.num) ∧ w.cell? ⟨b, o + 4 + 2, none⟩ = some (.string u.name) ∧ w.cell? ⟨b, o + 4 + 3, none⟩ = some (.slice u.at_ u.args.length u.cap)) := by
  obtain ⟨b1, o1, e1, ⟨c0, c1, c2, c3⟩, _⟩ := h.lst.get (i := 0) (by simp [Tm.args])
  obtain ⟨b2, o2, e2, ⟨g0, g1, g2, g3⟩, _⟩ := h.lst.get (i := 1) (by simp [Tm.args])
  simp only [Tm.at_, Option.some.injEq, Addr.mk.injEq, and_true] at e1 e2
  obtain ⟨rfl, rfl⟩ := e1
  obtain ⟨rfl, rfl⟩ := e2
  simp only [Tm.args, Nat.zero_mul, Nat.one_mul, Nat.add_zero, List.getD_cons_zero, List.getD_cons_succ] at c0 c1 c2 c3 g0 g1 g2 g3
  exact ⟨⟨c0, c1, c2, c3⟩, ⟨g0, g1, g2, g3⟩⟩
/-- What the program answers of a functor of two terms. -/
theorem built_contracts (s : ByteArray) (a b : Tm) (X : World) (p o : Nat) (hz1 : a.size ≤ 1000) (hz2 : b.size ≤ 1000) (hz3 : a.size + b.size ≤ 1000) (ha : (Tm.mk 2 0 s (some ⟨p, o, none⟩) 2 [a, b]).At X) :
    (Hid (∀ W, Below X.heap.size X W → Calls Try.prog 14 #[.agg #[.int .i64 2, .int .i64 0, .string s, .slice (some ⟨p, o, none⟩) 2 2]] W fun e w' => e = .returned (.int .i64 (1 + (a.size : Int) + (b.size : Int))) ∧ Below W.heap.size W w') ∧
    Hid (∀ W, Below X.heap.size X W → Calls Try.prog 16 #[.agg #[.int .i64 2, .int .i64 0, .string s, .slice (some ⟨p, o, none⟩) 2 2]] W fun e w' => e = .returned (.int .i64 (1 + max (a.depth : Int) (b.depth : Int))) ∧ Below W.heap.size W w') ∧
    Hid (∀ W, Below X.heap.size X W → Calls Try.prog 21 #[.agg #[.int .i64 2, .int .i64 0, .string s, .slice (some ⟨p, o, none⟩) 2 2]] W fun e w' => e = .returned (.bool (decide (a.occ = []) && decide (b.occ = []))) ∧ Below W.heap.size W w') ∧
    Hid (∀ W, Below X.heap.size X W → Calls Try.prog 11 #[.agg #[.int .i64 2, .int .i64 0, .string s, .slice (some ⟨p, o, none⟩) 2 2]] W fun e w' => e = .returned (.bool (Tm.mk 2 0 s (some ⟨p, o, none⟩) 2 [a, b]).right) ∧ Below W.heap.size W w')) ∧
    (∀ W, Below X.heap.size X W → Calls Try.prog 19 #[.agg #[.int .i64 2, .int .i64 0, .string s, .slice (some ⟨p, o, none⟩) 2 2]] W (Grows W (addAll [] (occL [a, b])))) := by
  have h1 := built_size s (some ⟨p, o, none⟩) a b
  have h2 := built_depth s (some ⟨p, o, none⟩) a b
  have h3 := built_occ s (some ⟨p, o, none⟩) a b
  have f1 := depth_size.1 a
  have f2 := depth_size.1 b
  refine ⟨⟨Lib.hid fun W h => ?_, Lib.hid fun W h => ?_, Lib.hid fun W h => ?_, Lib.hid fun W h => ?_⟩, fun W h => ?_⟩
  · have := size_at _ W (ha.below h) (by omega)
    rw [h1, show ((1 + a.size + b.size : Nat) : Int) = 1 + (a.size : Int) + (b.size : Int) by omega] at this
    exact this
  · have := depth_at _ W (ha.below h) (by omega)
    rw [h2, show ((1 + max a.depth b.depth : Nat) : Int) = 1 + max (a.depth : Int) (b.depth : Int) by omega] at this
    exact this
  · exact ground_at _ W (ha.below h) (built_ground _ _ _ _)
  · exact right_tm_at _ W (ha.below h) rfl
  · have := vars_call _ W (ha.below h) (by omega)
    rw [h3] at this
    exact this
/-- VarsOf of a slice of two terms that is just laid; the slice is laid in W. -/
theorem ref_vars_of_two (t u : Tm) (W : World) (b : Nat) (hb : b = W.heap.size) (ht : t.At W) (hu : u.At W) (hz : t.size + u.size ≤ 1000000) (W' : World)
    (hW : Below (W.alloc (.cells #[.int .i64 t.kind, .int .i64 t.num, .string t.name, .slice t.at_ t.args.length t.cap, .int .i64 u.kind, .int .i64 u.num, .string u.name, .slice u.at_ u.args.length u.cap] 24)).heap.size (W.alloc (.cells #[.int .i64 t.kind, .int .i64 t.num, .string t.name, .slice t.at_ t.args.length t.cap, .int .i64 u.kind, .int .i64 u.num, .string u.name, .slice u.at_ u.args.length u.cap] 24)) W') :
    Calls Try.prog 30 #[.slice (some ⟨b, 0, none⟩) 2 2] W' (Grows W' (addAll [] (occL [t, u]))) := by
  subst hb
  exact ref_vars_of_at [t, u] _ 2 W' (Lst.of_row ((At_keep hW).2 _ _ _ (row_two t u ht hu)) (by simp)) (by simp only [sizeL]; omega)
end Go.Proofs.Ytclhmdgiffemlaa
