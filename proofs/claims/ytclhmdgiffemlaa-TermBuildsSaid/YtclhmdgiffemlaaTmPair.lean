/-
  What the statements lay of constraints and goals: two boxes; what the weight bounds.
-/
import Derived.Test.YtclhmdgiffemlaaTmTwo
import Derived.Test.YtclhmdgiffemlaaTmCon
import Derived.Test.YtclhmdgiffemlaaTmGreat
namespace Go.Proofs.Ytclhmdgiffemlaa
open Go.ChangeShapes Go.WideShapes Go.ChangeAt Go.RowKit

theorem cmpA_self (a : Am) : cmpA a a = 0 := by simp [cmpA, texts_self, ints_self, cmp_self.2, lex]
theorem sameG_self (g : Gl) : sameG g g = true := by simp [sameG, cmp_self.2]
theorem not_great2 {s s' : ByteArray} {l l' : List Tm} (h : decide (weighN s' l' (weighN s l 600) < 0) = false) : sizeL l ≤ 1000000 ∧ sizeL l' ≤ 1000000 := by
  have h0 : 0 ≤ weighN s' l' (weighN s l 600) := by simpa using h
  have h1 : 0 ≤ weighN s l 600 := by
    rcases Int.lt_or_le (weighN s l 600) 0 with h' | h'
    · rw [show weighN s' l' (weighN s l 600) = weighN s l 600 by rw [weighN, if_pos h']] at h0
      omega
    · exact h'
  have e1 := weighN_size h1
  have e0 := weighN_size h0
  have e2 := weighN_hi s l 600
  have f1 := size_nodes.2 l
  have f2 := size_nodes.2 l'
  omega
theorem same_ints_same (B1 B2 : Option Addr) (xs : List Int) (c1 c2 : Nat) (W : World) (h1 : Ints W B1 xs) (h2 : Ints W B2 xs) (hl : xs.length ≤ 9223372036854775807) :
    Calls Try.prog 18 #[.slice B1 xs.length c1, .slice B2 xs.length c2] W fun e w' => e = .returned (.bool true) ∧ Below W.heap.size W w' :=
  same_ints_at B1 B2 xs xs c1 c2 W h1 h2 hl hl (r := true) (by simp)
theorem box2 {w w' : World} {v0 v1 u0 u1 : Value} {T : TypeId} (hb : Below ((w.alloc (.cells #[v0, v1] T)).alloc (.cells #[u0, u1] T)).heap.size ((w.alloc (.cells #[v0, v1] T)).alloc (.cells #[u0, u1] T)) w') :
    (w'.cell? ⟨w.heap.size, 0, none⟩ = some v0 ∧ w'.cell? ⟨w.heap.size, 1, none⟩ = some v1) ∧ (w'.cell? ⟨w.heap.size + 1, 0, none⟩ = some u0 ∧ w'.cell? ⟨w.heap.size + 1, 1, none⟩ = some u1) ∧ Below w.heap.size w w' := by
  have hz : (w.alloc (.cells #[v0, v1] T)).heap.size = w.heap.size + 1 := by simp
  have h : ∀ j, w'.cell? ⟨w.heap.size, j, none⟩ = (#[v0, v1] : Array Value)[j]? := fun j => by
    rw [hb.cell (p := ⟨w.heap.size, j, none⟩) (by simp; omega), World.cell?_alloc_lt _ _ _ (by simp), World.cell?_alloc_at _ _ _ _ rfl]
  have g : ∀ j, w'.cell? ⟨w.heap.size + 1, j, none⟩ = (#[u0, u1] : Array Value)[j]? := fun j => by
    rw [hb.cell (p := ⟨w.heap.size + 1, j, none⟩) (by simp), ← hz, World.cell?_alloc_at _ _ _ _ rfl]
  exact ⟨⟨h 0, h 1⟩, ⟨g 0, g 1⟩, (below2 _ _ _).trans (hb.mono (by simp; omega))⟩
theorem box3 {w w' : World} {v0 v1 v2 u0 u1 u2 : Value} {T : TypeId} (hb : Below ((w.alloc (.cells #[v0, v1, v2] T)).alloc (.cells #[u0, u1, u2] T)).heap.size ((w.alloc (.cells #[v0, v1, v2] T)).alloc (.cells #[u0, u1, u2] T)) w') :
    (w'.cell? ⟨w.heap.size, 0, none⟩ = some v0 ∧ w'.cell? ⟨w.heap.size, 1, none⟩ = some v1 ∧ w'.cell? ⟨w.heap.size, 2, none⟩ = some v2) ∧ (w'.cell? ⟨w.heap.size + 1, 0, none⟩ = some u0 ∧ w'.cell? ⟨w.heap.size + 1, 1, none⟩ = some u1 ∧ w'.cell? ⟨w.heap.size + 1, 2, none⟩ = some u2) ∧ Below w.heap.size w w' := by
  have hz : (w.alloc (.cells #[v0, v1, v2] T)).heap.size = w.heap.size + 1 := by simp
  have h : ∀ j, w'.cell? ⟨w.heap.size, j, none⟩ = (#[v0, v1, v2] : Array Value)[j]? := fun j => by
    rw [hb.cell (p := ⟨w.heap.size, j, none⟩) (by simp; omega), World.cell?_alloc_lt _ _ _ (by simp), World.cell?_alloc_at _ _ _ _ rfl]
  have g : ∀ j, w'.cell? ⟨w.heap.size + 1, j, none⟩ = (#[u0, u1, u2] : Array Value)[j]? := fun j => by
    rw [hb.cell (p := ⟨w.heap.size + 1, j, none⟩) (by simp), ← hz, World.cell?_alloc_at _ _ _ _ rfl]
  exact ⟨⟨h 0, h 1, h 2⟩, ⟨g 0, g 1, g 2⟩, (below2 _ _ _).trans (hb.mono (by simp; omega))⟩
end Go.Proofs.Ytclhmdgiffemlaa
