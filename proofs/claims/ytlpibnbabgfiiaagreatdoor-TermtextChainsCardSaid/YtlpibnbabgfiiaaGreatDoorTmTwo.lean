/-
  What the statements lay of terms: slices of two and of three; three boxes.
-/
import Derived.Test.YtlpibnbabgfiiaaGreatDoorTmOpen
namespace Go.Proofs.YtlpibnbabgfiiaaGreatDoor
open Go.ChangeShapes Go.WideShapes Go.ChangeAt Go.RowKit

theorem row_two {w : World} (t u : Tm) (ht : t.At w) (hu : u.At w) : RowAt (w.alloc (.cells #[.int .i64 t.kind, .int .i64 t.num, .string t.name, .slice t.at_ t.args.length t.cap, .int .i64 u.kind, .int .i64 u.num, .string u.name, .slice u.at_ u.args.length u.cap] 24)) [t, u] w.heap.size 0 := by
  have hc : ∀ j v, (#[.int .i64 t.kind, .int .i64 t.num, .string t.name, .slice t.at_ t.args.length t.cap, .int .i64 u.kind, .int .i64 u.num, .string u.name, .slice u.at_ u.args.length u.cap] : Array Value)[j]? = some v →
      (w.alloc (.cells #[.int .i64 t.kind, .int .i64 t.num, .string t.name, .slice t.at_ t.args.length t.cap, .int .i64 u.kind, .int .i64 u.num, .string u.name, .slice u.at_ u.args.length u.cap] 24)).cell? ⟨w.heap.size, j, none⟩ = some v := fun j v hv => by
    rw [World.cell?_alloc_at _ _ _ _ rfl, hv]
  simp only [RowAt]
  exact ⟨⟨hc 0 _ rfl, hc 1 _ rfl, hc 2 _ rfl, hc 3 _ rfl⟩, ht.alloc _, ⟨hc 4 _ rfl, hc 5 _ rfl, hc 6 _ rfl, hc 7 _ rfl⟩, hu.alloc _, trivial⟩
theorem row_three {w : World} (t u v : Tm) (ht : t.At w) (hu : u.At w) (hv : v.At w) : RowAt (w.alloc (.cells #[.int .i64 t.kind, .int .i64 t.num, .string t.name, .slice t.at_ t.args.length t.cap, .int .i64 u.kind, .int .i64 u.num, .string u.name, .slice u.at_ u.args.length u.cap, .int .i64 v.kind, .int .i64 v.num, .string v.name, .slice v.at_ v.args.length v.cap] 24)) [t, u, v] w.heap.size 0 := by
  have hc : ∀ j x, (#[.int .i64 t.kind, .int .i64 t.num, .string t.name, .slice t.at_ t.args.length t.cap, .int .i64 u.kind, .int .i64 u.num, .string u.name, .slice u.at_ u.args.length u.cap, .int .i64 v.kind, .int .i64 v.num, .string v.name, .slice v.at_ v.args.length v.cap] : Array Value)[j]? = some x →
      (w.alloc (.cells #[.int .i64 t.kind, .int .i64 t.num, .string t.name, .slice t.at_ t.args.length t.cap, .int .i64 u.kind, .int .i64 u.num, .string u.name, .slice u.at_ u.args.length u.cap, .int .i64 v.kind, .int .i64 v.num, .string v.name, .slice v.at_ v.args.length v.cap] 24)).cell? ⟨w.heap.size, j, none⟩ = some x := fun j x hx => by
    rw [World.cell?_alloc_at _ _ _ _ rfl, hx]
  simp only [RowAt]
  exact ⟨⟨hc 0 _ rfl, hc 1 _ rfl, hc 2 _ rfl, hc 3 _ rfl⟩, ht.alloc _, ⟨hc 4 _ rfl, hc 5 _ rfl, hc 6 _ rfl, hc 7 _ rfl⟩, hu.alloc _, ⟨hc 8 _ rfl, hc 9 _ rfl, hc 10 _ rfl, hc 11 _ rfl⟩, hv.alloc _, trivial⟩

theorem great_two (t u : Tm) (most : Int) (W : World) (b : Nat) (hb : b = W.heap.size) (ht : t.At W) (hu : u.At W) (h1 : 0 ≤ most) (h2 : most ≤ 1000000) {r : Bool} (hr : decide (weigh [t, u] most 64 < 0) = r) :
    Calls Tryz.prog 9 #[.slice (some ⟨b, 0, none⟩) 2 2, .int .i64 most] (W.alloc (.cells #[.int .i64 t.kind, .int .i64 t.num, .string t.name, .slice t.at_ t.args.length t.cap, .int .i64 u.kind, .int .i64 u.num, .string u.name, .slice u.at_ u.args.length u.cap] 24)) fun e w' => e = .returned (.bool r) ∧ Below W.heap.size W w' := by
  subst hb
  exact (great_below [t, u] _ 2 most _ (Lst.of_row (row_two t u ht hu) (by simp)) h1 h2 hr).mono fun e w' ⟨he, h⟩ => ⟨he, (below1 _ _).trans (h.mono (below1 _ _).size)⟩
theorem great_three (t u v : Tm) (most : Int) (W : World) (b : Nat) (hb : b = W.heap.size) (ht : t.At W) (hu : u.At W) (hv : v.At W) (h1 : 0 ≤ most) (h2 : most ≤ 1000000) {r : Bool} (hr : decide (weigh [t, u, v] most 64 < 0) = r) :
    Calls Tryz.prog 9 #[.slice (some ⟨b, 0, none⟩) 3 3, .int .i64 most] (W.alloc (.cells #[.int .i64 t.kind, .int .i64 t.num, .string t.name, .slice t.at_ t.args.length t.cap, .int .i64 u.kind, .int .i64 u.num, .string u.name, .slice u.at_ u.args.length u.cap, .int .i64 v.kind, .int .i64 v.num, .string v.name, .slice v.at_ v.args.length v.cap] 24)) fun e w' => e = .returned (.bool r) ∧ Below W.heap.size W w' := by
  subst hb
  exact (great_below [t, u, v] _ 3 most _ (Lst.of_row (row_three t u v ht hu hv) (by simp)) h1 h2 hr).mono fun e w' ⟨he, h⟩ => ⟨he, (below1 _ _).trans (h.mono (below1 _ _).size)⟩

/-- Three boxes, behind a call. -/
theorem below3 (w : World) (o p q : Obj) : Below w.heap.size w (((w.alloc o).alloc p).alloc q) := (below2 w o p).trans ((below1 _ q).mono (below2 w o p).size)
theorem box12 {w w' : World} {v0 v1 v2 v3 u0 u1 u2 u3 x0 x1 x2 x3 : Value} {T : TypeId}
    (hb : Below (((w.alloc (.cells #[v0, v1, v2, v3] T)).alloc (.cells #[u0, u1, u2, u3] T)).alloc (.cells #[x0, x1, x2, x3] T)).heap.size (((w.alloc (.cells #[v0, v1, v2, v3] T)).alloc (.cells #[u0, u1, u2, u3] T)).alloc (.cells #[x0, x1, x2, x3] T)) w') :
    (w'.cell? ⟨w.heap.size, 0, none⟩ = some v0 ∧ w'.cell? ⟨w.heap.size, 1, none⟩ = some v1 ∧ w'.cell? ⟨w.heap.size, 2, none⟩ = some v2 ∧ w'.cell? ⟨w.heap.size, 3, none⟩ = some v3) ∧
    (w'.cell? ⟨w.heap.size + 1, 0, none⟩ = some u0 ∧ w'.cell? ⟨w.heap.size + 1, 1, none⟩ = some u1 ∧ w'.cell? ⟨w.heap.size + 1, 2, none⟩ = some u2 ∧ w'.cell? ⟨w.heap.size + 1, 3, none⟩ = some u3) ∧
    (w'.cell? ⟨w.heap.size + 1 + 1, 0, none⟩ = some x0 ∧ w'.cell? ⟨w.heap.size + 1 + 1, 1, none⟩ = some x1 ∧ w'.cell? ⟨w.heap.size + 1 + 1, 2, none⟩ = some x2 ∧ w'.cell? ⟨w.heap.size + 1 + 1, 3, none⟩ = some x3) ∧ Below w.heap.size w w' := by
  obtain ⟨h1, h2, h3⟩ := box8 ((below1 _ _).trans (hb.mono (below1 _ _).size))
  obtain ⟨d0, d1, d2, d3, _⟩ := box4 hb
  have e : ((w.alloc (.cells #[v0, v1, v2, v3] T)).alloc (.cells #[u0, u1, u2, u3] T)).heap.size = w.heap.size + 1 + 1 := by simp
  rw [e] at d0 d1 d2 d3
  exact ⟨h1, h2, ⟨d0, d1, d2, d3⟩, h3⟩
theorem keepc {w w' : World} (hb : Below w.heap.size w w') {p : Addr} {v : Value} (h : w.cell? p = some v) : w'.cell? p = some v := by
  rw [hb.cell (block_lt_of_cell h)]; exact h
end Go.Proofs.YtlpibnbabgfiiaaGreatDoor
