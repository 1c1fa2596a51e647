/-
  Terms that are built of two while a variable is laid and stored into: in which blocks they lie.
-/
import Derived.Test.YtlpibnbabgfiiaaGreatDoorTmTwo
import Derived.Test.YtlpibnbabgfiiaaGreatDoorTtKeep
namespace Go.Proofs.YtlpibnbabgfiiaaGreatDoor
open Go.RowKit

theorem At_cells {w w' : World} (hc : ∀ p v, w.cell? p = some v → w'.cell? p = some v) : (∀ t : Tm, t.At w → t.At w') ∧ (∀ (l : List Tm) b o, RowAt w l b o → RowAt w' l b o) := by
  refine Tm.induct2 (fun k n s A c a ih h => ?_) (fun _ _ _ => by simp [RowAt]) (fun t r h1 h2 b o h => ?_)
  · simp only [Tm.At] at h ⊢
    refine ⟨h.1, h.2.1, h.2.2.1, fun hn => ?_⟩
    obtain ⟨b, o, e, hr⟩ := h.2.2.2 hn
    exact ⟨b, o, e, ih b o hr⟩
  · simp only [RowAt] at h ⊢
    exact ⟨⟨hc _ _ h.1.1, hc _ _ h.1.2.1, hc _ _ h.1.2.2.1, hc _ _ h.1.2.2.2⟩, h1 h.2.1, h2 b (o + 4) h.2.2⟩
/-- A term that is older than block T. -/
theorem live_old {x : Tm} {X w' : World} {T : Nat} (hx : x.At X) (hT : X.heap.size ≤ T) (hb : Below X.heap.size X w') : Live 0 (Is T) w' x := fun W hW =>
  (At_cells fun p v h => by
    have hl := World.block_lt_of_cell? X _ h
    rw [hW.cell (Nat.zero_le _) (Nat.lt_of_lt_of_le hl hb.size) (by show ¬ p.block = T; omega), hb.cell hl]; exact h).1 x hx
/-- A term that was built of two, with its list in another block. -/
theorem live_two {x y : Tm} {s : ByteArray} {g c : Nat} {w' : World} {T : Nat} (hx : Live 0 (Is T) w' x) (hy : Live 0 (Is T) w' y) (h : (Tm.mk 2 0 s (some ⟨g, 0, none⟩) c [x, y]).At w') (hg : g ≠ T) :
    Live 0 (Is T) w' (.mk 2 0 s (some ⟨g, 0, none⟩) c [x, y]) := fun W hW => by
  simp only [Tm.At] at h ⊢
  refine ⟨h.1, h.2.1, h.2.2.1, fun hn => ?_⟩
  obtain ⟨b, o, e, hr⟩ := h.2.2.2 hn
  injection e with e
  injection e with e1 e2 _
  subst e1 e2
  refine ⟨g, 0, rfl, ?_⟩
  simp only [RowAt] at hr ⊢
  have hc : ∀ j v, w'.cell? ⟨g, j, none⟩ = some v → W.cell? ⟨g, j, none⟩ = some v := fun j v h => by
    rw [hW.cell (Nat.zero_le _) (World.block_lt_of_cell? w' _ h) hg]; exact h
  exact ⟨⟨hc _ _ hr.1.1, hc _ _ hr.1.2.1, hc _ _ hr.1.2.2.1, hc _ _ hr.1.2.2.2⟩, hx W hW, ⟨hc _ _ hr.2.2.1.1, hc _ _ hr.2.2.1.2.1, hc _ _ hr.2.2.1.2.2.1, hc _ _ hr.2.2.1.2.2.2⟩, hy W hW, trivial⟩
/-- The zero term. -/
abbrev z0 : Tm := .mk 0 0 ⟨#[]⟩ none 0 []
abbrev ZB : Obj := .cells #[.int .i64 0, .int .i64 0, .string ⟨#[]⟩, .slice none 0 0] 24
abbrev ROW (t u : Tm) : Obj := .cells #[.int .i64 t.kind, .int .i64 t.num, .string t.name, .slice t.at_ t.args.length t.cap, .int .i64 u.kind, .int .i64 u.num, .string u.name, .slice u.at_ u.args.length u.cap] 24
theorem rowA (V : World) (t u : Tm) (ht : t.At V) (hu : u.At V) : RowAt (V.alloc (ROW t u)) [t, u] V.heap.size 0 := row_two t u ht hu
theorem rowB (V : World) (t u : Tm) (ht : t.At V) (hu : u.At V) (o : Obj) : RowAt ((V.alloc (ROW t u)).alloc o) [t, u] V.heap.size 0 := (At_keep (below1 _ _)).2 _ _ _ (row_two t u ht hu)
theorem rowC (V : World) (t u : Tm) (ht : t.At V) (hu : u.At V) (o : Obj) : RowAt ((V.alloc o).alloc (ROW t u)) [t, u] (V.heap.size + 1) 0 := by
  have := row_two (w := V.alloc o) t u (ht.alloc _) (hu.alloc _)
  rwa [World.size_alloc] at this
theorem drewB (W : World) : Below W.heap.size W W.drew := (Below.refl _ _).drew
theorem rowAd (V : World) (t u : Tm) (ht : t.At V) (hu : u.At V) : RowAt (V.alloc (ROW t u)).drew [t, u] V.heap.size 0 := (At_keep (drewB _)).2 _ _ _ (rowA V t u ht hu)
theorem rowBd (V : World) (t u : Tm) (ht : t.At V) (hu : u.At V) (o : Obj) : RowAt ((V.alloc (ROW t u)).alloc o).drew [t, u] V.heap.size 0 := (At_keep (drewB _)).2 _ _ _ (rowB V t u ht hu o)
theorem rowCd (V : World) (t u : Tm) (ht : t.At V) (hu : u.At V) (o : Obj) : RowAt ((V.alloc o).alloc (ROW t u)).drew [t, u] (V.heap.size + 1) 0 := (At_keep (drewB _)).2 _ _ _ (rowC V t u ht hu o)
/-- A term that was built of x and y with name s, and z. -/
abbrev ROW2 (s : ByteArray) (g c : Nat) (z : Tm) : Obj := .cells #[.int .i64 2, .int .i64 0, .string s, .slice (some ⟨g, 0, none⟩) 2 c, .int .i64 z.kind, .int .i64 z.num, .string z.name, .slice z.at_ z.args.length z.cap] 24
section
variable (V : World) (x y z : Tm) (s : ByteArray) (g c : Nat) (ht : (Tm.mk 2 0 s (some ⟨g, 0, none⟩) c [x, y]).At V) (hz : z.At V)
include ht hz
theorem row2A : RowAt (V.alloc (ROW2 s g c z)) [.mk 2 0 s (some ⟨g, 0, none⟩) c [x, y], z] V.heap.size 0 := rowA V (.mk 2 0 s (some ⟨g, 0, none⟩) c [x, y]) z ht hz
theorem row2B (o : Obj) : RowAt ((V.alloc (ROW2 s g c z)).alloc o) [.mk 2 0 s (some ⟨g, 0, none⟩) c [x, y], z] V.heap.size 0 := rowB V (.mk 2 0 s (some ⟨g, 0, none⟩) c [x, y]) z ht hz o
theorem row2C (o : Obj) : RowAt ((V.alloc o).alloc (ROW2 s g c z)) [.mk 2 0 s (some ⟨g, 0, none⟩) c [x, y], z] (V.heap.size + 1) 0 := rowC V (.mk 2 0 s (some ⟨g, 0, none⟩) c [x, y]) z ht hz o
end
abbrev ROW3 (z : Tm) (s : ByteArray) (g c : Nat) : Obj := .cells #[.int .i64 z.kind, .int .i64 z.num, .string z.name, .slice z.at_ z.args.length z.cap, .int .i64 2, .int .i64 0, .string s, .slice (some ⟨g, 0, none⟩) 2 c] 24
theorem row3A (V : World) (x y z : Tm) (s : ByteArray) (g c : Nat) (ht : (Tm.mk 2 0 s (some ⟨g, 0, none⟩) c [x, y]).At V) (hz : z.At V) : RowAt (V.alloc (ROW3 z s g c)) [z, .mk 2 0 s (some ⟨g, 0, none⟩) c [x, y]] V.heap.size 0 := rowA V z (.mk 2 0 s (some ⟨g, 0, none⟩) c [x, y]) hz ht
/-- A term that is newer than block T. -/
theorem live_new {t : Tm} {lo T : Nat} {w : World} (h : Live lo No w t) (hT : T < lo) : Live 0 (Is T) w t := fun W hW => h W fun b h1 h2 _ => hW b (Nat.zero_le _) h2 (by show ¬ b = T; omega)
theorem set4b {X W : World} {T : Nat} {v0 v1 v2 v3 : Value} (hb : Below X.heap.size X W) (hT : X.heap.size ≤ T) :
    Below X.heap.size X ((((W.setCell ⟨T, 0, none⟩ v0).setCell ⟨T, 1, none⟩ v1).setCell ⟨T, 2, none⟩ v2).setCell ⟨T, 3, none⟩ v3) :=
  (((hb.setCell (p := ⟨T, 0, none⟩) hT _).setCell (p := ⟨T, 1, none⟩) hT _).setCell (p := ⟨T, 2, none⟩) hT _).setCell (p := ⟨T, 3, none⟩) hT _
def funS (s : ByteArray) (t u : Tm) : Tm := .mk 2 0 s none 0 [t, u]
end Go.Proofs.YtlpibnbabgfiiaaGreatDoor
