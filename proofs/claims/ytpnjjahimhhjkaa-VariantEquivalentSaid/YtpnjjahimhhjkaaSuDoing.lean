/-
  A list of terms that is replaced, term by term, in a row of the call's own; a box of four cells that is held.
-/
import Derived.Test.YtpnjjahimhhjkaaSuClone
import Derived.Test.YtpnjjahimhhjkaaVxPlain
namespace Go.Proofs.Ytpnjjahimhhjkaa
open Go.RowKit

/-- A box of four cells that may be written. -/
structure Held (B : Nat) (w : World) (v0 v1 v2 v3 : Value) : Prop where
  lt : B < w.heap.size
  c0 : w.cell? ⟨B, 0, none⟩ = some v0
  c1 : w.cell? ⟨B, 1, none⟩ = some v1
  c2 : w.cell? ⟨B, 2, none⟩ = some v2
  c3 : w.cell? ⟨B, 3, none⟩ = some v3
  free : ∀ j, w.frozen? ⟨B, j, none⟩ = false
section
variable {B : Nat} {w w' : World} {v0 v1 v2 v3 : Value}
theorem Held.below (h : Held B w v0 v1 v2 v3) (hb : Below w.heap.size w w') : Held B w' v0 v1 v2 v3 :=
  ⟨Nat.lt_of_lt_of_le h.lt hb.size, keepv hb h.c0, keepv hb h.c1, keepv hb h.c2, keepv hb h.c3, fun j => (hb.frozen (p := ⟨B, j, none⟩) h.lt).trans (h.free j)⟩
theorem Held.alloc (h : Held B w v0 v1 v2 v3) (o : Obj) : Held B (w.alloc o) v0 v1 v2 v3 := h.below ((Below.refl _ _).alloc (Nat.le_refl _) o)
theorem Held.other (h : Held B w v0 v1 v2 v3) {p : Addr} (hp : p.block ≠ B) (v : Value) : Held B (w.setCell p v) v0 v1 v2 v3 := by
  have ne : ∀ j, p ≠ ⟨B, j, none⟩ := fun j e => hp (by rw [e])
  refine ⟨by simpa [World.setCell] using h.lt, ?_, ?_, ?_, ?_, fun j => by rw [World.frozen?_setCell]; exact h.free j⟩
  · rw [World.cell?_setCell_other _ _ _ _ (ne _)]; exact h.c0
  · rw [World.cell?_setCell_other _ _ _ _ (ne _)]; exact h.c1
  · rw [World.cell?_setCell_other _ _ _ _ (ne _)]; exact h.c2
  · rw [World.cell?_setCell_other _ _ _ _ (ne _)]; exact h.c3
theorem Held.other4 (h : Held B w v0 v1 v2 v3) {g q0 q1 q2 q3 : Nat} (hg : g ≠ B) (u0 u1 u2 u3 : Value) : Held B ((((w.setCell ⟨g, q0, none⟩ u0).setCell ⟨g, q1, none⟩ u1).setCell ⟨g, q2, none⟩ u2).setCell ⟨g, q3, none⟩ u3) v0 v1 v2 v3 :=
  (((h.other (p := ⟨g, q0, none⟩) hg _).other (p := ⟨g, q1, none⟩) hg _).other (p := ⟨g, q2, none⟩) hg _).other (p := ⟨g, q3, none⟩) hg _
theorem below4 {X w : World} (h : Below X.heap.size X w) {g q0 q1 q2 q3 : Nat} (hg : X.heap.size ≤ g) (u0 u1 u2 u3 : Value) : Below X.heap.size X ((((w.setCell ⟨g, q0, none⟩ u0).setCell ⟨g, q1, none⟩ u1).setCell ⟨g, q2, none⟩ u2).setCell ⟨g, q3, none⟩ u3) :=
  (((h.setCell (p := ⟨g, q0, none⟩) hg _).setCell (p := ⟨g, q1, none⟩) hg _).setCell (p := ⟨g, q2, none⟩) hg _).setCell (p := ⟨g, q3, none⟩) hg _
theorem Held.set3 (h : Held B w v0 v1 v2 v3) (v : Value) : Held B (w.setCell ⟨B, 3, none⟩ v) v0 v1 v2 v := by
  have n : ∀ j, j ≠ 3 → (⟨B, 3, none⟩ : Addr) ≠ ⟨B, j, none⟩ := fun j hj e => by injection e with _ e _; omega
  refine ⟨by simpa [World.setCell] using h.lt, ?_, ?_, ?_, ?_, fun j => by rw [World.frozen?_setCell]; exact h.free j⟩
  · rw [World.cell?_setCell_other _ _ _ _ (n 0 (by omega))]; exact h.c0
  · rw [World.cell?_setCell_other _ _ _ _ (n 1 (by omega))]; exact h.c1
  · rw [World.cell?_setCell_other _ _ _ _ (n 2 (by omega))]; exact h.c2
  · exact World.cell?_setCell_same' _ _ _ (by rw [h.c3]; rfl)
theorem held_new (w : World) (T : TypeId) : Held w.heap.size (w.alloc (.cells #[v0, v1, v2, v3] T)) v0 v1 v2 v3 := by
  have h : ∀ j, (w.alloc (.cells #[v0, v1, v2, v3] T)).cell? ⟨w.heap.size, j, none⟩ = (#[v0, v1, v2, v3] : Array Value)[j]? := fun j => World.cell?_alloc_at _ _ _ _ rfl
  exact ⟨by simp, h 0, h 1, h 2, h 3, fun j => World.frozen?_alloc_at _ _ _ _ rfl⟩
end

theorem heap_set4 (w : World) {g q0 q1 q2 q3 b : Nat} (hb : b ≠ g) (u0 u1 u2 u3 : Value) : ((((w.setCell ⟨g, q0, none⟩ u0).setCell ⟨g, q1, none⟩ u1).setCell ⟨g, q2, none⟩ u2).setCell ⟨g, q3, none⟩ u3).heap[b]? = w.heap[b]? := by
  rw [Below.heap_setCell _ _ _ _ hb, Below.heap_setCell _ _ _ _ hb, Below.heap_setCell _ _ _ _ hb, Below.heap_setCell _ _ _ _ hb]
theorem size_set4 (w : World) (g q0 q1 q2 q3 : Nat) (u0 u1 u2 u3 : Value) : ((((w.setCell ⟨g, q0, none⟩ u0).setCell ⟨g, q1, none⟩ u1).setCell ⟨g, q2, none⟩ u2).setCell ⟨g, q3, none⟩ u3).heap.size = w.heap.size := by simp [World.setCell]
/-- The first j terms are what f makes of them, in blocks from lo on; lo: where the call's own blocks begin. -/
def Putting (f : Tm → Tm) (l : List Tm) (g lo j : Nat) (wr : World) : Prop :=
  ∃ news : List Tm, news.length = j ∧ stripL news = stripL ((l.take j).map f) ∧ Row4 wr g (news ++ l.drop j) ∧ ∀ x ∈ news, Lie Any lo (Is g) wr x
section
variable {f : Tm → Tm} {l : List Tm} {g lo j : Nat} {wr : World}
theorem Putting.below {w' : World} (h : Putting f l g lo j wr) (hb : Below wr.heap.size wr w') : Putting f l g lo j w' := by
  obtain ⟨news, hn, hs, hr, hk⟩ := h
  exact ⟨news, hn, hs, hr.below hb, fun x hx => (hk x hx).below hb⟩
theorem Putting.cells (h : Putting f l g lo j wr) (hj : j < l.length) : ∀ i v, (l.getD j default).cells[i]? = some v → wr.cell? ⟨g, j * 4 + i, none⟩ = some v := by
  obtain ⟨news, hn, hs, hr, hk⟩ := h
  intro i v hv
  have hgx : (news ++ l.drop j).getD j default = l.getD j default := by
    simp [List.getD, List.getElem?_append_right (show news.length ≤ j by omega), hn]
  rw [Nat.mul_comm]
  exact hr.2.2 j i v (by simp; omega) (by rw [hgx]; exact hv)
theorem Putting.lt (h : Putting f l g lo j wr) : g < wr.heap.size := by
  obtain ⟨_, _, _, hr, _⟩ := h
  exact hr.1
theorem Putting.free (h : Putting f l g lo j wr) : ∀ i, wr.frozen? ⟨g, i, none⟩ = false := by
  obtain ⟨_, _, _, hr, _⟩ := h
  exact hr.2.1
theorem Putting.start (h : Row4 wr g l) : Putting f l g lo 0 wr := ⟨[], rfl, rfl, by simpa using h, fun x hx => by cases hx⟩
theorem Putting.other (h : Putting f l g lo j wr) {p : Addr} (h1 : p.block < lo) (h2 : p.block ≠ g) (v : Value) : Putting f l g lo j (wr.setCell p v) := by
  obtain ⟨news, hn, hs, hr, hk⟩ := h
  refine ⟨news, hn, hs, ⟨by simpa [World.setCell] using hr.1, fun j => by rw [World.frozen?_setCell]; exact hr.2.1 j, fun i q u hi hu => ?_⟩, fun x hx => (hk x hx).set (.inl h1) v⟩
  rw [World.cell?_setCell_other _ _ _ _ (fun e => h2 (by rw [e]))]
  exact hr.2.2 i q u hi hu
/-- One term more. -/
theorem putting_next {w2 : World} {u x : Tm} (h : Putting f l g lo j wr) (hj : j < l.length) (hx : x = l.getD j default) (hlo : lo ≤ wr.heap.size) (hu : u.strip = (f x).strip) (hst : Lie Any wr.heap.size No w2 u) (hb : Below wr.heap.size wr w2) (w3 : World)
    (h3 : w3 = (((w2.setCell ⟨g, j * 4, none⟩ (.int .i64 u.kind)).setCell ⟨g, j * 4 + 1, none⟩ (.int .i64 u.num)).setCell ⟨g, j * 4 + 2, none⟩ (.string u.name)).setCell ⟨g, j * 4 + 3, none⟩ (.slice u.at_ u.args.length u.cap)) :
    Putting f l g lo (j + 1) w3 := by
  have hg := h.lt
  obtain ⟨news, hn, hs, hr, hk⟩ := h
  have hlen : (news ++ l.drop j).length = l.length := by simp; omega
  have hr2 := hr.below hb
  have hr3 := hr2.store (i := j) (by omega) u
  rw [← h3] at hr3
  have hset : (news ++ l.drop j).set j u = (news ++ [u]) ++ l.drop (j + 1) := by
    rw [List.set_append_right _ _ (by omega), hn, Nat.sub_self, List.drop_eq_getElem_cons hj, List.set_cons_zero, List.append_assoc]
    rfl
  rw [hset] at hr3
  have hset4 : ∀ y : Tm, Lie Any lo (Is g) w2 y → Lie Any lo (Is g) w3 y := fun y hy => by
    rw [h3]
    exact (((hy.set (p := ⟨g, j * 4, none⟩) (.inr rfl) _).set (p := ⟨g, j * 4 + 1, none⟩) (.inr rfl) _).set (p := ⟨g, j * 4 + 2, none⟩) (.inr rfl) _).set (p := ⟨g, j * 4 + 3, none⟩) (.inr rfl) _
  refine ⟨news ++ [u], by simp [hn], ?_, hr3, fun y hy => hset4 y ?_⟩
  · rw [ttake_next hj, List.map_append, stripL_append, stripL_append, hs, ← hx]
    simp [stripL, hu]
  · rcases List.mem_append.1 hy with hy | hy
    · exact (hk y hy).below hb
    · obtain rfl : y = u := by simpa using hy
      exact (hst.new_is hg).low hlo
/-- The whole list. -/
theorem Putting.done (h : Putting f l g lo l.length wr) {w' : World} (hlo : lo ≤ g) (hs : wr.heap.size ≤ w'.heap.size) (ha : ∀ b, lo ≤ b → b < wr.heap.size → w'.heap[b]? = wr.heap[b]?) (cap : Nat) (hc : l.length ≤ cap) (hcm : cap ≤ maxLen) :
    ∃ news : List Tm, news.length = l.length ∧ stripL news = stripL (l.map f) ∧ ∀ W, Agree lo No w' W → Lst W (some ⟨g, 0, none⟩) news cap := by
  obtain ⟨news, hn, hst, hr, hk⟩ := h
  rw [List.drop_length, List.append_nil] at hr
  rw [List.take_length] at hst
  refine ⟨news, hn, hst, fun W hW => ⟨by omega, hcm, fun _ => ⟨g, 0, rfl, ?_⟩⟩⟩
  have hag : ∀ b, lo ≤ b → b < wr.heap.size → W.heap[b]? = wr.heap[b]? := fun b h1 h2 => (hW b h1 (Nat.lt_of_lt_of_le h2 hs) (fun h => h)).trans (ha b h1 h2)
  refine hr.at W (fun q => ?_) fun x hx => hk x hx W trivial fun b h1 h2 _ => hag b h1 h2
  have := hag g hlo hr.1
  simp only [World.cell?, this]
end
end Go.Proofs.Ytpnjjahimhhjkaa
