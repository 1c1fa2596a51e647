/-
  A list of terms that is replaced, term by term, in a row of the call's own; a box of four cells that is held.
  Contracts of weigh, Great, GreatAtoms and GreatGoals of the reference: they only read.
  Contracts of rightWithin, rightAllWithin, Right and rightTogether of the program.
  Contracts of Right and rightTogether of the program, and of form, Right and rightArgs of the reference.
  Contracts of Right and rightArgs of the reference.
  Constraints and goals in memory; contracts of RightAtom, RightGoal, rightBuiltin of the program and of RightAtom, RightGoal, Arity of the reference.
  Contracts of compareUnknown, compareFunctors, slices.CompareFunc, Compare and Same of the program.
-/
import Derived.Test.YtceekaodhmncgaaMl8x4
import Derived.Test.YtceekaodhmncgaaMl8x2
import Derived.Test.YtceekaodhmncgaaProg
import Derived.Outline
import Derived.WalkLawsBesides
import Derived.BigQuiet
import Derived.Deep.QuietTactic
import Derived.IntWalk
import Derived.Lib.QuietBelow
import Derived.Test.YtceekaodhmncgaaMl8x3
namespace Go.Proofs.Ytceekaodhmncgaa
open Go.RowKit

/-- A box of four cells that may be written. -/
structure Held (B : Nat) (w : World) (v0 v1 v2 v3 : Value) : Prop where
  lt : B < w.heap.size
  c0 : w.cell? ⟨B, 0, none⟩ = some v0
  c1 : w.cell? ⟨B, 1, none⟩ = some v1
  c2 : w.cell? ⟨B, 2, none⟩ = some v2
  c3 : w.cell? ⟨B, 3, none⟩ = some v3
  free : ∀ j, w.frozen? ⟨B, j, none⟩ = false
section
variable {B : Nat} {w w' : World} {v0 v1 v2 v3 : Value}
theorem Held.below (h : Held B w v0 v1 v2 v3) (hb : Below w.heap.size w w') : Held B w' v0 v1 v2 v3 :=
  ⟨Nat.lt_of_lt_of_le h.lt hb.size, keepv hb h.c0, keepv hb h.c1, keepv hb h.c2, keepv hb h.c3, fun j => (hb.frozen (p := ⟨B, j, none⟩) h.lt).trans (h.free j)⟩
theorem Held.alloc (h : Held B w v0 v1 v2 v3) (o : Obj) : Held B (w.alloc o) v0 v1 v2 v3 := h.below ((Below.refl _ _).alloc (Nat.le_refl _) o)
theorem Held.other (h : Held B w v0 v1 v2 v3) {p : Addr} (hp : p.block ≠ B) (v : Value) : Held B (w.setCell p v) v0 v1 v2 v3 := by
  have ne : ∀ j, p ≠ ⟨B, j, none⟩ := fun j e => hp (by rw [e])
  refine ⟨by simpa [World.setCell] using h.lt, ?_, ?_, ?_, ?_, fun j => by rw [World.frozen?_setCell]; exact h.free j⟩
  · rw [World.cell?_setCell_other _ _ _ _ (ne _)]; exact h.c0
  · rw [World.cell?_setCell_other _ _ _ _ (ne _)]; exact h.c1
  · rw [World.cell?_setCell_other _ _ _ _ (ne _)]; exact h.c2
  · rw [World.cell?_setCell_other _ _ _ _ (ne _)]; exact h.c3
theorem Held.other4 (h : Held B w v0 v1 v2 v3) {g q0 q1 q2 q3 : Nat} (hg : g ≠ B) (u0 u1 u2 u3 : Value) : Held B ((((w.setCell ⟨g, q0, none⟩ u0).setCell ⟨g, q1, none⟩ u1).setCell ⟨g, q2, none⟩ u2).setCell ⟨g, q3, none⟩ u3) v0 v1 v2 v3 :=
  (((h.other (p := ⟨g, q0, none⟩) hg _).other (p := ⟨g, q1, none⟩) hg _).other (p := ⟨g, q2, none⟩) hg _).other (p := ⟨g, q3, none⟩) hg _
theorem below4 {X w : World} (h : Below X.heap.size X w) {g q0 q1 q2 q3 : Nat} (hg : X.heap.size ≤ g) (u0 u1 u2 u3 : Value) : Below X.heap.size X ((((w.setCell ⟨g, q0, none⟩ u0).setCell ⟨g, q1, none⟩ u1).setCell ⟨g, q2, none⟩ u2).setCell ⟨g, q3, none⟩ u3) :=
  (((h.setCell (p := ⟨g, q0, none⟩) hg _).setCell (p := ⟨g, q1, none⟩) hg _).setCell (p := ⟨g, q2, none⟩) hg _).setCell (p := ⟨g, q3, none⟩) hg _
theorem Held.set3 (h : Held B w v0 v1 v2 v3) (v : Value) : Held B (w.setCell ⟨B, 3, none⟩ v) v0 v1 v2 v := by
  have n : ∀ j, j ≠ 3 → (⟨B, 3, none⟩ : Addr) ≠ ⟨B, j, none⟩ := fun j hj e => by injection e with _ e _; omega
  refine ⟨by simpa [World.setCell] using h.lt, ?_, ?_, ?_, ?_, fun j => by rw [World.frozen?_setCell]; exact h.free j⟩
  · rw [World.cell?_setCell_other _ _ _ _ (n 0 (by omega))]; exact h.c0
  · rw [World.cell?_setCell_other _ _ _ _ (n 1 (by omega))]; exact h.c1
  · rw [World.cell?_setCell_other _ _ _ _ (n 2 (by omega))]; exact h.c2
  · exact World.cell?_setCell_same' _ _ _ (by rw [h.c3]; rfl)
theorem held_new (w : World) (T : TypeId) : Held w.heap.size (w.alloc (.cells #[v0, v1, v2, v3] T)) v0 v1 v2 v3 := by
  have h : ∀ j, (w.alloc (.cells #[v0, v1, v2, v3] T)).cell? ⟨w.heap.size, j, none⟩ = (#[v0, v1, v2, v3] : Array Value)[j]? := fun j => World.cell?_alloc_at _ _ _ _ rfl
  exact ⟨by simp, h 0, h 1, h 2, h 3, fun j => World.frozen?_alloc_at _ _ _ _ rfl⟩
end

theorem heap_set4 (w : World) {g q0 q1 q2 q3 b : Nat} (hb : b ≠ g) (u0 u1 u2 u3 : Value) : ((((w.setCell ⟨g, q0, none⟩ u0).setCell ⟨g, q1, none⟩ u1).setCell ⟨g, q2, none⟩ u2).setCell ⟨g, q3, none⟩ u3).heap[b]? = w.heap[b]? := by
  rw [Below.heap_setCell _ _ _ _ hb, Below.heap_setCell _ _ _ _ hb, Below.heap_setCell _ _ _ _ hb, Below.heap_setCell _ _ _ _ hb]
theorem size_set4 (w : World) (g q0 q1 q2 q3 : Nat) (u0 u1 u2 u3 : Value) : ((((w.setCell ⟨g, q0, none⟩ u0).setCell ⟨g, q1, none⟩ u1).setCell ⟨g, q2, none⟩ u2).setCell ⟨g, q3, none⟩ u3).heap.size = w.heap.size := by simp [World.setCell]
/-- The first j terms are what f makes of them, in blocks from lo on; lo: where the call's own blocks begin. -/
def Putting (f : Tm → Tm) (l : List Tm) (g lo j : Nat) (wr : World) : Prop :=
  ∃ news : List Tm, news.length = j ∧ stripL news = stripL ((l.take j).map f) ∧ Row4 wr g (news ++ l.drop j) ∧ ∀ x ∈ news, Lie Any lo (Is g) wr x
section
variable {f : Tm → Tm} {l : List Tm} {g lo j : Nat} {wr : World}
theorem Putting.below {w' : World} (h : Putting f l g lo j wr) (hb : Below wr.heap.size wr w') : Putting f l g lo j w' := by
  obtain ⟨news, hn, hs, hr, hk⟩ := h
  exact ⟨news, hn, hs, hr.below hb, fun x hx => (hk x hx).below hb⟩
theorem Putting.cells (h : Putting f l g lo j wr) (hj : j < l.length) : ∀ i v, (l.getD j default).cells[i]? = some v → wr.cell? ⟨g, j * 4 + i, none⟩ = some v := by
  obtain ⟨news, hn, hs, hr, hk⟩ := h
  intro i v hv
  have hgx : (news ++ l.drop j).getD j default = l.getD j default := by
    simp [List.getD, List.getElem?_append_right (show news.length ≤ j by omega), hn]
  rw [Nat.mul_comm]
  exact hr.2.2 j i v (by simp; omega) (by rw [hgx]; exact hv)
theorem Putting.lt (h : Putting f l g lo j wr) : g < wr.heap.size := by
  obtain ⟨_, _, _, hr, _⟩ := h
  exact hr.1
theorem Putting.free (h : Putting f l g lo j wr) : ∀ i, wr.frozen? ⟨g, i, none⟩ = false := by
  obtain ⟨_, _, _, hr, _⟩ := h
  exact hr.2.1
theorem Putting.start (h : Row4 wr g l) : Putting f l g lo 0 wr := ⟨[], rfl, rfl, by simpa using h, fun x hx => by cases hx⟩
theorem Putting.other (h : Putting f l g lo j wr) {p : Addr} (h1 : p.block < lo) (h2 : p.block ≠ g) (v : Value) : Putting f l g lo j (wr.setCell p v) := by
  obtain ⟨news, hn, hs, hr, hk⟩ := h
  refine ⟨news, hn, hs, ⟨by simpa [World.setCell] using hr.1, fun j => by rw [World.frozen?_setCell]; exact hr.2.1 j, fun i q u hi hu => ?_⟩, fun x hx => (hk x hx).set (.inl h1) v⟩
  rw [World.cell?_setCell_other _ _ _ _ (fun e => h2 (by rw [e]))]
  exact hr.2.2 i q u hi hu
/-- One term more. -/
theorem putting_next {w2 : World} {u x : Tm} (h : Putting f l g lo j wr) (hj : j < l.length) (hx : x = l.getD j default) (hlo : lo ≤ wr.heap.size) (hu : u.strip = (f x).strip) (hst : Lie Any wr.heap.size No w2 u) (hb : Below wr.heap.size wr w2) (w3 : World)
    (h3 : w3 = (((w2.setCell ⟨g, j * 4, none⟩ (.int .i64 u.kind)).setCell ⟨g, j * 4 + 1, none⟩ (.int .i64 u.num)).setCell ⟨g, j * 4 + 2, none⟩ (.string u.name)).setCell ⟨g, j * 4 + 3, none⟩ (.slice u.at_ u.args.length u.cap)) :
    Putting f l g lo (j + 1) w3 := by
  have hg := h.lt
  obtain ⟨news, hn, hs, hr, hk⟩ := h
  have hlen : (news ++ l.drop j).length = l.length := by simp; omega
  have hr2 := hr.below hb
  have hr3 := hr2.store (i := j) (by omega) u
  rw [← h3] at hr3
  have hset : (news ++ l.drop j).set j u = (news ++ [u]) ++ l.drop (j + 1) := by
    rw [List.set_append_right _ _ (by omega), hn, Nat.sub_self, List.drop_eq_getElem_cons hj, List.set_cons_zero, List.append_assoc]
    rfl
  rw [hset] at hr3
  have hset4 : ∀ y : Tm, Lie Any lo (Is g) w2 y → Lie Any lo (Is g) w3 y := fun y hy => by
    rw [h3]
    exact (((hy.set (p := ⟨g, j * 4, none⟩) (.inr rfl) _).set (p := ⟨g, j * 4 + 1, none⟩) (.inr rfl) _).set (p := ⟨g, j * 4 + 2, none⟩) (.inr rfl) _).set (p := ⟨g, j * 4 + 3, none⟩) (.inr rfl) _
  refine ⟨news ++ [u], by simp [hn], ?_, hr3, fun y hy => hset4 y ?_⟩
  · rw [ttake_next hj, List.map_append, stripL_append, stripL_append, hs, ← hx]
    simp [stripL, hu]
  · rcases List.mem_append.1 hy with hy | hy
    · exact (hk y hy).below hb
    · obtain rfl : y = u := by simpa using hy
      exact (hst.new_is hg).low hlo
/-- The whole list. -/
theorem Putting.done (h : Putting f l g lo l.length wr) {w' : World} (hlo : lo ≤ g) (hs : wr.heap.size ≤ w'.heap.size) (ha : ∀ b, lo ≤ b → b < wr.heap.size → w'.heap[b]? = wr.heap[b]?) (cap : Nat) (hc : l.length ≤ cap) (hcm : cap ≤ maxLen) :
    ∃ news : List Tm, news.length = l.length ∧ stripL news = stripL (l.map f) ∧ ∀ W, Agree lo No w' W → Lst W (some ⟨g, 0, none⟩) news cap := by
  obtain ⟨news, hn, hst, hr, hk⟩ := h
  rw [List.drop_length, List.append_nil] at hr
  rw [List.take_length] at hst
  refine ⟨news, hn, hst, fun W hW => ⟨by omega, hcm, fun _ => ⟨g, 0, rfl, ?_⟩⟩⟩
  have hag : ∀ b, lo ≤ b → b < wr.heap.size → W.heap[b]? = wr.heap[b]? := fun b h1 h2 => (hW b h1 (Nat.lt_of_lt_of_le h2 hs) (fun h => h)).trans (ha b h1 h2)
  refine hr.at W (fun q => ?_) fun x hx => hk x hx W trivial fun b h1 h2 _ => hag b h1 h2
  have := hag g hlo hr.1
  simp only [World.cell?, this]
end
end Go.Proofs.Ytceekaodhmncgaa
namespace Go.Proofs.Ytceekaodhmncgaa
open Go.RowKit

theorem Lst.drewN {w : World} {A : Option Addr} {l : List Tm} {c : Nat} (h : Lst w A l c) (n : Nat) : Lst (w.drewN n) A l c := h.below (below_drewN (Below.refl _ _) n)

set_option maxHeartbeats 1000000 in
theorem weigh_at (deep : Nat) : ∀ (l : List Tm) (A : Option Addr) (c : Nat) (left : Int) (w : World), Lst w A l c → deep ≤ 64 → -4611686018427387904 ≤ left → left ≤ 1000000 →
    Calls Try.prog 31 #[.slice A l.length c, .int .i64 left, .int .i64 (deep : Int)] w fun e w' => e = .returned (.int .i64 (weigh l left deep)) ∧ ∃ n, w' = w.drewN n := by
  induction deep with
  | zero =>
    intro l A c left w hl _ hlo hhi
    have HV := Lib.hid (show weigh l left ((0 : Nat) : Int) = -1 by simp [weigh])
    go_enter Try.func31, Try.ntmps31
    go_wp2_with fail
    go_ret
    exact ⟨by rw [HV.out]; rfl, 0, rfl⟩
  | succ deep ih =>
    intro l A c left w hl hd hlo hhi
    rw [show ((deep + 1 : Nat) : Int) = (deep : Int) + 1 by omega]
    have hlen : l.length ≤ 9223372036854775807 := by have := hl.1; have := hl.2.1; unfold maxLen at *; omega
    have hd0 : (((deep : Int) + 1) == 0) = false := by simp; omega
    by_cases hgt : left < (l.length : Int)
    · have HV := Lib.hid (show weigh l left ((deep : Int) + 1) = -1 by simp [weigh, hgt])
      go_enter Try.func31, Try.ntmps31
      go_wp2_with fail
      go_ret
      exact ⟨by rw [HV.out]; rfl, 0, rfl⟩
    · have HV := Lib.hid (show weigh l left ((deep : Int) + 1) = weighL l left ((deep : Int) + 1) by unfold weigh; rw [if_neg (by omega)])
      have hgt' : decide (left < (l.length : Int)) = false := by simpa using hgt
      have h0 : 0 ≤ left := by omega
      clear hgt
      have QI := Lib.hid ih
      clear ih
      go_enter Try.func31, Try.ntmps31
      go_wp2_with fail
      go_loopw [1, 7] (fun z i wr => ∃ j : Nat, j ≤ l.length ∧ i = .int .i64 j ∧ z = .int .i64 (weighL (l.take j) left ((deep : Int) + 1)) ∧ Hid (∃ n, wr = w.drewN n)) (fun _ i _ => l.length - (intOf i).toNat)
      case atStart => exact ⟨0, Nat.zero_le _, rfl, rfl, Lib.hid ⟨0, rfl⟩⟩
      case round =>
        obtain ⟨j, hj, rfl, rfl, hb⟩ := hrel
        have z1 := weigh_lo.2 (l.take j) left ((deep : Int) + 1) (by omega)
        have z2 := weighL_hi (l.take j) left ((deep : Int) + 1) (by omega)
        have HS := Lib.hid (fun h => weighL_stop (l := l) (k := j) left ((deep : Int) + 1) h)
        have HN := Lib.hid (fun h => weighL_next (l := l) (k := j) h left ((deep : Int) + 1))
        obtain ⟨z, hz⟩ : ∃ z, weighL (l.take j) left ((deep : Int) + 1) = z := ⟨_, rfl⟩
        rw [hz] at z1 z2 HS HN ⊢
        have HZ := Lib.hid hz
        clear hz
        by_cases hlt : j < l.length
        · by_cases hz0 : 0 ≤ z
          · have hlr : Lst wr A l c := by obtain ⟨n, rfl⟩ := hb.out; exact hl.drewN n
            obtain ⟨b, o, rfl, ⟨c0, c1, c2, c3⟩, hx⟩ := hlr.get hlt
            have HN' := Lib.hid (HN.out hlt hz0)
            clear HN HS
            generalize l.getD j default = x at *
            obtain ⟨k', n', s', A', c', a'⟩ := x
            simp only [Tm.kind, Tm.num, Tm.name, Tm.at_, Tm.args, Tm.cap] at c0 c1 c2 c3
            have hs' : s'.size ≤ 9223372036854775807 := by have := ((At_iff _ _).1 hx).1.2.2; unfold maxLen at this; exact this
            have Q1 := Lib.hid (QI.out a' A' c' (z - 1 - (s'.size : Int) / 8))
            have HX := Lib.hid (show Lst wr A' a' c' from hx.lst)
            clear hx QI
            go_wp2_with fail
            go_quiet ((go_at_call 31; exact Calls.quiet_of (Q1.out _ (HX.out.drewN _) (by omega) (by omega) (by omega))))
            go_wp2_with fail
            go_roundw
            case rel =>
              refine ⟨j + 1, by omega, by go_num, ?_, ?_⟩
              · rw [HN'.out]
                have e : ((deep : Int) + 1) - 1 = (deep : Int) := by omega
                simp only [Tm.args, Tm.name, e]
              · obtain ⟨n, hn⟩ := hb.out
                exact Lib.hid ⟨n + nq, by rw [hn, World.drewN_drewN]⟩
            case measure => simp [intOf]; omega
          · have hz0' : z < 0 := by omega
            have HE := Lib.hid (HS.out hz0')
            clear HN HS
            go_wp2_with fail
            go_ret
            exact ⟨by rw [HV.out, HE.out]; rfl, hb.out⟩
        · obtain rfl : j = l.length := by omega
          have HE := Lib.hid (show weighL l left ((deep : Int) + 1) = z by rw [← HZ.out, List.take_length])
          clear HN HS
          go_wp2_with fail
          go_ret
          exact ⟨by rw [HV.out, HE.out]; rfl, hb.out⟩

theorem great_at (l : List Tm) (A : Option Addr) (c : Nat) (most : Int) (w : World) (hl : Lst w A l c) (h1 : 0 ≤ most) (h2 : most ≤ 1000000) {r : Bool} (hr : decide (weigh l most 64 < 0) = r) :
    Calls Try.prog 10 #[.slice A l.length c, .int .i64 most] w fun e w' => e = .returned (.bool r) ∧ ∃ n, w' = w.drewN n := by
  have Q := Lib.hid (weigh_at 64 l A c most w hl (Nat.le_refl _) (by omega) h2)
  obtain ⟨z, hz⟩ : ∃ z, weigh l most 64 = z := ⟨_, rfl⟩
  have HR := Lib.hid hr
  rw [hz] at HR
  have HZ := Lib.hid hz
  clear hr hz
  go_enter Try.func10, Try.ntmps10
  go_wp2_with fail
  refine Q.out.mono ?_
  rintro e w1 ⟨rfl, hw⟩
  go_wp2_with fail
  go_ret
  refine ⟨?_, hw⟩
  rw [← HR.out, ← HZ.out]
  rfl
end Go.Proofs.Ytceekaodhmncgaa
namespace Go.Proofs.Ytceekaodhmncgaa
open Go.RowKit Go.Sort

/-- A struct of four cells that was laid, in each world of the class. -/
theorem boxed4 (w : World) (v0 v1 v2 v3 : Value) (T : TypeId) :
    (∀ d os, (grow (redrawn (w.alloc (.cells #[v0, v1, v2, v3] T)) d) os).cell? ⟨w.heap.size, 0, none⟩ = some v0) ∧ (∀ d os, (grow (redrawn (w.alloc (.cells #[v0, v1, v2, v3] T)) d) os).cell? ⟨w.heap.size, 1, none⟩ = some v1) ∧
    (∀ d os, (grow (redrawn (w.alloc (.cells #[v0, v1, v2, v3] T)) d) os).cell? ⟨w.heap.size, 2, none⟩ = some v2) ∧ (∀ d os, (grow (redrawn (w.alloc (.cells #[v0, v1, v2, v3] T)) d) os).cell? ⟨w.heap.size, 3, none⟩ = some v3) := by
  have h : ∀ j v, (#[v0, v1, v2, v3] : Array Value)[j]? = some v → (w.alloc (.cells #[v0, v1, v2, v3] T)).cell? ⟨w.heap.size, j, none⟩ = some v := fun j v hv => by rw [World.cell?_alloc_at _ _ _ _ rfl, hv]
  exact ⟨cell_regrown (h 0 v0 rfl), cell_regrown (h 1 v1 rfl), cell_regrown (h 2 v2 rfl), cell_regrown (h 3 v3 rfl)⟩

theorem ret_fit {a b : Int × Bool} (h : a = b) : Ending.returned (.tuple #[.int .i64 a.1, .bool a.2]) = .returned (.tuple #[.int .i64 b.1, .bool b.2]) := by rw [h]

theorem tuple_fit (z : Int) (b : Bool) (p : Int × Bool) (h : p = (z, b)) : Ending.returned (.tuple #[.int .i64 z, .bool b]) = .returned (.tuple #[.int .i64 p.1, .bool p.2]) := by rw [h]

end Go.Proofs.Ytceekaodhmncgaa
namespace Go.Proofs.Ytceekaodhmncgaa
open Go.RowKit Go.Sort

/-- A list of terms that is valid together. -/
def rightL (l : List Tm) : Bool := formL l && (decide (sizeL l ≤ 200) && decide (depthL l ≤ 20))
end Go.Proofs.Ytceekaodhmncgaa
namespace Go.Proofs.Ytceekaodhmncgaa
open Go.RowKit Go.Sort

theorem rights_all (l : List Tm) : (l.all Tm.right && decide (sizeL l ≤ 200)) = rightL l := by
  have key : ∀ m : List Tm, sizeL m ≤ 200 → m.all Tm.right = (formL m && decide (depthL m ≤ 20)) := by
    intro m
    induction m with
    | nil => intro _; rfl
    | cons t r ih =>
      intro h
      simp only [sizeL] at h
      rw [List.all_cons, ih (by omega), Bool.eq_iff_iff]
      have e : depthL (t :: r) = max t.depth (depthL r) := by simp [depthL]
      simp only [Tm.right, formL, Bool.and_eq_true, decide_eq_true_eq]
      constructor
      · rintro ⟨⟨h1, h2, h3⟩, h4, h5⟩
        exact ⟨⟨h1, h4⟩, by omega⟩
      · rintro ⟨⟨h1, h4⟩, h5⟩
        exact ⟨⟨h1, by omega, by omega⟩, h4, by omega⟩
  unfold rightL
  by_cases h : sizeL l ≤ 200
  · rw [key l h]; simp [h]
  · simp [h]
theorem rights_next {l : List Tm} {k : Nat} (h : k < l.length) : (l.take (k + 1)).all Tm.right = ((l.take k).all Tm.right && (l.getD k default).right) := by
  rw [ttake_next h]; simp
theorem rights_false {l : List Tm} {k : Nat} (h : (l.take k).all Tm.right = false) : rightL l = false := by
  rw [← rights_all]
  have e : l.all Tm.right = ((l.take k).all Tm.right && (l.drop k).all Tm.right) := by rw [← List.all_append, List.take_append_drop]
  rw [e, h]; rfl

end Go.Proofs.Ytceekaodhmncgaa
namespace Go.Proofs.Ytceekaodhmncgaa
open Go.RowKit Go.Sort

/-- A constraint: name, where its arguments lie, the capacity there, the arguments. -/
structure Am where
  name : ByteArray
  at_ : Option Addr
  cap : Nat
  args : List Tm
abbrev Am.val (a : Am) : Value := .agg #[.string a.name, .slice a.at_ a.args.length a.cap]
def Am.At (w : World) (a : Am) : Prop := a.name.size ≤ maxLen ∧ Lst w a.at_ a.args a.cap
/-- A goal. -/
structure Gl where
  op : Int
  name : ByteArray
  at_ : Option Addr
  cap : Nat
  args : List Tm
abbrev Gl.val (g : Gl) : Value := .agg #[.int .i64 g.op, .string g.name, .slice g.at_ g.args.length g.cap]
def Gl.At (w : World) (g : Gl) : Prop := Fits g.op ∧ g.name.size ≤ maxLen ∧ Lst w g.at_ g.args g.cap
theorem Am.At.below {w w' : World} {a : Am} (h : a.At w) (hb : Below w.heap.size w w') : a.At w' := ⟨h.1, h.2.below hb⟩
theorem Gl.At.below {w w' : World} {g : Gl} (h : g.At w) (hb : Below w.heap.size w w') : g.At w' := ⟨h.1, h.2.1, h.2.2.below hb⟩
instance : Inhabited Am := ⟨⟨ByteArray.empty, none, 0, []⟩⟩
instance : Inhabited Gl := ⟨⟨0, ByteArray.empty, none, 0, []⟩⟩

def atomB (s : List UInt8) (l : List Tm) : Bool := rightB s && (decide (l.length ≤ 6) && rightL l)
def arity (op : Int) : Int := if op = 1 ∨ op = 2 then 0 else if op = 11 ∨ op = 12 then 1 else if 2 < op ∧ op < 11 then 2 else -1
def builtinB (s : ByteArray) (l : List Tm) (n : Int) : Bool := decide (s.size = 0) && (decide ((l.length : Int) = n) && rightL l)
def goalB (op : Int) (s : ByteArray) (l : List Tm) : Bool := if op = 0 then atomB s.data.toList l else builtinB s l (arity op)

theorem Lst.len {w : World} {A : Option Addr} {l : List Tm} {c : Nat} (h : Lst w A l c) : l.length ≤ 9223372036854775807 := by have := h.1; have := h.2.1; unfold maxLen at *; omega

end Go.Proofs.Ytceekaodhmncgaa
namespace Go.Proofs.Ytceekaodhmncgaa
open Go.RowKit Go.Sort

/-- Two structs of four cells that were laid, behind a call. -/
theorem box8 {w w' : World} {v0 v1 v2 v3 u0 u1 u2 u3 : Value} {T : TypeId}
    (hb : Below ((w.alloc (.cells #[v0, v1, v2, v3] T)).alloc (.cells #[u0, u1, u2, u3] T)).heap.size ((w.alloc (.cells #[v0, v1, v2, v3] T)).alloc (.cells #[u0, u1, u2, u3] T)) w') :
    (w'.cell? ⟨w.heap.size, 0, none⟩ = some v0 ∧ w'.cell? ⟨w.heap.size, 1, none⟩ = some v1 ∧ w'.cell? ⟨w.heap.size, 2, none⟩ = some v2 ∧ w'.cell? ⟨w.heap.size, 3, none⟩ = some v3) ∧
    (w'.cell? ⟨w.heap.size + 1, 0, none⟩ = some u0 ∧ w'.cell? ⟨w.heap.size + 1, 1, none⟩ = some u1 ∧ w'.cell? ⟨w.heap.size + 1, 2, none⟩ = some u2 ∧ w'.cell? ⟨w.heap.size + 1, 3, none⟩ = some u3) ∧ Below w.heap.size w w' := by
  have hz : (w.alloc (.cells #[v0, v1, v2, v3] T)).heap.size = w.heap.size + 1 := by simp
  have h : ∀ j, w'.cell? ⟨w.heap.size, j, none⟩ = (#[v0, v1, v2, v3] : Array Value)[j]? := fun j => by
    rw [hb.cell (p := ⟨w.heap.size, j, none⟩) (by simp; omega), World.cell?_alloc_lt _ _ _ (by simp), World.cell?_alloc_at _ _ _ _ rfl]
  have g : ∀ j, w'.cell? ⟨w.heap.size + 1, j, none⟩ = (#[u0, u1, u2, u3] : Array Value)[j]? := fun j => by
    rw [hb.cell (p := ⟨w.heap.size + 1, j, none⟩) (by simp), World.cell?_alloc_at _ _ _ _ hz.symm]
  exact ⟨⟨h 0, h 1, h 2, h 3⟩, ⟨g 0, g 1, g 2, g 3⟩, (((Below.refl _ _).alloc (Nat.le_refl _) _).alloc (by simp) _).trans (hb.mono (by simp; omega))⟩
theorem below2 (w : World) (o p : Obj) : Below w.heap.size w ((w.alloc o).alloc p) := ((Below.refl _ _).alloc (Nat.le_refl _) _).alloc (by simp) _

theorem lex_zero (y : Int) : lex 0 y = y := by simp [lex]
theorem lex_ne {x : Int} (h : x ≠ 0) (y : Int) : lex x y = x := by simp [lex, h]

set_option maxHeartbeats 1000000 in
theorem unknown_at (t u : Tm) (w : World) {r : Int} (hr : lex (ints t.kind u.kind) (lex (ints t.num u.num) (texts t.name.data.toList u.name.data.toList)) = r) :
    Calls Try.prog 92 #[t.val, u.val] w fun e w' => e = .returned (.int .i64 r) ∧ Below w.heap.size w w' := by
  obtain ⟨k, n, s, A, c, a⟩ := t
  obtain ⟨k', n', s', A', c', a'⟩ := u
  simp only [Tm.kind, Tm.num, Tm.name] at hr
  show Calls Try.prog 92 #[.agg #[.int .i64 k, .int .i64 n, .string s, .slice A a.length c], .agg #[.int .i64 k', .int .i64 n', .string s', .slice A' a'.length c']] w _
  obtain ⟨z1, h1⟩ : ∃ z, ints k k' = z := ⟨_, rfl⟩
  obtain ⟨z2, h2⟩ : ∃ z, ints n n' = z := ⟨_, rfl⟩
  obtain ⟨z3, h3⟩ : ∃ z, texts s.data.toList s'.data.toList = z := ⟨_, rfl⟩
  have q1 := Lib.hid (fun W => cmp_int_at k k' W h1)
  have q2 := Lib.hid (fun W => cmp_int_at n n' W h2)
  have q3 := Lib.hid (fun W => str_cmp_at s s' W h3)
  rw [h1, h2, h3] at hr
  clear h1 h2 h3
  by_cases e1 : z1 = 0
  · subst e1
    rw [lex_zero] at hr
    by_cases e2 : z2 = 0
    · subst e2
      rw [lex_zero] at hr
      subst hr
      go_enter Try.func92, Try.ntmps92
      go_wp2_with fail
      refine (q1.out _).mono ?_
      rintro e w' ⟨rfl, rfl⟩
      go_wp2_with fail
      refine (q2.out _).mono ?_
      rintro e w' ⟨rfl, rfl⟩
      go_wp2_with fail
      refine (q3.out _).mono ?_
      rintro e w' ⟨rfl, rfl⟩
      go_wp2_with fail
      go_ret
      exact ⟨rfl, below2 _ _ _⟩
    · rw [lex_ne e2] at hr
      subst hr
      have e2' : (z2 != 0) = true := by simpa using e2
      go_enter Try.func92, Try.ntmps92
      go_wp2_with fail
      refine (q1.out _).mono ?_
      rintro e w' ⟨rfl, rfl⟩
      go_wp2_with fail
      refine (q2.out _).mono ?_
      rintro e w' ⟨rfl, rfl⟩
      go_wp2_with fail
      go_ret
      exact ⟨rfl, below2 _ _ _⟩
  · rw [lex_ne e1] at hr
    subst hr
    have e1' : (z1 != 0) = true := by simpa using e1
    go_enter Try.func92, Try.ntmps92
    go_wp2_with fail
    refine (q1.out _).mono ?_
    rintro e w' ⟨rfl, rfl⟩
    go_wp2_with fail
    go_ret
    exact ⟨rfl, below2 _ _ _⟩

/-- The value of the function Compare. -/
abbrev cmpFn : Value := .func (.func 85) #[] #[]
def CmpAt (x : Tm) : Prop := ∀ (u : Tm) (w : World), x.At w → u.At w → Calls Try.prog 85 #[x.val, u.val] w fun e w' => e = .returned (.int .i64 (cmpT x u)) ∧ Below w.heap.size w w'

theorem cmpL_next {l m : List Tm} {j : Nat} (hl : j < l.length) (hm : j < m.length) (h : cmpL (l.take j) (m.take j) = 0) : cmpL (l.take (j + 1)) (m.take (j + 1)) = cmpT (l.getD j default) (m.getD j default) := by
  induction j generalizing l m with
  | zero =>
    cases l with
    | nil => simp at hl
    | cons x r => cases m with
      | nil => simp at hm
      | cons y q => simp [cmpL, lex]; omega
  | succ j ih =>
    cases l with
    | nil => simp at hl
    | cons x r => cases m with
      | nil => simp at hm
      | cons y q =>
        simp only [List.take_succ_cons, cmpL] at h ⊢
        have hx : cmpT x y = 0 := by unfold lex at h; split at h <;> assumption
        rw [hx, lex_zero] at h ⊢
        simpa using ih (by simpa using hl) (by simpa using hm) h
theorem cmpL_stop {l m : List Tm} {j : Nat} (hl : j < l.length) (hm : j < m.length) (h : cmpL (l.take j) (m.take j) = 0) (hx : cmpT (l.getD j default) (m.getD j default) ≠ 0) : cmpL l m = cmpT (l.getD j default) (m.getD j default) := by
  induction j generalizing l m with
  | zero =>
    cases l with
    | nil => simp at hl
    | cons x r => cases m with
      | nil => simp at hm
      | cons y q =>
        simp only [List.getD_cons_zero] at hx ⊢
        simp only [cmpL]
        exact lex_ne hx _
  | succ j ih =>
    cases l with
    | nil => simp at hl
    | cons x r => cases m with
      | nil => simp at hm
      | cons y q =>
        simp only [List.take_succ_cons, cmpL] at h
        have hz : cmpT x y = 0 := by unfold lex at h; split at h <;> assumption
        rw [hz, lex_zero] at h
        simp only [List.getD_cons_succ] at hx ⊢
        simp only [cmpL]
        rw [hz, lex_zero]
        exact ih (by simpa using hl) (by simpa using hm) h hx
theorem cmpL_end {l m : List Tm} {j : Nat} (hj : j = l.length ∨ j = m.length) (hl : j ≤ l.length) (hm : j ≤ m.length) (h : cmpL (l.take j) (m.take j) = 0) : cmpL l m = ints l.length m.length := by
  induction j generalizing l m with
  | zero =>
    cases l with
    | nil => cases m with
      | nil => simp [cmpL, ints]
      | cons y q => rw [ints_lt (by simp)]; rfl
    | cons x r => cases m with
      | nil => rw [ints_gt (by simp)]; rfl
      | cons y q => simp at hj
  | succ j ih =>
    cases l with
    | nil => simp at hl
    | cons x r => cases m with
      | nil => simp at hm
      | cons y q =>
        simp only [List.take_succ_cons, cmpL] at h ⊢
        have hz : cmpT x y = 0 := by unfold lex at h; split at h <;> assumption
        rw [hz, lex_zero] at h ⊢
        rw [ih (by simpa using hj) (by simpa using hl) (by simpa using hm) h]
        unfold ints
        simp

set_option maxHeartbeats 1000000 in
theorem cmp_lists_at (l m : List Tm) (ih : ∀ x ∈ l, CmpAt x) (A B : Option Addr) (c d : Nat) (w : World) (hl : Lst w A l c) (hm : Lst w B m d) :
    Calls Try.prog 106 #[.slice A l.length c, .slice B m.length d, cmpFn] w fun e w' => e = .returned (.int .i64 (cmpL l m)) ∧ Below w.heap.size w w' := by
  have hlen : l.length ≤ 9223372036854775807 := by have := hl.1; have := hl.2.1; unfold maxLen at *; omega
  have hlen' : m.length ≤ 9223372036854775807 := by have := hm.1; have := hm.2.1; unfold maxLen at *; omega
  have QI := Lib.hid ih
  clear ih
  show Calls Try.prog _ #[.slice A l.length c, .slice B m.length d, .func (.func 85) #[] #[]] w _
  go_enter Try.func106, Try.ntmps106
  go_wp2_with fail
  go_loopw [13] (fun i wr => ∃ j : Nat, j ≤ l.length ∧ j ≤ m.length ∧ i = .int .i64 j ∧ Hid (cmpL (l.take j) (m.take j) = 0) ∧ Below w.heap.size w wr) (fun i _ => l.length - (intOf i).toNat)
  case atStart => exact ⟨0, Nat.zero_le _, Nat.zero_le _, rfl, Lib.hid rfl, Below.refl _ _⟩
  case round =>
    obtain ⟨j, hj, hjm, rfl, HF, hb⟩ := hrel
    by_cases hlt : j < l.length
    · obtain ⟨b, o, rfl, ⟨c0, c1, c2, c3⟩, hx⟩ := (hl.below hb).get hlt
      by_cases hlt' : j < m.length
      · obtain ⟨b', o', rfl, ⟨g0, g1, g2, g3⟩, hy⟩ := (hm.below hb).get hlt'
        have hmem := getD_mem hlt
        have HN := Lib.hid (cmpL_next hlt hlt' HF.out)
        have HS := Lib.hid (fun h => cmpL_stop hlt hlt' HF.out h)
        generalize l.getD j default = x at *
        generalize m.getD j default = y at *
        have Q1 := Lib.hid (fun W (h : Below wr.heap.size wr W) => QI.out x hmem y W (hx.below h) (hy.below h))
        have hb1 := ((World.block_lt_of_cell? _ _ c0 : b < wr.heap.size))
        have hb2 := ((World.block_lt_of_cell? _ _ g0 : b' < wr.heap.size))
        clear hx hy QI hmem
        obtain ⟨z, hz⟩ : ∃ z, cmpT x y = z := ⟨_, rfl⟩
        rw [hz] at HN HS Q1
        clear hz
        obtain ⟨k1, n1, s1, A1, p1, a1⟩ := x
        obtain ⟨k2, n2, s2, A2, p2, a2⟩ := y
        simp only [Tm.kind, Tm.num, Tm.name, Tm.at_, Tm.args, Tm.cap] at c0 c1 c2 c3 g0 g1 g2 g3
        go_wp2_with fail
        refine (Q1.out _ (below2 _ _ _)).mono ?_
        rintro e w2 ⟨rfl, hb3⟩
        have hb4 := hb.trans (((below2 _ _ _).trans (hb3.mono (by simp; omega))).mono hb.size)
        by_cases hz : z = 0
        · subst hz
          go_wp2_with fail
          go_roundw
          case rel => exact ⟨j + 1, by omega, by omega, by go_num, HN, hb4⟩
          case measure => simp [intOf]; omega
        · have hz' : (z != 0) = true := by simpa using hz
          have HE := Lib.hid (HS.out hz)
          clear HS HN
          go_wp2_with fail
          go_ret
          exact ⟨by rw [HE.out]; rfl, hb4⟩
      · have HE := Lib.hid (show cmpL l m = 1 by rw [cmpL_end (.inr (by omega)) hj hjm HF.out, ints_gt (by omega)])
        obtain ⟨k1, n1, s1, A1, p1, a1⟩ := l.getD j default
        simp only [Tm.kind, Tm.num, Tm.name, Tm.at_, Tm.args, Tm.cap] at c0 c1 c2 c3
        go_wp2_with fail
        go_ret
        exact ⟨by rw [HE.out]; rfl, hb.alloc hb.size _⟩
    · obtain rfl : j = l.length := by omega
      by_cases hlt' : l.length < m.length
      · have HE := Lib.hid (show cmpL l m = -1 by rw [cmpL_end (.inl rfl) hj hjm HF.out, ints_lt (by omega)])
        go_wp2_with fail
        go_ret
        exact ⟨by rw [HE.out]; rfl, hb⟩
      · have HE := Lib.hid (show cmpL l m = 0 by
          rw [cmpL_end (.inl rfl) hj hjm HF.out]
          have e : l.length = m.length := by omega
          rw [e, ints_self])
        go_wp2_with fail
        go_ret
        exact ⟨by rw [HE.out]; rfl, hb⟩

set_option maxHeartbeats 1000000 in
theorem functors_at (t u : Tm) (ih : ∀ x ∈ t.args, CmpAt x) (w : World) (ht : t.At w) (hu : u.At w) {r : Int}
    (hr : lex (ints t.args.length u.args.length) (lex (texts t.name.data.toList u.name.data.toList) (cmpL t.args u.args)) = r) :
    Calls Try.prog 91 #[t.val, u.val] w fun e w' => e = .returned (.int .i64 r) ∧ Below w.heap.size w w' := by
  have hl := ht.lst
  have hm := hu.lst
  obtain ⟨k, n, s, A, c, a⟩ := t
  obtain ⟨k', n', s', A', c', a'⟩ := u
  simp only [Tm.name, Tm.args, Tm.at_, Tm.cap] at hr hl hm ih
  show Calls Try.prog 91 #[.agg #[.int .i64 k, .int .i64 n, .string s, .slice A a.length c], .agg #[.int .i64 k', .int .i64 n', .string s', .slice A' a'.length c']] w _
  have hlen : a.length ≤ 9223372036854775807 := by have := hl.1; have := hl.2.1; unfold maxLen at *; omega
  have hlen' : a'.length ≤ 9223372036854775807 := by have := hm.1; have := hm.2.1; unfold maxLen at *; omega
  obtain ⟨z1, h1⟩ : ∃ z, ints a.length a'.length = z := ⟨_, rfl⟩
  obtain ⟨z2, h2⟩ : ∃ z, texts s.data.toList s'.data.toList = z := ⟨_, rfl⟩
  have q1 := Lib.hid (fun W => cmp_int_at (a.length : Int) (a'.length : Int) W h1)
  have q2 := Lib.hid (fun W => str_cmp_at s s' W h2)
  have q3 := Lib.hid (fun W (h : Below w.heap.size w W) => cmp_lists_at a a' ih A A' c c' W (hl.below h) (hm.below h))
  obtain ⟨z3, h3⟩ : ∃ z, cmpL a a' = z := ⟨_, rfl⟩
  rw [h3] at q3
  rw [h1, h2, h3] at hr
  clear h1 h2 h3 ih hl hm ht hu
  by_cases e1 : z1 = 0
  · subst e1
    rw [lex_zero] at hr
    by_cases e2 : z2 = 0
    · subst e2
      rw [lex_zero] at hr
      subst hr
      go_enter Try.func91, Try.ntmps91
      go_wp2_with fail
      refine (q1.out _).mono ?_
      rintro e w' ⟨rfl, rfl⟩
      go_wp2_with fail
      refine (q2.out _).mono ?_
      rintro e w' ⟨rfl, rfl⟩
      go_wp2_with fail
      refine (q3.out _ (below2 _ _ _)).mono ?_
      rintro e w' ⟨rfl, hb⟩
      go_wp2_with fail
      go_ret
      exact ⟨rfl, (below2 _ _ _).trans (hb.mono (by simp; omega))⟩
    · rw [lex_ne e2] at hr
      subst hr
      have e2' : (z2 != 0) = true := by simpa using e2
      go_enter Try.func91, Try.ntmps91
      go_wp2_with fail
      refine (q1.out _).mono ?_
      rintro e w' ⟨rfl, rfl⟩
      go_wp2_with fail
      refine (q2.out _).mono ?_
      rintro e w' ⟨rfl, rfl⟩
      go_wp2_with fail
      go_ret
      exact ⟨rfl, below2 _ _ _⟩
  · rw [lex_ne e1] at hr
    subst hr
    have e1' : (z1 != 0) = true := by simpa using e1
    go_enter Try.func91, Try.ntmps91
    go_wp2_with fail
    refine (q1.out _).mono ?_
    rintro e w' ⟨rfl, rfl⟩
    go_wp2_with fail
    go_ret
    exact ⟨rfl, below2 _ _ _⟩

theorem boxed8 (w : World) (v0 v1 v2 v3 u0 u1 u2 u3 : Value) (T : TypeId) :
    (∀ d os, (grow (redrawn ((w.alloc (.cells #[v0, v1, v2, v3] T)).alloc (.cells #[u0, u1, u2, u3] T)) d) os).cell? ⟨w.heap.size, 0, none⟩ = some v0) ∧ (∀ d os, (grow (redrawn ((w.alloc (.cells #[v0, v1, v2, v3] T)).alloc (.cells #[u0, u1, u2, u3] T)) d) os).cell? ⟨w.heap.size, 1, none⟩ = some v1) ∧
    (∀ d os, (grow (redrawn ((w.alloc (.cells #[v0, v1, v2, v3] T)).alloc (.cells #[u0, u1, u2, u3] T)) d) os).cell? ⟨w.heap.size, 2, none⟩ = some v2) ∧ (∀ d os, (grow (redrawn ((w.alloc (.cells #[v0, v1, v2, v3] T)).alloc (.cells #[u0, u1, u2, u3] T)) d) os).cell? ⟨w.heap.size, 3, none⟩ = some v3) ∧
    (∀ d os, (grow (redrawn ((w.alloc (.cells #[v0, v1, v2, v3] T)).alloc (.cells #[u0, u1, u2, u3] T)) d) os).cell? ⟨w.heap.size + 1, 0, none⟩ = some u0) ∧ (∀ d os, (grow (redrawn ((w.alloc (.cells #[v0, v1, v2, v3] T)).alloc (.cells #[u0, u1, u2, u3] T)) d) os).cell? ⟨w.heap.size + 1, 1, none⟩ = some u1) ∧
    (∀ d os, (grow (redrawn ((w.alloc (.cells #[v0, v1, v2, v3] T)).alloc (.cells #[u0, u1, u2, u3] T)) d) os).cell? ⟨w.heap.size + 1, 2, none⟩ = some u2) ∧ (∀ d os, (grow (redrawn ((w.alloc (.cells #[v0, v1, v2, v3] T)).alloc (.cells #[u0, u1, u2, u3] T)) d) os).cell? ⟨w.heap.size + 1, 3, none⟩ = some u3) :=
  ⟨fun d os => (box8 (below_regrown _ d os)).1.1, fun d os => (box8 (below_regrown _ d os)).1.2.1, fun d os => (box8 (below_regrown _ d os)).1.2.2.1, fun d os => (box8 (below_regrown _ d os)).1.2.2.2,
   fun d os => (box8 (below_regrown _ d os)).2.1.1, fun d os => (box8 (below_regrown _ d os)).2.1.2.1, fun d os => (box8 (below_regrown _ d os)).2.1.2.2.1, fun d os => (box8 (below_regrown _ d os)).2.1.2.2.2⟩
set_option maxHeartbeats 1000000 in
theorem compare_at (t : Tm) : CmpAt t := by
  induction t using Tm.induct with
  | h k n s A c a ih =>
    intro u w ht hu
    have Q2 := Lib.hid (fun W (h : Below w.heap.size w W) {r : Int} => functors_at (.mk k n s A c a) u ih W (ht.below h) (hu.below h) (r := r))
    have Q3 := Lib.hid (fun W {r : Int} => unknown_at (.mk k n s A c a) u W (r := r))
    obtain ⟨k', n', s', A', c', a'⟩ := u
    clear ih ht hu
    show Calls Try.prog 85 #[.agg #[.int .i64 k, .int .i64 n, .string s, .slice A a.length c], .agg #[.int .i64 k', .int .i64 n', .string s', .slice A' a'.length c']] w _
    obtain ⟨j, hj⟩ : ∃ z, cls k = z := ⟨_, rfl⟩
    obtain ⟨j', hj'⟩ : ∃ z, cls k' = z := ⟨_, rfl⟩
    obtain ⟨z0, h0⟩ : ∃ z, ints j j' = z := ⟨_, rfl⟩
    obtain ⟨z1, h1⟩ : ∃ z, ints n n' = z := ⟨_, rfl⟩
    have r1 := Lib.hid (show ∀ W, Calls Try.prog 90 #[.agg #[.int .i64 k, .int .i64 n, .string s, .slice A a.length c]] W fun e w' => e = .returned (.int .i64 j) ∧ Below W.heap.size W w' from fun W => rank_at (.mk k n s A c a) W hj)
    have r2 := Lib.hid (show ∀ W, Calls Try.prog 90 #[.agg #[.int .i64 k', .int .i64 n', .string s', .slice A' a'.length c']] W fun e w' => e = .returned (.int .i64 j') ∧ Below W.heap.size W w' from fun W => rank_at (.mk k' n' s' A' c' a') W hj')
    have q0 := Lib.hid (fun W => cmp_int_at j j' W h0)
    have q1 := Lib.hid (fun W => cmp_int_at n n' W h1)
    obtain ⟨R, hR⟩ : ∃ z, cmpT (.mk k n s A c a) (.mk k' n' s' A' c' a') = z := ⟨_, rfl⟩
    have HR := hR
    simp only [cmpT, Tm.kind, Tm.num, Tm.name, Tm.args] at HR
    rw [hj, hj', h0, h1] at HR
    rw [hR]
    clear hR
    by_cases e0 : z0 = 0
    · subst e0
      rw [lex_zero] at HR
      by_cases k1 : k = 1
      · subst k1
        rw [if_pos (.inl rfl)] at HR
        subst HR
        clear hj hj' h0 h1 Q2 Q3
        obtain ⟨kb0, kb1, kb2, kb3, kc0, kc1, kc2, kc3⟩ := boxed8 w (.int .i64 1) (.int .i64 n) (.string s) (.slice A a.length c) (.int .i64 k') (.int .i64 n') (.string s') (.slice A' a'.length c') 25
        go_enter Try.func85, Try.ntmps85
        go_wp2_with fail
        refine wp_region_quiet_below (by kernel_rfl) (by kernel_rfl) ?_
        repeat (go_big_quiet_step (first | (go_at_call 90; first | (with_reducible exact Calls.regrown_of (r1.out _)) | (with_reducible exact Calls.regrown_of (r2.out _))) | (go_at_call 71; exact Calls.regrown_of (withBelow (q0.out _)))))
        refine wpQuiet_nil ?_
        intro w1 hw'
        obtain ⟨⟨d0, d1, d2, d3⟩, ⟨g0, g1, g2, g3⟩, hb1⟩ := box8 (regrown_below hw')
        clear kb0 kb1 kb2 kb3 kc0 kc1 kc2 kc3 hw'
        go_wp2_with fail
        refine (q1.out _).mono ?_
        rintro e w' ⟨rfl, rfl⟩
        go_wp2_with fail
        go_ret
        exact ⟨rfl, hb1⟩
      · by_cases k0 : k = 0
        · subst k0
          rw [if_pos (.inr rfl)] at HR
          subst HR
          clear hj hj' h0 h1 Q2 Q3
          obtain ⟨kb0, kb1, kb2, kb3, kc0, kc1, kc2, kc3⟩ := boxed8 w (.int .i64 0) (.int .i64 n) (.string s) (.slice A a.length c) (.int .i64 k') (.int .i64 n') (.string s') (.slice A' a'.length c') 25
          go_enter Try.func85, Try.ntmps85
          go_wp2_with fail
          refine wp_region_quiet_below (by kernel_rfl) (by kernel_rfl) ?_
          repeat (go_big_quiet_step (first | (go_at_call 90; first | (with_reducible exact Calls.regrown_of (r1.out _)) | (with_reducible exact Calls.regrown_of (r2.out _))) | (go_at_call 71; exact Calls.regrown_of (withBelow (q0.out _)))))
          refine wpQuiet_nil ?_
          intro w1 hw'
          obtain ⟨⟨d0, d1, d2, d3⟩, ⟨g0, g1, g2, g3⟩, hb1⟩ := box8 (regrown_below hw')
          clear kb0 kb1 kb2 kb3 kc0 kc1 kc2 kc3 hw'
          go_wp2_with fail
          refine (q1.out _).mono ?_
          rintro e w' ⟨rfl, rfl⟩
          go_wp2_with fail
          go_ret
          exact ⟨rfl, hb1⟩
        · rw [if_neg (by omega)] at HR
          have k1' : (k == 1) = false := by simp [k1]
          have k0' : (k == 0) = false := by simp [k0]
          by_cases k2 : k = 2
          · subst k2
            rw [if_pos rfl] at HR
            have HQ := Lib.hid (fun W h => Q2.out W h HR)
            clear hj hj' h0 h1 Q2 Q3 HR
            obtain ⟨kb0, kb1, kb2, kb3, kc0, kc1, kc2, kc3⟩ := boxed8 w (.int .i64 2) (.int .i64 n) (.string s) (.slice A a.length c) (.int .i64 k') (.int .i64 n') (.string s') (.slice A' a'.length c') 25
            go_enter Try.func85, Try.ntmps85
            go_wp2_with fail
            refine wp_region_quiet_below (by kernel_rfl) (by kernel_rfl) ?_
            repeat (go_big_quiet_step (first | (go_at_call 90; first | (with_reducible exact Calls.regrown_of (r1.out _)) | (with_reducible exact Calls.regrown_of (r2.out _))) | (go_at_call 71; exact Calls.regrown_of (withBelow (q0.out _)))))
            refine wpQuiet_nil ?_
            intro w1 hw'
            obtain ⟨⟨d0, d1, d2, d3⟩, ⟨g0, g1, g2, g3⟩, hb1⟩ := box8 (regrown_below hw')
            clear kb0 kb1 kb2 kb3 kc0 kc1 kc2 kc3 hw'
            go_wp2_with fail
            refine (HQ.out _ hb1).mono ?_
            rintro e w' ⟨rfl, hb⟩
            go_wp2_with fail
            go_ret
            exact ⟨rfl, hb1.trans (hb.mono hb1.size)⟩
          · rw [if_neg k2] at HR
            have k2' : (k == 2) = false := by simp [k2]
            rw [← h1] at HR
            have HQ := Lib.hid (fun W => Q3.out W HR)
            clear hj hj' h0 h1 Q2 Q3 HR k0 k1 k2
            obtain ⟨kb0, kb1, kb2, kb3, kc0, kc1, kc2, kc3⟩ := boxed8 w (.int .i64 k) (.int .i64 n) (.string s) (.slice A a.length c) (.int .i64 k') (.int .i64 n') (.string s') (.slice A' a'.length c') 25
            go_enter Try.func85, Try.ntmps85
            go_wp2_with fail
            refine wp_region_quiet_below (by kernel_rfl) (by kernel_rfl) ?_
            repeat (go_big_quiet_step (first | (go_at_call 90; first | (with_reducible exact Calls.regrown_of (r1.out _)) | (with_reducible exact Calls.regrown_of (r2.out _))) | (go_at_call 71; exact Calls.regrown_of (withBelow (q0.out _)))))
            refine wpQuiet_nil ?_
            intro w1 hw'
            obtain ⟨⟨d0, d1, d2, d3⟩, ⟨g0, g1, g2, g3⟩, hb1⟩ := box8 (regrown_below hw')
            clear kb0 kb1 kb2 kb3 kc0 kc1 kc2 kc3 hw'
            go_wp2_with fail
            refine (HQ.out _).mono ?_
            rintro e w' ⟨rfl, hb⟩
            go_wp2_with fail
            go_ret
            exact ⟨rfl, hb1.trans (hb.mono hb1.size)⟩
    · rw [lex_ne e0] at HR
      subst HR
      have e0' : (z0 != 0) = true := by simpa using e0
      clear hj hj' h0 h1 Q2 Q3
      obtain ⟨kb0, kb1, kb2, kb3, kc0, kc1, kc2, kc3⟩ := boxed8 w (.int .i64 k) (.int .i64 n) (.string s) (.slice A a.length c) (.int .i64 k') (.int .i64 n') (.string s') (.slice A' a'.length c') 25
      go_enter Try.func85, Try.ntmps85
      go_wp2_with fail
      refine wp_region_quiet_below (by kernel_rfl) (by kernel_rfl) ?_
      repeat (go_big_quiet_step (first | (go_at_call 90; first | (with_reducible exact Calls.regrown_of (r1.out _)) | (with_reducible exact Calls.regrown_of (r2.out _))) | (go_at_call 71; exact Calls.regrown_of (withBelow (q0.out _)))))
      refine wpQuiet_nil ?_
      intro w1 hw'
      obtain ⟨⟨d0, d1, d2, d3⟩, ⟨g0, g1, g2, g3⟩, hb1⟩ := box8 (regrown_below hw')
      clear kb0 kb1 kb2 kb3 kc0 kc1 kc2 kc3 hw'
      go_wp2_with fail
      go_ret
      exact ⟨rfl, hb1⟩

theorem same_at (t u : Tm) (w : World) (ht : t.At w) (hu : u.At w) {r : Bool} (hr : (cmpT t u == 0) = r) :
    Calls Try.prog 78 #[t.val, u.val] w fun e w' => e = .returned (.bool r) ∧ Below w.heap.size w w' := by
  have Q := Lib.hid (fun W (h : Below w.heap.size w W) => compare_at t u W (ht.below h) (hu.below h))
  generalize cmpT t u = z at *
  obtain ⟨k, n, s, A, c, a⟩ := t
  obtain ⟨k', n', s', A', c', a'⟩ := u
  show Calls Try.prog 78 #[.agg #[.int .i64 k, .int .i64 n, .string s, .slice A a.length c], .agg #[.int .i64 k', .int .i64 n', .string s', .slice A' a'.length c']] w _
  have HR := Lib.hid hr
  clear hr ht hu
  go_enter Try.func78, Try.ntmps78
  go_wp2_with fail
  refine (Q.out _ (below2 _ _ _)).mono ?_
  rintro e w' ⟨rfl, hb⟩
  go_wp2_with fail
  go_ret
  exact ⟨by rw [← HR.out]; rfl, (below2 _ _ _).trans (hb.mono (by simp; omega))⟩
end Go.Proofs.Ytceekaodhmncgaa
