/-
  SuPlain.
  SuDoing.
  SuMem.
  TmCmp.
  SuFind.
  TmWeigh.
  TmOrd.
  TmRefOrd.
  TmOpen.
  TmVarsP.
-/
import Derived.Test.YtnghanpmmbcbbaaGreatDoorMp2
import Derived.Test.YtnghanpmmbcbbaaGreatDoorMp5
import Derived.Test.YtnghanpmmbcbbaaGreatDoorProg
import Derived.Test.YtnghanpmmbcbbaaGreatDoorMp3
import Derived.Test.YtnghanpmmbcbbaaGreatDoorMp1
import Derived.BigQuiet
import Derived.Lib.QuietBelow
import Derived.Lib.Bytealg
import Derived.Outline
import Derived.WalkLawsBesides
import Derived.Deep.QuietTactic
import Derived.IntWalk
import Derived.Test.YtnghanpmmbcbbaaGreatDoorMp4
namespace Go.Proofs.YtnghanpmmbcbbaaGreatDoor
open Go
structure Bd where
  var : Int
  tm : Tm
instance : Inhabited Bd := ⟨⟨0, default⟩⟩
def Bd.strip (x : Bd) : Bd := ⟨x.var, x.tm.strip⟩
def stripB (b : List Bd) : List Bd := b.map Bd.strip
def look : List Bd → Int → Option Tm
  | [], _ => none
  | x :: r, v => if x.var = v then some x.tm else look r v
theorem look_some {b : List Bd} {v : Int} {t : Tm} (h : look b v = some t) : ∃ x ∈ b, x.var = v ∧ x.tm = t := by
  induction b with
  | nil => simp [look] at h
  | cons x r ih =>
    simp only [look] at h
    split at h
    · rename_i hv; injection h with h; exact ⟨x, by simp, hv, h⟩
    · obtain ⟨y, hy, h1, h2⟩ := ih h
      exact ⟨y, by simp [hy], h1, h2⟩
mutual
def Tm.app (b : List Bd) : Tm → Tm
  | .mk k n s A c a => if k = 1 then (look b n).getD (.mk k n s A c a) else if k = 2 then .mk k n s A c (appL b a) else .mk k n s A c a
def appL (b : List Bd) : List Tm → List Tm
  | [] => []
  | t :: r => t.app b :: appL b r
end
def okAt (b : List Bd) (i : Nat) : Bool := (decide (0 ≤ (b.getD i default).var) && decide ((b.getD i default).var ≤ 1048576)) && ((b.getD i default).tm.right && (decide (i = 0) || decide ((b.getD (i - 1) default).var < (b.getD i default).var)))
def okUp (b : List Bd) (j : Nat) : Bool := (List.range j).all (okAt b)
def apartB (b : List Bd) : Bool := b.all fun x => x.tm.occ.all fun v => (look b v).isNone
def rightS (b : List Bd) : Bool := okUp b b.length && apartB b
def Asc (b : List Bd) : Prop := b.Pairwise fun x y => x.var < y.var
def Dis (b : List Bd) : Prop := b.Pairwise fun x y => x.var ≠ y.var
def insB (x : Bd) : List Bd → List Bd
  | [] => [x]
  | y :: r => if y.var < x.var then y :: insB x r else x :: y :: r
def sortB (l : List Bd) : List Bd := l.foldl (fun acc x => insB x acc) []
def isV (t : Tm) (v : Int) : Bool := decide (t.kind = 1) && decide (t.num = v)
def keepA (c : List Bd) (x : Bd) : Option Bd := if isV (x.tm.app c) x.var then none else some ⟨x.var, x.tm.app c⟩
def compA (a c : List Bd) : List Bd := a.filterMap (keepA c)
def compC (a c : List Bd) : List Bd := c.filter fun x => (look a x.var).isNone
def compL (a c : List Bd) : List Bd := compA a c ++ compC a c
def allRight (b : List Bd) : Bool := b.all fun x => x.tm.right
def comp (a c : List Bd) : List Bd × Int :=
  if (rightS a && rightS c) = false then ([], 2)
  else if allRight (sortB (compL a c)) = false then ([], 6)
  else if rightS (sortB (compL a c)) = false then ([], 2)
  else (sortB (compL a c), 0)
end Go.Proofs.YtnghanpmmbcbbaaGreatDoor
namespace Go.Proofs.YtnghanpmmbcbbaaGreatDoor
open Go.RowKit
structure Held (B : Nat) (w : World) (v0 v1 v2 v3 : Value) : Prop where
  lt : B < w.heap.size
  c0 : w.cell? ⟨B, 0, none⟩ = some v0
  c1 : w.cell? ⟨B, 1, none⟩ = some v1
  c2 : w.cell? ⟨B, 2, none⟩ = some v2
  c3 : w.cell? ⟨B, 3, none⟩ = some v3
  free : ∀ j, w.frozen? ⟨B, j, none⟩ = false
section
variable {B : Nat} {w w' : World} {v0 v1 v2 v3 : Value}
theorem Held.below (h : Held B w v0 v1 v2 v3) (hb : Below w.heap.size w w') : Held B w' v0 v1 v2 v3 :=
  ⟨Nat.lt_of_lt_of_le h.lt hb.size, keepv hb h.c0, keepv hb h.c1, keepv hb h.c2, keepv hb h.c3, fun j => (hb.frozen (p := ⟨B, j, none⟩) h.lt).trans (h.free j)⟩
theorem Held.alloc (h : Held B w v0 v1 v2 v3) (o : Obj) : Held B (w.alloc o) v0 v1 v2 v3 := h.below ((Below.refl _ _).alloc (Nat.le_refl _) o)
theorem Held.other (h : Held B w v0 v1 v2 v3) {p : Addr} (hp : p.block ≠ B) (v : Value) : Held B (w.setCell p v) v0 v1 v2 v3 := by
  have ne : ∀ j, p ≠ ⟨B, j, none⟩ := fun j e => hp (by rw [e])
  refine ⟨by simpa [World.setCell] using h.lt, ?_, ?_, ?_, ?_, fun j => by rw [World.frozen?_setCell]; exact h.free j⟩
  · rw [World.cell?_setCell_other _ _ _ _ (ne _)]; exact h.c0
  · rw [World.cell?_setCell_other _ _ _ _ (ne _)]; exact h.c1
  · rw [World.cell?_setCell_other _ _ _ _ (ne _)]; exact h.c2
  · rw [World.cell?_setCell_other _ _ _ _ (ne _)]; exact h.c3
theorem held_new (w : World) (T : TypeId) : Held w.heap.size (w.alloc (.cells #[v0, v1, v2, v3] T)) v0 v1 v2 v3 := by
  have h : ∀ j, (w.alloc (.cells #[v0, v1, v2, v3] T)).cell? ⟨w.heap.size, j, none⟩ = (#[v0, v1, v2, v3] : Array Value)[j]? := fun j => World.cell?_alloc_at _ _ _ _ rfl
  exact ⟨by simp, h 0, h 1, h 2, h 3, fun j => World.frozen?_alloc_at _ _ _ _ rfl⟩
end
theorem heap_set4 (w : World) {g q0 q1 q2 q3 b : Nat} (hb : b ≠ g) (u0 u1 u2 u3 : Value) : ((((w.setCell ⟨g, q0, none⟩ u0).setCell ⟨g, q1, none⟩ u1).setCell ⟨g, q2, none⟩ u2).setCell ⟨g, q3, none⟩ u3).heap[b]? = w.heap[b]? := by
  rw [Below.heap_setCell _ _ _ _ hb, Below.heap_setCell _ _ _ _ hb, Below.heap_setCell _ _ _ _ hb, Below.heap_setCell _ _ _ _ hb]
theorem size_set4 (w : World) (g q0 q1 q2 q3 : Nat) (u0 u1 u2 u3 : Value) : ((((w.setCell ⟨g, q0, none⟩ u0).setCell ⟨g, q1, none⟩ u1).setCell ⟨g, q2, none⟩ u2).setCell ⟨g, q3, none⟩ u3).heap.size = w.heap.size := by simp [World.setCell]
def Putting (f : Tm → Tm) (l : List Tm) (g lo j : Nat) (wr : World) : Prop :=
  ∃ news : List Tm, news.length = j ∧ stripL news = stripL ((l.take j).map f) ∧ Row4 wr g (news ++ l.drop j) ∧ ∀ x ∈ news, Lie Any lo (Is g) wr x
section
variable {f : Tm → Tm} {l : List Tm} {g lo j : Nat} {wr : World}
theorem Putting.below {w' : World} (h : Putting f l g lo j wr) (hb : Below wr.heap.size wr w') : Putting f l g lo j w' := by
  obtain ⟨news, hn, hs, hr, hk⟩ := h
  exact ⟨news, hn, hs, hr.below hb, fun x hx => (hk x hx).below hb⟩
theorem Putting.cells (h : Putting f l g lo j wr) (hj : j < l.length) : ∀ i v, (l.getD j default).cells[i]? = some v → wr.cell? ⟨g, j * 4 + i, none⟩ = some v := by
  obtain ⟨news, hn, hs, hr, hk⟩ := h
  intro i v hv
  have hgx : (news ++ l.drop j).getD j default = l.getD j default := by
    simp [List.getD, List.getElem?_append_right (show news.length ≤ j by omega), hn]
  rw [Nat.mul_comm]
  exact hr.2.2 j i v (by simp; omega) (by rw [hgx]; exact hv)
theorem Putting.lt (h : Putting f l g lo j wr) : g < wr.heap.size := by
  obtain ⟨_, _, _, hr, _⟩ := h
  exact hr.1
theorem Putting.free (h : Putting f l g lo j wr) : ∀ i, wr.frozen? ⟨g, i, none⟩ = false := by
  obtain ⟨_, _, _, hr, _⟩ := h
  exact hr.2.1
theorem Putting.start (h : Row4 wr g l) : Putting f l g lo 0 wr := ⟨[], rfl, rfl, by simpa using h, fun x hx => by cases hx⟩
theorem Putting.other (h : Putting f l g lo j wr) {p : Addr} (h1 : p.block < lo) (h2 : p.block ≠ g) (v : Value) : Putting f l g lo j (wr.setCell p v) := by
  obtain ⟨news, hn, hs, hr, hk⟩ := h
  refine ⟨news, hn, hs, ⟨by simpa [World.setCell] using hr.1, fun j => by rw [World.frozen?_setCell]; exact hr.2.1 j, fun i q u hi hu => ?_⟩, fun x hx => (hk x hx).set (.inl h1) v⟩
  rw [World.cell?_setCell_other _ _ _ _ (fun e => h2 (by rw [e]))]
  exact hr.2.2 i q u hi hu
theorem Putting.done (h : Putting f l g lo l.length wr) {w' : World} (hlo : lo ≤ g) (hs : wr.heap.size ≤ w'.heap.size) (ha : ∀ b, lo ≤ b → b < wr.heap.size → w'.heap[b]? = wr.heap[b]?) (cap : Nat) (hc : l.length ≤ cap) (hcm : cap ≤ maxLen) :
    ∃ news : List Tm, news.length = l.length ∧ stripL news = stripL (l.map f) ∧ ∀ W, Agree lo No w' W → Lst W (some ⟨g, 0, none⟩) news cap := by
  obtain ⟨news, hn, hst, hr, hk⟩ := h
  rw [List.drop_length, List.append_nil] at hr
  rw [List.take_length] at hst
  refine ⟨news, hn, hst, fun W hW => ⟨by omega, hcm, fun _ => ⟨g, 0, rfl, ?_⟩⟩⟩
  have hag : ∀ b, lo ≤ b → b < wr.heap.size → W.heap[b]? = wr.heap[b]? := fun b h1 h2 => (hW b h1 (Nat.lt_of_lt_of_le h2 hs) (fun h => h)).trans (ha b h1 h2)
  refine hr.at W (fun q => ?_) fun x hx => hk x hx W trivial fun b h1 h2 _ => hag b h1 h2
  have := hag g hlo hr.1
  simp only [World.cell?, this]
end
end Go.Proofs.YtnghanpmmbcbbaaGreatDoor
namespace Go.Proofs.YtnghanpmmbcbbaaGreatDoor
open Go.ChangeShapes Go.WideShapes Go.ChangeAt Go.RowKit
abbrev Bd.val (x : Bd) : Value := .agg #[.int .i64 x.var, .int .i64 x.tm.kind, .int .i64 x.tm.num, .string x.tm.name, .slice x.tm.at_ x.tm.args.length x.tm.cap]
def Bd.cells (x : Bd) : List Value := [.int .i64 x.var, .int .i64 x.tm.kind, .int .i64 x.tm.num, .string x.tm.name, .slice x.tm.at_ x.tm.args.length x.tm.cap]
def BRow (w : World) (l : List Bd) (b o : Nat) : Prop := ∀ i, i < l.length → (∀ j u, (l.getD i default).cells[j]? = some u → w.cell? ⟨b, o + i * 5 + j, none⟩ = some u) ∧ Fits (l.getD i default).var ∧ (l.getD i default).tm.At w
def BLst (w : World) (A : Option Addr) (l : List Bd) (c : Nat) : Prop := l.length ≤ c ∧ c ≤ maxLen ∧ (0 < l.length → ∃ b o, A = some ⟨b, o, none⟩ ∧ BRow w l b o)
section
variable {w w' : World} {A : Option Addr} {l : List Bd} {c b o : Nat}
theorem BRow.below (h : BRow w l b o) (hb : Below w.heap.size w w') : BRow w' l b o := fun i hi => ⟨fun j u hu => keepv hb ((h i hi).1 j u hu), (h i hi).2.1, (h i hi).2.2.below hb⟩
theorem BLst.below (h : BLst w A l c) (hb : Below w.heap.size w w') : BLst w' A l c := ⟨h.1, h.2.1, fun hn => by
  obtain ⟨b, o, e, hr⟩ := h.2.2 hn
  exact ⟨b, o, e, hr.below hb⟩⟩
theorem BRow.get (h : BRow w l b o) {i : Nat} (hi : i < l.length) :
    (w.cell? ⟨b, o + i * 5, none⟩ = some (.int .i64 (l.getD i default).var) ∧ w.cell? ⟨b, o + i * 5 + 1, none⟩ = some (.int .i64 (l.getD i default).tm.kind) ∧ w.cell? ⟨b, o + i * 5 + 2, none⟩ = some (.int .i64 (l.getD i default).tm.num) ∧ w.cell? ⟨b, o + i * 5 + 3, none⟩ = some (.string (l.getD i default).tm.name) ∧
      w.cell? ⟨b, o + i * 5 + 4, none⟩ = some (.slice (l.getD i default).tm.at_ (l.getD i default).tm.args.length (l.getD i default).tm.cap)) ∧ Fits (l.getD i default).var ∧ (l.getD i default).tm.At w := by
  have h1 := h i hi
  exact ⟨⟨h1.1 0 _ rfl, h1.1 1 _ rfl, h1.1 2 _ rfl, h1.1 3 _ rfl, h1.1 4 _ rfl⟩, h1.2⟩
theorem BLst.get (h : BLst w A l c) {i : Nat} (hi : i < l.length) : ∃ b o, A = some ⟨b, o, none⟩ ∧
    (w.cell? ⟨b, o + i * 5, none⟩ = some (.int .i64 (l.getD i default).var) ∧ w.cell? ⟨b, o + i * 5 + 1, none⟩ = some (.int .i64 (l.getD i default).tm.kind) ∧ w.cell? ⟨b, o + i * 5 + 2, none⟩ = some (.int .i64 (l.getD i default).tm.num) ∧ w.cell? ⟨b, o + i * 5 + 3, none⟩ = some (.string (l.getD i default).tm.name) ∧
      w.cell? ⟨b, o + i * 5 + 4, none⟩ = some (.slice (l.getD i default).tm.at_ (l.getD i default).tm.args.length (l.getD i default).tm.cap)) ∧ Fits (l.getD i default).var ∧ (l.getD i default).tm.At w := by
  obtain ⟨b, o, e, hr⟩ := h.2.2 (by omega)
  exact ⟨b, o, e, hr.get hi⟩
theorem BLst.mem (h : BLst w A l c) {x : Bd} (hx : x ∈ l) : Fits x.var ∧ x.tm.At w := by
  obtain ⟨i, hi, e⟩ := List.mem_iff_getElem.1 hx
  obtain ⟨_, _, _, _, h2⟩ := h.get hi
  simpa [List.getD, List.getElem?_eq_getElem hi, e] using h2
theorem BLst.len (h : BLst w A l c) : l.length ≤ 9223372036854775807 := by have := h.1; have := h.2.1; unfold maxLen at *; omega
theorem BLst.nil (w : World) : BLst w none [] 0 := ⟨Nat.le_refl _, Nat.zero_le _, fun h => absurd h (by simp)⟩
theorem BLst.look (h : BLst w A l c) {v : Int} {t : Tm} (ht : look l v = some t) : t.At w := by
  obtain ⟨x, hx, _, rfl⟩ := look_some ht
  exact (h.mem hx).2
end
structure TypesB (P : Program) (I S L T B BL : TypeId) : Prop where
  tms : Types P I S L T
  lst : P.underlying BL = some (.slice B)
  bd : ∃ f0 f1 : Field, P.underlying B = some (.struct #[f0, f1]) ∧ (f0.type = I ∧ f0.offset = 0) ∧ (f1.type = T ∧ f1.offset = 1)
  cB : P.cellsOf B = 5
  cBL : P.cellsOf BL = 1
section
variable {H : Type} {enc : TypeId × Value → H} {P : Program} {W : World} {base : Nat} {spare : Nat → Bool} {held : Bool} {I S L T B BL : TypeId}
end
end Go.Proofs.YtnghanpmmbcbbaaGreatDoor
namespace Go.Proofs.YtnghanpmmbcbbaaGreatDoor
open Go.RowKit Go.Sort
theorem less_eq {a b : List UInt8} (h1 : Op.bytesLess a b = false) (h2 : Op.bytesLess b a = false) : a = b := by
  induction a generalizing b with
  | nil => cases b <;> simp [Op.bytesLess] at *
  | cons x r ih =>
    cases b with
    | nil => simp [Op.bytesLess] at h2
    | cons y q =>
      simp only [Op.bytesLess, Bool.or_eq_false_iff, Bool.and_eq_false_iff, decide_eq_false_iff_not, beq_eq_false_iff_ne, UInt8.lt_iff_toNat_lt] at h1 h2
      have e : x = y := UInt8.toNat_inj.1 (by omega)
      subst e
      rw [ih (h1.2.resolve_left (fun h => h rfl)) (h2.2.resolve_left (fun h => h rfl))]
theorem ref_ints_at (x y : Int) (w : World) {r : Int} (hr : ints x y = r) : Calls Tryz.prog 160 #[.int .i64 x, .int .i64 y] w fun e w' => e = .returned (.int .i64 r) ∧ w = w' := by
  have HV := Lib.hid hr
  clear hr
  by_cases h1 : x < y
  · have HE := Lib.hid (ints_lt h1)
    go_enter Tryz.func160, Tryz.ntmps160
    go_wp2_with fail
    go_ret
    exact ⟨by rw [← HV.out, HE.out]; rfl, rfl⟩
  · have h1' : decide (x < y) = false := by simpa using h1
    by_cases h2 : y < x
    · have HE := Lib.hid (ints_gt h2)
      clear h1
      go_enter Tryz.func160, Tryz.ntmps160
      go_wp2_with fail
      go_ret
      exact ⟨by rw [← HV.out, HE.out]; rfl, rfl⟩
    · have h2' : decide (y < x) = false := by simpa using h2
      have HE := Lib.hid (show ints x y = 0 by have e : x = y := by omega
                                               rw [e, ints_self])
      clear h1 h2
      go_enter Tryz.func160, Tryz.ntmps160
      go_wp2_with fail
      go_ret
      exact ⟨by rw [← HV.out, HE.out]; rfl, rfl⟩
theorem ref_texts_at (a b : ByteArray) (w : World) {r : Int} (hr : texts a.data.toList b.data.toList = r) : Calls Tryz.prog 159 #[.string a, .string b] w fun e w' => e = .returned (.int .i64 r) ∧ w = w' := by
  have HV := Lib.hid hr
  clear hr
  have z := texts_tri a.data.toList b.data.toList a.data.toList
  rw [texts_self] at z
  obtain ⟨b1, h1⟩ : ∃ c, Op.bytesLess a.data.toList b.data.toList = c := ⟨_, rfl⟩
  obtain ⟨b2, h2⟩ : ∃ c, Op.bytesLess b.data.toList a.data.toList = c := ⟨_, rfl⟩
  have e1 : Op.bytesLess a.toList b.toList = b1 := by rw [raw_list, raw_list, h1]
  have e2 : Op.bytesLess b.toList a.toList = b2 := by rw [raw_list, raw_list, h2]
  obtain ⟨b3, e3⟩ : ∃ c, (a.toList == b.toList) = c := ⟨_, rfl⟩
  have HT := Lib.hid (show (!b1 && !b3) = (!b1 && b2) by
    cases b1
    · simp only [texts, h1, h2] at z
      cases b3
      · cases b2
        · exfalso
          have hne : a.data.toList ≠ b.data.toList := by
            intro e
            rw [raw_list, raw_list, e] at e3
            simp at e3
          exact hne (less_eq h1 h2)
        · rfl
      · have e : a.data.toList = b.data.toList := by rw [raw_list, raw_list] at e3; simpa using e3
        rw [e, bytesLess_self] at h2
        rw [← h2]; rfl
    · rfl)
  have HE := Lib.hid (show texts a.data.toList b.data.toList = if b1 then -1 else if b2 then 1 else 0 by unfold texts; rw [h1, h2])
  clear h1 h2 z
  cases b1
  · cases b3
    · obtain rfl : b2 = true := by simpa using HT.out
      clear e2
      go_enter Tryz.func159, Tryz.ntmps159
      go_wp2_with fail
      go_ret
      exact ⟨by rw [← HV.out, HE.out]; rfl, rfl⟩
    · obtain rfl : b2 = false := by simpa using HT.out
      clear e2
      go_enter Tryz.func159, Tryz.ntmps159
      go_wp2_with fail
      go_ret
      exact ⟨by rw [← HV.out, HE.out]; rfl, rfl⟩
  · clear e2 e3
    go_enter Tryz.func159, Tryz.ntmps159
    go_wp2_with fail
    go_ret
    exact ⟨by rw [← HV.out, HE.out]; rfl, rfl⟩
theorem class_at (t : Tm) (w : World) {r : Int} (hr : cls t.kind = r) : Calls Tryz.prog 208 #[t.val] w fun e w' => e = .returned (.int .i64 r) ∧ Below w.heap.size w w' := by
  obtain ⟨k, n, s, A, c, a⟩ := t
  show Calls Tryz.prog 208 #[.agg #[.int .i64 k, .int .i64 n, .string s, .slice A a.length c]] w _
  have HV := Lib.hid (show cls k = r from hr)
  clear hr
  by_cases h1 : k = 1
  · subst h1
    have HE := Lib.hid (show cls 1 = 0 by simp [cls])
    go_enter Tryz.func208, Tryz.ntmps208
    go_wp2_with fail
    go_ret
    exact ⟨by rw [← HV.out, HE.out]; rfl, (Below.refl _ _).alloc (Nat.le_refl _) _⟩
  have e1 : (k == 1) = false := by simp [h1]
  by_cases h0 : k = 0
  · subst h0
    have HE := Lib.hid (show cls 0 = 1 by simp [cls])
    go_enter Tryz.func208, Tryz.ntmps208
    go_wp2_with fail
    go_ret
    exact ⟨by rw [← HV.out, HE.out]; rfl, (Below.refl _ _).alloc (Nat.le_refl _) _⟩
  have e0 : (k == 0) = false := by simp [h0]
  by_cases h2 : k = 2
  · subst h2
    have HE := Lib.hid (show cls 2 = 2 by simp [cls])
    go_enter Tryz.func208, Tryz.ntmps208
    go_wp2_with fail
    go_ret
    exact ⟨by rw [← HV.out, HE.out]; rfl, (Below.refl _ _).alloc (Nat.le_refl _) _⟩
  have e2 : (k == 2) = false := by simp [h2]
  have HE := Lib.hid (show cls k = 3 by simp [cls, h1, h0, h2])
  clear h0 h1 h2
  go_enter Tryz.func208, Tryz.ntmps208
  go_wp2_with fail
  go_ret
  exact ⟨by rw [← HV.out, HE.out]; rfl, (Below.refl _ _).alloc (Nat.le_refl _) _⟩
end Go.Proofs.YtnghanpmmbcbbaaGreatDoor
namespace Go.Proofs.YtnghanpmmbcbbaaGreatDoor
open Go.RowKit
def Srt (l : List Bd) : Prop := ∀ i j, i ≤ j → j < l.length → (l.getD i default).var ≤ (l.getD j default).var
def SBound (l : List Bd) (v : Int) (i : Nat) : Prop := (∀ k, k < i → (l.getD k default).var < v) ∧ (∀ k, i ≤ k → k < l.length → v ≤ (l.getD k default).var)
theorem Asc.srt {l : List Bd} (h : Asc l) : Srt l := fun i j hij hj => by
  rcases Nat.lt_or_ge i j with h1 | h1
  · have := List.pairwise_iff_getElem.1 h i j (by omega) hj h1
    simp only [List.getD, List.getElem?_eq_getElem hj, List.getElem?_eq_getElem (show i < l.length by omega), Option.getD_some]
    omega
  · obtain rfl : i = j := by omega
    exact Int.le_refl _
def SEnded (l : List Bd) (v : Int) (w : World) (e : Ending) (w' : World) : Prop :=
  ∃ i : Nat, i ≤ l.length ∧ SBound l v i ∧ (∃ r : Bool, (r = true ↔ i < l.length ∧ (l.getD i default).var = v) ∧ e = .returned (.tuple #[.int .i64 i, .bool r])) ∧ Below w.heap.size w w'
end Go.Proofs.YtnghanpmmbcbbaaGreatDoor
namespace Go.Proofs.YtnghanpmmbcbbaaGreatDoor
open Go.RowKit
theorem Lst.drewN {w : World} {A : Option Addr} {l : List Tm} {c : Nat} (h : Lst w A l c) (n : Nat) : Lst (w.drewN n) A l c := h.below (below_drewN (Below.refl _ _) n)
set_option maxHeartbeats 1000000 in
theorem weigh_at (deep : Nat) : ∀ (l : List Tm) (A : Option Addr) (c : Nat) (left : Int) (w : World), Lst w A l c → deep ≤ 64 → -4611686018427387904 ≤ left → left ≤ 1000000 →
    Calls Tryz.prog 47 #[.slice A l.length c, .int .i64 left, .int .i64 (deep : Int)] w fun e w' => e = .returned (.int .i64 (weigh l left deep)) ∧ ∃ n, w' = w.drewN n := by
  induction deep with
  | zero =>
    intro l A c left w hl _ hlo hhi
    have HV := Lib.hid (show weigh l left ((0 : Nat) : Int) = -1 by simp [weigh])
    go_enter Tryz.func47, Tryz.ntmps47
    go_wp2_with fail
    go_ret
    exact ⟨by rw [HV.out]; rfl, 0, rfl⟩
  | succ deep ih =>
    intro l A c left w hl hd hlo hhi
    rw [show ((deep + 1 : Nat) : Int) = (deep : Int) + 1 by omega]
    have hlen : l.length ≤ 9223372036854775807 := by have := hl.1; have := hl.2.1; unfold maxLen at *; omega
    have hd0 : (((deep : Int) + 1) == 0) = false := by simp; omega
    by_cases hgt : left < (l.length : Int)
    · have HV := Lib.hid (show weigh l left ((deep : Int) + 1) = -1 by simp [weigh, hgt])
      go_enter Tryz.func47, Tryz.ntmps47
      go_wp2_with fail
      go_ret
      exact ⟨by rw [HV.out]; rfl, 0, rfl⟩
    · have HV := Lib.hid (show weigh l left ((deep : Int) + 1) = weighL l left ((deep : Int) + 1) by unfold weigh; rw [if_neg (by omega)])
      have hgt' : decide (left < (l.length : Int)) = false := by simpa using hgt
      have h0 : 0 ≤ left := by omega
      clear hgt
      have QI := Lib.hid ih
      clear ih
      go_enter Tryz.func47, Tryz.ntmps47
      go_wp2_with fail
      go_loopw [1, 7] (fun z i wr => ∃ j : Nat, j ≤ l.length ∧ i = .int .i64 j ∧ z = .int .i64 (weighL (l.take j) left ((deep : Int) + 1)) ∧ Hid (∃ n, wr = w.drewN n)) (fun _ i _ => l.length - (intOf i).toNat)
      case atStart => exact ⟨0, Nat.zero_le _, rfl, rfl, Lib.hid ⟨0, rfl⟩⟩
      case round =>
        obtain ⟨j, hj, rfl, rfl, hb⟩ := hrel
        have z1 := weigh_lo.2 (l.take j) left ((deep : Int) + 1) (by omega)
        have z2 := weighL_hi (l.take j) left ((deep : Int) + 1) (by omega)
        have HS := Lib.hid (fun h => weighL_stop (l := l) (k := j) left ((deep : Int) + 1) h)
        have HN := Lib.hid (fun h => weighL_next (l := l) (k := j) h left ((deep : Int) + 1))
        obtain ⟨z, hz⟩ : ∃ z, weighL (l.take j) left ((deep : Int) + 1) = z := ⟨_, rfl⟩
        rw [hz] at z1 z2 HS HN ⊢
        have HZ := Lib.hid hz
        clear hz
        by_cases hlt : j < l.length
        · by_cases hz0 : 0 ≤ z
          · have hlr : Lst wr A l c := by obtain ⟨n, rfl⟩ := hb.out; exact hl.drewN n
            obtain ⟨b, o, rfl, ⟨c0, c1, c2, c3⟩, hx⟩ := hlr.get hlt
            have HN' := Lib.hid (HN.out hlt hz0)
            clear HN HS
            generalize l.getD j default = x at *
            obtain ⟨k', n', s', A', c', a'⟩ := x
            simp only [Tm.kind, Tm.num, Tm.name, Tm.at_, Tm.args, Tm.cap] at c0 c1 c2 c3
            have hs' : s'.size ≤ 9223372036854775807 := by have := ((At_iff _ _).1 hx).1.2.2; unfold maxLen at this; exact this
            have Q1 := Lib.hid (QI.out a' A' c' (z - 1 - (s'.size : Int) / 8))
            have HX := Lib.hid (show Lst wr A' a' c' from hx.lst)
            clear hx QI
            go_wp2_with fail
            go_quiet ((go_at_call 47; exact Calls.quiet_of (Q1.out _ (HX.out.drewN _) (by omega) (by omega) (by omega))))
            go_wp2_with fail
            go_roundw
            case rel =>
              refine ⟨j + 1, by omega, by go_num, ?_, ?_⟩
              · rw [HN'.out]
                have e : ((deep : Int) + 1) - 1 = (deep : Int) := by omega
                simp only [Tm.args, Tm.name, e]
              · obtain ⟨n, hn⟩ := hb.out
                exact Lib.hid ⟨n + nq, by rw [hn, World.drewN_drewN]⟩
            case measure => simp [intOf]; omega
          · have hz0' : z < 0 := by omega
            have HE := Lib.hid (HS.out hz0')
            clear HN HS
            go_wp2_with fail
            go_ret
            exact ⟨by rw [HV.out, HE.out]; rfl, hb.out⟩
        · obtain rfl : j = l.length := by omega
          have HE := Lib.hid (show weighL l left ((deep : Int) + 1) = z by rw [← HZ.out, List.take_length])
          clear HN HS
          go_wp2_with fail
          go_ret
          exact ⟨by rw [HV.out, HE.out]; rfl, hb.out⟩
end Go.Proofs.YtnghanpmmbcbbaaGreatDoor
namespace Go.Proofs.YtnghanpmmbcbbaaGreatDoor
open Go.RowKit Go.Sort
theorem box8 {w w' : World} {v0 v1 v2 v3 u0 u1 u2 u3 : Value} {T : TypeId}
    (hb : Below ((w.alloc (.cells #[v0, v1, v2, v3] T)).alloc (.cells #[u0, u1, u2, u3] T)).heap.size ((w.alloc (.cells #[v0, v1, v2, v3] T)).alloc (.cells #[u0, u1, u2, u3] T)) w') :
    (w'.cell? ⟨w.heap.size, 0, none⟩ = some v0 ∧ w'.cell? ⟨w.heap.size, 1, none⟩ = some v1 ∧ w'.cell? ⟨w.heap.size, 2, none⟩ = some v2 ∧ w'.cell? ⟨w.heap.size, 3, none⟩ = some v3) ∧
    (w'.cell? ⟨w.heap.size + 1, 0, none⟩ = some u0 ∧ w'.cell? ⟨w.heap.size + 1, 1, none⟩ = some u1 ∧ w'.cell? ⟨w.heap.size + 1, 2, none⟩ = some u2 ∧ w'.cell? ⟨w.heap.size + 1, 3, none⟩ = some u3) ∧ Below w.heap.size w w' := by
  have hz : (w.alloc (.cells #[v0, v1, v2, v3] T)).heap.size = w.heap.size + 1 := by simp
  have h : ∀ j, w'.cell? ⟨w.heap.size, j, none⟩ = (#[v0, v1, v2, v3] : Array Value)[j]? := fun j => by
    rw [hb.cell (p := ⟨w.heap.size, j, none⟩) (by simp; omega), World.cell?_alloc_lt _ _ _ (by simp), World.cell?_alloc_at _ _ _ _ rfl]
  have g : ∀ j, w'.cell? ⟨w.heap.size + 1, j, none⟩ = (#[u0, u1, u2, u3] : Array Value)[j]? := fun j => by
    rw [hb.cell (p := ⟨w.heap.size + 1, j, none⟩) (by simp), World.cell?_alloc_at _ _ _ _ hz.symm]
  exact ⟨⟨h 0, h 1, h 2, h 3⟩, ⟨g 0, g 1, g 2, g 3⟩, (((Below.refl _ _).alloc (Nat.le_refl _) _).alloc (by simp) _).trans (hb.mono (by simp; omega))⟩
theorem below2 (w : World) (o p : Obj) : Below w.heap.size w ((w.alloc o).alloc p) := ((Below.refl _ _).alloc (Nat.le_refl _) _).alloc (by simp) _
theorem lex_zero (y : Int) : lex 0 y = y := by simp [lex]
theorem lex_ne {x : Int} (h : x ≠ 0) (y : Int) : lex x y = x := by simp [lex, h]
theorem cmpL_next {l m : List Tm} {j : Nat} (hl : j < l.length) (hm : j < m.length) (h : cmpL (l.take j) (m.take j) = 0) : cmpL (l.take (j + 1)) (m.take (j + 1)) = cmpT (l.getD j default) (m.getD j default) := by
  induction j generalizing l m with
  | zero =>
    cases l with
    | nil => simp at hl
    | cons x r => cases m with
      | nil => simp at hm
      | cons y q => simp [cmpL, lex]; omega
  | succ j ih =>
    cases l with
    | nil => simp at hl
    | cons x r => cases m with
      | nil => simp at hm
      | cons y q =>
        simp only [List.take_succ_cons, cmpL] at h ⊢
        have hx : cmpT x y = 0 := by unfold lex at h; split at h <;> assumption
        rw [hx, lex_zero] at h ⊢
        simpa using ih (by simpa using hl) (by simpa using hm) h
theorem cmpL_stop {l m : List Tm} {j : Nat} (hl : j < l.length) (hm : j < m.length) (h : cmpL (l.take j) (m.take j) = 0) (hx : cmpT (l.getD j default) (m.getD j default) ≠ 0) : cmpL l m = cmpT (l.getD j default) (m.getD j default) := by
  induction j generalizing l m with
  | zero =>
    cases l with
    | nil => simp at hl
    | cons x r => cases m with
      | nil => simp at hm
      | cons y q =>
        simp only [List.getD_cons_zero] at hx ⊢
        simp only [cmpL]
        exact lex_ne hx _
  | succ j ih =>
    cases l with
    | nil => simp at hl
    | cons x r => cases m with
      | nil => simp at hm
      | cons y q =>
        simp only [List.take_succ_cons, cmpL] at h
        have hz : cmpT x y = 0 := by unfold lex at h; split at h <;> assumption
        rw [hz, lex_zero] at h
        simp only [List.getD_cons_succ] at hx ⊢
        simp only [cmpL]
        rw [hz, lex_zero]
        exact ih (by simpa using hl) (by simpa using hm) h hx
theorem cmpL_end {l m : List Tm} {j : Nat} (hj : j = l.length ∨ j = m.length) (hl : j ≤ l.length) (hm : j ≤ m.length) (h : cmpL (l.take j) (m.take j) = 0) : cmpL l m = ints l.length m.length := by
  induction j generalizing l m with
  | zero =>
    cases l with
    | nil => cases m with
      | nil => simp [cmpL, ints]
      | cons y q => rw [ints_lt (by simp)]; rfl
    | cons x r => cases m with
      | nil => rw [ints_gt (by simp)]; rfl
      | cons y q => simp at hj
  | succ j ih =>
    cases l with
    | nil => simp at hl
    | cons x r => cases m with
      | nil => simp at hm
      | cons y q =>
        simp only [List.take_succ_cons, cmpL] at h ⊢
        have hz : cmpT x y = 0 := by unfold lex at h; split at h <;> assumption
        rw [hz, lex_zero] at h ⊢
        rw [ih (by simpa using hj) (by simpa using hl) (by simpa using hm) h]
        unfold ints
        simp
theorem boxed8 (w : World) (v0 v1 v2 v3 u0 u1 u2 u3 : Value) (T : TypeId) :
    (∀ d os, (grow (redrawn ((w.alloc (.cells #[v0, v1, v2, v3] T)).alloc (.cells #[u0, u1, u2, u3] T)) d) os).cell? ⟨w.heap.size, 0, none⟩ = some v0) ∧ (∀ d os, (grow (redrawn ((w.alloc (.cells #[v0, v1, v2, v3] T)).alloc (.cells #[u0, u1, u2, u3] T)) d) os).cell? ⟨w.heap.size, 1, none⟩ = some v1) ∧
    (∀ d os, (grow (redrawn ((w.alloc (.cells #[v0, v1, v2, v3] T)).alloc (.cells #[u0, u1, u2, u3] T)) d) os).cell? ⟨w.heap.size, 2, none⟩ = some v2) ∧ (∀ d os, (grow (redrawn ((w.alloc (.cells #[v0, v1, v2, v3] T)).alloc (.cells #[u0, u1, u2, u3] T)) d) os).cell? ⟨w.heap.size, 3, none⟩ = some v3) ∧
    (∀ d os, (grow (redrawn ((w.alloc (.cells #[v0, v1, v2, v3] T)).alloc (.cells #[u0, u1, u2, u3] T)) d) os).cell? ⟨w.heap.size + 1, 0, none⟩ = some u0) ∧ (∀ d os, (grow (redrawn ((w.alloc (.cells #[v0, v1, v2, v3] T)).alloc (.cells #[u0, u1, u2, u3] T)) d) os).cell? ⟨w.heap.size + 1, 1, none⟩ = some u1) ∧
    (∀ d os, (grow (redrawn ((w.alloc (.cells #[v0, v1, v2, v3] T)).alloc (.cells #[u0, u1, u2, u3] T)) d) os).cell? ⟨w.heap.size + 1, 2, none⟩ = some u2) ∧ (∀ d os, (grow (redrawn ((w.alloc (.cells #[v0, v1, v2, v3] T)).alloc (.cells #[u0, u1, u2, u3] T)) d) os).cell? ⟨w.heap.size + 1, 3, none⟩ = some u3) :=
  ⟨fun d os => (box8 (below_regrown _ d os)).1.1, fun d os => (box8 (below_regrown _ d os)).1.2.1, fun d os => (box8 (below_regrown _ d os)).1.2.2.1, fun d os => (box8 (below_regrown _ d os)).1.2.2.2,
   fun d os => (box8 (below_regrown _ d os)).2.1.1, fun d os => (box8 (below_regrown _ d os)).2.1.2.1, fun d os => (box8 (below_regrown _ d os)).2.1.2.2.1, fun d os => (box8 (below_regrown _ d os)).2.1.2.2.2⟩
end Go.Proofs.YtnghanpmmbcbbaaGreatDoor
namespace Go.Proofs.YtnghanpmmbcbbaaGreatDoor
open Go.RowKit Go.Sort
def RefCmpAt (x : Tm) : Prop := ∀ (u : Tm) (w : World), x.At w → u.At w → Calls Tryz.prog 181 #[x.val, u.val] w fun e w' => e = .returned (.int .i64 (cmpT x u)) ∧ Below w.heap.size w w'
set_option maxHeartbeats 1000000 in
theorem ref_lists_at (l m : List Tm) (ih : ∀ x ∈ l, RefCmpAt x) (A B : Option Addr) (c d : Nat) (w : World) (hl : Lst w A l c) (hm : Lst w B m d) :
    Calls Tryz.prog 148 #[.slice A l.length c, .slice B m.length d] w fun e w' => e = .returned (.int .i64 (cmpL l m)) ∧ Below w.heap.size w w' := by
  have hlen : l.length ≤ 9223372036854775807 := by have := hl.1; have := hl.2.1; unfold maxLen at *; omega
  have hlen' : m.length ≤ 9223372036854775807 := by have := hm.1; have := hm.2.1; unfold maxLen at *; omega
  have QI := Lib.hid ih
  obtain ⟨zl, hzl⟩ : ∃ z, ints l.length m.length = z := ⟨_, rfl⟩
  have ql := Lib.hid (fun W => ref_ints_at (l.length : Int) (m.length : Int) W hzl)
  have HZL := Lib.hid hzl
  clear ih hzl
  go_enter Tryz.func148, Tryz.ntmps148
  go_wp2_with fail
  go_loopw [5] (fun i wr => ∃ j : Nat, j ≤ l.length ∧ j ≤ m.length ∧ i = .int .i64 j ∧ Hid (cmpL (l.take j) (m.take j) = 0) ∧ Below w.heap.size w wr) (fun i _ => l.length - (intOf i).toNat)
  case atStart => exact ⟨0, Nat.zero_le _, Nat.zero_le _, rfl, Lib.hid rfl, Below.refl _ _⟩
  case round =>
    obtain ⟨j, hj, hjm, rfl, HF, hb⟩ := hrel
    by_cases hlt : j < l.length
    · by_cases hlt' : j < m.length
      · obtain ⟨b, o, rfl, ⟨c0, c1, c2, c3⟩, hx⟩ := (hl.below hb).get hlt
        obtain ⟨b', o', rfl, ⟨g0, g1, g2, g3⟩, hy⟩ := (hm.below hb).get hlt'
        have hmem := getD_mem hlt
        have HN := Lib.hid (cmpL_next hlt hlt' HF.out)
        have HS := Lib.hid (fun h => cmpL_stop hlt hlt' HF.out h)
        generalize l.getD j default = x at *
        generalize m.getD j default = y at *
        have Q1 := Lib.hid (fun W (h : Below wr.heap.size wr W) => QI.out x hmem y W (hx.below h) (hy.below h))
        clear hx hy QI hmem
        obtain ⟨z, hz⟩ : ∃ z, cmpT x y = z := ⟨_, rfl⟩
        rw [hz] at HN HS Q1
        clear hz
        obtain ⟨k1, n1, s1, A1, p1, a1⟩ := x
        obtain ⟨k2, n2, s2, A2, p2, a2⟩ := y
        simp only [Tm.kind, Tm.num, Tm.name, Tm.at_, Tm.args, Tm.cap] at c0 c1 c2 c3 g0 g1 g2 g3
        have kc0 := cell_regrown c0
        have kc1 := cell_regrown c1
        have kc2 := cell_regrown c2
        have kc3 := cell_regrown c3
        have kg0 := cell_regrown g0
        have kg1 := cell_regrown g1
        have kg2 := cell_regrown g2
        have kg3 := cell_regrown g3
        go_wp2_with fail
        refine wp_region_quiet_below (by kernel_rfl) (by kernel_rfl) ?_
        repeat (go_big_quiet_step ((go_at_call 181; exact Calls.regrown_of (Q1.out _ (below_regrown _ _ _)))))
        refine wpQuiet_nil ?_
        intro w1 hw'
        have hb4 := hb.trans ((regrown_below hw').mono hb.size)
        clear kc0 kc1 kc2 kc3 kg0 kg1 kg2 kg3 hw'
        by_cases hz : z = 0
        · subst hz
          go_wp2_with fail
          go_roundw
          case rel => exact ⟨j + 1, by omega, by omega, by go_num, HN, hb4⟩
          case measure => simp [intOf]; omega
        · have hz' : (z != 0) = true := by simpa using hz
          have HE := Lib.hid (HS.out hz)
          clear HS HN
          go_wp2_with fail
          go_ret
          exact ⟨by rw [HE.out]; rfl, hb4⟩
      · have HE := Lib.hid (show cmpL l m = zl by rw [cmpL_end (.inr (by omega)) hj hjm HF.out, HZL.out])
        go_wp2_with fail
        refine (ql.out _).mono ?_
        rintro e w' ⟨rfl, rfl⟩
        go_wp2_with fail
        go_ret
        exact ⟨by rw [HE.out]; rfl, hb⟩
    · have HE := Lib.hid (show cmpL l m = zl by rw [cmpL_end (.inl (by omega)) hj hjm HF.out, HZL.out])
      go_wp2_with fail
      refine (ql.out _).mono ?_
      rintro e w' ⟨rfl, rfl⟩
      go_wp2_with fail
      go_ret
      exact ⟨by rw [HE.out]; rfl, hb⟩
set_option maxHeartbeats 2000000 in
theorem ref_compare_at (t : Tm) : RefCmpAt t := by
  induction t using Tm.induct with
  | h k n s A c a ih =>
    intro u w ht hu
    have hl : Lst w A a c := ht.lst
    have hm := hu.lst
    obtain ⟨k', n', s', A', c', a'⟩ := u
    simp only [Tm.args, Tm.at_, Tm.cap] at hm
    have hlen : a.length ≤ 9223372036854775807 := by have := hl.1; have := hl.2.1; unfold maxLen at *; omega
    have hlen' : a'.length ≤ 9223372036854775807 := by have := hm.1; have := hm.2.1; unfold maxLen at *; omega
    have q5 := Lib.hid (fun W (h : Below w.heap.size w W) => ref_lists_at a a' ih A A' c c' W (hl.below h) (hm.below h))
    clear ih ht hu hl hm
    show Calls Tryz.prog 181 #[.agg #[.int .i64 k, .int .i64 n, .string s, .slice A a.length c], .agg #[.int .i64 k', .int .i64 n', .string s', .slice A' a'.length c']] w _
    obtain ⟨j, hj⟩ : ∃ z, cls k = z := ⟨_, rfl⟩
    obtain ⟨j', hj'⟩ : ∃ z, cls k' = z := ⟨_, rfl⟩
    obtain ⟨z0, h0⟩ : ∃ z, ints j j' = z := ⟨_, rfl⟩
    obtain ⟨z1, h1⟩ : ∃ z, ints n n' = z := ⟨_, rfl⟩
    obtain ⟨z2, h2⟩ : ∃ z, ints k k' = z := ⟨_, rfl⟩
    obtain ⟨z3, h3⟩ : ∃ z, texts s.data.toList s'.data.toList = z := ⟨_, rfl⟩
    obtain ⟨z4, h4⟩ : ∃ z, ints a.length a'.length = z := ⟨_, rfl⟩
    obtain ⟨z5, h5⟩ : ∃ z, cmpL a a' = z := ⟨_, rfl⟩
    have r1 := Lib.hid (show ∀ W, Calls Tryz.prog 208 #[.agg #[.int .i64 k, .int .i64 n, .string s, .slice A a.length c]] W fun e w' => e = .returned (.int .i64 j) ∧ Below W.heap.size W w' from fun W => class_at (.mk k n s A c a) W hj)
    have r2 := Lib.hid (show ∀ W, Calls Tryz.prog 208 #[.agg #[.int .i64 k', .int .i64 n', .string s', .slice A' a'.length c']] W fun e w' => e = .returned (.int .i64 j') ∧ Below W.heap.size W w' from fun W => class_at (.mk k' n' s' A' c' a') W hj')
    have q0 := Lib.hid (fun W => ref_ints_at j j' W h0)
    have q1 := Lib.hid (fun W => ref_ints_at n n' W h1)
    have q2 := Lib.hid (fun W => ref_ints_at k k' W h2)
    have q3 := Lib.hid (fun W => ref_texts_at s s' W h3)
    have q4 := Lib.hid (fun W => ref_ints_at (a.length : Int) (a'.length : Int) W h4)
    rw [h5] at q5
    obtain ⟨R, hR⟩ : ∃ z, cmpT (.mk k n s A c a) (.mk k' n' s' A' c' a') = z := ⟨_, rfl⟩
    have HR := hR
    simp only [cmpT, Tm.kind, Tm.num, Tm.name, Tm.args] at HR
    rw [hj, hj', h0, h1, h2, h3, h4, h5] at HR
    rw [hR]
    clear hR h0 h1 h2 h3 h4 h5 hj'
    by_cases e0 : z0 = 0
    · subst e0
      rw [lex_zero] at HR
      by_cases k1 : k = 1
      · subst k1
        obtain rfl : j = 0 := by rw [← hj]; simp [cls]
        rw [if_pos (.inl rfl)] at HR
        subst HR
        clear hj q2 q3 q4 q5
        obtain ⟨kb0, kb1, kb2, kb3, kc0, kc1, kc2, kc3⟩ := boxed8 w (.int .i64 1) (.int .i64 n) (.string s) (.slice A a.length c) (.int .i64 k') (.int .i64 n') (.string s') (.slice A' a'.length c') 69
        go_enter Tryz.func181, Tryz.ntmps181
        go_wp2_with fail
        refine wp_region_quiet_below (by kernel_rfl) (by kernel_rfl) ?_
        repeat (go_big_quiet_step (first | (go_at_call 208; first | (with_reducible exact Calls.regrown_of (r1.out _)) | (with_reducible exact Calls.regrown_of (r2.out _))) | (go_at_call 160; exact Calls.regrown_of (withBelow (q0.out _)))))
        refine wpQuiet_nil ?_
        intro w1 hw'
        obtain ⟨⟨d0, d1, d2, d3⟩, ⟨g0, g1, g2, g3⟩, hb1⟩ := box8 (regrown_below hw')
        clear kb0 kb1 kb2 kb3 kc0 kc1 kc2 kc3 hw'
        go_wp2_with fail
        refine (r1.out _).mono ?_
        rintro e w2 ⟨rfl, hb2⟩
        have d0' := (hb2.cell (World.block_lt_of_cell? _ _ d0)).trans d0
        have d1' := (hb2.cell (World.block_lt_of_cell? _ _ d1)).trans d1
        have d2' := (hb2.cell (World.block_lt_of_cell? _ _ d2)).trans d2
        have d3' := (hb2.cell (World.block_lt_of_cell? _ _ d3)).trans d3
        have g0' := (hb2.cell (World.block_lt_of_cell? _ _ g0)).trans g0
        have g1' := (hb2.cell (World.block_lt_of_cell? _ _ g1)).trans g1
        have g2' := (hb2.cell (World.block_lt_of_cell? _ _ g2)).trans g2
        have g3' := (hb2.cell (World.block_lt_of_cell? _ _ g3)).trans g3
        have hb3 := hb1.trans (hb2.mono hb1.size)
        clear d0 d1 d2 d3 g0 g1 g2 g3
        go_wp2_with fail
        refine (q1.out _).mono ?_
        rintro e w' ⟨rfl, rfl⟩
        go_wp2_with fail
        go_ret
        exact ⟨rfl, hb3⟩
      · by_cases k0 : k = 0
        · subst k0
          obtain rfl : j = 1 := by rw [← hj]; simp [cls]
          rw [if_pos (.inr rfl)] at HR
          subst HR
          clear hj q2 q3 q4 q5
          obtain ⟨kb0, kb1, kb2, kb3, kc0, kc1, kc2, kc3⟩ := boxed8 w (.int .i64 0) (.int .i64 n) (.string s) (.slice A a.length c) (.int .i64 k') (.int .i64 n') (.string s') (.slice A' a'.length c') 69
          go_enter Tryz.func181, Tryz.ntmps181
          go_wp2_with fail
          refine wp_region_quiet_below (by kernel_rfl) (by kernel_rfl) ?_
          repeat (go_big_quiet_step (first | (go_at_call 208; first | (with_reducible exact Calls.regrown_of (r1.out _)) | (with_reducible exact Calls.regrown_of (r2.out _))) | (go_at_call 160; exact Calls.regrown_of (withBelow (q0.out _)))))
          refine wpQuiet_nil ?_
          intro w1 hw'
          obtain ⟨⟨d0, d1, d2, d3⟩, ⟨g0, g1, g2, g3⟩, hb1⟩ := box8 (regrown_below hw')
          clear kb0 kb1 kb2 kb3 kc0 kc1 kc2 kc3 hw'
          go_wp2_with fail
          refine (r1.out _).mono ?_
          rintro e w2 ⟨rfl, hb2⟩
          have d0' := (hb2.cell (World.block_lt_of_cell? _ _ d0)).trans d0
          have d1' := (hb2.cell (World.block_lt_of_cell? _ _ d1)).trans d1
          have d2' := (hb2.cell (World.block_lt_of_cell? _ _ d2)).trans d2
          have d3' := (hb2.cell (World.block_lt_of_cell? _ _ d3)).trans d3
          have g0' := (hb2.cell (World.block_lt_of_cell? _ _ g0)).trans g0
          have g1' := (hb2.cell (World.block_lt_of_cell? _ _ g1)).trans g1
          have g2' := (hb2.cell (World.block_lt_of_cell? _ _ g2)).trans g2
          have g3' := (hb2.cell (World.block_lt_of_cell? _ _ g3)).trans g3
          have hb3 := hb1.trans (hb2.mono hb1.size)
          clear d0 d1 d2 d3 g0 g1 g2 g3
          go_wp2_with fail
          refine (q1.out _).mono ?_
          rintro e w' ⟨rfl, rfl⟩
          go_wp2_with fail
          go_ret
          exact ⟨rfl, hb3⟩
        · rw [if_neg (by omega)] at HR
          by_cases k2 : k = 2
          · subst k2
            obtain rfl : j = 2 := by rw [← hj]; simp [cls]
            rw [if_pos rfl] at HR
            clear hj q1 q2 k1 k0
            by_cases e1 : z4 = 0
            · subst e1
              rw [lex_zero] at HR
              by_cases e2 : z3 = 0
              · subst e2
                rw [lex_zero] at HR
                subst HR
                obtain ⟨kb0, kb1, kb2, kb3, kc0, kc1, kc2, kc3⟩ := boxed8 w (.int .i64 2) (.int .i64 n) (.string s) (.slice A a.length c) (.int .i64 k') (.int .i64 n') (.string s') (.slice A' a'.length c') 69
                go_enter Tryz.func181, Tryz.ntmps181
                go_wp2_with fail
                refine wp_region_quiet_below (by kernel_rfl) (by kernel_rfl) ?_
                repeat (go_big_quiet_step (first | (go_at_call 208; first | (with_reducible exact Calls.regrown_of (r1.out _)) | (with_reducible exact Calls.regrown_of (r2.out _))) | (go_at_call 160; exact Calls.regrown_of (withBelow (q0.out _)))))
                refine wpQuiet_nil ?_
                intro w1 hw'
                obtain ⟨⟨d0, d1, d2, d3⟩, ⟨g0, g1, g2, g3⟩, hb1⟩ := box8 (regrown_below hw')
                clear kb0 kb1 kb2 kb3 kc0 kc1 kc2 kc3 hw'
                go_wp2_with fail
                refine (r1.out _).mono ?_
                rintro e w2 ⟨rfl, hb2⟩
                have d0' := (hb2.cell (World.block_lt_of_cell? _ _ d0)).trans d0
                have d1' := (hb2.cell (World.block_lt_of_cell? _ _ d1)).trans d1
                have d2' := (hb2.cell (World.block_lt_of_cell? _ _ d2)).trans d2
                have d3' := (hb2.cell (World.block_lt_of_cell? _ _ d3)).trans d3
                have g0' := (hb2.cell (World.block_lt_of_cell? _ _ g0)).trans g0
                have g1' := (hb2.cell (World.block_lt_of_cell? _ _ g1)).trans g1
                have g2' := (hb2.cell (World.block_lt_of_cell? _ _ g2)).trans g2
                have g3' := (hb2.cell (World.block_lt_of_cell? _ _ g3)).trans g3
                have hb3 := hb1.trans (hb2.mono hb1.size)
                clear d0 d1 d2 d3 g0 g1 g2 g3
                go_wp2_with fail
                refine (q4.out _).mono ?_
                rintro e w' ⟨rfl, rfl⟩
                go_wp2_with fail
                refine (q3.out _).mono ?_
                rintro e w' ⟨rfl, rfl⟩
                go_wp2_with fail
                refine (q5.out _ hb3).mono ?_
                rintro e w' ⟨rfl, hb⟩
                go_wp2_with fail
                go_ret
                exact ⟨rfl, hb3.trans (hb.mono hb3.size)⟩
              · rw [lex_ne e2] at HR
                subst HR
                have e2' : (z3 == 0) = false := by simpa using e2
                clear q5
                obtain ⟨kb0, kb1, kb2, kb3, kc0, kc1, kc2, kc3⟩ := boxed8 w (.int .i64 2) (.int .i64 n) (.string s) (.slice A a.length c) (.int .i64 k') (.int .i64 n') (.string s') (.slice A' a'.length c') 69
                go_enter Tryz.func181, Tryz.ntmps181
                go_wp2_with fail
                refine wp_region_quiet_below (by kernel_rfl) (by kernel_rfl) ?_
                repeat (go_big_quiet_step (first | (go_at_call 208; first | (with_reducible exact Calls.regrown_of (r1.out _)) | (with_reducible exact Calls.regrown_of (r2.out _))) | (go_at_call 160; exact Calls.regrown_of (withBelow (q0.out _)))))
                refine wpQuiet_nil ?_
                intro w1 hw'
                obtain ⟨⟨d0, d1, d2, d3⟩, ⟨g0, g1, g2, g3⟩, hb1⟩ := box8 (regrown_below hw')
                clear kb0 kb1 kb2 kb3 kc0 kc1 kc2 kc3 hw'
                go_wp2_with fail
                refine (r1.out _).mono ?_
                rintro e w2 ⟨rfl, hb2⟩
                have d0' := (hb2.cell (World.block_lt_of_cell? _ _ d0)).trans d0
                have d1' := (hb2.cell (World.block_lt_of_cell? _ _ d1)).trans d1
                have d2' := (hb2.cell (World.block_lt_of_cell? _ _ d2)).trans d2
                have d3' := (hb2.cell (World.block_lt_of_cell? _ _ d3)).trans d3
                have g0' := (hb2.cell (World.block_lt_of_cell? _ _ g0)).trans g0
                have g1' := (hb2.cell (World.block_lt_of_cell? _ _ g1)).trans g1
                have g2' := (hb2.cell (World.block_lt_of_cell? _ _ g2)).trans g2
                have g3' := (hb2.cell (World.block_lt_of_cell? _ _ g3)).trans g3
                have hb3 := hb1.trans (hb2.mono hb1.size)
                clear d0 d1 d2 d3 g0 g1 g2 g3
                go_wp2_with fail
                refine (q4.out _).mono ?_
                rintro e w' ⟨rfl, rfl⟩
                go_wp2_with fail
                refine (q3.out _).mono ?_
                rintro e w' ⟨rfl, rfl⟩
                go_wp2_with fail
                go_ret
                exact ⟨rfl, hb3⟩
            · rw [lex_ne e1] at HR
              subst HR
              have e1' : (z4 == 0) = false := by simpa using e1
              clear q5 q3
              obtain ⟨kb0, kb1, kb2, kb3, kc0, kc1, kc2, kc3⟩ := boxed8 w (.int .i64 2) (.int .i64 n) (.string s) (.slice A a.length c) (.int .i64 k') (.int .i64 n') (.string s') (.slice A' a'.length c') 69
              go_enter Tryz.func181, Tryz.ntmps181
              go_wp2_with fail
              refine wp_region_quiet_below (by kernel_rfl) (by kernel_rfl) ?_
              repeat (go_big_quiet_step (first | (go_at_call 208; first | (with_reducible exact Calls.regrown_of (r1.out _)) | (with_reducible exact Calls.regrown_of (r2.out _))) | (go_at_call 160; exact Calls.regrown_of (withBelow (q0.out _)))))
              refine wpQuiet_nil ?_
              intro w1 hw'
              obtain ⟨⟨d0, d1, d2, d3⟩, ⟨g0, g1, g2, g3⟩, hb1⟩ := box8 (regrown_below hw')
              clear kb0 kb1 kb2 kb3 kc0 kc1 kc2 kc3 hw'
              go_wp2_with fail
              refine (r1.out _).mono ?_
              rintro e w2 ⟨rfl, hb2⟩
              have d0' := (hb2.cell (World.block_lt_of_cell? _ _ d0)).trans d0
              have d1' := (hb2.cell (World.block_lt_of_cell? _ _ d1)).trans d1
              have d2' := (hb2.cell (World.block_lt_of_cell? _ _ d2)).trans d2
              have d3' := (hb2.cell (World.block_lt_of_cell? _ _ d3)).trans d3
              have g0' := (hb2.cell (World.block_lt_of_cell? _ _ g0)).trans g0
              have g1' := (hb2.cell (World.block_lt_of_cell? _ _ g1)).trans g1
              have g2' := (hb2.cell (World.block_lt_of_cell? _ _ g2)).trans g2
              have g3' := (hb2.cell (World.block_lt_of_cell? _ _ g3)).trans g3
              have hb3 := hb1.trans (hb2.mono hb1.size)
              clear d0 d1 d2 d3 g0 g1 g2 g3
              go_wp2_with fail
              refine (q4.out _).mono ?_
              rintro e w' ⟨rfl, rfl⟩
              go_wp2_with fail
              go_ret
              exact ⟨rfl, hb3⟩
          · rw [if_neg k2] at HR
            obtain rfl : j = 3 := by rw [← hj]; simp [cls, k1, k0, k2]
            clear hj q4 q5 k1 k0 k2
            by_cases e1 : z2 = 0
            · subst e1
              rw [lex_zero] at HR
              by_cases e2 : z1 = 0
              · subst e2
                rw [lex_zero] at HR
                subst HR
                obtain ⟨kb0, kb1, kb2, kb3, kc0, kc1, kc2, kc3⟩ := boxed8 w (.int .i64 k) (.int .i64 n) (.string s) (.slice A a.length c) (.int .i64 k') (.int .i64 n') (.string s') (.slice A' a'.length c') 69
                go_enter Tryz.func181, Tryz.ntmps181
                go_wp2_with fail
                refine wp_region_quiet_below (by kernel_rfl) (by kernel_rfl) ?_
                repeat (go_big_quiet_step (first | (go_at_call 208; first | (with_reducible exact Calls.regrown_of (r1.out _)) | (with_reducible exact Calls.regrown_of (r2.out _))) | (go_at_call 160; exact Calls.regrown_of (withBelow (q0.out _)))))
                refine wpQuiet_nil ?_
                intro w1 hw'
                obtain ⟨⟨d0, d1, d2, d3⟩, ⟨g0, g1, g2, g3⟩, hb1⟩ := box8 (regrown_below hw')
                clear kb0 kb1 kb2 kb3 kc0 kc1 kc2 kc3 hw'
                go_wp2_with fail
                refine (r1.out _).mono ?_
                rintro e w2 ⟨rfl, hb2⟩
                have d0' := (hb2.cell (World.block_lt_of_cell? _ _ d0)).trans d0
                have d1' := (hb2.cell (World.block_lt_of_cell? _ _ d1)).trans d1
                have d2' := (hb2.cell (World.block_lt_of_cell? _ _ d2)).trans d2
                have d3' := (hb2.cell (World.block_lt_of_cell? _ _ d3)).trans d3
                have g0' := (hb2.cell (World.block_lt_of_cell? _ _ g0)).trans g0
                have g1' := (hb2.cell (World.block_lt_of_cell? _ _ g1)).trans g1
                have g2' := (hb2.cell (World.block_lt_of_cell? _ _ g2)).trans g2
                have g3' := (hb2.cell (World.block_lt_of_cell? _ _ g3)).trans g3
                have hb3 := hb1.trans (hb2.mono hb1.size)
                clear d0 d1 d2 d3 g0 g1 g2 g3
                go_wp2_with fail
                refine (q2.out _).mono ?_
                rintro e w' ⟨rfl, rfl⟩
                go_wp2_with fail
                refine (q1.out _).mono ?_
                rintro e w' ⟨rfl, rfl⟩
                go_wp2_with fail
                refine (q3.out _).mono ?_
                rintro e w' ⟨rfl, rfl⟩
                go_wp2_with fail
                go_ret
                exact ⟨rfl, hb3⟩
              · rw [lex_ne e2] at HR
                subst HR
                have e2' : (z1 == 0) = false := by simpa using e2
                clear q3
                obtain ⟨kb0, kb1, kb2, kb3, kc0, kc1, kc2, kc3⟩ := boxed8 w (.int .i64 k) (.int .i64 n) (.string s) (.slice A a.length c) (.int .i64 k') (.int .i64 n') (.string s') (.slice A' a'.length c') 69
                go_enter Tryz.func181, Tryz.ntmps181
                go_wp2_with fail
                refine wp_region_quiet_below (by kernel_rfl) (by kernel_rfl) ?_
                repeat (go_big_quiet_step (first | (go_at_call 208; first | (with_reducible exact Calls.regrown_of (r1.out _)) | (with_reducible exact Calls.regrown_of (r2.out _))) | (go_at_call 160; exact Calls.regrown_of (withBelow (q0.out _)))))
                refine wpQuiet_nil ?_
                intro w1 hw'
                obtain ⟨⟨d0, d1, d2, d3⟩, ⟨g0, g1, g2, g3⟩, hb1⟩ := box8 (regrown_below hw')
                clear kb0 kb1 kb2 kb3 kc0 kc1 kc2 kc3 hw'
                go_wp2_with fail
                refine (r1.out _).mono ?_
                rintro e w2 ⟨rfl, hb2⟩
                have d0' := (hb2.cell (World.block_lt_of_cell? _ _ d0)).trans d0
                have d1' := (hb2.cell (World.block_lt_of_cell? _ _ d1)).trans d1
                have d2' := (hb2.cell (World.block_lt_of_cell? _ _ d2)).trans d2
                have d3' := (hb2.cell (World.block_lt_of_cell? _ _ d3)).trans d3
                have g0' := (hb2.cell (World.block_lt_of_cell? _ _ g0)).trans g0
                have g1' := (hb2.cell (World.block_lt_of_cell? _ _ g1)).trans g1
                have g2' := (hb2.cell (World.block_lt_of_cell? _ _ g2)).trans g2
                have g3' := (hb2.cell (World.block_lt_of_cell? _ _ g3)).trans g3
                have hb3 := hb1.trans (hb2.mono hb1.size)
                clear d0 d1 d2 d3 g0 g1 g2 g3
                go_wp2_with fail
                refine (q2.out _).mono ?_
                rintro e w' ⟨rfl, rfl⟩
                go_wp2_with fail
                refine (q1.out _).mono ?_
                rintro e w' ⟨rfl, rfl⟩
                go_wp2_with fail
                go_ret
                exact ⟨rfl, hb3⟩
            · rw [lex_ne e1] at HR
              subst HR
              have e1' : (z2 == 0) = false := by simpa using e1
              clear q3 q1
              obtain ⟨kb0, kb1, kb2, kb3, kc0, kc1, kc2, kc3⟩ := boxed8 w (.int .i64 k) (.int .i64 n) (.string s) (.slice A a.length c) (.int .i64 k') (.int .i64 n') (.string s') (.slice A' a'.length c') 69
              go_enter Tryz.func181, Tryz.ntmps181
              go_wp2_with fail
              refine wp_region_quiet_below (by kernel_rfl) (by kernel_rfl) ?_
              repeat (go_big_quiet_step (first | (go_at_call 208; first | (with_reducible exact Calls.regrown_of (r1.out _)) | (with_reducible exact Calls.regrown_of (r2.out _))) | (go_at_call 160; exact Calls.regrown_of (withBelow (q0.out _)))))
              refine wpQuiet_nil ?_
              intro w1 hw'
              obtain ⟨⟨d0, d1, d2, d3⟩, ⟨g0, g1, g2, g3⟩, hb1⟩ := box8 (regrown_below hw')
              clear kb0 kb1 kb2 kb3 kc0 kc1 kc2 kc3 hw'
              go_wp2_with fail
              refine (r1.out _).mono ?_
              rintro e w2 ⟨rfl, hb2⟩
              have d0' := (hb2.cell (World.block_lt_of_cell? _ _ d0)).trans d0
              have d1' := (hb2.cell (World.block_lt_of_cell? _ _ d1)).trans d1
              have d2' := (hb2.cell (World.block_lt_of_cell? _ _ d2)).trans d2
              have d3' := (hb2.cell (World.block_lt_of_cell? _ _ d3)).trans d3
              have g0' := (hb2.cell (World.block_lt_of_cell? _ _ g0)).trans g0
              have g1' := (hb2.cell (World.block_lt_of_cell? _ _ g1)).trans g1
              have g2' := (hb2.cell (World.block_lt_of_cell? _ _ g2)).trans g2
              have g3' := (hb2.cell (World.block_lt_of_cell? _ _ g3)).trans g3
              have hb3 := hb1.trans (hb2.mono hb1.size)
              clear d0 d1 d2 d3 g0 g1 g2 g3
              go_wp2_with fail
              refine (q2.out _).mono ?_
              rintro e w' ⟨rfl, rfl⟩
              go_wp2_with fail
              go_ret
              exact ⟨rfl, hb3⟩
    · rw [lex_ne e0] at HR
      subst HR
      have e0' : (z0 != 0) = true := by simpa using e0
      clear hj q1 q2 q3 q4 q5
      obtain ⟨kb0, kb1, kb2, kb3, kc0, kc1, kc2, kc3⟩ := boxed8 w (.int .i64 k) (.int .i64 n) (.string s) (.slice A a.length c) (.int .i64 k') (.int .i64 n') (.string s') (.slice A' a'.length c') 69
      go_enter Tryz.func181, Tryz.ntmps181
      go_wp2_with fail
      refine wp_region_quiet_below (by kernel_rfl) (by kernel_rfl) ?_
      repeat (go_big_quiet_step (first | (go_at_call 208; first | (with_reducible exact Calls.regrown_of (r1.out _)) | (with_reducible exact Calls.regrown_of (r2.out _))) | (go_at_call 160; exact Calls.regrown_of (withBelow (q0.out _)))))
      refine wpQuiet_nil ?_
      intro w1 hw'
      obtain ⟨⟨d0, d1, d2, d3⟩, ⟨g0, g1, g2, g3⟩, hb1⟩ := box8 (regrown_below hw')
      clear kb0 kb1 kb2 kb3 kc0 kc1 kc2 kc3 hw'
      go_wp2_with fail
      go_ret
      exact ⟨rfl, hb1⟩
theorem same_terms_at (l m : List Tm) (A B : Option Addr) (c d : Nat) (w : World) (hl : Lst w A l c) (hm : Lst w B m d) {r : Bool} (hr : (cmpL l m == 0) = r) :
    Calls Tryz.prog 108 #[.slice A l.length c, .slice B m.length d] w fun e w' => e = .returned (.bool r) ∧ Below w.heap.size w w' := by
  have Q := Lib.hid (ref_lists_at l m (fun x _ => ref_compare_at x) A B c d w hl hm)
  generalize cmpL l m = z at *
  have HR := Lib.hid hr
  clear hr
  go_enter Tryz.func108, Tryz.ntmps108
  go_wp2_with fail
  refine (Q.out).mono ?_
  rintro e w' ⟨rfl, hb⟩
  go_wp2_with fail
  go_ret
  exact ⟨by rw [← HR.out]; rfl, hb⟩
end Go.Proofs.YtnghanpmmbcbbaaGreatDoor
namespace Go.Proofs.YtnghanpmmbcbbaaGreatDoor
open Go.ChangeShapes Go.WideShapes Go.ChangeAt Go.RowKit
theorem types : Types Tryz.prog 3 9 51 69 :=
  ⟨Tryz.underlying3, Tryz.underlying9, Tryz.underlying51, ⟨_, _, _, _, Tryz.underlying69, ⟨rfl, rfl⟩, ⟨rfl, rfl⟩, ⟨rfl, rfl⟩, ⟨rfl, rfl⟩⟩, by kernel_rfl, by kernel_rfl, by kernel_rfl, by kernel_rfl⟩
section
variable {H : Type} {enc : TypeId × Value → H} {W : World} {base : Nat} {spare : Nat → Bool} {held : Bool}
end
end Go.Proofs.YtnghanpmmbcbbaaGreatDoor
namespace Go.Proofs.YtnghanpmmbcbbaaGreatDoor
open Go.RowKit Go.Maps
theorem OwnI.mono {w : World} {base base' : Nat} {v : Value} {l : List Int} (h : OwnI w base v l) (hb : base' ≤ base) : OwnI w base' v l := by
  refine ⟨h.1, ?_⟩
  rcases h.2 with h | ⟨g, cap, cur, h1, h2, h3⟩
  · exact .inl h
  · exact .inr ⟨g, cap, cur, h1, Nat.le_trans hb h2, h3⟩
end Go.Proofs.YtnghanpmmbcbbaaGreatDoor
