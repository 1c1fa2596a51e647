/-
  Lists of constraints in memory; arguments that are such lists, opened; a row of the call's own.
-/
import Derived.Test.YtpnjjahimhhjkaaVaProg
import Derived.Test.YtpnjjahimhhjkaaTmOpen
import Derived.Test.YtpnjjahimhhjkaaSuRow
namespace Go.Proofs.Ytpnjjahimhhjkaa
open Go.ChangeShapes Go.WideShapes Go.ChangeAt Go.RowKit

/-- The cells ahead of the arguments. -/
def Am.hd (x : Am) : List Value := [.string x.name]
def Am.cells (x : Am) : List Value := x.hd ++ [.slice x.at_ x.args.length x.cap]
theorem Am.cells_len (x : Am) : x.cells.length = 2 := rfl
theorem Am.cells_sl (x : Am) : x.cells[1]? = some (.slice x.at_ x.args.length x.cap) := rfl
theorem Am.cells_hd (x : Am) {j : Nat} (hj : j < 1) : x.cells[j]? = x.hd[j]? := List.getElem?_append_left (by simpa [Am.hd] using hj)
theorem Am.cells_lt {x : Am} {j : Nat} {u : Value} (h : x.cells[j]? = some u) : j < 2 := by
  have := (List.getElem?_eq_some_iff.1 h).1
  rwa [Am.cells_len] at this
/-- What identity sees, and the order of the arguments' fields. -/
def Am.key (x : Am) : List Value × List Tm := (x.hd, stripL x.args)
/-- With the arguments renamed. -/
def Am.ren (x : Am) (g : Int → Int) : Am := { x with args := renL x.args g }
def Am.rr (x : Am) (g : Int → Int) : Am := { x with args := rrL x.args g }
/-- The rows at block b, from cell o on. -/
def AmRow (w : World) (l : List Am) (b o : Nat) : Prop := ∀ i, i < l.length → (∀ j u, (l.getD i default).cells[j]? = some u → w.cell? ⟨b, o + i * 2 + j, none⟩ = some u) ∧ (l.getD i default).At w
/-- The slice at A of capacity c holds the list. -/
def AmLst (w : World) (A : Option Addr) (l : List Am) (c : Nat) : Prop := l.length ≤ c ∧ c ≤ maxLen ∧ (0 < l.length → ∃ b o, A = some ⟨b, o, none⟩ ∧ AmRow w l b o)
theorem am_getD_mem {l : List Am} {k : Nat} (h : k < l.length) : l.getD k default ∈ l := by
  simp only [List.getD, List.getElem?_eq_getElem h, Option.getD_some]
  exact List.getElem_mem h
theorem am_take_next {l : List Am} {k : Nat} (h : k < l.length) : l.take (k + 1) = l.take k ++ [l.getD k default] := by
  rw [List.take_succ_eq_append_getElem h]
  simp [List.getD, List.getElem?_eq_getElem h]
section
variable {w w' : World} {A : Option Addr} {l : List Am} {c b o : Nat}
theorem AmRow.below (h : AmRow w l b o) (hb : Below w.heap.size w w') : AmRow w' l b o := fun i hi => ⟨fun j u hu => keepv hb ((h i hi).1 j u hu), (h i hi).2.below hb⟩
theorem AmLst.below (h : AmLst w A l c) (hb : Below w.heap.size w w') : AmLst w' A l c := ⟨h.1, h.2.1, fun hn => by
  obtain ⟨b, o, e, hr⟩ := h.2.2 hn
  exact ⟨b, o, e, hr.below hb⟩⟩
theorem AmLst.get (h : AmLst w A l c) {i : Nat} (hi : i < l.length) : ∃ b o, A = some ⟨b, o, none⟩ ∧ (∀ j u, (l.getD i default).cells[j]? = some u → w.cell? ⟨b, o + i * 2 + j, none⟩ = some u) ∧ (l.getD i default).At w := by
  obtain ⟨b, o, e, hr⟩ := h.2.2 (by omega)
  exact ⟨b, o, e, hr i hi⟩
theorem AmLst.mem (h : AmLst w A l c) {x : Am} (hx : x ∈ l) : x.At w := by
  obtain ⟨i, hi, e⟩ := List.mem_iff_getElem.1 hx
  obtain ⟨_, _, _, _, h2⟩ := h.get hi
  simpa [List.getD, List.getElem?_eq_getElem hi, e] using h2
theorem AmLst.len (h : AmLst w A l c) : l.length ≤ 9223372036854775807 := by have := h.1; have := h.2.1; unfold maxLen at *; omega
theorem AmLst.nil (w : World) : AmLst w none [] 0 := ⟨Nat.le_refl _, Nat.zero_le _, fun h => absurd h (by simp)⟩
end
section
variable {H : Type} {enc : TypeId × Value → H} {W : World} {base : Nat} {spare : Nat → Bool} {held : Bool}
set_option maxRecDepth 100000 in
theorem am_of (n : Nat) (cs : List Value) (x : DataW H × List MemPlace) (h : DataW.trod enc Try.prog W base spare held n 85 cs = some x) : ∃ y : Am, cs = y.cells ∧ y.At W := by
  obtain ⟨xs, m, _, _, hcl, hxl, hg⟩ := DataW.trod_struct Try.underlying85 h
  have hcl' : cs.length = 2 := hcl.trans (by kernel_rfl)
  match cs, hcl' with
  | [c0, c1], _ =>
    have hxs : xs.length = 2 := hxl
    have g0 := hg 0 _ rfl
    have g1 := hg 1 _ rfl
    rw [List.getElem?_eq_getElem (by omega)] at g0 g1
    have eI : (Try.prog.cellsOf 3) = 1 := by kernel_rfl
    have eS : (Try.prog.cellsOf 9) = 1 := by kernel_rfl
    have eL : (Try.prog.cellsOf 22) = 1 := by kernel_rfl
    simp only [List.getElem_toArray, List.getElem_cons_zero, List.getElem_cons_succ] at g0 g1
    obtain ⟨s, hs, _, ws⟩ := DataW.trod_string (cs := [c0]) Try.underlying9 (by simpa [eS] using g0)
    obtain ⟨A, l, c, hv', hl'⟩ := open_lst types (v := c1) (by simpa [eL] using g1)
    obtain rfl : c0 = .string s := by simpa using hs
    subst hv'
    exact ⟨⟨s, A, c, l⟩, rfl, ws, hl'⟩
set_option maxRecDepth 100000 in
theorem ams_of {n : Nat} {v : Value} {x : DataW H × List MemPlace} (h : DataW.trod enc Try.prog W base spare held n 30 [v] = some x) :
    ∃ (A : Option Addr) (l : List Am) (c : Nat), v = .slice A l.length c ∧ AmLst W A l c := by
  rcases DataW.trod_slice Try.underlying30 h with ⟨hcs, _⟩ | ⟨a, len, cap, elems, rest, n', hn, hcs, _, _, hl, hm, hlen, hel, _⟩
  · obtain rfl : v = .slice none 0 0 := by simpa using hcs
    exact ⟨none, [], 0, rfl, AmLst.nil W⟩
  · obtain rfl : v = .slice (some a) len cap := by simpa using hcs
    have cT : Try.prog.cellsOf 85 = 2 := by kernel_rfl
    obtain ⟨f, hf⟩ := Deep.choose_lt (α := Am) (p := fun i y => W.cells? base (a.add (i * 2)) 2 = some y.cells ∧ y.At W) (n := len) (fun i hi => by
      have h1 := hel i hi
      rw [cT, List.getElem?_eq_getElem (by omega)] at h1
      obtain ⟨cs', h2, h3⟩ := Option.bind_eq_some_iff.1 h1
      obtain ⟨y, rfl, hy'⟩ := am_of _ _ _ h3
      exact ⟨y, h2, hy'⟩)
    have hll : ((List.range len).map f).length = len := by simp
    refine ⟨some a, (List.range len).map f, cap, by rw [hll], by rw [hll]; exact hl, hm, fun h0 => ?_⟩
    rw [hll] at h0
    obtain ⟨b, o, sp⟩ := a
    have c0 := (World.cells?_some (hf 0 h0).1).2.2 0 (by omega)
    obtain rfl : sp = none := by
      have e0 : ∃ u, (f 0).cells[0]? = some u := ⟨_, rfl⟩
      obtain ⟨u, e0⟩ := e0
      rw [e0] at c0
      simpa [Addr.add] using World.cell?_spot c0
    refine ⟨b, o, rfl, fun i hi => ?_⟩
    rw [hll] at hi
    have e : ((List.range len).map f).getD i default = f i := by simp [List.getD, hi]
    rw [e]
    refine ⟨fun j u hu => ?_, (hf i hi).2⟩
    have hj := Am.cells_lt hu
    have := (World.cells?_some (hf i hi).1).2.2 j hj
    rw [add_plain, add_plain, hu] at this
    exact this
end
/-! ### A row of the call's own -/
def amcells (l : List Am) : List Value := l.flatMap Am.cells
theorem amcells_len (l : List Am) : (amcells l).length = l.length * 2 := by
  induction l with
  | nil => rfl
  | cons t r ih => simp only [amcells, List.flatMap_cons, List.length_append, Am.cells_len, List.length_cons] at *; omega
theorem amcells_append (l m : List Am) : amcells (l ++ m) = amcells l ++ amcells m := by simp [amcells]
theorem amcells_one (x : Am) : ∀ v ∈ x.cells, v.oneCell' = true := by
  intro v hv
  simp only [Am.cells, Am.hd, List.cons_append, List.nil_append, List.mem_cons, List.not_mem_nil, or_false] at hv
  rcases hv with rfl | rfl <;> rfl
theorem amcells_all (l : List Am) : ∀ u ∈ amcells l, u.oneCell' = true := by
  intro u hu
  obtain ⟨x, _, hx⟩ := List.mem_flatMap.1 hu
  exact amcells_one x u hx
theorem amcells_get (l : List Am) {i j : Nat} (hi : i < l.length) (hj : j < 2) : (amcells l)[i * 2 + j]? = (l.getD i default).cells[j]? := by
  induction l generalizing i with
  | nil => simp at hi
  | cons t r ih =>
    simp only [amcells, List.flatMap_cons]
    cases i with
    | zero =>
      rw [List.getElem?_append_left (by rw [Am.cells_len]; omega)]
      simp
    | succ i =>
      rw [List.getElem?_append_right (by rw [Am.cells_len]; omega), Am.cells_len, show (i + 1) * 2 + j - 2 = i * 2 + j by omega]
      simpa [amcells] using ih (by simpa using hi)
theorem am_info : (Try.prog.info? 85).map (fun i => (i.zero, i.size, i.bytes)) = some (some (.agg #[.string ⟨#[]⟩, .slice none 0 0]), 2, 40) := by kernel_rfl
theorem AmRow.cells {w : World} {l : List Am} {b o : Nat} (h : AmRow w l b o) : ∀ (j : Nat) (u : Value), (amcells l)[j]? = some u → w.cell? ((⟨b, o, none⟩ : Addr).add j) = some u := by
  intro j u hu
  have hj : j < l.length * 2 := by rw [← amcells_len]; exact (List.getElem?_eq_some_iff.1 hu).1
  have e : j = j / 2 * 2 + j % 2 := by omega
  rw [e, amcells_get l (by omega) (by omega)] at hu
  have := (h (j / 2) (by omega)).1 (j % 2) u hu
  rw [add_plain, e, ← Nat.add_assoc]
  exact this
/-- Block g holds the list, and may be written. -/
def AmOwn (w : World) (g : Nat) (l : List Am) : Prop := g < w.heap.size ∧ (∀ j, w.frozen? ⟨g, j, none⟩ = false) ∧ ∀ i j u, i < l.length → (l.getD i default).cells[j]? = some u → w.cell? ⟨g, i * 2 + j, none⟩ = some u
theorem AmOwn.below {w w' : World} {g : Nat} {l : List Am} (h : AmOwn w g l) (hb : Below w.heap.size w w') : AmOwn w' g l :=
  ⟨Nat.lt_of_lt_of_le h.1 hb.size, fun j => (hb.frozen (p := ⟨g, j, none⟩) h.1).trans (h.2.1 j), fun i j u hi hu => (hb.cell (p := ⟨g, i * 2 + j, none⟩) h.1).trans (h.2.2 i j u hi hu)⟩
/-- The arguments of one stored anew. -/
theorem AmOwn.store {w : World} {g : Nat} {l : List Am} (h : AmOwn w g l) {i : Nat} (hi : i < l.length) (u : Am) (hu : u.hd = (l.getD i default).hd) : AmOwn (w.setCell ⟨g, i * 2 + 1, none⟩ (.slice u.at_ u.args.length u.cap)) g (l.set i u) := by
  refine ⟨by simpa [World.setCell] using h.1, fun j => by rw [World.frozen?_setCell]; exact h.2.1 j, fun i' j v hi' hv => ?_⟩
  rw [List.length_set] at hi'
  by_cases e : i' = i
  · subst e
    have ev : (l.set i' u).getD i' default = u := by simp [List.getD, hi']
    rw [ev] at hv
    have hj := Am.cells_lt hv
    by_cases hl : j = 1
    · subst hl
      rw [Am.cells_sl] at hv
      injection hv with hv
      subst hv
      exact World.cell?_setCell_same' _ _ _ (by rw [h.2.2 i' 1 _ hi' (Am.cells_sl _)]; rfl)
    · rw [World.cell?_setCell_other _ _ _ _ (fun e => by injection e with _ e _; omega)]
      rw [Am.cells_hd _ (by omega), hu, ← Am.cells_hd _ (by omega)] at hv
      exact h.2.2 i' j v hi' hv
  · have ev : (l.set i u).getD i' default = l.getD i' default := by simp [List.getD, Ne.symm e]
    rw [ev] at hv
    have hj := Am.cells_lt hv
    rw [World.cell?_setCell_other _ _ _ _ (fun e => by injection e with _ e _; omega)]
    exact h.2.2 i' j v hi' hv
/-- In each world of B that has w's blocks from lo on, but for those of X, it lies. -/
def AmLie (B : World → Prop) (lo : Nat) (X : Nat → Prop) (w : World) (t : Am) : Prop := ∀ W, B W → Agree lo X w W → t.At W
section
variable {B : World → Prop} {lo : Nat} {X : Nat → Prop} {w w' : World} {t : Am}
theorem AmLie.less {lo' : Nat} {Y : Nat → Prop} (h : AmLie B lo' Y w t) (hs : w.heap.size ≤ w'.heap.size) (hc : ∀ b, lo' ≤ b → b < w.heap.size → ¬ Y b → lo ≤ b ∧ ¬ X b ∧ w'.heap[b]? = w.heap[b]?) : AmLie B lo X w' t := fun W hB hW => h W hB (hW.less hs hc)
theorem AmLie.below (h : AmLie B lo X w t) (k : Below w.heap.size w w') : AmLie B lo X w' t := h.less k.size fun b h1 h2 h3 => ⟨h1, h3, k.block b h2⟩
theorem AmLie.low (h : AmLie B lo X w t) {lo' : Nat} (hl : lo' ≤ lo) : AmLie B lo' X w t := h.less (Nat.le_refl _) fun b h1 _ h3 => ⟨by omega, h3, rfl⟩
theorem AmLie.out {Y : Nat → Prop} (h : AmLie B lo Y w t) (hY : ∀ b, lo ≤ b → b < w.heap.size → X b → Y b) : AmLie B lo X w t := h.less (Nat.le_refl _) fun b h1 h2 h3 => ⟨h1, fun hx => h3 (hY b h1 h2 hx), rfl⟩
theorem AmLie.set (h : AmLie B lo X w t) {p : Addr} (hp : p.block < lo ∨ X p.block) (v : Value) : AmLie B lo X (w.setCell p v) t := h.less (by simp [World.setCell]) fun b h1 _ h3 => ⟨h1, h3, Below.heap_setCell _ _ _ _ (fun e => hp.elim (fun h => by omega) (fun h => h3 (e ▸ h)))⟩
theorem AmLie.new_is {T : Nat} (h : AmLie B lo No w t) (hT : T < lo) : AmLie B lo (Is T) w t := h.out fun b h1 _ h3 => by have : b = T := h3; omega
end
/-- What is made of a list: a list like it in blocks of the call's own. -/
def AmMade (B : World → Prop) (n : Nat) (m : List Am) (w : World) (e : Ending) (w' : World) : Prop :=
  ∃ A cap, ∃ cur : List Am, e = .returned (.slice A n cap) ∧ cur.length = n ∧ cur.map Am.key = m.map Am.key ∧ (∀ W, B W → Agree w.heap.size No w' W → AmLst W A cur cap) ∧ Below w.heap.size w w'
end Go.Proofs.Ytpnjjahimhhjkaa
