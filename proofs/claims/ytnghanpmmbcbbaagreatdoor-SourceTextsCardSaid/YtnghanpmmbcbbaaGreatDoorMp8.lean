/-
  VgGl.
  VpGl.
  SuFun.
  MaShift.
  VaShiftP.
  SuIdx.
  SuRight.
  TmVarsOf.
  SuRefL.
  SuRefA.
  VrShift.
  VaNums.
  VaNumP.
  VrNum.
  SuOpen.
  TmOne.
  TmTwo.
  TmGreat.
  TmPair.
  VlP.
  VpRule.
-/
import Derived.Test.YtnghanpmmbcbbaaGreatDoorMp7
import Derived.Test.YtnghanpmmbcbbaaGreatDoorMp6
import Derived.Test.YtnghanpmmbcbbaaGreatDoorMp4
import Derived.BigQuiet
import Derived.Deep.QuietTactic
import Derived.Test.YtnghanpmmbcbbaaGreatDoorMp5
import Derived.Test.YtnghanpmmbcbbaaGreatDoorMp1
import Derived.KernelRfl
import Derived.Deep.Cut
namespace Go.Proofs.YtnghanpmmbcbbaaGreatDoor
open Go.ChangeShapes Go.WideShapes Go.ChangeAt Go.RowKit
def Gl.hd (x : Gl) : List Value := [.int .i64 x.op, .string x.name]
def Gl.cells (x : Gl) : List Value := x.hd ++ [.slice x.at_ x.args.length x.cap]
theorem Gl.cells_len (x : Gl) : x.cells.length = 3 := rfl
theorem Gl.cells_sl (x : Gl) : x.cells[2]? = some (.slice x.at_ x.args.length x.cap) := rfl
theorem Gl.cells_hd (x : Gl) {j : Nat} (hj : j < 2) : x.cells[j]? = x.hd[j]? := List.getElem?_append_left (by simpa [Gl.hd] using hj)
theorem Gl.cells_lt {x : Gl} {j : Nat} {u : Value} (h : x.cells[j]? = some u) : j < 3 := by
  have := (List.getElem?_eq_some_iff.1 h).1
  rwa [Gl.cells_len] at this
def Gl.key (x : Gl) : List Value × List Tm := (x.hd, stripL x.args)
def Gl.ren (x : Gl) (g : Int → Int) : Gl := { x with args := renL x.args g }
def Gl.rr (x : Gl) (g : Int → Int) : Gl := { x with args := rrL x.args g }
def GlRow (w : World) (l : List Gl) (b o : Nat) : Prop := ∀ i, i < l.length → (∀ j u, (l.getD i default).cells[j]? = some u → w.cell? ⟨b, o + i * 3 + j, none⟩ = some u) ∧ (l.getD i default).At w
def GlLst (w : World) (A : Option Addr) (l : List Gl) (c : Nat) : Prop := l.length ≤ c ∧ c ≤ maxLen ∧ (0 < l.length → ∃ b o, A = some ⟨b, o, none⟩ ∧ GlRow w l b o)
theorem gl_getD_mem {l : List Gl} {k : Nat} (h : k < l.length) : l.getD k default ∈ l := by
  simp only [List.getD, List.getElem?_eq_getElem h, Option.getD_some]
  exact List.getElem_mem h
theorem gl_take_next {l : List Gl} {k : Nat} (h : k < l.length) : l.take (k + 1) = l.take k ++ [l.getD k default] := by
  rw [List.take_succ_eq_append_getElem h]
  simp [List.getD, List.getElem?_eq_getElem h]
section
variable {w w' : World} {A : Option Addr} {l : List Gl} {c b o : Nat}
theorem GlRow.below (h : GlRow w l b o) (hb : Below w.heap.size w w') : GlRow w' l b o := fun i hi => ⟨fun j u hu => keepv hb ((h i hi).1 j u hu), (h i hi).2.below hb⟩
theorem GlLst.below (h : GlLst w A l c) (hb : Below w.heap.size w w') : GlLst w' A l c := ⟨h.1, h.2.1, fun hn => by
  obtain ⟨b, o, e, hr⟩ := h.2.2 hn
  exact ⟨b, o, e, hr.below hb⟩⟩
theorem GlLst.get (h : GlLst w A l c) {i : Nat} (hi : i < l.length) : ∃ b o, A = some ⟨b, o, none⟩ ∧ (∀ j u, (l.getD i default).cells[j]? = some u → w.cell? ⟨b, o + i * 3 + j, none⟩ = some u) ∧ (l.getD i default).At w := by
  obtain ⟨b, o, e, hr⟩ := h.2.2 (by omega)
  exact ⟨b, o, e, hr i hi⟩
theorem GlLst.mem (h : GlLst w A l c) {x : Gl} (hx : x ∈ l) : x.At w := by
  obtain ⟨i, hi, e⟩ := List.mem_iff_getElem.1 hx
  obtain ⟨_, _, _, _, h2⟩ := h.get hi
  simpa [List.getD, List.getElem?_eq_getElem hi, e] using h2
theorem GlLst.len (h : GlLst w A l c) : l.length ≤ 9223372036854775807 := by have := h.1; have := h.2.1; unfold maxLen at *; omega
theorem GlLst.nil (w : World) : GlLst w none [] 0 := ⟨Nat.le_refl _, Nat.zero_le _, fun h => absurd h (by simp)⟩
end
section
variable {H : Type} {enc : TypeId × Value → H} {W : World} {base : Nat} {spare : Nat → Bool} {held : Bool}
set_option maxRecDepth 100000 in
theorem gl_of (n : Nat) (cs : List Value) (x : DataW H × List MemPlace) (h : DataW.trod enc Tryz.prog W base spare held n 59 cs = some x) : ∃ y : Gl, cs = y.cells ∧ y.At W := by
  obtain ⟨xs, m, _, _, hcl, hxl, hg⟩ := DataW.trod_struct Tryz.underlying59 h
  have hcl' : cs.length = 3 := hcl.trans (by kernel_rfl)
  match cs, hcl' with
  | [c0, c1, c2], _ =>
    have hxs : xs.length = 3 := hxl
    have g0 := hg 0 _ rfl
    have g1 := hg 1 _ rfl
    have g2 := hg 2 _ rfl
    rw [List.getElem?_eq_getElem (by omega)] at g0 g1 g2
    have eI : (Tryz.prog.cellsOf 3) = 1 := by kernel_rfl
    have eS : (Tryz.prog.cellsOf 9) = 1 := by kernel_rfl
    have eL : (Tryz.prog.cellsOf 51) = 1 := by kernel_rfl
    simp only [List.getElem_toArray, List.getElem_cons_zero, List.getElem_cons_succ] at g0 g1 g2
    obtain ⟨k, hk, _, wk⟩ := DataW.trod_int (cs := [c0]) Tryz.underlying3 (by simpa [eI] using g0)
    obtain ⟨s, hs, _, ws⟩ := DataW.trod_string (cs := [c1]) Tryz.underlying9 (by simpa [eS] using g1)
    obtain ⟨A, l, c, hv', hl'⟩ := open_lst types (v := c2) (by simpa [eL] using g2)
    obtain rfl : c0 = .int .i64 k := by simpa using hk
    obtain rfl : c1 = .string s := by simpa using hs
    subst hv'
    exact ⟨⟨k, s, A, c, l⟩, rfl, int_fits wk, ws, hl'⟩
set_option maxRecDepth 100000 in
theorem gls_of {n : Nat} {v : Value} {x : DataW H × List MemPlace} (h : DataW.trod enc Tryz.prog W base spare held n 23 [v] = some x) :
    ∃ (A : Option Addr) (l : List Gl) (c : Nat), v = .slice A l.length c ∧ GlLst W A l c := by
  rcases DataW.trod_slice Tryz.underlying23 h with ⟨hcs, _⟩ | ⟨a, len, cap, elems, rest, n', hn, hcs, _, _, hl, hm, hlen, hel, _⟩
  · obtain rfl : v = .slice none 0 0 := by simpa using hcs
    exact ⟨none, [], 0, rfl, GlLst.nil W⟩
  · obtain rfl : v = .slice (some a) len cap := by simpa using hcs
    have cT : Tryz.prog.cellsOf 59 = 3 := by kernel_rfl
    obtain ⟨f, hf⟩ := Deep.choose_lt (α := Gl) (p := fun i y => W.cells? base (a.add (i * 3)) 3 = some y.cells ∧ y.At W) (n := len) (fun i hi => by
      have h1 := hel i hi
      rw [cT, List.getElem?_eq_getElem (by omega)] at h1
      obtain ⟨cs', h2, h3⟩ := Option.bind_eq_some_iff.1 h1
      obtain ⟨y, rfl, hy'⟩ := gl_of _ _ _ h3
      exact ⟨y, h2, hy'⟩)
    have hll : ((List.range len).map f).length = len := by simp
    refine ⟨some a, (List.range len).map f, cap, by rw [hll], by rw [hll]; exact hl, hm, fun h0 => ?_⟩
    rw [hll] at h0
    obtain ⟨b, o, sp⟩ := a
    have c0 := (World.cells?_some (hf 0 h0).1).2.2 0 (by omega)
    obtain rfl : sp = none := by
      have e0 : ∃ u, (f 0).cells[0]? = some u := ⟨_, rfl⟩
      obtain ⟨u, e0⟩ := e0
      rw [e0] at c0
      simpa [Addr.add] using World.cell?_spot c0
    refine ⟨b, o, rfl, fun i hi => ?_⟩
    rw [hll] at hi
    have e : ((List.range len).map f).getD i default = f i := by simp [List.getD, hi]
    rw [e]
    refine ⟨fun j u hu => ?_, (hf i hi).2⟩
    have hj := Gl.cells_lt hu
    have := (World.cells?_some (hf i hi).1).2.2 j hj
    rw [add_plain, add_plain, hu] at this
    exact this
end
def glcells (l : List Gl) : List Value := l.flatMap Gl.cells
theorem glcells_len (l : List Gl) : (glcells l).length = l.length * 3 := by
  induction l with
  | nil => rfl
  | cons t r ih => simp only [glcells, List.flatMap_cons, List.length_append, Gl.cells_len, List.length_cons] at *; omega
theorem glcells_append (l m : List Gl) : glcells (l ++ m) = glcells l ++ glcells m := by simp [glcells]
theorem glcells_one (x : Gl) : ∀ v ∈ x.cells, v.oneCell' = true := by
  intro v hv
  simp only [Gl.cells, Gl.hd, List.cons_append, List.nil_append, List.mem_cons, List.not_mem_nil, or_false] at hv
  rcases hv with rfl | rfl | rfl <;> rfl
theorem glcells_all (l : List Gl) : ∀ u ∈ glcells l, u.oneCell' = true := by
  intro u hu
  obtain ⟨x, _, hx⟩ := List.mem_flatMap.1 hu
  exact glcells_one x u hx
theorem glcells_get (l : List Gl) {i j : Nat} (hi : i < l.length) (hj : j < 3) : (glcells l)[i * 3 + j]? = (l.getD i default).cells[j]? := by
  induction l generalizing i with
  | nil => simp at hi
  | cons t r ih =>
    simp only [glcells, List.flatMap_cons]
    cases i with
    | zero =>
      rw [List.getElem?_append_left (by rw [Gl.cells_len]; omega)]
      simp
    | succ i =>
      rw [List.getElem?_append_right (by rw [Gl.cells_len]; omega), Gl.cells_len, show (i + 1) * 3 + j - 3 = i * 3 + j by omega]
      simpa [glcells] using ih (by simpa using hi)
theorem gl_info : (Tryz.prog.info? 59).map (fun i => (i.zero, i.size, i.bytes)) = some (some (.agg #[.int .i64 0, .string ⟨#[]⟩, .slice none 0 0]), 3, 48) := by kernel_rfl
theorem GlRow.cells {w : World} {l : List Gl} {b o : Nat} (h : GlRow w l b o) : ∀ (j : Nat) (u : Value), (glcells l)[j]? = some u → w.cell? ((⟨b, o, none⟩ : Addr).add j) = some u := by
  intro j u hu
  have hj : j < l.length * 3 := by rw [← glcells_len]; exact (List.getElem?_eq_some_iff.1 hu).1
  have e : j = j / 3 * 3 + j % 3 := by omega
  rw [e, glcells_get l (by omega) (by omega)] at hu
  have := (h (j / 3) (by omega)).1 (j % 3) u hu
  rw [add_plain, e, ← Nat.add_assoc]
  exact this
def GlOwn (w : World) (g : Nat) (l : List Gl) : Prop := g < w.heap.size ∧ (∀ j, w.frozen? ⟨g, j, none⟩ = false) ∧ ∀ i j u, i < l.length → (l.getD i default).cells[j]? = some u → w.cell? ⟨g, i * 3 + j, none⟩ = some u
theorem GlOwn.below {w w' : World} {g : Nat} {l : List Gl} (h : GlOwn w g l) (hb : Below w.heap.size w w') : GlOwn w' g l :=
  ⟨Nat.lt_of_lt_of_le h.1 hb.size, fun j => (hb.frozen (p := ⟨g, j, none⟩) h.1).trans (h.2.1 j), fun i j u hi hu => (hb.cell (p := ⟨g, i * 3 + j, none⟩) h.1).trans (h.2.2 i j u hi hu)⟩
theorem GlOwn.store {w : World} {g : Nat} {l : List Gl} (h : GlOwn w g l) {i : Nat} (hi : i < l.length) (u : Gl) (hu : u.hd = (l.getD i default).hd) : GlOwn (w.setCell ⟨g, i * 3 + 2, none⟩ (.slice u.at_ u.args.length u.cap)) g (l.set i u) := by
  refine ⟨by simpa [World.setCell] using h.1, fun j => by rw [World.frozen?_setCell]; exact h.2.1 j, fun i' j v hi' hv => ?_⟩
  rw [List.length_set] at hi'
  by_cases e : i' = i
  · subst e
    have ev : (l.set i' u).getD i' default = u := by simp [List.getD, hi']
    rw [ev] at hv
    have hj := Gl.cells_lt hv
    by_cases hl : j = 2
    · subst hl
      rw [Gl.cells_sl] at hv
      injection hv with hv
      subst hv
      exact World.cell?_setCell_same' _ _ _ (by rw [h.2.2 i' 2 _ hi' (Gl.cells_sl _)]; rfl)
    · rw [World.cell?_setCell_other _ _ _ _ (fun e => by injection e with _ e _; omega)]
      rw [Gl.cells_hd _ (by omega), hu, ← Gl.cells_hd _ (by omega)] at hv
      exact h.2.2 i' j v hi' hv
  · have ev : (l.set i u).getD i' default = l.getD i' default := by simp [List.getD, Ne.symm e]
    rw [ev] at hv
    have hj := Gl.cells_lt hv
    rw [World.cell?_setCell_other _ _ _ _ (fun e => by injection e with _ e _; omega)]
    exact h.2.2 i' j v hi' hv
def GlLie (B : World → Prop) (lo : Nat) (X : Nat → Prop) (w : World) (t : Gl) : Prop := ∀ W, B W → Agree lo X w W → t.At W
section
variable {B : World → Prop} {lo : Nat} {X : Nat → Prop} {w w' : World} {t : Gl}
theorem GlLie.less {lo' : Nat} {Y : Nat → Prop} (h : GlLie B lo' Y w t) (hs : w.heap.size ≤ w'.heap.size) (hc : ∀ b, lo' ≤ b → b < w.heap.size → ¬ Y b → lo ≤ b ∧ ¬ X b ∧ w'.heap[b]? = w.heap[b]?) : GlLie B lo X w' t := fun W hB hW => h W hB (hW.less hs hc)
theorem GlLie.below (h : GlLie B lo X w t) (k : Below w.heap.size w w') : GlLie B lo X w' t := h.less k.size fun b h1 h2 h3 => ⟨h1, h3, k.block b h2⟩
theorem GlLie.low (h : GlLie B lo X w t) {lo' : Nat} (hl : lo' ≤ lo) : GlLie B lo' X w t := h.less (Nat.le_refl _) fun b h1 _ h3 => ⟨by omega, h3, rfl⟩
theorem GlLie.out {Y : Nat → Prop} (h : GlLie B lo Y w t) (hY : ∀ b, lo ≤ b → b < w.heap.size → X b → Y b) : GlLie B lo X w t := h.less (Nat.le_refl _) fun b h1 h2 h3 => ⟨h1, fun hx => h3 (hY b h1 h2 hx), rfl⟩
theorem GlLie.set (h : GlLie B lo X w t) {p : Addr} (hp : p.block < lo ∨ X p.block) (v : Value) : GlLie B lo X (w.setCell p v) t := h.less (by simp [World.setCell]) fun b h1 _ h3 => ⟨h1, h3, Below.heap_setCell _ _ _ _ (fun e => hp.elim (fun h => by omega) (fun h => h3 (e ▸ h)))⟩
theorem GlLie.new_is {T : Nat} (h : GlLie B lo No w t) (hT : T < lo) : GlLie B lo (Is T) w t := h.out fun b h1 _ h3 => by have : b = T := h3; omega
end
def GlMade (B : World → Prop) (n : Nat) (m : List Gl) (w : World) (e : Ending) (w' : World) : Prop :=
  ∃ A cap, ∃ cur : List Gl, e = .returned (.slice A n cap) ∧ cur.length = n ∧ cur.map Gl.key = m.map Gl.key ∧ (∀ W, B W → Agree w.heap.size No w' W → GlLst W A cur cap) ∧ Below w.heap.size w w'
end Go.Proofs.YtnghanpmmbcbbaaGreatDoor
namespace Go.Proofs.YtnghanpmmbcbbaaGreatDoor
open Go.RowKit
def GlCloned (w : World) (l : List Gl) (e : Ending) (w' : World) : Prop := ∃ A cap, e = .returned (.slice A l.length cap) ∧ l.length ≤ cap ∧ cap ≤ maxLen ∧ (0 < l.length → ∃ g, A = some ⟨g, 0, none⟩ ∧ w.heap.size ≤ g ∧ GlOwn w' g l) ∧ Below w.heap.size w w'
set_option maxHeartbeats 1000000 in
theorem clone_gl_at (l : List Gl) (b o c : Nat) (w : World) (h0 : 0 < l.length) (hl : GlRow w l b o) (hsz : l.length ≤ 1000000) :
    Calls Tryz.prog 83 #[.slice (some ⟨b, o, none⟩) l.length c] w (GlCloned w l) := by
  obtain ⟨i0, hi, hz0, hz1, hz2⟩ := info_parts gl_info
  have hn := fun (W : World) => Lib.run_eql_slice_nil (P := Tryz.prog) W 23 59 (some ⟨b, o, none⟩) l.length c 0 0 Tryz.underlying23
  go_enter Tryz.func83, Tryz.ntmps83
  have hl1 : GlRow (w.alloc (.cells #[] 59)) l b o := hl.below ((Below.refl _ _).alloc (Nat.le_refl _) _)
  have HC := Lib.hid hl1.cells
  have HO := Lib.hid (World.ownsRow_lit (base := w.heap.size) (e := 59) (size := 3) w #[] 0 (Nat.le_refl _) (Nat.zero_le _) rfl)
  clear hl hl1
  go_wp2_with (at_builtin; refine wpList_append_own _ rfl _ _ 23 rfl w.heap.size 59 i0 _ 3 48 Tryz.underlying23 hi hz0 hz1 hz2 rfl (by decide) _ 0 [] rfl HO.out ⟨b, o, none⟩ l.length c (glcells l) rfl (glcells_len l) HC.out (glcells_all l) (by unfold maxLen; omega) (by omega) (by simp) ?_; intro v' w1 hown1 hg1 _)
  have HG := Lib.hid hg1
  have HW := Lib.hid hown1
  clear hg1 hown1
  go_ret
  have hw := HW.out
  simp only [Nat.zero_add, List.nil_append] at hw
  obtain ⟨hlen, hv⟩ := hw
  rcases hv with ⟨_, h⟩ | ⟨g, cap, cur, rfl, hb, hheap, hle, hcap, _, hcur⟩
  · omega
  · have hw := HW.out
    simp only [Nat.zero_add, List.nil_append] at hw
    refine ⟨_, cap, rfl, hle, hcap, fun _ => ⟨g, rfl, hb, ⟨(own_lt hw g rfl).2, fun j => World.ownsRow.frozenAt hw j, fun i j u hi hu => ?_⟩⟩, ((Below.refl _ _).alloc (Nat.le_refl _) _).grown HG.out (by simp) (fun k hk => (World.ownsRow.lt HO.out k hk).1)⟩
    have hj := Gl.cells_lt hu
    rw [World.ownsRow.cellAt hw (i * 3 + j) (by omega)]
    exact (glcells_get l hi hj).trans hu
set_option maxHeartbeats 1000000 in
theorem clone_gl_none (A : Option Addr) (c : Nat) (w : World) :
    Calls Tryz.prog 83 #[.slice A 0 c] w (GlCloned w []) := by
  obtain ⟨i0, hi, hz0, hz1, hz2⟩ := info_parts gl_info
  have hn := fun (W : World) => Lib.run_eql_slice_nil (P := Tryz.prog) W 23 59 A 0 c 0 0 Tryz.underlying23
  cases A with
  | none =>
    go_enter Tryz.func83, Tryz.ntmps83
    go_wp2_with fail
    go_ret
    exact ⟨none, 0, rfl, Nat.le_refl _, Nat.zero_le _, fun h => by simp at h, Below.refl _ _⟩
  | some a =>
    go_enter Tryz.func83, Tryz.ntmps83
    have HO := Lib.hid (World.ownsRow_lit (base := w.heap.size) (e := 59) (size := 3) w #[] 0 (Nat.le_refl _) (Nat.zero_le _) rfl)
    go_wp2_with (at_builtin; refine wpList_append_own _ rfl _ _ 23 rfl w.heap.size 59 i0 _ 3 48 Tryz.underlying23 hi hz0 hz1 hz2 rfl (by decide) _ 0 [] rfl HO.out a 0 c [] rfl rfl (fun _ _ h => by simp at h) (fun _ h => by simp at h) (by unfold maxLen; omega) (by omega) (by simp) ?_; intro v' w1 hown1 hg1 _)
    have HG := Lib.hid hg1
    have HW := Lib.hid hown1
    clear hg1 hown1
    go_ret
    have hb : Below w.heap.size w w1 := ((Below.refl _ _).alloc (Nat.le_refl _) _).grown HG.out (by simp) (fun k hk => (World.ownsRow.lt HO.out k hk).1)
    rcases HW.out.2 with ⟨rfl, _⟩ | ⟨g, cap, cur, rfl, _, _, _, hcap, _, _⟩
    · exact ⟨none, 0, rfl, Nat.le_refl _, Nat.zero_le _, fun h => by simp at h, hb⟩
    · exact ⟨_, cap, rfl, Nat.zero_le _, hcap, fun h => by simp at h, hb⟩
def GlPut (gg : Int → Int) (l : List Gl) (g lo j : Nat) (wr : World) : Prop :=
  ∃ news : List Gl, news.length = j ∧ news.map Gl.key = (l.take j).map (fun x => (x.ren gg).key) ∧ GlOwn wr g (news ++ l.drop j) ∧ ∀ x ∈ news, GlLie Any lo (Is g) wr x
section
variable {gg : Int → Int} {l : List Gl} {g lo j : Nat} {wr : World}
theorem GlPut.below {w' : World} (h : GlPut gg l g lo j wr) (hb : Below wr.heap.size wr w') : GlPut gg l g lo j w' := by
  obtain ⟨news, hn, hs, hr, hk⟩ := h
  exact ⟨news, hn, hs, hr.below hb, fun x hx => (hk x hx).below hb⟩
theorem GlPut.cells (h : GlPut gg l g lo j wr) (hj : j < l.length) : ∀ i v, (l.getD j default).cells[i]? = some v → wr.cell? ⟨g, j * 3 + i, none⟩ = some v := by
  obtain ⟨news, hn, hs, hr, hk⟩ := h
  intro i v hv
  have hgx : (news ++ l.drop j).getD j default = l.getD j default := by
    simp [List.getD, List.getElem?_append_right (show news.length ≤ j by omega), hn]
  exact hr.2.2 j i v (by simp; omega) (by rw [hgx]; exact hv)
theorem GlPut.lt (h : GlPut gg l g lo j wr) : g < wr.heap.size := by
  obtain ⟨_, _, _, hr, _⟩ := h
  exact hr.1
theorem GlPut.free (h : GlPut gg l g lo j wr) : ∀ i, wr.frozen? ⟨g, i, none⟩ = false := by
  obtain ⟨_, _, _, hr, _⟩ := h
  exact hr.2.1
theorem GlPut.start (h : GlOwn wr g l) : GlPut gg l g lo 0 wr := ⟨[], rfl, rfl, by simpa using h, fun x hx => by cases hx⟩
theorem GlPut.done (h : GlPut gg l g lo l.length wr) (hlo : lo ≤ g) (cap : Nat) (hc : l.length ≤ cap) (hcm : cap ≤ maxLen) :
    ∃ news : List Gl, news.length = l.length ∧ news.map Gl.key = (l.map fun x => x.ren gg).map Gl.key ∧ ∀ W, Any W → Agree lo No wr W → GlLst W (some ⟨g, 0, none⟩) news cap := by
  obtain ⟨news, hn, hst, hr, hk⟩ := h
  rw [List.drop_length, List.append_nil] at hr
  rw [List.take_length] at hst
  refine ⟨news, hn, by rw [hst, List.map_map]; rfl, fun W _ hW => ⟨by omega, hcm, fun _ => ⟨g, 0, rfl, fun i hi => ⟨fun j u hu => ?_, ?_⟩⟩⟩⟩
  · rw [Nat.zero_add, hW.cell (p := ⟨g, i * 3 + j, none⟩) hlo hr.1 (fun h => h)]
    exact hr.2.2 i j u hi hu
  · exact hk _ (gl_getD_mem hi) W trivial fun b h1 h2 _ => hW b h1 h2 (fun h => h)
end
end Go.Proofs.YtnghanpmmbcbbaaGreatDoor
namespace Go.Proofs.YtnghanpmmbcbbaaGreatDoor
open Go.RowKit
theorem ref_var_at3 (n : Int) (w : World) : Calls Tryz.prog 32 #[.int .i64 n] w fun e w' => e = .returned (.agg #[.int .i64 1, .int .i64 n, .string ⟨#[]⟩, .slice none 0 0]) ∧ Below w.heap.size w w' := by
  go_enter Tryz.func32, Tryz.ntmps32
  go_wp2
  exact bodyPost_ret (v := .agg #[.int .i64 1, .int .i64 n, .string ⟨#[]⟩, .slice none 0 0]) (by simp [results, Tryz.results32, go_sem]) rfl ⟨rfl, (Below.refl _ _).alloc (Nat.le_refl _) _⟩
def BuiltR (w : World) (s : ByteArray) (l : List Tm) (e : Ending) (w' : World) : Prop :=
  ∃ g c : Nat, e = .returned (.agg #[.int .i64 2, .int .i64 0, .string s, .slice (some ⟨g, 0, none⟩) l.length c]) ∧ (Tm.mk 2 0 s (some ⟨g, 0, none⟩) c l).At w' ∧ Below w.heap.size w w'
end Go.Proofs.YtnghanpmmbcbbaaGreatDoor
namespace Go.Proofs.YtnghanpmmbcbbaaGreatDoor
open Go.RowKit
def numT (k n : Int) : Tm := .mk k n ByteArray.empty none 0 []
theorem shiftV_fits {f v : Int} (hv : Fits v) : Fits (shiftV f v) := by
  unfold shiftV
  split
  · unfold Fits; omega
  · exact hv
end Go.Proofs.YtnghanpmmbcbbaaGreatDoor
namespace Go.Proofs.YtnghanpmmbcbbaaGreatDoor
open Go.RowKit
end Go.Proofs.YtnghanpmmbcbbaaGreatDoor
namespace Go.Proofs.YtnghanpmmbcbbaaGreatDoor
open Go.RowKit
def FirstIdx (l : List Bd) (p : Bd → Bool) (w : World) (e : Ending) (w' : World) : Prop :=
  ∃ m : Int, ((m = -1 ∧ l.any p = false) ∨ ∃ i : Nat, i < l.length ∧ m = i ∧ p (l.getD i default) = true ∧ (l.take i).any p = false) ∧ e = .returned (.int .i64 m) ∧ Below w.heap.size w w'
end Go.Proofs.YtnghanpmmbcbbaaGreatDoor
namespace Go.Proofs.YtnghanpmmbcbbaaGreatDoor
open Go.RowKit Go.Sort
end Go.Proofs.YtnghanpmmbcbbaaGreatDoor
namespace Go.Proofs.YtnghanpmmbcbbaaGreatDoor
open Go.RowKit
set_option maxHeartbeats 400000 in
theorem ref_vars_of_at (us : List Tm) (U : Option Addr) (uq : Nat) (w : World) (hl : Lst w U us uq) (hsz : sizeL us ≤ 1000000) :
    Calls Tryz.prog 23 #[.slice U us.length uq] w (Grows w (addAll [] (occL us))) := by
  have hlen : us.length ≤ 9223372036854775807 := by have := hl.1; have := hl.2.1; unfold maxLen at *; omega
  go_enter Tryz.func23, Tryz.ntmps23
  go_wp2_with fail
  go_loopw [3, 4] (fun z i wr => ∃ j : Nat, j ≤ us.length ∧ i = .int .i64 j ∧ Hid (OwnI wr w.heap.size z (addAll [] (occL (us.take j)))) ∧ Below w.heap.size w wr) (fun _ i _ => us.length - (intOf i).toNat)
  case atStart => exact ⟨0, Nat.zero_le _, rfl, Lib.hid (OwnI.nil _ _), Below.refl _ _⟩
  case round =>
    obtain ⟨j, hj, rfl, HX, hb⟩ := hrel
    by_cases hlt : j < us.length
    · obtain ⟨b, o, rfl, ⟨c0, c1, c2, c3⟩, _⟩ := (hl.below hb).get hlt
      have hy := hl.mem (getD_mem hlt)
      have hn := sizeL_next hlt
      have ht := sizeL_take us (j + 1)
      have ho := occ_length.2 (us.take j)
      have ha := addAll_length [] (occL (us.take j))
      have HN := Lib.hid (occL_next hlt)
      generalize us.getD j default = y at *
      have hB : (addAll [] (occL (us.take j))).length + y.size ≤ 1000000 := by simp only [List.length_nil] at ha; omega
      have Q1 := Lib.hid (vars_at y _ (addAll [] (occL (us.take j))) w wr hy hb HX.out hB)
      clear hy hn ht ho ha hB
      obtain ⟨k', n', s', A', c', a'⟩ := y
      simp only [Tm.kind, Tm.num, Tm.name, Tm.at_, Tm.args, Tm.cap] at c0 c1 c2 c3
      go_wp2_with fail
      refine Q1.out.mono ?_
      rintro e w5 ⟨v5, rfl, hown5, hb5⟩
      go_wp2_with fail
      go_roundw
      case rel => exact ⟨j + 1, by omega, by go_num, Lib.hid (by rw [HN.out, addAll_append]; exact hown5), hb5⟩
      case measure => simp [intOf]; omega
    · obtain rfl : j = us.length := by omega
      go_wp2_with fail
      go_ret
      refine Grows.mk rfl ?_ hb
      have := HX.out
      rw [List.take_length] at this
      exact this
end Go.Proofs.YtnghanpmmbcbbaaGreatDoor
namespace Go.Proofs.YtnghanpmmbcbbaaGreatDoor
open Go.RowKit Go.Sort
def freeB (b : List Bd) (t : Tm) : Bool := t.occ.all fun v => (look b v).isNone
end Go.Proofs.YtnghanpmmbcbbaaGreatDoor
namespace Go.Proofs.YtnghanpmmbcbbaaGreatDoor
open Go.RowKit
abbrev From (w0 : World) : World → Prop := fun W => Below w0.heap.size w0 W
def RMade (w0 : World) (t : Tm) (w : World) (e : Ending) (w' : World) : Prop := ∃ u : Tm, e = .returned u.val ∧ u.strip = t.strip ∧ Lie (From w0) w.heap.size No w' u ∧ Below w.heap.size w w'
def RMadeN (w0 : World) (n : Nat) (m : List Tm) (w : World) (e : Ending) (w' : World) : Prop :=
  ∃ A cap, ∃ cur : List Tm, e = .returned (.slice A n cap) ∧ cur.length = n ∧ stripL cur = stripL m ∧ (∀ W, From w0 W → Agree w.heap.size No w' W → Lst W A cur cap) ∧ Below w.heap.size w w'
theorem rlie_row {B : World → Prop} {w w' : World} {k n : Int} {s : ByteArray} {A : Option Addr} {cap lo : Nat} {cur : List Tm} (hp : Fits k ∧ Fits n ∧ s.size ≤ maxLen) (h : ∀ W, B W → Agree lo No w' W → Lst W A cur cap) (hlo : w.heap.size ≤ lo) : Lie B w.heap.size No w' (.mk k n s A cap cur) :=
  fun W hB hW => (At_iff _ _).2 ⟨hp, h W hB fun b h1 h2 h3 => hW b (by omega) h2 h3⟩
theorem take_tm {l : List Tm} {k : Nat} (h : k < l.length) : l.take (k + 1) = l.take k ++ [l.getD k default] := by
  rw [List.take_add_one, List.getElem?_eq_getElem h]
  simp [List.getD, List.getElem?_eq_getElem h]
end Go.Proofs.YtnghanpmmbcbbaaGreatDoor
namespace Go.Proofs.YtnghanpmmbcbbaaGreatDoor
open Go.RowKit
set_option maxHeartbeats 1000000 in
theorem sum_at (n k : Int) (hn : Fits n) (hk : Fits k) (w : World) : Calls Tryz.prog 178 #[.int .i64 n, .int .i64 k] w fun e w' => e = .returned (.int .i64 (shiftV k n)) ∧ Below w.heap.size w w' := by
  unfold Fits at hk hn
  go_enter Tryz.func178, Tryz.ntmps178
  go_wp2_with fail
  all_goals
    go_ret
    refine ⟨congrArg (fun m => Ending.returned (.int .i64 m)) ?_, Below.refl _ _⟩
    unfold shiftV
    (try unfold wrap64 at *)
    first | (rw [if_neg (by omega)]; done) | (rw [if_pos (by omega)]; try omega)
set_option maxHeartbeats 4000000 in
set_option maxRecDepth 100000 in
theorem ref_shift_terms_at (w0 : World) (kk : Int) (l : List Tm) (A : Option Addr) (c : Nat) (w : World) (hl : Lst w A l c) (hsz : l.length ≤ 1000000)
    (ih : ∀ x ∈ l, ∀ W : World, Below w.heap.size w W → Calls Tryz.prog 145 #[x.val, .int .i64 kk] W (RMade w0 (x.rr (shiftV kk)) W)) :
    Calls Tryz.prog 104 #[.slice A l.length c, .int .i64 kk] w (RMadeN w0 l.length (rrL l (shiftV kk)) w) := by
  obtain ⟨i0, hi, hz0, hz1, hz2⟩ := info_parts term_info
  have HL := Lib.hid hl
  have HI := Lib.hid ih
  have HA := Lib.hid (fun l => rrL_map l (shiftV kk))
  clear hl ih
  go_enter Tryz.func104, Tryz.ntmps104
  go_wp2_with fail
  go_loopw [5, 6] (fun z i wr => ∃ (j : Nat) (acc : List Tm) (x : Value), j ≤ l.length ∧ i = .int .i64 j ∧ z = x ∧ Hid (RowT (From w0) w.heap.size wr x acc) ∧ Hid (stripL acc = stripL (rrL (l.take j) (shiftV kk))) ∧ Hid (acc.length = j) ∧ Below w.heap.size w wr) (fun _ i _ => l.length - (intOf i).toNat)
  case atStart => exact ⟨0, [], _, Nat.zero_le _, rfl, rfl, Lib.hid (RowT.nil _ _ _), Lib.hid rfl, Lib.hid rfl, Below.refl _ _⟩
  case round =>
    obtain ⟨j, acc, z, hj, rfl, hz, HK, HS, HAc, hbw⟩ := hrel
    have hz' := hz.symm
    subst hz'
    clear hz
    by_cases hlt : j < l.length
    · obtain ⟨b0, o, rfl, ⟨c0, c1, c2, c3⟩, _⟩ := (HL.out.below hbw).get hlt
      have HT := Lib.hid (take_tm hlt)
      have Q := Lib.hid (fun W (h : Below w.heap.size w W) => HI.out _ (getD_mem hlt) W h)
      have hal : acc.length ≤ 1000000 := by rw [HAc.out]; omega
      generalize l.getD j default = x at *
      obtain ⟨k', n', s', A', c', a'⟩ := x
      simp only [Tm.kind, Tm.num, Tm.name, Tm.at_, Tm.args, Tm.cap] at c0 c1 c2 c3
      go_wp2_with fail
      refine (Q.out _ hbw).mono ?_
      rintro e w2 ⟨u, rfl, hu, hlie, hb2⟩
      have HU := Lib.hid (lie_apart HK.out.1 hlie hbw.size (Nat.le_refl _))
      have HK2 := Lib.hid (HK.out.below hb2)
      have HS2 := Lib.hid (show stripL (acc ++ [u]) = stripL (rrL (l.take (j + 1)) (shiftV kk)) by
        rw [HT.out, HA.out, List.map_append, stripL_append, stripL_append, HS.out, HA.out]
        simp only [stripL, List.map_cons, List.map_nil, hu])
      have hbw2 := hbw.trans (hb2.mono hbw.size)
      have HOwn := Lib.hid (own_lt HK2.out.1)
      have hlo := hbw2.size
      clear hu hlie hb2 hbw c0 c1 c2 c3 HK HS Q
      obtain ⟨k2, n2, s2, A2, p2, a2⟩ := u
      go_wp2_with (at_builtin; refine wpList_append_lies _ rfl _ _ 51 rfl w.heap.size 69 i0 _ 4 56 Tryz.underlying51 hi hz0 hz1 hz2 rfl (by decide) _ acc.length (tcells acc) rfl (HK2.out.1.alloc _) ⟨w2.heap.size, 0, none⟩ 1 1 (Tm.cells (.mk k2 n2 s2 A2 p2 a2)) rfl rfl (tnews1 w2 (.mk k2 n2 s2 A2 p2 a2) _) (cells_one _) (by decide) (by unfold maxLen; omega) (by omega) (by simp; omega) _ rfl ?_; intro g cap w5 hown hg hat hglt)
      have HR5 := Lib.hid (HK2.out.next (u := .mk k2 n2 s2 A2 p2 a2) HU.out (below1 w2 _) hown hg hat)
      have HB5 : Below w.heap.size w w5 := (hbw2.alloc hbw2.size _).grown hg (by simp; omega) (fun k hk => (HOwn.out k hk).1)
      clear hown hg hat hglt
      go_wp2_with fail
      go_roundw
      case rel => exact ⟨j + 1, acc ++ [.mk k2 n2 s2 A2 p2 a2], _, by omega, by go_num, rfl, HR5, HS2, Lib.hid (by rw [List.length_append, HAc.out]; rfl), HB5⟩
      case measure => simp [intOf]; omega
    · obtain rfl : j = l.length := by omega
      have hK := HK.out
      obtain ⟨A', cz, hz, hcz⟩ := hK.form
      subst hz
      have HF := Lib.hid hK.lies
      have HE := Lib.hid (show stripL acc = stripL (rrL l (shiftV kk)) by rw [HS.out, List.take_length])
      rw [HAc.out]
      clear hK HK hlt HS hcz
      go_wp2_with fail
      go_ret
      exact ⟨A', cz, acc, rfl, HAc.out, HE.out, HF.out, hbw⟩
set_option maxHeartbeats 4000000 in
theorem ref_shift_at (w0 : World) (kk : Int) (hk : Fits kk) (t : Tm) : t.At w0 → t.nodes ≤ 1000000 → ∀ w : World, Below w0.heap.size w0 w → Calls Tryz.prog 145 #[t.val, .int .i64 kk] w (RMade w0 (t.rr (shiftV kk)) w) := by
  induction t using Tm.induct with
  | h k n s A c a ih =>
    intro hat hnodes w hw
    show Calls Tryz.prog 145 #[.agg #[.int .i64 k, .int .i64 n, .string s, .slice A a.length c], .int .i64 kk] w _
    have HT := Lib.hid hat
    have HP := Lib.hid ((At_iff _ _).1 hat).1
    simp only [Tm.kind, Tm.num, Tm.name] at HP
    obtain ⟨HB0, HB1⟩ := two_boxes w (.int .i64 k) (.int .i64 n) (.string s) (.slice A a.length c) (.int .i64 0) (.int .i64 0) (.string ⟨#[]⟩) (.slice none 0 0) 69
    have H0 := Lib.hid HB0
    have H1 := Lib.hid HB1
    clear HB0 HB1
    by_cases k2 : k = 2
    · subst k2
      have hl : Lst w0 A a c := hat.lst
      have hna : nodesL a ≤ 1000000 := by simp only [Tm.nodes] at hnodes; omega
      have hln : a.length ≤ 1000000 := by have := length_le_nodes a; omega
      have Q1 := Lib.hid (fun W (h : Below w.heap.size w W) => ref_shift_terms_at w0 kk a A c W ((hl.below hw).below h) hln (fun x hx W' h' => ih x hx (hl.mem hx) (by have := nodes_mem hx; omega) W' (hw.trans ((h.trans (h'.mono h.size)).mono hw.size))))
      rw [rr_fun]
      clear hat ih hl hna hnodes hln hw HT
      go_enter Tryz.func145, Tryz.ntmps145
      go_wp2_with fail
      refine (Q1.out _ (below2 _ _ _)).mono ?_
      rintro e w3 ⟨A', cap, cur, rfl, hcl, hst, hL, hb3⟩
      have HK3 := Lib.hid (H0.out.below hb3)
      have HM3 := Lib.hid (H1.out.below hb3)
      have HB3 := Lib.hid ((below2 w (.cells #[.int .i64 2, .int .i64 n, .string s, .slice A a.length c] 69) zeroBox).trans (hb3.mono (by simp; omega)))
      obtain ⟨hz3, p0, p1, p2, p3, f⟩ := HK3.out
      obtain ⟨hz, e0, e1, e2, e3, f'⟩ := HM3.out
      have f3 := f 3
      have f0' := f' 0
      have f1' := f' 1
      have f2' := f' 2
      have f3' := f' 3
      have HL := Lib.hid (show ∀ W, From w0 W → Agree (w.heap.size + 2) No w3 W → Lst W A' cur cap from fun W h1 hW => hL W h1 fun b' h1 h2 h3 => hW b' (by simpa using h1) h2 h3)
      have HS := Lib.hid hst
      have HC := Lib.hid hcl
      clear f f' hL hst hcl hb3 Q1 H0 H1
      go_wp2_with fail
      refine bodyPost_ret (v := .agg #[.int .i64 2, .int .i64 n, .string s, .slice A' a.length cap]) (by simp [results, Tryz.results145, go_sem, e0, e1, e2, e3]) rfl ?_
      refine ⟨.mk 2 n s A' cap cur, by rw [← HC.out]; rfl, ?_, rlie_row (lo := w.heap.size + 2) HP.out (fun W hBW hW => HL.out W hBW fun b' h1 h2 h3 => ?_) (by omega), set4c (HB3.out.setCell (Nat.le_refl _) _) (Nat.le_succ _)⟩
      · simp only [Tm.strip, HS.out]
      · rw [hW b' h1 (by rw [size_set4]; simpa [World.setCell] using h2) h3, heap_set4 _ (by omega), Below.heap_setCell _ _ _ _ (by show b' ≠ w.heap.size; omega)]
    · have k2' : (k == 2) = false := by simpa using k2
      by_cases k1 : k = 1
      · subst k1
        have Q := Lib.hid (fun W => sum_at n kk HP.out.2.1 hk W)
        have HFG := Lib.hid (shiftV_fits (f := kk) HP.out.2.1)
        have HX := Lib.hid (fun W (h : From w0 W) => show (Tm.mk 1 (shiftV kk n) s A c a).At W from (At_iff _ _).2 ⟨⟨HP.out.1, HFG.out, HP.out.2.2⟩, (HT.out.below h).lst⟩)
        rw [rr_var]
        generalize shiftV kk n = m at *
        clear hat ih hnodes hw HT k2 k2'
        go_enter Tryz.func145, Tryz.ntmps145
        go_wp2_with fail
        refine (Q.out _).mono ?_
        rintro e w1 ⟨rfl, hb2⟩
        have HKa := Lib.hid (H0.out.below hb2)
        have HM := Lib.hid (H1.out.below hb2)
        have HB := Lib.hid (((below2 w (.cells #[.int .i64 1, .int .i64 n, .string s, .slice A a.length c] 69) zeroBox).trans (hb2.mono (by simp; omega))).setCell (p := ⟨w.heap.size, 1, none⟩) (Nat.le_refl _) (.int .i64 m))
        obtain ⟨hz0, d0, d1, d2, d3, f⟩ := HKa.out
        obtain ⟨hz, e0, e1, e2, e3, f'⟩ := HM.out
        have f1 := f 1
        have f0' := f' 0
        have f1' := f' 1
        have f2' := f' 2
        have f3' := f' 3
        clear f f' hb2 H0 H1
        go_wp2_with fail
        refine bodyPost_ret (v := .agg #[.int .i64 1, .int .i64 m, .string s, .slice A a.length c]) (by simp [results, Tryz.results145, go_sem, e0, e1, e2, e3]) rfl ?_
        exact ⟨.mk 1 m s A c a, rfl, rfl, Lie.any HX.out, set4c HB.out (Nat.le_succ _)⟩
      · have k1' : (k == 1) = false := by simpa using k1
        rw [rr_else _ _ _ _ _ _ k1 k2]
        have HM := H1.out
        obtain ⟨hz, e0, e1, e2, e3, f'⟩ := HM
        have f0' := f' 0
        have f1' := f' 1
        have f2' := f' 2
        have f3' := f' 3
        have H0o := H0.out
        obtain ⟨_, p0, p1, p2, p3, _⟩ := H0o
        clear hat ih hnodes k1 k2 hw f'
        go_enter Tryz.func145, Tryz.ntmps145
        go_wp2_with fail
        refine bodyPost_ret (v := .agg #[.int .i64 k, .int .i64 n, .string s, .slice A a.length c]) (by simp [results, Tryz.results145, go_sem]) rfl ?_
        exact ⟨.mk k n s A c a, rfl, rfl, Lie.any fun W hW => HT.out.below hW, below2 _ _ _⟩
end Go.Proofs.YtnghanpmmbcbbaaGreatDoor
namespace Go.Proofs.YtnghanpmmbcbbaaGreatDoor
open Go.RowKit Go.Maps
def plc (l : List Int) (n : Int) : Int := if n ∈ l then place l n else 0
def numD (l : List Int) : DataW Unit := l.zipIdx.foldl (fun m p => m.put (.int .i64 p.1) (.lit (.int .i64 (p.2 : Nat)))) (.map [])
def Nums (w : World) (b : Nat) (l : List Int) : Prop := (∀ n ∈ l, Fits n) ∧ l.Nodup ∧ w.ownsMap Tryz.prog 3 (plainElem Tryz.prog 3) b l.length (numD l)
theorem Nums.keep {w w' : World} {b : Nat} {l : List Int} (h : Nums w b l) (hb : Below w.heap.size w w') : Nums w' b l :=
  ⟨h.1, h.2.1, h.2.2.kept (row := none) ⟨hb.os, hb.tape, hb.output, hb.size, fun k hk _ => hb.block k hk⟩ (by simp)⟩
def varsL (l : List Tm) : List Int := addAll [] (occL l)
theorem varsL_len (l : List Tm) : (varsL l).length ≤ nodesL l := by
  unfold varsL
  have h1 := addAll_length [] (occL l)
  have h2 := occ_length.2 l
  have h3 := size_nodes.2 l
  simp only [List.length_nil] at h1
  omega
theorem varsL_nodup (l : List Tm) : (varsL l).Nodup := addAll_nodup (occL l) [] List.nodup_nil
theorem mem_varsL (l : List Tm) (v : Int) : v ∈ varsL l ↔ v ∈ occL l := mem_occ_vars l v
end Go.Proofs.YtnghanpmmbcbbaaGreatDoor
namespace Go.Proofs.YtnghanpmmbcbbaaGreatDoor
open Go.RowKit Go.Maps
def NumR (n : Nat) (m : List Tm) (vs : List Int) (w : World) (e : Ending) (w' : World) : Prop :=
  ∃ A cap B cb, ∃ cur : List Tm, e = .returned (.tuple #[.slice A n cap, .slice B vs.length cb]) ∧ cur.length = n ∧ stripL cur = stripL m ∧ Lst w' A cur cap ∧ Ints w' B vs ∧ Below w.heap.size w w'
structure Filling (w : World) (P b : Nat) (B : Option Addr) (vs : List Int) (j : Nat) (W : World) : Prop where
  below : Below w.heap.size w W
  lo : w.heap.size ≤ b
  var : W.cell? ⟨P, 0, none⟩ = some (.map (some b))
  ne : P ≠ b
  ints : Ints W B vs
  nb : ∀ a, B = some a → a.block ≠ b
  nums : Nums W b (vs.take j)
theorem Filling.next {w : World} {P b : Nat} {B : Option Addr} {vs : List Int} {j : Nat} {W W' : World} (h : Filling w P b B vs j W) (hg : W.grownBy W' (some b)) (hn : Nums W' b (vs.take (j + 1))) : Filling w P b B vs (j + 1) W' := by
  refine ⟨h.below.grown hg h.below.size (fun k hk => by injection hk with hk; rw [← hk]; exact h.lo), h.lo, ?_, h.ne, fun h0 => ?_, h.nb, hn⟩
  · rw [World.cell?_of_block (a := ⟨P, 0, none⟩) (hg.block P (World.block_lt_of_cell? _ _ h.var) (by simpa using h.ne))]
    exact h.var
  · obtain ⟨g, o, e, hc⟩ := h.ints h0
    refine ⟨g, o, e, fun i hi => ?_⟩
    rw [World.cell?_of_block (a := ⟨g, o + i, none⟩) (hg.block g (World.block_lt_of_cell? _ _ (hc i hi)) (by have := h.nb _ e; simpa using this))]
    exact hc i hi
end Go.Proofs.YtnghanpmmbcbbaaGreatDoor
namespace Go.Proofs.YtnghanpmmbcbbaaGreatDoor
open Go.RowKit
theorem Held.grown {B : Nat} {w w' : World} {v0 v1 v2 v3 : Value} {row : Option Nat} (h : Held B w v0 v1 v2 v3) (hg : w.grownBy w' row) (hr : ∀ k, row = some k → B ≠ k) : Held B w' v0 v1 v2 v3 := by
  have hb : w'.heap[B]? = w.heap[B]? := hg.block B h.lt (fun e => hr B e.symm rfl)
  exact ⟨Nat.lt_of_lt_of_le h.lt hg.size, (World.cell?_of_block (a := ⟨B, 0, none⟩) hb).trans h.c0, (World.cell?_of_block (a := ⟨B, 1, none⟩) hb).trans h.c1, (World.cell?_of_block (a := ⟨B, 2, none⟩) hb).trans h.c2, (World.cell?_of_block (a := ⟨B, 3, none⟩) hb).trans h.c3, fun j => (World.frozen?_of_block (a := ⟨B, j, none⟩) hb).trans (h.free j)⟩
end Go.Proofs.YtnghanpmmbcbbaaGreatDoor
namespace Go.Proofs.YtnghanpmmbcbbaaGreatDoor
open Go.ChangeShapes Go.WideShapes Go.ChangeAt Go.RowKit
section
variable {H : Type} {enc : TypeId × Value → H} {W : World} {base : Nat} {spare : Nat → Bool} {held : Bool}
end
end Go.Proofs.YtnghanpmmbcbbaaGreatDoor
namespace Go.Proofs.YtnghanpmmbcbbaaGreatDoor
open Go.ChangeShapes Go.WideShapes Go.ChangeAt Go.RowKit
end Go.Proofs.YtnghanpmmbcbbaaGreatDoor
namespace Go.Proofs.YtnghanpmmbcbbaaGreatDoor
open Go.ChangeShapes Go.WideShapes Go.ChangeAt Go.RowKit
end Go.Proofs.YtnghanpmmbcbbaaGreatDoor
namespace Go.Proofs.YtnghanpmmbcbbaaGreatDoor
open Go.ChangeShapes Go.WideShapes Go.ChangeAt Go.RowKit
set_option linter.unusedVariables false
def weighN (s : ByteArray) (l : List Tm) (m : Int) : Int := if m < 0 then m else weigh l (m - 1 - (s.size : Int) / 8) 64
theorem weigh64 (l : List Tm) (A : Option Addr) (c : Nat) (left : Int) (w : World) (h : Lst w A l c) (h1 : -4611686018427387904 ≤ left) (h2 : left ≤ 1000000) :
    Calls Tryz.prog 47 #[.slice A l.length c, .int .i64 left, .int .i64 64] w fun e w' => e = .returned (.int .i64 (weigh l left 64)) ∧ ∃ n, w' = w.drewN n := weigh_at 64 l A c left w h (Nat.le_refl _) h1 h2
theorem weighN_hi (s : ByteArray) (l : List Tm) (m : Int) : weighN s l m ≤ m ∨ weighN s l m = -1 := by
  unfold weighN
  split
  · omega
  · unfold weigh
    split
    · omega
    · have := weighL_hi l (m - 1 - (s.size : Int) / 8) 64 (by omega)
      omega
theorem weighN_size {s : ByteArray} {l : List Tm} {m : Int} (h : 0 ≤ weighN s l m) : (nodesL l : Int) ≤ m := by
  unfold weighN at h
  split at h
  · omega
  · have := weigh_nodes h
    omega
end Go.Proofs.YtnghanpmmbcbbaaGreatDoor
namespace Go.Proofs.YtnghanpmmbcbbaaGreatDoor
open Go.ChangeShapes Go.WideShapes Go.ChangeAt Go.RowKit
end Go.Proofs.YtnghanpmmbcbbaaGreatDoor
namespace Go.Proofs.YtnghanpmmbcbbaaGreatDoor
open Go.RowKit
def Ext (w v : World) : Prop := Below w.heap.size w v
theorem Ext.refl (w : World) : Ext w w := Below.refl _ _
theorem Ext.trans {u v w : World} (h1 : Ext u v) (h2 : Ext v w) : Ext u w := Below.trans h1 (h2.mono h1.size)
theorem Ext.al (w : World) (o : Obj) : Ext w (w.alloc o) := (Below.refl _ w).alloc (Nat.le_refl _) o
theorem Ext.drew (w : World) : Ext w w.drew := (Below.refl _ w).drew
theorem Ext.al2 (w : World) (o o2 : Obj) : Ext w ((w.alloc o).alloc o2) := (Ext.al _ _).trans (Ext.al _ _)
theorem ext_row {u v : World} {cs : Array Value} {T : TypeId} (h : Ext (u.alloc (.cells cs T)) v) (j : Nat) {x : Value} (hx : cs[j]? = some x) : v.cell? ⟨u.heap.size, j, none⟩ = some x :=
  (h.cell (p := ⟨u.heap.size, j, none⟩) (by simp)).trans ((World.cell?_alloc_at _ _ _ _ rfl).trans hx)
abbrev exV (n : Int) : Tm := .mk 1 n ⟨#[]⟩ none 0 []
abbrev exF (b : UInt8) (g c : Nat) (l : List Tm) : Tm := .mk 2 0 ⟨#[b]⟩ (some ⟨g, 0, none⟩) c l
def FunR (b : UInt8) (l : List Tm) (w : World) (e : Ending) (w' : World) : Prop :=
  ∃ g c : Nat, e = .returned (.agg #[.int .i64 2, .int .i64 0, .string ⟨#[b]⟩, .slice (some ⟨g, 0, none⟩) l.length c]) ∧ (exF b g c l).At w' ∧ Ext w w'
def NumE (W : World) (e : Ending) (w' : World) : Prop := ∃ A cap B cb, ∃ cur : List Tm, e = .returned (.tuple #[.slice A 2 cap, .slice B 2 cb]) ∧ cur.length = 2 ∧ stripL cur = stripL [exF 102 0 0 [exV 0, exV 1], exV 0] ∧ Lst w' A cur cap ∧ Ints w' B [5, 2] ∧ Ext W w'
end Go.Proofs.YtnghanpmmbcbbaaGreatDoor
namespace Go.Proofs.YtnghanpmmbcbbaaGreatDoor
open Go.ChangeShapes Go.WideShapes Go.ChangeAt Go.RowKit
structure Rl where
  name : ByteArray
  kA : Option Addr
  kc : Nat
  keep : List Am
  rA : Option Addr
  rc : Nat
  remove : List Am
  gA : Option Addr
  gc : Nat
  guard : List Gl
  bA : Option Addr
  bc : Nat
  body : List Gl
  vars : Int
abbrev Rl.val (r : Rl) : Value := .agg #[.string r.name, .slice r.kA r.keep.length r.kc, .slice r.rA r.remove.length r.rc, .slice r.gA r.guard.length r.gc, .slice r.bA r.body.length r.bc, .int .i64 r.vars]
structure Rl.At (w : World) (r : Rl) : Prop where
  name : r.name.size ≤ maxLen
  keep : AmLst w r.kA r.keep r.kc
  remove : AmLst w r.rA r.remove r.rc
  guard : GlLst w r.gA r.guard r.gc
  body : GlLst w r.bA r.body r.bc
  vars : Fits r.vars
theorem Rl.At.below {w w' : World} {r : Rl} (h : r.At w) (hb : Below w.heap.size w w') : r.At w' := ⟨h.name, h.keep.below hb, h.remove.below hb, h.guard.below hb, h.body.below hb, h.vars⟩
structure Rl.Small (r : Rl) : Prop where
  k1 : r.keep.length ≤ 1000000
  k2 : ∀ x ∈ r.keep, nodesL x.args ≤ 1000000
  r1 : r.remove.length ≤ 1000000
  r2 : ∀ x ∈ r.remove, nodesL x.args ≤ 1000000
  g1 : r.guard.length ≤ 1000000
  g2 : ∀ x ∈ r.guard, nodesL x.args ≤ 1000000
  b1 : r.body.length ≤ 1000000
  b2 : ∀ x ∈ r.body, nodesL x.args ≤ 1000000
structure Like (fA : Am → Am) (fG : Gl → Gl) (u r : Rl) : Prop where
  name : u.name = r.name
  vars : u.vars = r.vars
  kl : u.keep.length = r.keep.length
  keep : u.keep.map Am.key = (r.keep.map fA).map Am.key
  rl : u.remove.length = r.remove.length
  remove : u.remove.map Am.key = (r.remove.map fA).map Am.key
  gl : u.guard.length = r.guard.length
  guard : u.guard.map Gl.key = (r.guard.map fG).map Gl.key
  bl : u.body.length = r.body.length
  body : u.body.map Gl.key = (r.body.map fG).map Gl.key
def RlMade (fA : Am → Am) (fG : Gl → Gl) (r : Rl) (w : World) (e : Ending) (w' : World) : Prop := ∃ u : Rl, e = .returned u.val ∧ Like fA fG u r ∧ u.At w' ∧ Below w.heap.size w w'
section
variable {H : Type} {enc : TypeId × Value → H} {W : World} {base : Nat} {spare : Nat → Bool} {held : Bool}
set_option maxRecDepth 100000 in
theorem open_rl {r : Reach} {b0 : Nat} {v : Value} {d : DataW H} {p : List MemPlace} (hv : Value.okWide Tryz.prog W r b0 25 v) (h : DataW.Trod enc Tryz.prog W base spare held 25 v d p) :
    ∃ u : Rl, v = u.val ∧ u.At W := by
  obtain ⟨cs, rfl, hsz⟩ := okWide_struct Tryz.underlying25 hv
  obtain ⟨fuel, hf⟩ := h
  obtain ⟨xs, m, _, _, hcl, hxl, hg⟩ := DataW.trod_struct Tryz.underlying25 hf
  have hcl' : cs.toList.length = 6 := hcl.trans (by kernel_rfl)
  have hcs : (Value.agg cs).cells.toList = cs.toList := rfl
  rw [hcs] at hg
  match hl : cs.toList, hcl' with
  | [c0, c1, c2, c3, c4, c5], _ =>
    rw [hl] at hg
    have hxs : xs.length = 6 := hxl
    have g0 := hg 0 _ rfl
    have g1 := hg 1 _ rfl
    have g2 := hg 2 _ rfl
    have g3 := hg 3 _ rfl
    have g4 := hg 4 _ rfl
    have g5 := hg 5 _ rfl
    rw [List.getElem?_eq_getElem (by omega)] at g0 g1 g2 g3 g4 g5
    have e0 : (Tryz.prog.cellsOf 9) = 1 := by kernel_rfl
    have e1 : (Tryz.prog.cellsOf 22) = 1 := by kernel_rfl
    have e2 : (Tryz.prog.cellsOf 23) = 1 := by kernel_rfl
    have e3 : (Tryz.prog.cellsOf 3) = 1 := by kernel_rfl
    simp only [List.getElem_toArray, List.getElem_cons_zero, List.getElem_cons_succ] at g0 g1 g2 g3 g4 g5
    obtain ⟨s, hs, _, ws⟩ := DataW.trod_string (cs := [c0]) Tryz.underlying9 (by simpa [e0] using g0)
    obtain ⟨A1, l1, n1, hv1, hl1⟩ := ams_of (v := c1) (by simpa [e1] using g1)
    obtain ⟨A2, l2, n2, hv2, hl2⟩ := ams_of (v := c2) (by simpa [e1] using g2)
    obtain ⟨A3, l3, n3, hv3, hl3⟩ := gls_of (v := c3) (by simpa [e2] using g3)
    obtain ⟨A4, l4, n4, hv4, hl4⟩ := gls_of (v := c4) (by simpa [e2] using g4)
    obtain ⟨k, hk, _, wk⟩ := DataW.trod_int (cs := [c5]) Tryz.underlying3 (by simpa [e3] using g5)
    obtain rfl : c0 = .string s := by simpa using hs
    obtain rfl : c5 = .int .i64 k := by simpa using hk
    subst hv1 hv2 hv3 hv4
    refine ⟨⟨s, A1, n1, l1, A2, n2, l2, A3, n3, l3, A4, n4, l4, k⟩, ?_, ⟨ws, hl1, hl2, hl3, hl4, int_fits wk⟩⟩
    rw [← Array.toArray_toList (xs := cs), hl]
end
structure HeldL (B : Nat) (w : World) (vs : List Value) : Prop where
  lt : B < w.heap.size
  cell : ∀ j v, vs[j]? = some v → w.cell? ⟨B, j, none⟩ = some v
  free : ∀ j, w.frozen? ⟨B, j, none⟩ = false
theorem HeldL.below {B : Nat} {w w' : World} {vs : List Value} (h : HeldL B w vs) (hb : Below w.heap.size w w') : HeldL B w' vs :=
  ⟨Nat.lt_of_lt_of_le h.lt hb.size, fun j v hv => keepv hb (h.cell j v hv), fun j => (hb.frozen (p := ⟨B, j, none⟩) h.lt).trans (h.free j)⟩
theorem heldL_new (w : World) (vs : List Value) (T : TypeId) : HeldL w.heap.size (w.alloc (.cells vs.toArray T)) vs :=
  ⟨by simp, fun j v hv => by rw [World.cell?_alloc_at _ _ _ _ rfl, List.getElem?_toArray]; exact hv, fun j => World.frozen?_alloc_at _ _ _ _ rfl⟩
theorem two_boxesL (w : World) (vs us : List Value) (T : TypeId) : HeldL w.heap.size ((w.alloc (.cells vs.toArray T)).alloc (.cells us.toArray T)) vs ∧ HeldL (w.heap.size + 1) ((w.alloc (.cells vs.toArray T)).alloc (.cells us.toArray T)) us := by
  have h := heldL_new (w.alloc (.cells vs.toArray T)) us T
  rw [World.size_alloc] at h
  exact ⟨(heldL_new w vs T).below (below1 _ _), h⟩
theorem HeldL.set {B : Nat} {w : World} {vs : List Value} (h : HeldL B w vs) {j : Nat} (hj : j < vs.length) (v : Value) : HeldL B (w.setCell ⟨B, j, none⟩ v) (vs.set j v) := by
  refine ⟨by simpa [World.setCell] using h.lt, fun i u hu => ?_, fun i => by rw [World.frozen?_setCell]; exact h.free i⟩
  by_cases e : i = j
  · subst e
    rw [List.getElem?_set_self hj] at hu
    injection hu with hu
    subst hu
    exact World.cell?_setCell_same' _ _ _ (by rw [h.cell i vs[i] (List.getElem?_eq_getElem hj)]; rfl)
  · rw [List.getElem?_set_ne (Ne.symm e)] at hu
    rw [World.cell?_setCell_other _ _ _ _ (fun e2 => by injection e2 with _ e2 _; omega)]
    exact h.cell i u hu
theorem HeldL.other {B : Nat} {w : World} {vs : List Value} (h : HeldL B w vs) {p : Addr} (hp : p.block ≠ B) (v : Value) : HeldL B (w.setCell p v) vs :=
  ⟨by simpa [World.setCell] using h.lt, fun i u hu => by rw [World.cell?_setCell_other _ _ _ _ (fun e => hp (by rw [e]))]; exact h.cell i u hu, fun i => by rw [World.frozen?_setCell]; exact h.free i⟩
def LP (P : World → Prop) (lo : Nat) (w : World) : Prop := ∀ W, Agree lo No w W → P W
section
variable {P : World → Prop} {lo lo' : Nat} {w w' : World}
theorem LP.low (h : LP P lo w) (hl : lo' ≤ lo) : LP P lo' w := fun W hW => h W fun b h1 h2 h3 => hW b (by omega) h2 h3
theorem LP.below (h : LP P lo w) (hb : Below w.heap.size w w') : LP P lo w' := fun W hW => h W fun b h1 h2 h3 => (hW b h1 (Nat.lt_of_lt_of_le h2 hb.size) h3).trans (hb.block b h2)
theorem LP.set (h : LP P lo w) {p : Addr} (hp : p.block < lo) (v : Value) : LP P lo (w.setCell p v) := fun W hW => h W fun b h1 h2 h3 => (hW b h1 (by simpa [World.setCell] using h2) h3).trans (Below.heap_setCell _ _ _ _ (by omega))
theorem LP.now (h : LP P lo w) : P w := h w (Agree.refl _ _ _)
end
