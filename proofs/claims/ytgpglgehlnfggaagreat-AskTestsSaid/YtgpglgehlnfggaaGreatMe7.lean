/-
  SuRow.
  AkGl.
  AkSortP.
  TmGreat.
  AkGreat.
  SuStab.
  SuSwap.
-/
import Derived.Test.YtgpglgehlnfggaaGreatMe6
import Derived.Deep.AppendLies
import Derived.Test.YtgpglgehlnfggaaGreatMe5
import Derived.Test.YtgpglgehlnfggaaGreatMe3
import Derived.Deep.AppendSrc
import Derived.Test.YtgpglgehlnfggaaGreatMe1
import Derived.Test.YtgpglgehlnfggaaGreatMe2
import Derived.BigQuiet
import Derived.Deep.QuietTactic
import Derived.BigRegion
namespace Go.Proofs.YtgpglgehlnfggaaGreat
open Go.RowKit
def bcells (l : List Bd) : List Value := l.flatMap Bd.cells
theorem bcells_len (l : List Bd) : (bcells l).length = l.length * 5 := by
  induction l with
  | nil => rfl
  | cons t r ih => simp only [bcells, List.flatMap_cons, List.length_append, bcells_length, List.length_cons] at *; omega
theorem bcells_append (l m : List Bd) : bcells (l ++ m) = bcells l ++ bcells m := by simp [bcells]
theorem bcells_one (x : Bd) : ∀ v ∈ x.cells, v.oneCell' = true := by
  intro v hv
  simp only [Bd.cells, List.mem_cons, List.not_mem_nil, or_false] at hv
  rcases hv with rfl | rfl | rfl | rfl | rfl <;> rfl
theorem bcells_get (l : List Bd) {i j : Nat} (hi : i < l.length) (hj : j < 5) : (bcells l)[i * 5 + j]? = (l.getD i default).cells[j]? := by
  induction l generalizing i with
  | nil => simp at hi
  | cons t r ih =>
    simp only [bcells, List.flatMap_cons]
    cases i with
    | zero =>
      rw [List.getElem?_append_left (by rw [bcells_length]; omega)]
      simp
    | succ i =>
      rw [List.getElem?_append_right (by rw [bcells_length]; omega), bcells_length, show (i + 1) * 5 + j - 5 = i * 5 + j by omega]
      simpa [bcells] using ih (by simpa using hi)
theorem bind_info : (Tryz.prog.info? 47).map (fun i => (i.zero, i.size, i.bytes)) = some (some (.agg #[.int .i64 0, .int .i64 0, .int .i64 0, .string ⟨#[]⟩, .slice none 0 0]), 5, 64) := by kernel_rfl
theorem own_lt {w : World} {base : Nat} {e : TypeId} {size : Nat} {v : Value} {n : Nat} {xs : List Value} (h : w.ownsRow base e size v n xs) : ∀ k, v.ownBlock = some k → base ≤ k ∧ k < w.heap.size := by
  intro k hk
  rcases h.2 with ⟨rfl, _⟩ | ⟨g, cap, cur, rfl, hb, hg, _⟩
  · simp [Value.ownBlock] at hk
  · simp only [Value.ownBlock, Option.some.injEq] at hk
    subst hk
    refine ⟨hb, ?_⟩
    rcases Nat.lt_or_ge g w.heap.size with h | h
    · exact h
    · rw [Array.getElem?_eq_none h] at hg; cases hg
theorem own_below {w w' : World} {base : Nat} {e : TypeId} {size : Nat} {v : Value} {n : Nat} {xs : List Value} (h : w.ownsRow base e size v n xs) (hb : Below w.heap.size w w') : w'.ownsRow base e size v n xs :=
  World.ownsRow.kept (row := none) h ⟨hb.os, hb.tape, hb.output, hb.size, fun k hk _ => hb.block k hk⟩ (by
    rcases h.2 with ⟨rfl, _⟩ | ⟨g, cap, cur, rfl, _⟩
    · exact .inl rfl
    · exact .inr (by simp [Value.ownBlock]))
def RowB (B : World → Prop) (lo : Nat) (w : World) (z : Value) (acc : List Bd) : Prop :=
  w.ownsRow lo 47 5 z acc.length (bcells acc) ∧ ∀ x ∈ acc, Fits x.var ∧ Lie B lo (fun k => z.ownBlock = some k) w x.tm
section
variable {B : World → Prop} {lo : Nat} {w w' : World} {z : Value} {acc : List Bd}
theorem RowB.nil (B : World → Prop) (lo : Nat) (w : World) : RowB B lo w (.slice none 0 0) [] := ⟨⟨rfl, .inl ⟨rfl, rfl⟩⟩, fun x hx => by cases hx⟩
theorem RowB.below (h : RowB B lo w z acc) (hb : Below w.heap.size w w') : RowB B lo w' z acc := ⟨own_below h.1 hb, fun x hx => ⟨(h.2 x hx).1, (h.2 x hx).2.below hb⟩⟩
theorem RowB.next {g cap : Nat} {w2 w3 w4 : World} {u : Bd} (h : RowB B lo w2 z acc) (hf : Fits u.var) (hu : Lie B lo (fun k => z.ownBlock = some k) w2 u.tm) (hb : Below w2.heap.size w2 w3)
    (hown : w4.ownsRow lo 47 5 (.slice (some ⟨g, 0, none⟩) (acc.length + 1) cap) (acc.length + 1) (bcells acc ++ u.cells)) (hg : w3.grownBy w4 z.ownBlock) (hat : z.ownBlock = some g ∨ g = w3.heap.size) :
    RowB B lo w4 (.slice (some ⟨g, 0, none⟩) (acc.length + 1) cap) (acc ++ [u]) := by
  refine ⟨by rw [List.length_append, bcells_append]; simpa [bcells] using hown, fun x hx => ?_⟩
  have hx2 : Fits x.var ∧ Lie B lo (fun k => z.ownBlock = some k) w2 x.tm := by
    rcases List.mem_append.1 hx with hx | hx
    · exact h.2 x hx
    · rw [List.mem_singleton.1 hx]; exact ⟨hf, hu⟩
  refine ⟨hx2.1, (hx2.2.below hb).less hg.size fun b h1 h2 h3 => ⟨h1, fun e => ?_, hg.block b h2 (fun e => h3 e.symm)⟩⟩
  have e' : g = b := by simpa [Value.ownBlock] using e
  rcases hat with h | h
  · exact h3 (by rw [h, e'])
  · omega
theorem lie_apart {x : Tm} {B : World → Prop} {lo lo' : Nat} {w0 w2 : World} {z : Value} {n : Nat} {e : TypeId} {size : Nat} {xs : List Value} (hown : w0.ownsRow lo e size z n xs) (hx : Lie B lo' No w2 x) (h1 : lo ≤ lo') (h2 : w0.heap.size ≤ lo') : Lie B lo (fun k => z.ownBlock = some k) w2 x :=
  (hx.out (X := fun k => z.ownBlock = some k) (fun b h3 _ h4 => by have := (own_lt hown b h4).2; omega)).low h1
theorem RowB.form (h : RowB B lo w z acc) : ∃ A c, z = .slice A acc.length c ∧ acc.length ≤ c ∧ (0 < acc.length → ∃ g, A = some ⟨g, 0, none⟩ ∧ lo ≤ g) := by
  rcases h.1.2 with ⟨rfl, h1⟩ | ⟨g, cap, cur, rfl, hb, hg, hle, _⟩
  · exact ⟨none, 0, by rw [h1], by omega, fun h => by omega⟩
  · exact ⟨_, cap, rfl, hle, fun _ => ⟨g, rfl, hb⟩⟩
theorem RowB.blst {A : Option Addr} {c : Nat} (h : RowB B lo w (.slice A acc.length c) acc) (hB : B w) : BLst w A acc c := by
  have hl := bcells_len acc
  rcases h.1.2 with ⟨e, h1⟩ | ⟨g, cap, cur, e, hb, hg, hle, hcap, hcs, hcur⟩
  · injection e with e1 _ e3
    obtain rfl : acc = [] := List.length_eq_zero_iff.1 h1
    rw [e1, e3]; exact BLst.nil w
  · injection e with e1 _ e3
    subst e1 e3
    refine ⟨hle, hcap, fun h0 => ⟨g, 0, rfl, fun i hi => ⟨fun j u hu => ?_, (h.2 _ (bgetD_mem hi)).1, (h.2 _ (bgetD_mem hi)).2.at hB⟩⟩⟩
    have hj := bcells_lt hu
    have hc := World.ownsRow.cellAt h.1 (i * 5 + j) (by omega)
    rw [Nat.zero_add, hc]
    exact (bcells_get acc hi hj).trans hu
end
theorem bnews1 (w : World) (u : Bd) : ∀ j v, u.cells[j]? = some v → (w.alloc (boxB u)).cell? ((⟨w.heap.size, 0, none⟩ : Addr).add j) = some v := by
  intro j v hv
  rw [add_plain, Nat.zero_add, World.cell?_alloc_at _ _ _ _ rfl, ← hv, show (#[Value.int .i64 u.var, .int .i64 u.tm.kind, .int .i64 u.tm.num, .string u.tm.name, .slice u.tm.at_ u.tm.args.length u.tm.cap] : Array Value) = u.cells.toArray from rfl, List.getElem?_toArray]
theorem tcells_append (l m : List Tm) : tcells (l ++ m) = tcells l ++ tcells m := by simp [tcells]
theorem cells_one (u : Tm) : ∀ v ∈ u.cells, v.oneCell' = true := by
  intro v hv
  simp only [Tm.cells, List.mem_cons, List.not_mem_nil, or_false] at hv
  rcases hv with rfl | rfl | rfl | rfl <;> rfl
def RowT (B : World → Prop) (lo : Nat) (w : World) (z : Value) (acc : List Tm) : Prop :=
  w.ownsRow lo 40 4 z acc.length (tcells acc) ∧ ∀ x ∈ acc, Lie B lo (fun k => z.ownBlock = some k) w x
section
variable {B : World → Prop} {lo : Nat} {w w' : World} {z : Value} {acc : List Tm}
theorem RowT.nil (B : World → Prop) (lo : Nat) (w : World) : RowT B lo w (.slice none 0 0) [] := ⟨⟨rfl, .inl ⟨rfl, rfl⟩⟩, fun x hx => by cases hx⟩
theorem RowT.below (h : RowT B lo w z acc) (hb : Below w.heap.size w w') : RowT B lo w' z acc := ⟨own_below h.1 hb, fun x hx => (h.2 x hx).below hb⟩
theorem RowT.next {g cap : Nat} {w2 w3 w4 : World} {u : Tm} (h : RowT B lo w2 z acc) (hu : Lie B lo (fun k => z.ownBlock = some k) w2 u) (hb : Below w2.heap.size w2 w3)
    (hown : w4.ownsRow lo 40 4 (.slice (some ⟨g, 0, none⟩) (acc.length + 1) cap) (acc.length + 1) (tcells acc ++ u.cells)) (hg : w3.grownBy w4 z.ownBlock) (hat : z.ownBlock = some g ∨ g = w3.heap.size) :
    RowT B lo w4 (.slice (some ⟨g, 0, none⟩) (acc.length + 1) cap) (acc ++ [u]) := by
  refine ⟨by rw [List.length_append, tcells_append]; simpa [tcells] using hown, fun x hx => ?_⟩
  have hx2 : Lie B lo (fun k => z.ownBlock = some k) w2 x := by
    rcases List.mem_append.1 hx with hx | hx
    · exact h.2 x hx
    · rw [List.mem_singleton.1 hx]; exact hu
  refine (hx2.below hb).less hg.size fun b h1 h2 h3 => ⟨h1, fun e => ?_, hg.block b h2 (fun e => h3 e.symm)⟩
  have e' : g = b := by simpa [Value.ownBlock] using e
  rcases hat with h | h
  · exact h3 (by rw [h, e'])
  · omega
theorem RowT.form (h : RowT B lo w z acc) : ∃ A c, z = .slice A acc.length c ∧ acc.length ≤ c := by
  rcases h.1.2 with ⟨rfl, h1⟩ | ⟨g, cap, cur, rfl, hb, hg, hle, _⟩
  · exact ⟨none, 0, by rw [h1], by omega⟩
  · exact ⟨_, cap, rfl, hle⟩
theorem RowT.lies {A : Option Addr} {c n : Nat} (h : RowT B lo w (.slice A n c) acc) : ∀ W, B W → Agree lo No w W → Lst W A acc c := by
  intro W hB hW
  have hl := tcells_length acc
  rcases h.1.2 with ⟨e, h1⟩ | ⟨g, cap, cur, e, hb, hg, hle, hcap, hcs, hcur⟩
  · injection e with e1 _ e3
    obtain rfl : acc = [] := List.length_eq_zero_iff.1 h1
    rw [e1, e3]; exact Lst.nil W
  · injection e with e1 e2 e3
    subst e1 e2 e3
    have hlt := own_lt h.1 g rfl
    refine ⟨hle, hcap, fun _ => ⟨g, 0, rfl, RowAt.of fun i hi => ⟨fun j u hu => ?_, ?_⟩⟩⟩
    · have hj : j < 4 := by
        have := (List.getElem?_eq_some_iff.1 hu).1
        simpa [Tm.cells] using this
      rw [hW.cell (p := ⟨g, 0 + 4 * i + j, none⟩) hlt.1 hlt.2 (fun h => h)]
      have hc := World.ownsRow.cellAt h.1 (4 * i + j) (by omega)
      rw [Nat.zero_add, hc]
      exact (tcells_get acc hi hj).trans hu
    · exact h.2 _ (getD_mem hi) W hB fun b h1 h2 h3 => hW b h1 h2 (fun h => h)
end
theorem tnews1 (w : World) (u : Tm) (T : TypeId) : ∀ j v, u.cells[j]? = some v → (w.alloc (.cells #[.int .i64 u.kind, .int .i64 u.num, .string u.name, .slice u.at_ u.args.length u.cap] T)).cell? ((⟨w.heap.size, 0, none⟩ : Addr).add j) = some v := by
  intro j v hv
  rw [add_plain, Nat.zero_add, World.cell?_alloc_at _ _ _ _ rfl, ← hv, show (#[Value.int .i64 u.kind, .int .i64 u.num, .string u.name, .slice u.at_ u.args.length u.cap] : Array Value) = u.cells.toArray from rfl, List.getElem?_toArray]
end Go.Proofs.YtgpglgehlnfggaaGreat
namespace Go.Proofs.YtgpglgehlnfggaaGreat
open Go.ChangeShapes Go.WideShapes Go.ChangeAt Go.RowKit
def Gl.hd (x : Gl) : List Value := [.int .i64 x.op, .string x.name]
def Gl.cells (x : Gl) : List Value := x.hd ++ [.slice x.at_ x.args.length x.cap]
theorem Gl.cells_len (x : Gl) : x.cells.length = 3 := rfl
theorem Gl.cells_sl (x : Gl) : x.cells[2]? = some (.slice x.at_ x.args.length x.cap) := rfl
theorem Gl.cells_hd (x : Gl) {j : Nat} (hj : j < 2) : x.cells[j]? = x.hd[j]? := List.getElem?_append_left (by simpa [Gl.hd] using hj)
theorem Gl.cells_lt {x : Gl} {j : Nat} {u : Value} (h : x.cells[j]? = some u) : j < 3 := by
  have := (List.getElem?_eq_some_iff.1 h).1
  rwa [Gl.cells_len] at this
def Gl.key (x : Gl) : List Value × List Tm := (x.hd, stripL x.args)
def GlRow (w : World) (l : List Gl) (b o : Nat) : Prop := ∀ i, i < l.length → (∀ j u, (l.getD i default).cells[j]? = some u → w.cell? ⟨b, o + i * 3 + j, none⟩ = some u) ∧ (l.getD i default).At w
def GlLst (w : World) (A : Option Addr) (l : List Gl) (c : Nat) : Prop := l.length ≤ c ∧ c ≤ maxLen ∧ (0 < l.length → ∃ b o, A = some ⟨b, o, none⟩ ∧ GlRow w l b o)
theorem gl_getD_mem {l : List Gl} {k : Nat} (h : k < l.length) : l.getD k default ∈ l := by
  simp only [List.getD, List.getElem?_eq_getElem h, Option.getD_some]
  exact List.getElem_mem h
theorem gl_take_next {l : List Gl} {k : Nat} (h : k < l.length) : l.take (k + 1) = l.take k ++ [l.getD k default] := by
  rw [List.take_succ_eq_append_getElem h]
  simp [List.getD, List.getElem?_eq_getElem h]
section
variable {w w' : World} {A : Option Addr} {l : List Gl} {c b o : Nat}
theorem GlRow.below (h : GlRow w l b o) (hb : Below w.heap.size w w') : GlRow w' l b o := fun i hi => ⟨fun j u hu => keepv hb ((h i hi).1 j u hu), (h i hi).2.below hb⟩
theorem GlLst.below (h : GlLst w A l c) (hb : Below w.heap.size w w') : GlLst w' A l c := ⟨h.1, h.2.1, fun hn => by
  obtain ⟨b, o, e, hr⟩ := h.2.2 hn
  exact ⟨b, o, e, hr.below hb⟩⟩
theorem GlLst.get (h : GlLst w A l c) {i : Nat} (hi : i < l.length) : ∃ b o, A = some ⟨b, o, none⟩ ∧ (∀ j u, (l.getD i default).cells[j]? = some u → w.cell? ⟨b, o + i * 3 + j, none⟩ = some u) ∧ (l.getD i default).At w := by
  obtain ⟨b, o, e, hr⟩ := h.2.2 (by omega)
  exact ⟨b, o, e, hr i hi⟩
theorem GlLst.mem (h : GlLst w A l c) {x : Gl} (hx : x ∈ l) : x.At w := by
  obtain ⟨i, hi, e⟩ := List.mem_iff_getElem.1 hx
  obtain ⟨_, _, _, _, h2⟩ := h.get hi
  simpa [List.getD, List.getElem?_eq_getElem hi, e] using h2
theorem GlLst.len (h : GlLst w A l c) : l.length ≤ 9223372036854775807 := by have := h.1; have := h.2.1; unfold maxLen at *; omega
theorem GlLst.nil (w : World) : GlLst w none [] 0 := ⟨Nat.le_refl _, Nat.zero_le _, fun h => absurd h (by simp)⟩
end
section
variable {H : Type} {enc : TypeId × Value → H} {W : World} {base : Nat} {spare : Nat → Bool} {held : Bool}
set_option maxRecDepth 100000 in
theorem gl_of (n : Nat) (cs : List Value) (x : DataW H × List MemPlace) (h : DataW.trod enc Tryz.prog W base spare held n 24 cs = some x) : ∃ y : Gl, cs = y.cells ∧ y.At W := by
  obtain ⟨xs, m, _, _, hcl, hxl, hg⟩ := DataW.trod_struct Tryz.underlying24 h
  have hcl' : cs.length = 3 := hcl.trans (by kernel_rfl)
  match cs, hcl' with
  | [c0, c1, c2], _ =>
    have hxs : xs.length = 3 := hxl
    have g0 := hg 0 _ rfl
    have g1 := hg 1 _ rfl
    have g2 := hg 2 _ rfl
    rw [List.getElem?_eq_getElem (by omega)] at g0 g1 g2
    have eI : (Tryz.prog.cellsOf 3) = 1 := by kernel_rfl
    have eS : (Tryz.prog.cellsOf 9) = 1 := by kernel_rfl
    have eL : (Tryz.prog.cellsOf 22) = 1 := by kernel_rfl
    simp only [List.getElem_toArray, List.getElem_cons_zero, List.getElem_cons_succ] at g0 g1 g2
    obtain ⟨k, hk, _, wk⟩ := DataW.trod_int (cs := [c0]) Tryz.underlying3 (by simpa [eI] using g0)
    obtain ⟨s, hs, _, ws⟩ := DataW.trod_string (cs := [c1]) Tryz.underlying9 (by simpa [eS] using g1)
    obtain ⟨A, l, c, hv', hl'⟩ := open_lst types (v := c2) (by simpa [eL] using g2)
    obtain rfl : c0 = .int .i64 k := by simpa using hk
    obtain rfl : c1 = .string s := by simpa using hs
    subst hv'
    exact ⟨⟨k, s, A, c, l⟩, rfl, int_fits wk, ws, hl'⟩
set_option maxRecDepth 100000 in
theorem gls_of {n : Nat} {v : Value} {x : DataW H × List MemPlace} (h : DataW.trod enc Tryz.prog W base spare held n 26 [v] = some x) :
    ∃ (A : Option Addr) (l : List Gl) (c : Nat), v = .slice A l.length c ∧ GlLst W A l c := by
  rcases DataW.trod_slice Tryz.underlying26 h with ⟨hcs, _⟩ | ⟨a, len, cap, elems, rest, n', hn, hcs, _, _, hl, hm, hlen, hel, _⟩
  · obtain rfl : v = .slice none 0 0 := by simpa using hcs
    exact ⟨none, [], 0, rfl, GlLst.nil W⟩
  · obtain rfl : v = .slice (some a) len cap := by simpa using hcs
    have cT : Tryz.prog.cellsOf 24 = 3 := by kernel_rfl
    obtain ⟨f, hf⟩ := Deep.choose_lt (α := Gl) (p := fun i y => W.cells? base (a.add (i * 3)) 3 = some y.cells ∧ y.At W) (n := len) (fun i hi => by
      have h1 := hel i hi
      rw [cT, List.getElem?_eq_getElem (by omega)] at h1
      obtain ⟨cs', h2, h3⟩ := Option.bind_eq_some_iff.1 h1
      obtain ⟨y, rfl, hy'⟩ := gl_of _ _ _ h3
      exact ⟨y, h2, hy'⟩)
    have hll : ((List.range len).map f).length = len := by simp
    refine ⟨some a, (List.range len).map f, cap, by rw [hll], by rw [hll]; exact hl, hm, fun h0 => ?_⟩
    rw [hll] at h0
    obtain ⟨b, o, sp⟩ := a
    have c0 := (World.cells?_some (hf 0 h0).1).2.2 0 (by omega)
    obtain rfl : sp = none := by
      have e0 : ∃ u, (f 0).cells[0]? = some u := ⟨_, rfl⟩
      obtain ⟨u, e0⟩ := e0
      rw [e0] at c0
      simpa [Addr.add] using World.cell?_spot c0
    refine ⟨b, o, rfl, fun i hi => ?_⟩
    rw [hll] at hi
    have e : ((List.range len).map f).getD i default = f i := by simp [List.getD, hi]
    rw [e]
    refine ⟨fun j u hu => ?_, (hf i hi).2⟩
    have hj := Gl.cells_lt hu
    have := (World.cells?_some (hf i hi).1).2.2 j hj
    rw [add_plain, add_plain, hu] at this
    exact this
end
def glcells (l : List Gl) : List Value := l.flatMap Gl.cells
theorem glcells_len (l : List Gl) : (glcells l).length = l.length * 3 := by
  induction l with
  | nil => rfl
  | cons t r ih => simp only [glcells, List.flatMap_cons, List.length_append, Gl.cells_len, List.length_cons] at *; omega
theorem glcells_one (x : Gl) : ∀ v ∈ x.cells, v.oneCell' = true := by
  intro v hv
  simp only [Gl.cells, Gl.hd, List.cons_append, List.nil_append, List.mem_cons, List.not_mem_nil, or_false] at hv
  rcases hv with rfl | rfl | rfl <;> rfl
theorem glcells_all (l : List Gl) : ∀ u ∈ glcells l, u.oneCell' = true := by
  intro u hu
  obtain ⟨x, _, hx⟩ := List.mem_flatMap.1 hu
  exact glcells_one x u hx
theorem glcells_get (l : List Gl) {i j : Nat} (hi : i < l.length) (hj : j < 3) : (glcells l)[i * 3 + j]? = (l.getD i default).cells[j]? := by
  induction l generalizing i with
  | nil => simp at hi
  | cons t r ih =>
    simp only [glcells, List.flatMap_cons]
    cases i with
    | zero =>
      rw [List.getElem?_append_left (by rw [Gl.cells_len]; omega)]
      simp
    | succ i =>
      rw [List.getElem?_append_right (by rw [Gl.cells_len]; omega), Gl.cells_len, show (i + 1) * 3 + j - 3 = i * 3 + j by omega]
      simpa [glcells] using ih (by simpa using hi)
theorem gl_info : (Tryz.prog.info? 24).map (fun i => (i.zero, i.size, i.bytes)) = some (some (.agg #[.int .i64 0, .string ⟨#[]⟩, .slice none 0 0]), 3, 48) := by kernel_rfl
theorem GlRow.cells {w : World} {l : List Gl} {b o : Nat} (h : GlRow w l b o) : ∀ (j : Nat) (u : Value), (glcells l)[j]? = some u → w.cell? ((⟨b, o, none⟩ : Addr).add j) = some u := by
  intro j u hu
  have hj : j < l.length * 3 := by rw [← glcells_len]; exact (List.getElem?_eq_some_iff.1 hu).1
  have e : j = j / 3 * 3 + j % 3 := by omega
  rw [e, glcells_get l (by omega) (by omega)] at hu
  have := (h (j / 3) (by omega)).1 (j % 3) u hu
  rw [add_plain, e, ← Nat.add_assoc]
  exact this
def GlOwn (w : World) (g : Nat) (l : List Gl) : Prop := g < w.heap.size ∧ (∀ j, w.frozen? ⟨g, j, none⟩ = false) ∧ ∀ i j u, i < l.length → (l.getD i default).cells[j]? = some u → w.cell? ⟨g, i * 3 + j, none⟩ = some u
theorem GlOwn.below {w w' : World} {g : Nat} {l : List Gl} (h : GlOwn w g l) (hb : Below w.heap.size w w') : GlOwn w' g l :=
  ⟨Nat.lt_of_lt_of_le h.1 hb.size, fun j => (hb.frozen (p := ⟨g, j, none⟩) h.1).trans (h.2.1 j), fun i j u hi hu => (hb.cell (p := ⟨g, i * 3 + j, none⟩) h.1).trans (h.2.2 i j u hi hu)⟩
theorem GlOwn.store {w : World} {g : Nat} {l : List Gl} (h : GlOwn w g l) {i : Nat} (hi : i < l.length) (u : Gl) (hu : u.hd = (l.getD i default).hd) : GlOwn (w.setCell ⟨g, i * 3 + 2, none⟩ (.slice u.at_ u.args.length u.cap)) g (l.set i u) := by
  refine ⟨by simpa [World.setCell] using h.1, fun j => by rw [World.frozen?_setCell]; exact h.2.1 j, fun i' j v hi' hv => ?_⟩
  rw [List.length_set] at hi'
  by_cases e : i' = i
  · subst e
    have ev : (l.set i' u).getD i' default = u := by simp [List.getD, hi']
    rw [ev] at hv
    have hj := Gl.cells_lt hv
    by_cases hl : j = 2
    · subst hl
      rw [Gl.cells_sl] at hv
      injection hv with hv
      subst hv
      exact World.cell?_setCell_same' _ _ _ (by rw [h.2.2 i' 2 _ hi' (Gl.cells_sl _)]; rfl)
    · rw [World.cell?_setCell_other _ _ _ _ (fun e => by injection e with _ e _; omega)]
      rw [Gl.cells_hd _ (by omega), hu, ← Gl.cells_hd _ (by omega)] at hv
      exact h.2.2 i' j v hi' hv
  · have ev : (l.set i u).getD i' default = l.getD i' default := by simp [List.getD, Ne.symm e]
    rw [ev] at hv
    have hj := Gl.cells_lt hv
    rw [World.cell?_setCell_other _ _ _ _ (fun e => by injection e with _ e _; omega)]
    exact h.2.2 i' j v hi' hv
def GlLie (B : World → Prop) (lo : Nat) (X : Nat → Prop) (w : World) (t : Gl) : Prop := ∀ W, B W → Agree lo X w W → t.At W
section
variable {B : World → Prop} {lo : Nat} {X : Nat → Prop} {w w' : World} {t : Gl}
theorem GlLie.less {lo' : Nat} {Y : Nat → Prop} (h : GlLie B lo' Y w t) (hs : w.heap.size ≤ w'.heap.size) (hc : ∀ b, lo' ≤ b → b < w.heap.size → ¬ Y b → lo ≤ b ∧ ¬ X b ∧ w'.heap[b]? = w.heap[b]?) : GlLie B lo X w' t := fun W hB hW => h W hB (hW.less hs hc)
theorem GlLie.below (h : GlLie B lo X w t) (k : Below w.heap.size w w') : GlLie B lo X w' t := h.less k.size fun b h1 h2 h3 => ⟨h1, h3, k.block b h2⟩
theorem GlLie.low (h : GlLie B lo X w t) {lo' : Nat} (hl : lo' ≤ lo) : GlLie B lo' X w t := h.less (Nat.le_refl _) fun b h1 _ h3 => ⟨by omega, h3, rfl⟩
theorem GlLie.out {Y : Nat → Prop} (h : GlLie B lo Y w t) (hY : ∀ b, lo ≤ b → b < w.heap.size → X b → Y b) : GlLie B lo X w t := h.less (Nat.le_refl _) fun b h1 h2 h3 => ⟨h1, fun hx => h3 (hY b h1 h2 hx), rfl⟩
theorem GlLie.set (h : GlLie B lo X w t) {p : Addr} (hp : p.block < lo ∨ X p.block) (v : Value) : GlLie B lo X (w.setCell p v) t := h.less (by simp [World.setCell]) fun b h1 _ h3 => ⟨h1, h3, Below.heap_setCell _ _ _ _ (fun e => hp.elim (fun h => by omega) (fun h => h3 (e ▸ h)))⟩
theorem GlLie.new_is {T : Nat} (h : GlLie B lo No w t) (hT : T < lo) : GlLie B lo (Is T) w t := h.out fun b h1 _ h3 => by have : b = T := h3; omega
end
def GlMade (B : World → Prop) (n : Nat) (m : List Gl) (w : World) (e : Ending) (w' : World) : Prop :=
  ∃ A cap, ∃ cur : List Gl, e = .returned (.slice A n cap) ∧ cur.length = n ∧ cur.map Gl.key = m.map Gl.key ∧ (∀ W, B W → Agree w.heap.size No w' W → GlLst W A cur cap) ∧ Below w.heap.size w w'
def GlCloned (w : World) (l : List Gl) (e : Ending) (w' : World) : Prop := ∃ A cap, e = .returned (.slice A l.length cap) ∧ l.length ≤ cap ∧ cap ≤ maxLen ∧ (0 < l.length → ∃ g, A = some ⟨g, 0, none⟩ ∧ w.heap.size ≤ g ∧ GlOwn w' g l) ∧ Below w.heap.size w w'
set_option maxHeartbeats 1000000 in
theorem clone_gl_at (l : List Gl) (b o c : Nat) (w : World) (h0 : 0 < l.length) (hl : GlRow w l b o) (hsz : l.length ≤ 1000000) :
    Calls Tryz.prog 73 #[.slice (some ⟨b, o, none⟩) l.length c] w (GlCloned w l) := by
  obtain ⟨i0, hi, hz0, hz1, hz2⟩ := info_parts gl_info
  have hn := fun (W : World) => Lib.run_eql_slice_nil (P := Tryz.prog) W 26 24 (some ⟨b, o, none⟩) l.length c 0 0 Tryz.underlying26
  go_enter Tryz.func73, Tryz.ntmps73
  have hl1 : GlRow (w.alloc (.cells #[] 24)) l b o := hl.below ((Below.refl _ _).alloc (Nat.le_refl _) _)
  have HC := Lib.hid hl1.cells
  have HO := Lib.hid (World.ownsRow_lit (base := w.heap.size) (e := 24) (size := 3) w #[] 0 (Nat.le_refl _) (Nat.zero_le _) rfl)
  clear hl hl1
  go_wp2_with (at_builtin; refine wpList_append_own _ rfl _ _ 26 rfl w.heap.size 24 i0 _ 3 48 Tryz.underlying26 hi hz0 hz1 hz2 rfl (by decide) _ 0 [] rfl HO.out ⟨b, o, none⟩ l.length c (glcells l) rfl (glcells_len l) HC.out (glcells_all l) (by unfold maxLen; omega) (by omega) (by simp) ?_; intro v' w1 hown1 hg1 _)
  have HG := Lib.hid hg1
  have HW := Lib.hid hown1
  clear hg1 hown1
  go_ret
  have hw := HW.out
  simp only [Nat.zero_add, List.nil_append] at hw
  obtain ⟨hlen, hv⟩ := hw
  rcases hv with ⟨_, h⟩ | ⟨g, cap, cur, rfl, hb, hheap, hle, hcap, _, hcur⟩
  · omega
  · have hw := HW.out
    simp only [Nat.zero_add, List.nil_append] at hw
    refine ⟨_, cap, rfl, hle, hcap, fun _ => ⟨g, rfl, hb, ⟨(own_lt hw g rfl).2, fun j => World.ownsRow.frozenAt hw j, fun i j u hi hu => ?_⟩⟩, ((Below.refl _ _).alloc (Nat.le_refl _) _).grown HG.out (by simp) (fun k hk => (World.ownsRow.lt HO.out k hk).1)⟩
    have hj := Gl.cells_lt hu
    rw [World.ownsRow.cellAt hw (i * 3 + j) (by omega)]
    exact (glcells_get l hi hj).trans hu
set_option maxHeartbeats 1000000 in
theorem clone_gl_none (A : Option Addr) (c : Nat) (w : World) :
    Calls Tryz.prog 73 #[.slice A 0 c] w (GlCloned w []) := by
  obtain ⟨i0, hi, hz0, hz1, hz2⟩ := info_parts gl_info
  have hn := fun (W : World) => Lib.run_eql_slice_nil (P := Tryz.prog) W 26 24 A 0 c 0 0 Tryz.underlying26
  cases A with
  | none =>
    go_enter Tryz.func73, Tryz.ntmps73
    go_wp2_with fail
    go_ret
    exact ⟨none, 0, rfl, Nat.le_refl _, Nat.zero_le _, fun h => by simp at h, Below.refl _ _⟩
  | some a =>
    go_enter Tryz.func73, Tryz.ntmps73
    have HO := Lib.hid (World.ownsRow_lit (base := w.heap.size) (e := 24) (size := 3) w #[] 0 (Nat.le_refl _) (Nat.zero_le _) rfl)
    go_wp2_with (at_builtin; refine wpList_append_own _ rfl _ _ 26 rfl w.heap.size 24 i0 _ 3 48 Tryz.underlying26 hi hz0 hz1 hz2 rfl (by decide) _ 0 [] rfl HO.out a 0 c [] rfl rfl (fun _ _ h => by simp at h) (fun _ h => by simp at h) (by unfold maxLen; omega) (by omega) (by simp) ?_; intro v' w1 hown1 hg1 _)
    have HG := Lib.hid hg1
    have HW := Lib.hid hown1
    clear hg1 hown1
    go_ret
    have hb : Below w.heap.size w w1 := ((Below.refl _ _).alloc (Nat.le_refl _) _).grown HG.out (by simp) (fun k hk => (World.ownsRow.lt HO.out k hk).1)
    rcases HW.out.2 with ⟨rfl, _⟩ | ⟨g, cap, cur, rfl, _, _, _, hcap, _, _⟩
    · exact ⟨none, 0, rfl, Nat.le_refl _, Nat.zero_le _, fun h => by simp at h, hb⟩
    · exact ⟨_, cap, rfl, Nat.zero_le _, hcap, fun h => by simp at h, hb⟩
end Go.Proofs.YtgpglgehlnfggaaGreat
namespace Go.Proofs.YtgpglgehlnfggaaGreat
open Go
def cmpG (x y : Gl) : Int := lex (ints x.op y.op) (lex (texts x.name.data.toList y.name.data.toList) (cmpL x.args y.args))
theorem cmpG_tri (x y z : Gl) : Tri (cmpG x y) (cmpG y z) (cmpG x z) :=
  (ints_tri _ _ _).lex (fun _ _ => (texts_tri _ _ _).lex (fun _ _ => cmp_tri.2 _ _ _) (cmp_val.2 _ _) (cmp_val.2 _ _) (cmp_val.2 _ _)) (lex_val (texts_val _ _) (cmp_val.2 _ _)) (lex_val (texts_val _ _) (cmp_val.2 _ _)) (lex_val (texts_val _ _) (cmp_val.2 _ _))
theorem cmpG_self (x : Gl) : cmpG x x = 0 := by simp [cmpG, ints_self, texts_self, cmp_self.2, lex]
theorem cmpG_flip (x y : Gl) : cmpG y x = - cmpG x y := by
  have h := cmpG_tri x y x
  have h' := cmpG_tri y x y
  rw [cmpG_self] at h h'
  unfold Tri at h h'
  omega
theorem cmpG_le {x y z : Gl} (h1 : cmpG x y ≤ 0) (h2 : cmpG y z ≤ 0) : cmpG x z ≤ 0 := by
  have h := cmpG_tri x y z
  unfold Tri at h
  exact (h.2.2.2.1 h1 h2).1
theorem cmpG_lt {x y z : Gl} (h1 : cmpG x y ≤ 0) (h2 : cmpG y z < 0) : cmpG x z < 0 := by
  have h := cmpG_tri x y z
  unfold Tri at h
  omega
theorem cmpG_ge {x y z : Gl} (h1 : cmpG x y ≤ 0) (h2 : 0 ≤ cmpG x z) : 0 ≤ cmpG y z := by
  have h := cmpG_tri x y z
  unfold Tri at h
  omega
theorem cmpG_key {x x' : Gl} (h : x.key = x'.key) (y : Gl) : cmpG x y = cmpG x' y := by
  obtain ⟨o, s, A, c, a⟩ := x
  obtain ⟨o', s', A', c', a'⟩ := x'
  simp only [Gl.key, Gl.hd, Prod.mk.injEq, List.cons.injEq, Value.int.injEq, Value.string.injEq, true_and, and_true] at h
  obtain ⟨⟨rfl, rfl⟩, h⟩ := h
  unfold cmpG
  rw [← cmp_strip.2 a, h, cmp_strip.2 a']
def SrtG (l : List Gl) : Prop := ∀ i j, i < j → j < l.length → cmpG (l.getD i default) (l.getD j default) ≤ 0
def BoundG (l : List Gl) (t : Gl) (lo hi : Nat) : Prop := (∀ k, k < lo → cmpG (l.getD k default) t < 0) ∧ ∀ k, hi ≤ k → k < l.length → 0 ≤ cmpG (l.getD k default) t
theorem BoundG.left {l : List Gl} {t : Gl} {lo hi m : Nat} (h : BoundG l t lo hi) (hs : SrtG l) (hm : m < l.length) (hc : cmpG (l.getD m default) t < 0) : BoundG l t (m + 1) hi := by
  refine ⟨fun k hk => ?_, h.2⟩
  rcases Nat.lt_or_ge k m with h1 | h1
  · exact cmpG_lt (hs k m h1 hm) hc
  · obtain rfl : k = m := by omega
    exact hc
theorem BoundG.right {l : List Gl} {t : Gl} {lo hi m : Nat} (h : BoundG l t lo hi) (hs : SrtG l) (hc : ¬ cmpG (l.getD m default) t < 0) : BoundG l t lo m := by
  refine ⟨h.1, fun k hk hl => ?_⟩
  rcases Nat.lt_or_ge m k with h1 | h1
  · exact cmpG_ge (hs m k h1 hl) (by omega)
  · obtain rfl : k = m := by omega
    omega
def hasG (l : List Gl) (t : Gl) : Bool := l.any fun k => cmpG k t == 0
theorem hasG_end {l : List Gl} {t : Gl} {i : Nat} (h : BoundG l t i i) (hs : SrtG l) : hasG l t = (decide (i < l.length) && (cmpG (l.getD i default) t == 0)) := by
  rw [Bool.eq_iff_iff]
  simp only [hasG, List.any_eq_true, Bool.and_eq_true, decide_eq_true_eq, beq_iff_eq]
  constructor
  · rintro ⟨k, hk, e⟩
    obtain ⟨j, hj, rfl⟩ := List.mem_iff_getElem.1 hk
    have eg : l.getD j default = l[j] := by simp [List.getD, List.getElem?_eq_getElem hj]
    rw [← eg] at e
    have h1 : i ≤ j := Nat.le_of_not_lt fun h1 => by
      have h2 := h.1 j h1
      rw [e] at h2
      exact absurd h2 (by decide)
    refine ⟨by omega, ?_⟩
    have h2 := h.2 i (Nat.le_refl _) (by omega)
    rcases Nat.lt_or_ge i j with h3 | h3
    · have h4 := cmpG_le (z := t) (hs i j h3 hj) (by omega)
      omega
    · obtain rfl : i = j := by omega
      exact e
  · rintro ⟨h1, e⟩
    exact ⟨_, gl_getD_mem h1, e⟩
theorem hasG_perm {l m : List Gl} (h : l.Perm m) (t : Gl) : hasG l t = hasG m t := by
  rw [Bool.eq_iff_iff]
  simp only [hasG, List.any_eq_true]
  exact ⟨fun ⟨k, hk, e⟩ => ⟨k, h.mem_iff.1 hk, e⟩, fun ⟨k, hk, e⟩ => ⟨k, h.mem_iff.2 hk, e⟩⟩
theorem hasG_keys {l m : List Gl} (h : l.map Gl.key = m.map Gl.key) (t : Gl) : hasG l t = hasG m t := by
  induction l generalizing m with
  | nil => cases m with
    | nil => rfl
    | cons y q => simp at h
  | cons x r ih => cases m with
    | nil => simp at h
    | cons y q =>
      simp only [List.map_cons, List.cons.injEq] at h
      simp only [hasG, List.any_cons] at ih ⊢
      rw [cmpG_key h.1, ih h.2]
def swpG (l : List Gl) (i j : Nat) : List Gl := (l.set i (l.getD j default)).set j (l.getD i default)
theorem swpG_len (l : List Gl) (i j : Nat) : (swpG l i j).length = l.length := by simp [swpG]
theorem swpG_get {l : List Gl} {i j : Nat} (hi : i < l.length) (hj : j < l.length) (k : Nat) : (swpG l i j).getD k default = if k = j then l.getD i default else if k = i then l.getD j default else l.getD k default := by
  unfold swpG
  simp only [List.getD, List.getElem?_set, List.length_set]
  by_cases h1 : k = j
  · subst h1; simp [hj]
  · rw [if_neg (fun h => h1 h.symm), if_neg h1]
    by_cases h2 : k = i
    · subst h2; simp [hi]
    · rw [if_neg (fun h => h2 h.symm), if_neg h2]
theorem swpG_perm {l : List Gl} {i : Nat} (hi : i + 1 < l.length) : (swpG l (i + 1) i).Perm l := by
  have e : l = l.take i ++ l.getD i default :: l.getD (i + 1) default :: l.drop (i + 2) := by
    conv => lhs; rw [← List.take_append_drop i l, List.drop_eq_getElem_cons (show i < l.length by omega), List.drop_eq_getElem_cons hi]
    simp [List.getD, List.getElem?_eq_getElem hi, List.getElem?_eq_getElem (show i < l.length by omega)]
  have e2 : swpG l (i + 1) i = l.take i ++ l.getD (i + 1) default :: l.getD i default :: l.drop (i + 2) := by
    refine List.ext_getElem? fun k => ?_
    have hk := swpG_get hi (show i < l.length by omega) k
    rcases Nat.lt_or_ge k l.length with h | h
    · have h1 : (swpG l (i + 1) i)[k]? = some ((swpG l (i + 1) i).getD k default) := by
        simp [List.getD, List.getElem?_eq_getElem (show k < (swpG l (i + 1) i).length by rw [swpG_len]; exact h)]
      rw [h1, hk]
      rcases Nat.lt_or_ge k i with h2 | h2
      · rw [if_neg (by omega), if_neg (by omega), List.getElem?_append_left (by simp; omega), List.getElem?_take, if_pos h2]
        simp [List.getD, List.getElem?_eq_getElem h]
      · rw [List.getElem?_append_right (by simp; omega)]
        have hl : (l.take i).length = i := by simp; omega
        rw [hl]
        rcases Nat.lt_or_ge i k with h3 | h3
        · rcases Nat.lt_or_ge (i + 1) k with h4 | h4
          · rw [if_neg (by omega), if_neg (by omega)]
            obtain ⟨m, rfl⟩ : ∃ m, k = i + 2 + m := ⟨k - (i + 2), by omega⟩
            rw [show i + 2 + m - i = m + 1 + 1 by omega, List.getElem?_cons_succ, List.getElem?_cons_succ, List.getElem?_drop]
            simp [List.getD, List.getElem?_eq_getElem h]
          · obtain rfl : k = i + 1 := by omega
            rw [if_neg (by omega), if_pos rfl, show i + 1 - i = 0 + 1 by omega]
            rfl
        · obtain rfl : k = i := by omega
          rw [if_pos rfl, Nat.sub_self]
          rfl
    · rw [List.getElem?_eq_none (by rw [swpG_len]; exact h), List.getElem?_eq_none (by simp; omega)]
  rw [e2]
  conv => rhs; rw [e]
  exact (List.Perm.swap _ _ _).append_left _
def ButG (l : List Gl) (i j : Nat) : Prop := ∀ p q, p < q → q ≤ i → q ≠ j → cmpG (l.getD p default) (l.getD q default) ≤ 0
def UpG (l : List Gl) (i : Nat) : Prop := ∀ p q, p < q → q < i → cmpG (l.getD p default) (l.getD q default) ≤ 0
theorem UpG.start {l : List Gl} {i : Nat} (h : UpG l i) : ButG l i i := fun p q h1 h2 h3 => h p q h1 (by omega)
theorem ButG.stop {l : List Gl} {i j : Nat} (h : ButG l i j) (hj : j = 0 ∨ ∃ k, j = k + 1 ∧ cmpG (l.getD k default) (l.getD j default) ≤ 0) : UpG l (i + 1) := by
  intro p q h1 h2
  by_cases hq : q = j
  · rcases hj with rfl | ⟨k, rfl, hc⟩
    · omega
    · subst hq
      rcases Nat.lt_or_ge p k with h3 | h3
      · exact cmpG_le (h p k h3 (by omega) (by omega)) hc
      · obtain rfl : p = k := by omega
        exact hc
  · exact h p q h1 (by omega) hq
theorem ButG.next {l : List Gl} {i k : Nat} (h : ButG l i (k + 1)) (hi : i < l.length) (hk : k + 1 ≤ i) (hc : cmpG (l.getD (k + 1) default) (l.getD k default) < 0) : ButG (swpG l (k + 1) k) i k := by
  intro p q h1 h2 h3
  have g := swpG_get (l := l) (i := k + 1) (j := k) (by omega) (by omega)
  rw [g p, g q, if_neg h3]
  by_cases hq : q = k + 1
  · subst hq
    rw [if_pos rfl]
    by_cases hp : p = k
    · rw [if_pos hp]; omega
    · rw [if_neg hp, if_neg (by omega)]
      exact h p k (by omega) (by omega) (by omega)
  · rw [if_neg hq]
    by_cases hp : p = k
    · rw [if_pos hp]
      exact h (k + 1) q (by omega) h2 hq
    · rw [if_neg hp]
      by_cases hp2 : p = k + 1
      · rw [if_pos hp2]
        exact h k q (by omega) h2 hq
      · rw [if_neg hp2]
        exact h p q h1 h2 hq
theorem UpG.srt {l : List Gl} (h : UpG l l.length) : SrtG l := fun i j h1 h2 => h i j h1 h2
end Go.Proofs.YtgpglgehlnfggaaGreat
namespace Go.Proofs.YtgpglgehlnfggaaGreat
open Go.ChangeShapes Go.WideShapes Go.ChangeAt Go.RowKit
set_option linter.unusedVariables false
def weighN (s : ByteArray) (l : List Tm) (m : Int) : Int := if m < 0 then m else weigh l (m - 1 - (s.size : Int) / 8) 64
theorem weigh64 (l : List Tm) (A : Option Addr) (c : Nat) (left : Int) (w : World) (h : Lst w A l c) (h1 : -4611686018427387904 ≤ left) (h2 : left ≤ 1000000) :
    Calls Tryz.prog 24 #[.slice A l.length c, .int .i64 left, .int .i64 64] w fun e w' => e = .returned (.int .i64 (weigh l left 64)) ∧ ∃ n, w' = w.drewN n := weigh_at 64 l A c left w h (Nat.le_refl _) h1 h2
theorem weighN_hi (s : ByteArray) (l : List Tm) (m : Int) : weighN s l m ≤ m ∨ weighN s l m = -1 := by
  unfold weighN
  split
  · omega
  · unfold weigh
    split
    · omega
    · have := weighL_hi l (m - 1 - (s.size : Int) / 8) 64 (by omega)
      omega
theorem weighN_size {s : ByteArray} {l : List Tm} {m : Int} (h : 0 ≤ weighN s l m) : (nodesL l : Int) ≤ m := by
  unfold weighN at h
  split at h
  · omega
  · have := weigh_nodes h
    omega
end Go.Proofs.YtgpglgehlnfggaaGreat
namespace Go.Proofs.YtgpglgehlnfggaaGreat
open Go.RowKit
def Bx (w v : World) : Prop := Below w.heap.size w v
theorem Bx.refl (w : World) : Bx w w := Below.refl _ _
theorem Bx.trans {u v w : World} (h1 : Bx u v) (h2 : Bx v w) : Bx u w := Below.trans h1 (h2.mono h1.size)
theorem Bx.al (w : World) (o : Obj) : Bx w (w.alloc o) := (Below.refl _ w).alloc (Nat.le_refl _) o
theorem Bx.drew (w : World) : Bx w w.drew := (Below.refl _ w).drew
theorem Bx.undrew {w v : World} (h : Bx w.drew v) : Bx w v := Bx.trans (Bx.drew w) h
def weighGl (l : List Gl) (m : Int) : Int := l.foldl (fun m x => weighN x.name x.args m) m
theorem weighGl_neg (l : List Gl) {m : Int} (h : m < 0) : weighGl l m = m := by
  unfold weighGl
  induction l with
  | nil => rfl
  | cons x r ih => rw [List.foldl_cons, show weighN x.name x.args m = m from if_pos h, ih]
theorem weighGl_next {l : List Gl} {j : Nat} (h : j < l.length) (m : Int) : weighGl (l.take (j + 1)) m = weighN (l.getD j default).name (l.getD j default).args (weighGl (l.take j) m) := by
  rw [gl_take_next h]
  simp [weighGl, List.foldl_append]
theorem weighGl_stop {l : List Gl} {j : Nat} {m : Int} (h : weighGl (l.take j) m < 0) : weighGl l m = weighGl (l.take j) m := by
  have e : weighGl l m = weighGl (l.drop j) (weighGl (l.take j) m) := by
    unfold weighGl
    rw [← List.foldl_append, List.take_append_drop]
  rw [e, weighGl_neg _ h]
theorem weighGl_hi (l : List Gl) (m : Int) : weighGl l m ≤ m ∨ weighGl l m = -1 := by
  induction l generalizing m with
  | nil => exact .inl (Int.le_refl _)
  | cons x r ih =>
    have h1 := weighN_hi x.name x.args m
    have h2 := ih (weighN x.name x.args m)
    show weighGl r (weighN x.name x.args m) ≤ m ∨ weighGl r (weighN x.name x.args m) = -1
    rcases h1 with h1 | h1
    · omega
    · rw [h1]; exact .inr (weighGl_neg r (by omega))
theorem weighGl_facts (l : List Gl) (m : Int) (h : 0 ≤ weighGl l m) : (l.length : Int) + weighGl l m ≤ m ∧ ∀ x ∈ l, (nodesL x.args : Int) ≤ m := by
  induction l generalizing m with
  | nil => exact ⟨by simp [weighGl], fun x hx => by cases hx⟩
  | cons x r ih =>
    have e : weighGl (x :: r) m = weighGl r (weighN x.name x.args m) := rfl
    rw [e] at h ⊢
    have h1 := ih _ h
    have hn : 0 ≤ weighN x.name x.args m := by
      rcases Int.lt_or_le (weighN x.name x.args m) 0 with h2 | h2
      · rw [weighGl_neg r h2] at h; omega
      · exact h2
    have h3 := weighN_size hn
    have h4 : weighN x.name x.args m + 1 ≤ m := by
      unfold weighN at hn ⊢
      split at hn
      · omega
      · rename_i h5
        rw [if_neg h5]
        unfold weigh at hn ⊢
        split at hn
        · omega
        · rename_i h6
          rw [if_neg h6]
          have := (weigh_facts.2 x.args (m - 1 - (x.name.size : Int) / 8) 64).1 hn
          omega
    refine ⟨by rw [List.length_cons]; omega, fun y hy => ?_⟩
    rcases List.mem_cons.1 hy with rfl | hy
    · exact h3
    · have := h1.2 y hy; omega
set_option maxHeartbeats 4000000 in
theorem great_gls_at (l : List Gl) (A : Option Addr) (c : Nat) (most : Int) (w : World) (hl : GlLst w A l c) (h0 : 0 ≤ most) (h1 : most ≤ 1000000) {r : Bool} (hr : decide (weighGl l most < 0) = r) :
    Calls Tryz.prog 8 #[.slice A l.length c, .int .i64 most] w fun e w' => e = .returned (.bool r) ∧ Bx w w' := by
  have HL := Lib.hid hl
  have HR := Lib.hid hr
  have hlen := hl.len
  clear hl hr
  go_enter Tryz.func8, Tryz.ntmps8
  go_wp2_with fail
  go_loopw [1, 5] (fun z i wr => ∃ j : Nat, j ≤ l.length ∧ i = .int .i64 j ∧ z = .int .i64 (weighGl (l.take j) most) ∧ Hid (Bx w wr)) (fun _ i _ => l.length - (intOf i).toNat)
  case atStart => exact ⟨0, Nat.zero_le _, rfl, rfl, Lib.hid (Bx.refl _)⟩
  case round =>
    obtain ⟨j, hj, rfl, rfl, HF⟩ := hrel
    have hhi := weighGl_hi (l.take j) most
    by_cases hlt : j < l.length
    · have hjl : ((j : Nat) : Int) < (l.length : Int) := by omega
      have HT := Lib.hid (weighGl_next hlt most)
      have HST := Lib.hid (fun (h : weighGl (l.take j) most < 0) => weighGl_stop h)
      obtain ⟨b, o, rfl, hcs, hat⟩ := (HL.out.below HF.out).get hlt
      generalize weighGl (l.take j) most = v at *
      by_cases hv : 0 ≤ v
      · generalize l.getD j default = x at *
        have hsz : x.name.size ≤ 9223372036854775807 := by have := hat.2.1; unfold maxLen at this; exact this
        have P1 := Lib.hid (fun n => weigh64 x.args x.at_ x.cap (v - 1 - (x.name.size : Int) / 8) (wr.drewN n) ((hat.2.2).below (below_drewN (Below.refl _ _) n)) (by omega) (by omega))
        have hW : weighN x.name x.args v = weigh x.args (v - 1 - (x.name.size : Int) / 8) 64 := if_neg (by omega)
        rw [← hW] at P1
        rw [← HT.out]at P1
        have c0 := hcs 0 _ rfl
        have c1 := hcs 1 _ rfl
        have c2 := hcs 2 _ rfl
        simp only [Nat.add_zero] at c0
        obtain ⟨o', s', A', c', a'⟩ := x
        simp only at c0 c1 c2 hsz
        clear hcs hat hW
        obtain ⟨v2, hv2⟩ : ∃ v2, weighGl (l.take (j + 1)) most = v2 := ⟨_, rfl⟩
        have HV2 := Lib.hid hv2
        rw [hv2] at P1
        clear hv2 HT
        go_wp2_with fail
        go_quiet ((go_at_call 24; exact Calls.quiet_of (P1.out _)))
        rename_i nq
        go_wp2_with fail
        go_roundw
        case rel => exact ⟨j + 1, by omega, by go_num, by rw [HV2.out], Lib.hid (Bx.trans HF.out (below_drewN (Below.refl _ _) nq))⟩
        case measure => simp [intOf]; omega
      · have hv' : v < 0 := by omega
        have HE := Lib.hid (HST.out hv')
        go_wp2_with fail
        go_ret
        exact ⟨by rw [← HR.out, HE.out, decide_eq_true hv']; rfl, HF.out⟩
    · obtain rfl : j = l.length := by omega
      rw [List.take_length]
      generalize weighGl l most = v at *
      go_wp2_with fail
      go_ret
      exact ⟨by rw [← HR.out]; rfl, HF.out⟩
end Go.Proofs.YtgpglgehlnfggaaGreat
namespace Go.Proofs.YtgpglgehlnfggaaGreat
def Stab (l m : List Bd) : Prop := l.Perm m ∧ ∀ v : Int, l.filter (fun x => decide (x.var = v)) = m.filter (fun x => decide (x.var = v))
theorem Stab.refl (l : List Bd) : Stab l l := ⟨List.Perm.refl _, fun _ => rfl⟩
theorem Stab.symm {l m : List Bd} (h : Stab l m) : Stab m l := ⟨h.1.symm, fun v => (h.2 v).symm⟩
theorem Stab.trans {l m n : List Bd} (h : Stab l m) (k : Stab m n) : Stab l n := ⟨h.1.trans k.1, fun v => (h.2 v).trans (k.2 v)⟩
theorem Stab.append {a a' b b' : List Bd} (h : Stab a a') (k : Stab b b') : Stab (a ++ b) (a' ++ b') := ⟨h.1.append k.1, fun v => by rw [List.filter_append, List.filter_append, h.2, k.2]⟩
theorem Stab.len {l m : List Bd} (h : Stab l m) : l.length = m.length := h.1.length_eq
theorem Stab.mem {l m : List Bd} (h : Stab l m) {x : Bd} : x ∈ l ↔ x ∈ m := h.1.mem_iff
theorem stab_swap {A B : List Bd} (h : ∀ x ∈ A, ∀ y ∈ B, x.var ≠ y.var) : Stab (A ++ B) (B ++ A) := by
  refine ⟨List.perm_append_comm, fun v => ?_⟩
  rw [List.filter_append, List.filter_append]
  by_cases hA : A.filter (fun x => decide (x.var = v)) = []
  · rw [hA, List.nil_append, List.append_nil]
  · obtain ⟨x, hx⟩ := List.exists_mem_of_ne_nil _ hA
    rw [List.mem_filter, decide_eq_true_eq] at hx
    have hB : B.filter (fun x => decide (x.var = v)) = [] := List.filter_eq_nil_iff.2 fun y hy e => h x hx.1 y hy (by rw [hx.2]; exact (of_decide_eq_true e).symm)
    rw [hB, List.nil_append, List.append_nil]
theorem look_filter (l : List Bd) (v : Int) : look (l.filter fun x => decide (x.var = v)) v = look l v := by
  induction l with
  | nil => rfl
  | cons x r ih =>
    by_cases h : x.var = v
    · rw [List.filter_cons_of_pos (by simpa using h)]
      simp only [look, if_pos h]
    · rw [List.filter_cons_of_neg (by simpa using h), ih]
      simp only [look, if_neg h]
theorem stab_look {l m : List Bd} (h : Stab l m) (v : Int) : look l v = look m v := by rw [← look_filter l, h.2, look_filter m]
def SrtL (l : List Bd) : Prop := l.Pairwise fun x y => x.var ≤ y.var
theorem SrtL.srt {l : List Bd} (h : SrtL l) : Srt l := by
  intro i j hij hj
  have hp := List.pairwise_iff_getElem.1 h
  simp only [List.getD, List.getElem?_eq_getElem hj, List.getElem?_eq_getElem (show i < l.length by omega), Option.getD_some]
  rcases Nat.lt_or_ge i j with h1 | h1
  · exact hp i j (by omega) hj h1
  · obtain rfl : i = j := by omega
    exact Int.le_refl _
theorem srtL_append {A B : List Bd} : SrtL (A ++ B) ↔ SrtL A ∧ SrtL B ∧ ∀ x ∈ A, ∀ y ∈ B, x.var ≤ y.var := List.pairwise_append
theorem SrtL.stab_le {A B A' B' : List Bd} (h : ∀ x ∈ A, ∀ y ∈ B, x.var ≤ y.var) (hA : Stab A A') (hB : Stab B B') : ∀ x ∈ A', ∀ y ∈ B', x.var ≤ y.var := fun x hx y hy => h x (hA.mem.2 hx) y (hB.mem.2 hy)
def swpL (l : List Bd) (i j : Nat) : List Bd := (l.set i (l.getD j default)).set j (l.getD i default)
theorem getD_mid (P : List Bd) (x : Bd) (S : List Bd) {i : Nat} (hi : i = P.length) : (P ++ x :: S).getD i default = x := by
  subst hi; simp [List.getD]
theorem set_mid (P : List Bd) (x y : Bd) (S : List Bd) {i : Nat} (hi : i = P.length) : (P ++ x :: S).set i y = P ++ y :: S := by
  subst hi; simp
theorem swpL_parts (P M S : List Bd) (x y : Bd) {i j : Nat} (hi : i = P.length) (hj : j = P.length + 1 + M.length) : swpL (P ++ x :: (M ++ y :: S)) i j = P ++ y :: (M ++ x :: S) := by
  have e1 : P ++ x :: (M ++ y :: S) = (P ++ x :: M) ++ y :: S := by simp
  have e2 : (P ++ x :: (M ++ y :: S)).getD j default = y := by rw [e1, getD_mid _ _ _ (by simp; omega)]
  have e3 : (P ++ x :: (M ++ y :: S)).getD i default = x := getD_mid _ _ _ hi
  unfold swpL
  rw [e2, e3, set_mid _ _ _ _ hi, show P ++ y :: (M ++ y :: S) = (P ++ y :: M) ++ y :: S by simp, set_mid _ _ _ _ (by simp; omega)]
  simp
theorem swpL_symm (l : List Bd) {i j : Nat} (hij : i ≠ j) : swpL l i j = swpL l j i := by
  unfold swpL
  rw [List.set_comm _ _ (by omega)]
end Go.Proofs.YtgpglgehlnfggaaGreat
namespace Go.Proofs.YtgpglgehlnfggaaGreat
open Go.RowKit
def put5 (w : World) (g i : Nat) (x : Bd) : World :=
  ((((w.setCell ⟨g, i * 5, none⟩ (.int .i64 x.var)).setCell ⟨g, i * 5 + 1, none⟩ (.int .i64 x.tm.kind)).setCell ⟨g, i * 5 + 2, none⟩ (.int .i64 x.tm.num)).setCell ⟨g, i * 5 + 3, none⟩ (.string x.tm.name)).setCell ⟨g, i * 5 + 4, none⟩ (.slice x.tm.at_ x.tm.args.length x.tm.cap)
section
variable {w w' : World} {g i : Nat} {x : Bd} {l : List Bd}
theorem put5_eq : put5 w g i x = w.setCells g (i * 5) x.cells := rfl
theorem put5_size : (put5 w g i x).heap.size = w.heap.size := by simp [put5, World.setCell]
theorem put5_frozen (p : Addr) : (put5 w g i x).frozen? p = w.frozen? p := by simp only [put5, World.frozen?_setCell]
theorem put5_keeps (K : World) (h : Keeps g K w) : Keeps g K (put5 w g i x) := ((((h.set _ _ _).set _ _ _).set _ _ _).set _ _ _).set _ _ _
theorem Row5.put (h : Row5 w g l) (hi : i < l.length) (x : Bd) : Row5 (put5 w g i x) g (l.set i x) := by
  refine ⟨by rw [put5_size]; exact h.1, fun j => by rw [put5_frozen]; exact h.2.1 j, fun i' j u hi' hu => ?_⟩
  have hj := bcells_lt hu
  rw [List.length_set] at hi'
  rw [put5_eq]
  by_cases e : i' = i
  · subst e
    have hg : (l.set i' x).getD i' default = x := by simp [List.getD, hi]
    rw [hg] at hu
    have h1 : ∀ k, k < x.cells.length → (w.cell? ⟨g, i' * 5 + k, none⟩).isSome = true := fun k hk => by
      rw [bcells_length] at hk
      have hk2 : k < (l.getD i' default).cells.length := by rw [bcells_length]; exact hk
      rw [h.2.2 i' k _ hi (List.getElem?_eq_getElem hk2)]
      rfl
    obtain ⟨hj2, e2⟩ := List.getElem?_eq_some_iff.1 hu
    rw [World.cell?_setCells_in g x.cells (i' * 5) w h1 j hj2, e2]
  · have hg : (l.set i x).getD i' default = l.getD i' default := by simp [List.getD, Ne.symm e]
    rw [hg] at hu
    rw [World.cell?_setCells_out g x.cells (i * 5) w _ (fun _ _ => by rw [bcells_length]; show i' * 5 + j < i * 5 ∨ i * 5 + 5 ≤ i' * 5 + j; omega)]
    exact h.2.2 i' j u hi' hu
theorem Row5.below (h : Row5 w g l) (hb : Below w.heap.size w w') : Row5 w' g l :=
  ⟨Nat.lt_of_lt_of_le h.1 hb.size, fun j => (hb.frozen (p := ⟨g, j, none⟩) h.1).trans (h.2.1 j), fun i j u hi hu => keepv hb (h.2.2 i j u hi hu)⟩
theorem Row5.drewN (h : Row5 w g l) (n : Nat) : Row5 (w.drewN n) g l := h.below (below_drewN (Below.refl _ _) n)
theorem Row5.drew (h : Row5 w g l) : Row5 w.drew g l := ⟨h.1, h.2.1, h.2.2⟩
theorem Row5.get (h : Row5 w g l) {i : Nat} (hi : i < l.length) : w.cell? ⟨g, i * 5, none⟩ = some (.int .i64 (l.getD i default).var) ∧ w.cell? ⟨g, i * 5 + 1, none⟩ = some (.int .i64 (l.getD i default).tm.kind) ∧ w.cell? ⟨g, i * 5 + 2, none⟩ = some (.int .i64 (l.getD i default).tm.num) ∧ w.cell? ⟨g, i * 5 + 3, none⟩ = some (.string (l.getD i default).tm.name) ∧
    w.cell? ⟨g, i * 5 + 4, none⟩ = some (.slice (l.getD i default).tm.at_ (l.getD i default).tm.args.length (l.getD i default).tm.cap) :=
  ⟨h.2.2 i 0 _ hi rfl, h.2.2 i 1 _ hi rfl, h.2.2 i 2 _ hi rfl, h.2.2 i 3 _ hi rfl, h.2.2 i 4 _ hi rfl⟩
theorem Row5.swap (h : Row5 w g l) {j : Nat} (hi : i < l.length) (hj : j < l.length) : Row5 (put5 (put5 w g i (l.getD j default)) g j (l.getD i default)) g (swpL l i j) :=
  (h.put hi _).put (by simpa using hj) _
end
def Steps (R : List Bd → Prop) (g : Nat) (w : World) (e : Ending) (w' : World) : Prop :=
  e = .returned (.tuple #[]) ∧ ∃ l', R l' ∧ Row5 w' g l' ∧ Keeps g w w'
abbrev CMPV : Value := .func (.func 144) #[] #[]
def swapping (P X Q Y S : List Bd) (k : Nat) : List Bd := P ++ (Y.take k ++ X.drop k) ++ Q ++ (X.take k ++ Y.drop k) ++ S
theorem swapping_len (P X Q Y S : List Bd) (h : X.length = Y.length) (k : Nat) (hk : k ≤ X.length) : (swapping P X Q Y S k).length = P.length + X.length + Q.length + Y.length + S.length := by
  simp [swapping]; omega
theorem swapping_next (P X Q Y S : List Bd) (h : X.length = Y.length) {k : Nat} (hk : k < X.length) : swpL (swapping P X Q Y S k) (P.length + k) (P.length + X.length + Q.length + k) = swapping P X Q Y S (k + 1) := by
  have hx := bdrop_next hk
  have hy := bdrop_next (show k < Y.length by omega)
  have tx := btake_next hk
  have ty := btake_next (show k < Y.length by omega)
  have lx : (X.take k).length = k := by simp; omega
  have ly : (Y.take k).length = k := by simp; omega
  have ld : (X.drop (k + 1)).length = X.length - (k + 1) := by simp
  unfold swapping
  rw [hx, hy, tx, ty]
  have e1 : P ++ (Y.take k ++ X.getD k default :: X.drop (k + 1)) ++ Q ++ (X.take k ++ Y.getD k default :: Y.drop (k + 1)) ++ S = (P ++ Y.take k) ++ X.getD k default :: ((X.drop (k + 1) ++ Q ++ X.take k) ++ Y.getD k default :: (Y.drop (k + 1) ++ S)) := by simp
  rw [e1, swpL_parts _ _ _ _ _ (by rw [List.length_append, ly]) (by simp only [List.length_append, lx, ly, ld]; omega)]
  simp
set_option maxHeartbeats 4000000 in
set_option maxRecDepth 100000 in
theorem swap_range_at (P X Q Y S : List Bd) (hXY : X.length = Y.length) (g c N : Nat) (w : World) (hN : N = P.length + X.length + Q.length + Y.length + S.length) (hN6 : N ≤ 1000000) (h : Row5 w g (P ++ X ++ Q ++ Y ++ S)) (a b n : Nat) (ha : a = P.length) (hb : b = P.length + X.length + Q.length) (hn : n = X.length) :
    Calls Tryz.prog 179 #[.slice (some ⟨g, 0, none⟩) N c, .int .i64 a, .int .i64 b, .int .i64 n, CMPV] w (Steps (fun l' => l' = P ++ Y ++ Q ++ X ++ S) g w) := by
  have HNX := Lib.hid (fun (k : Nat) (hk : k < n) => show swpL (swapping P X Q Y S k) (a + k) (b + k) = swapping P X Q Y S (k + 1) by rw [ha, hb]; exact swapping_next P X Q Y S hXY (show k < X.length by omega))
  have HL := Lib.hid (fun (k : Nat) (hk : k ≤ n) => show (swapping P X Q Y S k).length = N by rw [swapping_len P X Q Y S hXY k (by omega), hN])
  have H0 := Lib.hid (show swapping P X Q Y S 0 = P ++ X ++ Q ++ Y ++ S by simp [swapping])
  have H1 := Lib.hid (show swapping P X Q Y S n = P ++ Y ++ Q ++ X ++ S by
    rw [hn]
    unfold swapping
    rw [List.take_of_length_le (show Y.length ≤ X.length by omega), List.drop_of_length_le (Nat.le_refl _), List.take_of_length_le (Nat.le_refl _), List.drop_of_length_le (show Y.length ≤ X.length by omega)]
    simp)
  have HR := Lib.hid (show Row5 w g (swapping P X Q Y S 0) by rw [H0.out]; exact h)
  have hab : a + n ≤ b := by omega
  have hbN : b + n ≤ N := by omega
  generalize swapping P X Q Y S = L at *
  clear h H0 ha hb hn hN
  go_enter Tryz.func179, Tryz.ntmps179
  go_wp2_with fail
  go_loopw [10] (fun i wr => ∃ k : Nat, k ≤ n ∧ i = .int .i64 k ∧ Hid (Row5 wr g (L k)) ∧ Hid (Keeps g w wr)) (fun i _ => n - (intOf i).toNat)
  case atStart => exact ⟨0, Nat.zero_le _, rfl, HR, Lib.hid (Keeps.refl _ _)⟩
  case round =>
    clear HR
    obtain ⟨k, hk, rfl, HR, HK⟩ := hrel
    by_cases hlt : k < n
    · have jlt : decide ((k : Int) < (n : Int)) = true := decide_eq_true (by omega)
      have hsw := HNX.out k hlt
      have hlen := HL.out k hk
      obtain ⟨p, hp⟩ : ∃ p, p = a + k := ⟨_, rfl⟩
      obtain ⟨q, hq⟩ : ∃ q, q = b + k := ⟨_, rfl⟩
      have hp1 : (a : Int) + (k : Int) = (p : Int) := by omega
      have hq1 : (b : Int) + (k : Int) = (q : Int) := by omega
      have hpN : p < N := by omega
      have hqN : q < N := by omega
      have hpq : p ≠ q := by omega
      rw [← hp, ← hq] at hsw
      have HSW := Lib.hid hsw
      have HD := Lib.hid (HR.out)
      have HP := Lib.hid (HD.out.put (i := p) (by rw [hlen]; exact hpN) ((L k).getD q default))
      obtain ⟨c0, c1, c2, c3, c4⟩ := HD.out.get (i := p) (by rw [hlen]; exact hpN)
      obtain ⟨d0, d1, d2, d3, d4⟩ := HD.out.get (i := q) (by rw [hlen]; exact hqN)
      obtain ⟨e0, e1, e2, e3, e4⟩ := HP.out.get (i := q) (by rw [List.length_set, hlen]; exact hqN)
      have hgq : ((L k).set p ((L k).getD q default)).getD q default = (L k).getD q default := by simp [List.getD, hpq]
      rw [hgq] at e0 e1 e2 e3 e4
      have HFin := Lib.hid (show Row5 (put5 (put5 wr g p ((L k).getD q default)) g q ((L k).getD p default)).drew g (L (k + 1)) by
        rw [← HSW.out]; exact (HD.out.swap (by rw [hlen]; exact hpN) (by rw [hlen]; exact hqN)).drew)
      have HKin := Lib.hid ((put5_keeps (i := q) (x := (L k).getD p default) w (put5_keeps (i := p) (x := (L k).getD q default) w HK.out)).drew)
      have f := HD.out.2.1
      have fp0 := f (p * 5)
      have fp1 := f (p * 5 + 1)
      have fp2 := f (p * 5 + 2)
      have fp3 := f (p * 5 + 3)
      have fp4 := f (p * 5 + 4)
      have fq0 := f (q * 5)
      have fq1 := f (q * 5 + 1)
      have fq2 := f (q * 5 + 2)
      have fq3 := f (q * 5 + 3)
      have fq4 := f (q * 5 + 4)
      generalize (L k).getD p default = x at *
      generalize (L k).getD q default = y at *
      obtain ⟨xv, xk, xn, xs, xA, xc, xa⟩ := x
      obtain ⟨yv, yk, yn, ys, yA, yc, ya⟩ := y
      simp only [put5, Tm.kind, Tm.num, Tm.name, Tm.at_, Tm.args, Tm.cap] at c0 c1 c2 c3 c4 d0 d1 d2 d3 d4 e0 e1 e2 e3 e4 HFin HKin
      have pz : (p : Int) < (N : Int) := by omega
      have qz : (q : Int) < (N : Int) := by omega
      clear hsw hgq HP HD f HR HK hp hq
      go_wp2_with fail
      go_region
      all_goals go_wp2
      go_roundw
      case rel => exact ⟨k + 1, by omega, by go_num, HFin, HKin⟩
      case measure => simp [intOf]; omega
    · obtain rfl : k = n := by omega
      have jlt : decide ((k : Int) < (k : Int)) = false := decide_eq_false (by omega)
      have HE := Lib.hid (show Row5 wr g (P ++ Y ++ Q ++ X ++ S) by rw [← H1.out]; exact HR.out)
      go_wp2_with fail
      go_end0
      exact ⟨rfl, _, rfl, HE.out, HK.out⟩
end Go.Proofs.YtgpglgehlnfggaaGreat
