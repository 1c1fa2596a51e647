/-
  Bindings in memory: a list that lies in a world, behind calls that leave all blocks; an argument that is one, opened.
-/
import Derived.Test.YtpnjjahimhhjkaaProg
import Derived.Test.YtpnjjahimhhjkaaVxPlain
import Derived.Test.YtpnjjahimhhjkaaTmBase
namespace Go.Proofs.Ytpnjjahimhhjkaa
open Go.ChangeShapes Go.WideShapes Go.ChangeAt Go.RowKit

abbrev Bd.val (x : Bd) : Value := .agg #[.int .i64 x.var, .int .i64 x.tm.kind, .int .i64 x.tm.num, .string x.tm.name, .slice x.tm.at_ x.tm.args.length x.tm.cap]
def Bd.cells (x : Bd) : List Value := [.int .i64 x.var, .int .i64 x.tm.kind, .int .i64 x.tm.num, .string x.tm.name, .slice x.tm.at_ x.tm.args.length x.tm.cap]
/-- The rows of the bindings at block b, from cell o on. -/
def BRow (w : World) (l : List Bd) (b o : Nat) : Prop := ∀ i, i < l.length → (∀ j u, (l.getD i default).cells[j]? = some u → w.cell? ⟨b, o + i * 5 + j, none⟩ = some u) ∧ Fits (l.getD i default).var ∧ (l.getD i default).tm.At w
/-- The slice at A of capacity c holds the bindings l. -/
def BLst (w : World) (A : Option Addr) (l : List Bd) (c : Nat) : Prop := l.length ≤ c ∧ c ≤ maxLen ∧ (0 < l.length → ∃ b o, A = some ⟨b, o, none⟩ ∧ BRow w l b o)
section
variable {w w' : World} {A : Option Addr} {l : List Bd} {c b o : Nat}
theorem BRow.below (h : BRow w l b o) (hb : Below w.heap.size w w') : BRow w' l b o := fun i hi => ⟨fun j u hu => keepv hb ((h i hi).1 j u hu), (h i hi).2.1, (h i hi).2.2.below hb⟩
theorem BLst.below (h : BLst w A l c) (hb : Below w.heap.size w w') : BLst w' A l c := ⟨h.1, h.2.1, fun hn => by
  obtain ⟨b, o, e, hr⟩ := h.2.2 hn
  exact ⟨b, o, e, hr.below hb⟩⟩
theorem BRow.get (h : BRow w l b o) {i : Nat} (hi : i < l.length) :
    (w.cell? ⟨b, o + i * 5, none⟩ = some (.int .i64 (l.getD i default).var) ∧ w.cell? ⟨b, o + i * 5 + 1, none⟩ = some (.int .i64 (l.getD i default).tm.kind) ∧ w.cell? ⟨b, o + i * 5 + 2, none⟩ = some (.int .i64 (l.getD i default).tm.num) ∧ w.cell? ⟨b, o + i * 5 + 3, none⟩ = some (.string (l.getD i default).tm.name) ∧
      w.cell? ⟨b, o + i * 5 + 4, none⟩ = some (.slice (l.getD i default).tm.at_ (l.getD i default).tm.args.length (l.getD i default).tm.cap)) ∧ Fits (l.getD i default).var ∧ (l.getD i default).tm.At w := by
  have h1 := h i hi
  exact ⟨⟨h1.1 0 _ rfl, h1.1 1 _ rfl, h1.1 2 _ rfl, h1.1 3 _ rfl, h1.1 4 _ rfl⟩, h1.2⟩
theorem BLst.get (h : BLst w A l c) {i : Nat} (hi : i < l.length) : ∃ b o, A = some ⟨b, o, none⟩ ∧
    (w.cell? ⟨b, o + i * 5, none⟩ = some (.int .i64 (l.getD i default).var) ∧ w.cell? ⟨b, o + i * 5 + 1, none⟩ = some (.int .i64 (l.getD i default).tm.kind) ∧ w.cell? ⟨b, o + i * 5 + 2, none⟩ = some (.int .i64 (l.getD i default).tm.num) ∧ w.cell? ⟨b, o + i * 5 + 3, none⟩ = some (.string (l.getD i default).tm.name) ∧
      w.cell? ⟨b, o + i * 5 + 4, none⟩ = some (.slice (l.getD i default).tm.at_ (l.getD i default).tm.args.length (l.getD i default).tm.cap)) ∧ Fits (l.getD i default).var ∧ (l.getD i default).tm.At w := by
  obtain ⟨b, o, e, hr⟩ := h.2.2 (by omega)
  exact ⟨b, o, e, hr.get hi⟩
theorem BLst.mem (h : BLst w A l c) {x : Bd} (hx : x ∈ l) : Fits x.var ∧ x.tm.At w := by
  obtain ⟨i, hi, e⟩ := List.mem_iff_getElem.1 hx
  obtain ⟨_, _, _, _, h2⟩ := h.get hi
  simpa [List.getD, List.getElem?_eq_getElem hi, e] using h2
theorem BLst.len (h : BLst w A l c) : l.length ≤ 9223372036854775807 := by have := h.1; have := h.2.1; unfold maxLen at *; omega
theorem BLst.nil (w : World) : BLst w none [] 0 := ⟨Nat.le_refl _, Nat.zero_le _, fun h => absurd h (by simp)⟩
theorem BLst.look (h : BLst w A l c) {v : Int} {t : Tm} (ht : look l v = some t) : t.At w := by
  obtain ⟨x, hx, _, rfl⟩ := look_some ht
  exact (h.mem hx).2
end

/-! ### Arguments opened -/
/-- What is asked of the program's types: int, string, []api.Term, api.Term, api.Bind, api.Binds. -/
structure TypesB (P : Program) (I S L T B BL : TypeId) : Prop where
  tms : Types P I S L T
  lst : P.underlying BL = some (.slice B)
  bd : ∃ f0 f1 : Field, P.underlying B = some (.struct #[f0, f1]) ∧ (f0.type = I ∧ f0.offset = 0) ∧ (f1.type = T ∧ f1.offset = 1)
  cB : P.cellsOf B = 5
  cBL : P.cellsOf BL = 1

section
variable {H : Type} {enc : TypeId × Value → H} {P : Program} {W : World} {base : Nat} {spare : Nat → Bool} {held : Bool} {I S L T B BL : TypeId}
theorem bd_of (hy : TypesB P I S L T B BL) (n : Nat) (cs : List Value) (x : DataW H × List MemPlace) (h : DataW.trod enc P W base spare held n B cs = some x) : ∃ y : Bd, cs = y.cells ∧ Fits y.var ∧ y.tm.At W := by
  obtain ⟨f0, f1, hT, ⟨t0, o0⟩, ⟨t1, o1⟩⟩ := hy.bd
  obtain ⟨xs, m, hn, _, hcl, hxl, hg⟩ := DataW.trod_struct hT h
  rw [hy.cB] at hcl
  match cs, hcl with
  | [c0, c1, c2, c3, c4], _ =>
    have hxs : xs.length = 2 := hxl
    have g0 := hg 0 f0 rfl
    have g1 := hg 1 f1 rfl
    rw [t0, o0, hy.tms.cI] at g0
    rw [t1, o1, hy.tms.cT] at g1
    rw [List.getElem?_eq_getElem (by omega)] at g0 g1
    obtain ⟨k, hk, _, wk⟩ := DataW.trod_int hy.tms.int g0
    obtain ⟨t, ht, hat⟩ := tm_of hy.tms _ _ _ g1
    obtain rfl : c0 = .int .i64 k := by simpa using hk
    have ht' : [c1, c2, c3, c4] = t.cells := by simpa using ht
    exact ⟨⟨k, t⟩, by rw [ht']; rfl, int_fits wk, hat⟩
theorem bds_of (hy : TypesB P I S L T B BL) {n : Nat} {v : Value} {x : DataW H × List MemPlace} (h : DataW.trod enc P W base spare held n BL [v] = some x) :
    ∃ (A : Option Addr) (l : List Bd) (c : Nat), v = .slice A l.length c ∧ BLst W A l c := by
  rcases DataW.trod_slice hy.lst h with ⟨hcs, _⟩ | ⟨a, len, cap, elems, rest, n', hn, hcs, _, _, hl, hm, hlen, hel, _⟩
  · obtain rfl : v = .slice none 0 0 := by simpa using hcs
    exact ⟨none, [], 0, rfl, BLst.nil W⟩
  · obtain rfl : v = .slice (some a) len cap := by simpa using hcs
    obtain ⟨f, hf⟩ := Deep.choose_lt (α := Bd) (p := fun i y => W.cells? base (a.add (i * 5)) 5 = some y.cells ∧ Fits y.var ∧ y.tm.At W) (n := len) (fun i hi => by
      have h1 := hel i hi
      rw [hy.cB, List.getElem?_eq_getElem (by omega)] at h1
      obtain ⟨cs', h2, h3⟩ := Option.bind_eq_some_iff.1 h1
      obtain ⟨y, rfl, hy'⟩ := bd_of hy _ _ _ h3
      exact ⟨y, h2, hy'⟩)
    have hll : ((List.range len).map f).length = len := by simp
    refine ⟨some a, (List.range len).map f, cap, by rw [hll], by rw [hll]; exact hl, hm, fun h0 => ?_⟩
    rw [hll] at h0
    obtain ⟨b, o, sp⟩ := a
    have c0 := (World.cells?_some (hf 0 h0).1).2.2 0 (by omega)
    obtain rfl : sp = none := by
      rw [show (f 0).cells[0]? = some (.int .i64 (f 0).var) from rfl] at c0
      simpa [Addr.add] using World.cell?_spot c0
    refine ⟨b, o, rfl, fun i hi => ?_⟩
    rw [hll] at hi
    have e : ((List.range len).map f).getD i default = f i := by simp [List.getD, hi]
    rw [e]
    refine ⟨fun j u hu => ?_, (hf i hi).2⟩
    have hj : j < 5 := by
      have := (List.getElem?_eq_some_iff.1 hu).1
      simpa [Bd.cells] using this
    have := (World.cells?_some (hf i hi).1).2.2 j hj
    rw [add_plain, add_plain, hu] at this
    exact this
end
theorem typesB : TypesB Try.prog 3 9 22 24 50 47 :=
  ⟨⟨Try.underlying3, Try.underlying9, Try.underlying22, ⟨_, _, _, _, Try.underlying24, ⟨rfl, rfl⟩, ⟨rfl, rfl⟩, ⟨rfl, rfl⟩, ⟨rfl, rfl⟩⟩, by kernel_rfl, by kernel_rfl, by kernel_rfl, by kernel_rfl⟩,
    Try.underlying47, ⟨_, _, Try.underlying50, ⟨rfl, rfl⟩, ⟨rfl, rfl⟩⟩, by kernel_rfl, by kernel_rfl⟩
end Go.Proofs.Ytpnjjahimhhjkaa
