/-
  Terms in memory: a tree that lies in a world; that it stays behind calls that leave all blocks; an argument that is a term, or a slice of terms, opened.
  Regions whose calls make memory: the class of worlds in which what was there is as it was; what was laid, behind a call.
  Worlds that agree in some blocks, and what lies in them; a term that lies in blocks of a call's own.
-/
import Derived.Test.YtpnjjahimhhjkaaVxPlain
import Derived.WalkKit
import Derived.Below
import Derived.Lib.Hide
import Derived.Deep.Draws
import Derived.Deep.Slices
import Derived.ProofKit
import Derived.OpenShut
import Derived.BigQuiet
import Derived.Lib.QuietBelow
namespace Go.Proofs.Ytpnjjahimhhjkaa
open Go.ChangeShapes Go.WideShapes Go.ChangeAt Go.RowKit

theorem add_plain (b o k : Nat) : (⟨b, o, none⟩ : Addr).add k = ⟨b, o + k, none⟩ := by unfold Addr.add; split <;> simp_all
theorem below_drewN {B : Nat} {a w : World} (h : Below B a w) (n : Nat) : Below B a (w.drewN n) := ⟨h.os, h.tape, h.output, h.size, h.block⟩

theorem undrew {B : Nat} {w w' : World} (h : Below B w.drew w') : Below B w w' := ⟨h.os, h.tape, h.output, h.size, h.block⟩
theorem undrewN {B n : Nat} {w w' : World} (h : Below B (w.drewN n) w') : Below B w w' := ⟨h.os, h.tape, h.output, h.size, h.block⟩
/-- A struct of four cells that was laid, behind a call. -/
theorem box4 {w w' : World} {v0 v1 v2 v3 : Value} {T : TypeId} (hb : Below (w.alloc (.cells #[v0, v1, v2, v3] T)).heap.size (w.alloc (.cells #[v0, v1, v2, v3] T)) w') :
    w'.cell? ⟨w.heap.size, 0, none⟩ = some v0 ∧ w'.cell? ⟨w.heap.size, 1, none⟩ = some v1 ∧ w'.cell? ⟨w.heap.size, 2, none⟩ = some v2 ∧ w'.cell? ⟨w.heap.size, 3, none⟩ = some v3 ∧ Below w.heap.size w w' := by
  have h : ∀ j, w'.cell? ⟨w.heap.size, j, none⟩ = (#[v0, v1, v2, v3] : Array Value)[j]? := fun j => by
    rw [hb.cell (p := ⟨w.heap.size, j, none⟩) (by simp), World.cell?_alloc_at _ _ _ _ rfl]
  exact ⟨h 0, h 1, h 2, h 3, ((Below.refl _ _).alloc (Nat.le_refl _) _).trans (hb.mono (by simp))⟩

abbrev Tm.val (t : Tm) : Value := .agg #[.int .i64 t.kind, .int .i64 t.num, .string t.name, .slice t.at_ t.args.length t.cap]
def Tm.cells (t : Tm) : List Value := [.int .i64 t.kind, .int .i64 t.num, .string t.name, .slice t.at_ t.args.length t.cap]

/-- An int. -/
def Fits (n : Int) : Prop := -9223372036854775808 ≤ n ∧ n ≤ 9223372036854775807

mutual
def Tm.At (w : World) : Tm → Prop
  | .mk k n s A c a => (Fits k ∧ Fits n ∧ s.size ≤ maxLen) ∧ a.length ≤ c ∧ c ≤ maxLen ∧ (0 < a.length → ∃ b o, A = some ⟨b, o, none⟩ ∧ RowAt w a b o)
def RowAt (w : World) : List Tm → Nat → Nat → Prop
  | [], _, _ => True
  | t :: r, b, o => (w.cell? ⟨b, o, none⟩ = some (.int .i64 t.kind) ∧ w.cell? ⟨b, o + 1, none⟩ = some (.int .i64 t.num) ∧ w.cell? ⟨b, o + 2, none⟩ = some (.string t.name) ∧
      w.cell? ⟨b, o + 3, none⟩ = some (.slice t.at_ t.args.length t.cap)) ∧ t.At w ∧ RowAt w r b (o + 4)
end
/-- The slice at A of capacity c holds the terms l. -/
def Lst (w : World) (A : Option Addr) (l : List Tm) (c : Nat) : Prop := l.length ≤ c ∧ c ≤ maxLen ∧ (0 < l.length → ∃ b o, A = some ⟨b, o, none⟩ ∧ RowAt w l b o)
theorem At_iff (w : World) (t : Tm) : t.At w ↔ (Fits t.kind ∧ Fits t.num ∧ t.name.size ≤ maxLen) ∧ Lst w t.at_ t.args t.cap := by
  cases t with
  | mk k n s A c a => simp only [Tm.At, Lst, Tm.kind, Tm.num, Tm.name, Tm.at_, Tm.args, Tm.cap]

theorem RowAt.get {w : World} {l : List Tm} {b o : Nat} (h : RowAt w l b o) {i : Nat} (hi : i < l.length) :
    (w.cell? ⟨b, o + i * 4, none⟩ = some (.int .i64 (l.getD i default).kind) ∧ w.cell? ⟨b, o + i * 4 + 1, none⟩ = some (.int .i64 (l.getD i default).num) ∧ w.cell? ⟨b, o + i * 4 + 2, none⟩ = some (.string (l.getD i default).name) ∧
      w.cell? ⟨b, o + i * 4 + 3, none⟩ = some (.slice (l.getD i default).at_ (l.getD i default).args.length (l.getD i default).cap)) ∧ (l.getD i default).At w := by
  induction l generalizing o i with
  | nil => simp at hi
  | cons t r ih =>
    simp only [RowAt] at h
    cases i with
    | zero => simpa using ⟨h.1, h.2.1⟩
    | succ i =>
      have := ih h.2.2 (i := i) (by simpa using hi)
      rw [show o + 4 + i * 4 = o + (i + 1) * 4 by omega] at this
      simpa using this
theorem RowAt.of {w : World} {l : List Tm} {b o : Nat}
    (h : ∀ i, i < l.length → (∀ j u, (l.getD i default).cells[j]? = some u → w.cell? ⟨b, o + 4 * i + j, none⟩ = some u) ∧ (l.getD i default).At w) : RowAt w l b o := by
  induction l generalizing o with
  | nil => simp [RowAt]
  | cons t r ih =>
    simp only [RowAt]
    have h0 := h 0 (by simp)
    refine ⟨⟨h0.1 0 _ rfl, h0.1 1 _ rfl, h0.1 2 _ rfl, h0.1 3 _ rfl⟩, h0.2, ih fun i hi => ?_⟩
    have := h (i + 1) (by simpa using hi)
    rw [show o + 4 * (i + 1) = o + 4 + 4 * i by omega] at this
    simpa using this

theorem At_keep {w w' : World} (hb : Below w.heap.size w w') : (∀ t : Tm, t.At w → t.At w') ∧ (∀ (l : List Tm) b o, RowAt w l b o → RowAt w' l b o) := by
  have hc : ∀ p v, w.cell? p = some v → w'.cell? p = some v := fun p v h => by rw [hb.cell (World.block_lt_of_cell? w _ h)]; exact h
  refine Tm.induct2 (fun k n s A c a ih h => ?_) (fun _ _ _ => by simp [RowAt]) (fun t r h1 h2 b o h => ?_)
  · simp only [Tm.At] at h ⊢
    refine ⟨h.1, h.2.1, h.2.2.1, fun hn => ?_⟩
    obtain ⟨b, o, e, hr⟩ := h.2.2.2 hn
    exact ⟨b, o, e, ih b o hr⟩
  · simp only [RowAt] at h ⊢
    exact ⟨⟨hc _ _ h.1.1, hc _ _ h.1.2.1, hc _ _ h.1.2.2.1, hc _ _ h.1.2.2.2⟩, h1 h.2.1, h2 b (o + 4) h.2.2⟩
theorem Tm.At.below {w w' : World} {t : Tm} (h : t.At w) (hb : Below w.heap.size w w') : t.At w' := (At_keep hb).1 t h
theorem Lst.below {w w' : World} {A : Option Addr} {l : List Tm} {c : Nat} (h : Lst w A l c) (hb : Below w.heap.size w w') : Lst w' A l c :=
  ⟨h.1, h.2.1, fun hn => by
    obtain ⟨b, o, e, hr⟩ := h.2.2 hn
    exact ⟨b, o, e, (At_keep hb).2 _ _ _ hr⟩⟩
theorem Tm.At.alloc {w : World} {t : Tm} (h : t.At w) (o : Obj) : t.At (w.alloc o) := h.below ((Below.refl _ _).alloc (Nat.le_refl _) o)
theorem Tm.At.lst {w : World} {t : Tm} (h : t.At w) : Lst w t.at_ t.args t.cap := ((At_iff w t).1 h).2
theorem Lst.get {w : World} {A : Option Addr} {l : List Tm} {c : Nat} (h : Lst w A l c) {i : Nat} (hi : i < l.length) : ∃ b o, A = some ⟨b, o, none⟩ ∧
    (w.cell? ⟨b, o + i * 4, none⟩ = some (.int .i64 (l.getD i default).kind) ∧ w.cell? ⟨b, o + i * 4 + 1, none⟩ = some (.int .i64 (l.getD i default).num) ∧ w.cell? ⟨b, o + i * 4 + 2, none⟩ = some (.string (l.getD i default).name) ∧
      w.cell? ⟨b, o + i * 4 + 3, none⟩ = some (.slice (l.getD i default).at_ (l.getD i default).args.length (l.getD i default).cap)) ∧ (l.getD i default).At w := by
  obtain ⟨b, o, e, hr⟩ := h.2.2 (by omega)
  exact ⟨b, o, e, hr.get hi⟩
theorem Lst.mem {w : World} {A : Option Addr} {l : List Tm} {c : Nat} (h : Lst w A l c) {t : Tm} (ht : t ∈ l) : t.At w := by
  obtain ⟨i, hi, e⟩ := List.mem_iff_getElem.1 ht
  obtain ⟨_, _, _, _, h2⟩ := h.get hi
  simpa [List.getD, List.getElem?_eq_getElem hi, e] using h2
theorem Lst.nil (w : World) : Lst w none [] 0 := ⟨Nat.le_refl _, Nat.zero_le _, fun h => absurd h (by simp)⟩
theorem Lst.used {w : World} {t : Tm} (h : t.At w) (hk : t.kind = 2) : Lst w t.at_ t.used t.cap := by
  unfold Tm.used
  rw [if_pos hk]
  exact h.lst

/-- Where the arguments that a term uses lie. -/
def Tm.uat (t : Tm) : Option Addr := if t.kind = 2 then t.at_ else none
def Tm.ucap (t : Tm) : Nat := if t.kind = 2 then t.cap else 0
theorem Tm.At.ulst {w : World} {t : Tm} (h : t.At w) : Lst w t.uat t.used t.ucap := by
  unfold Tm.used Tm.uat Tm.ucap
  by_cases hk : t.kind = 2
  · rw [if_pos hk, if_pos hk, if_pos hk]; exact h.lst
  · rw [if_neg hk, if_neg hk, if_neg hk]; exact Lst.nil w

/-! ### Arguments opened -/
theorem int_fits {x : Int} (h : (Lit.int .i64 x).wf = true) : Fits x := by
  have h1 : IntKind.i64.min = -9223372036854775808 := rfl
  have h2 : IntKind.i64.max = 9223372036854775807 := rfl
  simp only [Lit.wf, Bool.and_eq_true, decide_eq_true_eq] at h
  unfold Fits
  omega

/-- What is asked of the program's types: int, string, []api.Term, api.Term. -/
structure Types (P : Program) (I S L T : TypeId) : Prop where
  int : P.underlying I = some (.int .i64)
  str : P.underlying S = some .string
  lst : P.underlying L = some (.slice T)
  tm : ∃ f0 f1 f2 f3 : Field, P.underlying T = some (.struct #[f0, f1, f2, f3]) ∧ (f0.type = I ∧ f0.offset = 0) ∧ (f1.type = I ∧ f1.offset = 1) ∧ (f2.type = S ∧ f2.offset = 2) ∧ (f3.type = L ∧ f3.offset = 3)
  cI : P.cellsOf I = 1
  cS : P.cellsOf S = 1
  cL : P.cellsOf L = 1
  cT : P.cellsOf T = 4

section
variable {H : Type} {enc : TypeId × Value → H} {P : Program} {W : World} {base : Nat} {spare : Nat → Bool} {held : Bool} {I S L T : TypeId}

theorem lst_of (hy : Types P I S L T) {n : Nat} {v : Value} {x : DataW H × List MemPlace}
    (ih : ∀ m, m < n → ∀ cs x, DataW.trod enc P W base spare held m T cs = some x → ∃ t : Tm, cs = t.cells ∧ t.At W) (h : DataW.trod enc P W base spare held n L [v] = some x) :
    ∃ (A : Option Addr) (l : List Tm) (c : Nat), v = .slice A l.length c ∧ Lst W A l c := by
  rcases DataW.trod_slice hy.lst h with ⟨hcs, _⟩ | ⟨a, len, cap, elems, rest, n', hn, hcs, _, _, hl, hm, hlen, hel, _⟩
  · obtain rfl : v = .slice none 0 0 := by simpa using hcs
    exact ⟨none, [], 0, rfl, Lst.nil W⟩
  · obtain rfl : v = .slice (some a) len cap := by simpa using hcs
    obtain ⟨f, hf⟩ := Deep.choose_lt (α := Tm) (p := fun i t => W.cells? base (a.add (i * 4)) 4 = some t.cells ∧ t.At W) (n := len) (fun i hi => by
      have h1 := hel i hi
      rw [hy.cT, List.getElem?_eq_getElem (by omega)] at h1
      obtain ⟨cs', h2, h3⟩ := Option.bind_eq_some_iff.1 h1
      obtain ⟨t, rfl, ht⟩ := ih n' (by omega) _ _ h3
      exact ⟨t, h2, ht⟩)
    have hll : ((List.range len).map f).length = len := by simp
    refine ⟨some a, (List.range len).map f, cap, by rw [hll], by rw [hll]; exact hl, hm, fun h0 => ?_⟩
    rw [hll] at h0
    obtain ⟨b, o, sp⟩ := a
    have c0 := (World.cells?_some (hf 0 h0).1).2.2 0 (by omega)
    obtain rfl : sp = none := by
      rw [show (f 0).cells[0]? = some (.int .i64 (f 0).kind) from rfl] at c0
      simpa [Addr.add] using World.cell?_spot c0
    refine ⟨b, o, rfl, RowAt.of fun i hi => ?_⟩
    rw [hll] at hi
    have e : ((List.range len).map f).getD i default = f i := by simp [List.getD, hi]
    rw [e]
    refine ⟨fun j u hu => ?_, (hf i hi).2⟩
    have hj : j < 4 := by
      have := (List.getElem?_eq_some_iff.1 hu).1
      simpa [Tm.cells] using this
    have := (World.cells?_some (hf i hi).1).2.2 j hj
    rw [add_plain, add_plain, hu, Nat.mul_comm i 4] at this
    exact this
theorem tm_of (hy : Types P I S L T) : ∀ (n : Nat) (cs : List Value) (x : DataW H × List MemPlace), DataW.trod enc P W base spare held n T cs = some x → ∃ t : Tm, cs = t.cells ∧ t.At W := by
  intro n
  induction n using Nat.strongRecOn with
  | _ n ih =>
    intro cs x h
    obtain ⟨f0, f1, f2, f3, hT, ⟨t0, o0⟩, ⟨t1, o1⟩, ⟨t2, o2⟩, ⟨t3, o3⟩⟩ := hy.tm
    obtain ⟨xs, m, hn, _, hcl, hxl, hg⟩ := DataW.trod_struct hT h
    rw [hy.cT] at hcl
    match cs, hcl with
    | [c0, c1, c2, c3], _ =>
      have hxs : xs.length = 4 := hxl
      have g0 := hg 0 f0 rfl
      have g1 := hg 1 f1 rfl
      have g2 := hg 2 f2 rfl
      have g3 := hg 3 f3 rfl
      rw [t0, o0, hy.cI] at g0
      rw [t1, o1, hy.cI] at g1
      rw [t2, o2, hy.cS] at g2
      rw [t3, o3, hy.cL] at g3
      rw [List.getElem?_eq_getElem (by omega)] at g0 g1 g2 g3
      obtain ⟨k, hk, _, wk⟩ := DataW.trod_int hy.int g0
      obtain ⟨q, hq, _, wq⟩ := DataW.trod_int hy.int g1
      obtain ⟨s, hs, _, ws⟩ := DataW.trod_string hy.str g2
      obtain ⟨A, l, c, hv, hl⟩ := lst_of (v := c3) hy (fun m' hm' => ih m' (by omega)) g3
      obtain rfl : c0 = .int .i64 k := by simpa using hk
      obtain rfl : c1 = .int .i64 q := by simpa using hq
      obtain rfl : c2 = .string s := by simpa using hs
      subst hv
      exact ⟨.mk k q s A c l, rfl, (At_iff _ _).2 ⟨⟨int_fits wk, int_fits wq, ws⟩, hl⟩⟩
/-- A term by value. -/
theorem open_tm (hy : Types P I S L T) {r : Reach} {b0 : Nat} {v : Value} {d : DataW H} {p : List MemPlace} (hv : Value.okWide P W r b0 T v) (h : DataW.Trod enc P W base spare held T v d p) :
    ∃ t : Tm, v = t.val ∧ t.At W := by
  obtain ⟨f0, f1, f2, f3, hT, _⟩ := hy.tm
  obtain ⟨cs, rfl, hsz⟩ := okWide_struct hT hv
  obtain ⟨fuel, hf⟩ := h
  obtain ⟨t, ht, hat⟩ := tm_of hy _ _ _ hf
  refine ⟨t, ?_, hat⟩
  have : cs.toList = t.cells := ht
  rw [← Array.toArray_toList (xs := cs), this]
  rfl
/-- A slice of terms, one cell. -/
theorem open_lst (hy : Types P I S L T) {n : Nat} {v : Value} {x : DataW H × List MemPlace} (h : DataW.trod enc P W base spare held n L [v] = some x) :
    ∃ (A : Option Addr) (l : List Tm) (c : Nat), v = .slice A l.length c ∧ Lst W A l c := lst_of hy (fun m _ => tm_of hy m) h
end
end Go.Proofs.Ytpnjjahimhhjkaa
namespace Go.Proofs.Ytpnjjahimhhjkaa
open Go.RowKit Go.Sort

theorem regrown_below {W w1 : World} (h : ∃ p : Regrown, w1 = grow (redrawn W p.d) p.os) : Below W.heap.size W w1 := by
  obtain ⟨p, rfl⟩ := h
  exact below_regrown _ _ _
theorem withBelow {P : Program} {f : FuncId} {args : Array Value} {w : World} {v : Value} (h : Calls P f args w fun e w' => e = .returned v ∧ w = w') : Calls P f args w fun e w' => e = .returned v ∧ Below w.heap.size w w' :=
  h.mono fun _ _ ⟨he, hw⟩ => ⟨he, by rw [← hw]; exact Below.refl _ _⟩
/-- What was laid, in each world of the class, and behind a call. -/
theorem boxedN (w : World) (cs : Array Value) (T : TypeId) (j : Nat) (v : Value) (h : cs[j]? = some v) : ∀ d os, (grow (redrawn (w.alloc (.cells cs T)) d) os).cell? ⟨w.heap.size, j, none⟩ = some v :=
  cell_regrown (by rw [World.cell?_alloc_at _ _ _ _ rfl, h])
theorem boxN {w w' : World} {cs : Array Value} {T : TypeId} (hb : Below (w.alloc (.cells cs T)).heap.size (w.alloc (.cells cs T)) w') (j : Nat) (v : Value) (h : cs[j]? = some v) : w'.cell? ⟨w.heap.size, j, none⟩ = some v := by
  rw [hb.cell (p := ⟨w.heap.size, j, none⟩) (by simp), World.cell?_alloc_at _ _ _ _ rfl, h]
theorem below1 (w : World) (o : Obj) : Below w.heap.size w (w.alloc o) := (Below.refl _ _).alloc (Nat.le_refl _) _
end Go.Proofs.Ytpnjjahimhhjkaa
namespace Go.Proofs.Ytpnjjahimhhjkaa
open Go.RowKit

/-- W has w's blocks from lo on, but for those of X. -/
def Agree (lo : Nat) (X : Nat → Prop) (w W : World) : Prop := ∀ b, lo ≤ b → b < w.heap.size → ¬ X b → W.heap[b]? = w.heap[b]?
theorem Agree.refl (lo : Nat) (X : Nat → Prop) (w : World) : Agree lo X w w := fun _ _ _ _ => rfl
theorem Agree.cell {lo : Nat} {X : Nat → Prop} {w W : World} (h : Agree lo X w W) {p : Addr} (h1 : lo ≤ p.block) (h2 : p.block < w.heap.size) (h3 : ¬ X p.block) : W.cell? p = w.cell? p := by
  have := h p.block h1 h2 h3
  simp only [World.cell?, this]
abbrev No : Nat → Prop := fun _ => False
abbrev Is (b : Nat) : Nat → Prop := fun k => k = b
/-- In each world of B that has w's blocks from lo on, but for those of X, the term lies. -/
def Lie (B : World → Prop) (lo : Nat) (X : Nat → Prop) (w : World) (t : Tm) : Prop := ∀ W, B W → Agree lo X w W → t.At W
abbrev Any : World → Prop := fun _ => True
section
variable {B : World → Prop} {lo : Nat} {X : Nat → Prop} {w w' : World} {t : Tm}
theorem Lie.at (h : Lie B lo X w t) (hB : B w) : t.At w := h w hB (Agree.refl _ _ _)
theorem Agree.less {W : World} (h : Agree lo X w' W) {lo' : Nat} {Y : Nat → Prop} (hs : w.heap.size ≤ w'.heap.size) (hc : ∀ b, lo' ≤ b → b < w.heap.size → ¬ Y b → lo ≤ b ∧ ¬ X b ∧ w'.heap[b]? = w.heap[b]?) : Agree lo' Y w W := fun b h1 h2 h3 =>
  (h b (hc b h1 h2 h3).1 (Nat.lt_of_lt_of_le h2 hs) (hc b h1 h2 h3).2.1).trans (hc b h1 h2 h3).2.2
theorem Lie.less {lo' : Nat} {Y : Nat → Prop} (h : Lie B lo' Y w t) (hs : w.heap.size ≤ w'.heap.size) (hc : ∀ b, lo' ≤ b → b < w.heap.size → ¬ Y b → lo ≤ b ∧ ¬ X b ∧ w'.heap[b]? = w.heap[b]?) : Lie B lo X w' t := fun W hB hW => h W hB (hW.less hs hc)
theorem Lie.below (h : Lie B lo X w t) (k : Below w.heap.size w w') : Lie B lo X w' t := h.less k.size fun b h1 h2 h3 => ⟨h1, h3, k.block b h2⟩
theorem Lie.low (h : Lie B lo X w t) {lo' : Nat} (hl : lo' ≤ lo) : Lie B lo' X w t := h.less (Nat.le_refl _) fun b h1 _ h3 => ⟨by omega, h3, rfl⟩
theorem Lie.out {Y : Nat → Prop} (h : Lie B lo Y w t) (hY : ∀ b, lo ≤ b → b < w.heap.size → X b → Y b) : Lie B lo X w t := h.less (Nat.le_refl _) fun b h1 h2 h3 => ⟨h1, fun hx => h3 (hY b h1 h2 hx), rfl⟩
theorem Lie.set (h : Lie B lo X w t) {p : Addr} (hp : p.block < lo ∨ X p.block) (v : Value) : Lie B lo X (w.setCell p v) t := h.less (by simp [World.setCell]) fun b h1 _ h3 => ⟨h1, h3, Below.heap_setCell _ _ _ _ (fun e => hp.elim (fun h => by omega) (fun h => h3 (e ▸ h)))⟩
theorem Lie.alloc (h : Lie B lo X w t) (o : Obj) : Lie B lo X (w.alloc o) t := h.below ((Below.refl _ _).alloc (Nat.le_refl _) o)
/-- A block that is laid behind it is not the term's. -/
theorem Lie.new (h : Lie B lo X w t) (o : Obj) : Lie B lo (fun k => X k ∨ k = w.heap.size) (w.alloc o) t := h.less (by simp) fun b h1 h2 h3 => ⟨h1, fun hx => hx.elim h3 (by omega), Below.heap_alloc _ _ _ h2⟩
theorem Lie.any (ht : ∀ W, B W → t.At W) : Lie B lo X w t := fun W hB _ => ht W hB
theorem Lie.of (h : Lie Any lo X w t) : Lie B lo X w t := fun W _ hW => h W trivial hW
/-- A term that lies in blocks that are newer than block T. -/
theorem Lie.new_is {T : Nat} (h : Lie B lo No w t) (hT : T < lo) : Lie B lo (Is T) w t := h.out fun b h1 _ h3 => by have : b = T := h3; omega
end
/-- All blocks that were there are as they were, but for block R. -/
structure Keeps (R : Nat) (w w' : World) : Prop where
  os : w'.os = w.os
  tape : w'.tape = w.tape
  output : w'.output = w.output
  size : w.heap.size ≤ w'.heap.size
  block : ∀ k, k < w.heap.size → k ≠ R → w'.heap[k]? = w.heap[k]?

theorem Keeps.refl (R : Nat) (w : World) : Keeps R w w := ⟨rfl, rfl, rfl, Nat.le_refl _, fun _ _ _ => rfl⟩
theorem Keeps.trans {R : Nat} {a b c : World} (h : Keeps R a b) (k : Keeps R b c) : Keeps R a c :=
  ⟨k.os.trans h.os, k.tape.trans h.tape, k.output.trans h.output, Nat.le_trans h.size k.size, fun i hi hr => (k.block i (Nat.lt_of_lt_of_le hi h.size) hr).trans (h.block i hi hr)⟩
theorem Below.keeps {w w' : World} (h : Below w.heap.size w w') (R : Nat) : Keeps R w w' := ⟨h.os, h.tape, h.output, h.size, fun k hk _ => h.block k hk⟩
theorem Keeps.drew {R : Nat} {a w : World} (h : Keeps R a w) : Keeps R a w.drew := ⟨h.os, h.tape, h.output, h.size, h.block⟩
theorem Keeps.drewN {R : Nat} {a w : World} (h : Keeps R a w) (n : Nat) : Keeps R a (w.drewN n) := ⟨h.os, h.tape, h.output, h.size, h.block⟩
theorem Keeps.alloc {R : Nat} {a w : World} (h : Keeps R a w) (o : Obj) : Keeps R a (w.alloc o) := h.trans (Below.keeps ((Below.refl _ _).alloc (Nat.le_refl _) o) R)
theorem Keeps.set {R : Nat} {a w : World} (h : Keeps R a w) (q : Nat) (sp : Option Nat) (v : Value) : Keeps R a (w.setCell ⟨R, q, sp⟩ v) :=
  h.trans ⟨rfl, rfl, rfl, by simp [World.setCell], fun k _ hr => Below.heap_setCell _ _ _ _ hr⟩
/-- A store into a block that is new since a. -/
theorem Keeps.own {R : Nat} {a w : World} (h : Keeps R a w) {p : Addr} (hp : a.heap.size ≤ p.block) (v : Value) : Keeps R a (w.setCell p v) :=
  ⟨h.os, h.tape, h.output, by simpa [World.setCell] using h.size, fun k hk hr => (Below.heap_setCell _ _ _ _ (by omega)).trans (h.block k hk hr)⟩
theorem Keeps.cell {R : Nat} {w w' : World} (h : Keeps R w w') {p : Addr} (hp : p.block < w.heap.size) (hr : p.block ≠ R) : w'.cell? p = w.cell? p := by
  have := h.block p.block hp hr
  simp only [World.cell?, this]
theorem Keeps.frozen {R : Nat} {w w' : World} (h : Keeps R w w') {p : Addr} (hp : p.block < w.heap.size) (hr : p.block ≠ R) : w'.frozen? p = w.frozen? p := by
  have := h.block p.block hp hr
  simp only [World.frozen?, this]
/-- A reader that is new since a: below a's end nothing has turned. -/
theorem Keeps.below {R : Nat} {a w w' : World} (hb : Below a.heap.size a w) (h : Keeps R w w') (hR : a.heap.size ≤ R) : Below a.heap.size a w' :=
  hb.trans ⟨h.os, h.tape, h.output, h.size, fun k hk => h.block k (Nat.lt_of_lt_of_le hk hb.size) (by omega)⟩

theorem Keeps.grown {R : Nat} {a w w' : World} {row : Option Nat} (h : Keeps R a w) (hg : w.grownBy w' row) (hr : ∀ k, row = some k → a.heap.size ≤ k) : Keeps R a w' :=
  ⟨hg.os.trans h.os, hg.tape.trans h.tape, hg.output.trans h.output, Nat.le_trans h.size hg.size, fun k hk hR =>
    (hg.block k (Nat.lt_of_lt_of_le hk h.size) (fun e => by have := hr k e.symm; omega)).trans (h.block k hk hR)⟩

theorem Lie.keeps {B : World → Prop} {lo R : Nat} {X : Nat → Prop} {w w' : World} {t : Tm} (h : Lie B lo X w t) (k : Keeps R w w') (hR : R < lo ∨ X R) : Lie B lo X w' t := h.less k.size fun b h1 h2 h3 => ⟨h1, h3, k.block b h2 (fun e => hR.elim (fun h => by omega) (fun h => h3 (e ▸ h)))⟩
theorem keepv {w w' : World} (hb : Below w.heap.size w w') {p : Addr} {v : Value} (h : w.cell? p = some v) : w'.cell? p = some v := by
  rw [hb.cell (World.block_lt_of_cell? w _ h)]; exact h
end Go.Proofs.Ytpnjjahimhhjkaa
