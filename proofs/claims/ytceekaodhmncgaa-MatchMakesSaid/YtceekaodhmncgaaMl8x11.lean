/-
  Contract of into of the reference: a binding is put between others.
  Contracts of entry and insert of the reference.
  Contract of insert of the reference.
  Contracts of lists, Term and Atom of the reference.
  Contracts of Term and Atom of the reference.
-/
import Derived.Test.YtceekaodhmncgaaMl8x10
import Derived.Test.YtceekaodhmncgaaMl8x4
import Derived.Maps.AppendAt
import Derived.Deep.AppendSrc
import Derived.Test.YtceekaodhmncgaaMl8x7
import Derived.Test.YtceekaodhmncgaaMl8x8
import Derived.Test.YtceekaodhmncgaaMl8x6
import Derived.Test.YtceekaodhmncgaaMl8x9
namespace Go.Proofs.Ytceekaodhmncgaa
open Go.RowKit

theorem ins_at {x : Bd} : ∀ {l : List Bd} {k : Nat}, k ≤ l.length → (∀ i, i < k → (l.getD i default).var < x.var) → (k < l.length → ¬ (l.getD k default).var < x.var) → insB x l = l.take k ++ [x] ++ l.drop k := by
  intro l
  induction l with
  | nil =>
    intro k hk _ _
    obtain rfl : k = 0 := by simpa using hk
    rfl
  | cons y r ih =>
    intro k hk h1 h2
    cases k with
    | zero =>
      have := h2 (by simp)
      simp only [List.getD_cons_zero] at this
      simp only [insB, if_neg this, List.take_zero, List.drop_zero, List.nil_append, List.singleton_append]
    | succ k =>
      have h0 := h1 0 (by omega)
      simp only [List.getD_cons_zero] at h0
      simp only [insB, if_pos h0, List.take_succ_cons, List.drop_succ_cons, List.cons_append]
      rw [ih (by simpa using hk) (fun i hi => by simpa using h1 (i + 1) (by omega)) (fun hk => by simpa using h2 (by simpa using hk))]

/-- append onto a row of the call's own, of whatever there is (nothing, too). -/
theorem wpList_append_b {ops : Array Oper} {rest : List Oper} {o : Oper} {a : Act} {Q : Exit → Act → World → Prop} {w : World} (hgd : o.guard = none) (s x : Operand)
    (ho : o.op = .call { callee := .builtin .append, args := #[s, x], argTypes := #[22, 22] })
    (base : Nat) (g n cap : Nat) (xs : List Value) (hs : a.eval s = .slice (some ⟨g, 0, none⟩) n cap) (hown : w.ownsRow base 55 5 (.slice (some ⟨g, 0, none⟩) n cap) n xs)
    (A : Option Addr) (m c : Nat) (news : List Value) (hx : a.eval x = .slice A m c) (hl : news.length = m * 5) (hA : A = none → m = 0) (hnews : ∀ ad, A = some ad → ∀ j u, news[j]? = some u → w.cell? (ad.add j) = some u) (h1 : ∀ u ∈ news, u.oneCell' = true)
    (hb : n + m ≤ 2000001) (hbase : base ≤ w.heap.size)
    (h : ∀ g' cap' w', w'.ownsRow base 55 5 (.slice (some ⟨g', 0, none⟩) (n + m) cap') (n + m) (xs ++ news) → w.grownBy w' (some g) → (some g = some g' ∨ g' = w.heap.size) → wpList Try.prog ops Q rest (a.put o.dst (.slice (some ⟨g', 0, none⟩) (n + m) cap')) w') :
    wpList Try.prog ops Q (o :: rest) a w := by
  obtain ⟨i0, hi, hz0, hz1, hz2⟩ := info_parts bind_info
  have ht : Try.prog.underlying 22 = some (.slice 55) := Try.underlying22
  refine wpList_plain hgd fun K hK => ?_
  have hrun : ∃ g' cap' w', (Builtin.append_ #[22, 22] o.type #[.slice (some ⟨g, 0, none⟩) n cap, .slice A m c]).run Try.prog w = .ok (.slice (some ⟨g', 0, none⟩) (n + m) cap') w' ∧
      w'.ownsRow base 55 5 (.slice (some ⟨g', 0, none⟩) (n + m) cap') (n + m) (xs ++ news) ∧ w.grownBy w' (some g) ∧ (some g = some g' ∨ g' = w.heap.size) := by
    cases A with
    | none =>
      obtain rfl : m = 0 := hA rfl
      obtain rfl : news = [] := List.length_eq_zero_iff.1 (by simpa using hl)
      have hcap : n + 0 ≤ cap := by
        rcases hown.2 with ⟨e, _⟩ | ⟨_, _, _, e, _, _, hle, _⟩
        · injection e with e; cases e
        · injection e with _ _ e3
          subst e3
          omega
      have hr := run_append_room_src (P := Try.prog) w 22 22 o.type 55 i0 ht hi g 0 n cap (.slice none 0 c) 0 [] (Src.ofNil w ht c) hcap (fun j hj => by simp at hj) (fun j hj => by simp at hj)
      refine ⟨g, cap, w, hr, ?_, ⟨rfl, rfl, rfl, Nat.le_refl _, fun _ _ _ => rfl⟩, .inl rfl⟩
      rw [List.append_nil]
      exact hown
    | some ad =>
      obtain ⟨v', w', hr, h2, h3, h4, h5⟩ := run_append_own_at (P := Try.prog) w base 22 o.type 55 i0 _ 5 64 ht hi hz0 hz1 hz2 rfl (by decide) _ n xs hown ad m c news hl (hnews ad rfl) h1 (by unfold maxLen; omega) (by omega) hbase
      rcases h2.2 with ⟨e, _⟩ | ⟨g', cap', cur, e, _⟩
      · have := (h4.1 e).1
        injection this with this; cases this
      · subst e
        refine ⟨g', cap', w', hr, h2, h3, ?_⟩
        rcases h5 with h5 | h5
        · exact .inl h5.symm
        · exact .inr (by simpa [Value.ownBlock] using h5)
  obtain ⟨g', cap', w', hr, h2, h3, h4⟩ := hrun
  unfold Oper.wp execOp
  simp only [ho, resolve, invoke, builtin, Sem.run_bind, Sem.run_pure, Result.andThen_ok, List.map_toArray, List.map_cons, List.map_nil, hs, hx, hr]
  exact hK _ _ (h g' cap' w' h2 h3 h4)
theorem RowB.of_own {B : World → Prop} {lo g n cap : Nat} {w w' : World} {xs : List Value} {l : List Bd} (hown : w'.ownsRow lo 55 5 (.slice (some ⟨g, 0, none⟩) n cap) n xs) (hx : xs = bcells l) (hn : n = l.length) (he : ∀ x ∈ l, Fits x.var ∧ Lie B lo No w x.tm) (hb : Below w.heap.size w w') (hg : w.heap.size ≤ g) : RowB B lo w' (.slice (some ⟨g, 0, none⟩) n cap) l := by
  subst hx hn
  refine ⟨hown, fun x hx => ⟨(he x hx).1, ((he x hx).2.out (X := fun k => (Value.slice (some ⟨g, 0, none⟩) l.length cap).ownBlock = some k) fun b _ h2 h3 => ?_).below hb⟩⟩
  have : g = b := by simpa [Value.ownBlock] using h3
  omega
/-- The cells of a part of a list. -/
theorem BLst.part {w : World} {b o c : Nat} {l : List Bd} (h : BLst w (some ⟨b, o, none⟩) l c) (k m : Nat) (hkm : k + m ≤ l.length) : ∀ j u, (bcells ((l.drop k).take m))[j]? = some u → w.cell? ⟨b, o + k * 5 + j, none⟩ = some u := by
  intro j u hu
  have hlen : ((l.drop k).take m).length = m := by simp; omega
  have hj : j < m * 5 := by
    have := (List.getElem?_eq_some_iff.1 hu).1
    rwa [bcells_len, hlen] at this
  have h5 : j = (j / 5) * 5 + j % 5 := by omega
  have hi : j / 5 < m := by omega
  have hu' : (bcells ((l.drop k).take m))[j / 5 * 5 + j % 5]? = some u := by rw [← h5]; exact hu
  rw [bcells_get _ (by omega) (by omega)] at hu'
  have e : ((l.drop k).take m).getD (j / 5) default = l.getD (k + j / 5) default := by
    simp [List.getD, hi, List.getElem?_drop]
  rw [e] at hu'
  obtain ⟨b', o', e', hr⟩ := h.2.2 (by omega)
  injection e' with e'
  injection e' with e1 e2 _
  subst e1 e2
  have hc := (hr (k + j / 5) (by omega)).1 (j % 5) u hu'
  have e3 : o + k * 5 + j = o + (k + j / 5) * 5 + j % 5 := by omega
  rw [e3]
  exact hc

/-- What into hands out. -/
def IntoR (w0 : World) (l : List Bd) (u : Bd) (w : World) (e : Ending) (w' : World) : Prop :=
  ∃ A' c', e = .returned (.slice A' (l.length + 1) c') ∧ RowB (From w0) w0.heap.size w' (.slice A' (l.length + 1) c') (insB u l) ∧ Below w.heap.size w w'
theorem insB_len (u : Bd) (l : List Bd) : (insB u l).length = l.length + 1 := by simpa using (insB_perm u l).length_eq
theorem bcells_ones (l : List Bd) : ∀ v ∈ bcells l, v.oneCell' = true := by
  intro v hv
  obtain ⟨x, _, hx⟩ := List.mem_flatMap.1 hv
  exact bcells_one x v hx
theorem BLst.take_cells {w : World} {b o c : Nat} {l : List Bd} (h : BLst w (some ⟨b, o, none⟩) l c) {k : Nat} (hk : k ≤ l.length) : ∀ ad, (some ⟨b, o, none⟩ : Option Addr) = some ad → ∀ j u, (bcells (l.take k))[j]? = some u → w.cell? (ad.add j) = some u := by
  intro ad e j u hu
  injection e with e
  subst e
  have := h.part 0 k (by omega) j u (by simpa using hu)
  rw [add_plain]
  simpa using this
theorem BLst.drop_cells {w : World} {b o c : Nat} {l : List Bd} (h : BLst w (some ⟨b, o, none⟩) l c) {k : Nat} (hk : k ≤ l.length) : ∀ ad, (some ⟨b, o + k * 5, none⟩ : Option Addr) = some ad → ∀ j u, (bcells (l.drop k))[j]? = some u → w.cell? (ad.add j) = some u := by
  intro ad e j u hu
  injection e with e
  subst e
  have := h.part k (l.length - k) (by omega) j u (by rw [List.take_of_length_le (by simp)]; exact hu)
  rw [add_plain]
  exact this

/-- The states behind the three appends. -/
theorem into_one {w wr : World} {cs : Array Value} {T : TypeId} {nq b k g1 cap1 : Nat} {w1 : World} {xs : List Value} (HWD : Below (w.alloc (.cells cs T)).heap.size (w.alloc (.cells cs T)) (wr.drewN nq)) (hsw : w.heap.size + 1 ≤ wr.heap.size)
    (hown1 : w1.ownsRow b 55 5 (.slice (some ⟨g1, 0, none⟩) (0 + k) cap1) (0 + k) ([] ++ xs)) (hg1 : ((wr.drewN nq).alloc (.cells #[] 55)).grownBy w1 (some wr.heap.size)) (hat1 : some wr.heap.size = some g1 ∨ g1 = ((wr.drewN nq).alloc (.cells #[] 55)).heap.size) :
    w.heap.size + 1 ≤ w1.heap.size ∧ w.heap.size + 1 ≤ g1 ∧ Hid (w1.ownsRow b 55 5 (.slice (some ⟨g1, 0, none⟩) k cap1) k xs) ∧ Hid (Below (w.alloc (.cells cs T)).heap.size (w.alloc (.cells cs T)) w1) := by
  rw [Nat.zero_add, List.nil_append] at hown1
  have hb := (HWD.alloc HWD.size _).grown hg1 (by simp; omega) (fun k hk => by injection hk with hk; simp; omega)
  refine ⟨by have := hb.size; simpa using this, ?_, Lib.hid hown1, Lib.hid hb⟩
  rcases hat1 with h | h
  · injection h with h; omega
  · rw [h]; simp; omega
theorem into_two {w w1 w2 : World} {b n g1 g2 cap2 : Nat} {o : Obj} {xs : List Value} (hb : Below w.heap.size w w1) (hg1' : w.heap.size + 1 ≤ g1) (hown2 : w2.ownsRow b 55 5 (.slice (some ⟨g2, 0, none⟩) n cap2) n xs) (hg2 : (w1.alloc o).grownBy w2 (some g1)) (hat2 : some g1 = some g2 ∨ g2 = (w1.alloc o).heap.size) :
    w.heap.size ≤ w2.heap.size ∧ w.heap.size + 1 ≤ g2 ∧ Hid (w2.ownsRow b 55 5 (.slice (some ⟨g2, 0, none⟩) n cap2) n xs) ∧ Hid (Below w.heap.size w w2) := by
  have hs := hb.size
  have hb2 := (hb.alloc hb.size o).grown hg2 (by simp; omega) (fun k hk => by injection hk with hk; omega)
  refine ⟨hb2.size, ?_, Lib.hid hown2, Lib.hid hb2⟩
  rcases hat2 with h | h
  · injection h with h; omega
  · rw [h]; simp; omega
theorem into_three {w w2 w3 : World} {B : World → Prop} {lo n m g2 g3 cap3 : Nat} {xs : List Value} {l : List Bd} (hb : Below w.heap.size w w2) (hs2 : w.heap.size ≤ w2.heap.size) (hg2' : w.heap.size + 1 ≤ g2) (hnm : n = m) (hown3 : w3.ownsRow lo 55 5 (.slice (some ⟨g3, 0, none⟩) n cap3) n xs) (hg3 : w2.grownBy w3 (some g2)) (hat3 : some g2 = some g3 ∨ g3 = w2.heap.size)
    (hl : l.length = m) (he : ∀ x ∈ l, Fits x.var ∧ Lie B lo No w x.tm) (hx : xs = bcells l) : Hid (RowB B lo w3 (.slice (some ⟨g3, 0, none⟩) m cap3) l) ∧ Hid (Below w.heap.size w w3) := by
  subst hnm
  have hb3 := hb.grown hg3 hs2 (fun k hk => by injection hk with hk; omega)
  refine ⟨Lib.hid (RowB.of_own hown3 hx hl.symm he hb3 ?_), Lib.hid hb3⟩
  rcases hat3 with h | h
  · injection h with h; omega
  · rw [h]; exact hs2

end Go.Proofs.Ytceekaodhmncgaa
namespace Go.Proofs.Ytceekaodhmncgaa
open Go.RowKit

theorem insE_at {x : Bd} : ∀ {l : List Bd} {k : Nat}, k ≤ l.length → (∀ i, i < k → (l.getD i default).var ≤ x.var) → (k < l.length → x.var < (l.getD k default).var) → insE x l = l.take k ++ [x] ++ l.drop k := by
  intro l
  induction l with
  | nil =>
    intro k hk _ _
    obtain rfl : k = 0 := by simpa using hk
    rfl
  | cons y r ih =>
    intro k hk h1 h2
    cases k with
    | zero =>
      have := h2 (by simp)
      simp only [List.getD_cons_zero] at this
      simp only [insE, if_pos this, List.take_zero, List.drop_zero, List.nil_append, List.singleton_append]
    | succ k =>
      have h0 := h1 0 (by omega)
      simp only [List.getD_cons_zero] at h0
      simp only [insE, if_neg (show ¬ x.var < y.var by omega), List.take_succ_cons, List.drop_succ_cons, List.cons_append]
      rw [ih (by simpa using hk) (fun i hi => by simpa using h1 (i + 1) (by omega)) (fun hk => by simpa using h2 (by simpa using hk))]

theorem run_append_none {P : Program} {w : World} (t ty e : TypeId) (i : TypeInfo) (ht : P.underlying t = some (.slice e)) (hi : P.info? e = some i) (c : Nat) :
    (Builtin.append_ #[t, t] ty #[.slice none 0 0, .slice none 0 c]).run P w = .ok (.slice none 0 0) w := by
  simp [Builtin.append_, run_underlying ht, sizeOf, typeInfo, hi, Builtin.lenOf, run_firstCells_none]
theorem wpList_append_z {ops : Array Oper} {rest : List Oper} {o : Oper} {a : Act} {Q : Exit → Act → World → Prop} {w : World} (hgd : o.guard = none) (s x : Operand)
    (ho : o.op = .call { callee := .builtin .append, args := #[s, x], argTypes := #[22, 22] })
    (base : Nat) (z : Value) (n : Nat) (xs : List Value) (hs : a.eval s = z) (hown : w.ownsRow base 55 5 z n xs)
    (A : Option Addr) (m c : Nat) (news : List Value) (hx : a.eval x = .slice A m c) (hl : news.length = m * 5) (hA : A = none → m = 0) (hnews : ∀ ad, A = some ad → ∀ j u, news[j]? = some u → w.cell? (ad.add j) = some u) (h1 : ∀ u ∈ news, u.oneCell' = true)
    (hb : n + m ≤ 2000001) (hbase : base ≤ w.heap.size)
    (h : ∀ z' w', w'.ownsRow base 55 5 z' (n + m) (xs ++ news) → w.grownBy w' z.ownBlock → wpList Try.prog ops Q rest (a.put o.dst z') w') :
    wpList Try.prog ops Q (o :: rest) a w := by
  obtain ⟨i0, hi, hz0, hz1, hz2⟩ := info_parts bind_info
  have ht : Try.prog.underlying 22 = some (.slice 55) := Try.underlying22
  refine wpList_plain hgd fun K hK => ?_
  have hrun : ∃ z' w', (Builtin.append_ #[22, 22] o.type #[z, .slice A m c]).run Try.prog w = .ok z' w' ∧
      w'.ownsRow base 55 5 z' (n + m) (xs ++ news) ∧ w.grownBy w' z.ownBlock := by
    cases A with
    | none =>
      obtain rfl : m = 0 := hA rfl
      obtain rfl : news = [] := List.length_eq_zero_iff.1 (by simpa using hl)
      have hown0 := hown
      rcases hown.2 with ⟨rfl, _⟩ | ⟨g, cap, cur, rfl, _, _, hle, _⟩
      · refine ⟨_, w, run_append_none _ _ _ i0 ht hi c, ?_, ⟨rfl, rfl, rfl, Nat.le_refl _, fun _ _ _ => rfl⟩⟩
        rw [List.append_nil]; exact hown0
      · have hr := run_append_room_src (P := Try.prog) w 22 22 o.type 55 i0 ht hi g 0 n cap (.slice none 0 c) 0 [] (Src.ofNil w ht c) (by omega) (fun j hj => by simp at hj) (fun j hj => by simp at hj)
        refine ⟨_, w, hr, ?_, ⟨rfl, rfl, rfl, Nat.le_refl _, fun _ _ _ => rfl⟩⟩
        rw [List.append_nil]; exact hown0
    | some ad =>
      obtain ⟨v', w', hr, h2, h3, _, _⟩ := run_append_own_at (P := Try.prog) w base 22 o.type 55 i0 _ 5 64 ht hi hz0 hz1 hz2 rfl (by decide) _ n xs hown ad m c news hl (hnews ad rfl) h1 (by unfold maxLen; omega) (by omega) hbase
      exact ⟨v', w', hr, h2, h3⟩
  obtain ⟨z', w', hr, h2, h3⟩ := hrun
  unfold Oper.wp execOp
  simp only [ho, resolve, invoke, builtin, Sem.run_bind, Sem.run_pure, Result.andThen_ok, List.map_toArray, List.map_cons, List.map_nil, hs, hx, hr]
  exact hK _ _ (h z' w' h2 h3)

/-- A list of bindings in a row that was made behind the world w7; what they hold lay there before. -/
structure Cat (w7 : World) (z : Value) (l : List Bd) (W : World) : Prop where
  own : W.ownsRow w7.heap.size 55 5 z l.length (bcells l)
  ex : Below w7.heap.size w7 W
  tm : ∀ x ∈ l, Fits x.var ∧ x.tm.At w7
section
variable {w7 W W' : World} {z z' : Value} {l m : List Bd}
theorem Cat.nil (h : Below w7.heap.size w7 W) : Cat w7 (.slice none 0 0) [] W := ⟨⟨rfl, .inl ⟨rfl, rfl⟩⟩, h, fun x hx => by cases hx⟩
theorem Cat.al (h : Cat w7 z l W) (o : Obj) : Cat w7 z l (W.alloc o) := ⟨h.own.alloc _, h.ex.alloc h.ex.size _, h.tm⟩
theorem Cat.app {n : Nat} {xs : List Value} (h : Cat w7 z l W) (hm : ∀ x ∈ m, Fits x.var ∧ x.tm.At w7) (hown : W'.ownsRow w7.heap.size 55 5 z' n xs) (hn : n = l.length + m.length) (hx : xs = bcells l ++ bcells m) (hg : W.grownBy W' z.ownBlock) : Cat w7 z' (l ++ m) W' := by
  refine ⟨?_, h.ex.grown hg h.ex.size fun k e => (own_lt h.own k e).1, fun x hx => ?_⟩
  · rw [List.length_append, bcells_append, ← hn, ← hx]; exact hown
  · rcases List.mem_append.1 hx with hx | hx
    · exact h.tm x hx
    · exact hm x hx
theorem Cat.form (h : Cat w7 z l W) : ∃ A c, z = .slice A l.length c ∧ (l = [] ∨ ∃ g, A = some ⟨g, 0, none⟩) := by
  rcases h.own.2 with ⟨rfl, h1⟩ | ⟨g, cap, cur, rfl, _⟩
  · exact ⟨none, 0, by rw [h1], .inl (List.length_eq_zero_iff.1 h1)⟩
  · exact ⟨_, cap, rfl, .inr ⟨g, rfl⟩⟩
theorem Cat.blst {A : Option Addr} {c : Nat} (h : Cat w7 (.slice A l.length c) l W) : BLst W A l c := by
  have hl := bcells_len l
  rcases h.own.2 with ⟨e, h1⟩ | ⟨g, cap, cur, e, hb, hg, hle, hcap, hcs, hcur⟩
  · injection e with e1 _ e3
    obtain rfl : l = [] := List.length_eq_zero_iff.1 h1
    rw [e1, e3]; exact BLst.nil W
  · injection e with e1 _ e3
    subst e1 e3
    refine ⟨hle, hcap, fun h0 => ⟨g, 0, rfl, fun i hi => ⟨fun j u hu => ?_, (h.tm _ (bgetD_mem hi)).1, (h.tm _ (bgetD_mem hi)).2.below h.ex⟩⟩⟩
    have hj := bcells_lt hu
    have hc := World.ownsRow.cellAt h.own (i * 5 + j) (by omega)
    rw [Nat.zero_add, hc]
    exact (bcells_get l hi hj).trans hu
end

/-- What entry answers. -/
def EntryR (l : List Bd) (v : Int) (w : World) (e : Ending) (w' : World) : Prop :=
  ∃ i : Int, e = .returned (.int .i64 i) ∧ w = w' ∧ ((i = -1 ∧ look l v = none) ∨ ∃ k : Nat, i = k ∧ k < l.length ∧ look l v = some (l.getD k default).tm)
theorem look_first : ∀ {l : List Bd} {v : Int} {k : Nat}, k < l.length → (∀ i, i < k → (l.getD i default).var ≠ v) → (l.getD k default).var = v → look l v = some (l.getD k default).tm
  | x :: l, v, 0, _, _, h => by simp only [List.getD_cons_zero] at h ⊢; simp only [look, if_pos h]
  | x :: l, v, k + 1, hk, h1, h => by
    have h0 := h1 0 (by omega)
    simp only [List.getD_cons_zero] at h0
    simp only [List.getD_cons_succ] at h ⊢
    simp only [look, if_neg h0]
    exact look_first (by simpa using hk) (fun i hi => by simpa using h1 (i + 1) (by omega)) h
theorem look_never {l : List Bd} {v : Int} (h : ∀ i, i < l.length → (l.getD i default).var ≠ v) : look l v = none := by
  rw [look_none]
  intro x hx
  obtain ⟨i, hi, e⟩ := List.mem_iff_getElem.1 hx
  have := h i hi
  simpa [List.getD, List.getElem?_eq_getElem hi, e] using this

set_option maxHeartbeats 1000000 in
theorem entry_at (l : List Bd) (A : Option Addr) (c : Nat) (v : Int) (w : World) (hl : BLst w A l c) (hlen : l.length ≤ 1000000) :
    Calls Try.prog 36 #[.slice A l.length c, .int .i64 v] w (EntryR l v w) := by
  have HL := Lib.hid hl
  clear hl
  go_enter Try.func36, Try.ntmps36
  go_wp2_with fail
  go_loopw [5] (fun i wr => ∃ k : Nat, k ≤ l.length ∧ i = .int .i64 k ∧ wr = w ∧ Hid (∀ i, i < k → (l.getD i default).var ≠ v)) (fun i _ => l.length - (intOf i).toNat)
  case atStart => exact ⟨0, Nat.zero_le _, rfl, rfl, Lib.hid (fun i hi => by omega)⟩
  case round =>
    obtain ⟨k, hk, rfl, rfl, HF⟩ := hrel
    by_cases hlt : k < l.length
    · obtain ⟨b0, o, rfl, ⟨e0, _⟩, _⟩ := HL.out.get hlt
      have HY := Lib.hid (fun h => look_first (v := v) hlt HF.out h)
      have HN := Lib.hid (fun (h : (l.getD k default).var ≠ v) i (hi : i < k + 1) => show (l.getD i default).var ≠ v from by
        rcases Nat.lt_succ_iff_lt_or_eq.1 hi with h1 | rfl
        · exact HF.out i h1
        · exact h)
      generalize (l.getD k default).var = t at *
      by_cases ht : t = v
      · have g : (t == v) = true := by simpa using ht
        have HZ := Lib.hid (HY.out ht)
        clear ht HN
        go_wp2_with fail
        go_ret
        exact ⟨_, rfl, (by first | rfl | trivial), .inr ⟨k, rfl, hlt, HZ.out⟩⟩
      · have g : (t == v) = false := by simpa using ht
        have HZ := Lib.hid (HN.out ht)
        clear ht HY HN
        go_wp2_with fail
        go_roundw
        case rel => exact ⟨k + 1, by omega, by go_num, (by first | rfl | trivial), HZ⟩
        case measure => simp [intOf]; omega
    · obtain rfl : k = l.length := by omega
      have HZ := Lib.hid (look_never HF.out)
      clear hlt HF
      go_wp2_with fail
      go_ret
      exact ⟨_, rfl, (by first | rfl | trivial), .inl ⟨(by first | rfl | trivial), HZ.out⟩⟩
end Go.Proofs.Ytceekaodhmncgaa
namespace Go.Proofs.Ytceekaodhmncgaa
open Go.RowKit

/-- What insert hands out. -/
def InsR (l : List Bd) (u : Bd) (w : World) (e : Ending) (w' : World) : Prop :=
  ∃ A' c', e = .returned (.slice A' (l.length + 1) c') ∧ BLst w' A' (insE u l) c' ∧ Below w.heap.size w w'

set_option maxHeartbeats 8000000 in
set_option maxRecDepth 100000 in
theorem insert_at (l : List Bd) (A : Option Addr) (c : Nat) (u : Bd) (w : World) (hl : BLst w A l c) (hu : Fits u.var ∧ u.tm.At w) (hlen : l.length ≤ 1000000) :
    Calls Try.prog 37 #[.slice A l.length c, u.val] w (InsR l u w) := by
  have HL := Lib.hid hl
  have hc := hl.1
  have hc2 := hl.2.1
  unfold maxLen at hc2
  have HT := Lib.hid (show Fits u.var ∧ u.tm.At (w.alloc (boxB u)) from ⟨hu.1, hu.2.below (below1 _ _)⟩)
  have HMEM := Lib.hid (fun x (hx : x ∈ l) => show Fits x.var ∧ x.tm.At (w.alloc (boxB u)) from ⟨(hl.mem hx).1, (hl.mem hx).2.below (below1 _ _)⟩)
  have HI := Lib.hid (fun (k : Nat) => @insE_at u l k)
  clear hl hu
  obtain ⟨v, k', n', s', A2, c2, a2⟩ := u
  show Calls Try.prog 37 #[.slice A l.length c, .agg #[.int .i64 v, .int .i64 k', .int .i64 n', .string s', .slice A2 a2.length c2]] w _
  simp only at HI
  go_enter Try.func37, Try.ntmps37
  go_wp2_with fail
  go_loopw [5] (fun i wr => ∃ k : Nat, k ≤ l.length ∧ i = .int .i64 k ∧ Hid (∀ i, i < k → (l.getD i default).var ≤ v) ∧ Hid (Below (w.alloc (boxB ⟨v, .mk k' n' s' A2 c2 a2⟩)).heap.size (w.alloc (boxB ⟨v, .mk k' n' s' A2 c2 a2⟩)) wr)) (fun i _ => l.length - (intOf i).toNat)
  case atStart => exact ⟨0, Nat.zero_le _, rfl, Lib.hid (fun i hi => by omega), Lib.hid (Below.refl _ _)⟩
  case round =>
    obtain ⟨k, hk, rfl, HF, HW⟩ := hrel
    obtain ⟨d0, d1, d2, d3, d4, hbw⟩ := box5 HW.out
    have HBW := Lib.hid hbw
    have HPUT := Lib.hid (fun (A3 : Option Addr) (c3 : Nat) (W : World) (h1 : k < l.length → v < (l.getD k default).var) (hC : Cat (w.alloc (boxB ⟨v, .mk k' n' s' A2 c2 a2⟩)) (.slice A3 (l.take k ++ [Bd.mk v (.mk k' n' s' A2 c2 a2)] ++ l.drop k).length c3) (l.take k ++ [Bd.mk v (.mk k' n' s' A2 c2 a2)] ++ l.drop k) W) => show (l.take k ++ [Bd.mk v (.mk k' n' s' A2 c2 a2)] ++ l.drop k).length = l.length + 1 ∧ BLst W A3 (insE ⟨v, .mk k' n' s' A2 c2 a2⟩ l) c3 ∧ Below w.heap.size w W from ⟨by simp; omega, by rw [HI.out k hk HF.out h1]; exact hC.blst, (below1 w _).trans (hC.ex.mono (by simp))⟩)
    have HB2 := Lib.hid (fun W (h : Below (w.alloc (boxB ⟨v, .mk k' n' s' A2 c2 a2⟩)).heap.size (w.alloc (boxB ⟨v, .mk k' n' s' A2 c2 a2⟩)) W) => (below1 w (boxB ⟨v, .mk k' n' s' A2 c2 a2⟩)).trans (h.mono (by simp)))
    clear hbw
    by_cases hlt : k < l.length
    · obtain ⟨b0, o, rfl, ⟨e0, _⟩, _⟩ := (HL.out.below HBW.out).get hlt
      have HF2 := Lib.hid (fun (h : (l.getD k default).var ≤ v) i (hi : i < k + 1) => show (l.getD i default).var ≤ v from by
        rcases Nat.lt_succ_iff_lt_or_eq.1 hi with h1 | rfl
        · exact HF.out i h1
        · exact h)
      generalize (l.getD k default).var = t at *
      have jlt : decide ((k : Int) < (l.length : Int)) = true := decide_eq_true (by omega)
      by_cases hv : t ≤ v
      · have hv' : decide (t ≤ v) = true := decide_eq_true hv
        have HG := Lib.hid (HF2.out hv)
        clear hv HF2 HPUT
        go_wp2_with fail
        go_quiet (fail)
        go_wp2_with fail
        go_roundw
        case rel => exact ⟨k + 1, by omega, by go_num, HG, Lib.hid (below_drewN HW.out _)⟩
        case measure => simp [intOf]; omega
      · have hv' : decide (t ≤ v) = false := decide_eq_false hv
        have HPP := Lib.hid (fun A3 c3 W => HPUT.out A3 c3 W (fun _ => by omega))
        have hck : ¬ c = k := by omega
        clear hv HF2 HPUT
        go_wp2_with fail
        go_quiet (fail)
        rename_i nq
        have HPUT0 := Lib.hid trivial
        go_wp2_with (first
          | (at_builtin; refine wpList_append_z rfl _ _ rfl (w.alloc (boxB ⟨v, .mk k' n' s' A2 c2 a2⟩)).heap.size (.slice none 0 0) 0 [] rfl (Cat.nil (below_drewN HW.out nq)).own (some ⟨b0, o, none⟩) k _ (bcells (l.take k)) rfl (by rw [bcells_len, List.length_take, Nat.min_eq_left (by omega)]) (fun e => by cases e) (fun ad e j u hu => (HL.out.below (below_drewN HBW.out nq)).take_cells (by omega) ad e j u hu) (bcells_ones _) (by omega) (below_drewN HW.out nq).size ?_; intro z1 w1 own1 g1; have C1 := Lib.hid ((Cat.nil (below_drewN HW.out nq)).app (m := l.take k) (fun x hx => HMEM.out x (List.mem_of_mem_take hx)) own1 (by rw [List.length_take]; simp; try omega) (by simp [bcells]) g1); clear own1 g1 d0 d1 d2 d3 d4; obtain ⟨d0, d1, d2, d3, d4, _⟩ := box5 C1.out.ex; simp only [Tm.kind, Tm.num, Tm.name, Tm.at_, Tm.args, Tm.cap] at d1 d2 d3 d4)
          | (at_builtin; refine wpList_append_z rfl _ _ rfl (w.alloc (boxB ⟨v, .mk k' n' s' A2 c2 a2⟩)).heap.size z1 _ _ rfl (C1.out.al _).own (some ⟨w1.heap.size, 0, none⟩) 1 _ (Bd.cells (Bd.mk v (.mk k' n' s' A2 c2 a2))) rfl rfl (fun e => by cases e) (fun ad e j u hu => by injection e with e; subst e; exact bnews1 w1 (Bd.mk v (.mk k' n' s' A2 c2 a2)) j u hu) (bcells_one _) (by simp only [List.nil_append, List.length_take]; omega) (C1.out.al _).ex.size ?_; intro z2 w2 own2 g2; have C2' := ((C1.out.al _).app (m := [Bd.mk v (.mk k' n' s' A2 c2 a2)]) (fun x hx => by rw [List.mem_singleton.1 hx]; exact HT.out) own2 rfl (by simp [bcells]) g2); obtain ⟨A9, c9, e9, h9⟩ := C2'.form; rw [show (([] : List Bd) ++ l.take k ++ [Bd.mk v (.mk k' n' s' A2 c2 a2)]).length = k + 1 from (by simp only [List.nil_append, List.length_append, List.length_take, List.length_singleton]; omega)] at e9; subst e9; obtain ⟨g9, rfl⟩ := h9.resolve_left (by simp); have C2 := Lib.hid C2'; clear C2' own2 g2 d0 d1 d2 d3 d4 h9)
          | (at_builtin; refine wpList_append_z rfl _ _ rfl (w.alloc (boxB ⟨v, .mk k' n' s' A2 c2 a2⟩)).heap.size _ _ _ rfl C2.out.own (some ⟨b0, o + k * 5, none⟩) (l.length - k) _ (bcells (l.drop k)) rfl (by rw [bcells_len, List.length_drop]) (fun e => by cases e) (fun ad e j u hu => (HL.out.below (HB2.out _ C2.out.ex)).drop_cells hk ad e j u hu) (bcells_ones _) (by simp only [List.nil_append, List.length_append, List.length_take, List.length_singleton]; omega) C2.out.ex.size ?_; intro z3 w3 own3 g3; have C3 := C2.out.app (m := l.drop k) (fun x hx => HMEM.out x (List.mem_of_mem_drop hx)) own3 (by simp only [List.length_append, List.length_take, List.length_drop, List.length_singleton, List.nil_append] <;> omega) (by first | (simp only [List.nil_append]; done) | (simp only [List.nil_append, List.drop_length]; rfl)) g3; obtain ⟨A3, c3, e3, hA3⟩ := C3.form; have C4 := Lib.hid C3; clear C3 own3 g3))
        all_goals
          subst e3
          obtain ⟨p1, p2, p3⟩ := HPP.out A3 c3 w3 C4.out
          have HP := Lib.hid p2
          have HP3 := Lib.hid p3
          have HP1 := Lib.hid p1
          clear p1 p2 p3 C4 HPUT0
          go_wp2_with fail
          go_ret
          exact ⟨A3, c3, (by first | (rw [← HP1.out]; rfl) | (refine congrArg (fun n => Ending.returned (Value.slice A3 n c3)) ?_; omega)), HP.out, HP3.out⟩
    · obtain rfl : k = l.length := by omega
      have jlt : decide ((l.length : Int) < (l.length : Int)) = false := decide_eq_false (by omega)
      have HPP := Lib.hid (fun A3 c3 W => HPUT.out A3 c3 W (fun h => by omega))
      clear hlt HPUT
      by_cases h0 : l.length = 0
      · obtain rfl : l = [] := List.length_eq_zero_iff.1 h0
        clear h0
        have hnil : ([] : List Bd).length = 0 := rfl
        have HPUT0 := Lib.hid trivial
        go_wp2_with fail
        go_quiet (fail)
        rename_i nq
        go_wp2_with (first
          | (at_builtin; refine wpList_append_z rfl _ _ rfl (w.alloc (boxB ⟨v, .mk k' n' s' A2 c2 a2⟩)).heap.size (.slice none 0 0) 0 [] rfl (Cat.nil (below_drewN HW.out nq)).own _ 0 _ [] rfl rfl (fun e => rfl) (fun ad e j u hu => by cases hu) (fun _ h => by cases h) (by omega) (below_drewN HW.out nq).size ?_; intro z1 w1 own1 g1; have C1 := Lib.hid ((Cat.nil (below_drewN HW.out nq)).app (m := ([] : List Bd)) (fun x hx => by cases hx) own1 rfl (by simp [bcells]) g1); clear own1 g1 d0 d1 d2 d3 d4; obtain ⟨d0, d1, d2, d3, d4, _⟩ := box5 C1.out.ex; simp only [Tm.kind, Tm.num, Tm.name, Tm.at_, Tm.args, Tm.cap] at d1 d2 d3 d4)
          | (at_builtin; refine wpList_append_z rfl _ _ rfl (w.alloc (boxB ⟨v, .mk k' n' s' A2 c2 a2⟩)).heap.size z1 _ _ rfl (C1.out.al _).own (some ⟨w1.heap.size, 0, none⟩) 1 _ (Bd.cells (Bd.mk v (.mk k' n' s' A2 c2 a2))) rfl rfl (fun e => by cases e) (fun ad e j u hu => by injection e with e; subst e; exact bnews1 w1 (Bd.mk v (.mk k' n' s' A2 c2 a2)) j u hu) (bcells_one _) (by simp) (C1.out.al _).ex.size ?_; intro z2 w2 own2 g2; have C2' := ((C1.out.al _).app (m := [Bd.mk v (.mk k' n' s' A2 c2 a2)]) (fun x hx => by rw [List.mem_singleton.1 hx]; exact HT.out) own2 rfl (by simp [bcells]) g2); obtain ⟨A9, c9, rfl, h9⟩ := C2'.form; obtain ⟨g9, rfl⟩ := h9.resolve_left (by simp); have C2 := Lib.hid C2'; clear C2' own2 g2 d0 d1 d2 d3 d4 h9)
          | (at_builtin; refine wpList_append_z rfl _ _ rfl (w.alloc (boxB ⟨v, .mk k' n' s' A2 c2 a2⟩)).heap.size _ _ _ rfl C2.out.own _ 0 _ [] rfl rfl (fun e => rfl) (fun ad e j u hu => by cases hu) (fun _ h => by cases h) (by simp) C2.out.ex.size ?_; intro z3 w3 own3 g3; have C3 := C2.out.app (m := ([] : List Bd)) (fun x hx => by cases hx) own3 rfl rfl g3; obtain ⟨A3, c3, e3, hA3⟩ := C3.form; have C4 := Lib.hid C3; clear C3 own3 g3))
        all_goals
          subst e3
          obtain ⟨p1, p2, p3⟩ := HPP.out A3 c3 w3 C4.out
          have HP := Lib.hid p2
          have HP3 := Lib.hid p3
          have HP1 := Lib.hid p1
          clear p1 p2 p3 C4 HPUT0
          go_wp2_with fail
          go_ret
          exact ⟨A3, c3, (by first | (rw [← HP1.out]; rfl) | (refine congrArg (fun n => Ending.returned (Value.slice A3 n c3)) ?_; omega)), HP.out, HP3.out⟩
      · obtain ⟨b0, o, rfl, _⟩ := HL.out.2.2 (by omega)
        have HPUT0 := Lib.hid trivial
        by_cases hck : c = l.length
        · skip
          go_wp2_with fail
          go_quiet (fail)
          rename_i nq
          go_wp2_with (first
            | (at_builtin; refine wpList_append_z rfl _ _ rfl (w.alloc (boxB ⟨v, .mk k' n' s' A2 c2 a2⟩)).heap.size (.slice none 0 0) 0 [] rfl (Cat.nil (below_drewN HW.out nq)).own (some ⟨b0, o, none⟩) l.length _ (bcells (l.take l.length)) rfl (by rw [bcells_len, List.length_take, Nat.min_eq_left (by omega)]) (fun e => by cases e) (fun ad e j u hu => (HL.out.below (below_drewN HBW.out nq)).take_cells (Nat.le_refl _) ad e j u hu) (bcells_ones _) (by omega) (below_drewN HW.out nq).size ?_; intro z1 w1 own1 g1; have C1 := Lib.hid ((Cat.nil (below_drewN HW.out nq)).app (m := l.take l.length) (fun x hx => HMEM.out x (List.mem_of_mem_take hx)) own1 (by rw [List.length_take]; simp; try omega) (by simp [bcells]) g1); clear own1 g1 d0 d1 d2 d3 d4; obtain ⟨d0, d1, d2, d3, d4, _⟩ := box5 C1.out.ex; simp only [Tm.kind, Tm.num, Tm.name, Tm.at_, Tm.args, Tm.cap] at d1 d2 d3 d4)
            | (at_builtin; refine wpList_append_z rfl _ _ rfl (w.alloc (boxB ⟨v, .mk k' n' s' A2 c2 a2⟩)).heap.size z1 _ _ rfl (C1.out.al _).own (some ⟨w1.heap.size, 0, none⟩) 1 _ (Bd.cells (Bd.mk v (.mk k' n' s' A2 c2 a2))) rfl rfl (fun e => by cases e) (fun ad e j u hu => by injection e with e; subst e; exact bnews1 w1 (Bd.mk v (.mk k' n' s' A2 c2 a2)) j u hu) (bcells_one _) (by simp only [List.nil_append, List.length_take]; omega) (C1.out.al _).ex.size ?_; intro z2 w2 own2 g2; have C2' := ((C1.out.al _).app (m := [Bd.mk v (.mk k' n' s' A2 c2 a2)]) (fun x hx => by rw [List.mem_singleton.1 hx]; exact HT.out) own2 rfl (by simp [bcells]) g2); obtain ⟨A9, c9, e9, h9⟩ := C2'.form; rw [show (([] : List Bd) ++ l.take l.length ++ [Bd.mk v (.mk k' n' s' A2 c2 a2)]).length = l.length + 1 from (by simp only [List.nil_append, List.length_append, List.length_take, List.length_singleton]; omega)] at e9; subst e9; obtain ⟨g9, rfl⟩ := h9.resolve_left (by simp); have C2 := Lib.hid C2'; clear C2' own2 g2 d0 d1 d2 d3 d4 h9)
            | (at_builtin; refine wpList_append_z rfl _ _ rfl (w.alloc (boxB ⟨v, .mk k' n' s' A2 c2 a2⟩)).heap.size _ _ _ rfl C2.out.own _ 0 _ [] rfl rfl (fun e => rfl) (fun ad e j u hu => by cases hu) (fun _ h => by cases h) (by simp only [List.nil_append, List.length_append, List.length_take, List.length_singleton]; omega) C2.out.ex.size ?_; intro z3 w3 own3 g3; have C3 := C2.out.app (m := l.drop l.length) (fun x hx => HMEM.out x (List.mem_of_mem_drop hx)) own3 (by simp only [List.length_append, List.length_take, List.length_drop, List.length_singleton, List.nil_append] <;> omega) (by first | (simp only [List.nil_append]; done) | (simp only [List.nil_append, List.drop_length]; rfl)) g3; obtain ⟨A3, c3, e3, hA3⟩ := C3.form; have C4 := Lib.hid C3; clear C3 own3 g3))
          all_goals
            subst e3
            obtain ⟨p1, p2, p3⟩ := HPP.out A3 c3 w3 C4.out
            have HP := Lib.hid p2
            have HP3 := Lib.hid p3
            have HP1 := Lib.hid p1
            clear p1 p2 p3 C4 HPUT0
            go_wp2_with fail
            go_ret
            exact ⟨A3, c3, (by first | (rw [← HP1.out]; rfl) | (refine congrArg (fun n => Ending.returned (Value.slice A3 n c3)) ?_; omega)), HP.out, HP3.out⟩
        · skip
          go_wp2_with fail
          go_quiet (fail)
          rename_i nq
          go_wp2_with (first
            | (at_builtin; refine wpList_append_z rfl _ _ rfl (w.alloc (boxB ⟨v, .mk k' n' s' A2 c2 a2⟩)).heap.size (.slice none 0 0) 0 [] rfl (Cat.nil (below_drewN HW.out nq)).own (some ⟨b0, o, none⟩) l.length _ (bcells (l.take l.length)) rfl (by rw [bcells_len, List.length_take, Nat.min_eq_left (by omega)]) (fun e => by cases e) (fun ad e j u hu => (HL.out.below (below_drewN HBW.out nq)).take_cells (Nat.le_refl _) ad e j u hu) (bcells_ones _) (by omega) (below_drewN HW.out nq).size ?_; intro z1 w1 own1 g1; have C1 := Lib.hid ((Cat.nil (below_drewN HW.out nq)).app (m := l.take l.length) (fun x hx => HMEM.out x (List.mem_of_mem_take hx)) own1 (by rw [List.length_take]; simp; try omega) (by simp [bcells]) g1); clear own1 g1 d0 d1 d2 d3 d4; obtain ⟨d0, d1, d2, d3, d4, _⟩ := box5 C1.out.ex; simp only [Tm.kind, Tm.num, Tm.name, Tm.at_, Tm.args, Tm.cap] at d1 d2 d3 d4)
            | (at_builtin; refine wpList_append_z rfl _ _ rfl (w.alloc (boxB ⟨v, .mk k' n' s' A2 c2 a2⟩)).heap.size z1 _ _ rfl (C1.out.al _).own (some ⟨w1.heap.size, 0, none⟩) 1 _ (Bd.cells (Bd.mk v (.mk k' n' s' A2 c2 a2))) rfl rfl (fun e => by cases e) (fun ad e j u hu => by injection e with e; subst e; exact bnews1 w1 (Bd.mk v (.mk k' n' s' A2 c2 a2)) j u hu) (bcells_one _) (by simp only [List.nil_append, List.length_take]; omega) (C1.out.al _).ex.size ?_; intro z2 w2 own2 g2; have C2' := ((C1.out.al _).app (m := [Bd.mk v (.mk k' n' s' A2 c2 a2)]) (fun x hx => by rw [List.mem_singleton.1 hx]; exact HT.out) own2 rfl (by simp [bcells]) g2); obtain ⟨A9, c9, e9, h9⟩ := C2'.form; rw [show (([] : List Bd) ++ l.take l.length ++ [Bd.mk v (.mk k' n' s' A2 c2 a2)]).length = l.length + 1 from (by simp only [List.nil_append, List.length_append, List.length_take, List.length_singleton]; omega)] at e9; subst e9; obtain ⟨g9, rfl⟩ := h9.resolve_left (by simp); have C2 := Lib.hid C2'; clear C2' own2 g2 d0 d1 d2 d3 d4 h9)
            | (at_builtin; refine wpList_append_z rfl _ _ rfl (w.alloc (boxB ⟨v, .mk k' n' s' A2 c2 a2⟩)).heap.size _ _ _ rfl C2.out.own _ 0 _ [] rfl rfl (fun e => rfl) (fun ad e j u hu => by cases hu) (fun _ h => by cases h) (by simp only [List.nil_append, List.length_append, List.length_take, List.length_singleton]; omega) C2.out.ex.size ?_; intro z3 w3 own3 g3; have C3 := C2.out.app (m := l.drop l.length) (fun x hx => HMEM.out x (List.mem_of_mem_drop hx)) own3 (by simp only [List.length_append, List.length_take, List.length_drop, List.length_singleton, List.nil_append] <;> omega) (by first | (simp only [List.nil_append]; done) | (simp only [List.nil_append, List.drop_length]; rfl)) g3; obtain ⟨A3, c3, e3, hA3⟩ := C3.form; have C4 := Lib.hid C3; clear C3 own3 g3))
          all_goals
            subst e3
            obtain ⟨p1, p2, p3⟩ := HPP.out A3 c3 w3 C4.out
            have HP := Lib.hid p2
            have HP3 := Lib.hid p3
            have HP1 := Lib.hid p1
            clear p1 p2 p3 C4 HPUT0
            go_wp2_with fail
            go_ret
            exact ⟨A3, c3, (by first | (rw [← HP1.out]; rfl) | (refine congrArg (fun n => Ending.returned (Value.slice A3 n c3)) ?_; omega)), HP.out, HP3.out⟩
end Go.Proofs.Ytceekaodhmncgaa
namespace Go.Proofs.Ytceekaodhmncgaa
open Go.RowKit

/-- What Term, lists and Atom of the reference hand out. -/
def RMat (r : Option (List Bd)) (w : World) (e : Ending) (w' : World) : Prop :=
  ∃ A q, e = .returned (.tuple #[.slice A (r.getD []).length q, .bool r.isSome]) ∧ BLst w' A (r.getD []) q ∧ Below w.heap.size w w'
theorem mat_grow : (∀ p : Tm, ∀ e t e', matT e p t = some e' → e'.length ≤ e.length + p.nodes) ∧ (∀ ps : List Tm, ∀ e ts e', matL e ps ts = some e' → e'.length ≤ e.length + nodesL ps) := by
  refine Tm.induct2 (fun k n s A c a ih e t e' h => ?_) (fun e ts e' h => ?_) (fun p ps h1 h2 e ts e' h => ?_)
  · simp only [matT] at h
    by_cases h2 : k = 2
    · rw [if_pos h2] at h
      split at h
      · have := ih e _ e' h
        simp only [Tm.nodes]; omega
      · cases h
    · rw [if_neg h2] at h
      by_cases h1 : k = 1
      · rw [if_pos h1] at h
        cases hl : look e n with
        | some u =>
          rw [hl] at h
          simp only at h
          split at h
          · injection h with h; subst h; exact Nat.le_add_right _ _
          · cases h
        | none =>
          rw [hl] at h
          simp only at h
          injection h with h
          subst h
          rw [insE_len]
          simp only [Tm.nodes]; omega
      · rw [if_neg h1] at h
        split at h
        · injection h with h; subst h; exact Nat.le_add_right _ _
        · cases h
  · cases ts with
    | nil => simp only [matL, Option.some.injEq] at h; subst h; exact Nat.le_add_right _ _
    | cons _ _ => simp [matL] at h
  · cases ts with
    | nil => simp [matL] at h
    | cons t r =>
      simp only [matL] at h
      split at h
      · rename_i e1 he1
        have := h1 e t e1 he1
        have := h2 e1 r e' h
        simp only [nodesL]; omega
      · cases h
theorem matL_stop {e : List Bd} {ps ts : List Tm} {j : Nat} (hl : ps.length = ts.length) (h : matL e (ps.take j) (ts.take j) = none) : matL e ps ts = none := by
  have := matL_append (e := e) (a := ps.take j) (a' := ts.take j) (b := ps.drop j) (b' := ts.drop j) (by simp; omega)
  rw [List.take_append_drop, List.take_append_drop, h] at this
  exact this

/-- What one call of Term of the reference must do. -/
def RStep8 (p : Tm) : Prop := ∀ (e : List Bd) (A : Option Addr) (q : Nat) (t : Tm) (W : World), BLst W A e q → p.At W → t.At W → e.length + p.nodes ≤ 1000000 →
  Calls Try.prog 13 #[.slice A e.length q, p.val, t.val] W (RMat (matT e p t) W)

set_option maxHeartbeats 4000000 in
theorem rm_lists_at (env : List Bd) (E : Option Addr) (ce : Nat) (ps ts : List Tm) (A B : Option Addr) (c d : Nat) (w : World) (hE : BLst w E env ce) (hl : Lst w A ps c) (hm : Lst w B ts d) (hlen : env.length + nodesL ps ≤ 1000000) (ih : ∀ p ∈ ps, RStep8 p) :
    Calls Try.prog 35 #[.slice E env.length ce, .slice A ps.length c, .slice B ts.length d] w (RMat (matL env ps ts) w) := by
  have hlp : ps.length ≤ 9223372036854775807 := hl.len
  have hlt : ts.length ≤ 9223372036854775807 := hm.len
  by_cases hne : ps.length = ts.length
  · have hne' : ((ps.length : Int) != (ts.length : Int)) = false := by simp; omega
    have HNE := Lib.hid hne
    have HL := Lib.hid hl
    have HM := Lib.hid hm
    have HI := Lib.hid ih
    have HLN := Lib.hid hlen
    have HS0 := Lib.hid (show some env = matL env (ps.take 0) (ts.take 0) ∧ BLst w E env ce ∧ Below w.heap.size w w from ⟨by simp [matL], hE, Below.refl _ _⟩)
    clear hne hl hm ih hlen hE
    go_enter Try.func35, Try.ntmps35
    go_wp2_with fail
    go_loopw [0, 8, 9] (fun z ok i wr => ∃ (j : Nat) (r : Option (List Bd)) (A' : Option Addr) (q : Nat), j ≤ ts.length ∧ i = .int .i64 j ∧ z = .slice A' (r.getD []).length q ∧ ok = .bool r.isSome ∧ Hid (r = matL env (ps.take j) (ts.take j) ∧ BLst wr A' (r.getD []) q ∧ Below w.heap.size w wr)) (fun _ _ i _ => ts.length - (intOf i).toNat)
    case atStart => exact ⟨0, some env, E, ce, Nat.zero_le _, rfl, rfl, rfl, HS0⟩
    case round =>
      clear HS0
      obtain ⟨j, r, A', q, hj, rfl, rfl, rfl, HF⟩ := hrel
      cases r with
      | none =>
        have HX := Lib.hid (matL_stop HNE.out HF.out.1.symm)
        simp only [Option.getD_none, Option.isSome_none, List.length_nil] at HF ⊢
        by_cases hjt : j < ts.length
        · have jlt : decide ((j : Int) < (ts.length : Int)) = true := decide_eq_true (by omega)
          go_wp2_with fail
          go_ret2
          rw [HX.out]
          exact ⟨A', q, rfl, HF.out.2.1, HF.out.2.2⟩
        · have jlt : decide ((j : Int) < (ts.length : Int)) = false := decide_eq_false (by omega)
          go_wp2_with fail
          go_ret2
          rw [HX.out]
          exact ⟨A', q, rfl, HF.out.2.1, HF.out.2.2⟩
      | some e1 =>
        simp only [Option.getD_some, Option.isSome_some] at HF ⊢
        by_cases hjt : j < ts.length
        · have jlt : decide ((j : Int) < (ts.length : Int)) = true := decide_eq_true (by omega)
          have hjp : j < ps.length := by have := HNE.out; omega
          have hb := HF.out.2.2
          obtain ⟨b, o, rfl, ⟨c0, c1, c2, c3⟩, hx⟩ := (HL.out.below hb).get hjp
          obtain ⟨b', o', rfl, ⟨g0, g1, g2, g3⟩, hy⟩ := (HM.out.below hb).get hjt
          have HN := Lib.hid (matL_step hjp hjt HF.out.1.symm)
          have hgr := mat_grow.2 _ _ _ _ HF.out.1.symm
          have hnk := nodesL_take_next hjp
          have hnl := nodesL_take_le ps (j + 1)
          have Q := Lib.hid (fun W (h : Below wr.heap.size wr W) => HI.out _ (getD_mem hjp) e1 A' q (ts.getD j default) W (HF.out.2.1.below h) (hx.below h) (hy.below h) (by have := HLN.out; omega))
          clear hx hy hgr hnk hnl
          generalize ps.getD j default = x at *
          generalize ts.getD j default = y at *
          generalize matT e1 x y = r at *
          obtain ⟨k1, n1, s1, A1, p1, a1⟩ := x
          obtain ⟨k2, n2, s2, A2, p2, a2⟩ := y
          simp only [Tm.kind, Tm.num, Tm.name, Tm.at_, Tm.args, Tm.cap] at c0 c1 c2 c3 g0 g1 g2 g3
          go_wp2_with fail
          go_region_with (go_at_call 13; refine (Q.out _ (by first | exact Below.refl _ _ | exact (Below.refl _ _).drew)).mono ?_; rintro e w2 ⟨A3, q3, rfl, h1, h2⟩; have HX := Lib.hid (show r = matL env (ps.take (j + 1)) (ts.take (j + 1)) ∧ BLst w2 A3 (r.getD []) q3 ∧ Below w.heap.size w w2 from ⟨HN.out.symm, h1, hb.trans ((undrew h2).mono hb.size)⟩); clear h1 h2)
          all_goals
            go_wp2_with fail
            go_roundw
            case rel => exact ⟨j + 1, r, A3, q3, by omega, by go_num, rfl, rfl, HX⟩
            case measure => simp [intOf]; omega
        · obtain rfl : j = ts.length := by omega
          have jlt : decide ((ts.length : Int) < (ts.length : Int)) = false := decide_eq_false (by omega)
          have HX := Lib.hid (show some e1 = matL env ps ts from by
            have := HF.out.1
            rwa [← HNE.out, List.take_length, HNE.out, List.take_length] at this)
          go_wp2_with fail
          go_ret2
          rw [← HX.out]
          exact ⟨A', q, rfl, HF.out.2.1, HF.out.2.2⟩
  · have hne' : ((ps.length : Int) != (ts.length : Int)) = true := by simp; omega
    have HX := Lib.hid (matL_ne (e := env) hne)
    clear hl hm ih hlen hne hE
    go_enter Try.func35, Try.ntmps35
    go_wp2_with fail
    go_ret2
    rw [HX.out]
    exact ⟨none, 0, rfl, BLst.nil _, Below.refl _ _⟩
end Go.Proofs.Ytceekaodhmncgaa
namespace Go.Proofs.Ytceekaodhmncgaa
open Go.RowKit

set_option maxHeartbeats 4000000 in
theorem ref_mat_at (p : Tm) : RStep8 p := by
  induction p using Tm.induct with
  | h k n s A c a ih =>
    intro env E ce t w hE hp ht hlen
    have hF := ((At_iff _ _).1 hp).1
    simp only [Tm.kind, Tm.num, Tm.name] at hF
    have HB2 := Lib.hid (fun o o' => (below2 w o o' : Below w.heap.size w ((w.alloc o).alloc o')))
    have HE := Lib.hid hE
    have hle : env.length ≤ 1000000 := by omega
    by_cases k2 : k = 2
    · subst k2
      have hl : Lst w A a c := hp.lst
      have hna : env.length + nodesL a ≤ 1000000 := by simp only [Tm.nodes] at hlen; omega
      obtain ⟨k', n', s', A', c', a'⟩ := t
      by_cases g : k' = 2
      · subst g
        by_cases hs : s = s'
        · subst hs
          have hm : Lst w A' a' c' := ht.lst
          have Q := Lib.hid (fun W (h : Below w.heap.size w W) => rm_lists_at env E ce a a' A A' c c' W (hE.below h) (hl.below h) (hm.below h) hna ih)
          have HV := Lib.hid (show matT env (.mk 2 n s A c a) (.mk 2 n' s A' c' a') = matL env a a' from by rw [mat_fun, if_pos rfl])
          rw [HV.out]
          clear ih hp hlen ht hE hl hm hna
          generalize matL env a a' = r at *
          show Calls Try.prog 13 #[.slice E env.length ce, .agg #[.int .i64 2, .int .i64 n, .string s, .slice A a.length c], .agg #[.int .i64 2, .int .i64 n', .string s, .slice A' a'.length c']] w _
          obtain ⟨H0, H1⟩ := two_boxes w (.int .i64 2) (.int .i64 n) (.string s) (.slice A a.length c) (.int .i64 2) (.int .i64 n') (.string s) (.slice A' a'.length c') 25
          obtain ⟨_, x0, x1, x2, x3, _⟩ := H0
          obtain ⟨_, y0, y1, y2, y3, _⟩ := H1
          go_enter Try.func13, Try.ntmps13
          go_wp2_with fail
          refine (Q.out _ (HB2.out _ _)).mono ?_
          rintro e w2 ⟨A3, q3, rfl, h1, h2⟩
          have H := Lib.hid (show BLst w2 A3 (r.getD []) q3 ∧ Below w.heap.size w w2 from ⟨h1, (HB2.out _ _).trans (h2.mono (HB2.out _ _).size)⟩)
          clear h1 h2
          go_wp2_with fail
          go_ret2
          exact ⟨A3, q3, rfl, H.out⟩
        · have g3 : (s.toList == s'.toList) = false := byte_ne hs
          have HV := Lib.hid (show matT env (.mk 2 n s A c a) (.mk 2 n' s' A' c' a') = none from by rw [mat_fun, if_neg hs])
          rw [HV.out]
          clear ih hp hlen ht hE hl hna hs
          show Calls Try.prog 13 #[.slice E env.length ce, .agg #[.int .i64 2, .int .i64 n, .string s, .slice A a.length c], .agg #[.int .i64 2, .int .i64 n', .string s', .slice A' a'.length c']] w _
          obtain ⟨H0, H1⟩ := two_boxes w (.int .i64 2) (.int .i64 n) (.string s) (.slice A a.length c) (.int .i64 2) (.int .i64 n') (.string s') (.slice A' a'.length c') 25
          obtain ⟨_, x0, x1, x2, x3, _⟩ := H0
          obtain ⟨_, y0, y1, y2, y3, _⟩ := H1
          go_enter Try.func13, Try.ntmps13
          go_wp2_with fail
          go_ret2
          exact ⟨none, 0, rfl, BLst.nil _, HB2.out _ _⟩
      · have g2 : (k' != 2) = true := by simpa using g
        have HV := Lib.hid (show matT env (.mk 2 n s A c a) (.mk k' n' s' A' c' a') = none from by simp [matT, Tm.kind, g])
        rw [HV.out]
        clear ih hp hlen ht hE hl hna g
        show Calls Try.prog 13 #[.slice E env.length ce, .agg #[.int .i64 2, .int .i64 n, .string s, .slice A a.length c], .agg #[.int .i64 k', .int .i64 n', .string s', .slice A' a'.length c']] w _
        obtain ⟨H0, H1⟩ := two_boxes w (.int .i64 2) (.int .i64 n) (.string s) (.slice A a.length c) (.int .i64 k') (.int .i64 n') (.string s') (.slice A' a'.length c') 25
        obtain ⟨_, x0, x1, x2, x3, _⟩ := H0
        obtain ⟨_, y0, y1, y2, y3, _⟩ := H1
        go_enter Try.func13, Try.ntmps13
        go_wp2_with fail
        go_ret2
        exact ⟨none, 0, rfl, BLst.nil _, HB2.out _ _⟩
    · have k2' : (k == 2) = false := by simpa using k2
      by_cases k1 : k = 1
      · subst k1
        have Q := Lib.hid (fun W (h : Below w.heap.size w W) => entry_at env E ce n W (hE.below h) hle)
        have HV := Lib.hid (mat_var env n s A c a t)
        have HT := Lib.hid (fun W (h : Below w.heap.size w W) => ht.below h)
        have QI := Lib.hid (fun W (h : Below w.heap.size w W) => insert_at env E ce ⟨n, t⟩ W (hE.below h) ⟨hF.2.1, ht.below h⟩ hle)
        have QS := Lib.hid (fun (k : Nat) (hk : k < env.length) W (h : Below w.heap.size w W) => ref_same_at (env.getD k default).tm t W ((hE.below h).mem (bgetD_mem hk)).2 (ht.below h) rfl)
        clear ih hp hlen ht hE k2 k2'
        generalize hX : matT env (.mk 1 n s A c a) t = X at *
        clear hX
        obtain ⟨k', n', s', A', c', a'⟩ := t
        show Calls Try.prog 13 #[.slice E env.length ce, .agg #[.int .i64 1, .int .i64 n, .string s, .slice A a.length c], .agg #[.int .i64 k', .int .i64 n', .string s', .slice A' a'.length c']] w _
        obtain ⟨H0, H1⟩ := two_boxes w (.int .i64 1) (.int .i64 n) (.string s) (.slice A a.length c) (.int .i64 k') (.int .i64 n') (.string s') (.slice A' a'.length c') 25
        obtain ⟨_, x0, x1, x2, x3, _⟩ := H0
        obtain ⟨_, y0, y1, y2, y3, _⟩ := H1
        go_enter Try.func13, Try.ntmps13
        go_wp2_with fail
        refine (Q.out _ (HB2.out _ _)).mono ?_
        rintro e w2 ⟨i, rfl, rfl, h⟩
        rcases h with ⟨rfl, hlk⟩ | ⟨j, rfl, hj, hlk⟩
        · have HX := Lib.hid (show X = some (insE ⟨n, .mk k' n' s' A' c' a'⟩ env) from by rw [HV.out, hlk])
          clear hlk
          go_wp2_with fail
          refine (QI.out _ (HB2.out _ _)).mono ?_
          rintro e w3 ⟨A3, q3, rfl, h1, h2⟩
          have H := Lib.hid (show BLst w3 A3 (insE ⟨n, .mk k' n' s' A' c' a'⟩ env) q3 ∧ Below w.heap.size w w3 from ⟨h1, (HB2.out _ _).trans (h2.mono (HB2.out _ _).size)⟩)
          clear h1 h2
          go_wp2_with fail
          go_ret2
          exact ⟨A3, q3, by rw [HX.out]; simp only [Option.getD_some, insE_len, Option.isSome_some]; rfl, by rw [HX.out]; exact H.out.1, H.out.2⟩
        · have HX := Lib.hid (show X = if cmpT (env.getD j default).tm (.mk k' n' s' A' c' a') == 0 then some env else none from by rw [HV.out, hlk]; simp)
          obtain ⟨b0, o, rfl, ⟨d0, d1, d2, d3, d4⟩, _⟩ := (HE.out.below (HB2.out (.cells #[.int .i64 1, .int .i64 n, .string s, .slice A a.length c] 25) (.cells #[.int .i64 k', .int .i64 n', .string s', .slice A' a'.length c'] 25))).get hj
          have QQ := Lib.hid (QS.out j hj)
          have hjn : ¬ ((j : Int) < 0) := by omega
          clear hlk QI QS
          generalize (cmpT (env.getD j default).tm (.mk k' n' s' A' c' a') == 0) = r at *
          generalize (env.getD j default).tm = y at *
          obtain ⟨k3, n3, s3, A3, c3, a3⟩ := y
          simp only [Tm.kind, Tm.num, Tm.name, Tm.at_, Tm.args, Tm.cap] at d1 d2 d3 d4
          go_wp2_with fail
          go_region_with (go_at_call 19; refine (QQ.out _ (by first | exact HB2.out _ _ | exact (HB2.out _ _).drew)).mono ?_; rintro e w3 ⟨rfl, h2⟩; have H := Lib.hid ((HB2.out _ _).trans ((undrew h2).mono (HB2.out (.cells #[.int .i64 1, .int .i64 n, .string s, .slice A a.length c] 25) (.cells #[.int .i64 k', .int .i64 n', .string s', .slice A' a'.length c'] 25)).size)); clear h2)
          all_goals
            cases r
            · go_wp2_with fail
              go_ret2
              exact ⟨none, 0, by rw [HX.out]; rfl, by rw [HX.out]; exact BLst.nil _, H.out⟩
            · go_wp2_with fail
              go_ret2
              exact ⟨some ⟨b0, o, none⟩, ce, by rw [HX.out]; rfl, by rw [HX.out]; exact HE.out.below H.out, H.out⟩
      · have k1' : (k != 1) = true := by simpa using k1
        have Q := Lib.hid (fun W (h : Below w.heap.size w W) => ref_same_at (.mk k n s A c a) t W (hp.below h) (ht.below h) rfl)
        have HV := Lib.hid (show matT env (.mk k n s A c a) t = if cmpT (.mk k n s A c a) t == 0 then some env else none from by rw [mat_else _ _ _ _ _ _ _ k2 k1]; simp)
        clear ih hp hlen ht hE k1 k2
        generalize matT env (.mk k n s A c a) t = X at *
        generalize (cmpT (.mk k n s A c a) t == 0) = r at *
        obtain ⟨k', n', s', A', c', a'⟩ := t
        show Calls Try.prog 13 #[.slice E env.length ce, .agg #[.int .i64 k, .int .i64 n, .string s, .slice A a.length c], .agg #[.int .i64 k', .int .i64 n', .string s', .slice A' a'.length c']] w _
        obtain ⟨H0, H1⟩ := two_boxes w (.int .i64 k) (.int .i64 n) (.string s) (.slice A a.length c) (.int .i64 k') (.int .i64 n') (.string s') (.slice A' a'.length c') 25
        obtain ⟨_, x0, x1, x2, x3, _⟩ := H0
        obtain ⟨_, y0, y1, y2, y3, _⟩ := H1
        go_enter Try.func13, Try.ntmps13
        go_wp2_with fail
        refine (Q.out _ (HB2.out _ _)).mono ?_
        rintro e w3 ⟨rfl, h2⟩
        have H := Lib.hid ((HB2.out _ _).trans (h2.mono (HB2.out (.cells #[.int .i64 k, .int .i64 n, .string s, .slice A a.length c] 25) (.cells #[.int .i64 k', .int .i64 n', .string s', .slice A' a'.length c'] 25)).size))
        clear h2
        cases r
        · go_wp2_with fail
          go_ret2
          exact ⟨none, 0, by rw [HV.out]; rfl, by rw [HV.out]; exact BLst.nil _, H.out⟩
        · go_wp2_with fail
          go_ret2
          exact ⟨E, ce, by rw [HV.out]; rfl, by rw [HV.out]; exact HE.out.below H.out, H.out⟩

set_option maxHeartbeats 2000000 in
theorem ref_atom_at (env : List Bd) (E : Option Addr) (ce : Nat) (p t : Am) (w : World) (hE : BLst w E env ce) (hp : p.At w) (ht : t.At w) (hlen : env.length + nodesL p.args ≤ 1000000) :
    Calls Try.prog 17 #[.slice E env.length ce, p.val, t.val] w (RMat (if p.name = t.name then matL env p.args t.args else none) w) := by
  have Q := Lib.hid (fun W (h : Below w.heap.size w W) => rm_lists_at env E ce p.args t.args p.at_ t.at_ p.cap t.cap W (hE.below h) (hp.2.below h) (ht.2.below h) hlen (fun x _ => ref_mat_at x))
  obtain ⟨s, A, c, a⟩ := p
  obtain ⟨s', A', c', a'⟩ := t
  simp only at Q
  clear hE hlen hp ht
  have HB2 := Lib.hid (below2 w (.cells #[.string s, .slice A a.length c] 36) (.cells #[.string s', .slice A' a'.length c'] 36))
  obtain ⟨x0, x1, y0, y1⟩ := box2 (Below.refl _ ((w.alloc (.cells #[.string s, .slice A a.length c] 36)).alloc (.cells #[.string s', .slice A' a'.length c'] 36)))
  show Calls Try.prog 17 #[.slice E env.length ce, .agg #[.string s, .slice A a.length c], .agg #[.string s', .slice A' a'.length c']] w _
  by_cases hs : s = s'
  · subst hs
    rw [if_pos rfl]
    generalize matL env a a' = r at *
    go_enter Try.func17, Try.ntmps17
    go_wp2_with fail
    refine (Q.out _ HB2.out).mono ?_
    rintro e w2 ⟨D, q, rfl, e2, e3⟩
    have HR := Lib.hid (show BLst w2 D (r.getD []) q ∧ Below w.heap.size w w2 from ⟨e2, HB2.out.trans (e3.mono HB2.out.size)⟩)
    clear e2 e3
    go_wp2_with fail
    go_ret2
    exact ⟨D, q, rfl, HR.out⟩
  · have g3 : (s.toList == s'.toList) = false := byte_ne hs
    rw [if_neg hs]
    clear Q hs
    go_enter Try.func17, Try.ntmps17
    go_wp2_with fail
    go_ret2
    exact ⟨none, 0, rfl, BLst.nil _, HB2.out⟩
end Go.Proofs.Ytceekaodhmncgaa
