/-
  RfApp.
  UnRound.
-/
import Derived.Test.YtgpglgehlnfggaaGreatMe25
import Derived.Test.YtgpglgehlnfggaaGreatMe26
import Derived.Test.YtgpglgehlnfggaaGreatMe9
import Derived.OrdersIn
import Derived.OrdersHeld
import Derived.RangeFuncCalls
import Derived.CallsIn
namespace Go.Proofs.YtgpglgehlnfggaaGreat
open Go.RowKit
theorem run_append_none {P : Program} {w : World} (t ty e : TypeId) (i : TypeInfo) (ht : P.underlying t = some (.slice e)) (hi : P.info? e = some i) (c : Nat) :
    (Builtin.append_ #[t, t] ty #[.slice none 0 0, .slice none 0 c]).run P w = .ok (.slice none 0 0) w := by
  simp [Builtin.append_, run_underlying ht, sizeOf, typeInfo, hi, Builtin.lenOf, run_firstCells_none]
theorem wpList_append_z {ops : Array Oper} {rest : List Oper} {o : Oper} {a : Act} {Q : Exit → Act → World → Prop} {w : World} (hgd : o.guard = none) (s x : Operand)
    (ho : o.op = .call { callee := .builtin .append, args := #[s, x], argTypes := #[31, 31] })
    (base : Nat) (z : Value) (n : Nat) (xs : List Value) (hs : a.eval s = z) (hown : w.ownsRow base 47 5 z n xs)
    (A : Option Addr) (m c : Nat) (news : List Value) (hx : a.eval x = .slice A m c) (hl : news.length = m * 5) (hA : A = none → m = 0) (hnews : ∀ ad, A = some ad → ∀ j u, news[j]? = some u → w.cell? (ad.add j) = some u) (h1 : ∀ u ∈ news, u.oneCell' = true)
    (hb : n + m ≤ 2000001) (hbase : base ≤ w.heap.size)
    (h : ∀ z' w', w'.ownsRow base 47 5 z' (n + m) (xs ++ news) → w.grownBy w' z.ownBlock → wpList Tryz.prog ops Q rest (a.put o.dst z') w') :
    wpList Tryz.prog ops Q (o :: rest) a w := by
  obtain ⟨i0, hi, hz0, hz1, hz2⟩ := info_parts bind_info
  have ht : Tryz.prog.underlying 31 = some (.slice 47) := Tryz.underlying31
  refine wpList_plain hgd fun K hK => ?_
  have hrun : ∃ z' w', (Builtin.append_ #[31, 31] o.type #[z, .slice A m c]).run Tryz.prog w = .ok z' w' ∧
      w'.ownsRow base 47 5 z' (n + m) (xs ++ news) ∧ w.grownBy w' z.ownBlock := by
    cases A with
    | none =>
      obtain rfl : m = 0 := hA rfl
      obtain rfl : news = [] := List.length_eq_zero_iff.1 (by simpa using hl)
      have hown0 := hown
      rcases hown.2 with ⟨rfl, _⟩ | ⟨g, cap, cur, rfl, _, _, hle, _⟩
      · refine ⟨_, w, run_append_none _ _ _ i0 ht hi c, ?_, ⟨rfl, rfl, rfl, Nat.le_refl _, fun _ _ _ => rfl⟩⟩
        rw [List.append_nil]; exact hown0
      · have hr := run_append_room_src (P := Tryz.prog) w 31 31 o.type 47 i0 ht hi g 0 n cap (.slice none 0 c) 0 [] (Src.ofNil w ht c) (by omega) (fun j hj => by simp at hj) (fun j hj => by simp at hj)
        refine ⟨_, w, hr, ?_, ⟨rfl, rfl, rfl, Nat.le_refl _, fun _ _ _ => rfl⟩⟩
        rw [List.append_nil]; exact hown0
    | some ad =>
      obtain ⟨v', w', hr, h2, h3, _, _⟩ := run_append_own_at (P := Tryz.prog) w base 31 o.type 47 i0 _ 5 64 ht hi hz0 hz1 hz2 rfl (by decide) _ n xs hown ad m c news hl (hnews ad rfl) h1 (by unfold maxLen; omega) (by omega) hbase
      exact ⟨v', w', hr, h2, h3⟩
  obtain ⟨z', w', hr, h2, h3⟩ := hrun
  unfold Oper.wp execOp
  simp only [ho, resolve, invoke, builtin, Sem.run_bind, Sem.run_pure, Result.andThen_ok, List.map_toArray, List.map_cons, List.map_nil, hs, hx, hr]
  exact hK _ _ (h z' w' h2 h3)
structure Cat (w7 : World) (z : Value) (l : List Bd) (W : World) : Prop where
  own : W.ownsRow w7.heap.size 47 5 z l.length (bcells l)
  ex : Ext w7 W
  tm : ∀ x ∈ l, Fits x.var ∧ x.tm.At w7
section
variable {w7 W W' : World} {z z' : Value} {l m : List Bd}
theorem Cat.nil (h : Ext w7 W) : Cat w7 (.slice none 0 0) [] W := ⟨⟨rfl, .inl ⟨rfl, rfl⟩⟩, h, fun x hx => by cases hx⟩
theorem Cat.al (h : Cat w7 z l W) (o : Obj) : Cat w7 z l (W.alloc o) := ⟨h.own.alloc _, h.ex.trans (Ext.al _ _), h.tm⟩
theorem Cat.app {n : Nat} {xs : List Value} (h : Cat w7 z l W) (hm : ∀ x ∈ m, Fits x.var ∧ x.tm.At w7) (hown : W'.ownsRow w7.heap.size 47 5 z' n xs) (hn : n = l.length + m.length) (hx : xs = bcells l ++ bcells m) (hg : W.grownBy W' z.ownBlock) : Cat w7 z' (l ++ m) W' := by
  refine ⟨?_, ?_, fun x hx => ?_⟩
  · rw [List.length_append, bcells_append, ← hn, ← hx]; exact hown
  · exact (FrX.grow (X := fun b => w7.heap.size ≤ b) (FrX.of h.ex) hg fun b e _ => (own_lt h.own b e).1).ext (Ext.refl w7) fun b e => e
  · rcases List.mem_append.1 hx with hx | hx
    · exact h.tm x hx
    · exact hm x hx
theorem Cat.form (h : Cat w7 z l W) : ∃ A c, z = .slice A l.length c ∧ (l = [] ∨ ∃ g, A = some ⟨g, 0, none⟩) := by
  rcases h.own.2 with ⟨rfl, h1⟩ | ⟨g, cap, cur, rfl, _⟩
  · exact ⟨none, 0, by rw [h1], .inl (List.length_eq_zero_iff.1 h1)⟩
  · exact ⟨_, cap, rfl, .inr ⟨g, rfl⟩⟩
theorem Cat.blst {A : Option Addr} {c : Nat} (h : Cat w7 (.slice A l.length c) l W) : BLst W A l c := by
  have hl := bcells_len l
  rcases h.own.2 with ⟨e, h1⟩ | ⟨g, cap, cur, e, hb, hg, hle, hcap, hcs, hcur⟩
  · injection e with e1 _ e3
    obtain rfl : l = [] := List.length_eq_zero_iff.1 h1
    rw [e1, e3]; exact BLst.nil W
  · injection e with e1 _ e3
    subst e1 e3
    refine ⟨hle, hcap, fun h0 => ⟨g, 0, rfl, fun i hi => ⟨fun j u hu => ?_, (h.tm _ (bgetD_mem hi)).1, (h.tm _ (bgetD_mem hi)).2.below h.ex⟩⟩⟩
    have hj := bcells_lt hu
    have hc := World.ownsRow.cellAt h.own (i * 5 + j) (by omega)
    rw [Nat.zero_add, hc]
    exact (bcells_get l hi hj).trans hu
end
structure BoxB (w : World) (B : Nat) (v : Int) (u : Tm) (W : World) : Prop where
  ex : Ext w W
  lo : w.heap.size ≤ B
  lt : B < W.heap.size
  c0 : W.cell? ⟨B, 0, none⟩ = some (.int .i64 v)
  c1 : W.cell? ⟨B, 1, none⟩ = some (.int .i64 u.kind)
  c2 : W.cell? ⟨B, 2, none⟩ = some (.int .i64 u.num)
  c3 : W.cell? ⟨B, 3, none⟩ = some (.string u.name)
  c4 : W.cell? ⟨B, 4, none⟩ = some (.slice u.at_ u.args.length u.cap)
  tm : u.At W
theorem BoxB.below {w W W' : World} {B : Nat} {v : Int} {u : Tm} (h : BoxB w B v u W) (e : Ext W W') : BoxB w B v u W' :=
  ⟨h.ex.trans e, h.lo, Nat.lt_of_lt_of_le h.lt e.size, keepv e h.c0, keepv e h.c1, keepv e h.c2, keepv e h.c3, keepv e h.c4, h.tm.below e⟩
theorem BoxB.fresh {w w2 : World} {v k n : Int} {s : ByteArray} {A : Option Addr} {c : Nat} {a : List Tm} (h : Ext w w2) (hu : (Tm.mk k n s A c a).At w2) (T : TypeId) : BoxB w w2.heap.size v (.mk k n s A c a) (w2.alloc (.cells #[.int .i64 v, .int .i64 k, .int .i64 n, .string s, .slice A a.length c] T)) :=
  ⟨h.trans (Ext.al _ _), h.size, by simp, World.cell?_alloc_at _ _ _ _ rfl, World.cell?_alloc_at _ _ _ _ rfl, World.cell?_alloc_at _ _ _ _ rfl, World.cell?_alloc_at _ _ _ _ rfl, World.cell?_alloc_at _ _ _ _ rfl, hu.below (Ext.al _ _)⟩
theorem five_facts {u v : World} {T : TypeId} {x0 x1 x2 x3 x4 : Value} {H : Nat} (hH : u.heap.size = H) (h : Ext (u.alloc (.cells #[x0, x1, x2, x3, x4] T)) v) :
    (v.cell? ⟨H, 0, none⟩ = some x0 ∧ v.cell? ⟨H, 1, none⟩ = some x1 ∧ v.cell? ⟨H, 2, none⟩ = some x2 ∧ v.cell? ⟨H, 3, none⟩ = some x3 ∧ v.cell? ⟨H, 4, none⟩ = some x4) ∧
      (∀ j, v.frozen? ⟨H, j, none⟩ = false) ∧ H < v.heap.size := by
  subst hH
  have hs := h.size
  rw [World.size_alloc] at hs
  refine ⟨⟨h.row 0, h.row 1, h.row 2, h.row 3, h.row 4⟩, fun j => ?_, by omega⟩
  exact (World.frozen?_of_block (h.block u.heap.size (by simp))).trans (World.frozen?_alloc_at _ _ _ _ rfl)
theorem set_keep {W : World} {B j k : Nat} {v x : Value} (h : W.cell? ⟨B, j, none⟩ = some x) (hne : k ≠ j) : (W.setCell ⟨B, k, none⟩ v).cell? ⟨B, j, none⟩ = some x := by
  rw [World.cell?_setCell_other _ _ _ _ (fun e => by injection e with _ e _; omega)]; exact h
theorem set_same {W : World} {B j : Nat} {v x : Value} (h : W.cell? ⟨B, j, none⟩ = some x) : (W.setCell ⟨B, j, none⟩ v).cell? ⟨B, j, none⟩ = some v := World.cell?_setCell_same' _ _ _ (by rw [h]; rfl)
theorem BoxB.stored {w u w2 : World} {T : TypeId} {x0 x1 x2 x3 x4 : Value} {v k n : Int} {s : ByteArray} {A : Option Addr} {c : Nat} {a : List Tm} {H : Nat} (hH : u.heap.size = H) (hw : Ext w u) (h : Ext (u.alloc (.cells #[x0, x1, x2, x3, x4] T)) w2) (hu : Lie Any (u.alloc (.cells #[x0, x1, x2, x3, x4] T)).heap.size No w2 (.mk k n s A c a)) :
    BoxB w H v (.mk k n s A c a) (((((w2.setCell ⟨H, 0, none⟩ (.int .i64 v)).setCell ⟨H, 1, none⟩ (.int .i64 k)).setCell ⟨H, 2, none⟩ (.int .i64 n)).setCell ⟨H, 3, none⟩ (.string s)).setCell ⟨H, 4, none⟩ (.slice A a.length c)) := by
  subst hH
  obtain ⟨⟨c0, c1, c2, c3, c4⟩, _, hz⟩ := five_facts rfl h
  have hs := hw.size
  have hl : ∀ j, (⟨u.heap.size, j, none⟩ : Addr).block < (u.alloc (.cells #[x0, x1, x2, x3, x4] T)).heap.size ∨ No (⟨u.heap.size, j, none⟩ : Addr).block := fun j => .inl (by simp)
  refine ⟨?_, hs, by simpa [World.setCell] using hz, ?_, ?_, ?_, ?_, ?_, ?_⟩
  · exact (((((hw.trans ((Ext.al _ _).trans h)).setCell (p := ⟨u.heap.size, 0, none⟩) hs _).setCell (p := ⟨u.heap.size, 1, none⟩) hs _).setCell (p := ⟨u.heap.size, 2, none⟩) hs _).setCell (p := ⟨u.heap.size, 3, none⟩) hs _).setCell (p := ⟨u.heap.size, 4, none⟩) hs _
  · exact set_keep (set_keep (set_keep (set_keep (set_same c0) (by omega)) (by omega)) (by omega)) (by omega)
  · exact set_keep (set_keep (set_keep (set_same (set_keep c1 (by omega))) (by omega)) (by omega)) (by omega)
  · exact set_keep (set_keep (set_same (set_keep (set_keep c2 (by omega)) (by omega))) (by omega)) (by omega)
  · exact set_keep (set_same (set_keep (set_keep (set_keep c3 (by omega)) (by omega)) (by omega))) (by omega)
  · exact set_same (set_keep (set_keep (set_keep (set_keep c4 (by omega)) (by omega)) (by omega)) (by omega))
  · exact (((((hu.set (hl 0) _).set (hl 1) _).set (hl 2) _).set (hl 3) _).set (hl 4) _).at trivial
end Go.Proofs.YtgpglgehlnfggaaGreat
namespace Go.Proofs.YtgpglgehlnfggaaGreat
section
variable {P : Program} {l n : Nat} {ops : Array Oper} {md : Region.Mode} {Q : Exit → Act → World → Prop} {S : World → Prop}
def Only (Q : Exit → Act → World → Prop) (e : Exit) (a : Act) (w : World) : Prop := e = .normal ∧ Q e a w
theorem round_take {i : Nat} {oi : Oper} {dst : Option Tmp} {v : Value} {fuel : Nat} {listed : Array Bool} {a : Act} {w : World} (hi : ops[i]? = some oi) (hdst : oi.dst = dst)
    (hs : Region.noSelect ops = true) (hf : Region.free md ops listed i = true) (hr : (Region.ready md ops listed).contains i = true) (hwt : Region.wanted oi (yielded ops a.tmps) = true)
    (hS : S w) (hy : ∀ w, S w → (execOp a.eval oi).run P w = .ok (.value v) w)
    (h : wpAnyH P md ops (Only Q) S fuel (listed.setIfInBounds i true) (a.put dst v) w) : wpAnyH P md ops (Only Q) S (fuel + 1) listed a w :=
  wpAnyH_take hi hs hf hr (fun _ _ _ h => by cases h.1) (.inl ⟨hwt, hy⟩) hS (hdst ▸ h)
theorem round_one {i : Nat} {fuel : Nat} {listed : Array Bool} {a : Act} {w : World} (hr : Region.ready md ops listed = [i])
    (h : wpOp P ops (Only Q) i (fun a' w' => S w' ∧ wpAnyH P md ops (Only Q) S fuel (listed.setIfInBounds i true) a' w') a w) : wpAnyH P md ops (Only Q) S (fuel + 1) listed a w :=
  wpAnyH_all hr (by simp) fun j hj => by rw [List.mem_singleton.1 hj]; exact h
def noDefer (o : Oper) : Bool := match o.op with
  | .defer _ => false
  | _ => true
theorem round_end {fuel : Nat} {listed : Array Bool} {a : Act} {w : World} (hr : Region.ready md ops listed = []) (h : Q .normal a w) : wpAnyH P md ops (Only Q) S fuel listed a w := wpAnyH_done hr ⟨rfl, h⟩ _
theorem held_take {i : Nat} {oi : Oper} {dst : Option Tmp} {v : Value} {fuel : Nat} {listed : Array Bool} {a : Act} {w : World} (hi : ops[i]? = some oi) (hdst : oi.dst = dst)
    (hs : Region.noSelect ops = true) (hf : Region.free md ops listed i = true) (hr : (Region.ready md ops listed).contains i = true) (hwt : Region.wanted oi (yielded ops a.tmps) = true)
    (hS : S w) (hy : ∀ w, S w → (execOp a.eval oi).run P w = .ok (.value v) w)
    (h : wpAnyH P md ops (Only Q) S fuel (listed.setIfInBounds i true) (a.put dst v) w) : wpAnyH P md ops (Only Q) S (fuel + 1) listed a w := round_take hi hdst hs hf hr hwt hS hy h
theorem held_pass {i : Nat} {oi : Oper} {dst : Option Tmp} {fuel : Nat} {listed : Array Bool} {a : Act} {w : World} (hi : ops[i]? = some oi) (hdst : oi.dst = dst)
    (hs : Region.noSelect ops = true) (hf : Region.free md ops listed i = true) (hr : (Region.ready md ops listed).contains i = true) (hwt : Region.wanted oi (yielded ops a.tmps) = false)
    (hS : S w) (h : wpAnyH P md ops (Only Q) S fuel (listed.setIfInBounds i true) (a.put dst undef) w) : wpAnyH P md ops (Only Q) S (fuel + 1) listed a w :=
  wpAnyH_take hi hs hf hr (fun _ _ _ h => by cases h.1) (.inr ⟨hwt, rfl⟩) hS (hdst ▸ h)
theorem held_call {i : Nat} {oi : Oper} {dst : Option Tmp} {f : FuncId} {args : Array Value} {fuel : Nat} {listed : Array Bool} {a : Act} {w w1 : World} {R : Ending → World → Prop} (hi : ops[i]? = some oi) (hdst : oi.dst = dst) (hwt : Region.wanted oi (yielded ops a.tmps) = true)
    (hy : (execOp a.eval oi).run P w = .ok (.enter f args) w1) (hc : Calls P f args w1 R) (hR : ∀ e w', R e w' → ∃ v, e = .returned v ∧ S w' ∧ wpAnyH P md ops (Only Q) S fuel (listed.setIfInBounds i true) (a.put dst v) w') :
    wpOp P ops (Only Q) i (fun a' w' => S w' ∧ wpAnyH P md ops (Only Q) S fuel (listed.setIfInBounds i true) a' w') a w := by
  unfold wpOp
  rw [hi]
  simp only
  rw [if_pos hwt]
  refine .inl ?_
  unfold Oper.wp
  rw [hy]
  refine Calls.mono hc fun e w' h => ?_
  obtain ⟨v, rfl, h1, h2⟩ := hR e w' h
  exact ⟨h1, hdst ▸ h2⟩
theorem held_start {id : Nat} {a : Act} {w : World} (fuel : Nat) (hf : ops.size = fuel) (S : World → Prop) (hm : P.follows .mixedOrders = true)
    (h : wpAnyH P .any ops (Only Q) S fuel (Array.replicate fuel false) a w.drew) : (Code.region id ops true).wp P Q a w := by
  subst hf
  refine wp_mono (Q := Only Q) (wp_region_held hm h) ?_
  rintro e a w ⟨rfl, h⟩
  exact h
end
end Go.Proofs.YtgpglgehlnfggaaGreat
