/-
  Contract of solve of the program: the graph of some equations, its classes and an order; or that there is no unifier.
  The reference's classes, plainly: numbers of classes, two classes made one, the node that stands for a class. No program.
  The reference's graph in memory: a box with the slice of nodes and the slice of classes; both in rows of the call's own; the lists of arguments in rows of their own.
-/
import Derived.Test.YtelkmnjoboekmaaGreatMb14
import Derived.Test.YtelkmnjoboekmaaGreatMb13
import Derived.Test.YtelkmnjoboekmaaGreatMb10
namespace Go.Proofs.YtelkmnjoboekmaaGreat
open Go.RowKit

theorem join_b {lo : Nat} {X : Nat → Prop} {p : Nat} {z : Value} {G : List Nd} {root r : Nat → Nat} {E : List (Nat × Nat)} {a b : Nat} {w : World} (h : Gph lo X w p z G) (hu : UF G root r) (hm : Mid G root [] E) (ht : Tops G root) (hok : Ok G) (ha : a < G.length) (hb : b < G.length) :
    Calls Tryz.prog 65 #[.pointer (some ⟨p, 0, none⟩), .int .i64 (a : Nat), .int .i64 (b : Nat)] w fun e w' => ∃ (ok : Bool) (H : List Nd), e = .returned (.bool ok) ∧ Alike G H ∧ Gph lo X w' p z H ∧ w.grownBy w' z.ownBlock ∧
      (ok = true → ∃ root r, UF H root r ∧ Mid G root [] (E ++ [(a, b)]) ∧ Tops G root) ∧ (ok = false → ∀ f, ¬ ∀ p ∈ E ++ [(a, b)], ndv f G p.1 = ndv f G p.2) := by
  refine (join_at h hu hm ht hok ha hb).mono ?_
  rintro e w' ⟨H, h1, h2, h3, h4⟩
  rcases h4 with ⟨rfl, h4⟩ | ⟨rfl, h4⟩
  · exact ⟨true, H, rfl, h1, h2, h3, fun _ => h4, fun h => by cases h⟩
  · exact ⟨false, H, rfl, h1, h2, h3, fun h => (by cases h), fun _ => h4⟩
/-- The graph behind writes to its row of nodes alone. -/
theorem Gadd.row {lo p mb : Nat} {Y : Nat → Prop} {z : Value} {G H : List Nd} {w w' : World} (h : Gadd lo Y w p mb z G) (ha : Alike G H) (hg : Gph lo (fun k => k = p ∨ k = mb ∨ Y k) w' p z H) (hf : w.grownBy w' z.ownBlock) : Gadd lo Y w' p mb z H := by
  have hp := h.g.lt
  refine ⟨hg, (fr_cell hf (p := ⟨p, 1, none⟩) hp (fun e => h.g.np e.symm)).trans h.vc, ?_, h.pm, h.zm, h.lp, h.lm, fun j => (fr_frozen hf (p := ⟨p, j, none⟩) hp (fun e => h.g.np e.symm)).trans (h.fz j)⟩
  obtain ⟨D, h1, h2⟩ := h.vm
  exact ⟨D, by rw [ha.len]; exact h1.kept hf (fun e => h.zm e.symm), h2.like ha.len fun i hi => (ha.tm hi).1⟩

theorem gadd_start (w : World) (T : TypeId) : Gadd w.heap.size No ((w.alloc (.cells #[.slice none 0 0, .map (some (w.heap.size + 1))] T)).alloc (.map #[] 0)) w.heap.size (w.heap.size + 1) (.slice none 0 0) [] := by
  have hc : ∀ j, ((w.alloc (.cells #[.slice none 0 0, .map (some (w.heap.size + 1))] T)).alloc (.map #[] 0)).cell? ⟨w.heap.size, j, none⟩ = (#[Value.slice none 0 0, .map (some (w.heap.size + 1))] : Array Value)[j]? := fun j => by
    rw [(below1 (w.alloc _) (.map #[] 0)).cell (p := ⟨w.heap.size, j, none⟩) (by simp), World.cell?_alloc_at _ _ _ _ rfl]
  have hm := World.ownsMap_made (H := Unit) (w.alloc (.cells #[.slice none 0 0, .map (some (w.heap.size + 1))] T)) Tryz.prog 3 (plainElem Tryz.prog 3)
  rw [World.size_alloc] at hm
  refine ⟨⟨hc 0, World.ownsRow_nil _ _ _ _, fun i hi => by simp at hi, by simp [Value.ownBlock], fun i hi => by simp at hi, by simp⟩, hc 1, ⟨.map [], hm, VMap.empty⟩, by omega, by simp [Value.ownBlock], Nat.le_refl _, by omega, fun j => ?_⟩
  rw [(below1 (w.alloc _) (.map #[] 0)).frozen (p := ⟨w.heap.size, j, none⟩) (by simp)]
  exact World.frozen?_alloc_at _ _ _ _ rfl
theorem AddFr.cells4 {p mb b o : Nat} {z : Value} {w w' : World} {v0 v1 v2 v3 : Value} (h : AddFr p mb z w w') (hb : b < w.heap.size) (h1 : b ≠ p) (h2 : b ≠ mb) (h3 : z.ownBlock ≠ some b)
    (c : w.cell? ⟨b, o, none⟩ = some v0 ∧ w.cell? ⟨b, o + 1, none⟩ = some v1 ∧ w.cell? ⟨b, o + 2, none⟩ = some v2 ∧ w.cell? ⟨b, o + 3, none⟩ = some v3) :
    w'.cell? ⟨b, o, none⟩ = some v0 ∧ w'.cell? ⟨b, o + 1, none⟩ = some v1 ∧ w'.cell? ⟨b, o + 2, none⟩ = some v2 ∧ w'.cell? ⟨b, o + 3, none⟩ = some v3 :=
  ⟨(h.cell (a := ⟨b, o, none⟩) hb h1 h2 h3).trans c.1, (h.cell (a := ⟨b, o + 1, none⟩) hb h1 h2 h3).trans c.2.1, (h.cell (a := ⟨b, o + 2, none⟩) hb h1 h2 h3).trans c.2.2.1, (h.cell (a := ⟨b, o + 3, none⟩) hb h1 h2 h3).trans c.2.2.2⟩
theorem AddFr.of_fr {p mb : Nat} {z : Value} {w w' : World} (h : w.grownBy w' z.ownBlock) : AddFr p mb z w w' := ⟨h.os, h.tape, h.output, h.size, fun b h1 _ _ h4 => h.block b h1 (fun e => h4 e.symm)⟩
theorem undrew_af {p mb : Nat} {z : Value} {w w' : World} (h : AddFr p mb z w.drew w') : AddFr p mb z w w' := ⟨h.os, h.tape, h.output, h.size, h.block⟩
/-- The graph with the two terms of the next equation, and what holds of its classes. -/
theorem solving_two {G G2 G3 : List Nd} (hok : Ok G) (m2 : ∃ N, G2 = G ++ N) (m3 : ∀ j, G.length ≤ j → j < G2.length → OkAt G2 j ∧ (nd G2 j).next = j) (n2 : ∃ N, G3 = G2 ++ N) (n3 : ∀ j, G2.length ≤ j → j < G3.length → OkAt G3 j ∧ (nd G3 j).next = j)
    {root r : Nat → Nat} {E : List (Nat × Nat)} (hu : UF G root r) (hm : Mid G root [] E) (ht : Tops G root) : (∃ N, G3 = G ++ N) ∧ Ok G3 ∧ UF G3 (extR G.length root) r ∧ Mid G3 (extR G.length root) [] E ∧ Tops G3 (extR G.length root) := by
  obtain ⟨N, rfl⟩ := m2
  obtain ⟨M, rfl⟩ := n2
  have hN : ∀ j, G.length ≤ j → j < ((G ++ N) ++ M).length → OkAt ((G ++ N) ++ M) j ∧ (nd ((G ++ N) ++ M) j).next = j := fun j h1 h2 => by
    by_cases h3 : j < (G ++ N).length
    · have := m3 j h1 h3
      exact ⟨this.1.left h3, by rw [nd_left h3]; exact this.2⟩
    · exact n3 j (by omega) h2
  have rl : ∀ j, j < G.length → root j < G.length := fun j hj => (hu.root_lt j hj).1
  rw [List.append_assoc] at hN ⊢
  exact ⟨⟨_, rfl⟩, hok.ext fun j h1 h2 => (hN j h1 h2).1, hu.ext fun j h1 h2 => (hN j h1 h2).2, hm.ext rl, ht.ext rl⟩
theorem ndv_term {G : List Nd} {i : Nat} {t : Tm} (h : (nd G i).tm.strip = t.strip) (f : Int → Tm) : ndv f G i = t.sub f := sub_like f h

theorem solving_step {la lb : List Tm} {x y : Tm} {j i2 i3 : Nat} {G G2 G3 H : List Nd} {E : List (Nat × Nat)} (hz : (la.zip lb).take (j + 1) = (la.zip lb).take j ++ [(x, y)]) (hun : ∀ f, Unif ((la.zip lb).take j) f ↔ ∀ p ∈ E, ndv f G p.1 = ndv f G p.2)
    (hE : ∀ p ∈ E, p.1 < G.length ∧ p.2 < G.length) (m2 : ∃ N, G2 = G ++ N) (n2 : ∃ N, G3 = G2 ++ N) (m4 : i2 < G2.length) (m5 : (nd G2 i2).tm.strip = x.strip) (n4 : i3 < G3.length) (n5 : (nd G3 i3).tm.strip = y.strip) (ha : Alike G3 H) :
    (∀ f, Unif ((la.zip lb).take (j + 1)) f ↔ ∀ p ∈ E ++ [(i2, i3)], ndv f G3 p.1 = ndv f G3 p.2) ∧ ∀ f, Unif ((la.zip lb).take (j + 1)) f ↔ ∀ p ∈ E ++ [(i2, i3)], ndv f H p.1 = ndv f H p.2 := by
  obtain ⟨N, rfl⟩ := m2
  obtain ⟨M, rfl⟩ := n2
  have e1 : ∀ f, ∀ p ∈ E, ndv f ((G ++ N) ++ M) p.1 = ndv f G p.1 ∧ ndv f ((G ++ N) ++ M) p.2 = ndv f G p.2 := fun f p hp => by
    have := hE p hp
    rw [List.append_assoc, ndv_left this.1, ndv_left this.2]
    exact ⟨rfl, rfl⟩
  have e2 : ∀ f, ndv f ((G ++ N) ++ M) i2 = x.sub f := fun f => by rw [ndv_left m4]; exact sub_like f m5
  have e3 : ∀ f, ndv f ((G ++ N) ++ M) i3 = y.sub f := fun f => sub_like f n5
  have h1 : ∀ f, Unif ((la.zip lb).take (j + 1)) f ↔ ∀ p ∈ E ++ [(i2, i3)], ndv f ((G ++ N) ++ M) p.1 = ndv f ((G ++ N) ++ M) p.2 := fun f => by
    rw [hz, unif_snoc, hun f]
    constructor
    · rintro ⟨a1, a2⟩ p hp
      rcases List.mem_append.1 hp with hp | hp
      · rw [(e1 f p hp).1, (e1 f p hp).2]; exact a1 p hp
      · rw [List.mem_singleton.1 hp]; show ndv f _ i2 = ndv f _ i3; rw [e2, e3]; exact a2
    · intro a
      refine ⟨fun p hp => ?_, ?_⟩
      · have := a p (List.mem_append.2 (.inl hp))
        rw [(e1 f p hp).1, (e1 f p hp).2] at this
        exact this
      · have := a (i2, i3) (by simp)
        rw [show ndv f ((G ++ N) ++ M) (i2, i3).1 = x.sub f from e2 f, show ndv f ((G ++ N) ++ M) (i2, i3).2 = y.sub f from e3 f] at this
        exact this
  refine ⟨h1, fun f => (h1 f).trans ?_⟩
  have hl : i2 < ((G ++ N) ++ M).length := by rw [List.length_append]; omega
  have hb : ∀ p ∈ E ++ [(i2, i3)], p.1 < ((G ++ N) ++ M).length ∧ p.2 < ((G ++ N) ++ M).length := fun p hp => by
    rcases List.mem_append.1 hp with hp | hp
    · have := hE p hp
      simp only [List.length_append]
      omega
    · rw [List.mem_singleton.1 hp]; exact ⟨hl, n4⟩
  constructor
  · intro a p hp
    rw [ha.ndv (hb p hp).1, ha.ndv (hb p hp).2]; exact a p hp
  · intro a p hp
    have := a p hp
    rw [ha.ndv (hb p hp).1, ha.ndv (hb p hp).2] at this
    exact this
theorem Alike.uses {G H : List Nd} (h : Alike G H) {root : Nat → Nat} {v j : Nat} (hj : j < G.length) : uses H root v j = uses G root v j := by unfold Go.Proofs.YtelkmnjoboekmaaGreat.uses; rw [(h.tm hj).2.1]
theorem Alike.ordering {G H : List Nd} (h : Alike G H) {root : Nat → Nat} {ord rest us : List Nat} {m : Nat} (k : Ordering G root ord m rest us) : Ordering H root ord m rest us := by
  have hl : ∀ done v, left H root done v = left G root done v := fun done v => by
    unfold left
    rw [h.len]
    exact sumTo_congr fun j hj => by rw [h.uses hj]
  refine ⟨k.nodup, fun i hi => by rw [h.len]; exact k.lt i hi, by rw [h.len]; exact k.len, fun v hv => by rw [hl]; exact k.cnt v (by rw [← h.len]; exact hv), fun v hv => k.mem v (by rw [← h.len]; exact hv), fun s hs j hj hu => ?_⟩
  rw [h.len] at hj
  rw [h.uses hj] at hu
  exact k.pre s hs j hj hu
theorem own_mono {w : World} {base base' : Nat} {e : TypeId} {size : Nat} {v : Value} {n : Nat} {xs : List Value} (h : w.ownsRow base e size v n xs) (hb : base' ≤ base) : w.ownsRow base' e size v n xs :=
  ⟨h.1, h.2.imp id fun ⟨g, cap, cur, e1, e2, r⟩ => ⟨g, cap, cur, e1, Nat.le_trans hb e2, r⟩⟩
/-- The rows, behind writes to the box alone. -/
theorem gmem_of {lo p mb : Nat} {z : Value} {G : List Nd} {w w' : World} (h : Gadd lo No w p mb z G) (k : w.grownBy w' (some p)) : GMem lo w' z mb G := by
  refine ⟨World.ownsRow.kept h.g.row k (.inr h.g.np), fun i hi => ?_, h.g.fine, h.g.small, ?_, h.zm⟩
  · have h1 := (h.g.kids i hi).fr k fun b e _ => .inr (.inl (by injection e with e; exact e.symm))
    exact h1.out fun b _ _ e => .inl e
  · obtain ⟨D, h1, h2⟩ := h.vm
    exact ⟨D, h1.kept k (by simpa using Ne.symm h.pm), h2⟩

/-- .. with the graph's row as a slice. -/
def SolvedZ (la lb : List Tm) (w : World) (e : Ending) (w' : World) : Prop := SolvedR la lb w e w' ∧ ∃ (zA : Option Addr) (n zc mb : Nat) (A : Option Addr) (m c : Nat) (b : Bool), e = .returned (.tuple #[.agg #[.slice zA n zc, .map (some mb)], .slice A m c, .bool b])
set_option maxHeartbeats 4000000 in
set_option maxRecDepth 100000 in
theorem solve_at (la lb : List Tm) (A B : Option Addr) (ca cb : Nat) (w : World) (hA : Lst w A la ca) (hB : Lst w B lb cb) (hlen : la.length = lb.length) (hfa : ∀ t ∈ la, t.form = true) (hfb : ∀ t ∈ lb, t.form = true) (hn : nodesL la + nodesL lb ≤ 2500000) :
    Calls Tryz.prog 38 #[.slice A la.length ca, .slice B lb.length cb] w (SolvedZ la lb w) := by
  have hla : la.length ≤ 2500000 := by have := length_le_nodes la; omega
  have HA := Lib.hid hA
  have HB := Lib.hid hB
  have HN := Lib.hid hn
  have HFA := Lib.hid hfa
  have HFB := Lib.hid hfb
  have HLN := Lib.hid hlen
  clear hA hB hn hfa hfb hlen
  have hmm := @run_makeMap Tryz.prog
  go_enter Tryz.func38, Tryz.ntmps38
  go_wp2_with fail
  clear hmm
  have HS0 := Lib.hid (show Solving la lb w.heap.size (w.heap.size + 1) w (.slice none 0 0) [] 0 ((w.alloc (.cells #[.slice none 0 0, .map (some (w.heap.size + 1))] 61)).alloc (.map #[] 0)) from
    ⟨gadd_start w _, below2 w _ _, fun i hi => by simp at hi, by simp, fun i => i, fun _ => 0, [], uf_nil, mid_nil, tops_nil, fun f => by simp [Unif]⟩)
  go_loopw [13] (fun s13 wr => ∃ (j : Nat) (z : Value) (G : List Nd), j ≤ la.length ∧ s13 = .int .i64 (j : Nat) ∧ Hid (Solving la lb w.heap.size (w.heap.size + 1) w z G j wr)) (fun s13 _ => la.length - (intOf s13).toNat)
  case atStart => exact ⟨0, _, _, Nat.zero_le _, rfl, HS0⟩
  case round =>
    clear HS0
    obtain ⟨j, z, G, hj, rfl, HS⟩ := hrel
    obtain ⟨p, hp⟩ : ∃ p, p = w.heap.size := ⟨_, rfl⟩
    by_cases hlt : j < la.length
    · have hltb : j < lb.length := by have := HLN.out; omega
      have hbw := HS.out.2.1
      obtain ⟨ba, oa, rfl, ⟨c0, c1, c2, c3⟩, hxat⟩ := (HA.out.below hbw).get hlt
      obtain ⟨bb, ob, rfl, dd, hyat⟩ := (HB.out.below hbw).get hltb
      have hxm := getD_mem hlt
      have hym := getD_mem hltb
      have hxa := HA.out.mem hxm
      have hya := HB.out.mem hym
      have hbb : bb < w.heap.size := by
        obtain ⟨b1, o1, e1, e2, _⟩ := HB.out.get hltb
        injection e1 with e1
        injection e1 with e1 _ _
        rw [e1]
        exact World.block_lt_of_cell? _ _ e2.1
      have hnx := nodesL_next hlt
      have hny := nodesL_next hltb
      have htx := nodesL_take la (j + 1)
      have hty := nodesL_take lb (j + 1)
      have HZ := Lib.hid (zip_take_next hlt hltb)
      have hfx := HFA.out _ hxm
      have hfy := HFB.out _ hym
      generalize la.getD j default = x at *
      generalize lb.getD j default = y at *
      have HX := Lib.hid (show x.At w ∧ x.form = true ∧ y.At w ∧ y.form = true from ⟨hxa, hfx, hya, hfy⟩)
      have HNN := Lib.hid (show nodesL (la.take (j + 1)) = nodesL (la.take j) + x.nodes ∧ nodesL (lb.take (j + 1)) = nodesL (lb.take j) + y.nodes ∧ nodesL (la.take (j + 1)) + nodesL (lb.take (j + 1)) ≤ 2500000 from ⟨hnx, hny, by have := HN.out; omega⟩)
      clear hxm hym hxa hya hxat hyat hnx hny htx hty hfx hfy hp
      obtain ⟨kx, nx, sx, Ax, cx, lx⟩ := x
      obtain ⟨ky, ny, sy, Ay, cy, ly⟩ := y
      simp only [Tm.kind, Tm.num, Tm.name, Tm.at_, Tm.args, Tm.cap] at c0 c1 c2 c3 dd
      obtain ⟨hga, _, hok, hgl, root, r, E, huf, hmd, htp, hun⟩ := HS.out
      have HG0 := Lib.hid hga
      have HG1 := Lib.hid (hga.alloc (.cells #[.int .i64 kx, .int .i64 nx, .string sx, .slice Ax lx.length cx] 26))
      have HB1 := Lib.hid (hbw.alloc hbw.size (.cells #[.int .i64 kx, .int .i64 nx, .string sx, .slice Ax lx.length cx] 26))
      have HOK := Lib.hid hok
      have HGL := Lib.hid hgl
      have HMD := Lib.hid (show UF G root r ∧ Mid G root [] E ∧ Tops G root from ⟨huf, hmd, htp⟩)
      have HUN := Lib.hid hun
      have hzl := fun b e => (hga.zlo b e).2
      have HZL := Lib.hid hzl
      have hsz : w.heap.size + 1 < wr.heap.size := by obtain ⟨D, h1, _⟩ := hga.vm; exact h1.lt
      have QX := Lib.hid (fun W (hW : Gadd w.heap.size No W w.heap.size (w.heap.size + 1) z G) (hb : Below w.heap.size w W) => show Calls Tryz.prog 66 #[.pointer (some ⟨w.heap.size, 0, none⟩), .agg #[.int .i64 kx, .int .i64 nx, .string sx, .slice Ax lx.length cx]] W (AddR w.heap.size No w.heap.size (w.heap.size + 1) z G (.mk kx nx sx Ax cx lx) W) from add_at w w.heap.size (w.heap.size + 1) (.mk kx nx sx Ax cx lx) No G z W HX.out.1 HX.out.2.1 hb hW (fun i hi => (HOK.out i hi).form) (fun b h => h.elim) (by have := HNN.out; have := HGL.out; omega))
      have QY := Lib.hid (fun W G2 z2 (hW : Gadd w.heap.size No W w.heap.size (w.heap.size + 1) z2 G2) (hb : Below w.heap.size w W) (hf : ∀ i, i < G2.length → (nd G2 i).tm.form = true) (hs : G2.length ≤ G.length + (Tm.mk kx nx sx Ax cx lx).nodes) => show Calls Tryz.prog 66 #[.pointer (some ⟨w.heap.size, 0, none⟩), .agg #[.int .i64 ky, .int .i64 ny, .string sy, .slice Ay ly.length cy]] W (AddR w.heap.size No w.heap.size (w.heap.size + 1) z2 G2 (.mk ky ny sy Ay cy ly) W) from add_at w w.heap.size (w.heap.size + 1) (.mk ky ny sy Ay cy ly) No G2 z2 W HX.out.2.2.1 HX.out.2.2.2 hb hW hf (fun b h => h.elim) (by have := HNN.out; have := HGL.out; omega))
      have bx := held_new (v0 := .int .i64 kx) (v1 := .int .i64 nx) (v2 := .string sx) (v3 := .slice Ax lx.length cx) wr 26
      have hk0 : ((fun W => (W.cell? ⟨wr.heap.size, 0, none⟩ = some (.int .i64 kx) ∧ W.cell? ⟨wr.heap.size, 1, none⟩ = some (.int .i64 nx) ∧ W.cell? ⟨wr.heap.size, 2, none⟩ = some (.string sx) ∧ W.cell? ⟨wr.heap.size, 3, none⟩ = some (.slice Ax lx.length cx)) ∧ W.cell? ⟨bb, ob + j * 4, none⟩ = some (.int .i64 ky) ∧ W.cell? ⟨bb, ob + j * 4 + 1, none⟩ = some (.int .i64 ny) ∧ W.cell? ⟨bb, ob + j * 4 + 2, none⟩ = some (.string sy) ∧ W.cell? ⟨bb, ob + j * 4 + 3, none⟩ = some (.slice Ay ly.length cy))) (wr.alloc (.cells #[.int .i64 kx, .int .i64 nx, .string sx, .slice Ax lx.length cx] 26)) := ⟨⟨bx.c0, bx.c1, bx.c2, bx.c3⟩, al1 dd.1 _, al1 dd.2.1 _, al1 dd.2.2.1 _, al1 dd.2.2.2 _⟩
      have HKA := Lib.hid (show ∀ z' (W W' : World), ((fun W => (W.cell? ⟨wr.heap.size, 0, none⟩ = some (.int .i64 kx) ∧ W.cell? ⟨wr.heap.size, 1, none⟩ = some (.int .i64 nx) ∧ W.cell? ⟨wr.heap.size, 2, none⟩ = some (.string sx) ∧ W.cell? ⟨wr.heap.size, 3, none⟩ = some (.slice Ax lx.length cx)) ∧ W.cell? ⟨bb, ob + j * 4, none⟩ = some (.int .i64 ky) ∧ W.cell? ⟨bb, ob + j * 4 + 1, none⟩ = some (.int .i64 ny) ∧ W.cell? ⟨bb, ob + j * 4 + 2, none⟩ = some (.string sy) ∧ W.cell? ⟨bb, ob + j * 4 + 3, none⟩ = some (.slice Ay ly.length cy))) W → AddFr w.heap.size (w.heap.size + 1) z' W W' → wr.heap.size < W.heap.size → (∀ b, z'.ownBlock = some b → w.heap.size ≤ b ∧ b ≠ wr.heap.size) → ((fun W => (W.cell? ⟨wr.heap.size, 0, none⟩ = some (.int .i64 kx) ∧ W.cell? ⟨wr.heap.size, 1, none⟩ = some (.int .i64 nx) ∧ W.cell? ⟨wr.heap.size, 2, none⟩ = some (.string sx) ∧ W.cell? ⟨wr.heap.size, 3, none⟩ = some (.slice Ax lx.length cx)) ∧ W.cell? ⟨bb, ob + j * 4, none⟩ = some (.int .i64 ky) ∧ W.cell? ⟨bb, ob + j * 4 + 1, none⟩ = some (.int .i64 ny) ∧ W.cell? ⟨bb, ob + j * 4 + 2, none⟩ = some (.string sy) ∧ W.cell? ⟨bb, ob + j * 4 + 3, none⟩ = some (.slice Ay ly.length cy))) W' from fun z' W W' h1 h2 h3 h4 =>
        ⟨h2.cells4 (b := wr.heap.size) (o := 0) h3 (by omega) (by omega) (fun e => (h4 _ e).2 rfl) h1.1, h2.cells4 (b := bb) (o := ob + j * 4) (by omega) (by omega) (by omega) (fun e => by have := (h4 _ e).1; omega) h1.2⟩)
      have K0 := Lib.hid hk0
      clear hga hok hgl huf hmd htp hun hzl bx hbw HS
      go_wp2_with fail
      obtain ⟨⟨a0, a1, a2, a3⟩, b0, b1, b2, b3⟩ := K0.out
      go_region_held3 (fun W => (W.cell? ⟨wr.heap.size, 0, none⟩ = some (.int .i64 kx) ∧ W.cell? ⟨wr.heap.size, 1, none⟩ = some (.int .i64 nx) ∧ W.cell? ⟨wr.heap.size, 2, none⟩ = some (.string sx) ∧ W.cell? ⟨wr.heap.size, 3, none⟩ = some (.slice Ax lx.length cx)) ∧ W.cell? ⟨bb, ob + j * 4, none⟩ = some (.int .i64 ky) ∧ W.cell? ⟨bb, ob + j * 4 + 1, none⟩ = some (.int .i64 ny) ∧ W.cell? ⟨bb, ob + j * 4 + 2, none⟩ = some (.string sy) ∧ W.cell? ⟨bb, ob + j * 4 + 3, none⟩ = some (.slice Ay ly.length cy)) (first | exact ⟨⟨a0, a1, a2, a3⟩, b0, b1, b2, b3⟩ | exact K2.out | exact K3.out | exact K4.out) (first
        | (go_at_call 66; (with_reducible refine (QX.out _ HG1.out.drew HB1.out.drew).mono ?_); rintro e w2 ⟨z2, G2, i2, rfl, m1, m2, m3, m4, m5, m6, m7, m8⟩; have M1 := Lib.hid m1; have M2 := Lib.hid m2; have M3 := Lib.hid m3; have M4 := Lib.hid m4; have M5 := Lib.hid m5; have M6 := Lib.hid m6; have M7 := Lib.hid (undrew_af m7); have M8 := Lib.hid m8; have B2 := Lib.hid (show Below w.heap.size w w2 from m7.below HB1.out.drew (Nat.le_refl _) (Nat.le_succ _) (fun b e => (HG0.out.zlo b e).1)); have F2 := Lib.hid (show ∀ i, i < G2.length → (nd G2 i).tm.form = true from fun i hi => by (by_cases h1 : i < G.length; (obtain ⟨N, rfl⟩ := m2; rw [nd_left h1]; exact (HOK.out i h1).form); exact (m3 i (by omega) hi).1.form)); have K2 := Lib.hid (HKA.out z _ w2 K0.out (undrew_af m7) (by simp) (fun b e => ⟨(HG0.out.zlo b e).1, by have := HZL.out b e; omega⟩)); clear m1 m2 m3 m4 m5 m6 m7 m8)
        | (go_at_call 66; (with_reducible refine (QY.out _ _ _ M1.out B2.out F2.out M6.out).mono ?_); rintro e w3 ⟨z3, G3, i3, rfl, n1, n2, n3, n4, n5, n6, n7, n8⟩; have N1 := Lib.hid n1; have N2 := Lib.hid n2; have N3 := Lib.hid n3; have N4 := Lib.hid n4; have N5 := Lib.hid n5; have N6 := Lib.hid n6; have N7 := Lib.hid n7; have N8 := Lib.hid n8; have T3 := Lib.hid (solving_two HOK.out M2.out M3.out n2 n3 HMD.out.1 HMD.out.2.1 HMD.out.2.2); have L2 := Lib.hid (show i2 < G3.length from by (obtain ⟨N, hN⟩ := n2; have := congrArg List.length hN; rw [List.length_append] at this; have := M4.out; omega)); have K3 := Lib.hid (HKA.out z2 _ w3 K2.out n7 (by have := M7.out.size; simp at this; omega) (fun b e => by (have h1 := (M1.out.zlo b e).1; rcases M8.out with h | h; (exact ⟨h1, by have := HZL.out b (h ▸ e); omega⟩); exact ⟨h1, by have := h b e; simp at this; omega⟩))); clear n1 n2 n3 n4 n5 n6 n7 n8)
        | (go_at_call 65; (with_reducible refine (join_b N1.out.g T3.out.2.2.1 T3.out.2.2.2.1 T3.out.2.2.2.2 T3.out.2.1 L2.out N4.out).mono ?_); rintro e w4 ⟨ok, H, rfl, j1, j2, j3, j4, j5⟩; have J := Lib.hid (show Alike G3 H ∧ Gph w.heap.size (fun k => k = w.heap.size ∨ k = w.heap.size + 1 ∨ No k) w4 w.heap.size z3 H ∧ w3.grownBy w4 z3.ownBlock ∧ (ok = true → ∃ root r, UF H root r ∧ Mid G3 root [] (E ++ [(i2, i3)]) ∧ Tops G3 root) ∧ (ok = false → ∀ f, ¬ ∀ p ∈ E ++ [(i2, i3)], ndv f G3 p.1 = ndv f G3 p.2) from ⟨j1, j2, j3, j4, j5⟩); have K4 := Lib.hid (HKA.out z3 _ w4 K3.out (AddFr.of_fr j3) (by have := M7.out.size; have := N7.out.size; simp at *; omega) (fun b e => by (have h1 := (N1.out.zlo b e).1; refine ⟨h1, ?_⟩; rcases N8.out with h | h; (rcases M8.out with h' | h'; (have := HZL.out b (h' ▸ h ▸ e); omega); (have := h' b (h ▸ e); simp at this; omega)); (have := h b e; have := M7.out.size; simp at *; omega)))); clear j1 j2 j3 j4 j5))
      have HST := Lib.hid (solving_step HZ.out HUN.out HMD.out.2.1.ebd M2.out N2.out M4.out M5.out N4.out N5.out J.out.1)
      have HG4 := Lib.hid (N1.out.row J.out.1 J.out.2.1 J.out.2.2.1)
      have HB3 := Lib.hid (show Below w.heap.size w w3 from N7.out.below B2.out (Nat.le_refl _) (Nat.le_succ _) (fun b e => (M1.out.zlo b e).1))
      have HB4 := Lib.hid (below_fr HB3.out J.out.2.2.1 (fun b e => (N1.out.zlo b e).1))
      have HLL := Lib.hid (show H.length ≤ nodesL (la.take (j + 1)) + nodesL (lb.take (j + 1)) from by
        have h1 := J.out.1.len
        have h2 := N6.out
        have h3 := M6.out
        have h4 := HNN.out
        have h5 := HGL.out
        omega)
      clear a0 a1 a2 a3 b0 b1 b2 b3 K0 K2 K3 K4 HKA QX QY c0 c1 c2 c3 dd
      cases ok with
      | true =>
        have HE := Lib.hid (show Solving la lb w.heap.size (w.heap.size + 1) w z3 H (j + 1) w4 from by
          obtain ⟨root2, r2, g1, g2, g3⟩ := J.out.2.2.2.1 rfl
          have ha := J.out.1
          refine ⟨HG4.out, HB4.out, ha.ok T3.out.2.1, HLL.out, root2, r2, E ++ [(i2, i3)], g1, ha.mid g2, ha.tops (fun i hi => ?_) g3, HST.out.2⟩
          have := (g1.root_lt i (by rw [ha.len]; exact hi)).1
          rw [ha.len] at this
          exact this)
        clear J T3 HST
        go_wp2_with fail
        go_roundw
        case rel => exact ⟨j + 1, z3, H, by omega, by go_num, HE⟩
        case measure => simp [intOf]; omega
      | false =>
        have HE := Lib.hid (show ∀ W, Below w.heap.size w W → SolvedR la lb w (.returned (.tuple #[.agg #[z3, .map (some (w.heap.size + 1))], .slice none ([] : List Nat).length 0, .bool false])) W from fun W hW =>
          ⟨z3, w.heap.size + 1, none, 0, [], false, rfl, hW, fun _ f hf => J.out.2.2.2.2 rfl f ((HST.out.1 f).1 (unif_take hf _)), fun h => by cases h⟩)
        clear J T3 HST
        obtain ⟨zA, zc, rfl, _⟩ := HG4.out.g.slice
        have e0 := HG4.out.g.hdr
        have e1 := HG4.out.vc
        have f0 := HG4.out.fz 0
        have f1 := HG4.out.fz 1
        have hpw := HG4.out.g.lt
        go_wp2_with fail
        refine bodyPost_ret (v := .tuple #[.agg #[.slice zA H.length zc, .map (some (w.heap.size + 1))], .slice none 0 0, .bool false]) (by simp [results, Tryz.results38, go_sem, e0, e1]) rfl ?_
        exact ⟨HE.out _ ((HB4.out.setCell (p := ⟨w.heap.size, 0, none⟩) (Nat.le_refl _) _).setCell (p := ⟨w.heap.size, 1, none⟩) (Nat.le_refl _) _), _, _, _, _, _, _, _, _, rfl⟩
    · obtain rfl : j = la.length := by omega
      have QO := Lib.hid (show ∃ root r E, UF G root r ∧ Mid G root [] E ∧ Tops G root ∧ (∀ f, Unif ((la.zip lb).take la.length) f ↔ ∀ p ∈ E, ndv f G p.1 = ndv f G p.2) from HS.out.2.2.2.2)
      obtain ⟨root, r, E, huf, hmd, htp, hun⟩ := QO.out
      have QR := Lib.hid (order_at HS.out.1.g huf HS.out.2.2.1)
      have HMD := Lib.hid (show UF G root r ∧ Mid G root [] E ∧ Tops G root from ⟨huf, hmd, htp⟩)
      have htk : (la.zip lb).take la.length = la.zip lb := List.take_of_length_le (by rw [List.length_zip]; omega)
      rw [htk] at hun
      have HUN := Lib.hid hun
      clear htk hun huf hmd htp QO hp
      go_wp2_with fail
      refine (QR.out).mono ?_
      rintro e w5 ⟨H, A2, c2, ord, us, rfl, o1, o2, o3, o4, o5, o6⟩
      have HG5 := Lib.hid (HS.out.1.row o1 o3 o4)
      have HB5 := Lib.hid (below_fr HS.out.2.1 o4 (fun b e => (HS.out.1.zlo b e).1))
      have HE := Lib.hid (show ∀ W, Below w.heap.size w W → w5.grownBy W (some w.heap.size) → SolvedR la lb w (.returned (.tuple #[.agg #[z, .map (some (w.heap.size + 1))], .slice A2 ord.length c2, .bool (decide (ord.length = G.length))])) W from fun W hW hf => by
        have hrl := HMD.out.1.root_lt
        have hok := HS.out.2.2.1
        refine ⟨z, w.heap.size + 1, A2, c2, ord, _, rfl, hW, fun h f hfu => ?_, fun h => ?_⟩
        · have hne : ord.length < G.length := by
            have h1 := (pigeon _ _ o6.nodup o6.lt).1
            have h2 : ord.length ≠ G.length := by simpa using h
            omega
          exact o6.circle hne hok ((HMD.out.2.1.sound f ((HUN.out f).1 hfu)).1) hrl
        · have he : ord.length = G.length := by simpa using h
          obtain ⟨D, hD, hV⟩ := HG5.out.vm
          have hrl2 : ∀ j, j < H.length → root j < H.length ∧ root (root j) = root j := fun j hj => by
            rw [o1.len] at hj ⊢
            exact hrl j hj
          refine ⟨H, root, r, E, us, gmem_of HG5.out hf, o2, mid_closed (o1.mid HMD.out.2.1) (o1.ok hok) hV.varu (o1.tops (fun i hi => (hrl i hi).1) HMD.out.2.2) hrl2, fun f => (HUN.out f).trans ⟨fun a p hp => ?_, fun a p hp => ?_⟩, o1.ordering o6, by rw [he, o1.len], own_mono (World.ownsRow.kept o5 hf (.inr fun e => ?_)) HS.out.2.1.size, fun e => ?_, ?_⟩
          · have hb := HMD.out.2.1.ebd p hp
            rw [o1.ndv hb.1, o1.ndv hb.2]; exact a p hp
          · have hb := HMD.out.2.1.ebd p hp
            have := a p hp
            rw [o1.ndv hb.1, o1.ndv hb.2] at this
            exact this
          · have := (own_lt o5 _ e).1
            have := HS.out.1.g.lt
            omega
          · have := (own_lt o5 _ e).1
            obtain ⟨D, hD, _⟩ := HS.out.1.vm
            have := hD.lt
            omega
          · cases hA : (Value.slice A2 ord.length c2).ownBlock with
            | none => exact .inl rfl
            | some b =>
              refine .inr fun e => ?_
              have h1 := (own_lt o5 _ hA).1
              have h2 := (HS.out.1.zlo _ e.symm).2
              omega)
      clear o1 o2 o3 o4 o5 o6
      obtain ⟨zA, zc, rfl, _⟩ := HG5.out.g.slice
      have e0 := HG5.out.g.hdr
      have e1 := HG5.out.vc
      have f0 := HG5.out.fz 0
      have f1 := HG5.out.fz 1
      generalize decide (ord.length = G.length) = bb at *
      go_wp2_with fail
      refine bodyPost_ret (v := .tuple #[.agg #[.slice zA H.length zc, .map (some (w.heap.size + 1))], .slice A2 ord.length c2, .bool bb]) (by simp [results, Tryz.results38, go_sem, e0, e1]) rfl ?_
      exact ⟨HE.out _ ((HB5.out.setCell (p := ⟨w.heap.size, 0, none⟩) (Nat.le_refl _) _).setCell (p := ⟨w.heap.size, 1, none⟩) (Nat.le_refl _) _) (fr_set (p := ⟨w.heap.size, 1, none⟩) (fr_set (p := ⟨w.heap.size, 0, none⟩) (fr_refl _ _) rfl _) rfl _), _, _, _, _, _, _, _, _, rfl⟩
end Go.Proofs.YtelkmnjoboekmaaGreat
namespace Go.Proofs.YtelkmnjoboekmaaGreat
open Go

/-- The class of each node. -/
def clsR (cls : List Nat) (j : Nat) : Nat := cls.getD j j
theorem clsR_get {cls : List Nat} {j : Nat} (h : j < cls.length) : clsR cls j = cls.getD j 0 := by simp [clsR, List.getD, h]
theorem clsR_out {cls : List Nat} {j : Nat} (h : cls.length ≤ j) : clsR cls j = j := by simp [clsR, List.getD, h]
theorem clsR_more (cls : List Nat) : clsR (cls ++ [cls.length]) = clsR cls := by
  funext j
  by_cases h : j < cls.length
  · simp [clsR, List.getD, List.getElem?_append_left h]
  · rw [clsR_out (cls := cls) (by omega)]
    by_cases e : j = cls.length
    · subst e; simp [clsR, List.getD]
    · exact clsR_out (by simp; omega)
theorem clsR_ext {cls : List Nat} : extR cls.length (clsR cls) = clsR cls := by
  funext j
  unfold extR
  split
  · rfl
  · rw [clsR_out (by omega)]
theorem clsR_map {cls : List Nat} {x y : Nat} (hy : y < cls.length) : clsR (cls.map fun c => if c = y then x else c) = mergeR (clsR cls) x y := by
  funext j
  unfold mergeR
  by_cases h : j < cls.length
  · simp [clsR, List.getD, h]
  · rw [clsR_out (cls := cls) (by omega), clsR_out (by simp; omega), if_neg (by omega)]
def Roots (G : List Nd) (root : Nat → Nat) : Prop := ∀ j, j < G.length → root j < G.length ∧ root (root j) = root j
section
variable {G N : List Nd} {root : Nat → Nat} {op op' E : List (Nat × Nat)} {a b x y : Nat}
theorem Roots.merge (rl : Roots G root) (hx : x < G.length) (rx : root x = x) (hne : x ≠ y) : Roots G (mergeR root x y) := fun j hj => by
  have h1 := rl j hj
  unfold mergeR
  by_cases e : root j = y
  · rw [if_pos e, rx, if_neg hne]; exact ⟨hx, rfl⟩
  · rw [if_neg e, h1.2, if_neg e]; exact ⟨h1.1, rfl⟩
theorem Mid.merge (h : Mid G root op E) (hok : Ok G) (hab : (a, b) ∈ op) (hx : x = root a) (hy : y = root b) (hne : x ≠ y)
    (h1 : ∀ p ∈ op, p = (a, b) ∨ p ∈ op') (h2 : ∀ p ∈ op', p ∈ op ∨ ∃ m n, m < G.length ∧ n < G.length ∧ (nd G m).tm.kind ≠ 1 ∧ (nd G n).tm.kind ≠ 1 ∧ root m = x ∧ root n = y ∧ p ∈ (nd G m).kids.zip (nd G n).kids)
    (h3 : ∀ m n, m < G.length → n < G.length → (nd G m).tm.kind ≠ 1 → (nd G n).tm.kind ≠ 1 → root m = x → root n = y → ∃ m' n', m' < G.length ∧ n' < G.length ∧ (nd G m').tm.kind ≠ 1 ∧ (nd G n').tm.kind ≠ 1 ∧ root m' = x ∧ root n' = y ∧ SameLab G m' n' ∧ ∀ p ∈ (nd G m').kids.zip (nd G n').kids, p ∈ op') :
    Mid G (mergeR root x y) op' E := by
  obtain ⟨ha, hb⟩ := h.bd _ hab
  have hmono : ∀ i j, root i = root j → mergeR root x y i = mergeR root x y j := fun i j e => by unfold mergeR; rw [e]
  have hmab : mergeR root x y a = mergeR root x y b := by
    unfold mergeR
    rw [← hx, ← hy, if_neg hne, if_pos rfl]
  have hc : ∀ q, Coarse G (mergeR root x y) op' q → Coarse G root op q := fun q hq => ⟨fun i j hi hj e => hq.1 i j hi hj (hmono i j e), fun p hp => by
    rcases h1 p hp with rfl | hp
    · exact hq.1 a b ha hb hmab
    · exact hq.2 p hp⟩
  -- two nodes of one class of the new ones
  have hsplit : ∀ i j, mergeR root x y i = mergeR root x y j → root i = root j ∨ (root i = x ∧ root j = y) ∨ (root i = y ∧ root j = x) := fun i j e => by
    unfold mergeR at e
    split at e <;> split at e <;> omega
  have hcross : ∀ i j, i < G.length → j < G.length → (nd G i).tm.kind ≠ 1 → (nd G j).tm.kind ≠ 1 → root i = x → root j = y → SameLab G i j ∧ ∀ q, Coarse G (mergeR root x y) op' q → (nd G i).kids.map q = (nd G j).kids.map q := fun i j hi hj hki hkj ei ej => by
    obtain ⟨m, n, hm, hn, hkm, hkn, em, en, hl, hz⟩ := h3 i j hi hj hki hkj ei ej
    have l1 := h.lab i m hi hm hki hkm (ei.trans em.symm)
    have l2 := h.lab n j hn hj hkn hkj (en.trans ej.symm)
    refine ⟨⟨⟨l1.1.1.trans (hl.1.1.trans l2.1.1), l1.1.2.1.trans (hl.1.2.1.trans l2.1.2.1), l1.1.2.2.trans (hl.1.2.2.trans l2.1.2.2)⟩, l1.2.trans (hl.2.trans l2.2)⟩, fun q hq => ?_⟩
    rw [h.cong q (hc q hq) i m hi hm hki hkm (ei.trans em.symm), ← h.cong q (hc q hq) n j hn hj hkn hkj (en.trans ej.symm)]
    exact zip_map_eq hl.2 fun p hp => hq.2 p (hz p hp)
  have hval : ∀ f, (∀ p ∈ E, ndv f G p.1 = ndv f G p.2) → ndv f G a = ndv f G b := fun f hf => (h.sound f hf).2 _ hab
  have hswap : ∀ i j, SameLab G i j → SameLab G j i := fun i j l => ⟨⟨l.1.1.symm, l.1.2.1.symm, l.1.2.2.symm⟩, l.2.symm⟩
  have hxy : ∀ f, (∀ p ∈ E, ndv f G p.1 = ndv f G p.2) → ∀ i j, i < G.length → j < G.length → root i = x → root j = y → ndv f G i = ndv f G j := fun f hf i j hi hj ei ej => by
    have hs := (h.sound f hf).1
    rw [hs i a hi ha (ei.trans hx), hval f hf]
    exact hs b j hb hj (hy.symm.trans ej.symm)
  refine ⟨fun p hp => ?_, h.ebd, fun f hf => ⟨fun i j hi hj e => ?_, fun p hp => ?_⟩, fun i j hi hj hki hkj e => ?_, fun q hq i j hi hj hki hkj e => ?_, fun q hq => h.eqs q (hc q hq)⟩
  · rcases h2 p hp with hp | ⟨m, n, hm, hn, _, _, _, _, hz⟩
    · exact h.bd p hp
    · exact ⟨(hok m hm).mem (List.of_mem_zip hz).1, (hok n hn).mem (List.of_mem_zip hz).2⟩
  · rcases hsplit i j e with e | ⟨e1, e2⟩ | ⟨e1, e2⟩
    · exact (h.sound f hf).1 i j hi hj e
    · exact hxy f hf i j hi hj e1 e2
    · exact (hxy f hf j i hj hi e2 e1).symm
  · rcases h2 p hp with hp | ⟨m, n, hm, hn, hkm, hkn, em, en, hz⟩
    · exact (h.sound f hf).2 p hp
    · exact map_zip_eq (kids_eq (hok m hm) (hok n hn) hkm hkn (hxy f hf m n hm hn em en)) p hz
  · rcases hsplit i j e with e | ⟨e1, e2⟩ | ⟨e1, e2⟩
    · exact h.lab i j hi hj hki hkj e
    · exact (hcross i j hi hj hki hkj e1 e2).1
    · exact hswap _ _ (hcross j i hj hi hkj hki e2 e1).1
  · rcases hsplit i j e with e | ⟨e1, e2⟩ | ⟨e1, e2⟩
    · exact h.cong q (hc q hq) i j hi hj hki hkj e
    · exact (hcross i j hi hj hki hkj e1 e2).2 q hq
    · exact ((hcross j i hj hi hkj hki e2 e1).2 q hq).symm
/-- Different nodes that are no variables: no unifier. -/
theorem Mid.apart (h : Mid G root op E) (hok : Ok G) (hab : (a, b) ∈ op) {m n : Nat} (hm : m < G.length) (hn : n < G.length) (hkm : (nd G m).tm.kind ≠ 1) (hkn : (nd G n).tm.kind ≠ 1) (em : root m = root a) (en : root n = root b) (hl : ¬ SameLab G m n) :
    ∀ f, ¬ ∀ p ∈ E, ndv f G p.1 = ndv f G p.2 := fun f hf => by
  obtain ⟨ha, hb⟩ := h.bd _ hab
  have hs := h.sound f hf
  refine Go.Proofs.YtelkmnjoboekmaaGreat.clash (hok m hm) (hok n hn) hkm hkn hl (f := f) ?_
  rw [hs.1 m a hm ha em, hs.2 _ hab]
  exact hs.1 b n hb hn en.symm
theorem wt_merge (hy : y < G.length) (ry : root y = y) (rx : root x = x) (hne : x ≠ y) : wtOf G (mergeR root x y) G.length < wtOf G root G.length := by
  have := wt_union (G := G) rx ry hne G.length
  rw [if_pos hy] at this
  omega
end

/-! ### The node that stands for a class -/
def shapeP (G : List Nd) (root : Nat → Nat) (c i : Nat) : Bool := decide (root i = c) && decide ((nd G i).tm.kind ≠ 1)
def varP (G : List Nd) (root : Nat → Nat) (c i : Nat) : Bool := decide (root i = c) && decide ((nd G i).tm.kind = 1)
def leastP (G : List Nd) (root : Nat → Nat) (c i : Nat) : Bool := varP G root c i && (List.range G.length).all fun j => !(varP G root c j) || decide ((nd G i).tm.num ≤ (nd G j).tm.num)
def shapeOf (G : List Nd) (root : Nat → Nat) (c : Nat) : Option Nat := (List.range G.length).find? (shapeP G root c)
def leastOf (G : List Nd) (root : Nat → Nat) (c : Nat) : Option Nat := (List.range G.length).find? (leastP G root c)
def topC (G : List Nd) (root : Nat → Nat) (c : Nat) : Nat := (shapeOf G root c).getD ((leastOf G root c).getD 0)
section
variable {G : List Nd} {root : Nat → Nat} {E : List (Nat × Nat)} {c i : Nat}
theorem shapeOf_some {m : Nat} (h : shapeOf G root c = some m) : m < G.length ∧ root m = c ∧ (nd G m).tm.kind ≠ 1 := by
  unfold shapeOf at h
  have h1 := List.mem_of_find?_eq_some h
  have h2 := List.find?_some h
  simp only [shapeP, Bool.and_eq_true, decide_eq_true_eq] at h2
  exact ⟨by simpa using h1, h2⟩
theorem shapeOf_none (h : shapeOf G root c = none) : ∀ m, m < G.length → root m = c → (nd G m).tm.kind = 1 := fun m hm e => by
  unfold shapeOf at h
  rw [List.find?_eq_none] at h
  have := h m (by simpa using hm)
  apply Classical.byContradiction
  intro hk
  exact this (by simp [shapeP, e, hk])
theorem min_exists {P : Nat → Prop} (f : Nat → Int) : ∀ n, (∃ i, i < n ∧ P i) → ∃ i, i < n ∧ P i ∧ ∀ j, j < n → P j → f i ≤ f j := by
  intro n
  induction n with
  | zero => rintro ⟨i, h, _⟩; omega
  | succ n ih =>
    rintro ⟨i, hi, hp⟩
    by_cases h : ∃ i, i < n ∧ P i
    · obtain ⟨k, h1, h2, h3⟩ := ih h
      by_cases hn : P n ∧ f n < f k
      · refine ⟨n, by omega, hn.1, fun j hj hpj => ?_⟩
        by_cases e : j = n
        · subst e; omega
        · have := h3 j (by omega) hpj; omega
      · refine ⟨k, by omega, h2, fun j hj hpj => ?_⟩
        by_cases e : j = n
        · subst e
          have : ¬ f j < f k := fun h => hn ⟨hpj, h⟩
          omega
        · exact h3 j (by omega) hpj
    · have e : i = n := by
        apply Classical.byContradiction
        intro e
        exact h ⟨i, by omega, hp⟩
      subst e
      refine ⟨i, by omega, hp, fun j hj hpj => ?_⟩
      by_cases e : j = i
      · subst e; omega
      · exact absurd ⟨j, by omega, hpj⟩ h
theorem leastOf_some {v : Nat} (h : leastOf G root c = some v) : v < G.length ∧ root v = c ∧ (nd G v).tm.kind = 1 ∧ ∀ j, j < G.length → root j = c → (nd G j).tm.kind = 1 → (nd G v).tm.num ≤ (nd G j).tm.num := by
  unfold leastOf at h
  have h1 := List.mem_of_find?_eq_some h
  have h2 := List.find?_some h
  simp only [leastP, varP, Bool.and_eq_true, decide_eq_true_eq, List.all_eq_true, List.mem_range, Bool.or_eq_true] at h2
  refine ⟨by simpa using h1, h2.1.1, h2.1.2, fun j hj e hk => ?_⟩
  have := h2.2 j hj
  simpa [e, hk] using this
theorem leastOf_is (h : ∃ i, i < G.length ∧ root i = c ∧ (nd G i).tm.kind = 1) : ∃ v, leastOf G root c = some v := by
  obtain ⟨i, hi, e, hk⟩ := h
  obtain ⟨v, h1, ⟨h2, h2'⟩, h3⟩ := min_exists (P := fun i => root i = c ∧ (nd G i).tm.kind = 1) (fun i => (nd G i).tm.num) G.length ⟨i, hi, e, hk⟩
  have : (leastOf G root c).isSome := by
    unfold leastOf
    rw [List.find?_isSome]
    refine ⟨v, by simpa using h1, ?_⟩
    simp only [leastP, varP, Bool.and_eq_true, decide_eq_true_eq, List.all_eq_true, List.mem_range, Bool.or_eq_true]
    refine ⟨⟨h2, h2'⟩, fun j hj => ?_⟩
    by_cases hj2 : root j = c ∧ (nd G j).tm.kind = 1
    · exact .inr (h3 j hj hj2)
    · left
      by_cases e1 : root j = c
      · have : ¬ (nd G j).tm.kind = 1 := fun h => hj2 ⟨e1, h⟩
        simp [this]
      · simp [e1]
  exact Option.isSome_iff_exists.1 this
theorem topC_shape {m : Nat} (h : shapeOf G root c = some m) : topC G root c = m := by simp [topC, h]
theorem topC_spec (hi : i < G.length) (hc : root i = c) : topC G root c < G.length ∧ root (topC G root c) = c ∧ (shapeOf G root c = none → (nd G (topC G root c)).tm.kind = 1 ∧ leastOf G root c = some (topC G root c)) := by
  cases h : shapeOf G root c with
  | some m =>
    have := shapeOf_some h
    rw [topC_shape h]
    exact ⟨this.1, this.2.1, fun h => by cases h⟩
  | none =>
    obtain ⟨v, hv⟩ := leastOf_is (G := G) (root := root) (c := c) ⟨i, hi, hc, shapeOf_none h i hi hc⟩
    have e : topC G root c = v := by simp [topC, h, hv]
    have := leastOf_some hv
    rw [e]
    exact ⟨this.1, this.2.1, fun _ => ⟨this.2.2.1, hv⟩⟩
def topF (G : List Nd) (root : Nat → Nat) (i : Nat) : Nat := topC G root (root i)
theorem closed_of_mid (h : Mid G root [] E) (hok : Ok G) (hv : VarU G) : Closed G E (topF G root) := by
  have hs : ∀ i, i < G.length → topF G root i < G.length ∧ root (topF G root i) = root i := fun i hi => by
    have := topC_spec (G := G) (root := root) hi rfl
    exact ⟨this.1, this.2.1⟩
  have hcl : ∀ i j, i < G.length → j < G.length → topF G root i = topF G root j → root i = root j := fun i j hi hj e => by rw [← (hs i hi).2, e, (hs j hj).2]
  have hc : Coarse G root [] root := ⟨fun _ _ _ _ e => e, fun p hp => by cases hp⟩
  have hf : ∀ l m : List Nat, l.map root = m.map root → l.map (topF G root) = m.map (topF G root) := fun l m e => by
    have : ∀ l : List Nat, l.map (topF G root) = (l.map root).map (topC G root) := fun l => by rw [List.map_map]; rfl
    rw [this, this, e]
  have hn : ∀ i, i < G.length → (nd G i).tm.kind ≠ 1 → (nd G (topF G root i)).tm.kind ≠ 1 := fun i hi hk => by
    cases h : shapeOf G root (root i) with
    | some m =>
      have := shapeOf_some h
      unfold topF
      rw [topC_shape h]
      exact this.2.2
    | none => exact absurd (shapeOf_none h i hi rfl) hk
  refine ⟨hok, hv, fun i hi => (hs i hi).1, fun i hi => by unfold topF at hs ⊢; rw [(hs i hi).2], fun f hE i j hi hj e => (h.sound f hE).1 i j hi hj (hcl i j hi hj e), fun i j hi hj hki hkj e => ?_, fun p hp => ⟨(h.ebd p hp).1, (h.ebd p hp).2, ?_⟩, hn, fun i hi hk => ?_⟩
  · have e' := hcl i j hi hj e
    exact ⟨(h.lab i j hi hj hki hkj e').1, hf _ _ (h.cong root hc i j hi hj hki hkj e')⟩
  · have := h.eqs root hc p hp
    unfold topF
    rw [this]
  · cases h : shapeOf G root (root i) with
    | some m =>
      have := shapeOf_some h
      unfold topF at hk
      rw [topC_shape h] at hk
      exact absurd hk this.2.2
    | none =>
      have h1 := (topC_spec (G := G) (root := root) hi rfl).2.2 h
      exact (leastOf_some h1.2).2.2.2 i hi rfl (shapeOf_none h i hi rfl)
end
end Go.Proofs.YtelkmnjoboekmaaGreat
namespace Go.Proofs.YtelkmnjoboekmaaGreat
open Go.RowKit

/-! ### The frame: all blocks but for those of X -/
structure FrX (X : Nat → Prop) (w w' : World) : Prop where
  os : w'.os = w.os
  tape : w'.tape = w.tape
  output : w'.output = w.output
  size : w.heap.size ≤ w'.heap.size
  block : ∀ k, k < w.heap.size → ¬ X k → w'.heap[k]? = w.heap[k]?
section
variable {X X' : Nat → Prop} {w w' w1 w2 a : World}
theorem FrX.of (h : Ext w w') : FrX X w w' := ⟨h.os, h.tape, h.output, h.size, fun k hk _ => h.block k hk⟩
theorem FrX.refl (w : World) : FrX X w w := FrX.of (Ext.refl w)
theorem FrX.trans (h : FrX X w w1) (k : FrX X' w1 w2) (hx : ∀ b, b < w.heap.size → X' b → X b) : FrX X w w2 :=
  ⟨k.os.trans h.os, k.tape.trans h.tape, k.output.trans h.output, Nat.le_trans h.size k.size, fun b hb hX => (k.block b (Nat.lt_of_lt_of_le hb h.size) fun e => hX (hx b hb e)).trans (h.block b hb hX)⟩
theorem FrX.mono (h : FrX X w w') (hx : ∀ b, b < w.heap.size → X b → X' b) : FrX X' w w' := ⟨h.os, h.tape, h.output, h.size, fun b hb hX => h.block b hb fun e => hX (hx b hb e)⟩
theorem FrX.cell (h : FrX X w w') {p : Addr} (hp : p.block < w.heap.size) (hX : ¬ X p.block) : w'.cell? p = w.cell? p := World.cell?_of_block (h.block _ hp hX)
theorem FrX.cellv (h : FrX X w w') {p : Addr} {v : Value} (hX : ¬ X p.block) (hc : w.cell? p = some v) : w'.cell? p = some v := (h.cell (World.block_lt_of_cell? _ _ hc) hX).trans hc
theorem FrX.frozen (h : FrX X w w') {p : Addr} (hp : p.block < w.heap.size) (hX : ¬ X p.block) : w'.frozen? p = w.frozen? p := World.frozen?_of_block (h.block _ hp hX)
theorem FrX.row {base : Nat} {e : TypeId} {size n : Nat} {v : Value} {xs : List Value} (h : FrX X w w') (hr : w.ownsRow base e size v n xs) (hv : ∀ b, v.ownBlock = some b → ¬ X b) : w'.ownsRow base e size v n xs := by
  refine ⟨hr.1, ?_⟩
  rcases hr.2 with hn | ⟨g, cap, cur, rfl, hb, hgg, rest⟩
  · exact .inl hn
  · refine .inr ⟨g, cap, cur, rfl, hb, ?_, rest⟩
    rw [h.block g (Array.getElem?_eq_some_iff.1 hgg).1 (hv g rfl)]
    exact hgg
theorem FrX.ext (h : FrX X w w') (hb : Ext a w) (hx : ∀ b, X b → a.heap.size ≤ b) : Ext a w' :=
  Below.trans hb ⟨h.os, h.tape, h.output, h.size, fun k hk => h.block k (Nat.lt_of_lt_of_le hk hb.size) fun e => by have := hx k e; omega⟩
theorem FrX.set (h : FrX X w w') {p : Addr} (hp : p.block < w.heap.size → X p.block) (v : Value) : FrX X w (w'.setCell p v) :=
  ⟨h.os, h.tape, h.output, by simpa [World.setCell] using h.size, fun k hk hX => (Below.heap_setCell _ _ _ _ (fun e => hX (by rw [e]; exact hp (by rw [← e]; exact hk)))).trans (h.block k hk hX)⟩
theorem FrX.grow {row : Option Nat} (h : FrX X w w1) (k : w1.grownBy w2 row) (hr : ∀ b, row = some b → b < w.heap.size → X b) : FrX X w w2 :=
  ⟨k.os.trans h.os, k.tape.trans h.tape, k.output.trans h.output, Nat.le_trans h.size k.size, fun b hb hX => (k.block b (Nat.lt_of_lt_of_le hb h.size) fun e => hX (hr b e.symm hb)).trans (h.block b hb hX)⟩
theorem FrX.alloc (h : FrX X w w') (o : Obj) : FrX X w (w'.alloc o) := h.trans (X' := fun _ => False) (FrX.of (Ext.al _ _)) (fun _ _ h => h.elim)
theorem FrX.drew (h : FrX X w w') : FrX X w w'.drew := ⟨h.os, h.tape, h.output, h.size, h.block⟩
theorem FrX.undrew (h : FrX X w.drew w') : FrX X w w' := ⟨h.os, h.tape, h.output, h.size, h.block⟩
end

/-! ### Nodes -/
def rncells (x : Nd) : List Value := [.int .i64 x.tm.kind, .int .i64 x.tm.num, .string x.tm.name, .slice x.A x.kids.length x.cap]
def rgcells (G : List Nd) : List Value := G.flatMap rncells
theorem rncells_length (x : Nd) : (rncells x).length = 4 := rfl
theorem rgcells_len (G : List Nd) : (rgcells G).length = G.length * 4 := by
  induction G with
  | nil => rfl
  | cons t r ih => simp only [rgcells, List.flatMap_cons, List.length_append, rncells_length, List.length_cons] at *; omega
theorem rgcells_append (l m : List Nd) : rgcells (l ++ m) = rgcells l ++ rgcells m := by simp [rgcells]
theorem rncells_lt {x : Nd} {j : Nat} {u : Value} (h : (rncells x)[j]? = some u) : j < 4 := by
  have := (List.getElem?_eq_some_iff.1 h).1
  simpa [rncells] using this
theorem rgcells_get (G : List Nd) {i j : Nat} (hi : i < G.length) (hj : j < 4) : (rgcells G)[i * 4 + j]? = (rncells (nd G i))[j]? := by
  induction G generalizing i with
  | nil => simp at hi
  | cons t r ih =>
    simp only [rgcells, List.flatMap_cons]
    cases i with
    | zero =>
      rw [List.getElem?_append_left (by rw [rncells_length]; omega)]
      simp [nd]
    | succ i =>
      rw [List.getElem?_append_right (by rw [rncells_length]; omega), rncells_length, show (i + 1) * 4 + j - 4 = i * 4 + j by omega]
      simpa [rgcells, nd] using ih (by simpa using hi)
theorem rnode_info : (Tryz.prog.info? 123).map (fun i => (i.zero, i.size, i.bytes)) = some (some (.agg #[.int .i64 0, .int .i64 0, .string ⟨#[]⟩, .slice none 0 0]), 4, 56) := by kernel_rfl
/-- The list of a node's arguments; Z: blocks that may turn. -/
structure KIn (lo : Nat) (Z : Nat → Prop) (w : World) (x : Nd) : Prop where
  le : x.kids.length ≤ x.cap
  cm : x.cap ≤ maxLen
  cells : 0 < x.kids.length → ∃ b, x.A = some ⟨b, 0, none⟩ ∧ lo ≤ b ∧ b < w.heap.size ∧ ¬ Z b ∧ ∀ j, j < x.kids.length → w.cell? ⟨b, j, none⟩ = some (.int .i64 (x.kids.getD j 0 : Nat))
theorem KIn.fr {lo : Nat} {Z Z' X : Nat → Prop} {w w' : World} {x : Nd} (h : KIn lo Z w x) (k : FrX X w w') (hX : ∀ b, b < w.heap.size → X b → Z b) (hZ : ∀ b, b < w.heap.size → Z' b → Z b) : KIn lo Z' w' x :=
  ⟨h.le, h.cm, fun hp => by
    obtain ⟨b, h1, h2, h3, h4, h5⟩ := h.cells hp
    exact ⟨b, h1, h2, Nat.lt_of_lt_of_le h3 k.size, fun e => h4 (hZ b h3 e), fun j hj => k.cellv (fun e => h4 (hX b h3 e)) (h5 j hj)⟩⟩
theorem KIn.irow {lo : Nat} {Z : Nat → Prop} {w : World} {x : Nd} (h : KIn lo Z w x) : IRow w x.A x.kids x.cap := ⟨h.le, h.cm, fun hp => by
  obtain ⟨b, h1, _, _, _, h5⟩ := h.cells hp
  exact ⟨b, h1, h5⟩⟩
structure RFine (x : Nd) : Prop where
  kind : Fits x.tm.kind
  num : Fits x.tm.num
  name : x.tm.name.size ≤ maxLen
  kids : x.kids.length ≤ 2500000
/-- The graph's own blocks. -/
def Own3 (p : Nat) (zL zC : Value) (b : Nat) : Prop := b = p ∨ zL.ownBlock = some b ∨ zC.ownBlock = some b
structure RG (lo : Nat) (Y : Nat → Prop) (w : World) (p : Nat) (zL zC : Value) (G : List Nd) (cls : List Nat) : Prop where
  hl : w.cell? ⟨p, 0, none⟩ = some zL
  hc : w.cell? ⟨p, 1, none⟩ = some zC
  row : w.ownsRow lo 123 4 zL G.length (rgcells G)
  crow : w.ownsRow lo 3 1 zC cls.length (nums cls)
  kids : ∀ i, i < G.length → KIn lo (fun b => Own3 p zL zC b ∨ Y b) w (nd G i)
  nl : zL.ownBlock ≠ some p
  nc : zC.ownBlock ≠ some p
  nn : ∀ b, zL.ownBlock = some b → zC.ownBlock ≠ some b
  lp : lo ≤ p
  fz : ∀ j, w.frozen? ⟨p, j, none⟩ = false
  fine : ∀ i, i < G.length → RFine (nd G i)
  cl : cls.length = G.length
  small : G.length ≤ 2500000
section
variable {lo p : Nat} {Y : Nat → Prop} {w w' : World} {zL zC : Value} {G : List Nd} {cls : List Nat}
theorem RG.lt (h : RG lo Y w p zL zC G cls) : p < w.heap.size := World.block_lt_of_cell? w _ h.hl
theorem RG.ownlt (h : RG lo Y w p zL zC G cls) {b : Nat} (hb : Own3 p zL zC b) : lo ≤ b ∧ b < w.heap.size := by
  rcases hb with rfl | hb | hb
  · exact ⟨h.lp, h.lt⟩
  · exact own_lt h.row b hb
  · exact own_lt h.crow b hb
theorem RG.slices (h : RG lo Y w p zL zC G cls) : (∃ A cap, zL = .slice A G.length cap ∧ G.length ≤ cap ∧ cap ≤ maxLen) ∧ ∃ A cap, zC = .slice A G.length cap ∧ G.length ≤ cap ∧ cap ≤ maxLen := by
  constructor
  · rcases h.row.2 with ⟨rfl, h1⟩ | ⟨q, cap, cur, rfl, hb, hg, hle, hcap, _⟩
    · exact ⟨none, 0, by rw [h1], by omega, Nat.zero_le _⟩
    · exact ⟨_, cap, rfl, hle, hcap⟩
  · have e := h.cl
    rcases h.crow.2 with ⟨rfl, h1⟩ | ⟨q, cap, cur, rfl, hb, hg, hle, hcap, _⟩
    · exact ⟨none, 0, by rw [← e, h1], by omega, Nat.zero_le _⟩
    · exact ⟨_, cap, by rw [e], by omega, hcap⟩
theorem RG.form (h : RG lo Y w p zL zC G cls) (hn : 0 < G.length) : ∃ q c q2 c2, zL = .slice (some ⟨q, 0, none⟩) G.length c ∧ zC = .slice (some ⟨q2, 0, none⟩) G.length c2 ∧ q ≠ p ∧ q2 ≠ p ∧ q ≠ q2 ∧ lo ≤ q ∧ lo ≤ q2 ∧ q < w.heap.size ∧ q2 < w.heap.size := by
  have e := h.cl
  obtain ⟨q, c, e1, a1, a2⟩ := World.ownsRow.form h.row hn
  obtain ⟨q2, c2, e2, b1, b2⟩ := World.ownsRow.form h.crow (by omega)
  rw [e] at e2
  refine ⟨q, c, q2, c2, e1, e2, fun x => h.nl (by rw [e1, x]; rfl), fun x => h.nc (by rw [e2, x]; rfl), fun x => ?_, a1, b1, a2, b2⟩
  exact h.nn q (by rw [e1]; rfl) (by rw [e2, x]; rfl)
theorem RG.cellAt {q c n : Nat} (h : RG lo Y w p (.slice (some ⟨q, 0, none⟩) n c) zC G cls) {i j : Nat} {u : Value} (hi : i < G.length) (hu : (rncells (nd G i))[j]? = some u) : w.cell? ⟨q, i * 4 + j, none⟩ = some u := by
  have hj := rncells_lt hu
  have hrow := h.row
  obtain rfl : n = G.length := by
    rcases hrow.2 with ⟨e, _⟩ | ⟨_, _, _, e, _⟩
    · injection e with e; cases e
    · injection e
  rw [World.ownsRow.cellAt hrow (i * 4 + j) (by omega)]
  exact (rgcells_get G hi hj).trans hu
theorem RG.cells {q c n : Nat} (h : RG lo Y w p (.slice (some ⟨q, 0, none⟩) n c) zC G cls) {i : Nat} (hi : i < G.length) :
    w.cell? ⟨q, i * 4, none⟩ = some (.int .i64 (nd G i).tm.kind) ∧ w.cell? ⟨q, i * 4 + 1, none⟩ = some (.int .i64 (nd G i).tm.num) ∧ w.cell? ⟨q, i * 4 + 2, none⟩ = some (.string (nd G i).tm.name) ∧ w.cell? ⟨q, i * 4 + 3, none⟩ = some (.slice (nd G i).A (nd G i).kids.length (nd G i).cap) :=
  ⟨h.cellAt (j := 0) hi rfl, h.cellAt (j := 1) hi rfl, h.cellAt (j := 2) hi rfl, h.cellAt (j := 3) hi rfl⟩
theorem RG.class {q c n : Nat} (h : RG lo Y w p zL (.slice (some ⟨q, 0, none⟩) n c) G cls) {i : Nat} (hi : i < G.length) : w.cell? ⟨q, i, none⟩ = some (.int .i64 (clsR cls i : Nat)) := by
  have hrow := h.crow
  have e := h.cl
  obtain rfl : n = cls.length := by
    rcases hrow.2 with ⟨e, _⟩ | ⟨_, _, _, e, _⟩
    · injection e with e; cases e
    · injection e
  rw [nums_cell hrow (v := i) (by omega), clsR_get (by omega)]
theorem RG.free {q c n : Nat} (h : RG lo Y w p zL (.slice (some ⟨q, 0, none⟩) n c) G cls) (j : Nat) : w.frozen? ⟨q, j, none⟩ = false := by
  have hrow := h.crow
  obtain rfl : n = cls.length := by
    rcases hrow.2 with ⟨e, _⟩ | ⟨_, _, _, e, _⟩
    · injection e with e; cases e
    · injection e
  exact World.ownsRow.frozenAt hrow j
theorem RG.ext (h : RG lo Y w p zL zC G cls) (e : Ext w w') : RG lo Y w' p zL zC G cls :=
  ⟨keepv e h.hl, keepv e h.hc, own_below h.row e, own_below h.crow e, fun i hi => (h.kids i hi).fr (X := fun _ => False) (FrX.of e) (fun _ _ h => h.elim) (fun _ _ h => h), h.nl, h.nc, h.nn, h.lp, fun j => (e.frozen (p := ⟨p, j, none⟩) h.lt).trans (h.fz j), h.fine, h.cl, h.small⟩
theorem RG.alloc (h : RG lo Y w p zL zC G cls) (o : Obj) : RG lo Y (w.alloc o) p zL zC G cls := h.ext (Ext.al _ _)
theorem RG.drew (h : RG lo Y w p zL zC G cls) : RG lo Y w.drew p zL zC G cls := h.ext ⟨rfl, rfl, rfl, Nat.le_refl _, fun _ _ => rfl⟩
/-- Behind what leaves the graph's blocks alone. -/
theorem RG.fr {X : Nat → Prop} (h : RG lo Y w p zL zC G cls) (k : FrX X w w') (hX : ∀ b, b < w.heap.size → X b → ¬ Own3 p zL zC b ∧ Y b) : RG lo Y w' p zL zC G cls :=
  ⟨k.cellv (fun e => (hX p h.lt e).1 (.inl rfl)) h.hl, k.cellv (fun e => (hX p h.lt e).1 (.inl rfl)) h.hc, k.row h.row (fun b hb e => (hX b (own_lt h.row b hb).2 e).1 (.inr (.inl hb))), k.row h.crow (fun b hb e => (hX b (own_lt h.crow b hb).2 e).1 (.inr (.inr hb))),
    fun i hi => (h.kids i hi).fr k (fun b hb e => .inr (hX b hb e).2) (fun _ _ h => h), h.nl, h.nc, h.nn, h.lp, fun j => (k.frozen (p := ⟨p, j, none⟩) h.lt (fun e => (hX p h.lt e).1 (.inl rfl))).trans (h.fz j), h.fine, h.cl, h.small⟩
/-- Fewer blocks, or others that are new, may turn. -/
theorem RG.out {Y' : Nat → Prop} (h : RG lo Y w p zL zC G cls) (hY : ∀ b, b < w.heap.size → Y' b → Y b) : RG lo Y' w p zL zC G cls :=
  ⟨h.hl, h.hc, h.row, h.crow, fun i hi => (h.kids i hi).fr (X := fun _ => False) (FrX.refl w) (fun _ _ h => h.elim) (fun b hb e => e.imp id (hY b hb)), h.nl, h.nc, h.nn, h.lp, h.fz, h.fine, h.cl, h.small⟩
/-- The class of a node is set. -/
theorem RG.setClass {q c n i x : Nat} (h : RG lo Y w p zL (.slice (some ⟨q, 0, none⟩) n c) G cls) : RG lo Y (w.setCell ⟨q, i, none⟩ (.int .i64 (x : Nat))) p zL (.slice (some ⟨q, 0, none⟩) n c) G (cls.set i x) := by
  have hqp : q ≠ p := fun e => h.nc (by rw [e]; rfl)
  have hf : FrX (fun b => b = q) w (w.setCell ⟨q, i, none⟩ (.int .i64 (x : Nat))) := FrX.set (X := fun b => b = q) (FrX.refl w) (p := ⟨q, i, none⟩) (fun _ => rfl) _
  have hrow := h.crow
  obtain rfl : n = cls.length := by
    rcases hrow.2 with ⟨e, _⟩ | ⟨_, _, _, e, _⟩
    · injection e with e; cases e
    · injection e
  refine ⟨hf.cellv (fun e => hqp e.symm) h.hl, hf.cellv (fun e => hqp e.symm) h.hc, hf.row h.row (fun b hb e => h.nn b hb (by rw [e]; rfl)), ?_, fun k hk => (h.kids k hk).fr hf (fun b _ e => .inl (.inr (.inr (by rw [e]; rfl)))) (fun _ _ h => h), h.nl, h.nc, h.nn, h.lp, fun j => by rw [World.frozen?_setCell]; exact h.fz j, h.fine, by rw [List.length_set]; exact h.cl, h.small⟩
  rw [List.length_set]
  exact nums_set hrow i x
end
end Go.Proofs.YtelkmnjoboekmaaGreat
