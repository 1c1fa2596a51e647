/-
  UnSolve.
  SuGreat.
  SuNodes.
  UnOne.
  UnUnifiable.
  UnLawP.
  AkPlain.
-/
import Derived.Test.YtgpglgehlnfggaaGreatMe13
import Derived.Test.YtgpglgehlnfggaaGreatMe7
import Derived.Test.YtgpglgehlnfggaaGreatMe5
import Derived.Test.YtgpglgehlnfggaaGreatMe6
import Derived.Test.YtgpglgehlnfggaaGreatMe9
import Derived.Test.YtgpglgehlnfggaaGreatMe10
import Derived.Test.YtgpglgehlnfggaaGreatMe11
import Derived.Test.YtgpglgehlnfggaaGreatMe3
import Derived.Test.YtgpglgehlnfggaaGreatMe8
namespace Go.Proofs.YtgpglgehlnfggaaGreat
open Go.RowKit
theorem join_b {lo : Nat} {X : Nat → Prop} {p : Nat} {z : Value} {G : List Nd} {root r : Nat → Nat} {E : List (Nat × Nat)} {a b : Nat} {w : World} (h : Gph lo X w p z G) (hu : UF G root r) (hm : Mid G root [] E) (ht : Tops G root) (hok : Ok G) (ha : a < G.length) (hb : b < G.length) :
    Calls Tryz.prog 133 #[.pointer (some ⟨p, 0, none⟩), .int .i64 (a : Nat), .int .i64 (b : Nat)] w fun e w' => ∃ (ok : Bool) (H : List Nd), e = .returned (.bool ok) ∧ Alike G H ∧ Gph lo X w' p z H ∧ w.grownBy w' z.ownBlock ∧
      (ok = true → ∃ root r, UF H root r ∧ Mid G root [] (E ++ [(a, b)]) ∧ Tops G root) ∧ (ok = false → ∀ f, ¬ ∀ p ∈ E ++ [(a, b)], ndv f G p.1 = ndv f G p.2) := by
  refine (join_at h hu hm ht hok ha hb).mono ?_
  rintro e w' ⟨H, h1, h2, h3, h4⟩
  rcases h4 with ⟨rfl, h4⟩ | ⟨rfl, h4⟩
  · exact ⟨true, H, rfl, h1, h2, h3, fun _ => h4, fun h => by cases h⟩
  · exact ⟨false, H, rfl, h1, h2, h3, fun h => (by cases h), fun _ => h4⟩
theorem Gadd.row {lo p mb : Nat} {Y : Nat → Prop} {z : Value} {G H : List Nd} {w w' : World} (h : Gadd lo Y w p mb z G) (ha : Alike G H) (hg : Gph lo (fun k => k = p ∨ k = mb ∨ Y k) w' p z H) (hf : w.grownBy w' z.ownBlock) : Gadd lo Y w' p mb z H := by
  have hp := h.g.lt
  refine ⟨hg, (fr_cell hf (p := ⟨p, 1, none⟩) hp (fun e => h.g.np e.symm)).trans h.vc, ?_, h.pm, h.zm, h.lp, h.lm, fun j => (fr_frozen hf (p := ⟨p, j, none⟩) hp (fun e => h.g.np e.symm)).trans (h.fz j)⟩
  obtain ⟨D, h1, h2⟩ := h.vm
  exact ⟨D, by rw [ha.len]; exact h1.kept hf (fun e => h.zm e.symm), h2.like ha.len fun i hi => (ha.tm hi).1⟩
theorem gadd_start (w : World) (T : TypeId) : Gadd w.heap.size No ((w.alloc (.cells #[.slice none 0 0, .map (some (w.heap.size + 1))] T)).alloc (.map #[] 0)) w.heap.size (w.heap.size + 1) (.slice none 0 0) [] := by
  have hc : ∀ j, ((w.alloc (.cells #[.slice none 0 0, .map (some (w.heap.size + 1))] T)).alloc (.map #[] 0)).cell? ⟨w.heap.size, j, none⟩ = (#[Value.slice none 0 0, .map (some (w.heap.size + 1))] : Array Value)[j]? := fun j => by
    rw [(below1 (w.alloc _) (.map #[] 0)).cell (p := ⟨w.heap.size, j, none⟩) (by simp), World.cell?_alloc_at _ _ _ _ rfl]
  have hm := World.ownsMap_made (H := Unit) (w.alloc (.cells #[.slice none 0 0, .map (some (w.heap.size + 1))] T)) Tryz.prog 3 (plainElem Tryz.prog 3)
  rw [World.size_alloc] at hm
  refine ⟨⟨hc 0, World.ownsRow_nil _ _ _ _, fun i hi => by simp at hi, by simp [Value.ownBlock], fun i hi => by simp at hi, by simp⟩, hc 1, ⟨.map [], hm, VMap.empty⟩, by omega, by simp [Value.ownBlock], Nat.le_refl _, by omega, fun j => ?_⟩
  rw [(below1 (w.alloc _) (.map #[] 0)).frozen (p := ⟨w.heap.size, j, none⟩) (by simp)]
  exact World.frozen?_alloc_at _ _ _ _ rfl
theorem AddFr.cells4 {p mb b o : Nat} {z : Value} {w w' : World} {v0 v1 v2 v3 : Value} (h : AddFr p mb z w w') (hb : b < w.heap.size) (h1 : b ≠ p) (h2 : b ≠ mb) (h3 : z.ownBlock ≠ some b)
    (c : w.cell? ⟨b, o, none⟩ = some v0 ∧ w.cell? ⟨b, o + 1, none⟩ = some v1 ∧ w.cell? ⟨b, o + 2, none⟩ = some v2 ∧ w.cell? ⟨b, o + 3, none⟩ = some v3) :
    w'.cell? ⟨b, o, none⟩ = some v0 ∧ w'.cell? ⟨b, o + 1, none⟩ = some v1 ∧ w'.cell? ⟨b, o + 2, none⟩ = some v2 ∧ w'.cell? ⟨b, o + 3, none⟩ = some v3 :=
  ⟨(h.cell (a := ⟨b, o, none⟩) hb h1 h2 h3).trans c.1, (h.cell (a := ⟨b, o + 1, none⟩) hb h1 h2 h3).trans c.2.1, (h.cell (a := ⟨b, o + 2, none⟩) hb h1 h2 h3).trans c.2.2.1, (h.cell (a := ⟨b, o + 3, none⟩) hb h1 h2 h3).trans c.2.2.2⟩
theorem AddFr.of_fr {p mb : Nat} {z : Value} {w w' : World} (h : w.grownBy w' z.ownBlock) : AddFr p mb z w w' := ⟨h.os, h.tape, h.output, h.size, fun b h1 _ _ h4 => h.block b h1 (fun e => h4 e.symm)⟩
theorem undrew_af {p mb : Nat} {z : Value} {w w' : World} (h : AddFr p mb z w.drew w') : AddFr p mb z w w' := ⟨h.os, h.tape, h.output, h.size, h.block⟩
theorem solving_two {G G2 G3 : List Nd} (hok : Ok G) (m2 : ∃ N, G2 = G ++ N) (m3 : ∀ j, G.length ≤ j → j < G2.length → OkAt G2 j ∧ (nd G2 j).next = j) (n2 : ∃ N, G3 = G2 ++ N) (n3 : ∀ j, G2.length ≤ j → j < G3.length → OkAt G3 j ∧ (nd G3 j).next = j)
    {root r : Nat → Nat} {E : List (Nat × Nat)} (hu : UF G root r) (hm : Mid G root [] E) (ht : Tops G root) : (∃ N, G3 = G ++ N) ∧ Ok G3 ∧ UF G3 (extR G.length root) r ∧ Mid G3 (extR G.length root) [] E ∧ Tops G3 (extR G.length root) := by
  obtain ⟨N, rfl⟩ := m2
  obtain ⟨M, rfl⟩ := n2
  have hN : ∀ j, G.length ≤ j → j < ((G ++ N) ++ M).length → OkAt ((G ++ N) ++ M) j ∧ (nd ((G ++ N) ++ M) j).next = j := fun j h1 h2 => by
    by_cases h3 : j < (G ++ N).length
    · have := m3 j h1 h3
      exact ⟨this.1.left h3, by rw [nd_left h3]; exact this.2⟩
    · exact n3 j (by omega) h2
  have rl : ∀ j, j < G.length → root j < G.length := fun j hj => (hu.root_lt j hj).1
  rw [List.append_assoc] at hN ⊢
  exact ⟨⟨_, rfl⟩, hok.ext fun j h1 h2 => (hN j h1 h2).1, hu.ext fun j h1 h2 => (hN j h1 h2).2, hm.ext rl, ht.ext rl⟩
theorem solving_step {la lb : List Tm} {x y : Tm} {j i2 i3 : Nat} {G G2 G3 H : List Nd} {E : List (Nat × Nat)} (hz : (la.zip lb).take (j + 1) = (la.zip lb).take j ++ [(x, y)]) (hun : ∀ f, Unif ((la.zip lb).take j) f ↔ ∀ p ∈ E, ndv f G p.1 = ndv f G p.2)
    (hE : ∀ p ∈ E, p.1 < G.length ∧ p.2 < G.length) (m2 : ∃ N, G2 = G ++ N) (n2 : ∃ N, G3 = G2 ++ N) (m4 : i2 < G2.length) (m5 : (nd G2 i2).tm.strip = x.strip) (n4 : i3 < G3.length) (n5 : (nd G3 i3).tm.strip = y.strip) (ha : Alike G3 H) :
    (∀ f, Unif ((la.zip lb).take (j + 1)) f ↔ ∀ p ∈ E ++ [(i2, i3)], ndv f G3 p.1 = ndv f G3 p.2) ∧ ∀ f, Unif ((la.zip lb).take (j + 1)) f ↔ ∀ p ∈ E ++ [(i2, i3)], ndv f H p.1 = ndv f H p.2 := by
  obtain ⟨N, rfl⟩ := m2
  obtain ⟨M, rfl⟩ := n2
  have e1 : ∀ f, ∀ p ∈ E, ndv f ((G ++ N) ++ M) p.1 = ndv f G p.1 ∧ ndv f ((G ++ N) ++ M) p.2 = ndv f G p.2 := fun f p hp => by
    have := hE p hp
    rw [List.append_assoc, ndv_left this.1, ndv_left this.2]
    exact ⟨rfl, rfl⟩
  have e2 : ∀ f, ndv f ((G ++ N) ++ M) i2 = x.sub f := fun f => by rw [ndv_left m4]; exact sub_like f m5
  have e3 : ∀ f, ndv f ((G ++ N) ++ M) i3 = y.sub f := fun f => sub_like f n5
  have h1 : ∀ f, Unif ((la.zip lb).take (j + 1)) f ↔ ∀ p ∈ E ++ [(i2, i3)], ndv f ((G ++ N) ++ M) p.1 = ndv f ((G ++ N) ++ M) p.2 := fun f => by
    rw [hz, unif_snoc, hun f]
    constructor
    · rintro ⟨a1, a2⟩ p hp
      rcases List.mem_append.1 hp with hp | hp
      · rw [(e1 f p hp).1, (e1 f p hp).2]; exact a1 p hp
      · rw [List.mem_singleton.1 hp]; show ndv f _ i2 = ndv f _ i3; rw [e2, e3]; exact a2
    · intro a
      refine ⟨fun p hp => ?_, ?_⟩
      · have := a p (List.mem_append.2 (.inl hp))
        rw [(e1 f p hp).1, (e1 f p hp).2] at this
        exact this
      · have := a (i2, i3) (by simp)
        rw [show ndv f ((G ++ N) ++ M) (i2, i3).1 = x.sub f from e2 f, show ndv f ((G ++ N) ++ M) (i2, i3).2 = y.sub f from e3 f] at this
        exact this
  refine ⟨h1, fun f => (h1 f).trans ?_⟩
  have hl : i2 < ((G ++ N) ++ M).length := by rw [List.length_append]; omega
  have hb : ∀ p ∈ E ++ [(i2, i3)], p.1 < ((G ++ N) ++ M).length ∧ p.2 < ((G ++ N) ++ M).length := fun p hp => by
    rcases List.mem_append.1 hp with hp | hp
    · have := hE p hp
      simp only [List.length_append]
      omega
    · rw [List.mem_singleton.1 hp]; exact ⟨hl, n4⟩
  constructor
  · intro a p hp
    rw [ha.ndv (hb p hp).1, ha.ndv (hb p hp).2]; exact a p hp
  · intro a p hp
    have := a p hp
    rw [ha.ndv (hb p hp).1, ha.ndv (hb p hp).2] at this
    exact this
theorem Alike.uses {G H : List Nd} (h : Alike G H) {root : Nat → Nat} {v j : Nat} (hj : j < G.length) : uses H root v j = uses G root v j := by unfold Go.Proofs.YtgpglgehlnfggaaGreat.uses; rw [(h.tm hj).2.1]
theorem Alike.ordering {G H : List Nd} (h : Alike G H) {root : Nat → Nat} {ord rest us : List Nat} {m : Nat} (k : Ordering G root ord m rest us) : Ordering H root ord m rest us := by
  have hl : ∀ done v, left H root done v = left G root done v := fun done v => by
    unfold left
    rw [h.len]
    exact sumTo_congr fun j hj => by rw [h.uses hj]
  refine ⟨k.nodup, fun i hi => by rw [h.len]; exact k.lt i hi, by rw [h.len]; exact k.len, fun v hv => by rw [hl]; exact k.cnt v (by rw [← h.len]; exact hv), fun v hv => k.mem v (by rw [← h.len]; exact hv), fun s hs j hj hu => ?_⟩
  rw [h.len] at hj
  rw [h.uses hj] at hu
  exact k.pre s hs j hj hu
theorem own_mono {w : World} {base base' : Nat} {e : TypeId} {size : Nat} {v : Value} {n : Nat} {xs : List Value} (h : w.ownsRow base e size v n xs) (hb : base' ≤ base) : w.ownsRow base' e size v n xs :=
  ⟨h.1, h.2.imp id fun ⟨g, cap, cur, e1, e2, r⟩ => ⟨g, cap, cur, e1, Nat.le_trans hb e2, r⟩⟩
theorem gmem_of {lo p mb : Nat} {z : Value} {G : List Nd} {w w' : World} (h : Gadd lo No w p mb z G) (k : w.grownBy w' (some p)) : GMem lo w' z mb G := by
  refine ⟨World.ownsRow.kept h.g.row k (.inr h.g.np), fun i hi => ?_, h.g.fine, h.g.small, ?_, h.zm⟩
  · have h1 := (h.g.kids i hi).fr k fun b e _ => .inr (.inl (by injection e with e; exact e.symm))
    exact h1.out fun b _ _ e => .inl e
  · obtain ⟨D, h1, h2⟩ := h.vm
    exact ⟨D, h1.kept k (by simpa using Ne.symm h.pm), h2⟩
def SolvedZ (la lb : List Tm) (w : World) (e : Ending) (w' : World) : Prop := SolvedR la lb w e w' ∧ ∃ (zA : Option Addr) (n zc mb : Nat) (A : Option Addr) (m c : Nat) (b : Bool), e = .returned (.tuple #[.agg #[.slice zA n zc, .map (some mb)], .slice A m c, .bool b])
set_option maxHeartbeats 4000000 in
set_option maxRecDepth 100000 in
theorem solve_at (la lb : List Tm) (A B : Option Addr) (ca cb : Nat) (w : World) (hA : Lst w A la ca) (hB : Lst w B lb cb) (hlen : la.length = lb.length) (hfa : ∀ t ∈ la, t.form = true) (hfb : ∀ t ∈ lb, t.form = true) (hn : nodesL la + nodesL lb ≤ 1000000) :
    Calls Tryz.prog 90 #[.slice A la.length ca, .slice B lb.length cb] w (SolvedZ la lb w) := by
  have hla : la.length ≤ 1000000 := by have := length_le_nodes la; omega
  have HA := Lib.hid hA
  have HB := Lib.hid hB
  have HN := Lib.hid hn
  have HFA := Lib.hid hfa
  have HFB := Lib.hid hfb
  have HLN := Lib.hid hlen
  clear hA hB hn hfa hfb hlen
  have hmm := @run_makeMap Tryz.prog
  go_enter Tryz.func90, Tryz.ntmps90
  go_wp2_with fail
  clear hmm
  have HS0 := Lib.hid (show Solving la lb w.heap.size (w.heap.size + 1) w (.slice none 0 0) [] 0 ((w.alloc (.cells #[.slice none 0 0, .map (some (w.heap.size + 1))] 94)).alloc (.map #[] 0)) from
    ⟨gadd_start w _, below2 w _ _, fun i hi => by simp at hi, by simp, fun i => i, fun _ => 0, [], uf_nil, mid_nil, tops_nil, fun f => by simp [Unif]⟩)
  go_loopw [13] (fun s13 wr => ∃ (j : Nat) (z : Value) (G : List Nd), j ≤ la.length ∧ s13 = .int .i64 (j : Nat) ∧ Hid (Solving la lb w.heap.size (w.heap.size + 1) w z G j wr)) (fun s13 _ => la.length - (intOf s13).toNat)
  case atStart => exact ⟨0, _, _, Nat.zero_le _, rfl, HS0⟩
  case round =>
    clear HS0
    obtain ⟨j, z, G, hj, rfl, HS⟩ := hrel
    obtain ⟨p, hp⟩ : ∃ p, p = w.heap.size := ⟨_, rfl⟩
    by_cases hlt : j < la.length
    · have hltb : j < lb.length := by have := HLN.out; omega
      have hbw := HS.out.2.1
      obtain ⟨ba, oa, rfl, ⟨c0, c1, c2, c3⟩, hxat⟩ := (HA.out.below hbw).get hlt
      obtain ⟨bb, ob, rfl, dd, hyat⟩ := (HB.out.below hbw).get hltb
      have hxm := getD_mem hlt
      have hym := getD_mem hltb
      have hxa := HA.out.mem hxm
      have hya := HB.out.mem hym
      have hbb : bb < w.heap.size := by
        obtain ⟨b1, o1, e1, e2, _⟩ := HB.out.get hltb
        injection e1 with e1
        injection e1 with e1 _ _
        rw [e1]
        exact World.block_lt_of_cell? _ _ e2.1
      have hnx := nodesL_next hlt
      have hny := nodesL_next hltb
      have htx := nodesL_take la (j + 1)
      have hty := nodesL_take lb (j + 1)
      have HZ := Lib.hid (zip_take_next hlt hltb)
      have hfx := HFA.out _ hxm
      have hfy := HFB.out _ hym
      generalize la.getD j default = x at *
      generalize lb.getD j default = y at *
      have HX := Lib.hid (show x.At w ∧ x.form = true ∧ y.At w ∧ y.form = true from ⟨hxa, hfx, hya, hfy⟩)
      have HNN := Lib.hid (show nodesL (la.take (j + 1)) = nodesL (la.take j) + x.nodes ∧ nodesL (lb.take (j + 1)) = nodesL (lb.take j) + y.nodes ∧ nodesL (la.take (j + 1)) + nodesL (lb.take (j + 1)) ≤ 1000000 from ⟨hnx, hny, by have := HN.out; omega⟩)
      clear hxm hym hxa hya hxat hyat hnx hny htx hty hfx hfy hp
      obtain ⟨kx, nx, sx, Ax, cx, lx⟩ := x
      obtain ⟨ky, ny, sy, Ay, cy, ly⟩ := y
      simp only [Tm.kind, Tm.num, Tm.name, Tm.at_, Tm.args, Tm.cap] at c0 c1 c2 c3 dd
      obtain ⟨hga, _, hok, hgl, root, r, E, huf, hmd, htp, hun⟩ := HS.out
      have HG0 := Lib.hid hga
      have HG1 := Lib.hid (hga.alloc (.cells #[.int .i64 kx, .int .i64 nx, .string sx, .slice Ax lx.length cx] 40))
      have HB1 := Lib.hid (hbw.alloc hbw.size (.cells #[.int .i64 kx, .int .i64 nx, .string sx, .slice Ax lx.length cx] 40))
      have HOK := Lib.hid hok
      have HGL := Lib.hid hgl
      have HMD := Lib.hid (show UF G root r ∧ Mid G root [] E ∧ Tops G root from ⟨huf, hmd, htp⟩)
      have HUN := Lib.hid hun
      have hzl := fun b e => (hga.zlo b e).2
      have HZL := Lib.hid hzl
      have hsz : w.heap.size + 1 < wr.heap.size := by obtain ⟨D, h1, _⟩ := hga.vm; exact h1.lt
      have QX := Lib.hid (fun W (hW : Gadd w.heap.size No W w.heap.size (w.heap.size + 1) z G) (hb : Below w.heap.size w W) => show Calls Tryz.prog 134 #[.pointer (some ⟨w.heap.size, 0, none⟩), .agg #[.int .i64 kx, .int .i64 nx, .string sx, .slice Ax lx.length cx]] W (AddR w.heap.size No w.heap.size (w.heap.size + 1) z G (.mk kx nx sx Ax cx lx) W) from add_at w w.heap.size (w.heap.size + 1) (.mk kx nx sx Ax cx lx) No G z W HX.out.1 HX.out.2.1 hb hW (fun i hi => (HOK.out i hi).form) (fun b h => h.elim) (by have := HNN.out; have := HGL.out; omega))
      have QY := Lib.hid (fun W G2 z2 (hW : Gadd w.heap.size No W w.heap.size (w.heap.size + 1) z2 G2) (hb : Below w.heap.size w W) (hf : ∀ i, i < G2.length → (nd G2 i).tm.form = true) (hs : G2.length ≤ G.length + (Tm.mk kx nx sx Ax cx lx).nodes) => show Calls Tryz.prog 134 #[.pointer (some ⟨w.heap.size, 0, none⟩), .agg #[.int .i64 ky, .int .i64 ny, .string sy, .slice Ay ly.length cy]] W (AddR w.heap.size No w.heap.size (w.heap.size + 1) z2 G2 (.mk ky ny sy Ay cy ly) W) from add_at w w.heap.size (w.heap.size + 1) (.mk ky ny sy Ay cy ly) No G2 z2 W HX.out.2.2.1 HX.out.2.2.2 hb hW hf (fun b h => h.elim) (by have := HNN.out; have := HGL.out; omega))
      have bx := held_new (v0 := .int .i64 kx) (v1 := .int .i64 nx) (v2 := .string sx) (v3 := .slice Ax lx.length cx) wr 40
      have hk0 : ((fun W => (W.cell? ⟨wr.heap.size, 0, none⟩ = some (.int .i64 kx) ∧ W.cell? ⟨wr.heap.size, 1, none⟩ = some (.int .i64 nx) ∧ W.cell? ⟨wr.heap.size, 2, none⟩ = some (.string sx) ∧ W.cell? ⟨wr.heap.size, 3, none⟩ = some (.slice Ax lx.length cx)) ∧ W.cell? ⟨bb, ob + j * 4, none⟩ = some (.int .i64 ky) ∧ W.cell? ⟨bb, ob + j * 4 + 1, none⟩ = some (.int .i64 ny) ∧ W.cell? ⟨bb, ob + j * 4 + 2, none⟩ = some (.string sy) ∧ W.cell? ⟨bb, ob + j * 4 + 3, none⟩ = some (.slice Ay ly.length cy))) (wr.alloc (.cells #[.int .i64 kx, .int .i64 nx, .string sx, .slice Ax lx.length cx] 40)) := ⟨⟨bx.c0, bx.c1, bx.c2, bx.c3⟩, al1 dd.1 _, al1 dd.2.1 _, al1 dd.2.2.1 _, al1 dd.2.2.2 _⟩
      have HKA := Lib.hid (show ∀ z' (W W' : World), ((fun W => (W.cell? ⟨wr.heap.size, 0, none⟩ = some (.int .i64 kx) ∧ W.cell? ⟨wr.heap.size, 1, none⟩ = some (.int .i64 nx) ∧ W.cell? ⟨wr.heap.size, 2, none⟩ = some (.string sx) ∧ W.cell? ⟨wr.heap.size, 3, none⟩ = some (.slice Ax lx.length cx)) ∧ W.cell? ⟨bb, ob + j * 4, none⟩ = some (.int .i64 ky) ∧ W.cell? ⟨bb, ob + j * 4 + 1, none⟩ = some (.int .i64 ny) ∧ W.cell? ⟨bb, ob + j * 4 + 2, none⟩ = some (.string sy) ∧ W.cell? ⟨bb, ob + j * 4 + 3, none⟩ = some (.slice Ay ly.length cy))) W → AddFr w.heap.size (w.heap.size + 1) z' W W' → wr.heap.size < W.heap.size → (∀ b, z'.ownBlock = some b → w.heap.size ≤ b ∧ b ≠ wr.heap.size) → ((fun W => (W.cell? ⟨wr.heap.size, 0, none⟩ = some (.int .i64 kx) ∧ W.cell? ⟨wr.heap.size, 1, none⟩ = some (.int .i64 nx) ∧ W.cell? ⟨wr.heap.size, 2, none⟩ = some (.string sx) ∧ W.cell? ⟨wr.heap.size, 3, none⟩ = some (.slice Ax lx.length cx)) ∧ W.cell? ⟨bb, ob + j * 4, none⟩ = some (.int .i64 ky) ∧ W.cell? ⟨bb, ob + j * 4 + 1, none⟩ = some (.int .i64 ny) ∧ W.cell? ⟨bb, ob + j * 4 + 2, none⟩ = some (.string sy) ∧ W.cell? ⟨bb, ob + j * 4 + 3, none⟩ = some (.slice Ay ly.length cy))) W' from fun z' W W' h1 h2 h3 h4 =>
        ⟨h2.cells4 (b := wr.heap.size) (o := 0) h3 (by omega) (by omega) (fun e => (h4 _ e).2 rfl) h1.1, h2.cells4 (b := bb) (o := ob + j * 4) (by omega) (by omega) (by omega) (fun e => by have := (h4 _ e).1; omega) h1.2⟩)
      have K0 := Lib.hid hk0
      clear hga hok hgl huf hmd htp hun hzl bx hbw HS
      go_wp2_with fail
      obtain ⟨⟨a0, a1, a2, a3⟩, b0, b1, b2, b3⟩ := K0.out
      go_region_held3 (fun W => (W.cell? ⟨wr.heap.size, 0, none⟩ = some (.int .i64 kx) ∧ W.cell? ⟨wr.heap.size, 1, none⟩ = some (.int .i64 nx) ∧ W.cell? ⟨wr.heap.size, 2, none⟩ = some (.string sx) ∧ W.cell? ⟨wr.heap.size, 3, none⟩ = some (.slice Ax lx.length cx)) ∧ W.cell? ⟨bb, ob + j * 4, none⟩ = some (.int .i64 ky) ∧ W.cell? ⟨bb, ob + j * 4 + 1, none⟩ = some (.int .i64 ny) ∧ W.cell? ⟨bb, ob + j * 4 + 2, none⟩ = some (.string sy) ∧ W.cell? ⟨bb, ob + j * 4 + 3, none⟩ = some (.slice Ay ly.length cy)) (first | exact ⟨⟨a0, a1, a2, a3⟩, b0, b1, b2, b3⟩ | exact K2.out | exact K3.out | exact K4.out) (first
        | (go_at_call 134; (with_reducible refine (QX.out _ HG1.out.drew HB1.out.drew).mono ?_); rintro e w2 ⟨z2, G2, i2, rfl, m1, m2, m3, m4, m5, m6, m7, m8⟩; have M1 := Lib.hid m1; have M2 := Lib.hid m2; have M3 := Lib.hid m3; have M4 := Lib.hid m4; have M5 := Lib.hid m5; have M6 := Lib.hid m6; have M7 := Lib.hid (undrew_af m7); have M8 := Lib.hid m8; have B2 := Lib.hid (show Below w.heap.size w w2 from m7.below HB1.out.drew (Nat.le_refl _) (Nat.le_succ _) (fun b e => (HG0.out.zlo b e).1)); have F2 := Lib.hid (show ∀ i, i < G2.length → (nd G2 i).tm.form = true from fun i hi => by (by_cases h1 : i < G.length; (obtain ⟨N, rfl⟩ := m2; rw [nd_left h1]; exact (HOK.out i h1).form); exact (m3 i (by omega) hi).1.form)); have K2 := Lib.hid (HKA.out z _ w2 K0.out (undrew_af m7) (by simp) (fun b e => ⟨(HG0.out.zlo b e).1, by have := HZL.out b e; omega⟩)); clear m1 m2 m3 m4 m5 m6 m7 m8)
        | (go_at_call 134; (with_reducible refine (QY.out _ _ _ M1.out B2.out F2.out M6.out).mono ?_); rintro e w3 ⟨z3, G3, i3, rfl, n1, n2, n3, n4, n5, n6, n7, n8⟩; have N1 := Lib.hid n1; have N2 := Lib.hid n2; have N3 := Lib.hid n3; have N4 := Lib.hid n4; have N5 := Lib.hid n5; have N6 := Lib.hid n6; have N7 := Lib.hid n7; have N8 := Lib.hid n8; have T3 := Lib.hid (solving_two HOK.out M2.out M3.out n2 n3 HMD.out.1 HMD.out.2.1 HMD.out.2.2); have L2 := Lib.hid (show i2 < G3.length from by (obtain ⟨N, hN⟩ := n2; have := congrArg List.length hN; rw [List.length_append] at this; have := M4.out; omega)); have K3 := Lib.hid (HKA.out z2 _ w3 K2.out n7 (by have := M7.out.size; simp at this; omega) (fun b e => by (have h1 := (M1.out.zlo b e).1; rcases M8.out with h | h; (exact ⟨h1, by have := HZL.out b (h ▸ e); omega⟩); exact ⟨h1, by have := h b e; simp at this; omega⟩))); clear n1 n2 n3 n4 n5 n6 n7 n8)
        | (go_at_call 133; (with_reducible refine (join_b N1.out.g T3.out.2.2.1 T3.out.2.2.2.1 T3.out.2.2.2.2 T3.out.2.1 L2.out N4.out).mono ?_); rintro e w4 ⟨ok, H, rfl, j1, j2, j3, j4, j5⟩; have J := Lib.hid (show Alike G3 H ∧ Gph w.heap.size (fun k => k = w.heap.size ∨ k = w.heap.size + 1 ∨ No k) w4 w.heap.size z3 H ∧ w3.grownBy w4 z3.ownBlock ∧ (ok = true → ∃ root r, UF H root r ∧ Mid G3 root [] (E ++ [(i2, i3)]) ∧ Tops G3 root) ∧ (ok = false → ∀ f, ¬ ∀ p ∈ E ++ [(i2, i3)], ndv f G3 p.1 = ndv f G3 p.2) from ⟨j1, j2, j3, j4, j5⟩); have K4 := Lib.hid (HKA.out z3 _ w4 K3.out (AddFr.of_fr j3) (by have := M7.out.size; have := N7.out.size; simp at *; omega) (fun b e => by (have h1 := (N1.out.zlo b e).1; refine ⟨h1, ?_⟩; rcases N8.out with h | h; (rcases M8.out with h' | h'; (have := HZL.out b (h' ▸ h ▸ e); omega); (have := h' b (h ▸ e); simp at this; omega)); (have := h b e; have := M7.out.size; simp at *; omega)))); clear j1 j2 j3 j4 j5))
      have HST := Lib.hid (solving_step HZ.out HUN.out HMD.out.2.1.ebd M2.out N2.out M4.out M5.out N4.out N5.out J.out.1)
      have HG4 := Lib.hid (N1.out.row J.out.1 J.out.2.1 J.out.2.2.1)
      have HB3 := Lib.hid (show Below w.heap.size w w3 from N7.out.below B2.out (Nat.le_refl _) (Nat.le_succ _) (fun b e => (M1.out.zlo b e).1))
      have HB4 := Lib.hid (below_fr HB3.out J.out.2.2.1 (fun b e => (N1.out.zlo b e).1))
      have HLL := Lib.hid (show H.length ≤ nodesL (la.take (j + 1)) + nodesL (lb.take (j + 1)) from by
        have h1 := J.out.1.len
        have h2 := N6.out
        have h3 := M6.out
        have h4 := HNN.out
        have h5 := HGL.out
        omega)
      clear a0 a1 a2 a3 b0 b1 b2 b3 K0 K2 K3 K4 HKA QX QY c0 c1 c2 c3 dd
      cases ok with
      | true =>
        have HE := Lib.hid (show Solving la lb w.heap.size (w.heap.size + 1) w z3 H (j + 1) w4 from by
          obtain ⟨root2, r2, g1, g2, g3⟩ := J.out.2.2.2.1 rfl
          have ha := J.out.1
          refine ⟨HG4.out, HB4.out, ha.ok T3.out.2.1, HLL.out, root2, r2, E ++ [(i2, i3)], g1, ha.mid g2, ha.tops (fun i hi => ?_) g3, HST.out.2⟩
          have := (g1.root_lt i (by rw [ha.len]; exact hi)).1
          rw [ha.len] at this
          exact this)
        clear J T3 HST
        go_wp2_with fail
        go_roundw
        case rel => exact ⟨j + 1, z3, H, by omega, by go_num, HE⟩
        case measure => simp [intOf]; omega
      | false =>
        have HE := Lib.hid (show ∀ W, Below w.heap.size w W → SolvedR la lb w (.returned (.tuple #[.agg #[z3, .map (some (w.heap.size + 1))], .slice none ([] : List Nat).length 0, .bool false])) W from fun W hW =>
          ⟨z3, w.heap.size + 1, none, 0, [], false, rfl, hW, fun _ f hf => J.out.2.2.2.2 rfl f ((HST.out.1 f).1 (unif_take hf _)), fun h => by cases h⟩)
        clear J T3 HST
        obtain ⟨zA, zc, rfl, _⟩ := HG4.out.g.slice
        have e0 := HG4.out.g.hdr
        have e1 := HG4.out.vc
        have f0 := HG4.out.fz 0
        have f1 := HG4.out.fz 1
        have hpw := HG4.out.g.lt
        go_wp2_with fail
        refine bodyPost_ret (v := .tuple #[.agg #[.slice zA H.length zc, .map (some (w.heap.size + 1))], .slice none 0 0, .bool false]) (by simp [results, Tryz.results90, go_sem, e0, e1]) rfl ?_
        exact ⟨HE.out _ ((HB4.out.setCell (p := ⟨w.heap.size, 0, none⟩) (Nat.le_refl _) _).setCell (p := ⟨w.heap.size, 1, none⟩) (Nat.le_refl _) _), _, _, _, _, _, _, _, _, rfl⟩
    · obtain rfl : j = la.length := by omega
      have QO := Lib.hid (show ∃ root r E, UF G root r ∧ Mid G root [] E ∧ Tops G root ∧ (∀ f, Unif ((la.zip lb).take la.length) f ↔ ∀ p ∈ E, ndv f G p.1 = ndv f G p.2) from HS.out.2.2.2.2)
      obtain ⟨root, r, E, huf, hmd, htp, hun⟩ := QO.out
      have QR := Lib.hid (order_at HS.out.1.g huf HS.out.2.2.1)
      have HMD := Lib.hid (show UF G root r ∧ Mid G root [] E ∧ Tops G root from ⟨huf, hmd, htp⟩)
      have htk : (la.zip lb).take la.length = la.zip lb := List.take_of_length_le (by rw [List.length_zip]; omega)
      rw [htk] at hun
      have HUN := Lib.hid hun
      clear htk hun huf hmd htp QO hp
      go_wp2_with fail
      refine (QR.out).mono ?_
      rintro e w5 ⟨H, A2, c2, ord, us, rfl, o1, o2, o3, o4, o5, o6⟩
      have HG5 := Lib.hid (HS.out.1.row o1 o3 o4)
      have HB5 := Lib.hid (below_fr HS.out.2.1 o4 (fun b e => (HS.out.1.zlo b e).1))
      have HE := Lib.hid (show ∀ W, Below w.heap.size w W → w5.grownBy W (some w.heap.size) → SolvedR la lb w (.returned (.tuple #[.agg #[z, .map (some (w.heap.size + 1))], .slice A2 ord.length c2, .bool (decide (ord.length = G.length))])) W from fun W hW hf => by
        have hrl := HMD.out.1.root_lt
        have hok := HS.out.2.2.1
        refine ⟨z, w.heap.size + 1, A2, c2, ord, _, rfl, hW, fun h f hfu => ?_, fun h => ?_⟩
        · have hne : ord.length < G.length := by
            have h1 := (pigeon _ _ o6.nodup o6.lt).1
            have h2 : ord.length ≠ G.length := by simpa using h
            omega
          exact o6.circle hne hok ((HMD.out.2.1.sound f ((HUN.out f).1 hfu)).1) hrl
        · have he : ord.length = G.length := by simpa using h
          obtain ⟨D, hD, hV⟩ := HG5.out.vm
          have hrl2 : ∀ j, j < H.length → root j < H.length ∧ root (root j) = root j := fun j hj => by
            rw [o1.len] at hj ⊢
            exact hrl j hj
          refine ⟨H, root, r, E, us, gmem_of HG5.out hf, o2, mid_closed (o1.mid HMD.out.2.1) (o1.ok hok) hV.varu (o1.tops (fun i hi => (hrl i hi).1) HMD.out.2.2) hrl2, fun f => (HUN.out f).trans ⟨fun a p hp => ?_, fun a p hp => ?_⟩, o1.ordering o6, by rw [he, o1.len], own_mono (World.ownsRow.kept o5 hf (.inr fun e => ?_)) HS.out.2.1.size, fun e => ?_, ?_⟩
          · have hb := HMD.out.2.1.ebd p hp
            rw [o1.ndv hb.1, o1.ndv hb.2]; exact a p hp
          · have hb := HMD.out.2.1.ebd p hp
            have := a p hp
            rw [o1.ndv hb.1, o1.ndv hb.2] at this
            exact this
          · have := (own_lt o5 _ e).1
            have := HS.out.1.g.lt
            omega
          · have := (own_lt o5 _ e).1
            obtain ⟨D, hD, _⟩ := HS.out.1.vm
            have := hD.lt
            omega
          · cases hA : (Value.slice A2 ord.length c2).ownBlock with
            | none => exact .inl rfl
            | some b =>
              refine .inr fun e => ?_
              have h1 := (own_lt o5 _ hA).1
              have h2 := (HS.out.1.zlo _ e.symm).2
              omega)
      clear o1 o2 o3 o4 o5 o6
      obtain ⟨zA, zc, rfl, _⟩ := HG5.out.g.slice
      have e0 := HG5.out.g.hdr
      have e1 := HG5.out.vc
      have f0 := HG5.out.fz 0
      have f1 := HG5.out.fz 1
      generalize decide (ord.length = G.length) = bb at *
      go_wp2_with fail
      refine bodyPost_ret (v := .tuple #[.agg #[.slice zA H.length zc, .map (some (w.heap.size + 1))], .slice A2 ord.length c2, .bool bb]) (by simp [results, Tryz.results90, go_sem, e0, e1]) rfl ?_
      exact ⟨HE.out _ ((HB5.out.setCell (p := ⟨w.heap.size, 0, none⟩) (Nat.le_refl _) _).setCell (p := ⟨w.heap.size, 1, none⟩) (Nat.le_refl _) _) (fr_set (p := ⟨w.heap.size, 1, none⟩) (fr_set (p := ⟨w.heap.size, 0, none⟩) (fr_refl _ _) rfl _) rfl _), _, _, _, _, _, _, _, _, rfl⟩
end Go.Proofs.YtgpglgehlnfggaaGreat
namespace Go.Proofs.YtgpglgehlnfggaaGreat
open Go.RowKit Go.Sort
def greatB (b : List Bd) (most : Int) : Bool := decide (weigh (b.map Bd.tm) most 64 < 0)
end Go.Proofs.YtgpglgehlnfggaaGreat
namespace Go.Proofs.YtgpglgehlnfggaaGreat
open Go
theorem form_nodes : (∀ t : Tm, t.form = true → t.nodes = t.size) ∧ (∀ l, formL l = true → nodesL l = sizeL l) := by
  refine Tm.induct2 (fun k n s A c a ih h => ?_) (fun _ => rfl) (fun t r h1 h2 h => ?_)
  · simp only [Tm.form] at h
    simp only [Tm.nodes, Tm.size]
    by_cases k0 : k = 0
    · subst k0
      simp only [if_true, Bool.and_eq_true, decide_eq_true_eq] at h
      obtain rfl : a = [] := List.length_eq_zero_iff.1 h.2.2.2
      simp [nodesL]
    · by_cases k1 : k = 1
      · subst k1
        simp only [if_true, show ¬ ((1 : Int) = 0) by omega, if_false, Bool.and_eq_true, decide_eq_true_eq] at h
        obtain rfl : a = [] := List.length_eq_zero_iff.1 h.2.2.2
        simp [nodesL]
      · by_cases k2 : k = 2
        · subst k2
          simp only [show ¬ ((2 : Int) = 0) by omega, show ¬ ((2 : Int) = 1) by omega, if_true, if_false, Bool.and_eq_true] at h
          rw [if_pos rfl, ih h.2.2]
        · simp [k0, k1, k2] at h
  · simp only [formL, Bool.and_eq_true] at h
    simp only [nodesL, sizeL, h1 h.1, h2 h.2]
theorem right_nodes {t : Tm} (h : t.right = true) : t.nodes ≤ 200 := by
  unfold Tm.right at h
  simp only [Bool.and_eq_true, decide_eq_true_eq] at h
  rw [form_nodes.1 t h.1]
  exact h.2.1
theorem nodes_pos (t : Tm) : 1 ≤ t.nodes := by cases t; simp [Tm.nodes]
theorem nodes_app {b : List Bd} {N : Nat} (hN : ∀ x ∈ b, x.tm.nodes ≤ N) : (∀ t : Tm, (t.app b).nodes ≤ t.nodes * (1 + N)) ∧ (∀ l, nodesL (appL b l) ≤ nodesL l * (1 + N)) := by
  refine Tm.induct2 (fun k n s A c a ih => ?_) (by simp [appL, nodesL]) (fun t r h1 h2 => ?_)
  · simp only [Tm.app]
    have hp : ∀ m : Nat, m ≤ m * (1 + N) := fun m => Nat.le_mul_of_pos_right m (by omega)
    split
    · cases hl : look b n with
      | none => exact hp _
      | some t =>
        obtain ⟨x, hx, _, rfl⟩ := look_some hl
        have h1 := hN x hx
        have h2 : 1 * (1 + N) ≤ (Tm.mk k n s A c a).nodes * (1 + N) := Nat.mul_le_mul_right _ (nodes_pos _)
        simp only [Option.getD_some]
        omega
    · split
      · simp only [Tm.nodes]
        rw [Nat.add_mul]
        omega
      · exact hp _
  · simp only [appL, nodesL]
    rw [Nat.add_mul]
    omega
end Go.Proofs.YtgpglgehlnfggaaGreat
namespace Go.Proofs.YtgpglgehlnfggaaGreat
open Go.RowKit
theorem one_lst {w : World} {t : Tm} (h : t.At w) {b : Nat} (hc : w.cell? ⟨b, 0, none⟩ = some (.int .i64 t.kind) ∧ w.cell? ⟨b, 1, none⟩ = some (.int .i64 t.num) ∧ w.cell? ⟨b, 2, none⟩ = some (.string t.name) ∧ w.cell? ⟨b, 3, none⟩ = some (.slice t.at_ t.args.length t.cap)) : Lst w (some ⟨b, 0, none⟩) [t] 1 :=
  ⟨Nat.le_refl _, by unfold maxLen; omega, fun _ => ⟨b, 0, rfl, hc, h, trivial⟩⟩
theorem two_nodes {t u : Tm} (h : (([t] : List Tm).all Tm.right && ([u] : List Tm).all Tm.right) = true) : nodesL [t] + nodesL [u] ≤ 1000000 := by
  simp only [List.all_cons, List.all_nil, Bool.and_true, Bool.and_eq_true] at h
  have h1 := right_nodes h.1
  have h2 := right_nodes h.2
  simp only [nodesL]
  omega
theorem cell4 {w : World} {o0 o1 o3 : Obj} {cs : Array Value} {T : TypeId} (j : Nat) : ((((w.alloc o0).alloc o1).alloc (.cells cs T)).alloc o3).cell? ⟨w.heap.size + 1 + 1, j, none⟩ = cs[j]? :=
  (World.cell?_alloc_past _ _ _ (by simp)).trans (World.cell?_alloc_at _ _ _ _ (by simp))
theorem cell5 {w : World} {o0 o1 o2 : Obj} {cs : Array Value} {T : TypeId} (j : Nat) : ((((w.alloc o0).alloc o1).alloc o2).alloc (.cells cs T)).cell? ⟨w.heap.size + 1 + 1 + 1, j, none⟩ = cs[j]? := World.cell?_alloc_at _ _ _ _ (by simp)
theorem boxes_two {w W : World} {v0 v1 v2 v3 u0 u1 u2 u3 : Value} {T : TypeId} (h : Below ((w.alloc (.cells #[v0, v1, v2, v3] T)).alloc (.cells #[u0, u1, u2, u3] T)).heap.size ((w.alloc (.cells #[v0, v1, v2, v3] T)).alloc (.cells #[u0, u1, u2, u3] T)) W) :
    (W.cell? ⟨w.heap.size, 0, none⟩ = some v0 ∧ W.cell? ⟨w.heap.size, 1, none⟩ = some v1 ∧ W.cell? ⟨w.heap.size, 2, none⟩ = some v2 ∧ W.cell? ⟨w.heap.size, 3, none⟩ = some v3) ∧ W.cell? ⟨w.heap.size + 1, 0, none⟩ = some u0 ∧ W.cell? ⟨w.heap.size + 1, 1, none⟩ = some u1 ∧ W.cell? ⟨w.heap.size + 1, 2, none⟩ = some u2 ∧ W.cell? ⟨w.heap.size + 1, 3, none⟩ = some u3 := by
  have h1 : ∀ j v, #[v0, v1, v2, v3][j]? = some v → W.cell? ⟨w.heap.size, j, none⟩ = some v := fun j v e => (h.cell (p := ⟨w.heap.size, j, none⟩) (by simp; omega)).trans (((World.cell?_alloc_past _ _ _ (by simp)).trans (World.cell?_alloc_at _ _ _ _ rfl)).trans e)
  have h2 : ∀ j v, #[u0, u1, u2, u3][j]? = some v → W.cell? ⟨w.heap.size + 1, j, none⟩ = some v := fun j v e => (h.cell (p := ⟨w.heap.size + 1, j, none⟩) (by simp)).trans ((World.cell?_alloc_at _ _ _ _ (by simp)).trans e)
  exact ⟨⟨h1 0 _ rfl, h1 1 _ rfl, h1 2 _ rfl, h1 3 _ rfl⟩, h2 0 _ rfl, h2 1 _ rfl, h2 2 _ rfl, h2 3 _ rfl⟩
theorem bound_exists {G : List Nd} {top : Nat → Nat} (h : VarU G) : ∃ bd, BoundIs G top bd := by
  let l := (List.range G.length).filter fun i => decide ((nd G i).tm.kind = 1) && decide (top i ≠ i)
  let le : Nat → Nat → Bool := fun i j => decide ((nd G i).tm.num ≤ (nd G j).tm.num)
  have hl : ∀ i, i ∈ l ↔ i < G.length ∧ (nd G i).tm.kind = 1 ∧ top i ≠ i := fun i => by simp [l]
  have hp : (l.mergeSort le).Perm l := List.mergeSort_perm l le
  have hm : ∀ i, i ∈ l.mergeSort le ↔ i < G.length ∧ (nd G i).tm.kind = 1 ∧ top i ≠ i := fun i => (hp.mem_iff).trans (hl i)
  have hn : (l.mergeSort le).Nodup := hp.nodup_iff.2 (List.Pairwise.filter _ List.nodup_range)
  have ho : (l.mergeSort le).Pairwise fun i j => le i j = true := List.pairwise_mergeSort (fun a b c h1 h2 => by simp only [le, decide_eq_true_eq] at *; omega) (fun a b => by simp only [le, Bool.or_eq_true, decide_eq_true_eq]; omega) l
  refine ⟨l.mergeSort le, hm, ?_⟩
  refine List.Pairwise.imp_of_mem ?_ (ho.and hn)
  intro i j hi hj hij
  obtain ⟨h1, h2⟩ := hij
  simp only [le, decide_eq_true_eq] at h1
  have h3 := (hm i).1 hi
  have h4 := (hm j).1 hj
  have h5 : (nd G i).tm.num ≠ (nd G j).tm.num := fun e => h2 (h i j h3.1 h4.1 h3.2.1 h4.2.1 e)
  omega
theorem closed_unif {G : List Nd} {E : List (Nat × Nat)} {top r : Nat → Nat} {D : Nat} (h : Closed G E top) (hr : Ranked G top r D) {F : List (Tm × Tm)} (hF : ∀ f, Unif F f ↔ ∀ p ∈ E, ndv f G p.1 = ndv f G p.2) : ∃ f, Unif F f := by
  obtain ⟨bd, hb⟩ := bound_exists (top := top) h.varu
  exact ⟨_, (closed_sol h hr hb hF).unif⟩
end Go.Proofs.YtgpglgehlnfggaaGreat
namespace Go.Proofs.YtgpglgehlnfggaaGreat
open Go.RowKit
def CanR (t u : Tm) (r : Bool) : Prop := r = true ↔ t.right = true ∧ u.right = true ∧ ∃ f : Int → Tm, t.sub f = u.sub f
theorem can_solved {t u : Tm} {w w1 w' : World} {e : Ending} (h1 : t.right = true) (h2 : u.right = true) (h : SolvedZ [t] [u] w1 e w') (hb : Below w.heap.size w w1) :
    ∃ (zA : Option Addr) (n zc mb : Nat) (A : Option Addr) (m c : Nat) (b : Bool), e = .returned (.tuple #[.agg #[.slice zA n zc, .map (some mb)], .slice A m c, .bool b]) ∧ CanR t u b ∧ Below w.heap.size w w' := by
  obtain ⟨⟨z, mb, Ao, co, ord, ok, rfl, hb3, hno, hyes⟩, zA, zn, zc, mb2, A2, m2, c2, b2, he⟩ := h
  refine ⟨zA, zn, zc, mb2, A2, m2, c2, b2, he, ?_, hb.trans (hb3.mono hb.size)⟩
  obtain rfl : ok = b2 := by simp at he; exact he.2.2
  unfold CanR
  cases ok with
  | false =>
    refine ⟨fun h => (by cases h), fun h => ?_⟩
    obtain ⟨_, _, f, hf⟩ := h
    exact absurd (Unif.one.2 hf) (hno rfl f)
  | true =>
    obtain ⟨G, root, r, E, us, hgm, huf, hcl, hun, hord, hall, _⟩ := hyes rfl
    have hrk := hord.ranked hall (fun i hi => ⟨hcl.lt i hi, hcl.idem i hi⟩) hcl.ok
    obtain ⟨f, hf⟩ := closed_unif hcl hrk hun
    exact ⟨fun _ => ⟨h1, h2, f, Unif.one.1 hf⟩, fun _ => rfl⟩
theorem cell_fst {w : World} {o : Obj} {cs : Array Value} {T : TypeId} (j : Nat) : ((w.alloc (.cells cs T)).alloc o).cell? ⟨w.heap.size, j, none⟩ = cs[j]? := (World.cell?_alloc_past _ _ _ (by simp)).trans (World.cell?_alloc_at _ _ _ _ rfl)
theorem cell_snd {w : World} {o : Obj} {cs : Array Value} {T : TypeId} (j : Nat) : ((w.alloc o).alloc (.cells cs T)).cell? ⟨w.heap.size + 1, j, none⟩ = cs[j]? := World.cell?_alloc_at _ _ _ _ (by simp)
theorem one_forms {t : Tm} (h : t.right = true) : ∀ x ∈ [t], x.form = true := fun x hx => by
  rw [List.mem_singleton.1 hx]
  unfold Tm.right at h
  simp only [Bool.and_eq_true] at h
  exact h.1
set_option maxHeartbeats 4000000 in
theorem unifiable_at (t u : Tm) (w : World) (ht : t.At w) (hu : u.At w) : Calls Tryz.prog 61 #[t.val, u.val] w fun e w' => ∃ r, e = .returned (.bool r) ∧ CanR t u r ∧ Below w.heap.size w w' := by
  have HR1 := Lib.hid (fun (W : World) (hb : Below w.heap.size w W) => right_tm_at t W (ht.below hb) rfl)
  have HR2 := Lib.hid (fun (W : World) (hb : Below w.heap.size w W) => right_tm_at u W (hu.below hb) rfl)
  have HN := Lib.hid (show (t.right && u.right) = false → CanR t u false from fun h => ⟨fun h => (by cases h), fun h' => by rw [h'.1, h'.2.1] at h; cases h⟩)
  have HS := Lib.hid (fun (h1 : t.right = true) (h2 : u.right = true) (W : World) (hb : Below w.heap.size w W) p q hp hq => (solve_at [t] [u] (some ⟨p, 0, none⟩) (some ⟨q, 0, none⟩) 1 1 W (one_lst (ht.below hb) hp) (one_lst (hu.below hb) hq) rfl (one_forms h1) (one_forms h2) (two_nodes (by simp [h1, h2]))).mono fun e w' h => can_solved h1 h2 h hb)
  generalize hX : CanR t u = X at *
  clear hX
  clear ht hu
  obtain ⟨k, n, s, A, c, a⟩ := t
  obtain ⟨k2, n2, s2, A2, c2, a2⟩ := u
  generalize Tm.right (.mk k n s A c a) = r1 at *
  generalize Tm.right (.mk k2 n2 s2 A2 c2 a2) = r2 at *
  have B1 := Lib.hid ((Below.refl w.heap.size w).alloc (Nat.le_refl _) (.cells #[.int .i64 k, .int .i64 n, .string s, .slice A a.length c] 40))
  have B2 := Lib.hid (B1.out.alloc (by simp) (.cells #[.int .i64 k2, .int .i64 n2, .string s2, .slice A2 a2.length c2] 40))
  show Calls Tryz.prog 61 #[.agg #[.int .i64 k, .int .i64 n, .string s, .slice A a.length c], .agg #[.int .i64 k2, .int .i64 n2, .string s2, .slice A2 a2.length c2]] w _
  have HR1 := Lib.hid (fun (W : World) (hb : Below w.heap.size w W) => show Calls Tryz.prog 89 #[.agg #[.int .i64 k, .int .i64 n, .string s, .slice A a.length c]] W (fun e w' => e = .returned (.bool r1) ∧ Below W.heap.size W w') from HR1.out W hb)
  have HR2 := Lib.hid (fun (W : World) (hb : Below w.heap.size w W) => show Calls Tryz.prog 89 #[.agg #[.int .i64 k2, .int .i64 n2, .string s2, .slice A2 a2.length c2]] W (fun e w' => e = .returned (.bool r2) ∧ Below W.heap.size W w') from HR2.out W hb)
  cases r1 with
  | false =>
    have HE := Lib.hid (HN.out rfl)
    go_enter Tryz.func61, Tryz.ntmps61
    go_wp2_with (go_at_call 89; refine (HR1.out _ B2.out).mono ?_; rintro e w3 ⟨rfl, g1⟩; have H1 := Lib.hid (B2.out.trans (g1.mono B2.out.size)); clear g1)
    go_ret
    exact ⟨_, rfl, HE.out, H1.out⟩
  | true =>
    cases r2 with
    | false =>
      have HE := Lib.hid (HN.out rfl)
      go_enter Tryz.func61, Tryz.ntmps61
      go_wp2_with (first
        | (go_at_call 89; (with_reducible refine (HR1.out _ B2.out).mono ?_); rintro e w3 ⟨rfl, g1⟩; have H1 := Lib.hid (B2.out.trans (g1.mono B2.out.size)); obtain ⟨⟨x0, x1, x2, x3⟩, y0, y1, y2, y3⟩ := boxes_two g1; have G1 := Lib.hid g1; clear g1)
        | (go_at_call 89; (with_reducible refine (HR2.out _ H1.out).mono ?_); rintro e w4 ⟨rfl, g1⟩; have H2 := Lib.hid (H1.out.trans (g1.mono H1.out.size)); clear g1))
      go_ret
      exact ⟨_, rfl, HE.out, H2.out⟩
    | true =>
      have HS2 := Lib.hid (HS.out rfl rfl)
      clear HS HN
      go_enter Tryz.func61, Tryz.ntmps61
      go_wp2_with (first
        | (go_at_call 89; (with_reducible refine (HR1.out _ B2.out).mono ?_); rintro e w3 ⟨rfl, g1⟩; have H1 := Lib.hid (B2.out.trans (g1.mono B2.out.size)); obtain ⟨⟨x0, x1, x2, x3⟩, y0, y1, y2, y3⟩ := boxes_two g1; have G1 := Lib.hid g1; clear g1)
        | (go_at_call 89; (with_reducible refine (HR2.out _ H1.out).mono ?_); rintro e w4 ⟨rfl, g1⟩; have H2 := Lib.hid (H1.out.trans (g1.mono H1.out.size)); clear x0 x1 x2 x3 y0 y1 y2 y3; obtain ⟨⟨x0, x1, x2, x3⟩, y0, y1, y2, y3⟩ := boxes_two (G1.out.trans (g1.mono G1.out.size)); have z0 := al1 y0 (.cells #[.int .i64 k, .int .i64 n, .string s, .slice A a.length c] 40); have z1 := al1 y1 (.cells #[.int .i64 k, .int .i64 n, .string s, .slice A a.length c] 40); have z2 := al1 y2 (.cells #[.int .i64 k, .int .i64 n, .string s, .slice A a.length c] 40); have z3 := al1 y3 (.cells #[.int .i64 k, .int .i64 n, .string s, .slice A a.length c] 40); clear g1)
        | (go_at_call 90; refine (HS2.out _ ((H2.out.alloc H2.out.size _).alloc (Nat.le_succ_of_le H2.out.size |> fun h => by simpa using h) _) _ _ ⟨cell_fst 0, cell_fst 1, cell_fst 2, cell_fst 3⟩ ⟨cell_snd 0, cell_snd 1, cell_snd 2, cell_snd 3⟩).mono ?_; rintro e w5 ⟨zA, zn, zc, mb, A5, m5, c5, b5, rfl, hC, hb5⟩; have HC5 := Lib.hid hC; have HB5 := Lib.hid hb5; clear hC hb5))
      go_ret
      exact ⟨_, rfl, HC5.out, HB5.out.alloc HB5.out.size _⟩
end Go.Proofs.YtgpglgehlnfggaaGreat
namespace Go.Proofs.YtgpglgehlnfggaaGreat
open Go.RowKit
theorem texts_zero : ∀ {a b : List UInt8}, texts a b = 0 → a = b := by
  intro a
  induction a with
  | nil =>
    intro b h
    cases b with
    | nil => rfl
    | cons y q => simp [texts, Op.bytesLess] at h
  | cons x r ih =>
    intro b h
    cases b with
    | nil => simp [texts, Op.bytesLess] at h
    | cons y q =>
      rw [texts_cons] at h
      obtain ⟨h1, h2⟩ := lexz_iff.1 h
      have := ints_zero.1 h1
      rw [ih h2, UInt8.toNat_inj.1 (show x.toNat = y.toNat by omega)]
theorem cls_inj {k k' : Int} (h : cls k = cls k') (hk : k = 0 ∨ k = 1 ∨ k = 2) : k = k' := by
  rcases hk with rfl | rfl | rfl
  · unfold cls at h; simp at h; split at h
    · cases h
    · split at h
      · exact Eq.symm ‹_›
      · split at h <;> cases h
  · exact (cls_one.1 h.symm).symm
  · exact (cls_two.1 h.symm).symm
theorem bytes_eq {s t : ByteArray} (h : s.data.toList = t.data.toList) : s = t := by
  cases s; cases t; simp at h; rw [h]
theorem cmp_zero : (∀ t : Tm, t.form = true → ∀ u : Tm, u.form = true → cmpT t u = 0 → t.strip = u.strip) ∧ (∀ l, formL l = true → ∀ m, formL m = true → cmpL l m = 0 → stripL l = stripL m) := by
  refine Tm.induct2 (fun k n s A c a ih h u hu e => ?_) (fun _ m _ e => ?_) (fun t r h1 h2 h m hm e => ?_)
  · obtain ⟨k', n', s', A', c', a'⟩ := u
    simp only [cmpT, Tm.kind, Tm.num, Tm.name, Tm.args] at e
    obtain ⟨e1, e2⟩ := lexz_iff.1 e
    have hk := form_kind h
    simp only [Tm.kind] at hk
    obtain rfl := cls_inj (ints_zero.1 e1) hk
    clear e e1
    rcases hk with rfl | rfl | rfl
    · simp at e2
      have := ints_zero.1 e2
      subst this
      simp [Tm.form] at h hu
      obtain ⟨_, _, h3, h4⟩ := h
      obtain ⟨_, _, h5, h6⟩ := hu
      rw [h3, h4, h5, h6]
      rfl
    · simp at e2
      have := ints_zero.1 e2
      subst this
      have hv := form_var h rfl
      have hv' := form_var hu rfl
      rw [hv.1, hv'.1]
      rfl
    · simp at e2
      obtain ⟨_, e3⟩ := lexz_iff.1 e2
      obtain ⟨e4, e5⟩ := lexz_iff.1 e3
      have hn : n = 0 ∧ n' = 0 := by simp [Tm.form] at h hu; exact ⟨h.1, hu.1⟩
      obtain ⟨rfl, rfl⟩ := hn
      have := bytes_eq (texts_zero e4)
      subst this
      simp only [Tm.strip]
      rw [ih (form_args h).2 _ (form_args hu).2 e5]
      rfl
  · cases m with
    | nil => rfl
    | cons y q => simp [cmpL] at e
  · cases m with
    | nil => simp [cmpL] at e
    | cons y q =>
      simp only [cmpL] at e
      obtain ⟨e1, e2⟩ := lexz_iff.1 e
      simp only [formL, Bool.and_eq_true] at h hm
      simp only [stripL]
      rw [h1 h.1 _ hm.1 e1, h2 h.2 _ hm.2 e2]
theorem right_form {t : Tm} (h : t.right = true) : t.form = true := by
  unfold Tm.right at h
  simp only [Bool.and_eq_true] at h
  exact h.1
theorem app_form {b : List Bd} (hb : ∀ x ∈ b, x.tm.form = true) : (∀ t : Tm, t.form = true → (t.app b).form = true) ∧ (∀ l, formL l = true → formL (appL b l) = true) := by
  refine Tm.induct2 (fun k n s A c a ih h => ?_) (fun _ => rfl) (fun t r h1 h2 h => ?_)
  · simp only [Tm.app]
    split
    · cases hl : look b n with
      | none => simpa using h
      | some u =>
        obtain ⟨x, hx, _, rfl⟩ := look_some hl
        simpa using hb x hx
    · split
      · rename_i h1 h2
        simp only [Tm.form, h2, if_true] at h ⊢
        subst h2
        simp only [show ¬ (2 : Int) = 0 by decide, show ¬ (2 : Int) = 1 by decide, if_false, appL_len, Bool.and_eq_true] at h ⊢
        exact ⟨h.1, h.2.1, ih h.2.2⟩
      · exact h
  · simp only [formL, appL, Bool.and_eq_true] at h ⊢
    exact ⟨h1 h.1, h2 h.2⟩
theorem rightS_forms {b : List Bd} (h : rightS b = true) : ∀ x ∈ b, x.tm.form = true := fun x hx => right_form (((rightS_iff b).1 h).1.1 x hx).2.2
end Go.Proofs.YtgpglgehlnfggaaGreat
namespace Go.Proofs.YtgpglgehlnfggaaGreat
open Go
mutual
def Tm.numB : Tm → Bool
  | .mk k _ s _ _ a => if k = 0 ∨ k = 1 then true else decide (k = 2) && (opB s.data.toList && (decide (a.length = 2) && numL a))
def numL : List Tm → Bool
  | [] => true
  | t :: r => t.numB && numL r
end
theorem num_strip : (∀ t : Tm, t.strip.numB = t.numB) ∧ (∀ l, numL (stripL l) = numL l) := by
  refine Tm.induct2 (fun k n s A c a ih => ?_) rfl (fun t r h1 h2 => ?_)
  · simp only [Tm.strip, Tm.numB, ih, stripL_len]
  · simp only [stripL, numL, h1, h2]
theorem num_app (b : List Bd) : (∀ t : Tm, (t.app b).numB = true → t.numB = true) ∧ (∀ l, numL (appL b l) = true → numL l = true) := by
  refine Tm.induct2 (fun k n s A c a ih => ?_) (fun _ => rfl) (fun t r h1 h2 h => ?_)
  · simp only [Tm.app]
    split
    · rename_i hk
      intro _
      simp [Tm.numB, hk]
    · split
      · simp only [Tm.numB]
        split
        · exact fun h => h
        · simp only [Bool.and_eq_true, decide_eq_true_eq, appL_len]
          rintro ⟨h1, h2, h3, h4⟩
          exact ⟨h1, h2, h3, ih h4⟩
      · exact fun h => h
  · simp only [appL, numL, Bool.and_eq_true] at h ⊢
    exact ⟨h1 h.1, h2 h.2⟩
def holdV (b : Bool) : Int := if b = true then 1 else 2
def cmpV (op m n : Int) : Bool := if op = 7 then decide (m < n) else if op = 8 then decide (m ≤ n) else if op = 9 then decide (m = n) else decide (m ≠ n)
def valT (op : Int) (a b : Tm) : Int :=
  if (a.numB && b.numB) = false then 2
  else if (decide (a.occ = []) && decide (b.occ = [])) = false then 0
  else if a.eval.2 ≠ 0 ∨ b.eval.2 ≠ 0 then 2
  else holdV (cmpV op a.eval.1 b.eval.1)
def sameV (can : Tm → Tm → Bool) (op : Int) (a b : Tm) : Int :=
  if (cmpT a b == 0) = true then holdV (decide (op = 5)) else if can a b = true then 0 else holdV (decide (op = 6))
def intV (a : Tm) : Int := if a.kind = 1 then 0 else holdV (decide (a.kind = 0))
def gndV (a : Tm) : Int := if a.occ = [] then 1 else 0
def isT (op : Int) (s : ByteArray) (l : List Tm) : Bool := (decide (5 ≤ op) && decide (op ≤ 12)) && goalB op s l
def testV (can : Tm → Tm → Bool) (op : Int) (s : ByteArray) (l : List Tm) : Int :=
  if isT op s l = true then
    match l with
    | [a] => if op = 11 then intV a else gndV a
    | [a, b] => if op = 5 ∨ op = 6 then sameV can op a b else valT op a b
    | _ => 2
  else holdV (decide (op = 1) && goalB op s l)
def Cans (can : Tm → Tm → Bool) : Prop := ∀ a b : Tm, can a b = true ↔ ∃ f : Int → Tm, a.sub f = b.sub f
theorem cans : ∃ can, Cans can := ⟨fun a b => @decide (∃ f : Int → Tm, a.sub f = b.sub f) (Classical.propDecidable _), fun a b => by
  rw [@decide_eq_true_eq _ (Classical.propDecidable _)]⟩
theorem isT_goal {op : Int} {s : ByteArray} {l : List Tm} (h : isT op s l = true) : 5 ≤ op ∧ op ≤ 12 ∧ goalB op s l = true := by
  simp only [isT, Bool.and_eq_true, decide_eq_true_eq] at h
  exact ⟨h.1.1, h.1.2, h.2⟩
theorem isT_built {op : Int} {s : ByteArray} {l : List Tm} (h : isT op s l = true) : s = ByteArray.empty ∧ (l.length : Int) = arity op ∧ rightL l = true := by
  obtain ⟨h1, h2, h3⟩ := isT_goal h
  unfold goalB at h3
  rw [if_neg (by omega)] at h3
  simp only [builtinB, Bool.and_eq_true, decide_eq_true_eq] at h3
  exact ⟨ByteArray.size_eq_zero_iff.1 h3.1, h3.2.1, h3.2.2⟩
theorem arity_two {op : Int} (h1 : 5 ≤ op) (h2 : op ≤ 10) : arity op = 2 := by
  unfold arity
  rw [if_neg (by omega), if_neg (by omega), if_pos (by omega)]
theorem arity_one {op : Int} (h1 : op = 11 ∨ op = 12) : arity op = 1 := by
  unfold arity
  rw [if_neg (by omega), if_pos h1]
theorem len_two {l : List Tm} (h : l.length = 2) : ∃ a b, l = [a, b] := by
  match l, h with
  | [a, b], _ => exact ⟨a, b, rfl⟩
theorem len_one {l : List Tm} (h : l.length = 1) : ∃ a, l = [a] := by
  match l, h with
  | [a], _ => exact ⟨a, rfl⟩
theorem isT_two {op : Int} {s : ByteArray} {l : List Tm} (h : isT op s l = true) (h10 : op ≤ 10) : ∃ a b, l = [a, b] := by
  obtain ⟨_, h2, _⟩ := isT_built h
  rw [arity_two (isT_goal h).1 h10] at h2
  exact len_two (by omega)
theorem isT_one {op : Int} {s : ByteArray} {l : List Tm} (h : isT op s l = true) (h10 : ¬ op ≤ 10) : ∃ a, l = [a] := by
  obtain ⟨_, h2, _⟩ := isT_built h
  rw [arity_one (by have := isT_goal h; omega)] at h2
  exact len_one (by omega)
theorem rightL_each {l : List Tm} (h : rightL l = true) : ∀ x ∈ l, x.right = true := by
  simp only [rightL, Bool.and_eq_true, decide_eq_true_eq] at h
  obtain ⟨h1, h2, h3⟩ := h
  induction l with
  | nil => intro x hx; cases hx
  | cons t r ih =>
    simp only [formL, sizeL, depthL, Bool.and_eq_true] at h1 h2 h3
    intro x hx
    rcases List.mem_cons.1 hx with rfl | hx
    · simp only [Tm.right, Bool.and_eq_true, decide_eq_true_eq]
      exact ⟨h1.1, by omega, by omega⟩
    · exact ih h1.2 (by omega) (by omega) x hx
theorem wordsL_strip (l : List Tm) : sizeL (stripL l) = sizeL l ∧ depthL (stripL l) = depthL l := by
  have h1 : (∀ t : Tm, t.strip.size = t.size) ∧ ∀ l, sizeL (stripL l) = sizeL l := by
    refine Tm.induct2 (fun k n s A c a ih => ?_) rfl (fun t r h1 h2 => ?_)
    · simp only [Tm.strip, Tm.size, ih]
    · simp only [stripL, sizeL, h1, h2]
  have h2 : (∀ t : Tm, t.strip.depth = t.depth) ∧ ∀ l, depthL (stripL l) = depthL l := by
    refine Tm.induct2 (fun k n s A c a ih => ?_) rfl (fun t r h1 h2 => ?_)
    · simp only [Tm.strip, Tm.depth, ih]
    · simp only [stripL, depthL, h1, h2]
  exact ⟨h1.2 l, h2.2 l⟩
theorem rightL_strip (l : List Tm) : rightL (stripL l) = rightL l := by
  unfold rightL
  rw [form_strip.2, (wordsL_strip l).1, (wordsL_strip l).2]
theorem goalB_strip (op : Int) (s : ByteArray) (l : List Tm) : goalB op s (stripL l) = goalB op s l := by
  unfold goalB atomB builtinB
  rw [rightL_strip, stripL_len]
theorem isT_strip (op : Int) (s : ByteArray) (l : List Tm) : isT op s (stripL l) = isT op s l := by
  unfold isT; rw [goalB_strip]
theorem kind_strip (t : Tm) : t.strip.kind = t.kind := by
  obtain ⟨k, n, s, A, c, a⟩ := t; rfl
theorem valT_strip (op : Int) (a b : Tm) : valT op a.strip b.strip = valT op a b := by
  unfold valT
  rw [num_strip.1, num_strip.1, occ_strip.1, occ_strip.1, eval_strip.1, eval_strip.1]
theorem can_strip {can : Tm → Tm → Bool} (hc : Cans can) (a b : Tm) : can a.strip b.strip = can a b := by
  rw [Bool.eq_iff_iff, hc, hc]
  simp only [(sub_strip _).1]
theorem sameV_strip {can : Tm → Tm → Bool} (hc : Cans can) (op : Int) (a b : Tm) : sameV can op a.strip b.strip = sameV can op a b := by
  unfold sameV
  rw [can_strip hc, cmp_strip.1]
theorem testV_strip {can : Tm → Tm → Bool} (hc : Cans can) (op : Int) (s : ByteArray) (l : List Tm) : testV can op s (stripL l) = testV can op s l := by
  unfold testV
  rw [isT_strip, goalB_strip]
  split
  · match l with
    | [] => rfl
    | [a] => simp only [stripL, intV, gndV, kind_strip, occ_strip.1]
    | [a, b] => simp only [stripL, sameV_strip hc, valT_strip]
    | _ :: _ :: _ :: _ => rfl
  · rfl
theorem testV_like {can : Tm → Tm → Bool} (hc : Cans can) {op : Int} {s : ByteArray} {l m : List Tm} (h : stripL l = stripL m) : testV can op s l = testV can op s m := by rw [← testV_strip hc, h, testV_strip hc]
theorem isT_like {op : Int} {s : ByteArray} {l m : List Tm} (h : stripL l = stripL m) : isT op s l = isT op s m := by rw [← isT_strip, h, isT_strip]
theorem occ_app {b : List Bd} {t : Tm} (h : t.occ = []) : t.app b = t := (app_id b).1 t fun v hv => by rw [h] at hv; cases hv
theorem can_refl {can : Tm → Tm → Bool} (hc : Cans can) {a b : Tm} (h : a.strip = b.strip) : can a b = true := by
  rw [hc]
  exact ⟨fun _ => default, by rw [← (sub_strip _).1 a, h, (sub_strip _).1]⟩
theorem same_can {can : Tm → Tm → Bool} (hc : Cans can) {a b : Tm} (ha : a.form = true) (hb : b.form = true) (h : (cmpT a b == 0) = true) : can a b = true :=
  can_refl hc (cmp_zero.1 a ha b hb (by simpa using h))
theorem can_app {can : Tm → Tm → Bool} (hc : Cans can) {b : List Bd} {s t : Tm} (hs : s.form = true) (ht : t.form = true) (h : can (s.app b) (t.app b) = true) : can s t = true := by
  rw [hc] at h ⊢
  obtain ⟨f, hf⟩ := h
  rw [← (sub_strip f).1 (s.app b), ← (sub_strip f).1 (t.app b), (app_sub b).1 s hs, (app_sub b).1 t ht] at hf
  have key := fun t : Tm => show (t.sub (subOf b)).sub f = t.sub fun v => (subOf b v).sub f from by
    have : (∀ t : Tm, (t.sub (subOf b)).sub f = t.sub fun v => (subOf b v).sub f) ∧ (∀ l, subL f (subL (subOf b) l) = subL (fun v => (subOf b v).sub f) l) := by
      refine Tm.induct2 (fun k n s A c a ih => ?_) rfl (fun t r h1 h2 => ?_)
      · simp only [Tm.sub]
        split
        · rfl
        · rename_i hk
          simp only [Tm.sub, if_neg hk, ih]
      · simp only [subL, h1, h2]
    exact this.1 t
  rw [key, key] at hf
  exact ⟨_, hf⟩
theorem kind_app {b : List Bd} {t : Tm} (h : t.kind ≠ 1) : (t.app b).kind = t.kind := by
  obtain ⟨k, n, s, A, c, a⟩ := t
  simp only [Tm.kind] at h
  simp only [Tm.app, if_neg h]
  split <;> rfl
theorem stable {can : Tm → Tm → Bool} (hc : Cans can) {b : List Bd} (hb : rightS b = true) {op : Int} {s : ByteArray} {l : List Tm} (hg : goalB op s l = true) (hg2 : goalB op s (appL b l) = true) (hn : testV can op s l ≠ 0) : testV can op s (appL b l) = testV can op s l := by
  have hf := app_form (rightS_forms hb)
  by_cases hop : 5 ≤ op ∧ op ≤ 12
  · have ht : isT op s l = true := by simp only [isT, Bool.and_eq_true, decide_eq_true_eq]; exact ⟨hop, hg⟩
    have ht2 : isT op s (appL b l) = true := by simp only [isT, Bool.and_eq_true, decide_eq_true_eq]; exact ⟨hop, hg2⟩
    have hr := rightL_each (isT_built ht).2.2
    unfold testV at hn ⊢
    rw [if_pos ht] at hn ⊢
    rw [if_pos ht2]
    by_cases h10 : op ≤ 10
    · obtain ⟨x, y, rfl⟩ := isT_two ht h10
      have hx := right_form (hr x (by simp))
      have hy := right_form (hr y (by simp))
      simp only [appL] at hn ⊢
      by_cases h56 : op = 5 ∨ op = 6
      · rw [if_pos h56] at hn ⊢
        rw [if_pos h56]
        unfold sameV at hn ⊢
        cases hs : (cmpT x y == 0) with
        | true =>
          have := same_strip (app_like (b := b) (b' := b) rfl (cmp_zero.1 x hx y hy (by simpa using hs)))
          rw [this, if_pos rfl, if_pos rfl]
        | false =>
          rw [hs, if_neg (by simp)] at hn
          rw [if_neg (show ¬ (false = true) by simp)]
          cases hcn : can x y with
          | true => rw [hcn, if_pos rfl] at hn; exact absurd rfl hn
          | false =>
            have h1 : can (x.app b) (y.app b) = false := by
              cases h2 : can (x.app b) (y.app b) with
              | false => rfl
              | true => rw [can_app hc hx hy h2] at hcn; cases hcn
            have h3 : (cmpT (x.app b) (y.app b) == 0) = false := by
              cases h2 : (cmpT (x.app b) (y.app b) == 0) with
              | false => rfl
              | true => rw [same_can hc (hf.1 x hx) (hf.1 y hy) h2] at h1; cases h1
            rw [h1, h3]
            rfl
      · rw [if_neg h56] at hn ⊢
        rw [if_neg h56]
        unfold valT at hn ⊢
        cases hnm : (x.numB && y.numB) with
        | false =>
          have h1 : ((x.app b).numB && (y.app b).numB) = false := by
            cases h2 : ((x.app b).numB && (y.app b).numB) with
            | false => rfl
            | true =>
              rw [Bool.and_eq_true] at h2
              rw [(num_app b).1 x h2.1, (num_app b).1 y h2.2] at hnm
              cases hnm
          rw [h1, if_pos rfl, if_pos rfl]
        | true =>
          rw [hnm, if_neg (by simp)] at hn
          cases hgr : (decide (x.occ = []) && decide (y.occ = [])) with
          | false => rw [hgr, if_pos rfl] at hn; exact absurd rfl hn
          | true =>
            have h1 : x.occ = [] ∧ y.occ = [] := by simpa using hgr
            rw [occ_app h1.1, occ_app h1.2, hnm, hgr]
    · obtain ⟨x, rfl⟩ := isT_one ht h10
      simp only [appL] at hn ⊢
      by_cases h11 : op = 11
      · rw [if_pos h11] at hn ⊢
        rw [if_pos h11]
        unfold intV at hn ⊢
        by_cases hk : x.kind = 1
        · rw [if_pos hk] at hn; exact absurd rfl hn
        · rw [kind_app hk]
      · rw [if_neg h11] at hn ⊢
        rw [if_neg h11]
        unfold gndV at hn ⊢
        by_cases ho : x.occ = []
        · rw [occ_app ho]
        · rw [if_neg ho] at hn; exact absurd rfl hn
  · have h1 : isT op s l = false := by
      cases h : isT op s l with
      | false => rfl
      | true => exact absurd ⟨(isT_goal h).1, (isT_goal h).2.1⟩ hop
    have h2 : isT op s (appL b l) = false := by
      cases h : isT op s (appL b l) with
      | false => rfl
      | true => exact absurd ⟨(isT_goal h).1, (isT_goal h).2.1⟩ hop
    unfold testV
    rw [h1, h2, hg, hg2]
    rfl
end Go.Proofs.YtgpglgehlnfggaaGreat
