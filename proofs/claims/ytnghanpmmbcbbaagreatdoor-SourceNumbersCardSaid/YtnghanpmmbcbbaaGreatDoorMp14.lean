/-
  SnNumber.
  SwOpen.
-/
import Derived.Test.YtnghanpmmbcbbaaGreatDoorMp13
import Derived.Test.YtnghanpmmbcbbaaGreatDoorMp10
import Derived.Test.YtnghanpmmbcbbaaGreatDoorMp8
import Derived.OpenShut
namespace Go.Proofs.YtnghanpmmbcbbaaGreatDoor
open Go.RowKit
theorem occ_flat {α : Type} {f : α → List Tm} {x : α} {v : Int} (hv : v ∈ occL (f x)) : ∀ {l : List α}, x ∈ l → v ∈ occL (l.flatMap f)
  | y :: r, h => by
    rw [List.flatMap_cons, occL_append, List.mem_append]
    rcases List.mem_cons.1 h with rfl | h
    · exact .inl hv
    · exact .inr (occ_flat hv h)
theorem am_final {l : List Am} {g h : Int → Int} (e : ∀ v ∈ occL (l.flatMap Am.args), g v = h v) : (l.map fun x => x.rr g) = l.map fun x => x.rr h := by
  refine List.map_congr_left fun x hx => ?_
  unfold Am.rr
  rw [rr_like.2 x.args g h fun v hv => e v (occ_flat (f := Am.args) hv hx)]
theorem gl_final {l : List Gl} {g h : Int → Int} (e : ∀ v ∈ occL (l.flatMap Gl.args), g v = h v) : (l.map fun x => x.rr g) = l.map fun x => x.rr h := by
  refine List.map_congr_left fun x hx => ?_
  unfold Gl.rr
  rw [rr_like.2 x.args g h fun v hv => e v (occ_flat (f := Gl.args) hv hx)]
def Rl.n1 (r : Rl) : List Int := addAll [] (occL (r.keep.flatMap Am.args))
def Rl.n2 (r : Rl) : List Int := addAll r.n1 (occL (r.remove.flatMap Am.args))
def Rl.n3 (r : Rl) : List Int := addAll r.n2 (occL (r.guard.flatMap Gl.args))
theorem Rl.n4 (r : Rl) : addAll r.n3 (occL (r.body.flatMap Gl.args)) = r.vs := by
  unfold Rl.n3 Rl.n2 Rl.n1 Rl.vs varsL Rl.ts
  rw [occL_append, occL_append, occL_append, addAll_append, addAll_append, addAll_append]
theorem mem_left {l xs : List Int} {v : Int} (h : v ∈ l) : v ∈ addAll l xs := (mem_addAll _ _ _).2 (.inl h)
theorem mem_right {l xs : List Int} {v : Int} (h : v ∈ xs) : v ∈ addAll l xs := (mem_addAll _ _ _).2 (.inr h)
theorem Rl.key1 (r : Rl) : (r.keep.map fun x => x.rr (placeS r.n1)) = r.keep.map fun x => x.rr (placeS r.vs) := am_final fun v hv => by
  have hm : v ∈ r.n1 := mem_right hv
  rw [← r.n4]
  unfold Rl.n3 Rl.n2
  rw [place_addAll _ _ (mem_left (mem_left hm)), place_addAll _ _ (mem_left hm), place_addAll _ _ hm]
theorem Rl.key2 (r : Rl) : (r.remove.map fun x => x.rr (placeS r.n2)) = r.remove.map fun x => x.rr (placeS r.vs) := am_final fun v hv => by
  have hm : v ∈ r.n2 := mem_right hv
  rw [← r.n4]
  unfold Rl.n3
  rw [place_addAll _ _ (mem_left hm), place_addAll _ _ hm]
theorem Rl.key3 (r : Rl) : (r.guard.map fun x => x.rr (placeS r.n3)) = r.guard.map fun x => x.rr (placeS r.vs) := gl_final fun v hv => by
  have hm : v ∈ r.n3 := mem_right hv
  rw [← r.n4, place_addAll _ _ hm]
theorem Rl.Tiny.sizes {r : Rl} (h : r.Tiny) : ([] : List Int).length + nodesL (r.keep.flatMap Am.args) ≤ 1000000 ∧ r.n1.length + nodesL (r.remove.flatMap Am.args) ≤ 1000000 ∧ r.n2.length + nodesL (r.guard.flatMap Gl.args) ≤ 1000000 ∧ r.n3.length + nodesL (r.body.flatMap Gl.args) ≤ 1000000 := by
  have h0 := h.nodes
  unfold Rl.ts at h0
  rw [nodesL_app, nodesL_app, nodesL_app] at h0
  have e1 : r.n1.length ≤ nodesL (r.keep.flatMap Am.args) := by
    have h1 := addAll_length [] (occL (r.keep.flatMap Am.args))
    have h2 := occ_nodes.2 (r.keep.flatMap Am.args)
    unfold Rl.n1
    simp only [List.length_nil] at h1
    omega
  have e2 : r.n2.length ≤ r.n1.length + nodesL (r.remove.flatMap Am.args) := by
    have h1 := addAll_length r.n1 (occL (r.remove.flatMap Am.args))
    have h2 := occ_nodes.2 (r.remove.flatMap Am.args)
    unfold Rl.n2
    omega
  have e3 : r.n3.length ≤ r.n2.length + nodesL (r.guard.flatMap Gl.args) := by
    have h1 := addAll_length r.n2 (occL (r.guard.flatMap Gl.args))
    have h2 := occ_nodes.2 (r.guard.flatMap Gl.args)
    unfold Rl.n3
    omega
  simp only [List.length_nil]
  omega
structure NSt (w : World) (vs : List Value) (ns : List Int) (W : World) : Prop where
  box : HeldL w.heap.size W vs
  zero : HeldL (w.heap.size + 1) W [.string ⟨#[]⟩, .slice none 0 0, .slice none 0 0, .slice none 0 0, .slice none 0 0, .int .i64 0]
  num : NumM W (w.heap.size + 2) ns
  below : Below w.heap.size w W
theorem NSt.next {w W W' : World} {vs : List Value} {ns ms : List Int} (h : NSt w vs ns W) (k : Keeps (w.heap.size + 2) W W') (hm : NumM W' (w.heap.size + 2) ms) {j : Nat} (hj : j < vs.length) (v : Value) : NSt w (vs.set j v) ms (W'.setCell ⟨w.heap.size, j, none⟩ v) :=
  ⟨(h.box.keeps k (by omega)).set hj v, (h.zero.keeps k (by omega)).other (p := ⟨w.heap.size, j, none⟩) (by show w.heap.size ≠ w.heap.size + 1; omega) v, hm.set (p := ⟨w.heap.size, j, none⟩) (by show w.heap.size ≠ w.heap.size + 2; omega) v, (Keeps.below h.below k (by omega)).setCell (p := ⟨w.heap.size, j, none⟩) (Nat.le_refl _) v⟩
set_option maxHeartbeats 8000000 in
set_option maxRecDepth 100000 in
theorem number_rule_at (r : Rl) (w0 w : World) (h0 : r.At w0) (hw : Below w0.heap.size w0 w) (hs : r.Tiny) :
    Calls Tryz.prog 13 #[r.val] w (RlLies w0 (fun x => x.rr (placeS r.vs)) (fun x => x.rr (placeS r.vs)) { r with vars := (r.vs.length : Int) } w) := by
  have hmm := @run_makeMap Tryz.prog
  have hb0 : w0.heap.size ≤ w.heap.size + 2 := by have := hw.size; omega
  have HV := Lib.hid (And.intro h0.name (show Fits (r.vs.length : Int) by
    have h1 := varsL_len r.ts
    have h2 := hs.nodes
    unfold Fits Rl.vs
    omega))
  have Q1 := Lib.hid (fun (W : World) (hb : Below w.heap.size w W) (hm : NumM W (w.heap.size + 2) []) => num_ams_at w0 hb0 r.keep r.kA r.kc W [] (hw.trans (hb.mono hw.size)) h0.keep hm hs.small.k1 hs.sizes.1)
  have Q2 := Lib.hid (fun (W : World) (hb : Below w.heap.size w W) (hm : NumM W (w.heap.size + 2) r.n1) => num_ams_at w0 hb0 r.remove r.rA r.rc W r.n1 (hw.trans (hb.mono hw.size)) h0.remove hm hs.small.r1 hs.sizes.2.1)
  have Q3 := Lib.hid (fun (W : World) (hb : Below w.heap.size w W) (hm : NumM W (w.heap.size + 2) r.n2) => num_gls_at w0 hb0 r.guard r.gA r.gc W r.n2 (hw.trans (hb.mono hw.size)) h0.guard hm hs.small.g1 hs.sizes.2.2.1)
  have Q4 := Lib.hid (fun (W : World) (hb : Below w.heap.size w W) (hm : NumM W (w.heap.size + 2) r.n3) => num_gls_at w0 hb0 r.body r.bA r.bc W r.n3 (hw.trans (hb.mono hw.size)) h0.body hm hs.small.b1 hs.sizes.2.2.2)
  obtain ⟨X, hX⟩ : ∃ X, ((w.alloc (.cells #[.string r.name, .slice r.kA r.keep.length r.kc, .slice r.rA r.remove.length r.rc, .slice r.gA r.guard.length r.gc, .slice r.bA r.body.length r.bc, .int .i64 r.vars] 25)).alloc (.cells #[.string ⟨#[]⟩, .slice none 0 0, .slice none 0 0, .slice none 0 0, .slice none 0 0, .int .i64 0] 25)).alloc (.map #[] 0) = X := ⟨_, rfl⟩
  have HB := two_boxesL w [.string r.name, .slice r.kA r.keep.length r.kc, .slice r.rA r.remove.length r.rc, .slice r.gA r.guard.length r.gc, .slice r.bA r.body.length r.bc, .int .i64 r.vars] [.string ⟨#[]⟩, .slice none 0 0, .slice none 0 0, .slice none 0 0, .slice none 0 0, .int .i64 0] 25
  have HXs := Lib.hid (show ((w.alloc (.cells #[.string r.name, .slice r.kA r.keep.length r.kc, .slice r.rA r.remove.length r.rc, .slice r.gA r.guard.length r.gc, .slice r.bA r.body.length r.bc, .int .i64 r.vars] 25)).alloc (.cells #[.string ⟨#[]⟩, .slice none 0 0, .slice none 0 0, .slice none 0 0, .slice none 0 0, .int .i64 0] 25)).heap.size = w.heap.size + 2 by simp)
  have H0 := Lib.hid (show NSt w [.string r.name, .slice r.kA r.keep.length r.kc, .slice r.rA r.remove.length r.rc, .slice r.gA r.guard.length r.gc, .slice r.bA r.body.length r.bc, .int .i64 r.vars] [] X from by
    rw [← hX]
    refine ⟨HB.1.below (below1 _ _), HB.2.below (below1 _ _), ?_, (Ext.al2 _ _ _).trans ((below1 _ _).mono (by simp))⟩
    have := World.ownsMap_made ((w.alloc (.cells #[.string r.name, .slice r.kA r.keep.length r.kc, .slice r.rA r.remove.length r.rc, .slice r.gA r.guard.length r.gc, .slice r.bA r.body.length r.bc, .int .i64 r.vars] 25)).alloc (.cells #[.string ⟨#[]⟩, .slice none 0 0, .slice none 0 0, .slice none 0 0, .slice none 0 0, .int .i64 0] 25)) Tryz.prog 3 (plainElem (H := Unit) Tryz.prog 3)
    rw [HXs.out] at this
    exact ⟨_, IntMap.nil, this⟩)
  clear HB h0 hw hb0
  show Calls Tryz.prog 13 #[.agg #[.string r.name, .slice r.kA r.keep.length r.kc, .slice r.rA r.remove.length r.rc, .slice r.gA r.guard.length r.gc, .slice r.bA r.body.length r.bc, .int .i64 r.vars]] w _
  go_enter Tryz.func13, Tryz.ntmps13
  go_upto_region 2 with (fail)
  (try rw [HXs.out])
  (try rw [hX])
  clear hX hmm HXs
  have p1 := H0.out.box.cell 1 _ rfl
  go_wp2_with fail
  refine (Q1.out _ H0.out.below H0.out.num).mono ?_
  rintro e y1 ⟨A1, c1, k1, rfl, hl, hk, hL, hk1, hm1⟩
  have HL1 := Lib.hid (And.intro hl hk)
  have K1 := Lib.hid hk1
  have HM1 := Lib.hid hm1
  have L1z := Lib.hid (LP.low (lo' := w.heap.size + 3) (P := fun W => AmLst W A1 k1 c1) (w := y1) (fun W hW => hL W hW) (by have := H0.out.num.lt; omega))
  have H1 := Lib.hid (H0.out.next K1.out HM1.out (j := 1) (by simp) (.slice A1 r.keep.length c1))
  have L10 := Lib.hid (L1z.out.set (p := ⟨w.heap.size, 1, none⟩) (by show w.heap.size < w.heap.size + 3; omega) (.slice A1 r.keep.length c1))
  have b1 := (H0.out.box.keeps K1.out (by omega))
  have g1 := b1.free 1
  have z1 := b1.lt
  have d1 := b1.cell 1 _ rfl
  clear hl hk hL hk1 hm1 b1 p1 Q1
  have p2 := H1.out.box.cell 2 _ rfl
  go_wp2_with fail
  refine (Q2.out _ H1.out.below H1.out.num).mono ?_
  rintro e y2 ⟨A2, c2, k2, rfl, hl, hk, hL, hk1, hm1⟩
  have HL2 := Lib.hid (And.intro hl hk)
  have K2 := Lib.hid hk1
  have HM2 := Lib.hid hm1
  have L2z := Lib.hid (LP.low (lo' := w.heap.size + 3) (P := fun W => AmLst W A2 k2 c2) (w := y2) (fun W hW => hL W hW) (by have := H1.out.num.lt; omega))
  have H2 := Lib.hid (H1.out.next K2.out HM2.out (j := 2) (by simp) (.slice A2 r.remove.length c2))
  have L11 := Lib.hid ((L10.out.keeps K2.out (by omega)).set (p := ⟨w.heap.size, 2, none⟩) (by show w.heap.size < w.heap.size + 3; omega) (.slice A2 r.remove.length c2))
  have L20 := Lib.hid (L2z.out.set (p := ⟨w.heap.size, 2, none⟩) (by show w.heap.size < w.heap.size + 3; omega) (.slice A2 r.remove.length c2))
  have b2 := (H1.out.box.keeps K2.out (by omega))
  have g2 := b2.free 2
  have z2 := b2.lt
  have d2 := b2.cell 2 _ rfl
  clear hl hk hL hk1 hm1 b2 p2 Q2
  have p3 := H2.out.box.cell 3 _ rfl
  go_wp2_with fail
  refine (Q3.out _ H2.out.below H2.out.num).mono ?_
  rintro e y3 ⟨A3, c3, k3, rfl, hl, hk, hL, hk1, hm1⟩
  have HL3 := Lib.hid (And.intro hl hk)
  have K3 := Lib.hid hk1
  have HM3 := Lib.hid hm1
  have L3z := Lib.hid (LP.low (lo' := w.heap.size + 3) (P := fun W => GlLst W A3 k3 c3) (w := y3) (fun W hW => hL W hW) (by have := H2.out.num.lt; omega))
  have H3 := Lib.hid (H2.out.next K3.out HM3.out (j := 3) (by simp) (.slice A3 r.guard.length c3))
  have L12 := Lib.hid ((L11.out.keeps K3.out (by omega)).set (p := ⟨w.heap.size, 3, none⟩) (by show w.heap.size < w.heap.size + 3; omega) (.slice A3 r.guard.length c3))
  have L21 := Lib.hid ((L20.out.keeps K3.out (by omega)).set (p := ⟨w.heap.size, 3, none⟩) (by show w.heap.size < w.heap.size + 3; omega) (.slice A3 r.guard.length c3))
  have L30 := Lib.hid (L3z.out.set (p := ⟨w.heap.size, 3, none⟩) (by show w.heap.size < w.heap.size + 3; omega) (.slice A3 r.guard.length c3))
  have b3 := (H2.out.box.keeps K3.out (by omega))
  have g3 := b3.free 3
  have z3 := b3.lt
  have d3 := b3.cell 3 _ rfl
  clear hl hk hL hk1 hm1 b3 p3 Q3
  have p4 := H3.out.box.cell 4 _ rfl
  go_wp2_with fail
  refine (Q4.out _ H3.out.below H3.out.num).mono ?_
  rintro e y4 ⟨A4, c4, k4, rfl, hl, hk, hL, hk1, hm1⟩
  have HL4 := Lib.hid (And.intro hl hk)
  have K4 := Lib.hid hk1
  have HM4 := Lib.hid hm1
  have L4z := Lib.hid (LP.low (lo' := w.heap.size + 3) (P := fun W => GlLst W A4 k4 c4) (w := y4) (fun W hW => hL W hW) (by have := H3.out.num.lt; omega))
  have H4 := Lib.hid (H3.out.next K4.out HM4.out (j := 4) (by simp) (.slice A4 r.body.length c4))
  have L13 := Lib.hid ((L12.out.keeps K4.out (by omega)).set (p := ⟨w.heap.size, 4, none⟩) (by show w.heap.size < w.heap.size + 3; omega) (.slice A4 r.body.length c4))
  have L22 := Lib.hid ((L21.out.keeps K4.out (by omega)).set (p := ⟨w.heap.size, 4, none⟩) (by show w.heap.size < w.heap.size + 3; omega) (.slice A4 r.body.length c4))
  have L31 := Lib.hid ((L30.out.keeps K4.out (by omega)).set (p := ⟨w.heap.size, 4, none⟩) (by show w.heap.size < w.heap.size + 3; omega) (.slice A4 r.body.length c4))
  have L40 := Lib.hid (L4z.out.set (p := ⟨w.heap.size, 4, none⟩) (by show w.heap.size < w.heap.size + 3; omega) (.slice A4 r.body.length c4))
  have b4 := (H3.out.box.keeps K4.out (by omega))
  have g4 := b4.free 4
  have z4 := b4.lt
  have d4 := b4.cell 4 _ rfl
  clear hl hk hL hk1 hm1 b4 p4 Q4
  have hM4 := H4.out.num
  rw [r.n4] at hM4
  obtain ⟨D, hD, hMp⟩ := hM4
  have HD := Lib.hid hD
  have HMp := Lib.hid hMp
  have hDs : Maps.size D = r.vs.length := hD.2.1
  have f5 := H4.out.box.free 5
  have hz5 := H4.out.box.lt
  have d5 := H4.out.box.cell 5 _ rfl
  have H5 := Lib.hid (H4.out.next (Keeps.refl _ _) H4.out.num (j := 5) (by simp) (.int .i64 (r.vs.length : Int)))
  have p0 := H5.out.box.cell 0 _ rfl
  have p1 := H5.out.box.cell 1 _ rfl
  have p2 := H5.out.box.cell 2 _ rfl
  have p3 := H5.out.box.cell 3 _ rfl
  have p4 := H5.out.box.cell 4 _ rfl
  have p5 := H5.out.box.cell 5 _ rfl
  have q0 := H5.out.zero.cell 0 _ rfl
  have q1 := H5.out.zero.cell 1 _ rfl
  have q2 := H5.out.zero.cell 2 _ rfl
  have q3 := H5.out.zero.cell 3 _ rfl
  have q4 := H5.out.zero.cell 4 _ rfl
  have q5 := H5.out.zero.cell 5 _ rfl
  have f10 := H5.out.zero.free 0
  have f11 := H5.out.zero.free 1
  have f12 := H5.out.zero.free 2
  have f13 := H5.out.zero.free 3
  have f14 := H5.out.zero.free 4
  have f15 := H5.out.zero.free 5
  have hz1 := H5.out.zero.lt
  have HB5 := Lib.hid H5.out.below
  clear hD hMp
  go_wp2_with (at_len; refine wpList_len_own _ rfl _ 79 rfl 3 3 Tryz.underlying79 _ (w.heap.size + 2) r.vs.length D rfl HMp.out ?_; rw [hDs])
  refine bodyPost_ret (v := .agg #[.string r.name, .slice A1 r.keep.length c1, .slice A2 r.remove.length c2, .slice A3 r.guard.length c3, .slice A4 r.body.length c4, .int .i64 (r.vs.length : Int)]) (by simp [results, Tryz.results13, go_sem, q0, q1, q2, q3, q4, q5]) rfl ?_
  refine ⟨⟨r.name, A1, c1, k1, A2, c2, k2, A3, c3, k3, A4, c4, k4, (r.vs.length : Int)⟩, by rw [← HL1.out.1, ← HL2.out.1, ← HL3.out.1, ← HL4.out.1], ⟨rfl, rfl, HL1.out.1, by rw [HL1.out.2, ← r.key1]; rfl, HL2.out.1, by rw [HL2.out.2, ← r.key2]; rfl, HL3.out.1, by rw [HL3.out.2, ← r.key3]; rfl, HL4.out.1, by rw [HL4.out.2, r.n4]⟩, fun W _ hA => ⟨HV.out.1, ((LP.set (LP.set (LP.set (LP.set (LP.set (LP.set (L13.out.set (p := ⟨w.heap.size, 5, none⟩) (by show w.heap.size < w.heap.size + 3; omega) (.int .i64 (r.vs.length : Int))) (p := ⟨w.heap.size + 1, 0, none⟩) (by show w.heap.size + 1 < w.heap.size + 3; omega) _) (p := ⟨w.heap.size + 1, 1, none⟩) (by show w.heap.size + 1 < w.heap.size + 3; omega) _) (p := ⟨w.heap.size + 1, 2, none⟩) (by show w.heap.size + 1 < w.heap.size + 3; omega) _) (p := ⟨w.heap.size + 1, 3, none⟩) (by show w.heap.size + 1 < w.heap.size + 3; omega) _) (p := ⟨w.heap.size + 1, 4, none⟩) (by show w.heap.size + 1 < w.heap.size + 3; omega) _) (p := ⟨w.heap.size + 1, 5, none⟩) (by show w.heap.size + 1 < w.heap.size + 3; omega) _) W fun b' h1 h2 h3 => hA b' (by omega) h2 h3), ((LP.set (LP.set (LP.set (LP.set (LP.set (LP.set (L22.out.set (p := ⟨w.heap.size, 5, none⟩) (by show w.heap.size < w.heap.size + 3; omega) (.int .i64 (r.vs.length : Int))) (p := ⟨w.heap.size + 1, 0, none⟩) (by show w.heap.size + 1 < w.heap.size + 3; omega) _) (p := ⟨w.heap.size + 1, 1, none⟩) (by show w.heap.size + 1 < w.heap.size + 3; omega) _) (p := ⟨w.heap.size + 1, 2, none⟩) (by show w.heap.size + 1 < w.heap.size + 3; omega) _) (p := ⟨w.heap.size + 1, 3, none⟩) (by show w.heap.size + 1 < w.heap.size + 3; omega) _) (p := ⟨w.heap.size + 1, 4, none⟩) (by show w.heap.size + 1 < w.heap.size + 3; omega) _) (p := ⟨w.heap.size + 1, 5, none⟩) (by show w.heap.size + 1 < w.heap.size + 3; omega) _) W fun b' h1 h2 h3 => hA b' (by omega) h2 h3), ((LP.set (LP.set (LP.set (LP.set (LP.set (LP.set (L31.out.set (p := ⟨w.heap.size, 5, none⟩) (by show w.heap.size < w.heap.size + 3; omega) (.int .i64 (r.vs.length : Int))) (p := ⟨w.heap.size + 1, 0, none⟩) (by show w.heap.size + 1 < w.heap.size + 3; omega) _) (p := ⟨w.heap.size + 1, 1, none⟩) (by show w.heap.size + 1 < w.heap.size + 3; omega) _) (p := ⟨w.heap.size + 1, 2, none⟩) (by show w.heap.size + 1 < w.heap.size + 3; omega) _) (p := ⟨w.heap.size + 1, 3, none⟩) (by show w.heap.size + 1 < w.heap.size + 3; omega) _) (p := ⟨w.heap.size + 1, 4, none⟩) (by show w.heap.size + 1 < w.heap.size + 3; omega) _) (p := ⟨w.heap.size + 1, 5, none⟩) (by show w.heap.size + 1 < w.heap.size + 3; omega) _) W fun b' h1 h2 h3 => hA b' (by omega) h2 h3), ((LP.set (LP.set (LP.set (LP.set (LP.set (LP.set (L40.out.set (p := ⟨w.heap.size, 5, none⟩) (by show w.heap.size < w.heap.size + 3; omega) (.int .i64 (r.vs.length : Int))) (p := ⟨w.heap.size + 1, 0, none⟩) (by show w.heap.size + 1 < w.heap.size + 3; omega) _) (p := ⟨w.heap.size + 1, 1, none⟩) (by show w.heap.size + 1 < w.heap.size + 3; omega) _) (p := ⟨w.heap.size + 1, 2, none⟩) (by show w.heap.size + 1 < w.heap.size + 3; omega) _) (p := ⟨w.heap.size + 1, 3, none⟩) (by show w.heap.size + 1 < w.heap.size + 3; omega) _) (p := ⟨w.heap.size + 1, 4, none⟩) (by show w.heap.size + 1 < w.heap.size + 3; omega) _) (p := ⟨w.heap.size + 1, 5, none⟩) (by show w.heap.size + 1 < w.heap.size + 3; omega) _) W fun b' h1 h2 h3 => hA b' (by omega) h2 h3), HV.out.2⟩, (((((HB5.out.setCell (p := ⟨w.heap.size + 1, 0, none⟩) (Nat.le_succ _) _).setCell (p := ⟨w.heap.size + 1, 1, none⟩) (Nat.le_succ _) _).setCell (p := ⟨w.heap.size + 1, 2, none⟩) (Nat.le_succ _) _).setCell (p := ⟨w.heap.size + 1, 3, none⟩) (Nat.le_succ _) _).setCell (p := ⟨w.heap.size + 1, 4, none⟩) (Nat.le_succ _) _).setCell (p := ⟨w.heap.size + 1, 5, none⟩) (Nat.le_succ _) _⟩
end Go.Proofs.YtnghanpmmbcbbaaGreatDoor
namespace Go.Proofs.YtnghanpmmbcbbaaGreatDoor
open Go.ChangeShapes Go.WideShapes Go.RowKit
set_option maxRecDepth 100000 in
theorem open_gls {H : Type} {enc : TypeId × Value → H} {W : World} {base : Nat} {spare : Nat → Bool} {held : Bool} {r : Reach} {b0 : Nat} {v : Value} {d : DataW H} {p : List MemPlace} (hv : Value.okWide Tryz.prog W r b0 23 v) (h : DataW.Trod enc Tryz.prog W base spare held 23 v d p) :
    ∃ (A : Option Addr) (l : List Gl) (c : Nat), v = .slice A l.length c ∧ GlLst W A l c := by
  obtain ⟨a, len, cap, rfl⟩ := okWide_slice Tryz.underlying23 hv
  obtain ⟨fuel, hf⟩ := h
  exact gls_of hf
end Go.Proofs.YtnghanpmmbcbbaaGreatDoor
