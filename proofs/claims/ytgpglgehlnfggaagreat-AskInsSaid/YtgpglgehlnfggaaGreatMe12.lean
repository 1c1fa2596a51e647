/-
  UnAddL.
  UnOrdP.
  UnJoin.
-/
import Derived.Test.YtgpglgehlnfggaaGreatMe11
import Derived.Test.YtgpglgehlnfggaaGreatMe8
import Derived.BigQuiet
import Derived.Deep.QuietTactic
import Derived.Deep.RegionLaw
import Derived.Deep.AppendLies
import Derived.Deep.RegionHeld3
import Derived.Deep.LoopGhost
namespace Go.Proofs.YtgpglgehlnfggaaGreat
open Go.RowKit
def AddR (lo : Nat) (Y : Nat → Prop) (p mb : Nat) (z : Value) (G : List Nd) (t : Tm) (w : World) (e : Ending) (w' : World) : Prop :=
  ∃ (z' : Value) (G' : List Nd) (i : Nat), e = .returned (.int .i64 (i : Nat)) ∧ Gadd lo Y w' p mb z' G' ∧ (∃ N, G' = G ++ N) ∧ (∀ j, G.length ≤ j → j < G'.length → OkAt G' j ∧ (nd G' j).next = j) ∧ i < G'.length ∧ (nd G' i).tm.strip = t.strip ∧ G'.length ≤ G.length + t.nodes ∧
    AddFr p mb z w w' ∧ (z'.ownBlock = z.ownBlock ∨ ∀ b, z'.ownBlock = some b → w.heap.size ≤ b)
def AddLoop (lo : Nat) (Y : Nat → Prop) (p mb : Nat) (z : Value) (G : List Nd) (a : List Tm) (g : Nat) (w : World) (j : Nat) (wr : World) : Prop :=
  ∃ (z' : Value) (G' : List Nd) (ks : List Nat), Gadd lo (fun k => Y k ∨ k = g) wr p mb z' G' ∧ (∃ N, G' = G ++ N) ∧ (∀ m, G.length ≤ m → m < G'.length → OkAt G' m ∧ (nd G' m).next = m) ∧ ks.length = j ∧
    (∀ m, m < j → ks.getD m 0 < G'.length ∧ (nd G' (ks.getD m 0)).tm.strip = (a.getD m default).strip) ∧ G'.length ≤ G.length + nodesL (a.take j) ∧
    wr.ownsRow lo 3 1 (.slice (some ⟨g, 0, none⟩) a.length a.length) a.length ((ks.map fun i => Value.int .i64 (i : Nat)) ++ List.replicate (a.length - j) (Value.int .i64 0)) ∧
    AddFr p mb z w wr ∧ (z'.ownBlock = z.ownBlock ∨ ∀ b, z'.ownBlock = some b → w.heap.size ≤ b) ∧ z'.ownBlock ≠ some g
theorem nodesL_next {l : List Tm} {j : Nat} (h : j < l.length) : nodesL (l.take (j + 1)) = nodesL (l.take j) + (l.getD j default).nodes := by
  rw [ttake_next h, nodesL_append]; simp [nodesL]
theorem nodesL_take (l : List Tm) (k : Nat) : nodesL (l.take k) ≤ nodesL l := by
  have := nodesL_append (l.take k) (l.drop k)
  rw [List.take_append_drop] at this
  omega
theorem addloop_next {lo : Nat} {Y : Nat → Prop} {p mb : Nat} {z z' z2 : Value} {G G' G2 : List Nd} {a : List Tm} {g j i : Nat} {ks : List Nat} {w wr wb w2 : World} (hj : j < a.length) (hgp : g ≠ p) (hgm : g ≠ mb) (hgw0 : w.heap.size ≤ g)
    (h2 : ∃ N, G' = G ++ N) (h3 : ∀ m, G.length ≤ m → m < G'.length → OkAt G' m ∧ (nd G' m).next = m) (h4 : ks.length = j)
    (h5 : ∀ m, m < j → ks.getD m 0 < G'.length ∧ (nd G' (ks.getD m 0)).tm.strip = (a.getD m default).strip) (h6 : G'.length ≤ G.length + nodesL (a.take j))
    (h7 : wr.ownsRow lo 3 1 (.slice (some ⟨g, 0, none⟩) a.length a.length) a.length ((ks.map fun i => Value.int .i64 (i : Nat)) ++ List.replicate (a.length - j) (Value.int .i64 0)))
    (h8 : AddFr p mb z w wr) (h9 : z'.ownBlock = z.ownBlock ∨ ∀ b, z'.ownBlock = some b → w.heap.size ≤ b) (h10 : z'.ownBlock ≠ some g) (hb : Below wr.heap.size wr wb)
    (k1 : Gadd lo (fun k => Y k ∨ k = g) w2 p mb z2 G2) (k2 : ∃ N, G2 = G' ++ N) (k3 : ∀ m, G'.length ≤ m → m < G2.length → OkAt G2 m ∧ (nd G2 m).next = m) (k4 : i < G2.length) (k5 : (nd G2 i).tm.strip = (a.getD j default).strip) (k6 : G2.length ≤ G'.length + (a.getD j default).nodes)
    (k7 : AddFr p mb z' wb w2) (k8 : z2.ownBlock = z'.ownBlock ∨ ∀ b, z2.ownBlock = some b → wb.heap.size ≤ b) : AddLoop lo Y p mb z G a g w (j + 1) (w2.setCell ⟨g, j, none⟩ (.int .i64 (i : Nat))) := by
  obtain ⟨N, rfl⟩ := h2
  obtain ⟨M, rfl⟩ := k2
  have hgw : g < wr.heap.size := own_block_lt h7
  have hg2 : z2.ownBlock ≠ some g := by
    rcases k8 with k8 | k8
    · rw [k8]; exact h10
    · intro e; have := k8 g e; have := hb.size; omega
  have hrow2 : w2.ownsRow lo 3 1 (.slice (some ⟨g, 0, none⟩) a.length a.length) a.length ((ks.map fun i => Value.int .i64 (i : Nat)) ++ List.replicate (a.length - j) (Value.int .i64 0)) :=
    k7.row (own_below h7 hb) fun b e => by
      have : g = b := by simpa [Value.ownBlock] using e
      subst this
      exact ⟨hgp, hgm, h10⟩
  have hs := (World.ownsRow.stored hrow2 j (.int .i64 (i : Nat))).1
  have hset : ((ks.map fun i => Value.int .i64 (i : Nat)) ++ List.replicate (a.length - j) (Value.int .i64 0)).set j (.int .i64 (i : Nat)) = (((ks ++ [i]).map fun i => Value.int .i64 (i : Nat)) ++ List.replicate (a.length - (j + 1)) (Value.int .i64 0)) := by
    rw [List.set_append_right _ _ (by simp [h4]), List.length_map, h4, Nat.sub_self, show a.length - j = (a.length - (j + 1)) + 1 by omega, List.replicate_succ, List.set_cons_zero, List.map_append, List.append_assoc]
    rfl
  rw [hset] at hs
  have hfr : AddFr p mb z w w2 := by
    refine (h8.trans (AddFr.of (z := z') hb) h9).trans k7 h9
  have hzz : z2.ownBlock = z.ownBlock ∨ ∀ b, z2.ownBlock = some b → w.heap.size ≤ b := by
    rcases k8 with k8 | k8
    · rw [k8]; exact h9
    · exact .inr fun b e => by have := k8 b e; have := hb.size; have := h8.size; omega
  refine ⟨z2, (G ++ N) ++ M, ks ++ [i], k1.fill (.inr rfl) hgp hgm hg2 _, ⟨N ++ M, by simp⟩, fun m m1 m2 => ?_, by simp [h4], fun m hm => ?_, ?_, hs, ?_, hzz, hg2⟩
  · by_cases hm : m < (G ++ N).length
    · have := h3 m m1 hm
      exact ⟨this.1.left hm, by rw [nd_left hm]; exact this.2⟩
    · exact k3 m (by omega) m2
  · by_cases h : m < j
    · have e : (ks ++ [i]).getD m 0 = ks.getD m 0 := by simp [List.getD, List.getElem?_append_left (show m < ks.length by omega)]
      have := h5 m h
      rw [e, nd_left this.1]
      exact ⟨by rw [List.length_append]; omega, this.2⟩
    · obtain rfl : m = j := by omega
      have e : (ks ++ [i]).getD m 0 = i := by simp [List.getD, ← h4]
      rw [e]
      exact ⟨k4, k5⟩
  · rw [nodesL_next hj]
    omega
  · exact ⟨hfr.os, hfr.tape, hfr.output, by simpa [World.setCell] using hfr.size, fun b q1 q2 q3 q4 => (Below.heap_setCell _ _ _ _ (fun e => by have : b = g := e; omega)).trans (hfr.block b q1 q2 q3 q4)⟩
theorem zero_int (w : World) : (zeroValue 3).run Tryz.prog w = .ok (.int .i64 0) w := by kernel_rfl
theorem look_var {w : World} {mb c : Nat} {D : DataW Unit} {G : List Nd} (h : w.ownsMap Tryz.prog 3 (plainElem Tryz.prog 3) mb c D) (hv : VMap D G) {n : Int} (hf : Fits n) :
    (∃ i, i < G.length ∧ (nd G i).tm.kind = 1 ∧ (nd G i).tm.num = n ∧ (Instr.lookup 92 (.map (some mb)) (.int .i64 n) true).run Tryz.prog w = .ok (.tuple #[.int .i64 (i : Nat), .bool true]) w) ∨
    (Maps.has D (KL n) = false ∧ ∃ v, (Instr.lookup 92 (.map (some mb)) (.int .i64 n) true).run Tryz.prog w = .ok (.tuple #[.int .i64 v, .bool false]) w) := by
  have hw0 : (Lit.int .i64 0).wf = true := by decide
  obtain ⟨v, ps, hrun, hR⟩ := World.ownsMap.look_ok h keyed Tryz.underlying92 (zero_int w) (plainElem_int Tryz.underlying3 hw0) (Maps.keyOf_int_mk Tryz.underlying3 (fits_wf hf))
  obtain ⟨x, rfl, hx, _⟩ := plainElem_int_inv Tryz.underlying3 hR
  cases hh : Maps.has D (KL n)
  · rw [show Maps.has D (.int .i64 n) = false from hh] at hrun
    exact .inr ⟨rfl, x, hrun⟩
  · rw [show Maps.has D (.int .i64 n) = true from hh] at hrun
    obtain ⟨i, h1, h2, h3⟩ := hv.2.1 n hh
    have h4 := (hv.2.2 i h1 h2).2 (.lit (KL 0))
    rw [h3] at h4
    have hx1 : D.atKey (.int .i64 n) (.lit (.int .i64 0)) = .lit (.int .i64 x) := congrArg Prod.fst hx
    rw [show D.atKey (.int .i64 n) (.lit (.int .i64 0)) = .lit (KL (i : Nat)) from h4] at hx1
    have hxi : x = (i : Int) := by
      simp only [DataW.lit.injEq, Lit.int.injEq, true_and] at hx1
      exact hx1.symm
    subst hxi
    exact .inl ⟨i, h1, h2, h3, hrun⟩
theorem add_done {lo : Nat} {Y : Nat → Prop} {p mb g : Nat} {z z1 : Value} {G : List Nd} {x : Nd} {w w4 wr : World} (h : AddLoop lo Y p mb z1 (G ++ [x]) x.tm.args g w4 x.tm.args.length wr) (hform : x.tm.form = true) (hnx : x.next = G.length)
    (hfr : AddFr p mb z w w4) (hz1 : z1.ownBlock = z.ownBlock ∨ ∀ b, z1.ownBlock = some b → w.heap.size ≤ b) (hgp : g ≠ p) (hgm : g ≠ mb) (hgl : lo ≤ g) (hgY : ¬ Y g) (hsz : G.length + x.tm.nodes ≤ 1000000) :
    ∃ q n cap, wr.cell? ⟨p, 0, none⟩ = some (.slice (some ⟨q, 0, none⟩) n cap) ∧ G.length < n ∧ n ≤ 1000000 ∧ (∃ v, wr.cell? ⟨q, G.length * 6 + 4, none⟩ = some v) ∧ wr.frozen? ⟨q, G.length * 6 + 4, none⟩ = false ∧
      AddR lo Y p mb z G x.tm w (.returned (.int .i64 (G.length : Nat))) (wr.setCell ⟨q, G.length * 6 + 4, none⟩ (.slice (some ⟨g, 0, none⟩) x.tm.args.length x.tm.args.length)) := by
  obtain ⟨z', G', ks, k1, ⟨N, rfl⟩, k3, k4, k5, k6, k7, k8, k9, k10⟩ := h
  have hlen : G.length < ((G ++ [x]) ++ N).length := by simp
  obtain ⟨q, cap, rfl, hq1, hq2, _⟩ := k1.g.form (by omega)
  have hn : nd ((G ++ [x]) ++ N) G.length = x := by rw [nd_left (by simp), nd_new]
  have hx4 := (k1.g.cells hlen).2.2.2.2.1
  have hgq : q ≠ g := fun e => k10 (by rw [e]; rfl)
  have hnod : x.tm.nodes = 1 + nodesL x.tm.args := by cases x.tm; rfl
  have hall : x.tm.args.take x.tm.args.length = x.tm.args := List.take_length
  have hkl : ks.length ≤ 1000000 := by have := length_le_nodes x.tm.args; omega
  rw [k4.symm, Nat.sub_self] at k7
  simp only [List.replicate_zero, List.append_nil] at k7
  have hga := gadd_args (i := G.length) k1.less hlen k7 rfl hkl hgl hgY hgp hgm hgq
  rw [hn, k4] at hga
  rw [hall] at k6
  refine ⟨q, _, cap, k1.g.hdr, hlen, k1.g.small, ⟨_, hx4⟩, k1.g.free _, _, _, G.length, rfl, hga, ⟨{ x with A := some ⟨g, 0, none⟩, cap := x.tm.args.length, kids := ks } :: N, ?_⟩, fun j h1 h2 => ?_, by simp, ?_, ?_, ?_, ?_⟩
  · rw [List.append_assoc, List.set_append_right _ _ (Nat.le_refl _), Nat.sub_self]
    rfl
  · rw [List.length_set] at h2
    by_cases hj : j = G.length
    · subst hj
      have e : nd (((G ++ [x]) ++ N).set G.length { x with A := some ⟨g, 0, none⟩, cap := x.tm.args.length, kids := ks }) G.length = { x with A := some ⟨g, 0, none⟩, cap := x.tm.args.length, kids := ks } := by rw [nd_set _ _ _ _ hlen, if_pos rfl]
      refine ⟨⟨by rw [e]; exact hform, by rw [e]; exact k4, fun m hm => ?_⟩, by rw [e]; exact hnx⟩
      rw [e] at hm ⊢
      have hk := k5 m (by rw [← k4]; exact hm)
      rw [List.length_set, nd_set _ _ _ _ hlen]
      refine ⟨hk.1, ?_⟩
      split
      · rename_i e2
        have := hk.2
        rw [e2, hn] at this
        exact this
      · exact hk.2
    · have := k3 j (by simp; omega) h2
      refine ⟨this.1.set hlen hj (by rw [hn]), ?_⟩
      rw [nd_set _ _ _ _ hlen, if_neg hj]
      exact this.2
  · rw [nd_set _ _ _ _ hlen, if_pos rfl]
  · rw [List.length_set, hnod]
    simp only [List.length_append, List.length_cons, List.length_nil] at k6 ⊢
    omega
  · have := hfr.trans k8 hz1
    refine ⟨this.os, this.tape, this.output, by simpa [World.setCell] using this.size, fun b q1 q2 q3 q4 => (Below.heap_setCell _ _ _ _ (fun e => ?_)).trans (this.block b q1 q2 q3 q4)⟩
    have e' : b = q := e
    rcases k9 with k9 | k9
    · rcases hz1 with hz1 | hz1
      · exact q4 (by rw [← hz1, ← k9, e']; rfl)
      · have := hz1 q (by rw [← k9]; rfl); omega
    · have := k9 q rfl
      have := hfr.size
      omega
  · rcases k9 with k9 | k9
    · rw [k9]; exact hz1
    · exact .inr fun b e => by have := k9 b e; have := hfr.size; omega
end Go.Proofs.YtgpglgehlnfggaaGreat
namespace Go.Proofs.YtgpglgehlnfggaaGreat
open Go
def sumTo (f : Nat → Nat) : Nat → Nat
  | 0 => 0
  | n + 1 => sumTo f n + f n
theorem sumTo_congr {f g : Nat → Nat} {n : Nat} (h : ∀ j, j < n → f j = g j) : sumTo f n = sumTo g n := by
  induction n with
  | zero => rfl
  | succ n ih => simp only [sumTo]; rw [ih fun j hj => h j (by omega), h n (by omega)]
theorem sumTo_zero {f : Nat → Nat} {n : Nat} : sumTo f n = 0 ↔ ∀ j, j < n → f j = 0 := by
  induction n with
  | zero => simp [sumTo]
  | succ n ih =>
    simp only [sumTo]
    constructor
    · intro h j hj
      by_cases e : j = n
      · subst e; omega
      · exact ih.1 (by omega) j (by omega)
    · intro h
      rw [ih.2 fun j hj => h j (by omega), h n (by omega)]
theorem sumTo_except {f g : Nat → Nat} {k n : Nat} (hk : k < n) (h : ∀ j, j < n → j ≠ k → f j = g j) : sumTo f n + g k = sumTo g n + f k := by
  induction n with
  | zero => omega
  | succ n ih =>
    simp only [sumTo]
    by_cases e : k = n
    · subst e
      rw [sumTo_congr fun j hj => h j (by omega) (by omega)]
      omega
    · have := ih (by omega) fun j hj => h j (by omega)
      rw [h n (by omega) (by omega)]
      omega
theorem sumTo_le {f : Nat → Nat} {n B : Nat} (h : ∀ j, j < n → f j ≤ B) : sumTo f n ≤ n * B := by
  induction n with
  | zero => simp [sumTo]
  | succ n ih =>
    have h1 := ih fun j hj => h j (by omega)
    have h2 := h n (by omega)
    simp only [sumTo]
    rw [Nat.succ_mul]
    omega
def uses (G : List Nd) (root : Nat → Nat) (v j : Nat) : Nat := ((nd G j).kids.map root).count v
theorem uses_le (G : List Nd) (root : Nat → Nat) (v j : Nat) : uses G root v j ≤ (nd G j).kids.length := by
  unfold uses
  have := List.count_le_length (a := v) (l := (nd G j).kids.map root)
  simpa using this
theorem uses_pos {G : List Nd} {root : Nat → Nat} {v j : Nat} : uses G root v j ≠ 0 ↔ ∃ c ∈ (nd G j).kids, root c = v := by
  unfold uses
  rw [Ne, List.count_eq_zero, Decidable.not_not, List.mem_map]
def left (G : List Nd) (root : Nat → Nat) (done : List Nat) (v : Nat) : Nat := sumTo (fun j => if j ∈ done then 0 else uses G root v j) G.length
theorem left_next {G : List Nd} {root : Nat → Nat} {done : List Nat} {i v : Nat} (hi : i < G.length) (hn : i ∉ done) : left G root (done ++ [i]) v + uses G root v i = left G root done v := by
  unfold left
  have := sumTo_except (f := fun j => if j ∈ done ++ [i] then 0 else uses G root v j) (g := fun j => if j ∈ done then 0 else uses G root v j) hi fun j _ hj => by simp [hj]
  simp only [hn, if_false, List.mem_append, List.mem_singleton, or_true, if_true, Nat.add_zero] at this
  simp only [List.mem_append, List.mem_singleton]
  exact this
structure Ordering (G : List Nd) (root : Nat → Nat) (ord : List Nat) (at_ : Nat) (rest : List Nat) (us : List Nat) : Prop where
  nodup : ord.Nodup
  lt : ∀ i ∈ ord, i < G.length
  len : us.length = G.length
  cnt : ∀ v, v < G.length → us.getD v 0 = left G root (ord.take at_) v + rest.count v
  mem : ∀ v, v < G.length → (v ∈ ord ↔ us.getD v 0 = 0)
  pre : ∀ s, s < ord.length → ∀ j, j < G.length → uses G root (ord.getD s 0) j ≠ 0 → j ∈ ord.take s
section
variable {G : List Nd} {root : Nat → Nat} {ord rest us : List Nat} {at_ : Nat}
theorem nat_getD_mem {l : List Nat} {i : Nat} (h : i < l.length) : l.getD i 0 ∈ l := by
  simp only [List.getD, List.getElem?_eq_getElem h, Option.getD_some]
  exact List.getElem_mem h
theorem nat_take_next {l : List Nat} {i : Nat} (h : i < l.length) : l.take (i + 1) = l.take i ++ [l.getD i 0] := by
  rw [List.take_succ_eq_append_getElem h]
  simp [List.getD, List.getElem?_eq_getElem h]
theorem nodup_take {l : List Nat} (h : l.Nodup) {i : Nat} (hi : i < l.length) : l.getD i 0 ∉ l.take i := by
  intro hm
  obtain ⟨j, hj, e⟩ := List.mem_iff_getElem.1 hm
  rw [List.length_take] at hj
  rw [List.getElem_take] at e
  have e2 : l.getD i 0 = l[i] := by simp [List.getD, List.getElem?_eq_getElem hi]
  rw [e2] at e
  have := (List.getElem_inj h).1 e
  omega
theorem Ordering.start (h : Ordering G root ord at_ [] us) (ha : at_ < ord.length) : Ordering G root ord (at_ + 1) ((nd G (ord.getD at_ 0)).kids.map root) us := by
  refine ⟨h.nodup, h.lt, h.len, fun v hv => ?_, h.mem, h.pre⟩
  have h1 := left_next (G := G) (root := root) (done := ord.take at_) (v := v) (h.lt _ (nat_getD_mem ha)) (nodup_take h.nodup ha)
  rw [← nat_take_next ha] at h1
  rw [h.cnt v hv, List.count_nil, ← h1]
  rfl
theorem count_cons' (x v : Nat) (l : List Nat) : (x :: l).count v = (if x = v then 1 else 0) + l.count v := by
  rw [List.count_cons]
  by_cases h : x = v
  · simp [h, Nat.add_comm]
  · simp [h]
theorem Ordering.down {x : Nat} (h : Ordering G root ord at_ (x :: rest) us) (hx : x < G.length) :
    us.getD x 0 ≠ 0 ∧ (us.getD x 0 ≠ 1 → Ordering G root ord at_ rest (us.set x (us.getD x 0 - 1))) ∧
    (us.getD x 0 = 1 → at_ ≤ ord.length → Ordering G root (ord ++ [x]) at_ rest (us.set x (us.getD x 0 - 1))) := by
  have hxl : x < us.length := by rw [h.len]; exact hx
  have hne : us.getD x 0 ≠ 0 := by
    rw [h.cnt x hx, count_cons', if_pos rfl]
    omega
  have hset : ∀ v, (us.set x (us.getD x 0 - 1)).getD v 0 = if v = x then us.getD x 0 - 1 else us.getD v 0 := fun v => by
    by_cases e : v = x
    · subst e; simp [List.getD, hxl]
    · rw [if_neg e]; simp [List.getD, Ne.symm e]
  have hus : ∀ v, v < G.length → (us.set x (us.getD x 0 - 1)).getD v 0 = left G root (ord.take at_) v + rest.count v := fun v hv => by
    rw [hset]
    have h1 := h.cnt v hv
    rw [count_cons'] at h1
    by_cases e : v = x
    · subst e
      rw [if_pos rfl] at h1 ⊢
      omega
    · rw [if_neg (Ne.symm e)] at h1
      rw [if_neg e]
      omega
  have hxo : x ∉ ord := fun hm => hne ((h.mem x hx).1 hm)
  refine ⟨hne, fun h1 => ⟨h.nodup, h.lt, by rw [List.length_set]; exact h.len, hus, fun v hv => ?_, h.pre⟩, fun h1 ha => ?_⟩
  · rw [hset]
    by_cases e : v = x
    · subst e
      rw [if_pos rfl]
      exact ⟨fun hm => absurd hm hxo, fun h2 => by omega⟩
    · rw [if_neg e]; exact h.mem v hv
  · have htk : (ord ++ [x]).take at_ = ord.take at_ := List.take_append_of_le_length ha
    refine ⟨?_, fun i hi => ?_, by rw [List.length_set]; exact h.len, fun v hv => by rw [htk]; exact hus v hv, fun v hv => ?_, fun s hs j hj hu => ?_⟩
    · rw [List.nodup_append]
      refine ⟨h.nodup, by simp, fun y hy z hz e => ?_⟩
      rw [List.mem_singleton.1 hz] at e
      exact hxo (e ▸ hy)
    · rcases List.mem_append.1 hi with hi | hi
      · exact h.lt i hi
      · rw [List.mem_singleton.1 hi]; exact hx
    · rw [hset]
      by_cases e : v = x
      · subst e
        rw [if_pos rfl]
        exact ⟨fun _ => by omega, fun _ => by simp⟩
      · rw [if_neg e, ← h.mem v hv]
        simp [e]
    · by_cases hs2 : s < ord.length
      · have e : (ord ++ [x]).getD s 0 = ord.getD s 0 := by simp [List.getD, List.getElem?_append_left hs2]
        rw [e] at hu
        rw [List.take_append_of_le_length (by omega)]
        exact h.pre s hs2 j hj hu
      · obtain rfl : s = ord.length := by simp at hs; omega
        have e : (ord ++ [x]).getD ord.length 0 = x := by simp [List.getD]
        rw [e] at hu
        rw [List.take_append_of_le_length (Nat.le_refl _), List.take_length]
        -- nothing is left of x
        have h2 := hus x hx
        rw [hset, if_pos rfl] at h2
        have h3 : left G root (ord.take at_) x = 0 := by omega
        unfold left at h3
        have h4 := sumTo_zero.1 h3 j hj
        split at h4
        · rename_i hm; exact List.mem_of_mem_take hm
        · exact absurd h4 hu
theorem Ordering.bound (h : Ordering G root ord at_ rest us) {B : Nat} (hB : ∀ j, j < G.length → (nd G j).kids.length ≤ B) {v : Nat} (hv : v < G.length) : us.getD v 0 ≤ G.length * B + rest.length := by
  rw [h.cnt v hv]
  have h1 : left G root (ord.take at_) v ≤ G.length * B := sumTo_le fun j hj => by
    have := uses_le G root v j
    have := hB j hj
    split <;> omega
  have h2 := List.count_le_length (a := v) (l := rest)
  omega
theorem nodup_sub : ∀ (l m : List Nat), l.Nodup → (∀ x ∈ l, x ∈ m) → l.length ≤ m.length := by
  intro l
  induction l with
  | nil => intro m _ _; exact Nat.zero_le _
  | cons x r ih =>
    intro m h hs
    have hp := List.nodup_cons.1 h
    have hx := hs x (by simp)
    have h1 := ih (m.erase x) hp.2 fun y hy => by
      have hne : y ≠ x := fun e => hp.1 (e ▸ hy)
      exact (List.mem_erase_of_ne hne).2 (hs y (by simp [hy]))
    have h2 := List.length_erase_of_mem hx
    have h3 := List.length_pos_of_mem hx
    simp only [List.length_cons]
    omega
theorem pigeon : ∀ (n : Nat) (l : List Nat), l.Nodup → (∀ i ∈ l, i < n) → l.length ≤ n ∧ (l.length = n → ∀ v, v < n → v ∈ l) := by
  intro n
  induction n with
  | zero =>
    intro l _ hl
    cases l with
    | nil => exact ⟨Nat.le_refl _, fun _ v hv => absurd hv (Nat.not_lt_zero _)⟩
    | cons x r => exact absurd (hl x (by simp)) (Nat.not_lt_zero _)
  | succ n ih =>
    intro l h hl
    by_cases hn : n ∈ l
    · have h1 := ih (l.erase n) (h.erase n) fun i hi => by
        have := (h.mem_erase_iff.1 hi)
        have := hl i this.2
        omega
      have h2 := List.length_erase_of_mem hn
      have h3 : 0 < l.length := List.length_pos_of_mem hn
      refine ⟨by omega, fun e v hv => ?_⟩
      by_cases hvn : v = n
      · rw [hvn]; exact hn
      · exact List.mem_of_mem_erase (h1.2 (by omega) v (by omega))
    · have h1 := ih l h fun i hi => by
        have := hl i hi
        have : i ≠ n := fun e => hn (e ▸ hi)
        omega
      exact ⟨by omega, fun e => by omega⟩
theorem Ordering.ranked (h : Ordering G root ord ord.length [] us) (hn : ord.length = G.length) (hl : ∀ i, i < G.length → root i < G.length ∧ root (root i) = root i) (hok : Ok G) : Ranked G root (fun v => G.length - ord.idxOf v) (G.length + 1) := by
  have hall : ∀ v, v < G.length → v ∈ ord := fun v hv => by
    rw [h.mem v hv, h.cnt v hv, List.take_length, List.count_nil, Nat.add_zero]
    refine sumTo_zero.2 fun j hj => ?_
    split
    · rfl
    · rename_i hm
      exfalso
      exact hm ((pigeon _ _ h.nodup h.lt).2 hn j hj)
  intro i hi
  refine ⟨by show G.length - _ < _; omega, fun c hc => ?_⟩
  have hri := (hl i hi).1
  have hcl := (hok _ hri).mem hc
  have hrc := (hl c hcl).1
  have hm := hall _ hrc
  have hs := List.idxOf_lt_length_of_mem hm
  have hg : ord.getD (ord.idxOf (root c)) 0 = root c := by simp [List.getD, List.getElem?_eq_getElem hs]
  have hu : uses G root (ord.getD (ord.idxOf (root c)) 0) (root i) ≠ 0 := by rw [hg]; exact uses_pos.2 ⟨c, hc, rfl⟩
  have hp := h.pre _ hs (root i) hri hu
  have hlt : ord.idxOf (root i) < ord.idxOf (root c) := by
    obtain ⟨j, hj, e⟩ := List.mem_iff_getElem.1 hp
    rw [List.length_take] at hj
    rw [List.getElem_take] at e
    have : ord.idxOf (root i) = j := by rw [← e]; exact h.nodup.idxOf_getElem j (by omega)
    omega
  show G.length - ord.idxOf (root c) < G.length - ord.idxOf (root i)
  omega
theorem Ordering.circle (h : Ordering G root ord ord.length [] us) (hn : ord.length < G.length) (hok : Ok G) {f : Int → Tm} (hs : ∀ i j, i < G.length → j < G.length → root i = root j → ndv f G i = ndv f G j) (hl : ∀ i, i < G.length → root i < G.length ∧ root (root i) = root i) : False := by
  have hne : (List.range G.length).filter (fun v => decide (v ∉ ord)) ≠ [] := fun e => by
    have hsub : ∀ i, i < G.length → i ∈ ord := fun i hi => by
      apply Classical.byContradiction
      intro hm
      have : i ∈ (List.range G.length).filter (fun v => decide (v ∉ ord)) := List.mem_filter.2 ⟨List.mem_range.2 hi, by simpa using hm⟩
      rw [e] at this
      cases this
    have := nodup_sub (List.range G.length) ord List.nodup_range fun i hi => hsub i (List.mem_range.1 hi)
    simp at this
    omega
  refine no_growth (fun v => (ndv f G v).nodes) hne fun u hu => ?_
  obtain ⟨hu1, hu2⟩ := List.mem_filter.1 hu
  have hul := List.mem_range.1 hu1
  have huo : u ∉ ord := by simpa using hu2
  have h1 : us.getD u 0 ≠ 0 := fun e => huo ((h.mem u hul).2 e)
  rw [h.cnt u hul, List.take_length, List.count_nil, Nat.add_zero] at h1
  have h2 : ∃ j, j < G.length ∧ j ∉ ord ∧ uses G root u j ≠ 0 := by
    apply Classical.byContradiction
    intro hc
    refine h1 (sumTo_zero.2 fun j hj => ?_)
    split
    · rfl
    · rename_i hm
      apply Classical.byContradiction
      intro h3
      exact hc ⟨j, hj, hm, h3⟩
  obtain ⟨j, hj, hjo, huj⟩ := h2
  obtain ⟨c, hc, e⟩ := uses_pos.1 huj
  refine ⟨j, List.mem_filter.2 ⟨List.mem_range.2 hj, by simpa using hjo⟩, ?_⟩
  have hcl := (hok j hj).mem hc
  have hkn : (nd G j).tm.kind ≠ 1 := fun hk => by
    rw [(hok j hj).var hk] at hc
    cases hc
  have e1 : ndv f G u = ndv f G c := hs u c hul hcl (by rw [← e]; exact (hl c hcl).2)
  show (ndv f G u).nodes < (ndv f G j).nodes
  rw [e1]
  exact ndv_lt (hok j hj) hkn hc
end
end Go.Proofs.YtgpglgehlnfggaaGreat
namespace Go.Proofs.YtgpglgehlnfggaaGreat
open Go.RowKit
theorem Alike.len {G H : List Nd} (h : Alike G H) : H.length = G.length := h.1
def ocells (l : List (Nat × Nat)) : List Value := l.flatMap fun p => [.int .i64 (p.1 : Nat), .int .i64 (p.2 : Nat)]
theorem ocells_len (l : List (Nat × Nat)) : (ocells l).length = l.length * 2 := by
  induction l with
  | nil => rfl
  | cons t r ih => simp only [ocells, List.flatMap_cons, List.length_append, List.length_cons, List.length_nil] at *; omega
theorem ocells_append (l m : List (Nat × Nat)) : ocells (l ++ m) = ocells l ++ ocells m := by simp [ocells]
theorem pair_info : (Tryz.prog.info? 137).map (fun i => (i.zero, i.size, i.bytes)) = some (some (.agg #[.int .i64 0, .int .i64 0]), 2, 16) := by kernel_rfl
theorem orow_last {w : World} {base o c m : Nat} {op1 : List (Nat × Nat)} {x y : Nat} (hm : m = op1.length) (h : w.ownsRow base 137 2 (.slice (some ⟨o, 0, none⟩) (m + 1) c) (m + 1) (ocells (op1 ++ [(x, y)]))) :
    w.cell? ⟨o, m * 2, none⟩ = some (.int .i64 (x : Nat)) ∧ w.cell? ⟨o, m * 2 + 1, none⟩ = some (.int .i64 (y : Nat)) ∧ w.ownsRow base 137 2 (.slice (some ⟨o, 0, none⟩) m c) m (ocells op1) ∧ base ≤ o ∧ o < w.heap.size ∧ m + 1 ≤ c ∧ c ≤ maxLen := by
  have hl := ocells_len op1
  have e : ∀ j, (ocells (op1 ++ [(x, y)]))[op1.length * 2 + j]? = ([.int .i64 (x : Nat), .int .i64 (y : Nat)] : List Value)[j]? := fun j => by
    rw [ocells_append, List.getElem?_append_right (by omega), hl, show op1.length * 2 + j - op1.length * 2 = j by omega]
    rfl
  have h0 := World.ownsRow.cellAt h (m * 2) (by omega)
  have h1 := World.ownsRow.cellAt h (m * 2 + 1) (by omega)
  rw [hm] at h0 h1
  rw [e 1] at h1
  rw [show op1.length * 2 = op1.length * 2 + 0 by omega, e 0] at h0
  refine ⟨by rw [hm]; exact h0, by rw [hm]; exact h1, ?_⟩
  rcases h.2 with ⟨h', _⟩ | ⟨g', cap', cur, h', hb, hg, hle, hcm, hcs, htake⟩
  · simp at h'
  · simp only [Value.slice.injEq, Option.some.injEq, Addr.mk.injEq, and_true, true_and] at h'
    obtain ⟨rfl, rfl⟩ := h'
    refine ⟨⟨by rw [hl, hm], .inr ⟨o, c, cur, rfl, hb, hg, by omega, hcm, hcs, ?_⟩⟩, hb, (own_lt h o rfl).2, hle, hcm⟩
    have := congrArg (List.take (m * 2)) htake
    rw [List.take_take, Nat.min_eq_left (by omega), ocells_append] at this
    rw [this, List.take_append_of_le_length (by omega)]
    exact List.take_of_length_le (by omega)
theorem Gph.renew {lo p : Nat} {X : Nat → Prop} {z : Value} {G H : List Nd} {w0 w w' : World} {row : Option Nat} (h0 : Gph lo X w0 p z G) (hal : Alike G H) (h : Gph lo X w p z H) (k0 : w0.grownBy w' z.ownBlock) (k : w.grownBy w' row) (hz : z.ownBlock = none ∨ z.ownBlock ≠ row) : Gph lo X w' p z H := by
  refine ⟨(fr_cell k0 h0.lt (fun e => h0.np e.symm)).trans h0.hdr, World.ownsRow.kept h.row k hz, fun i hi => ?_, h.np, h.fine, h.small⟩
  rw [hal.len] at hi
  have h1 := (h0.kids i hi).fr k0 fun b hb _ => .inl hb
  obtain ⟨x, hx⟩ := hal.2 i hi
  rw [hx]
  exact h1.next x
theorem fr_grow {a w w' : World} {row row2 : Option Nat} (h : a.grownBy w row) (k : w.grownBy w' row2) (hr : ∀ b, row2 = some b → a.heap.size ≤ b) : a.grownBy w' row :=
  ⟨k.os.trans h.os, k.tape.trans h.tape, k.output.trans h.output, Nat.le_trans h.size k.size, fun i hi hne => (k.block i (Nat.lt_of_lt_of_le hi h.size) (fun e => by have := hr i e.symm; omega)).trans (h.block i hi hne)⟩
def Pushing (lo : Nat) (X : Nat → Prop) (p : Nat) (z : Value) (H : List Nd) (op1 zs : List (Nat × Nat)) (w : World) (v : Value) (n j : Nat) (wr : World) : Prop :=
  Gph lo X wr p z H ∧ w.grownBy wr z.ownBlock ∧ wr.ownsRow w.heap.size 137 2 v n (ocells (op1 ++ zs.take j))
theorem pnews (w : World) (x y : Value) (T : TypeId) : ∀ j v, ([x, y] : List Value)[j]? = some v → (w.alloc (.cells #[x, y] T)).cell? ((⟨w.heap.size, 0, none⟩ : Addr).add j) = some v := by
  intro j v hv
  rw [add_plain, Nat.zero_add, World.cell?_alloc_at _ _ _ _ rfl, ← hv, show (#[x, y] : Array Value) = [x, y].toArray from rfl, List.getElem?_toArray]
theorem pairs_one (x y : Nat) : ∀ v ∈ ([.int .i64 (x : Nat), .int .i64 (y : Nat)] : List Value), v.oneCell' = true := by
  intro v hv
  simp only [List.mem_cons, List.not_mem_nil, or_false] at hv
  rcases hv with rfl | rfl <;> rfl
theorem zip_next {l m : List Nat} {j : Nat} (h1 : j < l.length) (h2 : j < m.length) : (l.zip m).take (j + 1) = (l.zip m).take j ++ [(l.getD j 0, m.getD j 0)] := by
  rw [List.take_succ_eq_append_getElem (by rw [List.length_zip]; omega)]
  simp [List.getD, h1, h2]
theorem pushing_next {lo p : Nat} {X : Nat → Prop} {z : Value} {G H : List Nd} {op1 : List (Nat × Nat)} {l m : List Nat} {w wr w8 : World} {A : Option Addr} {c n j g cp : Nat} {T : TypeId} (h0 : Gph lo X w p z G) (hal : Alike G H)
    (hzn : ∀ k, z.ownBlock = some k → k < w.heap.size) (h : Pushing lo X p z H op1 (l.zip m) w (.slice A n c) n j wr) (h1 : j < l.length) (h2 : j < m.length)
    (hown : w8.ownsRow w.heap.size 137 2 (.slice (some ⟨g, 0, none⟩) (n + 1) cp) (n + 1) (ocells (op1 ++ (l.zip m).take j) ++ [.int .i64 (l.getD j 0 : Nat), .int .i64 (m.getD j 0 : Nat)]))
    (hg : (wr.alloc (.cells #[.int .i64 (l.getD j 0 : Nat), .int .i64 (m.getD j 0 : Nat)] T)).grownBy w8 (Value.slice A n c).ownBlock) : Pushing lo X p z H op1 (l.zip m) w (.slice (some ⟨g, 0, none⟩) (n + 1) cp) (n + 1) (j + 1) w8 := by
  have hlt := own_lt h.2.2
  have hg1 := fr_alloc h.2.1 (.cells #[.int .i64 (l.getD j 0 : Nat), .int .i64 (m.getD j 0 : Nat)] T)
  have hg2 : w.grownBy w8 z.ownBlock := fr_grow hg1 hg fun k hk => (hlt k hk).1
  refine ⟨Gph.renew h0 hal (h.1.alloc _) hg2 hg ?_, hg2, ?_⟩
  · cases hz : z.ownBlock with
    | none => exact .inl rfl
    | some k =>
      refine .inr fun e => ?_
      have := (hlt k e.symm).1
      have := hzn k hz
      omega
  · rw [zip_next h1 h2, ← List.append_assoc, ocells_append]
    exact hown
def Joining (lo : Nat) (X : Nat → Prop) (p q cap : Nat) (G : List Nd) (E : List (Nat × Nat)) (w : World) (gk : Nat) (v : Value) (op : List (Nat × Nat)) (wr : World) : Prop :=
  ∃ H root r, Alike G H ∧ UF H root r ∧ Gph lo X wr p (.slice (some ⟨q, 0, none⟩) G.length cap) H ∧ w.grownBy wr (some q) ∧ wr.ownsRow w.heap.size 137 2 v op.length (ocells op) ∧ Mid G root op E ∧ Tops G root ∧ gk = op.length + wtOf G root G.length ∧ gk ≤ 1000003000000
def Joined (lo : Nat) (X : Nat → Prop) (p : Nat) (z : Value) (G : List Nd) (E : List (Nat × Nat)) (w : World) (e : Ending) (w' : World) : Prop :=
  ∃ H, Alike G H ∧ Gph lo X w' p z H ∧ w.grownBy w' z.ownBlock ∧ ((e = .returned (.bool true) ∧ ∃ root r, UF H root r ∧ Mid G root [] E ∧ Tops G root) ∨ (e = .returned (.bool false) ∧ ∀ f, ¬ ∀ p ∈ E, ndv f G p.1 = ndv f G p.2))
theorem wt_le {G : List Nd} {root : Nat → Nat} {K : Nat} (h : ∀ i, i < G.length → (nd G i).kids.length ≤ K) : ∀ n, n ≤ G.length → wtOf G root n ≤ n * (K + 1) := by
  intro n
  induction n with
  | zero => intro _; simp [wtOf]
  | succ n ih =>
    intro hn
    have h1 := ih (by omega)
    have h2 := h n (by omega)
    have e : (n + 1) * (K + 1) = n * (K + 1) + (K + 1) := Nat.succ_mul n (K + 1)
    rw [e]
    simp only [wtOf]
    by_cases hr : root n = n
    · rw [if_pos hr]; omega
    · rw [if_neg hr]; omega
theorem undrew_fr {w w' : World} {row : Option Nat} (h : w.drew.grownBy w' row) : w.grownBy w' row := ⟨h.os, h.tape, h.output, h.size, h.block⟩
theorem find_to {lo : Nat} {X : Nat → Prop} {p : Nat} {z : Value} {G : List Nd} {root r : Nat → Nat} {i j : Nat} {w : World} (h : Gph lo X w p z G) (hu : UF G root r) (hi : i < G.length) (hj : root i = j) :
    Calls Tryz.prog 159 #[.pointer (some ⟨p, 0, none⟩), .int .i64 (i : Nat)] w fun e w' => ∃ H, e = .returned (.int .i64 (j : Nat)) ∧ Alike G H ∧ UF H root r ∧ Gph lo X w' p z H ∧ w.grownBy w' z.ownBlock ∧ w'.heap.size = w.heap.size := by
  subst hj
  exact ufind_at h hu hi
set_option maxHeartbeats 4000000 in
set_option maxRecDepth 100000 in
theorem join_at {lo : Nat} {X : Nat → Prop} {p : Nat} {z : Value} {G : List Nd} {root r : Nat → Nat} {E : List (Nat × Nat)} {a b : Nat} {w : World} (h : Gph lo X w p z G) (hu : UF G root r) (hm : Mid G root [] E) (ht : Tops G root) (hok : Ok G) (ha : a < G.length) (hb : b < G.length) :
    Calls Tryz.prog 133 #[.pointer (some ⟨p, 0, none⟩), .int .i64 (a : Nat), .int .i64 (b : Nat)] w (Joined lo X p z G (E ++ [(a, b)]) w) := by
  obtain ⟨q, cap, rfl, hq, hqs, _⟩ := h.form (by omega)
  obtain ⟨i0, hi0, hz0, hz1, hz2⟩ := info_parts pair_info
  have hsm := h.small
  have hwt : wtOf G root G.length ≤ 1000001000000 := by have := wt_le (root := root) (fun i hi => (h.fine i hi).kids) G.length (Nat.le_refl _); omega
  have H0 := Lib.hid (show Joining lo X p q cap G (E ++ [(a, b)]) w (1 + wtOf G root G.length) (.slice (some ⟨w.heap.size, 0, none⟩) 1 1) [(a, b)] (w.alloc (.cells #[.int .i64 (a : Nat), .int .i64 (b : Nat)] 137)) from
    ⟨G, root, r, Alike.refl _, hu, h.alloc _, fr_alloc (fr_refl _ _) _, World.ownsRow_lit w _ 1 (Nat.le_refl _) (by decide) rfl, hm.push ha hb, ht, rfl, by omega⟩)
  have HOK := Lib.hid hok
  have HW0 := Lib.hid h
  have hpw := h.lt
  clear h hu hm ht hok ha hb
  generalize E ++ [(a, b)] = E2 at *
  generalize 1 + wtOf G root G.length = g0 at *
  clear hwt
  go_enter Tryz.func133, Tryz.ntmps133
  go_wp2_with fail
  go_loopg [7] g0 (fun gk s7 wr => ∃ (A : Option Addr) (c : Nat) (op : List (Nat × Nat)), s7 = .slice A op.length c ∧ Hid (Joining lo X p q cap G E2 w gk (.slice A op.length c) op wr))
  case atStart => exact ⟨_, 1, [(a, b)], rfl, H0⟩
  case round =>
    clear H0
    obtain ⟨A, c, op, rfl, HF⟩ := hrel
    rcases List.eq_nil_or_concat op with rfl | ⟨op1, ⟨x, y⟩, rfl⟩
    · obtain ⟨H, root, r, e1, e2, e3, e4, e5, e6, e7, e8, e9⟩ := HF.out
      have HE := Lib.hid (show Joined lo X p (.slice (some ⟨q, 0, none⟩) G.length cap) G E2 w (.returned (.bool true)) wr from ⟨H, e1, e3, e4, .inl ⟨rfl, root, r, e2, e6, e7⟩⟩)
      clear e1 e2 e3 e4 e5 e6 e7 e8 e9 HF
      go_wp2_with fail
      go_ret
      exact HE.out
    · rw [List.concat_eq_append] at HF ⊢
      obtain ⟨m, hmm⟩ : ∃ m, m = op1.length := ⟨_, rfl⟩
      have hlen : (op1 ++ [(x, y)]).length = m + 1 := by rw [hmm]; simp
      rw [hlen] at HF ⊢
      obtain ⟨H, root, r, e1, e2, e3, e4, e5, e6, e7, e8, e9⟩ := HF.out
      rw [hlen] at e5 e8
      obtain ⟨o, c1, hv, ho, hos⟩ : ∃ o c1, (Value.slice A (m + 1) c) = .slice (some ⟨o, 0, none⟩) (m + 1) c1 ∧ w.heap.size ≤ o ∧ o < wr.heap.size := by
        rcases e5.2 with ⟨_, h'⟩ | ⟨g', cap', cur, h', hb, hg, _⟩
        · omega
        · exact ⟨g', cap', h', hb, (own_lt (h' ▸ e5) g' rfl).2⟩
      injection hv with hv1 _ hv2
      subst hv1 hv2
      obtain ⟨o0, o1, HP, _, _, hc1, hc2⟩ := orow_last hmm e5
      have hmb : m ≤ 1000003000000 := by omega
      have hxy := e6.bd (x, y) (by simp)
      have hxH : x < H.length := by rw [e1.1]; exact hxy.1
      have hyH : y < H.length := by rw [e1.1]; exact hxy.2
      obtain ⟨rx, hrx⟩ : ∃ rx, root x = rx := ⟨_, rfl⟩
      obtain ⟨ry, hry⟩ : ∃ ry, root y = ry := ⟨_, rfl⟩
      have QX := Lib.hid (fun W (hW : Gph lo X W p (.slice (some ⟨q, 0, none⟩) G.length cap) H) => find_to hW e2 hxH hrx)
      have QY := Lib.hid (fun W H' (hW : Gph lo X W p (.slice (some ⟨q, 0, none⟩) G.length cap) H') (hu' : UF H' root r) (hl : H'.length = H.length) => find_to hW hu' (show y < H'.length by rw [hl]; exact hyH) hry)
      have HRX := Lib.hid hrx
      have HRY := Lib.hid hry
      have HMM := Lib.hid hmm
      have HR0 := Lib.hid e4
      have HM0 := Lib.hid e6
      have HT0 := Lib.hid e7
      have HK0 := Lib.hid (show gk = m + 1 + wtOf G root G.length ∧ gk ≤ 1000003000000 from ⟨e8, e9⟩)
      have hrxn : rx < G.length := by rw [← hrx, ← e1.1]; exact (e2.root_lt x hxH).1
      have hryn : ry < G.length := by rw [← hry, ← e1.1]; exact (e2.root_lt y hyH).1
      clear hrx hry
      have HG := Lib.hid e3
      have HL := Lib.hid e1
      have HO := Lib.hid HP
      have hoq : o ≠ q := by omega
      have hm1 : (0 : Int) ≤ (m : Int) := by omega
      have hm2 : (m : Int) < (m : Int) + 1 := by omega
      have hm3 : (m : Int) ≤ (m : Int) + 1 := by omega
      have hmax : c ≤ 9223372036854775807 := by unfold maxLen at hc2; exact hc2
      clear e1 e2 e3 e4 e5 e6 e7 e8 e9 hmm hlen HP hxy hxH hyH hc2
      go_wp2_with fail
      go_region_held3 (fun W => W.cell? ⟨o, m * 2, none⟩ = some (.int .i64 (x : Nat)) ∧ W.cell? ⟨o, m * 2 + 1, none⟩ = some (.int .i64 (y : Nat))) (first | exact ⟨o0, o1⟩ | exact ⟨p0, p1⟩ | exact ⟨s0, s1⟩) (first
        | (go_at_call 159; (with_reducible refine (QX.out _ HG.out.drew).mono ?_); rintro e w2 ⟨H1, rfl, hal1, huf1, hg1, hfr1, hsz1⟩; have p0 := (fr_cell hfr1 (p := ⟨o, m * 2, none⟩) hos (by simp [Value.ownBlock]; omega)).trans o0; have p1 := (fr_cell hfr1 (p := ⟨o, m * 2 + 1, none⟩) hos (by simp [Value.ownBlock]; omega)).trans o1; have HG1 := Lib.hid hg1; have HA1 := Lib.hid hal1; have HU1 := Lib.hid huf1; have HF1 := Lib.hid (show wr.grownBy w2 (some q) from undrew_fr hfr1); have HS1 := Lib.hid (show w2.heap.size = wr.heap.size from hsz1); clear hg1 hal1 huf1 hfr1 hsz1)
        | (go_at_call 159; (with_reducible refine (QY.out _ _ HG1.out HU1.out HA1.out.len).mono ?_); rintro e w3 ⟨H2, rfl, hal2, huf2, hg2, hfr2, hsz2⟩; have s0 := (fr_cell hfr2 (p := ⟨o, m * 2, none⟩) (by have := HS1.out; show o < w2.heap.size; rw [this]; exact hos) (by simp [Value.ownBlock]; omega)).trans p0; have s1 := (fr_cell hfr2 (p := ⟨o, m * 2 + 1, none⟩) (by have := HS1.out; show o < w2.heap.size; rw [this]; exact hos) (by simp [Value.ownBlock]; omega)).trans p1; have HG2 := Lib.hid hg2; have HA2 := Lib.hid hal2; have HU2 := Lib.hid huf2; have HF2 := Lib.hid (show w2.grownBy w3 (some q) from hfr2); have HS2 := Lib.hid hsz2; clear hg2 hal2 huf2 hfr2 hsz2))
      have HA := Lib.hid ((HL.out.trans HA1.out).trans HA2.out)
      have HR3 := Lib.hid (fr_trans (fr_trans HR0.out HF1.out) HF2.out)
      have HO3 := Lib.hid (World.ownsRow.kept (World.ownsRow.kept HO.out HF1.out (.inr (by simp [Value.ownBlock]; omega))) HF2.out (.inr (by simp [Value.ownBlock]; omega)))
      have hos3 : o < w3.heap.size := by have h1 := HS1.out; have h2 := HS2.out; omega
      clear HG HL HO HG1 HA1 HU1 HF1 HA2 HF2 HS1 HS2 o0 o1 p0 p1 s0 s1 QX QY HR0 HF
      by_cases hxy : rx = ry
      · subst hxy
        have HE := Lib.hid (show Joining lo X p q cap G E2 w (gk - 1) (.slice (some ⟨o, 0, none⟩) op1.length c) op1 w3 from by
          have hb := HM0.out.bd (x, y) (by simp)
          rw [← HMM.out]
          exact ⟨H2, root, r, HA.out, HU2.out, HG2.out, HR3.out, HMM.out ▸ HO3.out, HM0.out.pop (a := x) (b := y) (fun p hp => by
            rcases List.mem_append.1 hp with hp | hp
            · exact .inr hp
            · exact .inl (List.mem_singleton.1 hp)) (fun p hp => List.mem_append.2 (.inl hp)) hb.1 hb.2 (by rw [HRX.out, HRY.out]), HT0.out, by have := HK0.out.1; rw [← HMM.out]; omega, by have := HK0.out.2; omega⟩)
        have hgk : gk - 1 < gk := by have := HK0.out.1; omega
        have hee : ((rx : Int) == (rx : Int)) = true := by simp
        go_wp2_with fail
        go_roundg (gk - 1)
        case rel => exact ⟨some ⟨o, 0, none⟩, c, op1, by rw [← HMM.out], HE⟩
        case measure => exact hgk
      · have hee : ((rx : Int) == (ry : Int)) = false := by simp; omega
        have hL2 : H2.length = G.length := HA.out.len
        have QR := Lib.hid (fun W (hW : Gph lo X W p (.slice (some ⟨q, 0, none⟩) G.length cap) H2) => remains_at hW (show ry < H2.length by omega) (show rx < H2.length by omega))
        obtain ⟨i, k, hik⟩ : ∃ i k, (remB (nd H2 ry).tm (nd H2 rx).tm = true ∧ i = ry ∧ k = rx) ∨ (remB (nd H2 ry).tm (nd H2 rx).tm = false ∧ i = rx ∧ k = ry) := by
          cases h : remB (nd H2 ry).tm (nd H2 rx).tm
          · exact ⟨rx, ry, .inr ⟨rfl, rfl, rfl⟩⟩
          · exact ⟨ry, rx, .inl ⟨rfl, rfl, rfl⟩⟩
        have HIK := Lib.hid (show (i = root x ∧ k = root y) ∨ (i = root y ∧ k = root x) by
          rw [HRX.out, HRY.out]
          rcases hik with ⟨_, h1, h2⟩ | ⟨_, h1, h2⟩
          · exact .inr ⟨h1, h2⟩
          · exact .inl ⟨h1, h2⟩)
        have HREM := Lib.hid (show (nd G i).tm.kind = 1 → (nd G k).tm.kind = 1 ∧ (nd G i).tm.num ≤ (nd G k).tm.num by
          rw [(HA.out.tm hryn).1, (HA.out.tm hrxn).1] at hik
          intro h1
          unfold remB at hik
          rcases hik with ⟨h, rfl, rfl⟩ | ⟨h, rfl, rfl⟩
          · split at h
            · rename_i h2; exact ⟨h2.2, by simp at h; omega⟩
            · simp [h1] at h
          · split at h
            · rename_i h2; exact ⟨h2.1, by simp at h; omega⟩
            · rename_i h2
              simp at h
              exact absurd ⟨h, h1⟩ h2)
        have hin : i < G.length := by rcases hik with ⟨_, rfl, _⟩ | ⟨_, rfl, _⟩ <;> assumption
        have hkn : k < G.length := by rcases hik with ⟨_, _, rfl⟩ | ⟨_, _, rfl⟩ <;> assumption
        have hne : i ≠ k := by rcases hik with ⟨_, rfl, rfl⟩ | ⟨_, rfl, rfl⟩ <;> omega
        have HRI := Lib.hid (show root i = i ∧ root k = k by
          have h1 := (HU2.out.root_lt x (by have := (HM0.out.bd (x, y) (by simp)).1; omega)).2
          have h2 := (HU2.out.root_lt y (by have := (HM0.out.bd (x, y) (by simp)).2; omega)).2
          rw [HRX.out] at h1
          rw [HRY.out] at h2
          rcases hik with ⟨_, rfl, rfl⟩ | ⟨_, rfl, rfl⟩
          · exact ⟨h2, h1⟩
          · exact ⟨h1, h2⟩)
        have HRL := Lib.hid (show ∀ j, j < G.length → root j < G.length ∧ root (root j) = root j from fun j hj => by
          have := HU2.out.root_lt j (by omega)
          rw [hL2] at this
          exact this)
        have HWT := Lib.hid (wt_union (G := G) HRI.out.1 HRI.out.2 hne G.length)
        clear HRX HRY
        rcases hik with ⟨hrb, rfl, rfl⟩ | ⟨hrb, rfl, rfl⟩
        all_goals
          rw [hrb] at QR
          clear hrb
          go_wp2_with fail
          refine (QR.out _ HG2.out).mono ?_
          rintro e w4 ⟨rfl, hb4⟩
          have HG4 := Lib.hid (HG2.out.below hb4)
          have HR4 := Lib.hid (fr_trans HR3.out (fr_below hb4 (some q)))
          have HO4 := Lib.hid (own_below HO3.out hb4)
          have hos4 : o < w4.heap.size := Nat.lt_of_lt_of_le hos3 hb4.size
          have c0 := HG4.out.hdr
          have hkH : k < H2.length := by omega
          have c5 := (HG4.out.cells hkH).2.2.2.2.2
          have fz := HG4.out.free (k * 6 + 5)
          obtain ⟨nx, hnx⟩ : ∃ nx, nx = (nd H2 k).next := ⟨_, rfl⟩
          rw [← hnx] at c5
          obtain ⟨H5, hH5⟩ : ∃ H5, H5 = H2.set k { nd H2 k with next := i } := ⟨_, rfl⟩
          have hg5 := HG4.out.setNext (k := i) hkH
          rw [← hH5] at hg5
          have ha5 : Alike G H5 := by rw [hH5]; exact HA.out.trans (Alike.set hkH i)
          have hu5 := HU2.out.union (i := i) (k := k) (by omega) hkH HRI.out.1 HRI.out.2 hne
          rw [← hH5] at hu5
          have HG5 := Lib.hid hg5
          have HA5 := Lib.hid ha5
          have HU5 := Lib.hid hu5
          have HR5 := Lib.hid (fr_set (p := ⟨q, k * 6 + 5, none⟩) HR4.out rfl (.int .i64 (i : Nat)))
          have HO5 := Lib.hid (World.ownsRow.kept HO4.out (fr_set (p := ⟨q, k * 6 + 5, none⟩) (fr_refl w4 (some q)) rfl (.int .i64 (i : Nat))) (.inr (by simp [Value.ownBlock]; omega)))
          have hkH5 : k < H5.length := by rw [ha5.len]; exact hkn
          have hiH5 : i < H5.length := by rw [ha5.len]; exact hin
          have g0 := hg5.hdr
          obtain ⟨k0, k1, k2, k3, k4, _⟩ := hg5.cells hkH5
          obtain ⟨j0, j1, j2, j3, j4, _⟩ := hg5.cells hiH5
          rw [(ha5.tm hkn).1] at k0 k1 k2 k3
          rw [(ha5.tm hin).1] at j0 j1 j2 j3
          rw [(ha5.tm hkn).2.1, (ha5.tm hkn).2.2.1, (ha5.tm hkn).2.2.2] at k4
          rw [(ha5.tm hin).2.1, (ha5.tm hin).2.2.1, (ha5.tm hin).2.2.2] at j4
          clear hg5 ha5 hu5 HG4 HR4 HO4 HG2 HA HR3 HO3 HU2 hnx hH5 hb4 QR hos3 hkH hee hxy hL2 hkH5 hiH5
          by_cases hkk : (nd G k).tm.kind = 1
          · have hk1 : ((nd G k).tm.kind == 1) = true := by simpa using hkk
            have HW := Lib.hid HWT.out
            rw [if_pos hkn] at HW
            have HE := Lib.hid (show Joining lo X p q cap G E2 w (m + wtOf G (mergeR root i k) G.length) (.slice (some ⟨o, 0, none⟩) op1.length c) op1 (w4.setCell ⟨q, k * 6 + 5, none⟩ (.int .i64 (i : Nat))) from by
              have hu := HM0.out.union (a := x) (b := y) (i := i) (k := k) (op' := op1) HOK.out HT0.out (by simp) HRL.out HIK.out hne HREM.out (fun p hp => by
                rcases List.mem_append.1 hp with hp | hp
                · exact .inr hp
                · exact .inl (List.mem_singleton.1 hp)) (fun p hp => .inl (List.mem_append.2 (.inl hp))) (fun h => absurd hkk h)
              rw [← HMM.out]
              exact ⟨H5, _, _, HA5.out, HU5.out, HG5.out, HR5.out, HMM.out ▸ HO5.out, hu.1, hu.2, by rw [← HMM.out], by have := HK0.out; have := HW.out; omega⟩)
            have hgk : m + wtOf G (mergeR root i k) G.length < gk := by have := HK0.out.1; have := HW.out; omega
            clear HW HWT
            go_wp2_with fail
            go_roundg (m + wtOf G (mergeR root i k) G.length)
            case rel => exact ⟨some ⟨o, 0, none⟩, c, op1, by rw [← HMM.out], HE⟩
            case measure => exact hgk
          · have hk1 : ((nd G k).tm.kind == 1) = false := by simpa using hkk
            have hki : (nd G i).tm.kind ≠ 1 := fun h => hkk (HREM.out h).1
            have HSL := Lib.hid (show headB (nd G i).tm (nd G k).tm = true ↔ SameLab G i k by
              rw [headB_iff]
              unfold SameLab
              rw [(HOK.out i hin).len, (HOK.out k hkn).len]
              exact ⟨fun h => ⟨⟨h.1, h.2.1, h.2.2.1⟩, h.2.2.2⟩, fun h => ⟨h.1.1, h.1.2.1, h.1.2.2, h.2⟩⟩)
            have QS := Lib.hid (fun W => same_functor_at (nd G i).tm (nd G k).tm W)
            obtain ⟨w5, hw5⟩ : ∃ w5, w5 = w4.setCell ⟨q, k * 6 + 5, none⟩ (.int .i64 (i : Nat)) := ⟨_, rfl⟩
            cases hh : headB (nd G i).tm (nd G k).tm
            · rw [hh] at QS HSL
              have HE := Lib.hid (show ∀ W, w5.grownBy W (some q) → Gph lo X W p (.slice (some ⟨q, 0, none⟩) G.length cap) H5 → Joined lo X p (.slice (some ⟨q, 0, none⟩) G.length cap) G E2 w (.returned (.bool false)) W from fun W hW hG =>
                ⟨H5, HA5.out, hG, fr_trans HR5.out (hw5 ▸ hW), .inr ⟨rfl, HM0.out.clash (a := x) (b := y) HOK.out (by simp) HRL.out HIK.out hin hkn hki hkk (fun h => absurd (HSL.out.2 h) (by simp))⟩⟩)
              clear hh
              have HW5 := Lib.hid hw5
              clear hw5
              go_wp2_with fail
              go_region_held3 (fun W => W.cell? ⟨p, 0, none⟩ = some (.slice (some ⟨q, 0, none⟩) G.length cap) ∧ (W.cell? ⟨q, i * 6, none⟩ = some (.int .i64 (nd G i).tm.kind) ∧ W.cell? ⟨q, i * 6 + 1, none⟩ = some (.int .i64 (nd G i).tm.num) ∧ W.cell? ⟨q, i * 6 + 2, none⟩ = some (.string (nd G i).tm.name) ∧ W.cell? ⟨q, i * 6 + 3, none⟩ = some (.slice (nd G i).tm.at_ (nd G i).tm.args.length (nd G i).tm.cap)) ∧ W.cell? ⟨q, k * 6, none⟩ = some (.int .i64 (nd G k).tm.kind) ∧ W.cell? ⟨q, k * 6 + 1, none⟩ = some (.int .i64 (nd G k).tm.num) ∧ W.cell? ⟨q, k * 6 + 2, none⟩ = some (.string (nd G k).tm.name) ∧ W.cell? ⟨q, k * 6 + 3, none⟩ = some (.slice (nd G k).tm.at_ (nd G k).tm.args.length (nd G k).tm.cap)) (first | exact ⟨g0, ⟨j0, j1, j2, j3⟩, k0, k1, k2, k3⟩ | exact ⟨keepv hb6 g0, ⟨keepv hb6 j0, keepv hb6 j1, keepv hb6 j2, keepv hb6 j3⟩, keepv hb6 k0, keepv hb6 k1, keepv hb6 k2, keepv hb6 k3⟩) (first | (go_at_call 161; refine (QS.out _).mono ?_; rintro e w6 ⟨rfl, hb6⟩))
              all_goals
                have HE2 := Lib.hid (HE.out w6 (HW5.out ▸ undrew_fr (fr_below hb6 (some q))) (HG5.out.drew.below hb6))
                clear HE hb6
                go_wp2_with fail
                go_ret
                exact HE2.out
            · rw [hh] at QS HSL
              have HSM := Lib.hid (HSL.out.1 rfl)
              obtain ⟨li, hli⟩ : ∃ l, l = (nd G i).kids := ⟨_, rfl⟩
              obtain ⟨lk, hlk⟩ : ∃ l, l = (nd G k).kids := ⟨_, rfl⟩
              obtain ⟨Ai, hAi⟩ : ∃ A, A = (nd G i).A := ⟨_, rfl⟩
              obtain ⟨Ak, hAk⟩ : ∃ A, A = (nd G k).A := ⟨_, rfl⟩
              obtain ⟨ci, hci⟩ : ∃ c, c = (nd G i).cap := ⟨_, rfl⟩
              obtain ⟨ck, hck⟩ : ∃ c, c = (nd G k).cap := ⟨_, rfl⟩
              have hlen2 : li.length = lk.length := by rw [hli, hlk]; exact HSM.out.2
              have hls : li.length ≤ 1000000 := by rw [hli]; exact (HW0.out.fine i hin).kids
              have HKI := Lib.hid (show ∀ W, Gph lo X W p (.slice (some ⟨q, 0, none⟩) G.length cap) H5 → IRow W Ai li ci from fun W hW => by
                have := (hW.kids i (by rw [HA5.out.len]; exact hin)).at
                rw [(HA5.out.tm hin).2.1, (HA5.out.tm hin).2.2.1, (HA5.out.tm hin).2.2.2, ← hli, ← hAi, ← hci] at this
                exact this)
              have HKK := Lib.hid (show ∀ W, Gph lo X W p (.slice (some ⟨q, 0, none⟩) G.length cap) H5 → IRow W Ak lk ck ∧ W.cell? ⟨p, 0, none⟩ = some (.slice (some ⟨q, 0, none⟩) G.length cap) ∧ W.cell? ⟨q, k * 6 + 4, none⟩ = some (.slice Ak lk.length ck) from fun W hW => by
                have := (hW.kids k (by rw [HA5.out.len]; exact hkn)).at
                rw [(HA5.out.tm hkn).2.1, (HA5.out.tm hkn).2.2.1, (HA5.out.tm hkn).2.2.2, ← hlk, ← hAk, ← hck] at this
                have h2 := (hW.cells (i := k) (by rw [HA5.out.len]; exact hkn)).2.2.2.2.1
                rw [(HA5.out.tm hkn).2.1, (HA5.out.tm hkn).2.2.1, (HA5.out.tm hkn).2.2.2, ← hlk, ← hAk, ← hck] at h2
                exact ⟨this, hW.hdr, h2⟩)
              have HKJ := Lib.hid (show ∀ W, Gph lo X W p (.slice (some ⟨q, 0, none⟩) G.length cap) H5 → W.cell? ⟨q, i * 6 + 4, none⟩ = some (.slice Ai li.length ci) from fun W hW => by
                have h2 := (hW.cells (i := i) (by rw [HA5.out.len]; exact hin)).2.2.2.2.1
                rw [(HA5.out.tm hin).2.1, (HA5.out.tm hin).2.2.1, (HA5.out.tm hin).2.2.2, ← hli, ← hAi, ← hci] at h2
                exact h2)
              have HZ := Lib.hid (show (li.zip lk).length = li.length by rw [List.length_zip]; omega)
              have HW := Lib.hid HWT.out
              rw [if_pos hkn, ← hlk, ← hlen2] at HW
              have HUN := Lib.hid (HM0.out.union (a := x) (b := y) (i := i) (k := k) (op' := op1 ++ li.zip lk) HOK.out HT0.out (by simp) HRL.out HIK.out hne HREM.out (fun p hp => by
                rcases List.mem_append.1 hp with hp | hp
                · exact .inr (List.mem_append.2 (.inl hp))
                · exact .inl (List.mem_singleton.1 hp)) (fun p hp => by
                rcases List.mem_append.1 hp with hp | hp
                · exact .inl (List.mem_append.2 (.inl hp))
                · exact .inr ⟨hkk, hli ▸ hlk ▸ hp⟩) (fun _ => ⟨HSM.out, fun p hp => List.mem_append.2 (.inr (hli ▸ hlk ▸ hp))⟩))
              have HLI := Lib.hid hli
              rw [← hAi, ← hli, ← hci] at j4
              clear hw5 hh HSL HSM hli hlk hAi hAk hci hck HRL HRI HIK HREM HWT k4
              go_wp2_with fail
              go_region_held3 (fun W => W.cell? ⟨p, 0, none⟩ = some (.slice (some ⟨q, 0, none⟩) G.length cap) ∧ (W.cell? ⟨q, i * 6, none⟩ = some (.int .i64 (nd G i).tm.kind) ∧ W.cell? ⟨q, i * 6 + 1, none⟩ = some (.int .i64 (nd G i).tm.num) ∧ W.cell? ⟨q, i * 6 + 2, none⟩ = some (.string (nd G i).tm.name) ∧ W.cell? ⟨q, i * 6 + 3, none⟩ = some (.slice (nd G i).tm.at_ (nd G i).tm.args.length (nd G i).tm.cap)) ∧ W.cell? ⟨q, k * 6, none⟩ = some (.int .i64 (nd G k).tm.kind) ∧ W.cell? ⟨q, k * 6 + 1, none⟩ = some (.int .i64 (nd G k).tm.num) ∧ W.cell? ⟨q, k * 6 + 2, none⟩ = some (.string (nd G k).tm.name) ∧ W.cell? ⟨q, k * 6 + 3, none⟩ = some (.slice (nd G k).tm.at_ (nd G k).tm.args.length (nd G k).tm.cap)) (first | exact ⟨g0, ⟨j0, j1, j2, j3⟩, k0, k1, k2, k3⟩ | exact ⟨keepv hb6 g0, ⟨keepv hb6 j0, keepv hb6 j1, keepv hb6 j2, keepv hb6 j3⟩, keepv hb6 k0, keepv hb6 k1, keepv hb6 k2, keepv hb6 k3⟩) (first | (go_at_call 161; refine (QS.out _).mono ?_; rintro e w6 ⟨rfl, hb6⟩))
              all_goals
                have HP6 := Lib.hid (show Pushing lo X p (.slice (some ⟨q, 0, none⟩) G.length cap) H5 op1 (li.zip lk) w (.slice (some ⟨o, 0, none⟩) m c) (m + 0) 0 w6 from
                  ⟨HG5.out.drew.below hb6, fr_trans HR5.out (undrew_fr (fr_below hb6 (some q))), by
                    have := own_below (World.ownsRow.drew HO5.out) hb6
                    simpa using this⟩)
                have g1 := HP6.out.1.hdr
                have g2 := HKJ.out w6 HP6.out.1
                clear hb6 j0 j1 j2 j3 j4 k0 k1 k2 k3 g0 fz c0 c5 hos4 HG5 HR5 HO5
                go_wp2_with fail
                go_loopw [7, 94] (fun s7 s94 wr => ∃ (A : Option Addr) (c' j : Nat), j ≤ li.length ∧ s94 = .int .i64 (j : Nat) ∧ s7 = .slice A (m + j) c' ∧ Hid (Pushing lo X p (.slice (some ⟨q, 0, none⟩) G.length cap) H5 op1 (li.zip lk) w (.slice A (m + j) c') (m + j) j wr)) (fun _ s94 _ => li.length - (intOf s94).toNat)
                case atStart => exact ⟨some ⟨o, 0, none⟩, c, 0, Nat.zero_le _, rfl, rfl, HP6⟩
                case round =>
                  obtain ⟨A, c', j, hj, rfl, rfl, HP⟩ := hrel
                  by_cases hlt : j < li.length
                  · have hltk : j < lk.length := by omega
                    obtain ⟨bi, rfl, hbi⟩ := (HKI.out wr HP.out.1).2.2 (by omega)
                    obtain ⟨⟨_, hck, hKK⟩, d0, d4⟩ := HKK.out wr HP.out.1
                    obtain ⟨bk, rfl, hbk⟩ := hKK (by omega)
                    have b1 := hbi j hlt
                    have b2 := hbk j hltk
                    clear hbi hbk hKK
                    have HNX := Lib.hid (fun w8 g cp T => pushing_next (w8 := w8) (g := g) (cp := cp) (T := T) HW0.out HA5.out (fun k hk => by
                      have : q = k := by simpa [Value.ownBlock] using hk
                      omega) HP.out hlt hltk)
                    obtain ⟨ni, hni⟩ : ∃ n, n = li.getD j 0 := ⟨_, rfl⟩
                    obtain ⟨nk, hnk⟩ : ∃ n, n = lk.getD j 0 := ⟨_, rfl⟩
                    rw [← hni] at b1
                    rw [← hnk] at b2
                    rw [← hni, ← hnk] at HNX
                    clear hni hnk
                    have hsz : w.heap.size ≤ wr.heap.size := HP.out.2.1.size
                    go_wp2_with (at_builtin; refine wpList_append_lies _ rfl _ _ 138 rfl w.heap.size 137 i0 _ 2 16 Tryz.underlying138 hi0 hz0 hz1 hz2 rfl (by decide) _ (m + j) (ocells (op1 ++ (li.zip lk).take j)) rfl (HP.out.2.2.alloc _) ⟨wr.heap.size, 0, none⟩ 1 1 [.int .i64 (ni : Nat), .int .i64 (nk : Nat)] rfl rfl (pnews wr _ _ _) (pairs_one ni nk) (by decide) (by unfold maxLen; omega) (by omega) (by simp; omega) _ rfl ?_; intro g cp w8 hown hg hat hglt; have HP2 := Lib.hid (HNX.out w8 g cp _ hown hg); clear hown hg hat hglt)
                    go_roundw
                    case rel => exact ⟨some ⟨g, 0, none⟩, cp, j + 1, by omega, by go_num, rfl, HP2⟩
                    case measure => simp [intOf]; omega
                  · obtain rfl : j = li.length := by omega
                    have hl : (op1 ++ li.zip lk).length = m + li.length := by rw [List.length_append, HZ.out, HMM.out]
                    have HE := Lib.hid (show Joining lo X p q cap G E2 w (m + li.length + wtOf G (mergeR root i k) G.length) (.slice A (op1 ++ li.zip lk).length c') (op1 ++ li.zip lk) wr from by
                      have hp := HP.out
                      have ht : (li.zip lk).take li.length = li.zip lk := List.take_of_length_le (by rw [HZ.out]; exact Nat.le_refl _)
                      unfold Pushing at hp
                      rw [ht] at hp
                      exact ⟨H5, _, _, HA5.out, HU5.out, hp.1, hp.2.1, by rw [hl]; exact hp.2.2, HUN.out.1, HUN.out.2, by rw [hl], by have := HK0.out; have := HW.out; omega⟩)
                    have hgk : m + li.length + wtOf G (mergeR root i k) G.length < gk := by have := HK0.out.1; have := HW.out; omega
                    have HLN := Lib.hid hl
                    clear hl HP
                    go_wp2_with fail
                    go_roundg (m + li.length + wtOf G (mergeR root i k) G.length)
                    case rel => exact ⟨A, c', op1 ++ li.zip lk, by rw [HLN.out], HE⟩
                    case measure => exact hgk
end Go.Proofs.YtgpglgehlnfggaaGreat
