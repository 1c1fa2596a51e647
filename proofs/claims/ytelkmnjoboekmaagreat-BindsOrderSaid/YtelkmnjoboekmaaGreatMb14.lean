/-
  What add of the program answers, and what holds while it enters the arguments. No walk.
  What holds between two equations: more nodes, the same classes. No walk.
  Contract of add of the program: the nodes of a term.
-/
import Derived.Test.YtelkmnjoboekmaaGreatMb13
import Derived.Test.YtelkmnjoboekmaaGreatMb11
import Derived.Test.YtelkmnjoboekmaaGreatMb9
import Derived.BigQuiet
import Derived.Deep.QuietTactic
import Derived.Deep.RegionLaw
import Derived.Deep.AppendLies
namespace Go.Proofs.YtelkmnjoboekmaaGreat
open Go.RowKit

/-- What add answers: the term's node; G grows by nodes whose arguments are entered. -/
def AddR (lo : Nat) (Y : Nat → Prop) (p mb : Nat) (z : Value) (G : List Nd) (t : Tm) (w : World) (e : Ending) (w' : World) : Prop :=
  ∃ (z' : Value) (G' : List Nd) (i : Nat), e = .returned (.int .i64 (i : Nat)) ∧ Gadd lo Y w' p mb z' G' ∧ (∃ N, G' = G ++ N) ∧ (∀ j, G.length ≤ j → j < G'.length → OkAt G' j ∧ (nd G' j).next = j) ∧ i < G'.length ∧ (nd G' i).tm.strip = t.strip ∧ G'.length ≤ G.length + t.nodes ∧
    AddFr p mb z w w' ∧ (z'.ownBlock = z.ownBlock ∨ ∀ b, z'.ownBlock = some b → w.heap.size ≤ b)
/-- While the arguments are entered: j of them are; g: the row for their nodes. -/
def AddLoop (lo : Nat) (Y : Nat → Prop) (p mb : Nat) (z : Value) (G : List Nd) (a : List Tm) (g : Nat) (w : World) (j : Nat) (wr : World) : Prop :=
  ∃ (z' : Value) (G' : List Nd) (ks : List Nat), Gadd lo (fun k => Y k ∨ k = g) wr p mb z' G' ∧ (∃ N, G' = G ++ N) ∧ (∀ m, G.length ≤ m → m < G'.length → OkAt G' m ∧ (nd G' m).next = m) ∧ ks.length = j ∧
    (∀ m, m < j → ks.getD m 0 < G'.length ∧ (nd G' (ks.getD m 0)).tm.strip = (a.getD m default).strip) ∧ G'.length ≤ G.length + nodesL (a.take j) ∧
    wr.ownsRow lo 3 1 (.slice (some ⟨g, 0, none⟩) a.length a.length) a.length ((ks.map fun i => Value.int .i64 (i : Nat)) ++ List.replicate (a.length - j) (Value.int .i64 0)) ∧
    AddFr p mb z w wr ∧ (z'.ownBlock = z.ownBlock ∨ ∀ b, z'.ownBlock = some b → w.heap.size ≤ b) ∧ z'.ownBlock ≠ some g
theorem nodesL_next {l : List Tm} {j : Nat} (h : j < l.length) : nodesL (l.take (j + 1)) = nodesL (l.take j) + (l.getD j default).nodes := by
  rw [ttake_next h, nodesL_append]; simp [nodesL]
theorem nodesL_take (l : List Tm) (k : Nat) : nodesL (l.take k) ≤ nodesL l := by
  have := nodesL_append (l.take k) (l.drop k)
  rw [List.take_append_drop] at this
  omega
theorem addloop_next {lo : Nat} {Y : Nat → Prop} {p mb : Nat} {z z' z2 : Value} {G G' G2 : List Nd} {a : List Tm} {g j i : Nat} {ks : List Nat} {w wr wb w2 : World} (hj : j < a.length) (hgp : g ≠ p) (hgm : g ≠ mb) (hgw0 : w.heap.size ≤ g)
    (h2 : ∃ N, G' = G ++ N) (h3 : ∀ m, G.length ≤ m → m < G'.length → OkAt G' m ∧ (nd G' m).next = m) (h4 : ks.length = j)
    (h5 : ∀ m, m < j → ks.getD m 0 < G'.length ∧ (nd G' (ks.getD m 0)).tm.strip = (a.getD m default).strip) (h6 : G'.length ≤ G.length + nodesL (a.take j))
    (h7 : wr.ownsRow lo 3 1 (.slice (some ⟨g, 0, none⟩) a.length a.length) a.length ((ks.map fun i => Value.int .i64 (i : Nat)) ++ List.replicate (a.length - j) (Value.int .i64 0)))
    (h8 : AddFr p mb z w wr) (h9 : z'.ownBlock = z.ownBlock ∨ ∀ b, z'.ownBlock = some b → w.heap.size ≤ b) (h10 : z'.ownBlock ≠ some g) (hb : Below wr.heap.size wr wb)
    (k1 : Gadd lo (fun k => Y k ∨ k = g) w2 p mb z2 G2) (k2 : ∃ N, G2 = G' ++ N) (k3 : ∀ m, G'.length ≤ m → m < G2.length → OkAt G2 m ∧ (nd G2 m).next = m) (k4 : i < G2.length) (k5 : (nd G2 i).tm.strip = (a.getD j default).strip) (k6 : G2.length ≤ G'.length + (a.getD j default).nodes)
    (k7 : AddFr p mb z' wb w2) (k8 : z2.ownBlock = z'.ownBlock ∨ ∀ b, z2.ownBlock = some b → wb.heap.size ≤ b) : AddLoop lo Y p mb z G a g w (j + 1) (w2.setCell ⟨g, j, none⟩ (.int .i64 (i : Nat))) := by
  obtain ⟨N, rfl⟩ := h2
  obtain ⟨M, rfl⟩ := k2
  have hgw : g < wr.heap.size := own_block_lt h7
  have hg2 : z2.ownBlock ≠ some g := by
    rcases k8 with k8 | k8
    · rw [k8]; exact h10
    · intro e; have := k8 g e; have := hb.size; omega
  have hrow2 : w2.ownsRow lo 3 1 (.slice (some ⟨g, 0, none⟩) a.length a.length) a.length ((ks.map fun i => Value.int .i64 (i : Nat)) ++ List.replicate (a.length - j) (Value.int .i64 0)) :=
    k7.row (own_below h7 hb) fun b e => by
      have : g = b := by simpa [Value.ownBlock] using e
      subst this
      exact ⟨hgp, hgm, h10⟩
  have hs := (World.ownsRow.stored hrow2 j (.int .i64 (i : Nat))).1
  have hset : ((ks.map fun i => Value.int .i64 (i : Nat)) ++ List.replicate (a.length - j) (Value.int .i64 0)).set j (.int .i64 (i : Nat)) = (((ks ++ [i]).map fun i => Value.int .i64 (i : Nat)) ++ List.replicate (a.length - (j + 1)) (Value.int .i64 0)) := by
    rw [List.set_append_right _ _ (by simp [h4]), List.length_map, h4, Nat.sub_self, show a.length - j = (a.length - (j + 1)) + 1 by omega, List.replicate_succ, List.set_cons_zero, List.map_append, List.append_assoc]
    rfl
  rw [hset] at hs
  have hfr : AddFr p mb z w w2 := by
    refine (h8.trans (AddFr.of (z := z') hb) h9).trans k7 h9
  have hzz : z2.ownBlock = z.ownBlock ∨ ∀ b, z2.ownBlock = some b → w.heap.size ≤ b := by
    rcases k8 with k8 | k8
    · rw [k8]; exact h9
    · exact .inr fun b e => by have := k8 b e; have := hb.size; have := h8.size; omega
  refine ⟨z2, (G ++ N) ++ M, ks ++ [i], k1.fill (.inr rfl) hgp hgm hg2 _, ⟨N ++ M, by simp⟩, fun m m1 m2 => ?_, by simp [h4], fun m hm => ?_, ?_, hs, ?_, hzz, hg2⟩
  · by_cases hm : m < (G ++ N).length
    · have := h3 m m1 hm
      exact ⟨this.1.left hm, by rw [nd_left hm]; exact this.2⟩
    · exact k3 m (by omega) m2
  · by_cases h : m < j
    · have e : (ks ++ [i]).getD m 0 = ks.getD m 0 := by simp [List.getD, List.getElem?_append_left (show m < ks.length by omega)]
      have := h5 m h
      rw [e, nd_left this.1]
      exact ⟨by rw [List.length_append]; omega, this.2⟩
    · obtain rfl : m = j := by omega
      have e : (ks ++ [i]).getD m 0 = i := by simp [List.getD, ← h4]
      rw [e]
      exact ⟨k4, k5⟩
  · rw [nodesL_next hj]
    omega
  · exact ⟨hfr.os, hfr.tape, hfr.output, by simpa [World.setCell] using hfr.size, fun b q1 q2 q3 q4 => (Below.heap_setCell _ _ _ _ (fun e => by have : b = g := e; omega)).trans (hfr.block b q1 q2 q3 q4)⟩
theorem zero_int (w : World) : (zeroValue 3).run Tryz.prog w = .ok (.int .i64 0) w := by kernel_rfl
theorem look_var {w : World} {mb c : Nat} {D : DataW Unit} {G : List Nd} (h : w.ownsMap Tryz.prog 3 (plainElem Tryz.prog 3) mb c D) (hv : VMap D G) {n : Int} (hf : Fits n) :
    (∃ i, i < G.length ∧ (nd G i).tm.kind = 1 ∧ (nd G i).tm.num = n ∧ (Instr.lookup 59 (.map (some mb)) (.int .i64 n) true).run Tryz.prog w = .ok (.tuple #[.int .i64 (i : Nat), .bool true]) w) ∨
    (Maps.has D (KL n) = false ∧ ∃ v, (Instr.lookup 59 (.map (some mb)) (.int .i64 n) true).run Tryz.prog w = .ok (.tuple #[.int .i64 v, .bool false]) w) := by
  have hw0 : (Lit.int .i64 0).wf = true := by decide
  obtain ⟨v, ps, hrun, hR⟩ := World.ownsMap.look_ok h keyed Tryz.underlying59 (zero_int w) (plainElem_int Tryz.underlying3 hw0) (Maps.keyOf_int_mk Tryz.underlying3 (fits_wf hf))
  obtain ⟨x, rfl, hx, _⟩ := plainElem_int_inv Tryz.underlying3 hR
  cases hh : Maps.has D (KL n)
  · rw [show Maps.has D (.int .i64 n) = false from hh] at hrun
    exact .inr ⟨rfl, x, hrun⟩
  · rw [show Maps.has D (.int .i64 n) = true from hh] at hrun
    obtain ⟨i, h1, h2, h3⟩ := hv.2.1 n hh
    have h4 := (hv.2.2 i h1 h2).2 (.lit (KL 0))
    rw [h3] at h4
    have hx1 : D.atKey (.int .i64 n) (.lit (.int .i64 0)) = .lit (.int .i64 x) := congrArg Prod.fst hx
    rw [show D.atKey (.int .i64 n) (.lit (.int .i64 0)) = .lit (KL (i : Nat)) from h4] at hx1
    have hxi : x = (i : Int) := by
      simp only [DataW.lit.injEq, Lit.int.injEq, true_and] at hx1
      exact hx1.symm
    subst hxi
    exact .inl ⟨i, h1, h2, h3, hrun⟩

theorem add_done {lo : Nat} {Y : Nat → Prop} {p mb g : Nat} {z z1 : Value} {G : List Nd} {x : Nd} {w w4 wr : World} (h : AddLoop lo Y p mb z1 (G ++ [x]) x.tm.args g w4 x.tm.args.length wr) (hform : x.tm.form = true) (hnx : x.next = G.length)
    (hfr : AddFr p mb z w w4) (hz1 : z1.ownBlock = z.ownBlock ∨ ∀ b, z1.ownBlock = some b → w.heap.size ≤ b) (hgp : g ≠ p) (hgm : g ≠ mb) (hgl : lo ≤ g) (hgY : ¬ Y g) (hsz : G.length + x.tm.nodes ≤ 2500000) :
    ∃ q n cap, wr.cell? ⟨p, 0, none⟩ = some (.slice (some ⟨q, 0, none⟩) n cap) ∧ G.length < n ∧ n ≤ 2500000 ∧ (∃ v, wr.cell? ⟨q, G.length * 6 + 4, none⟩ = some v) ∧ wr.frozen? ⟨q, G.length * 6 + 4, none⟩ = false ∧
      AddR lo Y p mb z G x.tm w (.returned (.int .i64 (G.length : Nat))) (wr.setCell ⟨q, G.length * 6 + 4, none⟩ (.slice (some ⟨g, 0, none⟩) x.tm.args.length x.tm.args.length)) := by
  obtain ⟨z', G', ks, k1, ⟨N, rfl⟩, k3, k4, k5, k6, k7, k8, k9, k10⟩ := h
  have hlen : G.length < ((G ++ [x]) ++ N).length := by simp
  obtain ⟨q, cap, rfl, hq1, hq2, _⟩ := k1.g.form (by omega)
  have hn : nd ((G ++ [x]) ++ N) G.length = x := by rw [nd_left (by simp), nd_new]
  have hx4 := (k1.g.cells hlen).2.2.2.2.1
  have hgq : q ≠ g := fun e => k10 (by rw [e]; rfl)
  have hnod : x.tm.nodes = 1 + nodesL x.tm.args := by cases x.tm; rfl
  have hall : x.tm.args.take x.tm.args.length = x.tm.args := List.take_length
  have hkl : ks.length ≤ 2500000 := by have := length_le_nodes x.tm.args; omega
  rw [k4.symm, Nat.sub_self] at k7
  simp only [List.replicate_zero, List.append_nil] at k7
  have hga := gadd_args (i := G.length) k1.less hlen k7 rfl hkl hgl hgY hgp hgm hgq
  rw [hn, k4] at hga
  rw [hall] at k6
  refine ⟨q, _, cap, k1.g.hdr, hlen, k1.g.small, ⟨_, hx4⟩, k1.g.free _, _, _, G.length, rfl, hga, ⟨{ x with A := some ⟨g, 0, none⟩, cap := x.tm.args.length, kids := ks } :: N, ?_⟩, fun j h1 h2 => ?_, by simp, ?_, ?_, ?_, ?_⟩
  · rw [List.append_assoc, List.set_append_right _ _ (Nat.le_refl _), Nat.sub_self]
    rfl
  · rw [List.length_set] at h2
    by_cases hj : j = G.length
    · subst hj
      have e : nd (((G ++ [x]) ++ N).set G.length { x with A := some ⟨g, 0, none⟩, cap := x.tm.args.length, kids := ks }) G.length = { x with A := some ⟨g, 0, none⟩, cap := x.tm.args.length, kids := ks } := by rw [nd_set _ _ _ _ hlen, if_pos rfl]
      refine ⟨⟨by rw [e]; exact hform, by rw [e]; exact k4, fun m hm => ?_⟩, by rw [e]; exact hnx⟩
      rw [e] at hm ⊢
      have hk := k5 m (by rw [← k4]; exact hm)
      rw [List.length_set, nd_set _ _ _ _ hlen]
      refine ⟨hk.1, ?_⟩
      split
      · rename_i e2
        have := hk.2
        rw [e2, hn] at this
        exact this
      · exact hk.2
    · have := k3 j (by simp; omega) h2
      refine ⟨this.1.set hlen hj (by rw [hn]), ?_⟩
      rw [nd_set _ _ _ _ hlen, if_neg hj]
      exact this.2
  · rw [nd_set _ _ _ _ hlen, if_pos rfl]
  · rw [List.length_set, hnod]
    simp only [List.length_append, List.length_cons, List.length_nil] at k6 ⊢
    omega
  · have := hfr.trans k8 hz1
    refine ⟨this.os, this.tape, this.output, by simpa [World.setCell] using this.size, fun b q1 q2 q3 q4 => (Below.heap_setCell _ _ _ _ (fun e => ?_)).trans (this.block b q1 q2 q3 q4)⟩
    have e' : b = q := e
    rcases k9 with k9 | k9
    · rcases hz1 with hz1 | hz1
      · exact q4 (by rw [← hz1, ← k9, e']; rfl)
      · have := hz1 q (by rw [← k9]; rfl); omega
    · have := k9 q rfl
      have := hfr.size
      omega
  · rcases k9 with k9 | k9
    · rw [k9]; exact hz1
    · exact .inr fun b e => by have := k9 b e; have := hfr.size; omega
end Go.Proofs.YtelkmnjoboekmaaGreat
namespace Go.Proofs.YtelkmnjoboekmaaGreat
open Go.RowKit

def extR (n : Nat) (root : Nat → Nat) : Nat → Nat := fun j => if j < n then root j else j
section
variable {G H N : List Nd} {root r : Nat → Nat} {op E : List (Nat × Nat)}
theorem Alike.ndv (h : Alike G H) {f : Int → Tm} {i : Nat} (hi : i < G.length) : ndv f H i = ndv f G i := by unfold Go.Proofs.YtelkmnjoboekmaaGreat.ndv; rw [(h.tm hi).1]
theorem Alike.ok (h : Alike G H) (k : Ok G) : Ok H := by
  intro i hi
  rw [h.len] at hi
  obtain ⟨h1, h2, _, _⟩ := h.tm hi
  have k1 := k i hi
  refine ⟨by rw [h1]; exact k1.form, by rw [h1, h2]; exact k1.len, fun j hj => ?_⟩
  rw [h2] at hj ⊢
  have := k1.kid j hj
  rw [h.len, h1, (h.tm this.1).1]
  exact this
theorem Alike.mid (h : Alike G H) (k : Mid G root op E) : Mid H root op E := by
  have hc : ∀ q, Coarse H root op q → Coarse G root op q := fun q hq => ⟨fun i j hi hj => hq.1 i j (by rw [h.len]; exact hi) (by rw [h.len]; exact hj), hq.2⟩
  have hf : ∀ f, (∀ p ∈ E, Go.Proofs.YtelkmnjoboekmaaGreat.ndv f H p.1 = Go.Proofs.YtelkmnjoboekmaaGreat.ndv f H p.2) → ∀ p ∈ E, Go.Proofs.YtelkmnjoboekmaaGreat.ndv f G p.1 = Go.Proofs.YtelkmnjoboekmaaGreat.ndv f G p.2 := fun f hf p hp => by
    have h1 := k.ebd p hp
    have := hf p hp
    rw [h.ndv h1.1, h.ndv h1.2] at this
    exact this
  refine ⟨fun p hp => by rw [h.len]; exact k.bd p hp, fun p hp => by rw [h.len]; exact k.ebd p hp, fun f hf' => ?_, fun i j hi hj hki hkj e => ?_, fun q hq i j hi hj hki hkj e => ?_, fun q hq => k.eqs q (hc q hq)⟩
  · have hs := k.sound f (hf f hf')
    refine ⟨fun i j hi hj e => ?_, fun p hp => ?_⟩
    · rw [h.len] at hi hj
      rw [h.ndv hi, h.ndv hj]
      exact hs.1 i j hi hj e
    · have h1 := k.bd p hp
      rw [h.ndv h1.1, h.ndv h1.2]
      exact hs.2 p hp
  · rw [h.len] at hi hj
    rw [(h.tm hi).1] at hki
    rw [(h.tm hj).1] at hkj
    have := k.lab i j hi hj hki hkj e
    unfold SameLab at this ⊢
    rw [(h.tm hi).1, (h.tm hi).2.1, (h.tm hj).1, (h.tm hj).2.1]
    exact this
  · rw [h.len] at hi hj
    rw [(h.tm hi).1] at hki
    rw [(h.tm hj).1] at hkj
    rw [(h.tm hi).2.1, (h.tm hj).2.1]
    exact k.cong q (hc q hq) i j hi hj hki hkj e
theorem Alike.tops (h : Alike G H) (hl : ∀ i, i < G.length → root i < G.length) (k : Tops G root) : Tops H root := by
  refine ⟨fun i hi hk => ?_, fun i hi hk => ?_⟩
  · rw [h.len] at hi
    rw [(h.tm hi).1] at hk
    rw [(h.tm (hl i hi)).1]
    exact k.nonvar i hi hk
  · rw [h.len] at hi
    rw [(h.tm (hl i hi)).1] at hk ⊢
    rw [(h.tm hi).1]
    exact k.least i hi hk
theorem ext_old {n i : Nat} (h : i < n) : extR n root i = root i := by unfold extR; rw [if_pos h]
theorem ext_new {n i : Nat} (h : ¬ i < n) : extR n root i = i := by unfold extR; rw [if_neg h]
theorem ext_eq {n : Nat} (rl : ∀ j, j < n → root j < n) {i j : Nat} (e : extR n root i = extR n root j) : (i < n ∧ j < n ∧ root i = root j) ∨ (¬ i < n ∧ ¬ j < n ∧ i = j) := by
  by_cases hi : i < n <;> by_cases hj : j < n
  · rw [ext_old hi, ext_old hj] at e; exact .inl ⟨hi, hj, e⟩
  · rw [ext_old hi, ext_new hj] at e; have := rl i hi; omega
  · rw [ext_new hi, ext_old hj] at e; have := rl j hj; omega
  · rw [ext_new hi, ext_new hj] at e; exact .inr ⟨hi, hj, e⟩
theorem Mid.ext (h : Mid G root [] E) (rl : ∀ j, j < G.length → root j < G.length) : Mid (G ++ N) (extR G.length root) [] E := by
  have hc : ∀ q, Coarse (G ++ N) (extR G.length root) [] q → Coarse G root [] q := fun q hq => ⟨fun i j hi hj e => hq.1 i j (by simp; omega) (by simp; omega) (by rw [ext_old hi, ext_old hj, e]), fun p hp => by cases hp⟩
  refine ⟨fun p hp => (by cases hp), fun p hp => ?_, fun f hf => ⟨fun i j hi hj e => ?_, fun p hp => by cases hp⟩, fun i j hi hj hki hkj e => ?_, fun q hq i j hi hj hki hkj e => ?_, fun q hq => h.eqs q (hc q hq)⟩
  · have := h.ebd p hp
    simp
    omega
  · have hf' : ∀ p ∈ E, ndv f G p.1 = ndv f G p.2 := fun p hp => by
      have h1 := h.ebd p hp
      have := hf p hp
      rw [ndv_left h1.1, ndv_left h1.2] at this
      exact this
    rcases ext_eq rl e with ⟨h1, h2, h3⟩ | ⟨_, _, rfl⟩
    · rw [ndv_left h1, ndv_left h2]
      exact (h.sound f hf').1 i j h1 h2 h3
    · rfl
  · rcases ext_eq rl e with ⟨h1, h2, h3⟩ | ⟨_, _, rfl⟩
    · rw [nd_left h1] at hki
      rw [nd_left h2] at hkj
      have := h.lab i j h1 h2 hki hkj h3
      unfold SameLab at this ⊢
      rw [nd_left h1, nd_left h2]
      exact this
    · exact ⟨⟨rfl, rfl, rfl⟩, rfl⟩
  · rcases ext_eq rl e with ⟨h1, h2, h3⟩ | ⟨_, _, rfl⟩
    · rw [nd_left h1] at hki
      rw [nd_left h2] at hkj
      rw [nd_left h1, nd_left h2]
      exact h.cong q (hc q hq) i j h1 h2 hki hkj h3
    · rfl
theorem Tops.ext (h : Tops G root) (rl : ∀ j, j < G.length → root j < G.length) : Tops (G ++ N) (extR G.length root) := by
  refine ⟨fun i hi hk => ?_, fun i hi hk => ?_⟩
  · by_cases h1 : i < G.length
    · rw [nd_left h1] at hk
      rw [ext_old h1, nd_left (rl i h1)]
      exact h.nonvar i h1 hk
    · rw [ext_new h1]; exact hk
  · by_cases h1 : i < G.length
    · rw [ext_old h1, nd_left (rl i h1)] at hk ⊢
      rw [nd_left h1]
      exact h.least i h1 hk
    · rw [ext_new h1]; exact Int.le_refl _
theorem UF.ext (h : UF G root r) (hN : ∀ j, G.length ≤ j → j < (G ++ N).length → (nd (G ++ N) j).next = j) : UF (G ++ N) (extR G.length root) r := by
  refine ⟨fun i hi => ?_, fun i hi => ?_, fun i hi => ?_, fun i hi hn => ?_⟩
  · by_cases h1 : i < G.length
    · rw [nd_left h1]
      have := h.lt i h1
      simp
      omega
    · rw [hN i (by omega) hi]; exact hi
  · by_cases h1 : i < G.length
    · rw [nd_left h1, ext_old (h.lt i h1), ext_old h1]
      exact h.step i h1
    · rw [hN i (by omega) hi]
  · by_cases h1 : i < G.length
    · rw [nd_left h1, ext_old h1]
      exact h.fix i h1
    · rw [hN i (by omega) hi, ext_new h1]
  · by_cases h1 : i < G.length
    · rw [nd_left h1] at hn ⊢
      exact h.dec i h1 hn
    · exact absurd (hN i (by omega) hi) hn
theorem Ok.ext (h : Ok G) (hN : ∀ j, G.length ≤ j → j < (G ++ N).length → OkAt (G ++ N) j) : Ok (G ++ N) := fun i hi => by
  by_cases h1 : i < G.length
  · exact (h i h1).left h1
  · exact hN i (by omega) hi
theorem uf_nil : UF [] root r := ⟨fun i hi => (by simp at hi), fun i hi => (by simp at hi), fun i hi => (by simp at hi), fun i hi => by simp at hi⟩
theorem mid_nil : Mid [] root [] [] := ⟨fun p hp => (by cases hp), fun p hp => (by cases hp), fun f _ => ⟨fun i j hi => (by simp at hi), fun p hp => by cases hp⟩, fun i j hi => (by simp at hi), fun q _ i j hi => (by simp at hi), fun q _ p hp => by cases hp⟩
theorem tops_nil : Tops [] root := ⟨fun i hi => (by simp at hi), fun i hi => by simp at hi⟩
/-- The classes at the end. -/
theorem mid_closed (h : Mid G root [] E) (hok : Ok G) (hv : VarU G) (ht : Tops G root) (rl : ∀ j, j < G.length → root j < G.length ∧ root (root j) = root j) : Closed G E root := by
  have hc : Coarse G root [] root := ⟨fun _ _ _ _ e => e, fun p hp => by cases hp⟩
  refine ⟨hok, hv, fun i hi => (rl i hi).1, fun i hi => (rl i hi).2, fun f hf => (h.sound f hf).1, fun i j hi hj hki hkj e => ⟨(h.lab i j hi hj hki hkj e).1, h.cong root hc i j hi hj hki hkj e⟩, fun p hp => ⟨(h.ebd p hp).1, (h.ebd p hp).2, h.eqs root hc p hp⟩, ht.nonvar, ht.least⟩
end
theorem zip_take_next {la lb : List Tm} {j : Nat} (h1 : j < la.length) (h2 : j < lb.length) : (la.zip lb).take (j + 1) = (la.zip lb).take j ++ [(la.getD j default, lb.getD j default)] := by
  rw [List.take_succ_eq_append_getElem (by rw [List.length_zip]; omega)]
  simp [List.getD, h1, h2]
theorem unif_snoc {E : List (Tm × Tm)} {a b : Tm} {f : Int → Tm} : Unif (E ++ [(a, b)]) f ↔ Unif E f ∧ a.sub f = b.sub f := by
  unfold Unif
  constructor
  · intro h
    exact ⟨fun p hp => h p (List.mem_append.2 (.inl hp)), h (a, b) (by simp)⟩
  · rintro ⟨h1, h2⟩ p hp
    rcases List.mem_append.1 hp with hp | hp
    · exact h1 p hp
    · rw [List.mem_singleton.1 hp]; exact h2
theorem unif_take {E : List (Tm × Tm)} {f : Int → Tm} (h : Unif E f) (j : Nat) : Unif (E.take j) f := fun p hp => h p (List.mem_of_mem_take hp)

/-- After j equations. -/
def Solving (la lb : List Tm) (p mb : Nat) (w : World) (z : Value) (G : List Nd) (j : Nat) (wr : World) : Prop :=
  Gadd w.heap.size No wr p mb z G ∧ Below w.heap.size w wr ∧ Ok G ∧ G.length ≤ nodesL (la.take j) + nodesL (lb.take j) ∧
    ∃ root r E, UF G root r ∧ Mid G root [] E ∧ Tops G root ∧ ∀ f, Unif ((la.zip lb).take j) f ↔ ∀ p ∈ E, ndv f G p.1 = ndv f G p.2
/-- The graph's rows and map, wherever its box lies. -/
structure GMem (lo : Nat) (w : World) (z : Value) (mb : Nat) (G : List Nd) : Prop where
  row : w.ownsRow lo 66 6 z G.length (gcells G)
  kids : ∀ i, i < G.length → KidsAt lo (fun k => z.ownBlock = some k) w (nd G i)
  fine : ∀ i, i < G.length → Fine (nd G i)
  small : G.length ≤ 2500000
  vm : ∃ D : DataW Unit, w.ownsMap Tryz.prog 3 (plainElem Tryz.prog 3) mb G.length D ∧ VMap D G
  zm : z.ownBlock ≠ some mb
/-- What solve answers. -/
def SolvedR (la lb : List Tm) (w : World) (e : Ending) (w' : World) : Prop :=
  ∃ (z : Value) (mb : Nat) (A : Option Addr) (c : Nat) (ord : List Nat) (ok : Bool), e = .returned (.tuple #[.agg #[z, .map (some mb)], .slice A ord.length c, .bool ok]) ∧ Below w.heap.size w w' ∧ (ok = false → ∀ f, ¬ Unif (la.zip lb) f) ∧
    (ok = true → ∃ G root r E us, GMem w.heap.size w' z mb G ∧ UF G root r ∧ Closed G E root ∧ (∀ f, Unif (la.zip lb) f ↔ ∀ p ∈ E, ndv f G p.1 = ndv f G p.2) ∧ Ordering G root ord ord.length [] us ∧ ord.length = G.length ∧
      w'.ownsRow w.heap.size 3 1 (.slice A ord.length c) ord.length (nums ord) ∧ (Value.slice A ord.length c).ownBlock ≠ some mb ∧ ((Value.slice A ord.length c).ownBlock = none ∨ (Value.slice A ord.length c).ownBlock ≠ z.ownBlock))
end Go.Proofs.YtelkmnjoboekmaaGreat
namespace Go.Proofs.YtelkmnjoboekmaaGreat
open Go.RowKit

theorem made_ints (L : Nat) : (madeCells (Value.int .i64 0).cells (L * 1)).toList = List.replicate L (Value.int .i64 0) := by
  rw [Nat.mul_one]
  exact toList_madeCells_one (Value.int .i64 0) L
theorem AddR.same {lo : Nat} {Y : Nat → Prop} {p mb i : Nat} {z : Value} {G : List Nd} {t : Tm} {w W : World} (hg : Gadd lo Y W p mb z G) (hW : Below w.heap.size w W) (hi : i < G.length) (ht : (nd G i).tm.strip = t.strip) : AddR lo Y p mb z G t w (.returned (.int .i64 (i : Nat))) W :=
  ⟨z, G, i, rfl, hg, ⟨[], by simp⟩, fun j h1 h2 => by omega, hi, ht, by omega, AddFr.of hW, .inl rfl⟩
theorem gform_at {lo : Nat} {Y : Nat → Prop} {p mb : Nat} {z : Value} {G : List Nd} {w : World} (_ : Gadd lo Y w p mb z G) (hok : ∀ i, i < G.length → (nd G i).tm.form = true) {i : Nat} (hi : i < G.length) {t : Tm} (hk : (nd G i).tm.kind = 1) (ht : t.form = true) (hk' : t.kind = 1) (hn : (nd G i).tm.num = t.num) : (nd G i).tm.strip = t.strip := by
  rw [(form_var (hok i hi) hk).1, (form_var ht hk').1, hn]

theorem undrew_gr {w w' : World} {row : Option Nat} (h : w.drew.grownBy w' row) : w.grownBy w' row := ⟨h.os, h.tape, h.output, h.size, h.block⟩
/-- Ahead of the append: the map knows the new node already. -/
structure PreApp (lo : Nat) (Y : Nat → Prop) (p mb : Nat) (z : Value) (G : List Nd) (x : Nd) (w w1 : World) : Prop where
  g : Gph lo (fun k => k = p ∨ k = mb ∨ Y k) w1 p z G
  vc : w1.cell? ⟨p, 1, none⟩ = some (.map (some mb))
  vm : ∃ D : DataW Unit, w1.ownsMap Tryz.prog 3 (plainElem Tryz.prog 3) mb (G.length + 1) D ∧ VMap D (G ++ [x])
  fz : ∀ j, w1.frozen? ⟨p, j, none⟩ = false
  b0 : w1.cell? ⟨w.heap.size, 0, none⟩ = some (.int .i64 x.tm.kind)
  b1 : w1.cell? ⟨w.heap.size, 1, none⟩ = some (.int .i64 x.tm.num)
  b2 : w1.cell? ⟨w.heap.size, 2, none⟩ = some (.string x.tm.name)
  b3 : w1.cell? ⟨w.heap.size, 3, none⟩ = some (.slice x.tm.at_ x.tm.args.length x.tm.cap)
  lt : w.heap.size < w1.heap.size
  fr : AddFr p mb z w w1

set_option maxHeartbeats 4000000 in
set_option maxRecDepth 100000 in
theorem add_at (w0 : World) (p mb : Nat) (t : Tm) : ∀ (Y : Nat → Prop) (G : List Nd) (z : Value) (w : World), t.At w0 → t.form = true → Below w0.heap.size w0 w → Gadd w0.heap.size Y w p mb z G → (∀ i, i < G.length → (nd G i).tm.form = true) → (∀ b, Y b → b < w.heap.size) → G.length + t.nodes ≤ 2500000 →
    Calls Tryz.prog 66 #[.pointer (some ⟨p, 0, none⟩), t.val] w (AddR w0.heap.size Y p mb z G t w) := by
  induction t using Tm.induct with
  | h k n s A c a ih =>
    intro Y G z w hat hform hbw hg hfm hY hsz
    show Calls Tryz.prog 66 #[.pointer (some ⟨p, 0, none⟩), .agg #[.int .i64 k, .int .i64 n, .string s, .slice A a.length c]] w _
    obtain ⟨zA, zc, rfl, _⟩ := hg.g.slice
    obtain ⟨i0, hi0, hz0, hz1, hz2⟩ := info_parts node_info
    obtain ⟨i1, hi1, hy0, hy1, hy2⟩ := info_parts int_info
    have hfits := ((At_iff _ _).1 hat).1
    simp only [Tm.kind, Tm.num, Tm.name] at hfits
    have hsm := hg.g.small
    have hnod : (Tm.mk k n s A c a).nodes = 1 + nodesL a := rfl
    have hln : a.length ≤ 2500000 := by have := length_le_nodes a; omega
    have c0 := hg.g.hdr
    have c0x := al1 c0
    have hv0 := hg.vc
    have hvx := al1 hv0
    have hpl := hg.g.lt
    have HAT := Lib.hid hat
    have HLS := Lib.hid (show Lst w0 A a c from hat.lst)
    have HF := Lib.hid hform
    have HBW := Lib.hid hbw
    have HFM := Lib.hid hfm
    have HG0 := Lib.hid hg
    have QI := Lib.hid ih
    have HSZ := Lib.hid hsz
    have HG1 := Lib.hid (hg.alloc (.cells #[.int .i64 k, .int .i64 n, .string s, .slice A a.length c] 26))
    clear ih hat hform hbw hg hfm hsz hnod
    have HBX := Lib.hid (fun (W : World) (hW : AddFr p mb (.slice zA G.length zc) (w.alloc (.cells #[.int .i64 k, .int .i64 n, .string s, .slice A a.length c] 26)) W) (j : Nat) => show W.cell? ⟨w.heap.size, j, none⟩ = (#[Value.int .i64 k, .int .i64 n, .string s, .slice A a.length c] : Array Value)[j]? from by
      have h1 := HG0.out.g.lt
      obtain ⟨D, h2, _⟩ := HG0.out.vm
      have h3 := h2.lt
      rw [hW.cell (a := ⟨w.heap.size, j, none⟩) (by simp) (by show w.heap.size ≠ p; omega) (by show w.heap.size ≠ mb; omega) (fun e => by have := (HG0.out.zlo _ e).2; exact absurd this (Nat.lt_irrefl _)), World.cell?_alloc_at _ _ _ _ rfl])
    by_cases hk : k = 1
    case' pos =>
      obtain ⟨D, hown, hvm⟩ := HG1.out.drew.vm
      have hkb : (k == 1) = true := by simpa using hk
      have HK := Lib.hid hk
      clear hk
      rcases look_var hown hvm hfits.2.1 with ⟨i, hi, hki, hni, hlk⟩ | ⟨hno, v, hlk⟩
      · have HE := Lib.hid (show ∀ W, Gadd w0.heap.size Y W p mb (.slice zA G.length zc) G → Below w.heap.size w W → AddR w0.heap.size Y p mb (.slice zA G.length zc) G (.mk k n s A c a) w (.returned (.int .i64 (i : Nat))) W from fun W hG hW =>
          AddR.same hG hW hi (gform_at HG0.out HFM.out hi hki HF.out HK.out hni))
        clear hvm hown HBX
        go_enter Tryz.func66, Tryz.ntmps66
        go_wp2_with fail
        go_region
        go_wp2_with fail
        go_ret
        exact HE.out _ HG1.out.drew (below1 w _).drew
      have hown1 := hown.drew
      clear hown
      obtain ⟨w1, hup, hown2, hg2⟩ := hown1.update keyed Tryz.underlying59 (by have := hsm; unfold maxLen; omega) (Maps.keyOf_int_mk Tryz.underlying3 (fits_wf hfits.2.1)) (plainElem_int Tryz.underlying3 (a := (G.length : Int)) (fits_wf (by unfold Fits; omega)))
      have hfr1 : AddFr p mb (.slice zA G.length zc) (w.alloc (.cells #[.int .i64 k, .int .i64 n, .string s, .slice A a.length c] 26)) w1 := ⟨hg2.os, hg2.tape, hg2.output, hg2.size, fun b h1 _ h3 _ => hg2.block b h1 (by simpa using h3)⟩
      have HPA := Lib.hid (show PreApp w0.heap.size Y p mb (.slice zA G.length zc) G ⟨.mk k n s A c a, none, 0, [], G.length⟩ w w1 from
        ⟨HG1.out.drew.drew.g.fr hg2 (by simpa using Ne.symm HG0.out.pm) (.inr HG0.out.zm) (fun b e _ => .inr (.inl (by simpa using e.symm))),
          (fr_cell hg2 (p := ⟨p, 1, none⟩) HG1.out.g.lt (by simpa using HG0.out.pm)).trans HG1.out.drew.drew.vc, ⟨_, hown2, hvm.put (x := ⟨.mk k n s A c a, none, 0, [], G.length⟩) HK.out hfits.2.1 hno⟩,
          fun j => (fr_frozen hg2 (p := ⟨p, j, none⟩) HG1.out.g.lt (by simpa using HG0.out.pm)).trans (HG1.out.fz j), HBX.out w1 hfr1 0, HBX.out w1 hfr1 1, HBX.out w1 hfr1 2, HBX.out w1 hfr1 3, by have := hfr1.size; simp at this; omega, (AddFr.of (below1 w _)).trans hfr1 (.inl rfl)⟩)
      clear hvm hown1 hown2 hg2 hfr1 HBX hno
      go_enter Tryz.func66, Tryz.ntmps66
      go_wp2_with fail
      go_region
      go_wp2_with fail
      go_region
      go_wp2_with fail
    case' neg =>
      have hk1 : (k == 1) = false := by simpa using hk
      go_enter Tryz.func66, Tryz.ntmps66
      go_wp2_with fail
      have HPA := Lib.hid (show PreApp w0.heap.size Y p mb (.slice zA G.length zc) G ⟨.mk k n s A c a, none, 0, [], G.length⟩ w (w.alloc (.cells #[.int .i64 k, .int .i64 n, .string s, .slice A a.length c] 26)) from by
        obtain ⟨D, h1, h2⟩ := HG1.out.vm
        exact ⟨HG1.out.g, HG1.out.vc, ⟨D, h1.mono (Nat.le_succ _), h2.nonvar hk⟩, HG1.out.fz, HBX.out _ (AddFr.refl _ _ _ _) 0, HBX.out _ (AddFr.refl _ _ _ _) 1, HBX.out _ (AddFr.refl _ _ _ _) 2, HBX.out _ (AddFr.refl _ _ _ _) 3, by simp, AddFr.of (below1 w _)⟩)
      clear HBX
      generalize w.alloc (.cells #[.int .i64 k, .int .i64 n, .string s, .slice A a.length c] 26) = w1 at *
    all_goals
      have HX := Lib.hid (show Fine (⟨.mk k n s A c a, none, 0, [], G.length⟩ : Nd) from ⟨hfits.1, hfits.2.1, hfits.2.2, ⟨HAT.out.lst.1, HAT.out.lst.2.1⟩, Nat.zero_le _⟩)
      have p0 := HPA.out.g.hdr
      have p0x := al1 p0
      have fz0 := HPA.out.fz 0
      have b0 := HPA.out.b0
      have b1 := HPA.out.b1
      have b2 := HPA.out.b2
      have b3 := HPA.out.b3
      simp only [Tm.kind, Tm.num, Tm.name, Tm.at_, Tm.args, Tm.cap] at b0 b1 b2 b3
      have b0x := al1 b0
      have b1x := al1 b1
      have b2x := al1 b2
      have b3x := al1 b3
      have hpl1 := HPA.out.g.lt
      clear c0 c0x hv0 hvx HG1
      go_region_law (first
        | (refine step_append_lies _ (by rfl) _ _ _ (by rfl) w0.heap.size 66 i0 _ 6 88 Tryz.underlying58 hi0 hz0 hz1 hz2 rfl (by omega) (.slice zA G.length zc) G.length (gcells G) (by rfl) (HPA.out.g.row.alloc _) ⟨w1.heap.size, 0, none⟩ 1 1 [.int .i64 k, .int .i64 n, .string s, .slice A a.length c, .slice none 0 0, .int .i64 (G.length : Nat)] (by rfl) (by rfl) (World.news_of_block (cs := #[.int .i64 k, .int .i64 n, .string s, .slice A a.length c, .slice none 0 0, .int .i64 (G.length : Nat)]) (t := 66) (fr := (0, 0)) (heap_alloc_new w1 _)) (by simp [Value.oneCell']) (by omega) (by unfold maxLen; omega) (by omega) (by have := HBW.out.size; have := HPA.out.fr.size; simp; omega) (w1.heap.size + 1) (by simp) ?_; intro g cap w3 hown hgrow hat hgl; have p3 := (fr_cell (fr_trans (World.grownBy_alloc w1 _ _) (undrew_gr hgrow)) (p := ⟨p, 0, none⟩) hpl1 (fun e => HPA.out.g.np e.symm)).trans p0; have fz3 := (fr_frozen (fr_trans (World.grownBy_alloc w1 _ _) (undrew_gr hgrow)) (p := ⟨p, 0, none⟩) hpl1 (fun e => HPA.out.g.np e.symm)).trans fz0))
      all_goals
        obtain ⟨D2, hD2, hV2⟩ := HPA.out.vm
        have hGA := gadd_append (x := ⟨.mk k n s A c a, none, 0, [], G.length⟩) HPA.out.g HPA.out.vc hD2 hV2 HG0.out.pm HG0.out.zm HG0.out.lp HG0.out.lm HPA.out.fz HX.out ⟨rfl, rfl, rfl⟩ (by have := HSZ.out; have : (Tm.mk k n s A c a).nodes = 1 + nodesL a := rfl; omega) hown (undrew_gr hgrow) hat
        have hq3 := (hGA.2.1.cell (a := ⟨w.heap.size, 3, none⟩) HPA.out.lt (by show w.heap.size ≠ p; omega) (by show w.heap.size ≠ mb; obtain ⟨D, h2, _⟩ := HG0.out.vm; have := h2.lt; omega) (fun e => by have := (HG0.out.zlo _ e).2; exact absurd this (Nat.lt_irrefl _))).trans b3
        have HGA := Lib.hid hGA
        have hgrow2 : w.heap.size < w3.heap.size := by have := HPA.out.lt; have := hgrow.size; simp at this; omega
        have hws : w0.heap.size ≤ w3.heap.size := by have := HBW.out.size; have := HPA.out.fr.size; have := hgrow.size; simp at this; omega
        clear hown hgrow hat hgl p3 fz3 b0 b1 b2 b3 b0x b1x b2x b3x p0 p0x fz0 hD2 hV2 hGA
        go_wp2_with (at_make; refine wpList_make_full _ rfl _ _ 30 rfl w0.heap.size 3 i1 _ 1 Tryz.underlying30 hi1 hy0 hy1 _ _ _ _ a.length rfl rfl rfl rfl (by rw [hy2]; omega) (by unfold maxLen; omega) (by simp [World.setCell]; omega) ?_; intro w5 hown5 hg5; have q3 := (fr_cell hg5 (p := ⟨w.heap.size, 3, none⟩) (World.block_lt_of_cell? _ _ hq3) (by simp)).trans hq3)
        have hb5 : Below (w3.setCell ⟨p, 0, none⟩ (.slice (some ⟨g, 0, none⟩) (G.length + 1) cap)).heap.size (w3.setCell ⟨p, 0, none⟩ (.slice (some ⟨g, 0, none⟩) (G.length + 1) cap)) w5 := ⟨hg5.os, hg5.tape, hg5.output, hg5.size, fun k hk => hg5.block k hk (by simp)⟩
        rw [made_ints] at hown5
        have hs3 : (w3.setCell ⟨p, 0, none⟩ (.slice (some ⟨g, 0, none⟩) (G.length + 1) cap)).heap.size = w3.heap.size := by simp [World.setCell]
        have hzg : (Value.slice (some ⟨g, 0, none⟩) (G.length + 1) cap).ownBlock ≠ some w3.heap.size := fun e => by have := (HGA.out.1.zlo _ e).2; rw [hs3] at this; exact absurd this (Nat.lt_irrefl _)
        have HL0 := Lib.hid (show AddLoop w0.heap.size Y p mb (.slice (some ⟨g, 0, none⟩) (G.length + 1) cap) (G ++ [⟨.mk k n s A c a, none, 0, [], G.length⟩]) a w3.heap.size (w3.setCell ⟨p, 0, none⟩ (.slice (some ⟨g, 0, none⟩) (G.length + 1) cap)) 0 w5 from
          ⟨_, _, [], (HGA.out.1.more (by rw [hs3]; exact Nat.le_refl _)).below hb5, ⟨[], by simp⟩, fun m h1 h2 => by omega, rfl, fun m hm => by omega, by simp [nodesL], by simpa using hown5, AddFr.of hb5, .inl rfl, hzg⟩)
        have hg0p : w3.heap.size ≠ p := by have := hgrow2; omega
        have hg0m : w3.heap.size ≠ mb := by obtain ⟨D, h2, _⟩ := HG0.out.vm; have := h2.lt; have := hgrow2; omega
        clear hown5 hg5 hb5 q3 hzg
        go_loopw [57] (fun s57 wr => ∃ j : Nat, j ≤ a.length ∧ s57 = .int .i64 (j : Nat) ∧ Hid (AddLoop w0.heap.size Y p mb (.slice (some ⟨g, 0, none⟩) (G.length + 1) cap) (G ++ [⟨.mk k n s A c a, none, 0, [], G.length⟩]) a w3.heap.size (w3.setCell ⟨p, 0, none⟩ (.slice (some ⟨g, 0, none⟩) (G.length + 1) cap)) j wr)) (fun s57 _ => a.length - (intOf s57).toNat)
        case atStart => exact ⟨0, Nat.zero_le _, rfl, HL0⟩
        case round =>
          clear HL0
          obtain ⟨j, hj, rfl, HL⟩ := hrel
          by_cases hlt : j < a.length
          · obtain ⟨z', G', ks, k1, k2, k3, k4, k5, k6, k7, k8, k9, k10⟩ := HL.out
            have HW := Lib.hid (show Below w0.heap.size w0 wr from by
              have h1 := (HPA.out.fr.below HBW.out HG0.out.lp HG0.out.lm (fun b e => (HG0.out.zlo b e).1))
              have h2 := HGA.out.2.1.below h1 HG0.out.lp HG0.out.lm (fun b e => (HG0.out.zlo b e).1)
              exact k8.below h2 HG0.out.lp HG0.out.lm (fun b e => (HGA.out.1.zlo b e).1))
            obtain ⟨b, o, rfl, ⟨d0, d1, d2, d3⟩, _⟩ := (HLS.out.below HW.out).get hlt
            obtain ⟨x, hx⟩ : ∃ x, x = a.getD j default := ⟨_, rfl⟩
            have hxa : x ∈ a := by rw [hx]; exact getD_mem hlt
            rw [← hx] at d0 d1 d2 d3
            have hnx := nodesL_next hlt
            have htk := nodesL_take a (j + 1)
            have hnod : (Tm.mk k n s (some ⟨b, o, none⟩) c a).nodes = 1 + nodesL a := rfl
            have HQ := Lib.hid (fun B => QI.out x hxa (fun k => Y k ∨ k = w3.heap.size) G' z' (wr.alloc B) (HLS.out.mem hxa) (formL_mem hxa (form_args HF.out).2) (HW.out.alloc HW.out.size _) (k1.alloc B) (fun i hi => by
              obtain ⟨N, rfl⟩ := k2
              by_cases h1 : i < (G ++ [(⟨.mk k n s (some ⟨b, o, none⟩) c a, none, 0, [], G.length⟩ : Nd)]).length
              · rw [nd_left h1]
                by_cases h2 : i < G.length
                · rw [nd_left h2]; exact HFM.out i h2
                · obtain rfl : i = G.length := by simp at h1; omega
                  rw [nd_new]; exact HF.out
              · exact (k3 i (by omega) hi).1.form) (fun y hy => by
              have := k8.size
              rw [hs3] at this
              rcases hy with hy | hy
              · have := hY y hy; simp; omega
              · have := own_block_lt k7; simp; omega) (by
              have := HSZ.out
              rw [← hx] at hnx
              simp only [List.length_append, List.length_cons, List.length_nil] at k6
              omega))
            have hcell := World.ownsRow.cellAt k7 j (by omega)
            have hfro := World.ownsRow.frozenAt k7 j
            have hcl : ((ks.map fun i => Value.int .i64 (i : Nat)) ++ List.replicate (a.length - j) (Value.int .i64 0))[j]? = some (.int .i64 0) := by
              rw [List.getElem?_append_right (by simp [k4]), List.length_map, k4, Nat.sub_self, List.getElem?_replicate, if_pos (by omega)]
            rw [hcl] at hcell
            have hgw : w3.heap.size < wr.heap.size := own_block_lt k7
            have HNX := Lib.hid (fun B i z2 G2 w2 => addloop_next (Y := Y) (wb := wr.alloc B) (i := i) (z2 := z2) (G2 := G2) (w2 := w2) hlt hg0p hg0m (by rw [hs3]; exact Nat.le_refl _) k2 k3 k4 k5 k6 k7 k8 k9 k10 (below1 wr B))
            have HCF := Lib.hid (fun B w2 (h : AddFr p mb z' (wr.alloc B) w2) => show w2.cell? ⟨w3.heap.size, j, none⟩ = some (.int .i64 0) ∧ w2.frozen? ⟨w3.heap.size, j, none⟩ = false from
              ⟨(h.cell (a := ⟨w3.heap.size, j, none⟩) (by simp; omega) hg0p hg0m k10).trans (al1 hcell B), (h.frozen (a := ⟨w3.heap.size, j, none⟩) (by simp; omega) hg0p hg0m k10).trans (by rw [(below1 wr B).frozen (p := ⟨w3.heap.size, j, none⟩) hgw]; exact hfro)⟩)
            have HX2 := Lib.hid hx
            clear k1 k2 k3 k4 k5 k6 k7 k8 k9 k10 hcl hcell hfro hnx htk hnod hxa hx HL
            obtain ⟨kx, nx, sx, Ax, cx, lx⟩ := x
            simp only [Tm.kind, Tm.num, Tm.name, Tm.at_, Tm.args, Tm.cap] at d0 d1 d2 d3
            go_wp2_with fail
            refine (HQ.out _).mono ?_
            rintro e w2 ⟨z2, G2, i, rfl, m1, m2, m3, m4, m5, m6, m7, m8⟩
            obtain ⟨hc2, hf2⟩ := HCF.out _ w2 m7
            have HE := Lib.hid (HNX.out _ i z2 G2 w2 m1 m2 m3 m4 (by rw [m5, HX2.out]) (by rw [← HX2.out]; exact m6) m7 m8)
            clear m1 m2 m3 m4 m5 m6 m7 m8
            go_wp2_with fail
            go_roundw
            case rel => exact ⟨j + 1, by omega, by go_num, HE⟩
            case measure => simp [intOf]; omega
          · obtain rfl : j = a.length := by omega
            have hsz2 := HSZ.out
            have hw1 := HPA.out.fr.size
            obtain ⟨q, n2, cap2, e0, e1, e2, ⟨v2, e3⟩, e4, hR⟩ := add_done (x := ⟨.mk k n s A c a, none, 0, [], G.length⟩) HL.out HF.out rfl (HPA.out.fr.trans HGA.out.2.1 (.inl rfl)) (by
              rcases HGA.out.2.2 with h | h
              · exact .inl h
              · exact .inr fun b e => by have := h b e; omega) hg0p hg0m hws (fun h => by have := hY _ h; omega) hsz2
            have HE := Lib.hid hR
            have hGn : (G.length : Int) < (n2 : Int) := by omega
            clear hR HL
            go_wp2_with fail
            go_ret
            exact HE.out
end Go.Proofs.YtelkmnjoboekmaaGreat
