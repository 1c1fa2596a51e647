/-
  Contract of order of the program: the nodes, each one before those that stand for the classes of its arguments.
  Nodes are added to the program's graph: what stays, the map of the variables, the frame. No walk.
-/
import Derived.Test.YtelkmnjoboekmaaGreatMb11
import Derived.Test.YtelkmnjoboekmaaGreatMb12
import Derived.Test.YtelkmnjoboekmaaGreatMb5
import Derived.Maps.OwnOps
import Derived.Maps.OwnSet
import Derived.Maps.Views
namespace Go.Proofs.YtelkmnjoboekmaaGreat
open Go.RowKit

abbrev nums (l : List Nat) : List Value := l.map fun i => .int .i64 (i : Nat)
section
variable {w : World} {base g n c : Nat} {l : List Nat}
theorem nums_cell (h : w.ownsRow base 3 1 (.slice (some ⟨g, 0, none⟩) n c) n (nums l)) {v : Nat} (hv : v < l.length) : w.cell? ⟨g, v, none⟩ = some (.int .i64 ((l.getD v 0 : Nat) : Int)) := by
  have hlen : l.length = n := by have := h.1; simpa using this
  rw [World.ownsRow.cellAt h v (by omega)]
  simp [List.getD, hv]
theorem nums_set (h : w.ownsRow base 3 1 (.slice (some ⟨g, 0, none⟩) n c) n (nums l)) (v x : Nat) : (w.setCell ⟨g, v, none⟩ (.int .i64 (x : Nat))).ownsRow base 3 1 (.slice (some ⟨g, 0, none⟩) n c) n (nums (l.set v x)) := by
  have := (World.ownsRow.stored h v (.int .i64 (x : Nat))).1
  unfold nums
  rw [List.map_set]
  exact this
theorem nums_one (l : List Nat) : ∀ u ∈ nums l, u.oneCell' = true := by
  intro u hu
  obtain ⟨_, _, rfl⟩ := List.mem_map.1 hu
  rfl
end
theorem made_nums (L : Nat) : (madeCells (Value.int .i64 0).cells (L * 1)).toList = nums (List.replicate L 0) := by
  rw [Nat.mul_one]
  unfold nums
  rw [List.map_replicate]
  exact toList_madeCells_one (Value.int .i64 0) L

/-- The first loop: the arguments of j nodes, and k of the next one, are counted. -/
structure Counting (lo : Nat) (X : Nat → Prop) (p : Nat) (z : Value) (G : List Nd) (root r : Nat → Nat) (w : World) (ub : Nat) (us : List Nat) (j k : Nat) (wr : World) : Prop where
  g : ∃ H, Alike G H ∧ UF H root r ∧ Gph lo X wr p z H
  fr : w.grownBy wr z.ownBlock
  row : wr.ownsRow w.heap.size 3 1 (.slice (some ⟨ub, 0, none⟩) G.length G.length) G.length (nums us)
  len : us.length = G.length
  us : ∀ v, v < G.length → us.getD v 0 = sumTo (uses G root v) j + (((nd G j).kids.take k).map root).count v

theorem set_getD (l : List Nat) {i v x : Nat} (hi : i < l.length) : (l.set i x).getD v 0 = if v = i then x else l.getD v 0 := by
  by_cases e : v = i
  · subst e; simp [List.getD, hi]
  · rw [if_neg e]; simp [List.getD, Ne.symm e]
section
variable {lo p ub j k rc : Nat} {X : Nat → Prop} {z : Value} {G : List Nd} {root r : Nat → Nat} {w wr w3 : World} {us : List Nat}
/-- A store into a row of the call's own. -/
theorem own_store (h0 : Gph lo X w p z G) (hG : ∃ H, Alike G H ∧ UF H root r ∧ Gph lo X w3 p z H) (hfr : w.grownBy w3 z.ownBlock) (hub : w.heap.size ≤ ub) (i : Nat) (v : Value) :
    (∃ H, Alike G H ∧ UF H root r ∧ Gph lo X (w3.setCell ⟨ub, i, none⟩ v) p z H) ∧ w.grownBy (w3.setCell ⟨ub, i, none⟩ v) z.ownBlock := by
  obtain ⟨H, h1, h2, h3⟩ := hG
  have hf : w.grownBy (w3.setCell ⟨ub, i, none⟩ v) z.ownBlock := fr_own hfr hub v
  refine ⟨⟨H, h1, h2, Gph.renew h0 h1 h3 hf (fr_set (fr_refl w3 (some ub)) rfl v) ?_⟩, hf⟩
  cases hz : z.ownBlock with
  | none => exact .inl rfl
  | some b =>
    refine .inr fun e => ?_
    have := (own_lt h0.row b hz).2
    injection e with e
    omega
theorem Counting.next (h : Counting lo X p z G root r w ub us j k wr) (h0 : Gph lo X w p z G) (hub : w.heap.size ≤ ub) (hk : k < (nd G j).kids.length) (hrc : root ((nd G j).kids.getD k 0) = rc) (hrl : rc < G.length)
    (hG : ∃ H, Alike G H ∧ UF H root r ∧ Gph lo X w3 p z H) (hfr : wr.grownBy w3 z.ownBlock) :
    w3.cell? ⟨ub, rc, none⟩ = some (.int .i64 ((us.getD rc 0 : Nat) : Int)) ∧ w3.frozen? ⟨ub, rc, none⟩ = false ∧ Counting lo X p z G root r w ub (us.set rc (us.getD rc 0 + 1)) j (k + 1) (w3.setCell ⟨ub, rc, none⟩ (.int .i64 (((us.getD rc 0 : Nat) : Int) + 1))) := by
  show _ ∧ _ ∧ Counting lo X p z G root r w ub (us.set rc (us.getD rc 0 + 1)) j (k + 1) (w3.setCell ⟨ub, rc, none⟩ (.int .i64 ((us.getD rc 0 + 1 : Nat) : Int)))
  have hrl2 : rc < us.length := by rw [h.len]; exact hrl
  have hzu : (Value.slice (some ⟨ub, 0, none⟩) G.length G.length).ownBlock = none ∨ (Value.slice (some ⟨ub, 0, none⟩) G.length G.length).ownBlock ≠ z.ownBlock := .inr fun e => by
    have := (own_lt h0.row ub e.symm).2
    omega
  have hrow := World.ownsRow.kept h.row hfr hzu
  have hs := own_store h0 hG (fr_trans h.fr hfr) hub rc (.int .i64 ((us.getD rc 0 + 1 : Nat) : Int))
  refine ⟨nums_cell hrow hrl2, World.ownsRow.frozenAt hrow rc, hs.1, hs.2, nums_set hrow rc _, by rw [List.length_set]; exact h.len, fun v hv => ?_⟩
  rw [set_getD _ hrl2, nat_take_next hk, List.map_append, List.count_append, h.us v hv]
  simp only [List.map_cons, List.map_nil, hrc, List.count_cons, List.count_nil]
  by_cases e : v = rc
  · subst e
    rw [if_pos rfl, h.us v hv]
    simp
    omega
  · rw [if_neg e]; simp [Ne.symm e]
theorem Counting.wrap (h : Counting lo X p z G root r w ub us j (nd G j).kids.length wr) : Counting lo X p z G root r w ub us (j + 1) 0 wr := by
  refine ⟨h.g, h.fr, h.row, h.len, fun v hv => ?_⟩
  rw [h.us v hv, List.take_length]
  simp [sumTo, uses]
theorem Counting.below (h : Counting lo X p z G root r w ub us j k wr) (hb : Below wr.heap.size wr w3) : Counting lo X p z G root r w ub us j k w3 := by
  obtain ⟨H, h1, h2, h3⟩ := h.g
  exact ⟨⟨H, h1, h2, h3.below hb⟩, fr_trans h.fr (fr_below hb _), own_below h.row hb, h.len, h.us⟩
theorem Counting.bound (h : Counting lo X p z G root r w ub us j k wr) (h0 : Gph lo X w p z G) (hj : j ≤ G.length) {v : Nat} (hv : v < G.length) : us.getD v 0 ≤ 6250002500000 := by
  rw [h.us v hv]
  have h1 : sumTo (uses G root v) j ≤ j * 2500000 := sumTo_le fun i hi => Nat.le_trans (uses_le G root v i) (h0.fine i (by omega)).kids
  have h2 := List.count_le_length (a := v) (l := ((nd G j).kids.take k).map root)
  rw [List.length_map] at h2
  have h3 : ((nd G j).kids.take k).length ≤ 2500000 := by
    rw [List.length_take]
    by_cases hjl : j < G.length
    · have := (h0.fine j hjl).kids; omega
    · have : nd G j = default := by simp [nd, List.getD, List.getElem?_eq_none (show G.length ≤ j by omega)]
      rw [this]
      show min k 0 ≤ _
      omega
  have h4 := h0.small
  have h5 : j * 2500000 ≤ 2500000 * 2500000 := Nat.mul_le_mul_right _ (by omega)
  omega
end

/-- The rows of the call's own: us (what is still used) and ord (the order so far). -/
structure Rows (lo : Nat) (X : Nat → Prop) (p : Nat) (z : Value) (G : List Nd) (root r : Nat → Nat) (w : World) (ub : Nat) (us ord : List Nat) (v : Value) (wr : World) : Prop where
  g : ∃ H, Alike G H ∧ UF H root r ∧ Gph lo X wr p z H
  fr : w.grownBy wr z.ownBlock
  row : wr.ownsRow w.heap.size 3 1 (.slice (some ⟨ub, 0, none⟩) G.length G.length) G.length (nums us)
  len : us.length = G.length
  orow : wr.ownsRow w.heap.size 3 1 v ord.length (nums ord)
  ne : v.ownBlock ≠ some ub
section
variable {lo p ub rc : Nat} {X : Nat → Prop} {z v : Value} {G : List Nd} {root r : Nat → Nat} {w wr w3 : World} {us ord : List Nat}
theorem own_ne {base : Nat} {e : TypeId} {size n : Nat} {xs : List Value} (h0 : Gph lo X w p z G) (hv : wr.ownsRow base e size v n xs) (hb : w.heap.size ≤ base) : v.ownBlock = none ∨ v.ownBlock ≠ z.ownBlock := by
  cases h : v.ownBlock with
  | none => exact .inl rfl
  | some b =>
    refine .inr fun e => ?_
    have h1 := (own_lt hv b h).1
    have h2 := (own_lt h0.row b e.symm).2
    omega
theorem Rows.find (h : Rows lo X p z G root r w ub us ord v wr) (h0 : Gph lo X w p z G) (hG : ∃ H, Alike G H ∧ UF H root r ∧ Gph lo X w3 p z H) (hfr : wr.grownBy w3 z.ownBlock) : Rows lo X p z G root r w ub us ord v w3 :=
  ⟨hG, fr_trans h.fr hfr, World.ownsRow.kept h.row hfr (own_ne h0 h.row (Nat.le_refl _)), h.len, World.ownsRow.kept h.orow hfr (own_ne h0 h.orow (Nat.le_refl _)), h.ne⟩
theorem Rows.set (h : Rows lo X p z G root r w ub us ord v wr) (h0 : Gph lo X w p z G) (hub : w.heap.size ≤ ub) (i x : Nat) : Rows lo X p z G root r w ub (us.set i x) ord v (wr.setCell ⟨ub, i, none⟩ (.int .i64 (x : Nat))) := by
  have hs := own_store h0 h.g h.fr hub i (.int .i64 (x : Nat))
  refine ⟨hs.1, hs.2, nums_set h.row i x, by rw [List.length_set]; exact h.len, World.ownsRow.kept h.orow (fr_set (fr_refl wr (some ub)) rfl _) (.inr h.ne), h.ne⟩
theorem Rows.drew (h : Rows lo X p z G root r w ub us ord v wr) : Rows lo X p z G root r w ub us ord v wr.drew := by
  obtain ⟨H, h1, h2, h3⟩ := h.g
  exact ⟨⟨H, h1, h2, h3.drew⟩, fr_drew h.fr, World.ownsRow.drew h.row, h.len, World.ownsRow.drew h.orow, h.ne⟩
theorem Rows.append {o : Obj} {w8 : World} {g cap x : Nat} (h : Rows lo X p z G root r w ub us ord v wr) (h0 : Gph lo X w p z G)
    (hown : w8.ownsRow w.heap.size 3 1 (.slice (some ⟨g, 0, none⟩) (ord.length + 1) cap) (ord.length + 1) (nums ord ++ [.int .i64 (x : Nat)])) (hg : (wr.alloc o).grownBy w8 v.ownBlock) (hat : v.ownBlock = some g ∨ g = wr.heap.size + 1) :
    Rows lo X p z G root r w ub us (ord ++ [x]) (.slice (some ⟨g, 0, none⟩) (ord.length + 1) cap) w8 := by
  obtain ⟨H, h1, h2, h3⟩ := h.g
  have hg1 := fr_alloc h.fr o
  have hg2 : w.grownBy w8 z.ownBlock := fr_grow hg1 hg fun k hk => (own_lt h.orow k hk).1
  have hub := own_block_lt h.row
  refine ⟨⟨H, h1, h2, Gph.renew h0 h1 (h3.alloc o) hg2 hg ?_⟩, hg2, World.ownsRow.kept (World.ownsRow.alloc h.row o) hg (.inr fun e => h.ne e.symm), h.len, ?_, fun e => ?_⟩
  · cases hz : z.ownBlock with
    | none => exact .inl rfl
    | some b =>
      refine .inr fun e => ?_
      have h4 := (own_lt h.orow b e.symm).1
      have h5 := (own_lt h0.row b hz).2
      omega
  · unfold nums at hown ⊢
    rw [List.map_append, List.length_append]
    exact hown
  · have e' : g = ub := by simpa [Value.ownBlock] using e
    rcases hat with h' | h'
    · exact h.ne (by rw [h', e'])
    · omega
/-- What order answers. -/
def OrderR (lo : Nat) (X : Nat → Prop) (p : Nat) (z : Value) (G : List Nd) (root r : Nat → Nat) (w : World) (e : Ending) (w' : World) : Prop :=
  ∃ (H : List Nd) (A : Option Addr) (c : Nat) (ord us : List Nat), e = .returned (.tuple #[.slice A ord.length c, .bool (decide (ord.length = G.length))]) ∧ Alike G H ∧ UF H root r ∧ Gph lo X w' p z H ∧ w.grownBy w' z.ownBlock ∧
    w'.ownsRow w.heap.size 3 1 (.slice A ord.length c) ord.length (nums ord) ∧ Ordering G root ord ord.length [] us
theorem ordering_start {G : List Nd} {root : Nat → Nat} {us : List Nat} (hl : us.length = G.length) (hus : ∀ v, v < G.length → us.getD v 0 = sumTo (uses G root v) G.length) : Ordering G root ((List.range G.length).filter fun v => us.getD v 0 == 0) 0 [] us := by
  refine ⟨List.nodup_range.filter _, fun i hi => List.mem_range.1 (List.mem_filter.1 hi).1, hl, fun v hv => ?_, fun v hv => ?_, fun s hs j hj hu => ?_⟩
  · rw [hus v hv, List.take_zero, List.count_nil, Nat.add_zero]
    exact sumTo_congr fun j _ => by simp
  · rw [List.mem_filter, List.mem_range]
    simp [hv]
  · exfalso
    have hm := nat_getD_mem hs
    have h1 := (List.mem_filter.1 hm)
    have h2 := List.mem_range.1 h1.1
    have h3 : us.getD (((List.range G.length).filter fun v => us.getD v 0 == 0).getD s 0) 0 = 0 := by simpa using h1.2
    rw [hus _ h2] at h3
    exact hu (sumTo_zero.1 h3 j hj)
theorem inews (w : World) (x : Value) (T : TypeId) : ∀ j v, ([x] : List Value)[j]? = some v → (w.alloc (.cells #[x] T)).cell? ((⟨w.heap.size, 0, none⟩ : Addr).add j) = some v := by
  intro j v hv
  rw [add_plain, Nat.zero_add, World.cell?_alloc_at _ _ _ _ rfl, ← hv, show (#[x] : Array Value) = [x].toArray from rfl, List.getElem?_toArray]
theorem filter_next (us : List Nat) (i : Nat) : (List.range (i + 1)).filter (fun v => us.getD v 0 == 0) = (List.range i).filter (fun v => us.getD v 0 == 0) ++ (if us.getD i 0 = 0 then [i] else []) := by
  rw [List.range_succ, List.filter_append]
  congr 1
  by_cases h : us.getD i 0 = 0
  · rw [if_pos h]
    have : (us.getD i 0 == 0) = true := by rw [h]; rfl
    simp only [List.filter, this]
  · rw [if_neg h]
    have : (us.getD i 0 == 0) = false := by
      cases e : (us.getD i 0 == 0)
      · rfl
      · exact absurd (beq_iff_eq.1 e) h
    simp only [List.filter, this]
end

set_option maxHeartbeats 4000000 in
set_option maxRecDepth 100000 in
theorem order_at {lo : Nat} {X : Nat → Prop} {p : Nat} {z : Value} {G : List Nd} {root r : Nat → Nat} {w : World} (h : Gph lo X w p z G) (hu : UF G root r) (hok : Ok G) :
    Calls Tryz.prog 67 #[.pointer (some ⟨p, 0, none⟩)] w (OrderR lo X p z G root r w) := by
  obtain ⟨zA, zc, rfl, _⟩ := h.slice
  obtain ⟨i1, hi1, hy0, hy1, hy2⟩ := info_parts int_info
  have hsm := h.small
  have c0 := h.hdr
  have HG := Lib.hid h
  have HU := Lib.hid hu
  have HOK := Lib.hid hok
  have hpl := h.lt
  clear h hu hok
  go_enter Tryz.func67, Tryz.ntmps67
  go_wp2_with (at_make; refine wpList_make_full _ rfl _ _ 30 rfl w.heap.size 3 i1 _ 1 Tryz.underlying30 hi1 hy0 hy1 _ _ _ _ G.length rfl rfl rfl rfl (by rw [hy2]; omega) (by unfold maxLen; omega) (Nat.le_refl _) ?_; intro w1 hown1 hg1; have c1 := (fr_cell hg1 (p := ⟨p, 0, none⟩) hpl (by simp)).trans c0)
  have hb1 : Below w.heap.size w w1 := ⟨hg1.os, hg1.tape, hg1.output, hg1.size, fun k hk => hg1.block k hk (by simp)⟩
  rw [made_nums] at hown1
  have HC0 := Lib.hid (show Counting lo X p (.slice zA G.length zc) G root r w w.heap.size (List.replicate G.length 0) 0 0 w1 from
    ⟨⟨G, Alike.refl _, HU.out, HG.out.below hb1⟩, fr_below hb1 _, hown1, by simp, fun v hv => by simp [sumTo, List.getD, hv]⟩)
  clear hown1 hg1 hb1
  go_loopw [27] (fun s27 wr => ∃ (j : Nat) (us : List Nat), j ≤ G.length ∧ s27 = .int .i64 (j : Nat) ∧ Hid (Counting lo X p (.slice zA G.length zc) G root r w w.heap.size us j 0 wr)) (fun s27 _ => G.length - (intOf s27).toNat)
  case atStart => exact ⟨0, _, Nat.zero_le _, rfl, HC0⟩
  case round =>
    clear HC0
    obtain ⟨j, us, hj, rfl, HC⟩ := hrel
    by_cases hlt : j < G.length
    · obtain ⟨H, e1, e2, e3⟩ := HC.out.g
      obtain ⟨q, cap, hz, _⟩ := e3.form (by rw [e1.len]; omega)
      injection hz with hz1 hz3 hz2
      subst hz1 hz2
      clear hz3
      have hjH : j < H.length := by rw [e1.len]; exact hlt
      obtain ⟨d0, d1, d2, d3, d4, d5⟩ := e3.cells hjH
      rw [(e1.tm hlt).2.1, (e1.tm hlt).2.2.1, (e1.tm hlt).2.2.2] at d4
      have HKI := Lib.hid (show ∀ W, w.grownBy W (some q) → IRow W (nd G j).A (nd G j).kids (nd G j).cap from fun W hW => ((HG.out.kids j hlt).fr hW fun b hb _ => .inl hb).at)
      have HKM := Lib.hid (fun c hc => (HOK.out j hlt).mem (c := c) hc)
      have hkl := (HG.out.fine j hlt).kids
      obtain ⟨lk, hlk⟩ : ∃ l, l = (nd G j).kids := ⟨_, rfl⟩
      obtain ⟨Aj, hAj⟩ : ∃ l, l = (nd G j).A := ⟨_, rfl⟩
      obtain ⟨cj, hcj⟩ : ∃ l, l = (nd G j).cap := ⟨_, rfl⟩
      rw [← hlk, ← hAj, ← hcj] at HKI d4
      rw [← hlk] at HKM hkl
      have HLK := Lib.hid hlk
      have HCI := Lib.hid (fun o => HC.out.below (below1 wr o))
      have hlk9 : lk.length ≤ 9223372036854775807 := by omega
      clear hlk hAj hcj e1 e2 e3 hjH HC
      go_wp2_with fail
      rename World => wb
      go_loopw [34] (fun s34 wr => ∃ (k : Nat) (us : List Nat), k ≤ lk.length ∧ s34 = .int .i64 (k : Nat) ∧ Hid (Counting lo X p (.slice (some ⟨q, 0, none⟩) G.length zc) G root r w w.heap.size us j k wr)) (fun s34 _ => lk.length - (intOf s34).toNat)
      case atStart => exact ⟨0, us, Nat.zero_le _, rfl, Lib.hid (HCI.out _)⟩
      case round =>
        clear HCI
        obtain ⟨k, us, hk, rfl, HC⟩ := hrel
        by_cases hlk2 : k < lk.length
        · obtain ⟨b, rfl, hb⟩ := (HKI.out wr HC.out.fr).2.2 (by omega)
          have b1 := hb k hlk2
          obtain ⟨c, hc⟩ : ∃ c, c = lk.getD k 0 := ⟨_, rfl⟩
          rw [← hc] at b1
          have hcG : c < G.length := HKM.out c (by rw [hc]; exact nat_getD_mem hlk2)
          obtain ⟨rc, hrc⟩ : ∃ rc, root c = rc := ⟨_, rfl⟩
          have hrl : rc < G.length := by rw [← hrc]; exact (HU.out.root_lt c hcG).1
          obtain ⟨H2, e1, e2, e3⟩ := HC.out.g
          have HQ := Lib.hid (find_to e3 e2 (show c < H2.length by rw [e1.len]; exact hcG) hrc)
          have HNX := Lib.hid (fun w3 hG hfr => HC.out.next (w3 := w3) HG.out (Nat.le_refl _) (show k < (nd G j).kids.length by rw [← HLK.out]; exact hlk2) (by rw [← HLK.out, ← hc]; exact hrc) hrl hG hfr)
          have hbd := HC.out.bound HG.out hj hrl
          have HE1 := Lib.hid e1
          clear hb hc hcG hrc e1 e2 e3 HC
          go_wp2_with fail
          refine (HQ.out).mono ?_
          rintro e w3 ⟨H3, rfl, m1, m2, m3, m4, m5⟩
          obtain ⟨u1, u2, u3⟩ := HNX.out w3 ⟨H3, HE1.out.trans m1, m2, m3⟩ m4
          have HE := Lib.hid u3
          clear m1 m2 m3 m4 m5 u3 HNX HQ
          generalize us.getD rc 0 = un at *
          go_wp2_with fail
          go_roundw
          case rel => exact ⟨k + 1, us.set rc (un + 1), by omega, by go_num, HE⟩
          case measure => simp [intOf]; omega
        · obtain rfl : k = lk.length := by omega
          have HE := Lib.hid (Counting.wrap (j := j) (by rw [← HLK.out]; exact HC.out))
          clear HC
          go_wp2_with fail
          go_roundw
          case rel => exact ⟨j + 1, us, by omega, by go_num, HE⟩
          case measure => simp [intOf]; omega
    · obtain rfl : j = G.length := by omega
      have HR0 := Lib.hid (show Rows lo X p (.slice zA G.length zc) G root r w w.heap.size us ((List.range 0).filter fun v => us.getD v 0 == 0) (.slice none 0 0) wr from ⟨HC.out.g, HC.out.fr, HC.out.row, HC.out.len, World.ownsRow_nil _ _ _ _, by simp [Value.ownBlock]⟩)
      have HUS := Lib.hid (show ∀ v, v < G.length → us.getD v 0 = sumTo (uses G root v) G.length from fun v hv => by
        have := HC.out.us v hv
        simpa using this)
      clear HC
      go_wp2_with fail
      rename World => wa
      go_loopw [9, 50] (fun s9 s50 wr => ∃ (i : Nat) (ord : List Nat) (A : Option Addr) (c : Nat), i ≤ G.length ∧ s50 = .int .i64 (i : Nat) ∧ s9 = .slice A ord.length c ∧ Hid (Rows lo X p (.slice zA G.length zc) G root r w w.heap.size us ord (.slice A ord.length c) wr ∧ ord = (List.range i).filter fun v => us.getD v 0 == 0)) (fun _ s50 _ => G.length - (intOf s50).toNat)
      case atStart => exact ⟨0, [], none, 0, Nat.zero_le _, rfl, rfl, Lib.hid ⟨HR0.out, rfl⟩⟩
      case round =>
        clear HR0
        obtain ⟨i, ord, A, c, hi, rfl, rfl, HR⟩ := hrel
        by_cases hlt : i < G.length
        · have u1 := nums_cell HR.out.1.row (v := i) (by rw [HR.out.1.len]; exact hlt)
          have hol : ord.length ≤ i := by
            rw [HR.out.2]
            have := List.length_filter_le (fun v => us.getD v 0 == 0) (List.range i)
            simpa using this
          obtain ⟨un, hun⟩ : ∃ n, n = us.getD i 0 := ⟨_, rfl⟩
          rw [← hun] at u1
          by_cases h0 : un = 0
          · have HN := Lib.hid (show (List.range (i + 1)).filter (fun v => us.getD v 0 == 0) = ord ++ [i] by rw [filter_next, ← hun, if_pos h0, ← HR.out.2])
            subst h0
            clear hun
            have hsz : w.heap.size ≤ wr.heap.size := HR.out.1.fr.size
            go_wp2_with (at_builtin; (refine wpList_append_lies _ rfl _ _ 30 rfl w.heap.size 3 i1 _ 1 8 Tryz.underlying30 hi1 hy0 hy1 hy2 rfl (by decide) _ ord.length (nums ord) rfl (HR.out.1.orow.alloc _) ⟨wr.heap.size, 0, none⟩ 1 1 [.int .i64 (i : Nat)] rfl rfl (inews wr _ _) (nums_one [i]) (by decide) (by unfold maxLen; omega) (by omega) (by simp; omega) _ rfl ?_); intro g cp w8 hown hg hat hglt; have HR2 := Lib.hid (HR.out.1.append HG.out hown hg (by rcases hat with h | h; exact .inl h; exact .inr (by rw [h]; simp))); clear hown hg hat hglt)
            go_roundw
            case rel => exact ⟨i + 1, ord ++ [i], some ⟨g, 0, none⟩, cp, by omega, by go_num, by simp, Lib.hid ⟨by simpa using HR2.out, HN.out.symm⟩⟩
            case measure => simp [intOf]; omega
          · have HN := Lib.hid (show (List.range (i + 1)).filter (fun v => us.getD v 0 == 0) = ord by rw [filter_next, ← hun, if_neg h0, ← HR.out.2, List.append_nil])
            have hne : ((un : Int) == 0) = false := by simp; omega
            clear hun h0
            go_wp2_with fail
            go_roundw
            case rel => exact ⟨i + 1, ord, A, c, by omega, by go_num, rfl, Lib.hid ⟨HR.out.1, HN.out.symm⟩⟩
            case measure => simp [intOf]; omega
        · obtain rfl : i = G.length := by omega
          have HO0 := Lib.hid (show Rows lo X p (.slice zA G.length zc) G root r w w.heap.size us ord (.slice A ord.length c) wr ∧ Ordering G root ord 0 [] us from ⟨HR.out.1, by rw [HR.out.2]; exact ordering_start HR.out.1.len HUS.out⟩)
          clear HR HUS
          go_wp2_with fail
          rename World => wd
          go_loopw [9, 12] (fun s9 s12 wr => ∃ (m : Nat) (ord : List Nat) (A : Option Addr) (c : Nat) (us : List Nat), s12 = .int .i64 (m : Nat) ∧ s9 = .slice A ord.length c ∧ m ≤ ord.length ∧ ord.length ≤ G.length ∧ Hid (Rows lo X p (.slice zA G.length zc) G root r w w.heap.size us ord (.slice A ord.length c) wr ∧ Ordering G root ord m [] us)) (fun _ s12 _ => G.length - (intOf s12).toNat)
          case atStart => exact ⟨0, ord, A, c, us, rfl, rfl, Nat.zero_le _, (pigeon _ _ HO0.out.2.nodup HO0.out.2.lt).1, HO0⟩
          case round =>
            clear HO0
            obtain ⟨m, ord, A, c, us, rfl, rfl, hm, hon, HO⟩ := hrel
            by_cases hlt : m < ord.length
            · obtain ⟨ob, oc, hv⟩ : ∃ ob oc, (Value.slice A ord.length c) = .slice (some ⟨ob, 0, none⟩) ord.length oc := by
                rcases HO.out.1.orow.2 with ⟨_, h'⟩ | ⟨g', cap', cur, h', _⟩
                · omega
                · exact ⟨g', cap', h'⟩
              injection hv with hv1 hv3 hv2
              subst hv1 hv2
              clear hv3
              have o1 := nums_cell HO.out.1.orow hlt
              obtain ⟨x, hx⟩ : ∃ x, x = ord.getD m 0 := ⟨_, rfl⟩
              have hxl : x < G.length := by rw [hx]; exact HO.out.2.lt _ (nat_getD_mem hlt)
              rw [← hx] at o1
              obtain ⟨H, e1, e2, e3⟩ := HO.out.1.g
              obtain ⟨q, cap, hz, _⟩ := e3.form (by rw [e1.len]; omega)
              injection hz with hz1 hz3 hz2
              subst hz1 hz2
              clear hz3
              have c9 := e3.hdr
              have d4 := (e3.cells (i := x) (by rw [e1.len]; exact hxl)).2.2.2.2.1
              rw [(e1.tm hxl).2.1, (e1.tm hxl).2.2.1, (e1.tm hxl).2.2.2] at d4
              have HKI := Lib.hid (show ∀ W, w.grownBy W (some q) → IRow W (nd G x).A (nd G x).kids (nd G x).cap from fun W hW => ((HG.out.kids x hxl).fr hW fun b hb _ => .inl hb).at)
              have HKM := Lib.hid (fun c hc => (HOK.out x hxl).mem (c := c) hc)
              have hkl := (HG.out.fine x hxl).kids
              obtain ⟨lk, hlk⟩ : ∃ l, l = (nd G x).kids := ⟨_, rfl⟩
              obtain ⟨Aj, hAj⟩ : ∃ l, l = (nd G x).A := ⟨_, rfl⟩
              obtain ⟨cj, hcj⟩ : ∃ l, l = (nd G x).cap := ⟨_, rfl⟩
              rw [← hlk, ← hAj, ← hcj] at HKI d4
              rw [← hlk] at HKM hkl
              have HI := Lib.hid (show Rows lo X p (.slice (some ⟨q, 0, none⟩) G.length zc) G root r w w.heap.size us ord (.slice (some ⟨ob, 0, none⟩) ord.length c) wr ∧ Ordering G root ord (m + 1) ((lk.drop 0).map root) us from ⟨HO.out.1, by have := HO.out.2.start hlt; rw [← hx, ← hlk] at this; exact this⟩)
              clear hlk hAj hcj e1 e2 e3 HO hx
              have hm1 : m + 1 ≤ ord.length := hlt
              go_wp2_with fail
              go_region
              go_wp2_with fail
              rename World => we
              go_loopw [9, 80] (fun s9 s80 wr => ∃ (k : Nat) (ord : List Nat) (A : Option Addr) (c : Nat) (us : List Nat), k ≤ lk.length ∧ s80 = .int .i64 (k : Nat) ∧ s9 = .slice A ord.length c ∧ m + 1 ≤ ord.length ∧ ord.length ≤ G.length ∧ Hid (Rows lo X p (.slice (some ⟨q, 0, none⟩) G.length zc) G root r w w.heap.size us ord (.slice A ord.length c) wr ∧ Ordering G root ord (m + 1) ((lk.drop k).map root) us)) (fun _ s80 _ => lk.length - (intOf s80).toNat)
              case atStart => exact ⟨0, ord, _, c, us, Nat.zero_le _, rfl, rfl, hm1, hon, Lib.hid ⟨HI.out.1.drew, HI.out.2⟩⟩
              case round =>
                clear HI o1 c9 d4
                obtain ⟨k, ord, A, c, us, hk, rfl, rfl, hm2, hon2, HO⟩ := hrel
                by_cases hlk2 : k < lk.length
                · obtain ⟨b, rfl, hb⟩ := (HKI.out wr HO.out.1.fr).2.2 (by omega)
                  have b1 := hb k hlk2
                  obtain ⟨cc, hc⟩ : ∃ c, c = lk.getD k 0 := ⟨_, rfl⟩
                  rw [← hc] at b1
                  have hcG : cc < G.length := HKM.out cc (by rw [hc]; exact nat_getD_mem hlk2)
                  obtain ⟨rc, hrc⟩ : ∃ rc, root cc = rc := ⟨_, rfl⟩
                  have hrl : rc < G.length := by rw [← hrc]; exact (HU.out.root_lt cc hcG).1
                  obtain ⟨H2, e1, e2, e3⟩ := HO.out.1.g
                  have HQ := Lib.hid (find_to e3 e2 (show cc < H2.length by rw [e1.len]; exact hcG) hrc)
                  have hdr : (lk.drop k).map root = rc :: (lk.drop (k + 1)).map root := by
                    rw [List.drop_eq_getElem_cons hlk2, List.map_cons]
                    have : lk[k] = cc := by rw [hc]; simp [List.getD, List.getElem?_eq_getElem hlk2]
                    rw [this, hrc]
                  have hD := HO.out.2
                  rw [hdr] at hD
                  have hbd := hD.bound (B := 2500000) (fun i hi => (HG.out.fine i hi).kids) hrl
                  have hbd2 : (rc :: (lk.drop (k + 1)).map root).length ≤ 2500001 := by simp; omega
                  have hbd3 : G.length * 2500000 ≤ 2500000 * 2500000 := Nat.mul_le_mul_right _ hsm
                  have hdown := hD.down hrl
                  obtain ⟨un, hun⟩ : ∃ un, us.getD rc 0 = un + 1 := ⟨us.getD rc 0 - 1, by have := hdown.1; omega⟩
                  rw [hun] at hdown hbd
                  have hub : un ≤ 6250005000000 := by omega
                  have HDN := Lib.hid hdown
                  have HRF := Lib.hid (fun w3 hG hfr => HO.out.1.find (w3 := w3) HG.out hG hfr)
                  have HE1 := Lib.hid e1
                  have HUN := Lib.hid hun
                  have hrcu : rc < us.length := by rw [HO.out.1.len]; exact hrl
                  clear hb hc hcG hrc e1 e2 e3 HO hdr hD hbd hbd2 hbd3 hdown hun
                  go_wp2_with fail
                  refine (HQ.out).mono ?_
                  rintro e w3 ⟨H3, rfl, m1, m2, m3, m4, m5⟩
                  have hr3 := HRF.out w3 ⟨H3, HE1.out.trans m1, m2, m3⟩ m4
                  have u1 := nums_cell hr3.row hrcu
                  rw [HUN.out] at u1
                  have u2 := World.ownsRow.frozenAt hr3.row rc
                  have HR4 := Lib.hid (hr3.set HG.out (Nat.le_refl _) rc un)
                  have u3 := nums_cell HR4.out.row (v := rc) (by rw [List.length_set]; exact hrcu)
                  have hsz3 : w.heap.size ≤ w3.heap.size := hr3.fr.size
                  rw [set_getD _ hrcu, if_pos rfl] at u3
                  clear m1 m2 m3 m4 m5 hr3 HRF HQ
                  simp only [Nat.add_sub_cancel] at HDN
                  by_cases h0 : un = 0
                  · have hN := (HDN.out.2.2 (by omega) hm2)
                    have HN := Lib.hid hN
                    clear hN
                    subst h0
                    have HR5 := Lib.hid (show Rows lo X p (.slice (some ⟨q, 0, none⟩) G.length zc) G root r w w.heap.size (us.set rc 0) ord (.slice A ord.length c) (w3.setCell ⟨w.heap.size, rc, none⟩ (.int .i64 0)) from HR4.out)
                    have hss : (w3.setCell ⟨w.heap.size, rc, none⟩ (.int .i64 0)).heap.size = w3.heap.size := by simp [World.setCell]
                    have HNW := Lib.hid (show ∀ j v, ([.int .i64 (rc : Nat)] : List Value)[j]? = some v → ((w3.setCell ⟨w.heap.size, rc, none⟩ (.int .i64 0)).alloc (.cells #[.int .i64 (rc : Nat)] 3)).cell? ((⟨w3.heap.size, 0, none⟩ : Addr).add j) = some v from by
                      have := inews (w3.setCell ⟨w.heap.size, rc, none⟩ (.int .i64 0)) (.int .i64 (rc : Nat)) 3
                      rwa [hss] at this)
                    clear HR4 hss
                    go_wp2_with (at_builtin; refine wpList_append_lies _ rfl _ _ 30 rfl w.heap.size 3 i1 _ 1 8 Tryz.underlying30 hi1 hy0 hy1 hy2 rfl (by decide) _ ord.length (nums ord) rfl (HR5.out.orow.alloc _) ⟨w3.heap.size, 0, none⟩ 1 1 [.int .i64 (rc : Nat)] rfl rfl HNW.out (nums_one [rc]) (by decide) (by unfold maxLen; omega) (by omega) (by simp [World.setCell]; omega) _ rfl ?_; intro g cp w8 hown hg hat hglt; have HR6 := Lib.hid (HR5.out.append HG.out hown hg (by rcases hat with h | h; exact .inl h; exact .inr (by rw [h]; simp))); clear hown hg hat hglt)
                    have hon3 : (ord ++ [rc]).length ≤ G.length := (pigeon _ _ HN.out.nodup HN.out.lt).1
                    have hle : (ord ++ [rc]).length = ord.length + 1 := by simp
                    rw [hle] at hon3
                    go_roundw
                    case rel => exact ⟨k + 1, ord ++ [rc], some ⟨g, 0, none⟩, cp, us.set rc 0, by omega, by go_num, by rw [hle], by omega, by omega, Lib.hid ⟨by rw [hle]; exact HR6.out, HN.out⟩⟩
                    case measure => simp [intOf]; omega
                  · have hne : ((un : Int) == 0) = false := by simp; omega
                    have HN := Lib.hid (HDN.out.2.1 (by omega))
                    clear h0
                    go_wp2_with fail
                    go_roundw
                    case rel => exact ⟨k + 1, ord, A, c, us.set rc un, by omega, by go_num, rfl, hm2, hon2, Lib.hid ⟨HR4.out, HN.out⟩⟩
                    case measure => simp [intOf]; omega
                · obtain rfl : k = lk.length := by omega
                  have HE := Lib.hid (show Rows lo X p (.slice (some ⟨q, 0, none⟩) G.length zc) G root r w w.heap.size us ord (.slice A ord.length c) wr ∧ Ordering G root ord (m + 1) [] us from ⟨HO.out.1, by have := HO.out.2; rw [List.drop_length] at this; exact this⟩)
                  clear HO
                  go_wp2_with fail
                  go_roundw
                  case rel => exact ⟨m + 1, ord, A, c, us, by go_num, rfl, hm2, hon2, HE⟩
                  case measure => simp [intOf]; omega
            · obtain rfl : m = ord.length := by omega
              obtain ⟨H, e1, e2, e3⟩ := HO.out.1.g
              have c9 := e3.hdr
              have HE := Lib.hid (show OrderR lo X p (.slice zA G.length zc) G root r w (.returned (.tuple #[.slice A ord.length c, .bool (decide (ord.length = G.length))])) wr.drew from
                ⟨H, A, c, ord, us, rfl, e1, e2, e3.drew, fr_drew HO.out.1.fr, World.ownsRow.drew HO.out.1.orow, HO.out.2⟩)
              clear e1 e2 e3 HO
              have hbe : ((ord.length : Int) == (G.length : Int)) = decide (ord.length = G.length) := by
                rw [Bool.eq_iff_iff]; simp; omega
              generalize decide (ord.length = G.length) = bb at *
              go_wp2_with fail
              go_region
              go_wp2_with fail
              go_ret2
              exact HE.out
end Go.Proofs.YtelkmnjoboekmaaGreat
namespace Go.Proofs.YtelkmnjoboekmaaGreat
open Go.RowKit

/-! ### Plainly -/
theorem nd_left {G N : List Nd} {i : Nat} (h : i < G.length) : nd (G ++ N) i = nd G i := by simp [nd, List.getD, List.getElem?_append_left h]
theorem nd_new (G : List Nd) (x : Nd) : nd (G ++ [x]) G.length = x := by simp [nd, List.getD]
theorem ndv_left {f : Int → Tm} {G N : List Nd} {i : Nat} (h : i < G.length) : ndv f (G ++ N) i = ndv f G i := by unfold ndv; rw [nd_left h]
theorem OkAt.left {G N : List Nd} {i : Nat} (h : i < G.length) (k : OkAt G i) : OkAt (G ++ N) i := by
  refine ⟨by rw [nd_left h]; exact k.form, by rw [nd_left h]; exact k.len, fun j hj => ?_⟩
  rw [nd_left h] at hj ⊢
  have := k.kid j hj
  rw [nd_left this.1]
  exact ⟨by rw [List.length_append]; omega, this.2⟩
theorem OkAt.set {G : List Nd} {i j : Nat} (hi : i < G.length) (hne : j ≠ i) (k : OkAt G j) {x : Nd} (hx : x.tm = (nd G i).tm) : OkAt (G.set i x) j := by
  have ht : ∀ m, (nd (G.set i x) m).tm = (nd G m).tm := fun m => by
    rw [nd_set _ _ _ _ hi]
    split
    · rename_i e; rw [e]; exact hx
    · rfl
  have hk : nd (G.set i x) j = nd G j := by rw [nd_set _ _ _ _ hi, if_neg hne]
  refine ⟨by rw [hk]; exact k.form, by rw [hk]; exact k.len, fun m hm => ?_⟩
  rw [hk] at hm ⊢
  rw [ht, List.length_set]
  exact k.kid m hm

/-! ### The map of the variables -/
abbrev KL (v : Int) : Lit := .int .i64 v
def VMap (D : DataW Unit) (G : List Nd) : Prop :=
  Maps.IsMap D ∧ (∀ v, Maps.has D (KL v) = true → ∃ i, i < G.length ∧ (nd G i).tm.kind = 1 ∧ (nd G i).tm.num = v) ∧
    ∀ i, i < G.length → (nd G i).tm.kind = 1 → Maps.has D (KL (nd G i).tm.num) = true ∧ ∀ zd, D.atKey (KL (nd G i).tm.num) zd = .lit (KL (i : Nat))
theorem VMap.empty : VMap (.map []) [] := ⟨Maps.isMap_empty, fun v h => by simp [Maps.has] at h, fun i hi => by simp at hi⟩
theorem VMap.varu {D : DataW Unit} {G : List Nd} (h : VMap D G) : VarU G := fun i j hi hj hki hkj e => by
  have h1 := (h.2.2 i hi hki).2 (.lit (KL 0))
  have h2 := (h.2.2 j hj hkj).2 (.lit (KL 0))
  rw [e, h2] at h1
  simp only [DataW.lit.injEq, Lit.int.injEq, true_and] at h1
  omega
theorem VMap.like {D : DataW Unit} {G H : List Nd} (h : VMap D G) (hl : H.length = G.length) (ht : ∀ i, i < G.length → (nd H i).tm = (nd G i).tm) : VMap D H := by
  refine ⟨h.1, fun v hv => ?_, fun i hi hk => ?_⟩
  · obtain ⟨i, h1, h2, h3⟩ := h.2.1 v hv
    exact ⟨i, by omega, by rw [ht i h1]; exact h2, by rw [ht i h1]; exact h3⟩
  · rw [hl] at hi
    rw [ht i hi] at hk ⊢
    exact h.2.2 i hi hk
theorem VMap.nonvar {D : DataW Unit} {G : List Nd} (h : VMap D G) {x : Nd} (hx : x.tm.kind ≠ 1) : VMap D (G ++ [x]) := by
  refine ⟨h.1, fun v hv => ?_, fun i hi hk => ?_⟩
  · obtain ⟨i, h1, h2, h3⟩ := h.2.1 v hv
    exact ⟨i, by simp; omega, by rw [nd_left h1]; exact h2, by rw [nd_left h1]; exact h3⟩
  · by_cases h1 : i < G.length
    · rw [nd_left h1] at hk ⊢
      exact h.2.2 i h1 hk
    · obtain rfl : i = G.length := by simp at hi; omega
      rw [nd_new] at hk
      exact absurd hk hx
theorem VMap.put {D : DataW Unit} {G : List Nd} (h : VMap D G) {x : Nd} (hx : x.tm.kind = 1) (hf : Fits x.tm.num) (hn : Maps.has D (KL x.tm.num) = false) : VMap (D.put (KL x.tm.num) (.lit (KL (G.length : Nat)))) (G ++ [x]) := by
  have hkey : WideAt.IsKeyLit (KL x.tm.num) := keyed.key (Maps.keyOf_int_mk Tryz.underlying3 (fits_wf hf))
  have hold : ∀ i, i < G.length → (nd G i).tm.kind = 1 → (nd G i).tm.num ≠ x.tm.num := fun i hi hk e => by
    have := (h.2.2 i hi hk).1
    rw [e, hn] at this
    cases this
  refine ⟨h.1.put _ _, fun v hv => ?_, fun i hi hk => ?_⟩
  · by_cases e : v = x.tm.num
    · exact ⟨G.length, by simp, by rw [nd_new]; exact hx, by rw [nd_new]; exact e.symm⟩
    · rw [Maps.has_put_other (fun e' => e (by simpa using e'))] at hv
      obtain ⟨i, h1, h2, h3⟩ := h.2.1 v hv
      exact ⟨i, by simp; omega, by rw [nd_left h1]; exact h2, by rw [nd_left h1]; exact h3⟩
  · by_cases h1 : i < G.length
    · rw [nd_left h1] at hk ⊢
      have hne : KL (nd G i).tm.num ≠ KL x.tm.num := fun e => hold i h1 hk (by simpa using e)
      rw [Maps.has_put_other hne]
      refine ⟨(h.2.2 i h1 hk).1, fun zd => ?_⟩
      rw [Maps.atKey_put_other hne]
      exact (h.2.2 i h1 hk).2 zd
    · obtain rfl : i = G.length := by simp at hi; omega
      rw [nd_new]
      exact ⟨Maps.has_put_same h.1 hkey _, fun zd => Maps.atKey_put_same h.1 hkey _ _⟩

/-! ### In memory -/
/-- The graph while nodes are added: its box p, the map's block mb. Y: rows that are still being filled. -/
structure Gadd (lo : Nat) (Y : Nat → Prop) (w : World) (p mb : Nat) (z : Value) (G : List Nd) : Prop where
  g : Gph lo (fun k => k = p ∨ k = mb ∨ Y k) w p z G
  vc : w.cell? ⟨p, 1, none⟩ = some (.map (some mb))
  vm : ∃ D : DataW Unit, w.ownsMap Tryz.prog 3 (plainElem Tryz.prog 3) mb G.length D ∧ VMap D G
  pm : p ≠ mb
  zm : z.ownBlock ≠ some mb
  lp : lo ≤ p
  lm : lo ≤ mb
  fz : ∀ j, w.frozen? ⟨p, j, none⟩ = false
/-- All blocks that were there are as they were, but for the graph's. -/
structure AddFr (p mb : Nat) (z : Value) (w w' : World) : Prop where
  os : w'.os = w.os
  tape : w'.tape = w.tape
  output : w'.output = w.output
  size : w.heap.size ≤ w'.heap.size
  block : ∀ k, k < w.heap.size → k ≠ p → k ≠ mb → z.ownBlock ≠ some k → w'.heap[k]? = w.heap[k]?
section
variable {lo p mb : Nat} {Y : Nat → Prop} {z z' : Value} {w w' w1 w2 : World} {G : List Nd}
theorem AddFr.of (h : Below w.heap.size w w') : AddFr p mb z w w' := ⟨h.os, h.tape, h.output, h.size, fun k hk _ _ _ => h.block k hk⟩
theorem AddFr.refl (p mb : Nat) (z : Value) (w : World) : AddFr p mb z w w := AddFr.of (Below.refl _ _)
/-- One behind the other; the row of nodes may have been laid anew. -/
theorem AddFr.trans (h : AddFr p mb z w w1) (k : AddFr p mb z' w1 w2) (hz : z'.ownBlock = z.ownBlock ∨ ∀ b, z'.ownBlock = some b → w.heap.size ≤ b) : AddFr p mb z w w2 :=
  ⟨k.os.trans h.os, k.tape.trans h.tape, k.output.trans h.output, Nat.le_trans h.size k.size, fun b hb h1 h2 h3 =>
    (k.block b (Nat.lt_of_lt_of_le hb h.size) h1 h2 (fun e => by
      rcases hz with hz | hz
      · exact h3 (hz ▸ e)
      · have := hz b e; omega)).trans (h.block b hb h1 h2 h3)⟩
theorem AddFr.cell (h : AddFr p mb z w w') {a : Addr} (hb : a.block < w.heap.size) (h1 : a.block ≠ p) (h2 : a.block ≠ mb) (h3 : z.ownBlock ≠ some a.block) : w'.cell? a = w.cell? a := World.cell?_of_block (h.block _ hb h1 h2 h3)
theorem AddFr.frozen (h : AddFr p mb z w w') {a : Addr} (hb : a.block < w.heap.size) (h1 : a.block ≠ p) (h2 : a.block ≠ mb) (h3 : z.ownBlock ≠ some a.block) : w'.frozen? a = w.frozen? a := World.frozen?_of_block (h.block _ hb h1 h2 h3)
theorem AddFr.below {a : World} (h : AddFr p mb z w w') (hb : Below a.heap.size a w) (h1 : a.heap.size ≤ p) (h2 : a.heap.size ≤ mb) (h3 : ∀ b, z.ownBlock = some b → a.heap.size ≤ b) : Below a.heap.size a w' :=
  hb.trans ⟨h.os, h.tape, h.output, h.size, fun k hk => h.block k (Nat.lt_of_lt_of_le hk hb.size) (by omega) (by omega) (fun e => by have := h3 k e; omega)⟩
theorem AddFr.drew (h : AddFr p mb z w w') : AddFr p mb z w w'.drew := ⟨h.os, h.tape, h.output, h.size, h.block⟩
theorem AddFr.drewN (h : AddFr p mb z w w') (n : Nat) : AddFr p mb z w (w'.drewN n) := ⟨h.os, h.tape, h.output, h.size, h.block⟩
/-- A row that is not the graph's. -/
theorem AddFr.row {base : Nat} {e : TypeId} {size n : Nat} {v : Value} {xs : List Value} (h : AddFr p mb z w w') (hr : w.ownsRow base e size v n xs) (hv : ∀ b, v.ownBlock = some b → b ≠ p ∧ b ≠ mb ∧ z.ownBlock ≠ some b) : w'.ownsRow base e size v n xs := by
  refine ⟨hr.1, ?_⟩
  rcases hr.2 with hn | ⟨g, cap, cur, rfl, hb, hgg, rest⟩
  · exact .inl hn
  · obtain ⟨h1, h2, h3⟩ := hv g rfl
    refine .inr ⟨g, cap, cur, rfl, hb, ?_, rest⟩
    rw [h.block g (Array.getElem?_eq_some_iff.1 hgg).1 h1 h2 h3]
    exact hgg
theorem Gadd.below (h : Gadd lo Y w p mb z G) (hb : Below w.heap.size w w') : Gadd lo Y w' p mb z G := by
  refine ⟨h.g.below hb, keepv hb h.vc, ?_, h.pm, h.zm, h.lp, h.lm, fun j => (hb.frozen (p := ⟨p, j, none⟩) h.g.lt).trans (h.fz j)⟩
  obtain ⟨D, h1, h2⟩ := h.vm
  exact ⟨D, h1.kept (row := none) (fr_below hb none) (by simp), h2⟩
theorem Gadd.alloc (h : Gadd lo Y w p mb z G) (o : Obj) : Gadd lo Y (w.alloc o) p mb z G := h.below ((Below.refl _ _).alloc (Nat.le_refl _) o)
theorem Gadd.drewN (h : Gadd lo Y w p mb z G) (n : Nat) : Gadd lo Y (w.drewN n) p mb z G := h.below (below_drewN (Below.refl _ _) n)
theorem Gadd.drew (h : Gadd lo Y w p mb z G) : Gadd lo Y w.drew p mb z G := h.drewN 1
theorem Gadd.zlo (h : Gadd lo Y w p mb z G) : ∀ b, z.ownBlock = some b → lo ≤ b ∧ b < w.heap.size := own_lt h.g.row
/-- A list of numbers in a row of the call's own. -/
theorem kids_of {X : Nat → Prop} {g n c base : Nat} {e : TypeId} {l : List Nat} (h : w.ownsRow base e 1 (.slice (some ⟨g, 0, none⟩) n c) n (l.map fun i => .int .i64 (i : Nat))) (hl : lo ≤ g) (hX : ¬ X g) (x : Nd) (h1 : x.A = some ⟨g, 0, none⟩) (h2 : x.kids = l) (h3 : x.cap = c) : KidsAt lo X w x := by
  intro W hW
  have hlen : l.length = n := by have := h.1; simpa using this
  have hlt := own_lt h g rfl
  rcases h.2 with ⟨e1, _⟩ | ⟨g', cap', cur, e1, _, _, hle, hcm, _, _⟩
  · injection e1 with e1; cases e1
  · injection e1 with _ _ e3
    subst e3
    rw [h1, h2, h3]
    refine ⟨by omega, hcm, fun _ => ⟨g, rfl, fun j hj => ?_⟩⟩
    rw [hW.cell (p := ⟨g, j, none⟩) hl hlt.2 hX, World.ownsRow.cellAt h j (by omega)]
    simp [List.getD, hj]
/-- A further row is still being filled: it is new. -/
theorem Gadd.more (h : Gadd lo Y w p mb z G) {g : Nat} (hg : w.heap.size ≤ g) : Gadd lo (fun k => Y k ∨ k = g) w p mb z G :=
  ⟨h.g.out fun b _ h2 h3 => by
    rcases h3 with h3 | h3 | h3 | h3
    · exact .inl h3
    · exact .inr (.inl h3)
    · exact .inr (.inr h3)
    · omega, h.vc, h.vm, h.pm, h.zm, h.lp, h.lm, h.fz⟩
theorem Gadd.less {g : Nat} (h : Gadd lo (fun k => Y k ∨ k = g) w p mb z G) : Gadd lo Y w p mb z G :=
  ⟨h.g.out fun b _ _ h3 => by
    rcases h3 with h3 | h3 | h3
    · exact .inl h3
    · exact .inr (.inl h3)
    · exact .inr (.inr (.inl h3)), h.vc, h.vm, h.pm, h.zm, h.lp, h.lm, h.fz⟩
/-- A store into a row that is still being filled. -/
theorem Gadd.fill (h : Gadd lo Y w p mb z G) {g j : Nat} (hY : Y g) (hp : g ≠ p) (hm : g ≠ mb) (hz : z.ownBlock ≠ some g) (v : Value) : Gadd lo Y (w.setCell ⟨g, j, none⟩ v) p mb z G := by
  have hf : w.grownBy (w.setCell ⟨g, j, none⟩ v) (some g) := fr_set (fr_refl _ _) rfl _
  refine ⟨h.g.fr hf (by simpa using hp) (.inr hz) (fun b e _ => .inr (.inr (by injection e with e; exact e ▸ hY))), ?_, ?_, h.pm, h.zm, h.lp, h.lm, fun j' => by rw [World.frozen?_setCell]; exact h.fz j'⟩
  · rw [World.cell?_setCell_other _ _ _ _ (fun e => hp (by injection e))]
    exact h.vc
  · obtain ⟨D, h1, h2⟩ := h.vm
    exact ⟨D, h1.kept hf (by simpa using Ne.symm hm), h2⟩
/-- The new node behind the append, and the box's store. -/
theorem gadd_append {x : Nd} {o : Obj} {w3 : World} {g cap : Nat} {D : DataW Unit} (hg : Gph lo (fun k => k = p ∨ k = mb ∨ Y k) w1 p z G) (hvc : w1.cell? ⟨p, 1, none⟩ = some (.map (some mb))) (hD : w1.ownsMap Tryz.prog 3 (plainElem Tryz.prog 3) mb (G.length + 1) D) (hV : VMap D (G ++ [x]))
    (pm : p ≠ mb) (zm : z.ownBlock ≠ some mb) (lp : lo ≤ p) (lm : lo ≤ mb) (fz : ∀ j, w1.frozen? ⟨p, j, none⟩ = false) (hx : Fine x) (hxA : x.A = none ∧ x.kids = [] ∧ x.cap = 0) (hsm : G.length + 1 ≤ 2500000)
    (hown : w3.ownsRow lo 66 6 (.slice (some ⟨g, 0, none⟩) (G.length + 1) cap) (G.length + 1) (gcells G ++ ncells x)) (hgr : (w1.alloc o).grownBy w3 z.ownBlock) (hat : z.ownBlock = some g ∨ g = w1.heap.size + 1) :
    Gadd lo Y (w3.setCell ⟨p, 0, none⟩ (.slice (some ⟨g, 0, none⟩) (G.length + 1) cap)) p mb (.slice (some ⟨g, 0, none⟩) (G.length + 1) cap) (G ++ [x]) ∧ AddFr p mb z w1 (w3.setCell ⟨p, 0, none⟩ (.slice (some ⟨g, 0, none⟩) (G.length + 1) cap)) ∧
      ((Value.slice (some ⟨g, 0, none⟩) (G.length + 1) cap).ownBlock = z.ownBlock ∨ ∀ b, (Value.slice (some ⟨g, 0, none⟩) (G.length + 1) cap).ownBlock = some b → w1.heap.size ≤ b) := by
  have hpl := hg.lt
  have hml : mb < w1.heap.size := hD.lt
  have hgp : g ≠ p := by
    rcases hat with h | h
    · intro e; exact hg.np (by rw [h, e])
    · omega
  have hgm : g ≠ mb := by
    rcases hat with h | h
    · intro e; exact zm (by rw [h, e])
    · omega
  have hfr1 : w1.grownBy w3 z.ownBlock := fr_trans (World.grownBy_alloc w1 o _) hgr
  have hp3 : ∀ j, w3.cell? ⟨p, j, none⟩ = w1.cell? ⟨p, j, none⟩ := fun j => fr_cell hfr1 (p := ⟨p, j, none⟩) hpl (fun e => hg.np e.symm)
  have hs : w3.grownBy (w3.setCell ⟨p, 0, none⟩ (.slice (some ⟨g, 0, none⟩) (G.length + 1) cap)) (some p) := fr_set (fr_refl _ _) rfl _
  have hheap : ∀ b, b < w1.heap.size → z.ownBlock ≠ some b → b ≠ p → (w3.setCell ⟨p, 0, none⟩ (.slice (some ⟨g, 0, none⟩) (G.length + 1) cap)).heap[b]? = w1.heap[b]? := fun b h1 h2 h3 => by
    rw [Below.heap_setCell _ _ _ _ h3]
    exact hfr1.block b h1 (fun e => h2 e.symm)
  have hss : w1.heap.size ≤ (w3.setCell ⟨p, 0, none⟩ (.slice (some ⟨g, 0, none⟩) (G.length + 1) cap)).heap.size := by simpa [World.setCell] using hfr1.size
  refine ⟨⟨⟨?_, ?_, fun i hi => ?_, ?_, fun i hi => ?_, by simpa using hsm⟩, ?_, ⟨D, ?_, hV⟩, pm, ?_, lp, lm, fun j => ?_⟩, ⟨hfr1.os, hfr1.tape, hfr1.output, hss, fun k hk h1 h2 h3 => hheap k hk h3 h1⟩, ?_⟩
  · exact World.cell?_setCell_same' _ _ _ (by rw [hp3, hg.hdr]; rfl)
  · have := World.ownsRow.kept hown hs (.inr (by simpa [Value.ownBlock] using hgp))
    rw [gcells_append]
    simpa [gcells] using this
  · by_cases h1 : i < G.length
    · rw [nd_left h1]
      refine (hg.kids i h1).less hss fun b h2 h3 h4 => ⟨h2, fun h5 => ?_, hheap b h3 (fun e => h4 (.inl e)) (fun e => h4 (.inr (.inl e)))⟩
      rcases h5 with h5 | h5
      · rcases hat with h | h
        · exact h4 (.inl (h.trans h5))
        · have : g = b := by simpa [Value.ownBlock] using h5
          omega
      · exact h4 (.inr h5)
    · obtain rfl : i = G.length := by simp at hi; omega
      rw [nd_new]
      intro W _
      rw [hxA.1, hxA.2.1, hxA.2.2]
      exact ⟨Nat.le_refl _, Nat.zero_le _, fun h => by simp at h⟩
  · simpa [Value.ownBlock] using hgp
  · by_cases h1 : i < G.length
    · rw [nd_left h1]; exact hg.fine i h1
    · obtain rfl : i = G.length := by simp at hi; omega
      rw [nd_new]; exact hx
  · rw [World.cell?_setCell_other _ _ _ _ (fun e => by injection e with _ e _; omega), hp3]
    exact hvc
  · have h1 := hD.kept hfr1 (fun e => zm e.symm)
    have := h1.kept hs (by simpa using Ne.symm pm)
    simpa using this
  · simpa [Value.ownBlock] using hgm
  · rw [World.frozen?_setCell, fr_frozen hfr1 (p := ⟨p, j, none⟩) hpl (fun e => hg.np e.symm)]
    exact fz j
  · rcases hat with h | h
    · exact .inl h.symm
    · refine .inr fun b hb => ?_
      have : g = b := by simpa [Value.ownBlock] using hb
      omega
/-- The arguments of node i are entered. -/
theorem gadd_args {q cap n g i c : Nat} {ks : List Nat} {L : Nat} (h : Gadd lo Y w p mb (.slice (some ⟨q, 0, none⟩) n cap) G) (hi : i < G.length) (hrow : w.ownsRow lo 3 1 (.slice (some ⟨g, 0, none⟩) L c) L (ks.map fun i => .int .i64 (i : Nat))) (hks : L = ks.length) (hkl : ks.length ≤ 2500000)
    (hgl : lo ≤ g) (hgY : ¬ Y g) (hgp : g ≠ p) (hgm : g ≠ mb) (hgq : q ≠ g) : Gadd lo Y (w.setCell ⟨q, i * 6 + 4, none⟩ (.slice (some ⟨g, 0, none⟩) L c)) p mb (.slice (some ⟨q, 0, none⟩) n cap) (G.set i { nd G i with A := some ⟨g, 0, none⟩, cap := c, kids := ks }) := by
  have hpq : p ≠ q := fun e => h.g.np (by rw [e]; rfl)
  have hmq : mb ≠ q := fun e => h.zm (by rw [e]; rfl)
  have hf : w.grownBy (w.setCell ⟨q, i * 6 + 4, none⟩ (.slice (some ⟨g, 0, none⟩) L c)) (some q) := fr_set (fr_refl _ _) rfl _
  have hn : n = G.length := by
    rcases h.g.row.2 with ⟨e, _⟩ | ⟨_, _, _, e, _⟩
    · injection e with e; cases e
    · injection e
  have hK := kids_of (X := fun k => (Value.slice (some ⟨q, 0, none⟩) n cap).ownBlock = some k ∨ k = p ∨ k = mb ∨ Y k) hrow hgl (fun hx => by
    rcases hx with hx | hx | hx | hx
    · exact hgq (by simpa [Value.ownBlock] using hx)
    · exact hgp hx
    · exact hgm hx
    · exact hgY hx) { nd G i with A := some ⟨g, 0, none⟩, cap := c, kids := ks } rfl rfl rfl
  subst hn
  refine ⟨⟨(fr_cell hf h.g.lt (by simpa using hpq)).trans h.g.hdr, ?_, fun j hj => ?_, h.g.np, fun j hj => ?_, by rw [List.length_set]; exact h.g.small⟩, ?_, ?_, h.pm, h.zm, h.lp, h.lm, fun j => by rw [World.frozen?_setCell]; exact h.fz j⟩
  · have hs := (World.ownsRow.stored h.g.row (i * 6 + 4) (.slice (some ⟨g, 0, none⟩) L c)).1
    rw [gcells_set hi (by omega) (x := { nd G i with A := some ⟨g, 0, none⟩, cap := c, kids := ks }) (by rw [hks]; rfl)] at hs
    rw [List.length_set]
    exact hs
  · rw [List.length_set] at hj
    rw [nd_set _ _ _ _ hi]
    split
    · exact hK.fr hf fun b e _ => .inl e
    · exact (h.g.kids j hj).fr hf fun b e _ => .inl e
  · rw [List.length_set] at hj
    rw [nd_set _ _ _ _ hi]
    split
    · exact ⟨(h.g.fine i hi).kind, (h.g.fine i hi).num, (h.g.fine i hi).name, (h.g.fine i hi).args, hkl⟩
    · exact h.g.fine j hj
  · rw [World.cell?_setCell_other _ _ _ _ (fun e => hpq (by injection e with e _ _; exact e.symm))]
    exact h.vc
  · obtain ⟨D, h1, h2⟩ := h.vm
    refine ⟨D, by rw [List.length_set]; exact h1.kept hf (by simpa using hmq), h2.like (by simp) fun j hj => ?_⟩
    rw [nd_set _ _ _ _ hi]
    split
    · rename_i e; rw [e]
    · rfl
end
end Go.Proofs.YtelkmnjoboekmaaGreat
