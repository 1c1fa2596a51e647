/-
  UnOrder.
  UnSolveP.
  UnAdd.
-/
import Derived.Test.YtgpglgehlnfggaaGreatMe12
import Derived.Test.YtgpglgehlnfggaaGreatMe6
namespace Go.Proofs.YtgpglgehlnfggaaGreat
open Go.RowKit
abbrev nums (l : List Nat) : List Value := l.map fun i => .int .i64 (i : Nat)
section
variable {w : World} {base g n c : Nat} {l : List Nat}
theorem nums_cell (h : w.ownsRow base 3 1 (.slice (some ⟨g, 0, none⟩) n c) n (nums l)) {v : Nat} (hv : v < l.length) : w.cell? ⟨g, v, none⟩ = some (.int .i64 ((l.getD v 0 : Nat) : Int)) := by
  have hlen : l.length = n := by have := h.1; simpa using this
  rw [World.ownsRow.cellAt h v (by omega)]
  simp [List.getD, hv]
theorem nums_set (h : w.ownsRow base 3 1 (.slice (some ⟨g, 0, none⟩) n c) n (nums l)) (v x : Nat) : (w.setCell ⟨g, v, none⟩ (.int .i64 (x : Nat))).ownsRow base 3 1 (.slice (some ⟨g, 0, none⟩) n c) n (nums (l.set v x)) := by
  have := (World.ownsRow.stored h v (.int .i64 (x : Nat))).1
  unfold nums
  rw [List.map_set]
  exact this
theorem nums_one (l : List Nat) : ∀ u ∈ nums l, u.oneCell' = true := by
  intro u hu
  obtain ⟨_, _, rfl⟩ := List.mem_map.1 hu
  rfl
end
theorem made_nums (L : Nat) : (madeCells (Value.int .i64 0).cells (L * 1)).toList = nums (List.replicate L 0) := by
  rw [Nat.mul_one]
  unfold nums
  rw [List.map_replicate]
  exact toList_madeCells_one (Value.int .i64 0) L
structure Counting (lo : Nat) (X : Nat → Prop) (p : Nat) (z : Value) (G : List Nd) (root r : Nat → Nat) (w : World) (ub : Nat) (us : List Nat) (j k : Nat) (wr : World) : Prop where
  g : ∃ H, Alike G H ∧ UF H root r ∧ Gph lo X wr p z H
  fr : w.grownBy wr z.ownBlock
  row : wr.ownsRow w.heap.size 3 1 (.slice (some ⟨ub, 0, none⟩) G.length G.length) G.length (nums us)
  len : us.length = G.length
  us : ∀ v, v < G.length → us.getD v 0 = sumTo (uses G root v) j + (((nd G j).kids.take k).map root).count v
theorem set_getD (l : List Nat) {i v x : Nat} (hi : i < l.length) : (l.set i x).getD v 0 = if v = i then x else l.getD v 0 := by
  by_cases e : v = i
  · subst e; simp [List.getD, hi]
  · rw [if_neg e]; simp [List.getD, Ne.symm e]
section
variable {lo p ub j k rc : Nat} {X : Nat → Prop} {z : Value} {G : List Nd} {root r : Nat → Nat} {w wr w3 : World} {us : List Nat}
theorem own_store (h0 : Gph lo X w p z G) (hG : ∃ H, Alike G H ∧ UF H root r ∧ Gph lo X w3 p z H) (hfr : w.grownBy w3 z.ownBlock) (hub : w.heap.size ≤ ub) (i : Nat) (v : Value) :
    (∃ H, Alike G H ∧ UF H root r ∧ Gph lo X (w3.setCell ⟨ub, i, none⟩ v) p z H) ∧ w.grownBy (w3.setCell ⟨ub, i, none⟩ v) z.ownBlock := by
  obtain ⟨H, h1, h2, h3⟩ := hG
  have hf : w.grownBy (w3.setCell ⟨ub, i, none⟩ v) z.ownBlock := fr_own hfr hub v
  refine ⟨⟨H, h1, h2, Gph.renew h0 h1 h3 hf (fr_set (fr_refl w3 (some ub)) rfl v) ?_⟩, hf⟩
  cases hz : z.ownBlock with
  | none => exact .inl rfl
  | some b =>
    refine .inr fun e => ?_
    have := (own_lt h0.row b hz).2
    injection e with e
    omega
theorem Counting.next (h : Counting lo X p z G root r w ub us j k wr) (h0 : Gph lo X w p z G) (hub : w.heap.size ≤ ub) (hk : k < (nd G j).kids.length) (hrc : root ((nd G j).kids.getD k 0) = rc) (hrl : rc < G.length)
    (hG : ∃ H, Alike G H ∧ UF H root r ∧ Gph lo X w3 p z H) (hfr : wr.grownBy w3 z.ownBlock) :
    w3.cell? ⟨ub, rc, none⟩ = some (.int .i64 ((us.getD rc 0 : Nat) : Int)) ∧ w3.frozen? ⟨ub, rc, none⟩ = false ∧ Counting lo X p z G root r w ub (us.set rc (us.getD rc 0 + 1)) j (k + 1) (w3.setCell ⟨ub, rc, none⟩ (.int .i64 (((us.getD rc 0 : Nat) : Int) + 1))) := by
  show _ ∧ _ ∧ Counting lo X p z G root r w ub (us.set rc (us.getD rc 0 + 1)) j (k + 1) (w3.setCell ⟨ub, rc, none⟩ (.int .i64 ((us.getD rc 0 + 1 : Nat) : Int)))
  have hrl2 : rc < us.length := by rw [h.len]; exact hrl
  have hzu : (Value.slice (some ⟨ub, 0, none⟩) G.length G.length).ownBlock = none ∨ (Value.slice (some ⟨ub, 0, none⟩) G.length G.length).ownBlock ≠ z.ownBlock := .inr fun e => by
    have := (own_lt h0.row ub e.symm).2
    omega
  have hrow := World.ownsRow.kept h.row hfr hzu
  have hs := own_store h0 hG (fr_trans h.fr hfr) hub rc (.int .i64 ((us.getD rc 0 + 1 : Nat) : Int))
  refine ⟨nums_cell hrow hrl2, World.ownsRow.frozenAt hrow rc, hs.1, hs.2, nums_set hrow rc _, by rw [List.length_set]; exact h.len, fun v hv => ?_⟩
  rw [set_getD _ hrl2, nat_take_next hk, List.map_append, List.count_append, h.us v hv]
  simp only [List.map_cons, List.map_nil, hrc, List.count_cons, List.count_nil]
  by_cases e : v = rc
  · subst e
    rw [if_pos rfl, h.us v hv]
    simp
    omega
  · rw [if_neg e]; simp [Ne.symm e]
theorem Counting.wrap (h : Counting lo X p z G root r w ub us j (nd G j).kids.length wr) : Counting lo X p z G root r w ub us (j + 1) 0 wr := by
  refine ⟨h.g, h.fr, h.row, h.len, fun v hv => ?_⟩
  rw [h.us v hv, List.take_length]
  simp [sumTo, uses]
theorem Counting.below (h : Counting lo X p z G root r w ub us j k wr) (hb : Below wr.heap.size wr w3) : Counting lo X p z G root r w ub us j k w3 := by
  obtain ⟨H, h1, h2, h3⟩ := h.g
  exact ⟨⟨H, h1, h2, h3.below hb⟩, fr_trans h.fr (fr_below hb _), own_below h.row hb, h.len, h.us⟩
theorem Counting.bound (h : Counting lo X p z G root r w ub us j k wr) (h0 : Gph lo X w p z G) (hj : j ≤ G.length) {v : Nat} (hv : v < G.length) : us.getD v 0 ≤ 1000001000000 := by
  rw [h.us v hv]
  have h1 : sumTo (uses G root v) j ≤ j * 1000000 := sumTo_le fun i hi => Nat.le_trans (uses_le G root v i) (h0.fine i (by omega)).kids
  have h2 := List.count_le_length (a := v) (l := ((nd G j).kids.take k).map root)
  rw [List.length_map] at h2
  have h3 : ((nd G j).kids.take k).length ≤ 1000000 := by
    rw [List.length_take]
    by_cases hjl : j < G.length
    · have := (h0.fine j hjl).kids; omega
    · have : nd G j = default := by simp [nd, List.getD, List.getElem?_eq_none (show G.length ≤ j by omega)]
      rw [this]
      show min k 0 ≤ _
      omega
  have h4 := h0.small
  have h5 : j * 1000000 ≤ 1000000 * 1000000 := Nat.mul_le_mul_right _ (by omega)
  omega
end
structure Rows (lo : Nat) (X : Nat → Prop) (p : Nat) (z : Value) (G : List Nd) (root r : Nat → Nat) (w : World) (ub : Nat) (us ord : List Nat) (v : Value) (wr : World) : Prop where
  g : ∃ H, Alike G H ∧ UF H root r ∧ Gph lo X wr p z H
  fr : w.grownBy wr z.ownBlock
  row : wr.ownsRow w.heap.size 3 1 (.slice (some ⟨ub, 0, none⟩) G.length G.length) G.length (nums us)
  len : us.length = G.length
  orow : wr.ownsRow w.heap.size 3 1 v ord.length (nums ord)
  ne : v.ownBlock ≠ some ub
section
variable {lo p ub rc : Nat} {X : Nat → Prop} {z v : Value} {G : List Nd} {root r : Nat → Nat} {w wr w3 : World} {us ord : List Nat}
theorem own_ne {base : Nat} {e : TypeId} {size n : Nat} {xs : List Value} (h0 : Gph lo X w p z G) (hv : wr.ownsRow base e size v n xs) (hb : w.heap.size ≤ base) : v.ownBlock = none ∨ v.ownBlock ≠ z.ownBlock := by
  cases h : v.ownBlock with
  | none => exact .inl rfl
  | some b =>
    refine .inr fun e => ?_
    have h1 := (own_lt hv b h).1
    have h2 := (own_lt h0.row b e.symm).2
    omega
theorem Rows.find (h : Rows lo X p z G root r w ub us ord v wr) (h0 : Gph lo X w p z G) (hG : ∃ H, Alike G H ∧ UF H root r ∧ Gph lo X w3 p z H) (hfr : wr.grownBy w3 z.ownBlock) : Rows lo X p z G root r w ub us ord v w3 :=
  ⟨hG, fr_trans h.fr hfr, World.ownsRow.kept h.row hfr (own_ne h0 h.row (Nat.le_refl _)), h.len, World.ownsRow.kept h.orow hfr (own_ne h0 h.orow (Nat.le_refl _)), h.ne⟩
theorem Rows.set (h : Rows lo X p z G root r w ub us ord v wr) (h0 : Gph lo X w p z G) (hub : w.heap.size ≤ ub) (i x : Nat) : Rows lo X p z G root r w ub (us.set i x) ord v (wr.setCell ⟨ub, i, none⟩ (.int .i64 (x : Nat))) := by
  have hs := own_store h0 h.g h.fr hub i (.int .i64 (x : Nat))
  refine ⟨hs.1, hs.2, nums_set h.row i x, by rw [List.length_set]; exact h.len, World.ownsRow.kept h.orow (fr_set (fr_refl wr (some ub)) rfl _) (.inr h.ne), h.ne⟩
theorem Rows.drew (h : Rows lo X p z G root r w ub us ord v wr) : Rows lo X p z G root r w ub us ord v wr.drew := by
  obtain ⟨H, h1, h2, h3⟩ := h.g
  exact ⟨⟨H, h1, h2, h3.drew⟩, fr_drew h.fr, World.ownsRow.drew h.row, h.len, World.ownsRow.drew h.orow, h.ne⟩
theorem Rows.append {o : Obj} {w8 : World} {g cap x : Nat} (h : Rows lo X p z G root r w ub us ord v wr) (h0 : Gph lo X w p z G)
    (hown : w8.ownsRow w.heap.size 3 1 (.slice (some ⟨g, 0, none⟩) (ord.length + 1) cap) (ord.length + 1) (nums ord ++ [.int .i64 (x : Nat)])) (hg : (wr.alloc o).grownBy w8 v.ownBlock) (hat : v.ownBlock = some g ∨ g = wr.heap.size + 1) :
    Rows lo X p z G root r w ub us (ord ++ [x]) (.slice (some ⟨g, 0, none⟩) (ord.length + 1) cap) w8 := by
  obtain ⟨H, h1, h2, h3⟩ := h.g
  have hg1 := fr_alloc h.fr o
  have hg2 : w.grownBy w8 z.ownBlock := fr_grow hg1 hg fun k hk => (own_lt h.orow k hk).1
  have hub := own_block_lt h.row
  refine ⟨⟨H, h1, h2, Gph.renew h0 h1 (h3.alloc o) hg2 hg ?_⟩, hg2, World.ownsRow.kept (World.ownsRow.alloc h.row o) hg (.inr fun e => h.ne e.symm), h.len, ?_, fun e => ?_⟩
  · cases hz : z.ownBlock with
    | none => exact .inl rfl
    | some b =>
      refine .inr fun e => ?_
      have h4 := (own_lt h.orow b e.symm).1
      have h5 := (own_lt h0.row b hz).2
      omega
  · unfold nums at hown ⊢
    rw [List.map_append, List.length_append]
    exact hown
  · have e' : g = ub := by simpa [Value.ownBlock] using e
    rcases hat with h' | h'
    · exact h.ne (by rw [h', e'])
    · omega
def OrderR (lo : Nat) (X : Nat → Prop) (p : Nat) (z : Value) (G : List Nd) (root r : Nat → Nat) (w : World) (e : Ending) (w' : World) : Prop :=
  ∃ (H : List Nd) (A : Option Addr) (c : Nat) (ord us : List Nat), e = .returned (.tuple #[.slice A ord.length c, .bool (decide (ord.length = G.length))]) ∧ Alike G H ∧ UF H root r ∧ Gph lo X w' p z H ∧ w.grownBy w' z.ownBlock ∧
    w'.ownsRow w.heap.size 3 1 (.slice A ord.length c) ord.length (nums ord) ∧ Ordering G root ord ord.length [] us
theorem ordering_start {G : List Nd} {root : Nat → Nat} {us : List Nat} (hl : us.length = G.length) (hus : ∀ v, v < G.length → us.getD v 0 = sumTo (uses G root v) G.length) : Ordering G root ((List.range G.length).filter fun v => us.getD v 0 == 0) 0 [] us := by
  refine ⟨List.nodup_range.filter _, fun i hi => List.mem_range.1 (List.mem_filter.1 hi).1, hl, fun v hv => ?_, fun v hv => ?_, fun s hs j hj hu => ?_⟩
  · rw [hus v hv, List.take_zero, List.count_nil, Nat.add_zero]
    exact sumTo_congr fun j _ => by simp
  · rw [List.mem_filter, List.mem_range]
    simp [hv]
  · exfalso
    have hm := nat_getD_mem hs
    have h1 := (List.mem_filter.1 hm)
    have h2 := List.mem_range.1 h1.1
    have h3 : us.getD (((List.range G.length).filter fun v => us.getD v 0 == 0).getD s 0) 0 = 0 := by simpa using h1.2
    rw [hus _ h2] at h3
    exact hu (sumTo_zero.1 h3 j hj)
theorem inews (w : World) (x : Value) (T : TypeId) : ∀ j v, ([x] : List Value)[j]? = some v → (w.alloc (.cells #[x] T)).cell? ((⟨w.heap.size, 0, none⟩ : Addr).add j) = some v := by
  intro j v hv
  rw [add_plain, Nat.zero_add, World.cell?_alloc_at _ _ _ _ rfl, ← hv, show (#[x] : Array Value) = [x].toArray from rfl, List.getElem?_toArray]
theorem filter_next (us : List Nat) (i : Nat) : (List.range (i + 1)).filter (fun v => us.getD v 0 == 0) = (List.range i).filter (fun v => us.getD v 0 == 0) ++ (if us.getD i 0 = 0 then [i] else []) := by
  rw [List.range_succ, List.filter_append]
  congr 1
  by_cases h : us.getD i 0 = 0
  · rw [if_pos h]
    have : (us.getD i 0 == 0) = true := by rw [h]; rfl
    simp only [List.filter, this]
  · rw [if_neg h]
    have : (us.getD i 0 == 0) = false := by
      cases e : (us.getD i 0 == 0)
      · rfl
      · exact absurd (beq_iff_eq.1 e) h
    simp only [List.filter, this]
end
set_option maxHeartbeats 4000000 in
set_option maxRecDepth 100000 in
theorem order_at {lo : Nat} {X : Nat → Prop} {p : Nat} {z : Value} {G : List Nd} {root r : Nat → Nat} {w : World} (h : Gph lo X w p z G) (hu : UF G root r) (hok : Ok G) :
    Calls Tryz.prog 135 #[.pointer (some ⟨p, 0, none⟩)] w (OrderR lo X p z G root r w) := by
  obtain ⟨zA, zc, rfl, _⟩ := h.slice
  obtain ⟨i1, hi1, hy0, hy1, hy2⟩ := info_parts int_info
  have hsm := h.small
  have c0 := h.hdr
  have HG := Lib.hid h
  have HU := Lib.hid hu
  have HOK := Lib.hid hok
  have hpl := h.lt
  clear h hu hok
  go_enter Tryz.func135, Tryz.ntmps135
  go_wp2_with (at_make; refine wpList_make_full _ rfl _ _ 73 rfl w.heap.size 3 i1 _ 1 Tryz.underlying73 hi1 hy0 hy1 _ _ _ _ G.length rfl rfl rfl rfl (by rw [hy2]; omega) (by unfold maxLen; omega) (Nat.le_refl _) ?_; intro w1 hown1 hg1; have c1 := (fr_cell hg1 (p := ⟨p, 0, none⟩) hpl (by simp)).trans c0)
  have hb1 : Below w.heap.size w w1 := ⟨hg1.os, hg1.tape, hg1.output, hg1.size, fun k hk => hg1.block k hk (by simp)⟩
  rw [made_nums] at hown1
  have HC0 := Lib.hid (show Counting lo X p (.slice zA G.length zc) G root r w w.heap.size (List.replicate G.length 0) 0 0 w1 from
    ⟨⟨G, Alike.refl _, HU.out, HG.out.below hb1⟩, fr_below hb1 _, hown1, by simp, fun v hv => by simp [sumTo, List.getD, hv]⟩)
  clear hown1 hg1 hb1
  go_loopw [27] (fun s27 wr => ∃ (j : Nat) (us : List Nat), j ≤ G.length ∧ s27 = .int .i64 (j : Nat) ∧ Hid (Counting lo X p (.slice zA G.length zc) G root r w w.heap.size us j 0 wr)) (fun s27 _ => G.length - (intOf s27).toNat)
  case atStart => exact ⟨0, _, Nat.zero_le _, rfl, HC0⟩
  case round =>
    clear HC0
    obtain ⟨j, us, hj, rfl, HC⟩ := hrel
    by_cases hlt : j < G.length
    · obtain ⟨H, e1, e2, e3⟩ := HC.out.g
      obtain ⟨q, cap, hz, _⟩ := e3.form (by rw [e1.len]; omega)
      injection hz with hz1 hz3 hz2
      subst hz1 hz2
      clear hz3
      have hjH : j < H.length := by rw [e1.len]; exact hlt
      obtain ⟨d0, d1, d2, d3, d4, d5⟩ := e3.cells hjH
      rw [(e1.tm hlt).2.1, (e1.tm hlt).2.2.1, (e1.tm hlt).2.2.2] at d4
      have HKI := Lib.hid (show ∀ W, w.grownBy W (some q) → IRow W (nd G j).A (nd G j).kids (nd G j).cap from fun W hW => ((HG.out.kids j hlt).fr hW fun b hb _ => .inl hb).at)
      have HKM := Lib.hid (fun c hc => (HOK.out j hlt).mem (c := c) hc)
      have hkl := (HG.out.fine j hlt).kids
      obtain ⟨lk, hlk⟩ : ∃ l, l = (nd G j).kids := ⟨_, rfl⟩
      obtain ⟨Aj, hAj⟩ : ∃ l, l = (nd G j).A := ⟨_, rfl⟩
      obtain ⟨cj, hcj⟩ : ∃ l, l = (nd G j).cap := ⟨_, rfl⟩
      rw [← hlk, ← hAj, ← hcj] at HKI d4
      rw [← hlk] at HKM hkl
      have HLK := Lib.hid hlk
      have HCI := Lib.hid (fun o => HC.out.below (below1 wr o))
      have hlk9 : lk.length ≤ 9223372036854775807 := by omega
      clear hlk hAj hcj e1 e2 e3 hjH HC
      go_wp2_with fail
      rename World => wb
      go_loopw [34] (fun s34 wr => ∃ (k : Nat) (us : List Nat), k ≤ lk.length ∧ s34 = .int .i64 (k : Nat) ∧ Hid (Counting lo X p (.slice (some ⟨q, 0, none⟩) G.length zc) G root r w w.heap.size us j k wr)) (fun s34 _ => lk.length - (intOf s34).toNat)
      case atStart => exact ⟨0, us, Nat.zero_le _, rfl, Lib.hid (HCI.out _)⟩
      case round =>
        clear HCI
        obtain ⟨k, us, hk, rfl, HC⟩ := hrel
        by_cases hlk2 : k < lk.length
        · obtain ⟨b, rfl, hb⟩ := (HKI.out wr HC.out.fr).2.2 (by omega)
          have b1 := hb k hlk2
          obtain ⟨c, hc⟩ : ∃ c, c = lk.getD k 0 := ⟨_, rfl⟩
          rw [← hc] at b1
          have hcG : c < G.length := HKM.out c (by rw [hc]; exact nat_getD_mem hlk2)
          obtain ⟨rc, hrc⟩ : ∃ rc, root c = rc := ⟨_, rfl⟩
          have hrl : rc < G.length := by rw [← hrc]; exact (HU.out.root_lt c hcG).1
          obtain ⟨H2, e1, e2, e3⟩ := HC.out.g
          have HQ := Lib.hid (find_to e3 e2 (show c < H2.length by rw [e1.len]; exact hcG) hrc)
          have HNX := Lib.hid (fun w3 hG hfr => HC.out.next (w3 := w3) HG.out (Nat.le_refl _) (show k < (nd G j).kids.length by rw [← HLK.out]; exact hlk2) (by rw [← HLK.out, ← hc]; exact hrc) hrl hG hfr)
          have hbd := HC.out.bound HG.out hj hrl
          have HE1 := Lib.hid e1
          clear hb hc hcG hrc e1 e2 e3 HC
          go_wp2_with fail
          refine (HQ.out).mono ?_
          rintro e w3 ⟨H3, rfl, m1, m2, m3, m4, m5⟩
          obtain ⟨u1, u2, u3⟩ := HNX.out w3 ⟨H3, HE1.out.trans m1, m2, m3⟩ m4
          have HE := Lib.hid u3
          clear m1 m2 m3 m4 m5 u3 HNX HQ
          generalize us.getD rc 0 = un at *
          go_wp2_with fail
          go_roundw
          case rel => exact ⟨k + 1, us.set rc (un + 1), by omega, by go_num, HE⟩
          case measure => simp [intOf]; omega
        · obtain rfl : k = lk.length := by omega
          have HE := Lib.hid (Counting.wrap (j := j) (by rw [← HLK.out]; exact HC.out))
          clear HC
          go_wp2_with fail
          go_roundw
          case rel => exact ⟨j + 1, us, by omega, by go_num, HE⟩
          case measure => simp [intOf]; omega
    · obtain rfl : j = G.length := by omega
      have HR0 := Lib.hid (show Rows lo X p (.slice zA G.length zc) G root r w w.heap.size us ((List.range 0).filter fun v => us.getD v 0 == 0) (.slice none 0 0) wr from ⟨HC.out.g, HC.out.fr, HC.out.row, HC.out.len, World.ownsRow_nil _ _ _ _, by simp [Value.ownBlock]⟩)
      have HUS := Lib.hid (show ∀ v, v < G.length → us.getD v 0 = sumTo (uses G root v) G.length from fun v hv => by
        have := HC.out.us v hv
        simpa using this)
      clear HC
      go_wp2_with fail
      rename World => wa
      go_loopw [9, 50] (fun s9 s50 wr => ∃ (i : Nat) (ord : List Nat) (A : Option Addr) (c : Nat), i ≤ G.length ∧ s50 = .int .i64 (i : Nat) ∧ s9 = .slice A ord.length c ∧ Hid (Rows lo X p (.slice zA G.length zc) G root r w w.heap.size us ord (.slice A ord.length c) wr ∧ ord = (List.range i).filter fun v => us.getD v 0 == 0)) (fun _ s50 _ => G.length - (intOf s50).toNat)
      case atStart => exact ⟨0, [], none, 0, Nat.zero_le _, rfl, rfl, Lib.hid ⟨HR0.out, rfl⟩⟩
      case round =>
        clear HR0
        obtain ⟨i, ord, A, c, hi, rfl, rfl, HR⟩ := hrel
        by_cases hlt : i < G.length
        · have u1 := nums_cell HR.out.1.row (v := i) (by rw [HR.out.1.len]; exact hlt)
          have hol : ord.length ≤ i := by
            rw [HR.out.2]
            have := List.length_filter_le (fun v => us.getD v 0 == 0) (List.range i)
            simpa using this
          obtain ⟨un, hun⟩ : ∃ n, n = us.getD i 0 := ⟨_, rfl⟩
          rw [← hun] at u1
          by_cases h0 : un = 0
          · have HN := Lib.hid (show (List.range (i + 1)).filter (fun v => us.getD v 0 == 0) = ord ++ [i] by rw [filter_next, ← hun, if_pos h0, ← HR.out.2])
            subst h0
            clear hun
            have hsz : w.heap.size ≤ wr.heap.size := HR.out.1.fr.size
            go_wp2_with (at_builtin; (refine wpList_append_lies _ rfl _ _ 73 rfl w.heap.size 3 i1 _ 1 8 Tryz.underlying73 hi1 hy0 hy1 hy2 rfl (by decide) _ ord.length (nums ord) rfl (HR.out.1.orow.alloc _) ⟨wr.heap.size, 0, none⟩ 1 1 [.int .i64 (i : Nat)] rfl rfl (inews wr _ _) (nums_one [i]) (by decide) (by unfold maxLen; omega) (by omega) (by simp; omega) _ rfl ?_); intro g cp w8 hown hg hat hglt; have HR2 := Lib.hid (HR.out.1.append HG.out hown hg (by rcases hat with h | h; exact .inl h; exact .inr (by rw [h]; simp))); clear hown hg hat hglt)
            go_roundw
            case rel => exact ⟨i + 1, ord ++ [i], some ⟨g, 0, none⟩, cp, by omega, by go_num, by simp, Lib.hid ⟨by simpa using HR2.out, HN.out.symm⟩⟩
            case measure => simp [intOf]; omega
          · have HN := Lib.hid (show (List.range (i + 1)).filter (fun v => us.getD v 0 == 0) = ord by rw [filter_next, ← hun, if_neg h0, ← HR.out.2, List.append_nil])
            have hne : ((un : Int) == 0) = false := by simp; omega
            clear hun h0
            go_wp2_with fail
            go_roundw
            case rel => exact ⟨i + 1, ord, A, c, by omega, by go_num, rfl, Lib.hid ⟨HR.out.1, HN.out.symm⟩⟩
            case measure => simp [intOf]; omega
        · obtain rfl : i = G.length := by omega
          have HO0 := Lib.hid (show Rows lo X p (.slice zA G.length zc) G root r w w.heap.size us ord (.slice A ord.length c) wr ∧ Ordering G root ord 0 [] us from ⟨HR.out.1, by rw [HR.out.2]; exact ordering_start HR.out.1.len HUS.out⟩)
          clear HR HUS
          go_wp2_with fail
          rename World => wd
          go_loopw [9, 12] (fun s9 s12 wr => ∃ (m : Nat) (ord : List Nat) (A : Option Addr) (c : Nat) (us : List Nat), s12 = .int .i64 (m : Nat) ∧ s9 = .slice A ord.length c ∧ m ≤ ord.length ∧ ord.length ≤ G.length ∧ Hid (Rows lo X p (.slice zA G.length zc) G root r w w.heap.size us ord (.slice A ord.length c) wr ∧ Ordering G root ord m [] us)) (fun _ s12 _ => G.length - (intOf s12).toNat)
          case atStart => exact ⟨0, ord, A, c, us, rfl, rfl, Nat.zero_le _, (pigeon _ _ HO0.out.2.nodup HO0.out.2.lt).1, HO0⟩
          case round =>
            clear HO0
            obtain ⟨m, ord, A, c, us, rfl, rfl, hm, hon, HO⟩ := hrel
            by_cases hlt : m < ord.length
            · obtain ⟨ob, oc, hv⟩ : ∃ ob oc, (Value.slice A ord.length c) = .slice (some ⟨ob, 0, none⟩) ord.length oc := by
                rcases HO.out.1.orow.2 with ⟨_, h'⟩ | ⟨g', cap', cur, h', _⟩
                · omega
                · exact ⟨g', cap', h'⟩
              injection hv with hv1 hv3 hv2
              subst hv1 hv2
              clear hv3
              have o1 := nums_cell HO.out.1.orow hlt
              obtain ⟨x, hx⟩ : ∃ x, x = ord.getD m 0 := ⟨_, rfl⟩
              have hxl : x < G.length := by rw [hx]; exact HO.out.2.lt _ (nat_getD_mem hlt)
              rw [← hx] at o1
              obtain ⟨H, e1, e2, e3⟩ := HO.out.1.g
              obtain ⟨q, cap, hz, _⟩ := e3.form (by rw [e1.len]; omega)
              injection hz with hz1 hz3 hz2
              subst hz1 hz2
              clear hz3
              have c9 := e3.hdr
              have d4 := (e3.cells (i := x) (by rw [e1.len]; exact hxl)).2.2.2.2.1
              rw [(e1.tm hxl).2.1, (e1.tm hxl).2.2.1, (e1.tm hxl).2.2.2] at d4
              have HKI := Lib.hid (show ∀ W, w.grownBy W (some q) → IRow W (nd G x).A (nd G x).kids (nd G x).cap from fun W hW => ((HG.out.kids x hxl).fr hW fun b hb _ => .inl hb).at)
              have HKM := Lib.hid (fun c hc => (HOK.out x hxl).mem (c := c) hc)
              have hkl := (HG.out.fine x hxl).kids
              obtain ⟨lk, hlk⟩ : ∃ l, l = (nd G x).kids := ⟨_, rfl⟩
              obtain ⟨Aj, hAj⟩ : ∃ l, l = (nd G x).A := ⟨_, rfl⟩
              obtain ⟨cj, hcj⟩ : ∃ l, l = (nd G x).cap := ⟨_, rfl⟩
              rw [← hlk, ← hAj, ← hcj] at HKI d4
              rw [← hlk] at HKM hkl
              have HI := Lib.hid (show Rows lo X p (.slice (some ⟨q, 0, none⟩) G.length zc) G root r w w.heap.size us ord (.slice (some ⟨ob, 0, none⟩) ord.length c) wr ∧ Ordering G root ord (m + 1) ((lk.drop 0).map root) us from ⟨HO.out.1, by have := HO.out.2.start hlt; rw [← hx, ← hlk] at this; exact this⟩)
              clear hlk hAj hcj e1 e2 e3 HO hx
              have hm1 : m + 1 ≤ ord.length := hlt
              go_wp2_with fail
              go_region
              go_wp2_with fail
              rename World => we
              go_loopw [9, 80] (fun s9 s80 wr => ∃ (k : Nat) (ord : List Nat) (A : Option Addr) (c : Nat) (us : List Nat), k ≤ lk.length ∧ s80 = .int .i64 (k : Nat) ∧ s9 = .slice A ord.length c ∧ m + 1 ≤ ord.length ∧ ord.length ≤ G.length ∧ Hid (Rows lo X p (.slice (some ⟨q, 0, none⟩) G.length zc) G root r w w.heap.size us ord (.slice A ord.length c) wr ∧ Ordering G root ord (m + 1) ((lk.drop k).map root) us)) (fun _ s80 _ => lk.length - (intOf s80).toNat)
              case atStart => exact ⟨0, ord, _, c, us, Nat.zero_le _, rfl, rfl, hm1, hon, Lib.hid ⟨HI.out.1.drew, HI.out.2⟩⟩
              case round =>
                clear HI o1 c9 d4
                obtain ⟨k, ord, A, c, us, hk, rfl, rfl, hm2, hon2, HO⟩ := hrel
                by_cases hlk2 : k < lk.length
                · obtain ⟨b, rfl, hb⟩ := (HKI.out wr HO.out.1.fr).2.2 (by omega)
                  have b1 := hb k hlk2
                  obtain ⟨cc, hc⟩ : ∃ c, c = lk.getD k 0 := ⟨_, rfl⟩
                  rw [← hc] at b1
                  have hcG : cc < G.length := HKM.out cc (by rw [hc]; exact nat_getD_mem hlk2)
                  obtain ⟨rc, hrc⟩ : ∃ rc, root cc = rc := ⟨_, rfl⟩
                  have hrl : rc < G.length := by rw [← hrc]; exact (HU.out.root_lt cc hcG).1
                  obtain ⟨H2, e1, e2, e3⟩ := HO.out.1.g
                  have HQ := Lib.hid (find_to e3 e2 (show cc < H2.length by rw [e1.len]; exact hcG) hrc)
                  have hdr : (lk.drop k).map root = rc :: (lk.drop (k + 1)).map root := by
                    rw [List.drop_eq_getElem_cons hlk2, List.map_cons]
                    have : lk[k] = cc := by rw [hc]; simp [List.getD, List.getElem?_eq_getElem hlk2]
                    rw [this, hrc]
                  have hD := HO.out.2
                  rw [hdr] at hD
                  have hbd := hD.bound (B := 1000000) (fun i hi => (HG.out.fine i hi).kids) hrl
                  have hbd2 : (rc :: (lk.drop (k + 1)).map root).length ≤ 1000001 := by simp; omega
                  have hbd3 : G.length * 1000000 ≤ 1000000 * 1000000 := Nat.mul_le_mul_right _ hsm
                  have hdown := hD.down hrl
                  obtain ⟨un, hun⟩ : ∃ un, us.getD rc 0 = un + 1 := ⟨us.getD rc 0 - 1, by have := hdown.1; omega⟩
                  rw [hun] at hdown hbd
                  have hub : un ≤ 1000002000000 := by omega
                  have HDN := Lib.hid hdown
                  have HRF := Lib.hid (fun w3 hG hfr => HO.out.1.find (w3 := w3) HG.out hG hfr)
                  have HE1 := Lib.hid e1
                  have HUN := Lib.hid hun
                  have hrcu : rc < us.length := by rw [HO.out.1.len]; exact hrl
                  clear hb hc hcG hrc e1 e2 e3 HO hdr hD hbd hbd2 hbd3 hdown hun
                  go_wp2_with fail
                  refine (HQ.out).mono ?_
                  rintro e w3 ⟨H3, rfl, m1, m2, m3, m4, m5⟩
                  have hr3 := HRF.out w3 ⟨H3, HE1.out.trans m1, m2, m3⟩ m4
                  have u1 := nums_cell hr3.row hrcu
                  rw [HUN.out] at u1
                  have u2 := World.ownsRow.frozenAt hr3.row rc
                  have HR4 := Lib.hid (hr3.set HG.out (Nat.le_refl _) rc un)
                  have u3 := nums_cell HR4.out.row (v := rc) (by rw [List.length_set]; exact hrcu)
                  have hsz3 : w.heap.size ≤ w3.heap.size := hr3.fr.size
                  rw [set_getD _ hrcu, if_pos rfl] at u3
                  clear m1 m2 m3 m4 m5 hr3 HRF HQ
                  simp only [Nat.add_sub_cancel] at HDN
                  by_cases h0 : un = 0
                  · have hN := (HDN.out.2.2 (by omega) hm2)
                    have HN := Lib.hid hN
                    clear hN
                    subst h0
                    have HR5 := Lib.hid (show Rows lo X p (.slice (some ⟨q, 0, none⟩) G.length zc) G root r w w.heap.size (us.set rc 0) ord (.slice A ord.length c) (w3.setCell ⟨w.heap.size, rc, none⟩ (.int .i64 0)) from HR4.out)
                    have hss : (w3.setCell ⟨w.heap.size, rc, none⟩ (.int .i64 0)).heap.size = w3.heap.size := by simp [World.setCell]
                    have HNW := Lib.hid (show ∀ j v, ([.int .i64 (rc : Nat)] : List Value)[j]? = some v → ((w3.setCell ⟨w.heap.size, rc, none⟩ (.int .i64 0)).alloc (.cells #[.int .i64 (rc : Nat)] 3)).cell? ((⟨w3.heap.size, 0, none⟩ : Addr).add j) = some v from by
                      have := inews (w3.setCell ⟨w.heap.size, rc, none⟩ (.int .i64 0)) (.int .i64 (rc : Nat)) 3
                      rwa [hss] at this)
                    clear HR4 hss
                    go_wp2_with (at_builtin; refine wpList_append_lies _ rfl _ _ 73 rfl w.heap.size 3 i1 _ 1 8 Tryz.underlying73 hi1 hy0 hy1 hy2 rfl (by decide) _ ord.length (nums ord) rfl (HR5.out.orow.alloc _) ⟨w3.heap.size, 0, none⟩ 1 1 [.int .i64 (rc : Nat)] rfl rfl HNW.out (nums_one [rc]) (by decide) (by unfold maxLen; omega) (by omega) (by simp [World.setCell]; omega) _ rfl ?_; intro g cp w8 hown hg hat hglt; have HR6 := Lib.hid (HR5.out.append HG.out hown hg (by rcases hat with h | h; exact .inl h; exact .inr (by rw [h]; simp))); clear hown hg hat hglt)
                    have hon3 : (ord ++ [rc]).length ≤ G.length := (pigeon _ _ HN.out.nodup HN.out.lt).1
                    have hle : (ord ++ [rc]).length = ord.length + 1 := by simp
                    rw [hle] at hon3
                    go_roundw
                    case rel => exact ⟨k + 1, ord ++ [rc], some ⟨g, 0, none⟩, cp, us.set rc 0, by omega, by go_num, by rw [hle], by omega, by omega, Lib.hid ⟨by rw [hle]; exact HR6.out, HN.out⟩⟩
                    case measure => simp [intOf]; omega
                  · have hne : ((un : Int) == 0) = false := by simp; omega
                    have HN := Lib.hid (HDN.out.2.1 (by omega))
                    clear h0
                    go_wp2_with fail
                    go_roundw
                    case rel => exact ⟨k + 1, ord, A, c, us.set rc un, by omega, by go_num, rfl, hm2, hon2, Lib.hid ⟨HR4.out, HN.out⟩⟩
                    case measure => simp [intOf]; omega
                · obtain rfl : k = lk.length := by omega
                  have HE := Lib.hid (show Rows lo X p (.slice (some ⟨q, 0, none⟩) G.length zc) G root r w w.heap.size us ord (.slice A ord.length c) wr ∧ Ordering G root ord (m + 1) [] us from ⟨HO.out.1, by have := HO.out.2; rw [List.drop_length] at this; exact this⟩)
                  clear HO
                  go_wp2_with fail
                  go_roundw
                  case rel => exact ⟨m + 1, ord, A, c, us, by go_num, rfl, hm2, hon2, HE⟩
                  case measure => simp [intOf]; omega
            · obtain rfl : m = ord.length := by omega
              obtain ⟨H, e1, e2, e3⟩ := HO.out.1.g
              have c9 := e3.hdr
              have HE := Lib.hid (show OrderR lo X p (.slice zA G.length zc) G root r w (.returned (.tuple #[.slice A ord.length c, .bool (decide (ord.length = G.length))])) wr.drew from
                ⟨H, A, c, ord, us, rfl, e1, e2, e3.drew, fr_drew HO.out.1.fr, World.ownsRow.drew HO.out.1.orow, HO.out.2⟩)
              clear e1 e2 e3 HO
              have hbe : ((ord.length : Int) == (G.length : Int)) = decide (ord.length = G.length) := by
                rw [Bool.eq_iff_iff]; simp; omega
              generalize decide (ord.length = G.length) = bb at *
              go_wp2_with fail
              go_region
              go_wp2_with fail
              go_ret2
              exact HE.out
end Go.Proofs.YtgpglgehlnfggaaGreat
namespace Go.Proofs.YtgpglgehlnfggaaGreat
open Go.RowKit
def extR (n : Nat) (root : Nat → Nat) : Nat → Nat := fun j => if j < n then root j else j
section
variable {G H N : List Nd} {root r : Nat → Nat} {op E : List (Nat × Nat)}
theorem Alike.ndv (h : Alike G H) {f : Int → Tm} {i : Nat} (hi : i < G.length) : ndv f H i = ndv f G i := by unfold Go.Proofs.YtgpglgehlnfggaaGreat.ndv; rw [(h.tm hi).1]
theorem Alike.ok (h : Alike G H) (k : Ok G) : Ok H := by
  intro i hi
  rw [h.len] at hi
  obtain ⟨h1, h2, _, _⟩ := h.tm hi
  have k1 := k i hi
  refine ⟨by rw [h1]; exact k1.form, by rw [h1, h2]; exact k1.len, fun j hj => ?_⟩
  rw [h2] at hj ⊢
  have := k1.kid j hj
  rw [h.len, h1, (h.tm this.1).1]
  exact this
theorem Alike.mid (h : Alike G H) (k : Mid G root op E) : Mid H root op E := by
  have hc : ∀ q, Coarse H root op q → Coarse G root op q := fun q hq => ⟨fun i j hi hj => hq.1 i j (by rw [h.len]; exact hi) (by rw [h.len]; exact hj), hq.2⟩
  have hf : ∀ f, (∀ p ∈ E, Go.Proofs.YtgpglgehlnfggaaGreat.ndv f H p.1 = Go.Proofs.YtgpglgehlnfggaaGreat.ndv f H p.2) → ∀ p ∈ E, Go.Proofs.YtgpglgehlnfggaaGreat.ndv f G p.1 = Go.Proofs.YtgpglgehlnfggaaGreat.ndv f G p.2 := fun f hf p hp => by
    have h1 := k.ebd p hp
    have := hf p hp
    rw [h.ndv h1.1, h.ndv h1.2] at this
    exact this
  refine ⟨fun p hp => by rw [h.len]; exact k.bd p hp, fun p hp => by rw [h.len]; exact k.ebd p hp, fun f hf' => ?_, fun i j hi hj hki hkj e => ?_, fun q hq i j hi hj hki hkj e => ?_, fun q hq => k.eqs q (hc q hq)⟩
  · have hs := k.sound f (hf f hf')
    refine ⟨fun i j hi hj e => ?_, fun p hp => ?_⟩
    · rw [h.len] at hi hj
      rw [h.ndv hi, h.ndv hj]
      exact hs.1 i j hi hj e
    · have h1 := k.bd p hp
      rw [h.ndv h1.1, h.ndv h1.2]
      exact hs.2 p hp
  · rw [h.len] at hi hj
    rw [(h.tm hi).1] at hki
    rw [(h.tm hj).1] at hkj
    have := k.lab i j hi hj hki hkj e
    unfold SameLab at this ⊢
    rw [(h.tm hi).1, (h.tm hi).2.1, (h.tm hj).1, (h.tm hj).2.1]
    exact this
  · rw [h.len] at hi hj
    rw [(h.tm hi).1] at hki
    rw [(h.tm hj).1] at hkj
    rw [(h.tm hi).2.1, (h.tm hj).2.1]
    exact k.cong q (hc q hq) i j hi hj hki hkj e
theorem Alike.tops (h : Alike G H) (hl : ∀ i, i < G.length → root i < G.length) (k : Tops G root) : Tops H root := by
  refine ⟨fun i hi hk => ?_, fun i hi hk => ?_⟩
  · rw [h.len] at hi
    rw [(h.tm hi).1] at hk
    rw [(h.tm (hl i hi)).1]
    exact k.nonvar i hi hk
  · rw [h.len] at hi
    rw [(h.tm (hl i hi)).1] at hk ⊢
    rw [(h.tm hi).1]
    exact k.least i hi hk
theorem ext_old {n i : Nat} (h : i < n) : extR n root i = root i := by unfold extR; rw [if_pos h]
theorem ext_new {n i : Nat} (h : ¬ i < n) : extR n root i = i := by unfold extR; rw [if_neg h]
theorem ext_eq {n : Nat} (rl : ∀ j, j < n → root j < n) {i j : Nat} (e : extR n root i = extR n root j) : (i < n ∧ j < n ∧ root i = root j) ∨ (¬ i < n ∧ ¬ j < n ∧ i = j) := by
  by_cases hi : i < n <;> by_cases hj : j < n
  · rw [ext_old hi, ext_old hj] at e; exact .inl ⟨hi, hj, e⟩
  · rw [ext_old hi, ext_new hj] at e; have := rl i hi; omega
  · rw [ext_new hi, ext_old hj] at e; have := rl j hj; omega
  · rw [ext_new hi, ext_new hj] at e; exact .inr ⟨hi, hj, e⟩
theorem Mid.ext (h : Mid G root [] E) (rl : ∀ j, j < G.length → root j < G.length) : Mid (G ++ N) (extR G.length root) [] E := by
  have hc : ∀ q, Coarse (G ++ N) (extR G.length root) [] q → Coarse G root [] q := fun q hq => ⟨fun i j hi hj e => hq.1 i j (by simp; omega) (by simp; omega) (by rw [ext_old hi, ext_old hj, e]), fun p hp => by cases hp⟩
  refine ⟨fun p hp => (by cases hp), fun p hp => ?_, fun f hf => ⟨fun i j hi hj e => ?_, fun p hp => by cases hp⟩, fun i j hi hj hki hkj e => ?_, fun q hq i j hi hj hki hkj e => ?_, fun q hq => h.eqs q (hc q hq)⟩
  · have := h.ebd p hp
    simp
    omega
  · have hf' : ∀ p ∈ E, ndv f G p.1 = ndv f G p.2 := fun p hp => by
      have h1 := h.ebd p hp
      have := hf p hp
      rw [ndv_left h1.1, ndv_left h1.2] at this
      exact this
    rcases ext_eq rl e with ⟨h1, h2, h3⟩ | ⟨_, _, rfl⟩
    · rw [ndv_left h1, ndv_left h2]
      exact (h.sound f hf').1 i j h1 h2 h3
    · rfl
  · rcases ext_eq rl e with ⟨h1, h2, h3⟩ | ⟨_, _, rfl⟩
    · rw [nd_left h1] at hki
      rw [nd_left h2] at hkj
      have := h.lab i j h1 h2 hki hkj h3
      unfold SameLab at this ⊢
      rw [nd_left h1, nd_left h2]
      exact this
    · exact ⟨⟨rfl, rfl, rfl⟩, rfl⟩
  · rcases ext_eq rl e with ⟨h1, h2, h3⟩ | ⟨_, _, rfl⟩
    · rw [nd_left h1] at hki
      rw [nd_left h2] at hkj
      rw [nd_left h1, nd_left h2]
      exact h.cong q (hc q hq) i j h1 h2 hki hkj h3
    · rfl
theorem Tops.ext (h : Tops G root) (rl : ∀ j, j < G.length → root j < G.length) : Tops (G ++ N) (extR G.length root) := by
  refine ⟨fun i hi hk => ?_, fun i hi hk => ?_⟩
  · by_cases h1 : i < G.length
    · rw [nd_left h1] at hk
      rw [ext_old h1, nd_left (rl i h1)]
      exact h.nonvar i h1 hk
    · rw [ext_new h1]; exact hk
  · by_cases h1 : i < G.length
    · rw [ext_old h1, nd_left (rl i h1)] at hk ⊢
      rw [nd_left h1]
      exact h.least i h1 hk
    · rw [ext_new h1]; exact Int.le_refl _
theorem UF.ext (h : UF G root r) (hN : ∀ j, G.length ≤ j → j < (G ++ N).length → (nd (G ++ N) j).next = j) : UF (G ++ N) (extR G.length root) r := by
  refine ⟨fun i hi => ?_, fun i hi => ?_, fun i hi => ?_, fun i hi hn => ?_⟩
  · by_cases h1 : i < G.length
    · rw [nd_left h1]
      have := h.lt i h1
      simp
      omega
    · rw [hN i (by omega) hi]; exact hi
  · by_cases h1 : i < G.length
    · rw [nd_left h1, ext_old (h.lt i h1), ext_old h1]
      exact h.step i h1
    · rw [hN i (by omega) hi]
  · by_cases h1 : i < G.length
    · rw [nd_left h1, ext_old h1]
      exact h.fix i h1
    · rw [hN i (by omega) hi, ext_new h1]
  · by_cases h1 : i < G.length
    · rw [nd_left h1] at hn ⊢
      exact h.dec i h1 hn
    · exact absurd (hN i (by omega) hi) hn
theorem Ok.ext (h : Ok G) (hN : ∀ j, G.length ≤ j → j < (G ++ N).length → OkAt (G ++ N) j) : Ok (G ++ N) := fun i hi => by
  by_cases h1 : i < G.length
  · exact (h i h1).left h1
  · exact hN i (by omega) hi
theorem uf_nil : UF [] root r := ⟨fun i hi => (by simp at hi), fun i hi => (by simp at hi), fun i hi => (by simp at hi), fun i hi => by simp at hi⟩
theorem mid_nil : Mid [] root [] [] := ⟨fun p hp => (by cases hp), fun p hp => (by cases hp), fun f _ => ⟨fun i j hi => (by simp at hi), fun p hp => by cases hp⟩, fun i j hi => (by simp at hi), fun q _ i j hi => (by simp at hi), fun q _ p hp => by cases hp⟩
theorem tops_nil : Tops [] root := ⟨fun i hi => (by simp at hi), fun i hi => by simp at hi⟩
theorem mid_closed (h : Mid G root [] E) (hok : Ok G) (hv : VarU G) (ht : Tops G root) (rl : ∀ j, j < G.length → root j < G.length ∧ root (root j) = root j) : Closed G E root := by
  have hc : Coarse G root [] root := ⟨fun _ _ _ _ e => e, fun p hp => by cases hp⟩
  refine ⟨hok, hv, fun i hi => (rl i hi).1, fun i hi => (rl i hi).2, fun f hf => (h.sound f hf).1, fun i j hi hj hki hkj e => ⟨(h.lab i j hi hj hki hkj e).1, h.cong root hc i j hi hj hki hkj e⟩, fun p hp => ⟨(h.ebd p hp).1, (h.ebd p hp).2, h.eqs root hc p hp⟩, ht.nonvar, ht.least⟩
end
theorem zip_take_next {la lb : List Tm} {j : Nat} (h1 : j < la.length) (h2 : j < lb.length) : (la.zip lb).take (j + 1) = (la.zip lb).take j ++ [(la.getD j default, lb.getD j default)] := by
  rw [List.take_succ_eq_append_getElem (by rw [List.length_zip]; omega)]
  simp [List.getD, h1, h2]
theorem unif_snoc {E : List (Tm × Tm)} {a b : Tm} {f : Int → Tm} : Unif (E ++ [(a, b)]) f ↔ Unif E f ∧ a.sub f = b.sub f := by
  unfold Unif
  constructor
  · intro h
    exact ⟨fun p hp => h p (List.mem_append.2 (.inl hp)), h (a, b) (by simp)⟩
  · rintro ⟨h1, h2⟩ p hp
    rcases List.mem_append.1 hp with hp | hp
    · exact h1 p hp
    · rw [List.mem_singleton.1 hp]; exact h2
theorem unif_take {E : List (Tm × Tm)} {f : Int → Tm} (h : Unif E f) (j : Nat) : Unif (E.take j) f := fun p hp => h p (List.mem_of_mem_take hp)
def Solving (la lb : List Tm) (p mb : Nat) (w : World) (z : Value) (G : List Nd) (j : Nat) (wr : World) : Prop :=
  Gadd w.heap.size No wr p mb z G ∧ Below w.heap.size w wr ∧ Ok G ∧ G.length ≤ nodesL (la.take j) + nodesL (lb.take j) ∧
    ∃ root r E, UF G root r ∧ Mid G root [] E ∧ Tops G root ∧ ∀ f, Unif ((la.zip lb).take j) f ↔ ∀ p ∈ E, ndv f G p.1 = ndv f G p.2
structure GMem (lo : Nat) (w : World) (z : Value) (mb : Nat) (G : List Nd) : Prop where
  row : w.ownsRow lo 140 6 z G.length (gcells G)
  kids : ∀ i, i < G.length → KidsAt lo (fun k => z.ownBlock = some k) w (nd G i)
  fine : ∀ i, i < G.length → Fine (nd G i)
  small : G.length ≤ 1000000
  vm : ∃ D : DataW Unit, w.ownsMap Tryz.prog 3 (plainElem Tryz.prog 3) mb G.length D ∧ VMap D G
  zm : z.ownBlock ≠ some mb
def SolvedR (la lb : List Tm) (w : World) (e : Ending) (w' : World) : Prop :=
  ∃ (z : Value) (mb : Nat) (A : Option Addr) (c : Nat) (ord : List Nat) (ok : Bool), e = .returned (.tuple #[.agg #[z, .map (some mb)], .slice A ord.length c, .bool ok]) ∧ Below w.heap.size w w' ∧ (ok = false → ∀ f, ¬ Unif (la.zip lb) f) ∧
    (ok = true → ∃ G root r E us, GMem w.heap.size w' z mb G ∧ UF G root r ∧ Closed G E root ∧ (∀ f, Unif (la.zip lb) f ↔ ∀ p ∈ E, ndv f G p.1 = ndv f G p.2) ∧ Ordering G root ord ord.length [] us ∧ ord.length = G.length ∧
      w'.ownsRow w.heap.size 3 1 (.slice A ord.length c) ord.length (nums ord) ∧ (Value.slice A ord.length c).ownBlock ≠ some mb ∧ ((Value.slice A ord.length c).ownBlock = none ∨ (Value.slice A ord.length c).ownBlock ≠ z.ownBlock))
end Go.Proofs.YtgpglgehlnfggaaGreat
namespace Go.Proofs.YtgpglgehlnfggaaGreat
open Go.RowKit
theorem made_ints (L : Nat) : (madeCells (Value.int .i64 0).cells (L * 1)).toList = List.replicate L (Value.int .i64 0) := by
  rw [Nat.mul_one]
  exact toList_madeCells_one (Value.int .i64 0) L
theorem AddR.same {lo : Nat} {Y : Nat → Prop} {p mb i : Nat} {z : Value} {G : List Nd} {t : Tm} {w W : World} (hg : Gadd lo Y W p mb z G) (hW : Below w.heap.size w W) (hi : i < G.length) (ht : (nd G i).tm.strip = t.strip) : AddR lo Y p mb z G t w (.returned (.int .i64 (i : Nat))) W :=
  ⟨z, G, i, rfl, hg, ⟨[], by simp⟩, fun j h1 h2 => by omega, hi, ht, by omega, AddFr.of hW, .inl rfl⟩
theorem gform_at {lo : Nat} {Y : Nat → Prop} {p mb : Nat} {z : Value} {G : List Nd} {w : World} (_ : Gadd lo Y w p mb z G) (hok : ∀ i, i < G.length → (nd G i).tm.form = true) {i : Nat} (hi : i < G.length) {t : Tm} (hk : (nd G i).tm.kind = 1) (ht : t.form = true) (hk' : t.kind = 1) (hn : (nd G i).tm.num = t.num) : (nd G i).tm.strip = t.strip := by
  rw [(form_var (hok i hi) hk).1, (form_var ht hk').1, hn]
theorem undrew_gr {w w' : World} {row : Option Nat} (h : w.drew.grownBy w' row) : w.grownBy w' row := ⟨h.os, h.tape, h.output, h.size, h.block⟩
structure PreApp (lo : Nat) (Y : Nat → Prop) (p mb : Nat) (z : Value) (G : List Nd) (x : Nd) (w w1 : World) : Prop where
  g : Gph lo (fun k => k = p ∨ k = mb ∨ Y k) w1 p z G
  vc : w1.cell? ⟨p, 1, none⟩ = some (.map (some mb))
  vm : ∃ D : DataW Unit, w1.ownsMap Tryz.prog 3 (plainElem Tryz.prog 3) mb (G.length + 1) D ∧ VMap D (G ++ [x])
  fz : ∀ j, w1.frozen? ⟨p, j, none⟩ = false
  b0 : w1.cell? ⟨w.heap.size, 0, none⟩ = some (.int .i64 x.tm.kind)
  b1 : w1.cell? ⟨w.heap.size, 1, none⟩ = some (.int .i64 x.tm.num)
  b2 : w1.cell? ⟨w.heap.size, 2, none⟩ = some (.string x.tm.name)
  b3 : w1.cell? ⟨w.heap.size, 3, none⟩ = some (.slice x.tm.at_ x.tm.args.length x.tm.cap)
  lt : w.heap.size < w1.heap.size
  fr : AddFr p mb z w w1
set_option maxHeartbeats 4000000 in
set_option maxRecDepth 100000 in
theorem add_at (w0 : World) (p mb : Nat) (t : Tm) : ∀ (Y : Nat → Prop) (G : List Nd) (z : Value) (w : World), t.At w0 → t.form = true → Below w0.heap.size w0 w → Gadd w0.heap.size Y w p mb z G → (∀ i, i < G.length → (nd G i).tm.form = true) → (∀ b, Y b → b < w.heap.size) → G.length + t.nodes ≤ 1000000 →
    Calls Tryz.prog 134 #[.pointer (some ⟨p, 0, none⟩), t.val] w (AddR w0.heap.size Y p mb z G t w) := by
  induction t using Tm.induct with
  | h k n s A c a ih =>
    intro Y G z w hat hform hbw hg hfm hY hsz
    show Calls Tryz.prog 134 #[.pointer (some ⟨p, 0, none⟩), .agg #[.int .i64 k, .int .i64 n, .string s, .slice A a.length c]] w _
    obtain ⟨zA, zc, rfl, _⟩ := hg.g.slice
    obtain ⟨i0, hi0, hz0, hz1, hz2⟩ := info_parts node_info
    obtain ⟨i1, hi1, hy0, hy1, hy2⟩ := info_parts int_info
    have hfits := ((At_iff _ _).1 hat).1
    simp only [Tm.kind, Tm.num, Tm.name] at hfits
    have hsm := hg.g.small
    have hnod : (Tm.mk k n s A c a).nodes = 1 + nodesL a := rfl
    have hln : a.length ≤ 1000000 := by have := length_le_nodes a; omega
    have c0 := hg.g.hdr
    have c0x := al1 c0
    have hv0 := hg.vc
    have hvx := al1 hv0
    have hpl := hg.g.lt
    have HAT := Lib.hid hat
    have HLS := Lib.hid (show Lst w0 A a c from hat.lst)
    have HF := Lib.hid hform
    have HBW := Lib.hid hbw
    have HFM := Lib.hid hfm
    have HG0 := Lib.hid hg
    have QI := Lib.hid ih
    have HSZ := Lib.hid hsz
    have HG1 := Lib.hid (hg.alloc (.cells #[.int .i64 k, .int .i64 n, .string s, .slice A a.length c] 40))
    clear ih hat hform hbw hg hfm hsz hnod
    have HBX := Lib.hid (fun (W : World) (hW : AddFr p mb (.slice zA G.length zc) (w.alloc (.cells #[.int .i64 k, .int .i64 n, .string s, .slice A a.length c] 40)) W) (j : Nat) => show W.cell? ⟨w.heap.size, j, none⟩ = (#[Value.int .i64 k, .int .i64 n, .string s, .slice A a.length c] : Array Value)[j]? from by
      have h1 := HG0.out.g.lt
      obtain ⟨D, h2, _⟩ := HG0.out.vm
      have h3 := h2.lt
      rw [hW.cell (a := ⟨w.heap.size, j, none⟩) (by simp) (by show w.heap.size ≠ p; omega) (by show w.heap.size ≠ mb; omega) (fun e => by have := (HG0.out.zlo _ e).2; exact absurd this (Nat.lt_irrefl _)), World.cell?_alloc_at _ _ _ _ rfl])
    by_cases hk : k = 1
    case' pos =>
      obtain ⟨D, hown, hvm⟩ := HG1.out.drew.vm
      have hkb : (k == 1) = true := by simpa using hk
      have HK := Lib.hid hk
      clear hk
      rcases look_var hown hvm hfits.2.1 with ⟨i, hi, hki, hni, hlk⟩ | ⟨hno, v, hlk⟩
      · have HE := Lib.hid (show ∀ W, Gadd w0.heap.size Y W p mb (.slice zA G.length zc) G → Below w.heap.size w W → AddR w0.heap.size Y p mb (.slice zA G.length zc) G (.mk k n s A c a) w (.returned (.int .i64 (i : Nat))) W from fun W hG hW =>
          AddR.same hG hW hi (gform_at HG0.out HFM.out hi hki HF.out HK.out hni))
        clear hvm hown HBX
        go_enter Tryz.func134, Tryz.ntmps134
        go_wp2_with fail
        go_region
        go_wp2_with fail
        go_ret
        exact HE.out _ HG1.out.drew (below1 w _).drew
      have hown1 := hown.drew
      clear hown
      obtain ⟨w1, hup, hown2, hg2⟩ := hown1.update keyed Tryz.underlying92 (by have := hsm; unfold maxLen; omega) (Maps.keyOf_int_mk Tryz.underlying3 (fits_wf hfits.2.1)) (plainElem_int Tryz.underlying3 (a := (G.length : Int)) (fits_wf (by unfold Fits; omega)))
      have hfr1 : AddFr p mb (.slice zA G.length zc) (w.alloc (.cells #[.int .i64 k, .int .i64 n, .string s, .slice A a.length c] 40)) w1 := ⟨hg2.os, hg2.tape, hg2.output, hg2.size, fun b h1 _ h3 _ => hg2.block b h1 (by simpa using h3)⟩
      have HPA := Lib.hid (show PreApp w0.heap.size Y p mb (.slice zA G.length zc) G ⟨.mk k n s A c a, none, 0, [], G.length⟩ w w1 from
        ⟨HG1.out.drew.drew.g.fr hg2 (by simpa using Ne.symm HG0.out.pm) (.inr HG0.out.zm) (fun b e _ => .inr (.inl (by simpa using e.symm))),
          (fr_cell hg2 (p := ⟨p, 1, none⟩) HG1.out.g.lt (by simpa using HG0.out.pm)).trans HG1.out.drew.drew.vc, ⟨_, hown2, hvm.put (x := ⟨.mk k n s A c a, none, 0, [], G.length⟩) HK.out hfits.2.1 hno⟩,
          fun j => (fr_frozen hg2 (p := ⟨p, j, none⟩) HG1.out.g.lt (by simpa using HG0.out.pm)).trans (HG1.out.fz j), HBX.out w1 hfr1 0, HBX.out w1 hfr1 1, HBX.out w1 hfr1 2, HBX.out w1 hfr1 3, by have := hfr1.size; simp at this; omega, (AddFr.of (below1 w _)).trans hfr1 (.inl rfl)⟩)
      clear hvm hown1 hown2 hg2 hfr1 HBX hno
      go_enter Tryz.func134, Tryz.ntmps134
      go_wp2_with fail
      go_region
      go_wp2_with fail
      go_region
      go_wp2_with fail
    case' neg =>
      have hk1 : (k == 1) = false := by simpa using hk
      go_enter Tryz.func134, Tryz.ntmps134
      go_wp2_with fail
      have HPA := Lib.hid (show PreApp w0.heap.size Y p mb (.slice zA G.length zc) G ⟨.mk k n s A c a, none, 0, [], G.length⟩ w (w.alloc (.cells #[.int .i64 k, .int .i64 n, .string s, .slice A a.length c] 40)) from by
        obtain ⟨D, h1, h2⟩ := HG1.out.vm
        exact ⟨HG1.out.g, HG1.out.vc, ⟨D, h1.mono (Nat.le_succ _), h2.nonvar hk⟩, HG1.out.fz, HBX.out _ (AddFr.refl _ _ _ _) 0, HBX.out _ (AddFr.refl _ _ _ _) 1, HBX.out _ (AddFr.refl _ _ _ _) 2, HBX.out _ (AddFr.refl _ _ _ _) 3, by simp, AddFr.of (below1 w _)⟩)
      clear HBX
      generalize w.alloc (.cells #[.int .i64 k, .int .i64 n, .string s, .slice A a.length c] 40) = w1 at *
    all_goals
      have HX := Lib.hid (show Fine (⟨.mk k n s A c a, none, 0, [], G.length⟩ : Nd) from ⟨hfits.1, hfits.2.1, hfits.2.2, ⟨HAT.out.lst.1, HAT.out.lst.2.1⟩, Nat.zero_le _⟩)
      have p0 := HPA.out.g.hdr
      have p0x := al1 p0
      have fz0 := HPA.out.fz 0
      have b0 := HPA.out.b0
      have b1 := HPA.out.b1
      have b2 := HPA.out.b2
      have b3 := HPA.out.b3
      simp only [Tm.kind, Tm.num, Tm.name, Tm.at_, Tm.args, Tm.cap] at b0 b1 b2 b3
      have b0x := al1 b0
      have b1x := al1 b1
      have b2x := al1 b2
      have b3x := al1 b3
      have hpl1 := HPA.out.g.lt
      clear c0 c0x hv0 hvx HG1
      go_region_law (first
        | (refine step_append_lies _ (by rfl) _ _ _ (by rfl) w0.heap.size 140 i0 _ 6 88 Tryz.underlying91 hi0 hz0 hz1 hz2 rfl (by omega) (.slice zA G.length zc) G.length (gcells G) (by rfl) (HPA.out.g.row.alloc _) ⟨w1.heap.size, 0, none⟩ 1 1 [.int .i64 k, .int .i64 n, .string s, .slice A a.length c, .slice none 0 0, .int .i64 (G.length : Nat)] (by rfl) (by rfl) (World.news_of_block (cs := #[.int .i64 k, .int .i64 n, .string s, .slice A a.length c, .slice none 0 0, .int .i64 (G.length : Nat)]) (t := 140) (fr := (0, 0)) (heap_alloc_new w1 _)) (by simp [Value.oneCell']) (by omega) (by unfold maxLen; omega) (by omega) (by have := HBW.out.size; have := HPA.out.fr.size; simp; omega) (w1.heap.size + 1) (by simp) ?_; intro g cap w3 hown hgrow hat hgl; have p3 := (fr_cell (fr_trans (World.grownBy_alloc w1 _ _) (undrew_gr hgrow)) (p := ⟨p, 0, none⟩) hpl1 (fun e => HPA.out.g.np e.symm)).trans p0; have fz3 := (fr_frozen (fr_trans (World.grownBy_alloc w1 _ _) (undrew_gr hgrow)) (p := ⟨p, 0, none⟩) hpl1 (fun e => HPA.out.g.np e.symm)).trans fz0))
      all_goals
        obtain ⟨D2, hD2, hV2⟩ := HPA.out.vm
        have hGA := gadd_append (x := ⟨.mk k n s A c a, none, 0, [], G.length⟩) HPA.out.g HPA.out.vc hD2 hV2 HG0.out.pm HG0.out.zm HG0.out.lp HG0.out.lm HPA.out.fz HX.out ⟨rfl, rfl, rfl⟩ (by have := HSZ.out; have : (Tm.mk k n s A c a).nodes = 1 + nodesL a := rfl; omega) hown (undrew_gr hgrow) hat
        have hq3 := (hGA.2.1.cell (a := ⟨w.heap.size, 3, none⟩) HPA.out.lt (by show w.heap.size ≠ p; omega) (by show w.heap.size ≠ mb; obtain ⟨D, h2, _⟩ := HG0.out.vm; have := h2.lt; omega) (fun e => by have := (HG0.out.zlo _ e).2; exact absurd this (Nat.lt_irrefl _))).trans b3
        have HGA := Lib.hid hGA
        have hgrow2 : w.heap.size < w3.heap.size := by have := HPA.out.lt; have := hgrow.size; simp at this; omega
        have hws : w0.heap.size ≤ w3.heap.size := by have := HBW.out.size; have := HPA.out.fr.size; have := hgrow.size; simp at this; omega
        clear hown hgrow hat hgl p3 fz3 b0 b1 b2 b3 b0x b1x b2x b3x p0 p0x fz0 hD2 hV2 hGA
        go_wp2_with (at_make; refine wpList_make_full _ rfl _ _ 73 rfl w0.heap.size 3 i1 _ 1 Tryz.underlying73 hi1 hy0 hy1 _ _ _ _ a.length rfl rfl rfl rfl (by rw [hy2]; omega) (by unfold maxLen; omega) (by simp [World.setCell]; omega) ?_; intro w5 hown5 hg5; have q3 := (fr_cell hg5 (p := ⟨w.heap.size, 3, none⟩) (World.block_lt_of_cell? _ _ hq3) (by simp)).trans hq3)
        have hb5 : Below (w3.setCell ⟨p, 0, none⟩ (.slice (some ⟨g, 0, none⟩) (G.length + 1) cap)).heap.size (w3.setCell ⟨p, 0, none⟩ (.slice (some ⟨g, 0, none⟩) (G.length + 1) cap)) w5 := ⟨hg5.os, hg5.tape, hg5.output, hg5.size, fun k hk => hg5.block k hk (by simp)⟩
        rw [made_ints] at hown5
        have hs3 : (w3.setCell ⟨p, 0, none⟩ (.slice (some ⟨g, 0, none⟩) (G.length + 1) cap)).heap.size = w3.heap.size := by simp [World.setCell]
        have hzg : (Value.slice (some ⟨g, 0, none⟩) (G.length + 1) cap).ownBlock ≠ some w3.heap.size := fun e => by have := (HGA.out.1.zlo _ e).2; rw [hs3] at this; exact absurd this (Nat.lt_irrefl _)
        have HL0 := Lib.hid (show AddLoop w0.heap.size Y p mb (.slice (some ⟨g, 0, none⟩) (G.length + 1) cap) (G ++ [⟨.mk k n s A c a, none, 0, [], G.length⟩]) a w3.heap.size (w3.setCell ⟨p, 0, none⟩ (.slice (some ⟨g, 0, none⟩) (G.length + 1) cap)) 0 w5 from
          ⟨_, _, [], (HGA.out.1.more (by rw [hs3]; exact Nat.le_refl _)).below hb5, ⟨[], by simp⟩, fun m h1 h2 => by omega, rfl, fun m hm => by omega, by simp [nodesL], by simpa using hown5, AddFr.of hb5, .inl rfl, hzg⟩)
        have hg0p : w3.heap.size ≠ p := by have := hgrow2; omega
        have hg0m : w3.heap.size ≠ mb := by obtain ⟨D, h2, _⟩ := HG0.out.vm; have := h2.lt; have := hgrow2; omega
        clear hown5 hg5 hb5 q3 hzg
        go_loopw [57] (fun s57 wr => ∃ j : Nat, j ≤ a.length ∧ s57 = .int .i64 (j : Nat) ∧ Hid (AddLoop w0.heap.size Y p mb (.slice (some ⟨g, 0, none⟩) (G.length + 1) cap) (G ++ [⟨.mk k n s A c a, none, 0, [], G.length⟩]) a w3.heap.size (w3.setCell ⟨p, 0, none⟩ (.slice (some ⟨g, 0, none⟩) (G.length + 1) cap)) j wr)) (fun s57 _ => a.length - (intOf s57).toNat)
        case atStart => exact ⟨0, Nat.zero_le _, rfl, HL0⟩
        case round =>
          clear HL0
          obtain ⟨j, hj, rfl, HL⟩ := hrel
          by_cases hlt : j < a.length
          · obtain ⟨z', G', ks, k1, k2, k3, k4, k5, k6, k7, k8, k9, k10⟩ := HL.out
            have HW := Lib.hid (show Below w0.heap.size w0 wr from by
              have h1 := (HPA.out.fr.below HBW.out HG0.out.lp HG0.out.lm (fun b e => (HG0.out.zlo b e).1))
              have h2 := HGA.out.2.1.below h1 HG0.out.lp HG0.out.lm (fun b e => (HG0.out.zlo b e).1)
              exact k8.below h2 HG0.out.lp HG0.out.lm (fun b e => (HGA.out.1.zlo b e).1))
            obtain ⟨b, o, rfl, ⟨d0, d1, d2, d3⟩, _⟩ := (HLS.out.below HW.out).get hlt
            obtain ⟨x, hx⟩ : ∃ x, x = a.getD j default := ⟨_, rfl⟩
            have hxa : x ∈ a := by rw [hx]; exact getD_mem hlt
            rw [← hx] at d0 d1 d2 d3
            have hnx := nodesL_next hlt
            have htk := nodesL_take a (j + 1)
            have hnod : (Tm.mk k n s (some ⟨b, o, none⟩) c a).nodes = 1 + nodesL a := rfl
            have HQ := Lib.hid (fun B => QI.out x hxa (fun k => Y k ∨ k = w3.heap.size) G' z' (wr.alloc B) (HLS.out.mem hxa) (formL_mem hxa (form_args HF.out).2) (HW.out.alloc HW.out.size _) (k1.alloc B) (fun i hi => by
              obtain ⟨N, rfl⟩ := k2
              by_cases h1 : i < (G ++ [(⟨.mk k n s (some ⟨b, o, none⟩) c a, none, 0, [], G.length⟩ : Nd)]).length
              · rw [nd_left h1]
                by_cases h2 : i < G.length
                · rw [nd_left h2]; exact HFM.out i h2
                · obtain rfl : i = G.length := by simp at h1; omega
                  rw [nd_new]; exact HF.out
              · exact (k3 i (by omega) hi).1.form) (fun y hy => by
              have := k8.size
              rw [hs3] at this
              rcases hy with hy | hy
              · have := hY y hy; simp; omega
              · have := own_block_lt k7; simp; omega) (by
              have := HSZ.out
              rw [← hx] at hnx
              simp only [List.length_append, List.length_cons, List.length_nil] at k6
              omega))
            have hcell := World.ownsRow.cellAt k7 j (by omega)
            have hfro := World.ownsRow.frozenAt k7 j
            have hcl : ((ks.map fun i => Value.int .i64 (i : Nat)) ++ List.replicate (a.length - j) (Value.int .i64 0))[j]? = some (.int .i64 0) := by
              rw [List.getElem?_append_right (by simp [k4]), List.length_map, k4, Nat.sub_self, List.getElem?_replicate, if_pos (by omega)]
            rw [hcl] at hcell
            have hgw : w3.heap.size < wr.heap.size := own_block_lt k7
            have HNX := Lib.hid (fun B i z2 G2 w2 => addloop_next (Y := Y) (wb := wr.alloc B) (i := i) (z2 := z2) (G2 := G2) (w2 := w2) hlt hg0p hg0m (by rw [hs3]; exact Nat.le_refl _) k2 k3 k4 k5 k6 k7 k8 k9 k10 (below1 wr B))
            have HCF := Lib.hid (fun B w2 (h : AddFr p mb z' (wr.alloc B) w2) => show w2.cell? ⟨w3.heap.size, j, none⟩ = some (.int .i64 0) ∧ w2.frozen? ⟨w3.heap.size, j, none⟩ = false from
              ⟨(h.cell (a := ⟨w3.heap.size, j, none⟩) (by simp; omega) hg0p hg0m k10).trans (al1 hcell B), (h.frozen (a := ⟨w3.heap.size, j, none⟩) (by simp; omega) hg0p hg0m k10).trans (by rw [(below1 wr B).frozen (p := ⟨w3.heap.size, j, none⟩) hgw]; exact hfro)⟩)
            have HX2 := Lib.hid hx
            clear k1 k2 k3 k4 k5 k6 k7 k8 k9 k10 hcl hcell hfro hnx htk hnod hxa hx HL
            obtain ⟨kx, nx, sx, Ax, cx, lx⟩ := x
            simp only [Tm.kind, Tm.num, Tm.name, Tm.at_, Tm.args, Tm.cap] at d0 d1 d2 d3
            go_wp2_with fail
            refine (HQ.out _).mono ?_
            rintro e w2 ⟨z2, G2, i, rfl, m1, m2, m3, m4, m5, m6, m7, m8⟩
            obtain ⟨hc2, hf2⟩ := HCF.out _ w2 m7
            have HE := Lib.hid (HNX.out _ i z2 G2 w2 m1 m2 m3 m4 (by rw [m5, HX2.out]) (by rw [← HX2.out]; exact m6) m7 m8)
            clear m1 m2 m3 m4 m5 m6 m7 m8
            go_wp2_with fail
            go_roundw
            case rel => exact ⟨j + 1, by omega, by go_num, HE⟩
            case measure => simp [intOf]; omega
          · obtain rfl : j = a.length := by omega
            have hsz2 := HSZ.out
            have hw1 := HPA.out.fr.size
            obtain ⟨q, n2, cap2, e0, e1, e2, ⟨v2, e3⟩, e4, hR⟩ := add_done (x := ⟨.mk k n s A c a, none, 0, [], G.length⟩) HL.out HF.out rfl (HPA.out.fr.trans HGA.out.2.1 (.inl rfl)) (by
              rcases HGA.out.2.2 with h | h
              · exact .inl h
              · exact .inr fun b e => by have := h b e; omega) hg0p hg0m hws (fun h => by have := hY _ h; omega) hsz2
            have HE := Lib.hid hR
            have hGn : (G.length : Int) < (n2 : Int) := by omega
            clear hR HL
            go_wp2_with fail
            go_ret
            exact HE.out
end Go.Proofs.YtgpglgehlnfggaaGreat
