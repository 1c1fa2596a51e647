/-
  Contracts of the comparison of bound, and of slices.SortFunc at numbers of nodes, compared by their variables.
  Contract of slices.SortFunc at numbers of nodes, compared by their variables.
  Contract of slices.SortFunc at no numbers.
  Contract of bound of the program: the variables that do not stand for their class, in ascending order.
  Between solve and the solved form: the graph in a box, the terms' sizes.
  Contract of All of the program.
-/
import Derived.Test.YtelkmnjoboekmaaGreatShelf
import Derived.Test.YtelkmnjoboekmaaGreatMb13
import Derived.Test.YtelkmnjoboekmaaGreatMb3
import Derived.Deep.QuietTactic
import Derived.BigQuiet
import Derived.Test.YtelkmnjoboekmaaGreatMb14
import Derived.Maps.RangeWalk
import Derived.Test.YtelkmnjoboekmaaGreatMb17
import Derived.Test.YtelkmnjoboekmaaGreatMb15
import Derived.Test.YtelkmnjoboekmaaGreatMb27
import Derived.Test.YtelkmnjoboekmaaGreatMb5
import Derived.Test.YtelkmnjoboekmaaGreatMb28
import Derived.Test.YtelkmnjoboekmaaGreatMb10
namespace Go.Proofs.YtelkmnjoboekmaaGreat
open Go.RowKit Go.Lib Go.Shelf

set_option maxHeartbeats 1000000 in
theorem bound_cmp_at {p q n cap tb x y : Nat} {nx ny : Int} {w : World} (h0 : w.cell? ⟨tb, 0, none⟩ = some (.pointer (some ⟨p, 0, none⟩))) (h1 : w.cell? ⟨p, 0, none⟩ = some (.slice (some ⟨q, 0, none⟩) n cap)) (hx : x < n) (hy : y < n)
    (h2 : w.cell? ⟨q, x * 6 + 1, none⟩ = some (.int .i64 nx)) (h3 : w.cell? ⟨q, y * 6 + 1, none⟩ = some (.int .i64 ny)) :
    Calls Tryz.prog 69 #[.int .i64 (x : Nat), .int .i64 (y : Nat), .pointer (some ⟨tb, 0, none⟩)] w fun e w' => e = .returned (.int .i64 (ints nx ny)) ∧ ∃ k, w' = w.drewN k := by
  have Q := Lib.hid (fun W => cmp_int_at nx ny W rfl)
  generalize ints nx ny = r at *
  go_enter Tryz.func69, Tryz.ntmps69
  go_wp2_with fail
  go_quiet ((go_at_call 70; exact Calls.quiet_of_same ((Q.out _).mono fun _ _ h => ⟨h.1, h.2.symm⟩)))
  go_wp2_with fail
  go_ret
  exact ⟨rfl, _, rfl⟩
end Go.Proofs.YtelkmnjoboekmaaGreat
namespace Go.Proofs.YtelkmnjoboekmaaGreat
open Go.RowKit Go.Lib Go.Shelf

/-- What the sort leaves: the same numbers in the order of their variables. -/
def SortedN (G : List Nd) (l : List Nat) (g : Nat) (w : World) (e : Ending) (w' : World) : Prop :=
  e = .returned (.tuple #[]) ∧ ∃ l' : List Nat, l'.Perm l ∧ (∀ i j, i < j → j < l'.length → (nd G (l'.getD i 0)).tm.num ≤ (nd G (l'.getD j 0)).tm.num) ∧ (∀ j, j < l'.length → w'.cell? ⟨g, j, none⟩ = some (.int .i64 ((l'.getD j 0 : Nat) : Int))) ∧ w.grownBy w' (some g)
section
variable {m : Nat}
abbrev encF (i : Fin (m + 1)) : Value := .int .i64 ((i.val : Nat) : Int)
theorem lt_nums (f : Nat → Int) (x y : Fin (m + 1)) : ltOf (fun x y : Fin (m + 1) => ints (f x.val) (f y.val)) x y = decide (f x.val < f y.val) := by
  unfold ltOf ints
  by_cases h1 : f x.val < f y.val
  · simp [h1]
  · by_cases h2 : f y.val < f x.val <;> simp [h1, h2]
theorem swo_nums (f : Nat → Int) : Go.Sort.SWO (ltOf fun x y : Fin (m + 1) => ints (f x.val) (f y.val)) where
  irrefl x := by rw [lt_nums]; simp
  trans x y z h1 h2 := by rw [lt_nums] at *; simp at *; omega
  ntrans x y z h1 h2 := by rw [lt_nums] at *; simp at *; omega
theorem grown_sort {g : Nat} {w : World} {n : Nat} {d : Array (Fin (m + 1))} {os : Array Obj} : w.grownBy (sortWorld encF w g 0 n d os) (some g) := by
  unfold sortWorld
  refine ⟨rfl, rfl, rfl, ?_, fun k hk hr => ?_⟩
  · rw [Go.Sort.size_grow, Go.Sort.size_putRow]; exact Nat.le_add_right _ _
  · rw [Go.Sort.heap_grow_old _ _ (by rw [Go.Sort.size_putRow]; exact hk)]
    unfold Go.Sort.putRow Go.Sort.mapBlock
    rw [Array.getElem?_modify, if_neg (fun e => hr (by rw [e]))]
    rfl
theorem arr_at {α : Type} [Inhabited α] (d : Array α) (i : Nat) (hi : i < d.size) : d[i]! = d[i] := getElem!_pos d i hi
end

set_option maxHeartbeats 1000000 in
theorem sort_nums_at {p q n cap tb g c base : Nat} {G : List Nd} {l : List Nat} {w : World} (h0 : w.cell? ⟨tb, 0, none⟩ = some (.pointer (some ⟨p, 0, none⟩))) (h1 : w.cell? ⟨p, 0, none⟩ = some (.slice (some ⟨q, 0, none⟩) n cap)) (hn : n = G.length)
    (hc : ∀ i, i < G.length → w.cell? ⟨q, i * 6 + 1, none⟩ = some (.int .i64 (nd G i).tm.num)) (hl : ∀ i ∈ l, i < G.length) (hlen : l.length ≤ 2500000) (hpos : 0 < l.length)
    (hrow : w.ownsRow base 3 1 (.slice (some ⟨g, 0, none⟩) l.length c) l.length (nums l)) (hg1 : tb ≠ g) (hg2 : p ≠ g) (hg3 : q ≠ g) :
    Calls Tryz.prog 68 #[.slice (some ⟨g, 0, none⟩) l.length c, .func (.func 69) #[] #[.pointer (some ⟨tb, 0, none⟩)]] w (SortedN G l g w) := by
  obtain ⟨m, hm⟩ : ∃ m, G.length = m + 1 := ⟨G.length - 1, by have := hl _ (nat_getD_mem hpos); omega⟩
  have eg : ∀ args w, (callFunc 69 args).run Tryz.prog w = .ok (.enter 69 args) w := enters_of Tryz.func69 (by kernel_rfl) rfl
  have hgw : g < w.heap.size := own_block_lt hrow
  -- the list as numbers below m + 1
  obtain ⟨d, hd1, hd2⟩ : ∃ d : Array (Fin (m + 1)), d.size = l.length ∧ ∀ j, j < l.length → (d[j]!).val = l.getD j 0 := by
    refine ⟨(l.map fun i => (Fin.ofNat (m + 1) i)).toArray, by simp, fun j hj => ?_⟩
    rw [arr_at _ _ (by simpa using hj)]
    have h2 := hl _ (nat_getD_mem hj)
    have e : l.getD j 0 = l[j] := by simp [List.getD, hj]
    rw [e] at h2 ⊢
    simp [Fin.ofNat]
    omega
  have hH : Go.Sort.Holds encF w g 0 d := fun j hj => by
    rw [Nat.zero_add]
    refine ⟨?_, World.ownsRow.frozenAt hrow j⟩
    rw [nums_cell hrow (by omega)]
    show _ = some (encF d[j]!)
    unfold encF
    rw [hd2 j (by omega)]
  have hcmp : CmpLays1 Tryz.prog 69 #[.pointer (some ⟨tb, 0, none⟩)] encF (fun x y : Fin (m + 1) => ints (nd G x.val).tm.num (nd G y.val).tm.num) g 0 d.size w := fun k os dk _ x y => by
    have hf : w.grownBy (sortWorld encF w g 0 k dk os) (some g) := grown_sort
    have k0 := World.grownBy.cell hf h0 (by simpa using hg1)
    have k1 := World.grownBy.cell hf h1 (by simpa using hg2)
    have k2 := World.grownBy.cell hf (hc x.val (by omega)) (by simpa using hg3)
    have k3 := World.grownBy.cell hf (hc y.val (by omega)) (by simpa using hg3)
    refine (bound_cmp_at k0 k1 (x := x.val) (y := y.val) (by omega) (by omega) k2 k3).mono ?_
    rintro e w' ⟨rfl, k, rfl⟩
    exact ⟨rfl, k, #[], by rw [Go.Sort.grow_empty]⟩
  have hcon := Any.slices_SortFunc Tryz.sortF encF (fun _ => rfl) (fun x y : Fin (m + 1) => ints (nd G x.val).tm.num (nd G y.val).tm.num) (swo_nums fun i => (nd G i).tm.num) 69 #[.pointer (some ⟨tb, 0, none⟩)] g 0 c d w eg hcmp hH hgw (by omega)
  rw [hd1] at hcon
  refine Calls.mono hcon ?_
  rintro e w' ⟨rfl, d', k, os, hp, hs, rfl⟩
  have hz : d'.size = l.length := by rw [hp.1, hd1]
  have hget : ∀ j, j < l.length → (d'.toList.map fun i : Fin (m + 1) => i.val).getD j 0 = (d'[j]!).val := fun j hj => by
    rw [arr_at _ _ (by omega)]
    simp [List.getD, hz, hj]
  refine ⟨rfl, d'.toList.map fun i => i.val, ?_, fun i j hij hj => ?_, fun j hj => ?_, grown_sort⟩
  · have h2 := hp.2.2
    rw [← hd1, Array.extract_eq_self_of_le (by omega), Array.extract_eq_self_of_le (Nat.le_refl _)] at h2
    have h3 := h2.map fun i : Fin (m + 1) => i.val
    have h4 : (d.toList.map fun i : Fin (m + 1) => i.val) = l := by
      refine List.ext_getElem (by simp [hd1]) fun j j1 j2 => ?_
      have hj : j < l.length := j2
      have := hd2 j hj
      rw [arr_at _ _ (by omega)] at this
      simp only [List.getElem_map, Array.getElem_toList]
      rw [this]
      simp [List.getD, hj]
    rw [h4] at h3
    exact h3
  · have hj2 : j < l.length := by simpa [hz] using hj
    rw [hget i (by omega), hget j hj2]
    have := hs i j (Nat.zero_le _) hij (by omega)
    rw [lt_nums (fun i => (nd G i).tm.num)] at this
    simp only [decide_eq_false_iff_not] at this
    omega
  · have hj2 : j < l.length := by simpa [hz] using hj
    have h2 := (holds_sortWorld encF w g 0 k d d' os hgw hH (by rw [hp.1]) j (by omega)).1
    rw [Nat.zero_add] at h2
    rw [h2, hget j hj2]
end Go.Proofs.YtelkmnjoboekmaaGreat
namespace Go.Proofs.YtelkmnjoboekmaaGreat
open Go.RowKit Go.Lib Go.Shelf

set_option maxHeartbeats 1000000 in
theorem insertion_none (FV : Value) (A : Option Addr) (c : Nat) (w : World) : Calls Tryz.prog 128 #[.slice A 0 c, .int .i64 0, .int .i64 0, FV] w fun e w' => e = .returned (.tuple #[]) ∧ w = w' := by
  go_enter Tryz.func128, Tryz.ntmps128
  go_wp2_with fail
  refine wp_loop_rounds 1 ?_
  rw [rounds_succ]
  go_wp2_with fail
  go_end0
  exact ⟨rfl, rfl⟩
set_option maxHeartbeats 1000000 in
set_option maxRecDepth 100000 in
theorem pdq_none (FV : Value) (A : Option Addr) (c : Nat) (m : Int) (w : World) : Calls Tryz.prog 105 #[.slice A 0 c, .int .i64 0, .int .i64 0, .int .i64 m, FV] w fun e w' => e = .returned (.tuple #[]) ∧ w = w' := by
  go_enter Tryz.func105, Tryz.ntmps105
  go_wp2_with fail
  refine wp_loop_rounds 1 ?_
  rw [rounds_succ]
  go_wp2_with fail
  refine (insertion_none FV A c _).mono ?_
  rintro e w' ⟨rfl, rfl⟩
  go_wp2_with fail
  exact bodyPost_ret (v := .tuple #[]) (by simp [results, Tryz.results105, go_sem]) rfl ⟨rfl, rfl⟩
set_option maxHeartbeats 1000000 in
theorem sort_none (FV : Value) (A : Option Addr) (c : Nat) (w : World) : Calls Tryz.prog 68 #[.slice A 0 c, FV] w fun e w' => e = .returned (.tuple #[]) ∧ w = w' := by
  have hl : Calls Tryz.prog 106 #[.int .u64 0] w fun e w' => e = .returned (.int .i64 (Lib.bitLen 0 : Nat)) ∧ w' = w := by
    have h := Any.bits_Len (SlLaysF0.n15.bits { Tryz.bitsB with }) 0 w (by omega) (by omega)
    exact h
  generalize ((Lib.bitLen 0 : Nat) : Int) = m at *
  have HL := Lib.hid hl
  clear hl
  go_enter Tryz.func68, Tryz.ntmps68
  go_wp2_with fail
  refine HL.out.mono ?_
  rintro e w' ⟨rfl, rfl⟩
  go_wp2_with fail
  refine (pdq_none FV A c _ _).mono ?_
  rintro e w' ⟨rfl, rfl⟩
  go_wp2_with fail
  go_end0
  exact ⟨rfl, rfl⟩
end Go.Proofs.YtelkmnjoboekmaaGreat
namespace Go.Proofs.YtelkmnjoboekmaaGreat
open Go.RowKit Go.Lib Go.Shelf

/-- In the loop: the variables that have come. -/
structure Bounding (G : List Nd) (root : Nat → Nat) (p mb B : Nat) (D : DataW Unit) (w : World) (left : Lit → Bool) (cnt : Nat) (v : Value) (l : List Nat) (wr : World) : Prop where
  rng : wr.ranges Tryz.prog 3 (plainElem Tryz.prog 3) mb (B + 1) G.length D left cnt
  below : Below B w wr
  box : wr.cell? ⟨B, 0, none⟩ = some (.pointer (some ⟨p, 0, none⟩))
  row : wr.ownsRow (B + 2) 3 1 v l.length (nums l)
  mem : ∀ i, i ∈ l ↔ i < G.length ∧ (nd G i).tm.kind = 1 ∧ root i ≠ i ∧ left (KL (nd G i).tm.num) = false
  nodup : l.Nodup
  lh : ∀ k, left k = true → Maps.has D k = true
  big : B + 2 ≤ wr.heap.size
  lm : mb < B
section
variable {G : List Nd} {root : Nat → Nat} {p mb B : Nat} {D : DataW Unit} {w wr w2 w4 : World} {left : Lit → Bool} {cnt cnt2 : Nat} {v : Value} {l : List Nat} {x c : Int}
theorem same_key (a b : Int) : (KL a).sameKey (KL b) = decide (a = b) := by
  unfold KL Lit.sameKey
  simp
/-- Which node has come. -/
theorem Bounding.who (h : Bounding G root p mb B D w left cnt v l wr) (hV : VMap D G) (hl : left (.int .i64 x) = true) (hat : ∀ zd, D.atKey (.int .i64 x) zd = .lit (.int .i64 c)) : ∃ i, i < G.length ∧ (nd G i).tm.kind = 1 ∧ (nd G i).tm.num = x ∧ c = (i : Nat) := by
  obtain ⟨i, h1, h2, h3⟩ := hV.2.1 x (h.lh _ hl)
  refine ⟨i, h1, h2, h3, ?_⟩
  have h4 := (hV.2.2 i h1 h2).2 (.lit (KL 0))
  rw [h3] at h4
  have h5 := hat (.lit (KL 0))
  rw [show (Lit.int .i64 x) = KL x from rfl, h4] at h5
  injection h5 with h5
  injection h5 with _ h5
  exact h5.symm
theorem Bounding.seen (h : Bounding G root p mb B D w left cnt v l wr) (hB : w.heap.size = B) (hg : wr.grownBy w2 (some (B + 1))) :
    Below B w w2 ∧ w2.cell? ⟨B, 0, none⟩ = some (.pointer (some ⟨p, 0, none⟩)) ∧ w2.ownsRow (B + 2) 3 1 v l.length (nums l) := by
  refine ⟨⟨hg.os.trans h.below.os, hg.tape.trans h.below.tape, hg.output.trans h.below.output, Nat.le_trans h.below.size hg.size, fun k hk => (hg.block k (Nat.lt_of_lt_of_le (by omega) h.below.size) (fun e => by injection e with e; omega)).trans (h.below.block k hk)⟩,
    (fr_cell hg (p := ⟨B, 0, none⟩) (World.block_lt_of_cell? _ _ h.box) (fun e => by injection e with e; simp at e)).trans h.box, World.ownsRow.kept h.row hg ?_⟩
  cases hv : v.ownBlock with
  | none => exact .inl rfl
  | some b => refine .inr fun e => ?_; have := (own_lt h.row b hv).1; injection e with e; omega
theorem Bounding.step (h : Bounding G root p mb B D w left cnt v l wr) (hV : VMap D G) {i : Nat} (hi : i < G.length) (hk : (nd G i).tm.kind = 1) (hx : (nd G i).tm.num = x) (hl : left (.int .i64 x) = true)
    (hr2 : w2.ranges Tryz.prog 3 (plainElem Tryz.prog 3) mb (B + 1) G.length D (fun z => left z && !z.sameKey (.int .i64 x)) cnt2) (hg : wr.grownBy w2 (some (B + 1))) (hB : w.heap.size = B) :
    (root i = i → Bounding G root p mb B D w (fun z => left z && !z.sameKey (.int .i64 x)) cnt2 v l w2) ∧
    (root i ≠ i → ∀ (o : Obj) (g cap : Nat), w4.ownsRow (B + 2) 3 1 (.slice (some ⟨g, 0, none⟩) (l.length + 1) cap) (l.length + 1) (nums l ++ [.int .i64 (i : Nat)]) → (w2.alloc o).grownBy w4 v.ownBlock →
      Bounding G root p mb B D w (fun z => left z && !z.sameKey (.int .i64 x)) cnt2 (.slice (some ⟨g, 0, none⟩) (l ++ [i]).length cap) (l ++ [i]) w4) := by
  obtain ⟨hb2, hbox, hrow⟩ := h.seen hB hg
  have hin : i ∉ l := fun e => by
    have := ((h.mem i).1 e).2.2.2
    rw [hx, show KL x = Lit.int .i64 x from rfl, hl] at this
    cases this
  have hmem : ∀ j, j < G.length → (nd G j).tm.kind = 1 → ((left (KL (nd G j).tm.num) && !(KL (nd G j).tm.num).sameKey (.int .i64 x)) = false ↔ left (KL (nd G j).tm.num) = false ∨ j = i) := fun j hj hkj => by
    rw [show (Lit.int .i64 x) = KL x from rfl, same_key]
    by_cases e : (nd G j).tm.num = x
    · obtain rfl := hV.varu j i hj hi hkj hk (e.trans hx.symm)
      simp [e]
    · have : j ≠ i := fun e2 => e (by rw [e2]; exact hx)
      simp [e, this]
  have hlh : ∀ k, (left k && !k.sameKey (.int .i64 x)) = true → Maps.has D k = true := fun k hk => h.lh k (by simp at hk; exact hk.1)
  refine ⟨fun hr => ⟨hr2, hb2, hbox, hrow, fun j => ?_, h.nodup, hlh, Nat.le_trans h.big hg.size, h.lm⟩, fun hr o g cap hown hgr => ?_⟩
  · rw [h.mem j]
    constructor
    · rintro ⟨a, b, c, d⟩
      exact ⟨a, b, c, (hmem j a b).2 (.inl d)⟩
    · rintro ⟨a, b, c, d⟩
      rcases (hmem j a b).1 d with d | d
      · exact ⟨a, b, c, d⟩
      · exact absurd (by rw [d]; exact hr) c
  · have hvl : ∀ b, v.ownBlock = some b → B + 2 ≤ b := fun b e => (own_lt hrow b e).1
    have hne : ∀ b, b < B + 2 → some b ≠ v.ownBlock := fun b hb e => by have := hvl b e.symm; omega
    have hr4 := (hr2.alloc o).kept hgr
    refine ⟨hr4 (hne mb (by have := h.lm; omega)) (hne (B + 1) (by omega)), ?_, ?_, ?_, fun j => ?_, ?_, hlh, ?_, h.lm⟩
    · have h3 : Below B w (w2.alloc o) := hb2.alloc (by have := h.big; have := hg.size; omega) o
      exact ⟨hgr.os.trans h3.os, hgr.tape.trans h3.tape, hgr.output.trans h3.output, Nat.le_trans h3.size hgr.size, fun k hk => (hgr.block k (Nat.lt_of_lt_of_le (by omega) h3.size) (hne k (by omega))).trans (h3.block k hk)⟩
    · have h3 : (w2.alloc o).cell? ⟨B, 0, none⟩ = some (.pointer (some ⟨p, 0, none⟩)) := by rw [World.cell?_alloc_past _ _ _ (World.block_lt_of_cell? _ _ hbox)]; exact hbox
      exact (fr_cell hgr (p := ⟨B, 0, none⟩) (World.block_lt_of_cell? _ _ h3) (hne B (by omega))).trans h3
    · have e : nums (l ++ [i]) = nums l ++ [.int .i64 (i : Nat)] := by simp [nums]
      rw [e, List.length_append]
      exact hown
    · rw [List.mem_append, List.mem_singleton, h.mem j]
      constructor
      · rintro (⟨a, b, c, d⟩ | rfl)
        · exact ⟨a, b, c, (hmem j a b).2 (.inl d)⟩
        · exact ⟨hi, hk, hr, (hmem j hi hk).2 (.inr rfl)⟩
      · rintro ⟨a, b, c, d⟩
        rcases (hmem j a b).1 d with d | d
        · exact .inl ⟨a, b, c, d⟩
        · exact .inr d
    · rw [List.nodup_append]
      exact ⟨h.nodup, by simp, fun a ha b hb e => hin (by rw [List.mem_singleton] at hb; rw [← hb, ← e]; exact ha)⟩
    · have := (hr2.alloc o)
      exact Nat.le_trans (Nat.le_trans h.big hg.size) (Nat.le_trans (by simp) hgr.size)
end
/-- What bound answers. -/
def BoundR (G : List Nd) (root : Nat → Nat) (w : World) (e : Ending) (w' : World) : Prop :=
  ∃ (bd : List Nat) (A : Option Addr) (c : Nat), e = .returned (.slice A bd.length c) ∧ BoundIs G root bd ∧ Below w.heap.size w w' ∧ bd.length ≤ c ∧ c ≤ maxLen ∧ (0 < bd.length → ∃ b, A = some ⟨b, 0, none⟩ ∧ w.heap.size ≤ b ∧ b < w'.heap.size ∧ ∀ j, j < bd.length → w'.cell? ⟨b, j, none⟩ = some (.int .i64 (bd.getD j 0 : Nat)))
theorem bound_is {G : List Nd} {root : Nat → Nat} {l l' : List Nat} (hv : VarU G) (hm : ∀ i, i ∈ l ↔ i < G.length ∧ (nd G i).tm.kind = 1 ∧ root i ≠ i) (hn : l.Nodup) (hp : l'.Perm l) (hs : ∀ i j, i < j → j < l'.length → (nd G (l'.getD i 0)).tm.num ≤ (nd G (l'.getD j 0)).tm.num) : BoundIs G root l' := by
  have hn' : l'.Nodup := hp.nodup_iff.2 hn
  refine ⟨fun i => by rw [hp.mem_iff]; exact hm i, ?_⟩
  rw [List.pairwise_iff_getElem]
  intro i j hi hj hij
  have h1 := hs i j hij hj
  rw [show l'.getD i 0 = l'[i] by simp [List.getD, hi], show l'.getD j 0 = l'[j] by simp [List.getD, hj]] at h1
  have hne : (nd G l'[i]).tm.num ≠ (nd G l'[j]).tm.num := fun e => by
    have a := (hm _).1 (hp.mem_iff.1 (List.getElem_mem hi))
    have b := (hm _).1 (hp.mem_iff.1 (List.getElem_mem hj))
    have := hv _ _ a.1 b.1 a.2.1 b.2.1 e
    exact (List.pairwise_iff_getElem.1 hn') i j hi hj hij this
  omega
theorem nodup_length {n : Nat} {l : List Nat} (hn : l.Nodup) (hl : ∀ i ∈ l, i < n) : l.length ≤ n := (pigeon _ _ hn hl).1

set_option maxHeartbeats 4000000 in
set_option maxRecDepth 100000 in
theorem ubound_at {lo : Nat} {X : Nat → Prop} {p mb : Nat} {z : Value} {G : List Nd} {root r : Nat → Nat} {D : DataW Unit} {w : World} (h : Gph lo X w p z G) (hu : UF G root r) (hc1 : w.cell? ⟨p, 1, none⟩ = some (.map (some mb)))
    (hD : w.ownsMap Tryz.prog 3 (plainElem Tryz.prog 3) mb G.length D) (hV : VMap D G) :
    Calls Tryz.prog 39 #[.pointer (some ⟨p, 0, none⟩)] w (BoundR G root w) := by
  obtain ⟨i1, hi1, hy0, hy1, hy2⟩ := info_parts int_info
  have hsm := h.small
  have hpl := h.lt
  have hml := hD.lt
  have HG := Lib.hid h
  have HU := Lib.hid hu
  have HV := Lib.hid hV
  have HD1 := Lib.hid (fun o => hD.alloc (w := w) o)
  clear h hu hV hD
  go_enter Tryz.func39, Tryz.ntmps39
  go_wp2_with (at_range; refine wpList_range_own _ rfl _ 59 rfl 3 3 keyed Tryz.underlying59 _ mb G.length D rfl (HD1.out _) ?_; intro w0 hrg0 hg0 hs0)
  go_frame
  simp only [World.size_alloc]
  have hB0 := HD1
  have HB0 := Lib.hid (show Bounding G root p mb w.heap.size D w (Maps.has D) (Maps.size D) (.slice none 0 0) [] w0 from by
    have hs1 : w0.heap.size = w.heap.size + 2 := by rw [hs0]; simp
    have hb : Below w.heap.size w w0 := ⟨hg0.os, hg0.tape, hg0.output, by rw [hs1]; omega, fun k hk => (hg0.block k (by simp; omega) (by simp)).trans (((Below.refl w.heap.size w).alloc (Nat.le_refl _) _).block k hk)⟩
    refine ⟨by simpa using hrg0, hb, ?_, World.ownsRow_nil _ _ _ _, fun i => ⟨fun h => (by cases h), fun h => ?_⟩, List.nodup_nil, fun k hk => hk, by omega, hml⟩
    · exact (fr_cell hg0 (p := ⟨w.heap.size, 0, none⟩) (by simp) (by simp)).trans (World.cell?_alloc_at _ _ _ _ rfl)
    · obtain ⟨h1, h2, _, h4⟩ := h
      rw [(HV.out.2.2 i h1 h2).1] at h4
      cases h4)
  clear hrg0 hg0 hs0 hB0 HD1
  generalize hBB : w.heap.size = B at *
  go_loopw [3] (fun s3 wr => ∃ (left : Lit → Bool) (cnt : Nat) (l : List Nat) (A : Option Addr) (c : Nat), s3 = .slice A l.length c ∧ Hid (Bounding G root p mb B D w left cnt (.slice A l.length c) l wr)) (fun _ wr => wr.rangeLeft mb (B + 1))
  case atStart => exact ⟨_, _, [], none, 0, rfl, HB0⟩
  case round =>
    clear HB0
    obtain ⟨left, cnt, l, A, c, rfl, HB⟩ := hrel
    have hrg := HB.out.rng
    go_wp2_with (at_next; go_loud (refine wpList_next_ranges_ii _ rfl _ rfl 3 3 .i64 .i64 keyed Tryz.underlying3 Tryz.underlying3 mb (B + 1) G.length _ _ _ rfl hrg ?_ ?_))
    · intro hc0 hl0
      clear hrg
      have hfin : ∀ i, i ∈ l ↔ i < G.length ∧ (nd G i).tm.kind = 1 ∧ root i ≠ i := fun i => by
        rw [HB.out.mem i, hl0]
        simp
      have hll : l.length ≤ G.length := nodup_length HB.out.nodup fun i hi => ((hfin i).1 hi).1
      by_cases hz : l.length = 0
      · have hl : l = [] := List.length_eq_zero_iff.1 hz
        subst hl
        have HE := Lib.hid (show BoundR G root w (.returned (.slice A 0 c)) wr from by
          refine ⟨[], A, c, rfl, ⟨hfin, List.Pairwise.nil⟩, by rw [hBB]; exact HB.out.below, Nat.zero_le _, ?_, fun h => by simp at h⟩
          rcases HB.out.row.2 with ⟨h, _⟩ | ⟨g, cap, cur, h, _, _, h1, h2, _⟩
          · injection h with _ _ h; rw [h]; exact Nat.zero_le _
          · injection h with _ _ h; rw [h]; exact h2)
        clear HB hc0
        simp only [List.length_nil]
        go_wp2_with (go_at_call 68; refine (sort_none _ A c _).mono ?_; rintro e w' ⟨rfl, rfl⟩)
        go_ret
        exact HE.out
      · obtain ⟨g, gc, hv⟩ : ∃ g gc, (Value.slice A l.length c) = .slice (some ⟨g, 0, none⟩) l.length gc := by
          rcases HB.out.row.2 with ⟨_, h⟩ | ⟨g, cap, cur, h, _⟩
          · omega
          · exact ⟨g, cap, h⟩
        injection hv with hv1 hv3 hv2
        subst hv1 hv2
        clear hv3
        have hgb := own_lt HB.out.row g rfl
        have hgr := HG.out.below (by rw [hBB]; exact HB.out.below)
        obtain ⟨q, cap, hzz, hq⟩ := HG.out.form (by omega)
        rw [hzz] at hgr
        have HQ := Lib.hid (sort_nums_at (G := G) (l := l) HB.out.box hgr.hdr rfl (fun i hi => (hgr.cells hi).2.1) (fun i hi => ((hfin i).1 hi).1) (by omega) (by omega) HB.out.row (by omega) (by omega) (by omega))
        have HE := Lib.hid (show ∀ e w', SortedN G l g wr e w' → e = .returned (.tuple #[]) ∧ BoundR G root w (.returned (.slice (some ⟨g, 0, none⟩) l.length c)) w' from by
          rintro e w' ⟨rfl, l', h1, h2, h3, h4⟩
          have hlen : l'.length = l.length := h1.length_eq
          refine ⟨rfl, l', _, c, by rw [hlen], bound_is HV.out.varu hfin HB.out.nodup h1 h2, ?_, ?_, ?_, fun _ => ⟨g, rfl, by omega, Nat.lt_of_lt_of_le hgb.2 h4.size, h3⟩⟩
          · have hb := HB.out.below
            rw [hBB]
            exact ⟨h4.os.trans hb.os, h4.tape.trans hb.tape, h4.output.trans hb.output, Nat.le_trans hb.size h4.size, fun k hk => (h4.block k (Nat.lt_of_lt_of_le (by omega) hb.size) (fun e => by injection e with e; omega)).trans (hb.block k hk)⟩
          · rcases HB.out.row.2 with ⟨_, h⟩ | ⟨g, cap, cur, h, _, _, h5, h6, _⟩
            · omega
            · injection h with _ _ h; rw [hlen, h]; exact h5
          · rcases HB.out.row.2 with ⟨_, h⟩ | ⟨g, cap, cur, h, _, _, h5, h6, _⟩
            · omega
            · injection h with _ _ h; rw [h]; exact h6)
        clear HB hc0 hgr hzz hq hgb
        go_wp2_with (go_at_call 68; refine (HQ.out).mono ?_; rintro e w' hh; obtain ⟨rfl, h2⟩ := HE.out e w' hh; have HH := Lib.hid h2; clear hh h2)
        go_ret
        exact HH.out
    · intro x ci w2 cnt2 hwx hwc hlk hat hrg2 hlt hg2 hs2 hen
      obtain ⟨i, hi, hk, hx, rfl⟩ := HB.out.who HV.out hlk hat
      have HST := Lib.hid (fun w4 => HB.out.step (w4 := w4) HV.out hi hk hx hlk hrg2 hg2 hBB)
      have hll : l.length ≤ G.length := nodup_length HB.out.nodup fun i hi => ((HB.out.mem i).1 hi).1
      have hm : wr.rangeLeft mb (B + 1) = cnt := hrg.left_eq
      obtain ⟨hb2, hbx, hrow2⟩ := HB.out.seen hBB hg2
      have hbig : B + 2 ≤ w2.heap.size := Nat.le_trans HB.out.big hg2.size
      have hgr := HG.out.below (by rw [hBB]; exact hb2)
      obtain ⟨q, cap, hzz, hq⟩ := HG.out.form (by omega)
      rw [hzz] at hgr
      have c0 := hgr.hdr
      have d5 := (hgr.cells hi).2.2.2.2.2
      have HR := Lib.hid (fun o => World.ownsRow.alloc hrow2 o)
      obtain ⟨nx, hnx⟩ : ∃ n, n = (nd G i).next := ⟨_, rfl⟩
      have hfix := (HU.out.fix i hi)
      rw [← hnx] at d5 hfix
      clear HB hgr hrg hrg2 hg2 hlk hat hb2 hrow2 hzz hq hwx hwc hnx hx hs2
      by_cases he : nx = i
      · have hne : ((nx : Int) == (i : Int)) = true := by simp [he]
        have HN := Lib.hid ((HST.out w2).1 (hfix.1 he))
        clear HST he hfix
        go_wp2_with fail
        go_roundw
        case rel => exact ⟨_, cnt2, l, A, c, rfl, HN⟩
        case measure => rw [HN.out.rng.left_eq, hm]; exact hlt
      · have hne : ((nx : Int) == (i : Int)) = false := by simp; omega
        have HN := Lib.hid (fun w4 => (HST.out w4).2 (fun e => he (hfix.2 e)))
        clear HST he hfix
        go_wp2_with (at_builtin; (refine wpList_append_lies _ rfl _ _ 30 rfl (B + 2) 3 i1 _ 1 8 Tryz.underlying30 hi1 hy0 hy1 hy2 rfl (by decide) _ l.length (nums l) rfl (HR.out _) ⟨w2.heap.size, 0, none⟩ 1 1 [.int .i64 (i : Nat)] rfl rfl (inews w2 _ _) (nums_one [i]) (by decide) (by unfold maxLen; omega) (by omega) (by simp; omega) _ rfl ?_); intro g cp w8 hown hg hat hglt; have HR2 := Lib.hid (HN.out w8 _ g cp hown hg); clear hown hg hat hglt)
        go_roundw
        case rel => exact ⟨_, cnt2, l ++ [i], _, cp, by simp, HR2⟩
        case measure => rw [HR2.out.rng.left_eq, hm]; exact hlt
end Go.Proofs.YtelkmnjoboekmaaGreat
namespace Go.Proofs.YtelkmnjoboekmaaGreat
open Go.RowKit

/-- The graph in a new box. -/
theorem gph_of {lo mb : Nat} {z : Value} {G : List Nd} {w : World} {T : TypeId} (h : GMem lo w z mb G) :
    Gph lo No (w.alloc (.cells #[z, .map (some mb)] T)) w.heap.size z G ∧ (w.alloc (.cells #[z, .map (some mb)] T)).cell? ⟨w.heap.size, 1, none⟩ = some (.map (some mb)) ∧
      ∃ D : DataW Unit, (w.alloc (.cells #[z, .map (some mb)] T)).ownsMap Tryz.prog 3 (plainElem Tryz.prog 3) mb G.length D ∧ VMap D G := by
  refine ⟨⟨World.cell?_alloc_at _ _ _ _ rfl, World.ownsRow.alloc h.row _, fun i hi => ?_, fun e => ?_, h.fine, h.small⟩, World.cell?_alloc_at _ _ _ _ rfl, ?_⟩
  · have h1 := (h.kids i hi).fr (World.grownBy_alloc w (.cells #[z, .map (some mb)] T) none) (fun b e => by cases e)
    exact h1.out fun b _ _ e => e.elim id (fun x => x.elim)
  · have := (own_lt h.row _ e).2
    omega
  · obtain ⟨D, h1, h2⟩ := h.vm
    exact ⟨D, h1.alloc _, h2⟩
theorem bound_right {G : List Nd} {E : List (Nat × Nat)} {root r : Nat → Nat} {D : Nat} (h : Closed G E root) (hr : Ranked G root r D) : ∀ bd : List Nat, (∀ i ∈ bd, i < G.length) → allRight (bindsOf G root D bd) = bd.all fun i => decide ((sol G root D i).size ≤ 200) && decide ((sol G root D i).depth ≤ 20) := by
  intro bd
  induction bd with
  | nil => intro _; rfl
  | cons x t ih =>
    intro hb
    have h1 := (sol_form h hr x (hb x (by simp))).2
    have h2 := ih fun i hi => hb i (by simp [hi])
    unfold allRight bindsOf at h2 ⊢
    simp only [List.map_cons, List.all_cons]
    rw [h2]
    unfold Tm.right
    rw [h1, Bool.true_and]
/-- A list of numbers in a block that a change of the graph's row leaves. -/
theorem irow_bound {bd : List Nat} {A : Option Addr} {c lo : Nat} {z : Value} {w5 : World} (hc : bd.length ≤ c) (hm : c ≤ maxLen) (hz : ∀ b, z.ownBlock = some b → b < lo)
    (h : 0 < bd.length → ∃ b, A = some ⟨b, 0, none⟩ ∧ lo ≤ b ∧ b < w5.heap.size ∧ ∀ j, j < bd.length → w5.cell? ⟨b, j, none⟩ = some (.int .i64 (bd.getD j 0 : Nat))) : ∀ W, w5.grownBy W z.ownBlock → IRow W A bd c := fun W k => by
  refine ⟨hc, hm, fun hp => ?_⟩
  obtain ⟨b, h1, h2, h3, h4⟩ := h hp
  refine ⟨b, h1, fun j hj => ?_⟩
  exact (fr_cell k (p := ⟨b, j, none⟩) h3 (fun e => by have := hz b e.symm; omega)).trans (h4 j hj)
theorem irow_ord {ord : List Nat} {A : Option Addr} {c base : Nat} {z : Value} {w5 : World} (h : w5.ownsRow base 3 1 (.slice A ord.length c) ord.length (nums ord)) (hz : (Value.slice A ord.length c).ownBlock = none ∨ (Value.slice A ord.length c).ownBlock ≠ z.ownBlock) : ∀ W, w5.grownBy W z.ownBlock → IRow W A ord c := fun W k => by
  have h1 : W.ownsRow base 3 1 (.slice A ord.length c) ord.length (nums ord) := World.ownsRow.kept h k hz
  rcases h1.2 with ⟨h2, h3⟩ | ⟨g, cap, cur, h2, _, _, h5, h6, _⟩
  · injection h2 with h4 _ h5
    subst h4 h5
    exact ⟨by omega, Nat.zero_le _, fun hp => by omega⟩
  · injection h2 with h4 _ h7
    subst h4 h7
    exact ⟨h5, h6, fun hp => ⟨g, rfl, fun j hj => nums_cell h1 hj⟩⟩
theorem RowB.fr {lo : Nat} {w w' : World} {v : Value} {acc : List Bd} {row : Option Nat} (h : RowB Any lo w v acc) (k : w.grownBy w' row) (hr : ∀ b, row = some b → b < lo) : RowB Any lo w' v acc := by
  refine ⟨World.ownsRow.kept h.1 k ?_, fun x hx => ⟨(h.2 x hx).1, (h.2 x hx).2.less k.size fun b h1 h2 h3 => ⟨h1, h3, k.block b h2 (fun e => by have := hr b e.symm; omega)⟩⟩⟩
  cases hv : v.ownBlock with
  | none => exact .inl rfl
  | some b =>
    refine .inr fun e => ?_
    have h1 := (own_lt h.1 b hv).1
    have h2 := hr b e.symm
    omega
/-- In the loop: j bindings are built. -/
structure Alls (lo p : Nat) (z : Value) (G : List Nd) (root r : Nat → Nat) (D : Nat) (bd : List Nat) (w : World) (acc : List Bd) (j : Nat) (ov : Value) (wr : World) : Prop where
  g : ∃ H, Alike G H ∧ UF H root r ∧ Gph lo No wr p z H
  fr : w.grownBy wr z.ownBlock
  row : RowB Any w.heap.size wr ov acc
  len : acc.length = j
  is : stripB acc = (bindsOf G root D bd).take j
theorem Alls.next {lo p D j g cap : Nat} {z ov : Value} {G H0 : List Nd} {root r : Nat → Nat} {bd : List Nat} {acc : List Bd} {n : Int} {u : Tm} {w wr w2 w4 : World} {ob : Obj}
    (h : Alls lo p z G root r D bd w acc j ov wr) (h0 : Gph lo No w p z H0) (ha0 : Alike G H0) (hj : j < bd.length)
    (hG2 : ∃ H, Alike G H ∧ UF H root r ∧ Gph lo No w2 p z H) (hf2 : wr.grownBy w2 z.ownBlock) (hu : u.strip = sol G root D (bd.getD j 0)) (hl : Lie Any wr.heap.size No w2 u) (hv : n = (nd G (bd.getD j 0)).tm.num) (hfn : Fits n)
    (hown : w4.ownsRow w.heap.size 41 5 (.slice (some ⟨g, 0, none⟩) (acc.length + 1) cap) (acc.length + 1) (bcells acc ++ (⟨n, u⟩ : Bd).cells)) (hgr : (w2.alloc ob).grownBy w4 ov.ownBlock) (hat : ov.ownBlock = some g ∨ g = (w2.alloc ob).heap.size) :
    Alls lo p z G root r D bd w (acc ++ [⟨n, u⟩]) (j + 1) (.slice (some ⟨g, 0, none⟩) (acc.length + 1) cap) w4 := by
  have hzl : ∀ b, z.ownBlock = some b → b < w.heap.size := fun b e => (own_lt h0.row b e).2
  have hvl : ∀ b, ov.ownBlock = some b → w.heap.size ≤ b ∧ b < wr.heap.size := fun b e => own_lt h.row.1 b e
  have row2 : RowB Any w.heap.size w2 ov acc := h.row.fr hf2 fun b e => hzl b e
  have hu2 : Lie Any w.heap.size (fun k => ov.ownBlock = some k) w2 u := lie_apart h.row.1 hl h.fr.size (Nat.le_refl _)
  have row4 := RowB.next (u := ⟨n, u⟩) row2 hfn hu2 (below1 w2 ob) hown hgr hat
  have hf4 : w.grownBy w4 z.ownBlock := fr_grow (fr_alloc (fr_trans h.fr hf2) ob) hgr fun b e => (hvl b e).1
  obtain ⟨H2, g1, g2, g3⟩ := hG2
  refine ⟨⟨H2, g1, g2, Gph.renew h0 (ha0.flip g1) (g3.alloc ob) hf4 hgr ?_⟩, hf4, row4, by rw [List.length_append, h.len]; rfl, ?_⟩
  · cases hz : z.ownBlock with
    | none => exact .inl rfl
    | some b => exact .inr fun e => by have := hzl b hz; have := (hvl b e.symm).1; omega
  · have hlen : j < (bindsOf G root D bd).length := by unfold bindsOf; rw [List.length_map]; exact hj
    have hget : (bindsOf G root D bd)[j] = ⟨(nd G (bd.getD j 0)).tm.num, sol G root D (bd.getD j 0)⟩ := by simp [bindsOf, List.getD, hj]
    rw [List.take_succ_eq_append_getElem hlen, ← h.is, hget, stripB_append]
    show stripB acc ++ [⟨n, u.strip⟩] = _
    rw [hu, hv]
theorem RowB.low {lo lo' : Nat} {w : World} {v : Value} {acc : List Bd} (h : RowB Any lo' w v acc) (hl : lo ≤ lo') : RowB Any lo w v acc :=
  ⟨own_mono h.1 hl, fun x hx => ⟨(h.2 x hx).1, (h.2 x hx).2.less (Nat.le_refl _) fun b h1 h2 h3 => ⟨by omega, h3, rfl⟩⟩⟩
theorem gmem_len {lo mb n c : Nat} {zA : Option Addr} {G : List Nd} {w : World} (h : GMem lo w (.slice zA n c) mb G) : n = G.length := by
  rcases h.row.2 with ⟨h1, h2⟩ | ⟨g, cap, cur, h1, _⟩
  · injection h1 with _ h1 _; omega
  · injection h1
end Go.Proofs.YtelkmnjoboekmaaGreat
namespace Go.Proofs.YtelkmnjoboekmaaGreat
open Go.RowKit

/-- What All answers. -/
def AllR (la lb : List Tm) (w : World) (e : Ending) (w' : World) : Prop :=
  ∃ (l : List Bd) (z : Value) (er : Int), e = .returned (.tuple #[z, .int .i64 er]) ∧ AllOut la lb (stripB l) er ∧ Below w.heap.size w w' ∧ RowB Any w.heap.size w' z l
theorem all_nil {la lb : List Tm} {er : Int} {w w' : World} (h : AllOut la lb [] er) (hb : Below w.heap.size w w') : AllR la lb w (.returned (.tuple #[.slice none 0 0, .int .i64 er])) w' := ⟨[], _, er, rfl, h, hb, RowB.nil _ _ _⟩
set_option maxHeartbeats 8000000 in
set_option maxRecDepth 100000 in
theorem all_at (la lb : List Tm) (A B : Option Addr) (ca cb : Nat) (w : World) (hA : Lst w A la ca) (hB : Lst w B lb cb) (hn : (la.all Tm.right && lb.all Tm.right) = true → la.length = lb.length → nodesL la + nodesL lb ≤ 2500000) :
    Calls Tryz.prog 21 #[.slice A la.length ca, .slice B lb.length cb] w (AllR la lb w) := by
  have hla : la.length ≤ maxLen := Nat.le_trans hA.1 hA.2.1
  have hlb : lb.length ≤ maxLen := Nat.le_trans hB.1 hB.2.1
  unfold maxLen at hla hlb
  cases hra : la.all Tm.right with
  | false =>
    have HQ := Lib.hid (right_all_at la A ca w hA hra)
    have HE := Lib.hid (fun w' (hb : Below w.heap.size w w') => all_nil (w := w) (out_arg (la := la) (lb := lb) (by rw [hra]; rfl)) hb)
    clear hA hB hn hra
    go_enter Tryz.func21, Tryz.ntmps21
    go_wp2_with (go_at_call 37; refine (HQ.out).mono ?_; rintro e w1 ⟨rfl, hb⟩; have H1 := Lib.hid (HE.out _ hb); clear hb)
    go_ret2
    exact H1.out
  | true =>
    have HQ := Lib.hid (right_all_at la A ca w hA hra)
    cases hrb : lb.all Tm.right with
    | false =>
      have HQ2 := Lib.hid (fun w1 (hb : Below w.heap.size w w1) => right_all_at lb B cb w1 (hB.below hb) hrb)
      have HE := Lib.hid (fun w' (hb : Below w.heap.size w w') => all_nil (w := w) (out_arg (la := la) (lb := lb) (by rw [hra, hrb]; rfl)) hb)
      clear hA hB hn hra hrb
      go_enter Tryz.func21, Tryz.ntmps21
      go_wp2_with (first
        | ((with_reducible refine (HQ.out).mono ?_); rintro e w1 ⟨rfl, hb⟩; have HB1 := Lib.hid hb; have HQ3 := Lib.hid (HQ2.out _ hb); clear hb)
        | ((with_reducible refine (HQ3.out).mono ?_); rintro e w2 ⟨rfl, hb2⟩; have H1 := Lib.hid (HE.out _ (HB1.out.trans (hb2.mono HB1.out.size))); clear hb2))
      go_ret2
      exact H1.out
    | true =>
      have HQ2 := Lib.hid (fun w1 (hb : Below w.heap.size w w1) => right_all_at lb B cb w1 (hB.below hb) hrb)
      have hrr : (la.all Tm.right && lb.all Tm.right) = true := by rw [hra, hrb]; rfl
      by_cases hl : la.length = lb.length
      · have hfa : ∀ t ∈ la, t.form = true := fun t ht => by
          have := List.all_eq_true.1 hra t ht
          unfold Tm.right at this
          simp only [Bool.and_eq_true] at this
          exact this.1
        have hfb : ∀ t ∈ lb, t.form = true := fun t ht => by
          have := List.all_eq_true.1 hrb t ht
          unfold Tm.right at this
          simp only [Bool.and_eq_true] at this
          exact this.1
        have HS := Lib.hid (fun w1 (hb : Below w.heap.size w w1) => solve_at la lb A B ca cb w1 (hA.below hb) (hB.below hb) hl hfa hfb (hn hrr hl))
        have HNO := Lib.hid (fun hno w' (hb : Below w.heap.size w w') => all_nil (w := w) (out_none hrr hl hno) hb)
        have HSO := Lib.hid (fun s m e hs hm => out_some (s := s) (m := m) (e := e) hrr hl hs hm)
        have heq : ((la.length : Int) == (lb.length : Int)) = true := by simp [hl]
        have HL := Lib.hid hl
        clear hA hB hn hra hrb hfa hfb hl
        go_enter Tryz.func21, Tryz.ntmps21
        go_upto_region 6 with (first
          | ((with_reducible refine (HQ.out).mono ?_); rintro e w1 ⟨rfl, hb⟩; have HB1 := Lib.hid hb; have HQ3 := Lib.hid (HQ2.out _ hb); clear hb)
          | ((with_reducible refine (HQ3.out).mono ?_); rintro e w2 ⟨rfl, hb2⟩; have HB2 := Lib.hid (HB1.out.trans (hb2.mono HB1.out.size)); have HS4 := Lib.hid (HS.out _ HB2.out); clear hb2)
          | ((with_reducible refine (HS4.out).mono ?_); rintro e w3 ⟨⟨z, mb, Ao, co, ord, ok, rfl, hb3, hno, hyes⟩, zA, zn, zc, mb2, A2, m2, c2, b2, he⟩; have hz : z = .slice zA zn zc := (by simp at he; exact he.1.1); subst hz; have HB3 := Lib.hid (HB2.out.trans (hb3.mono HB2.out.size)); have HN3 := Lib.hid hno; have HY3 := Lib.hid hyes; have HB23 := Lib.hid hb3; clear he hb3 hno hyes))
        cases ok with
        | false =>
          have HE := Lib.hid (HNO.out (HN3.out rfl) _ (HB3.out.alloc HB3.out.size (.cells #[.slice zA zn zc, .map (some mb)] 61)))
          clear HN3 HY3
          go_wp2_with fail
          go_ret2
          exact HE.out
        | true =>
          clear HN3
          obtain ⟨G, root, r, E, us, hgm, huf, hcl, hun, hord, hall, hrow, hn1, hn2⟩ := HY3.out rfl
          clear HY3
          obtain rfl : zn = G.length := gmem_len hgm
          have hrk := hord.ranked hall (fun i hi => ⟨hcl.lt i hi, hcl.idem i hi⟩) hcl.ok
          obtain ⟨g4, gc4, D, gd4, gv4⟩ := gph_of (T := 61) hgm
          have HZL := Lib.hid (fun b (e : (Value.slice zA G.length zc).ownBlock = some b) => own_lt hgm.row b e)
          have QB := Lib.hid (ubound_at g4 huf gc4 gd4 gv4)
          have HG4 := Lib.hid g4
          have HUF := Lib.hid huf
          have HCL := Lib.hid hcl
          have HRK := Lib.hid hrk
          have HUN := Lib.hid hun
          have HRW := Lib.hid (World.ownsRow.alloc hrow (.cells #[.slice zA G.length zc, .map (some mb)] 61))
          have HBB := Lib.hid (HB3.out.alloc HB3.out.size (.cells #[.slice zA G.length zc, .map (some mb)] 61))
          have HF0 := Lib.hid (fun w5 bd A c hbd h1 h2 => fitg_at (lo := w2.heap.size) (X := No) (p := w3.heap.size) (z := .slice zA G.length zc) (w := w5) (bd := bd) (A := A) (ca := c) (B := Ao) (cb := co) h1 huf hcl hrk hord hall hbd h2)
          have HN2 := Lib.hid hn2
          clear g4 gc4 gd4 gv4 huf hcl hrk hun hord hall hrow hn1 hn2 hgm
          go_upto_region 9 with (first
            | ((with_reducible refine (QB.out).mono ?_); rintro e w5 ⟨bd, Ab, cbd, rfl, hbi, hb5, hc5, hm5, hrd⟩; have HBI := Lib.hid hbi; have HB5 := Lib.hid hb5; have HRD := Lib.hid (And.intro hc5 (And.intro hm5 hrd)); clear hbi hb5 hc5 hm5 hrd))
          have hg5 := HG4.out.below HB5.out
          have QF := Lib.hid (HF0.out w5 bd Ab cbd (fun i hi => ((HBI.out.1 i).1 hi).1) hg5 (irow_bound HRD.out.1 HRD.out.2.1 (fun b e => by have := (HZL.out b e).2; simp; omega) HRD.out.2.2) (irow_ord (own_below HRW.out HB5.out) HN2.out) (fun b hb e => by
            rcases HN2.out with h | h
            · rw [hb] at h; cases h
            · exact h (by rw [hb]; exact e.symm)))
          have HB55 := Lib.hid (HBB.out.trans (HB5.out.mono HBB.out.size))
          have HSOL := Lib.hid (closed_sol HCL.out HRK.out HBI.out HUN.out)
          have hbr := bound_right HCL.out HRK.out bd (fun i hi => ((HBI.out.1 i).1 hi).1)
          cases hfb : (bd.all fun i => decide ((sol G root (G.length + 1) i).size ≤ 200) && decide ((sol G root (G.length + 1) i).depth ≤ 20)) with
          | false =>
            have QF2 := Lib.hid (show Calls Tryz.prog 40 #[.pointer (some ⟨w3.heap.size, 0, none⟩), .slice Ab bd.length cbd, .slice Ao ord.length co] w5 (fun e w' => ∃ H, e = .returned (.bool false) ∧ Alike G H ∧ UF H root r ∧ Gph w2.heap.size No w' w3.heap.size (.slice zA G.length zc) H ∧ w5.grownBy w' (Value.slice zA G.length zc).ownBlock) from by
              have h := QF.out
              unfold FitR at h
              rw [hfb] at h
              exact h)
            have HE := Lib.hid (fun w6 (hb : Below w.heap.size w w6) => all_nil (w := w) (HSO.out _ [] 6 HSOL.out (.inr ⟨hbr.trans hfb, rfl, rfl⟩)) hb)
            have hw2 := HB2.out.size
            clear QF hfb hbr
            go_wp2_with (first
              | ((with_reducible refine (QF2.out).mono ?_); rintro e w6 ⟨H, rfl, a1, a2, a3, a4⟩; have H6 := Lib.hid (HE.out _ (below_fr HB55.out a4 (fun b e => Nat.le_trans hw2 (HZL.out b e).1))); clear a1 a2 a3 a4))
            go_ret2
            exact H6.out
          | true =>
            have QF2 := Lib.hid (show Calls Tryz.prog 40 #[.pointer (some ⟨w3.heap.size, 0, none⟩), .slice Ab bd.length cbd, .slice Ao ord.length co] w5 (fun e w' => ∃ H, e = .returned (.bool true) ∧ Alike G H ∧ UF H root r ∧ Gph w2.heap.size No w' w3.heap.size (.slice zA G.length zc) H ∧ w5.grownBy w' (Value.slice zA G.length zc).ownBlock) from by
              have h := QF.out
              unfold FitR at h
              rw [hfb] at h
              exact h)
            have HE := Lib.hid (HSO.out (bindsOf G root (G.length + 1) bd) (bindsOf G root (G.length + 1) bd) 0 HSOL.out (.inl ⟨hbr.trans hfb, rfl, rfl⟩))
            have hw2 := HB2.out.size
            clear QF hfb hbr
            go_wp2_with (first
              | ((with_reducible refine (QF2.out).mono ?_); rintro e w6 ⟨H, rfl, a1, a2, a3, a4⟩; have HB6 := Lib.hid (below_fr HB55.out a4 (fun b e => Nat.le_trans hw2 (HZL.out b e).1)); have HG6 := Lib.hid (And.intro a1 (And.intro a2 (And.intro a3 a4))); clear a1 a2 a3 a4))
            have HA0 := Lib.hid (show Alls w2.heap.size w3.heap.size (.slice zA G.length zc) G root r (G.length + 1) bd w6 [] 0 (.slice none 0 0) w6 from ⟨⟨H, HG6.out.1, HG6.out.2.1, HG6.out.2.2.1⟩, fr_refl _ _, RowB.nil _ _ _, rfl, rfl⟩)
            have hbl : bd.length ≤ 2500000 := by
              have h1 : bd.Nodup := by
                have := HBI.out.2
                exact this.imp fun hab e => by rw [e] at hab; omega
              have := (pigeon _ _ h1 (fun i hi => ((HBI.out.1 i).1 hi).1)).1
              have := HG4.out.small
              omega
            have HZ6 := Lib.hid (fun b e => Nat.lt_of_lt_of_le (HZL.out b e).2 (show w3.heap.size ≤ w6.heap.size from by
              have h1 := HB5.out.size
              have h2 := HG6.out.2.2.2.size
              rw [World.size_alloc] at h1
              omega))
            have HIR := Lib.hid (irow_bound HRD.out.1 HRD.out.2.1 (z := .slice zA G.length zc) (lo := (w3.alloc (.cells #[.slice zA G.length zc, .map (some mb)] 61)).heap.size) (fun b e => by have := (HZL.out b e).2; rw [World.size_alloc]; omega) HRD.out.2.2)
            obtain ⟨it, hit, iz0, iz1, iz2⟩ := info_parts bind_info
            go_loopw [10, 42] (fun s10 s42 wr => ∃ (j : Nat) (acc : List Bd) (oA : Option Addr) (oc : Nat), j ≤ bd.length ∧ s42 = .int .i64 (j : Nat) ∧ s10 = .slice oA acc.length oc ∧ Hid (Alls w2.heap.size w3.heap.size (.slice zA G.length zc) G root r (G.length + 1) bd w6 acc j (.slice oA acc.length oc) wr)) (fun _ s42 _ => bd.length - (intOf s42).toNat)
            case atStart => exact ⟨0, [], none, 0, Nat.zero_le _, rfl, rfl, HA0⟩
            case round =>
              clear HA0
              obtain ⟨j, acc, oA, oc, hj, rfl, rfl, HAL⟩ := hrel
              by_cases hlt : j < bd.length
              · obtain ⟨b, rfl, hb⟩ := (HIR.out wr (fr_trans HG6.out.2.2.2 HAL.out.fr)).2.2 (by omega)
                have b1 := hb j hlt
                obtain ⟨i, hi⟩ : ∃ i, i = bd.getD j 0 := ⟨_, rfl⟩
                rw [← hi] at b1
                have hbm := (HBI.out.1 i).1 (by rw [hi]; exact nat_getD_mem hlt)
                have hiG := hbm.1
                obtain ⟨H2, e1, e2, e3⟩ := HAL.out.g
                obtain ⟨q, cap, hz, _⟩ := e3.form (by rw [e1.len]; omega)
                injection hz with hz1 hz3 hz2
                subst hz1 hz2
                clear hz3
                have c0 := e3.hdr
                have d1 := (e3.cells (i := i) (by rw [e1.len]; exact hiG)).2.1
                rw [(e1.tm hiG).1] at d1
                have Q1 := Lib.hid (build_at HCL.out HRK.out _ i H2 wr.drew hiG (Nat.lt_succ_self _) e1 e2 e3.drew)
                have HAFT := Lib.hid (show ∀ W H8, Alike G H8 → Gph w2.heap.size No W w3.heap.size (.slice (some ⟨q, 0, none⟩) G.length zc) H8 → W.cell? ⟨w3.heap.size, 0, none⟩ = some (.slice (some ⟨q, 0, none⟩) G.length zc) ∧ W.cell? ⟨q, i * 6 + 1, none⟩ = some (.int .i64 (nd G i).tm.num) from fun W H8 a1 a2 => by
                  have h1 := (a2.cells (i := i) (by rw [a1.len]; exact hiG)).2.1
                  rw [(a1.tm hiG).1] at h1
                  exact ⟨a2.hdr, h1⟩)
                have hfn : Fits (nd G i).tm.num := by
                  have h2 := form_var (HCL.out.ok i hiG).form hbm.2.1
                  unfold Fits
                  omega
                have HNX := Lib.hid (fun (u : Tm) w8 w9 g cp ob => HAL.out.next (w2 := w8) (w4 := w9) (g := g) (cap := cp) (ob := ob) (u := u) (n := (nd G i).tm.num) HG6.out.2.2.1 HG6.out.1 hlt)
                have HOW := Lib.hid (show ∀ W, wr.grownBy W (some q) → RowB Any w6.heap.size W (.slice oA acc.length oc) acc from fun W k => HAL.out.row.fr k fun b e => HZ6.out b (by rw [← e]; rfl))
                have hacc := HAL.out.len
                have hsz6 := HAL.out.fr.size
                have hal : acc.length ≤ 2500000 := by omega
                have HI2 := Lib.hid hi
                have HACC := Lib.hid hacc
                clear hacc
                clear hb hbm e1 e2 e3 HAL hi
                generalize hnm : (nd G i).tm.num = nm at *
                have HNM := Lib.hid hnm
                clear hnm
                go_wp2_with fail
                go_region_law (first
                  | (go_simp; go_at_call 41; refine (Q1.out).mono ?_; rintro e w8 ⟨u, H8, rfl, m1, m2, m3, m4, m5, m6⟩; have m7 := undrew_fr m6; obtain ⟨x0, x1⟩ := HAFT.out w8 H8 m3 m5; have OW := Lib.hid (HOW.out w8 m7); have hm8 := m7.size; have MM := Lib.hid (show u.strip = sol G root (G.length + 1) i ∧ Lie Any wr.heap.size No w8 u ∧ (∃ H, Alike G H ∧ UF H root r ∧ Gph w2.heap.size No w8 w3.heap.size (.slice (some ⟨q, 0, none⟩) G.length zc) H) ∧ wr.grownBy w8 (some q) from ⟨m1, m2, ⟨H8, m3, m4, m5⟩, m7⟩); clear m1 m2 m3 m4 m5 m6 m7; obtain ⟨k2, n2, s2, A2, p2, a2⟩ := u)
                  | (refine step_append_lies _ (by rfl) _ _ _ (by rfl) w6.heap.size 41 it _ 5 64 Tryz.underlying23 hit iz0 iz1 iz2 rfl (by omega) (.slice oA acc.length oc) acc.length (bcells acc) (by rfl) (OW.out.1.alloc _) ⟨w8.heap.size, 0, none⟩ 1 1 [.int .i64 nm, .int .i64 k2, .int .i64 n2, .string s2, .slice A2 a2.length p2] (by rfl) (by rfl) (World.news_of_block (cs := #[.int .i64 nm, .int .i64 k2, .int .i64 n2, .string s2, .slice A2 a2.length p2]) (t := 41) (fr := (0, 0)) (heap_alloc_new w8 _)) (by simp [Value.oneCell']) (by omega) (by unfold maxLen; omega) (by omega) (by simp; omega) (w8.heap.size + 1) (by simp) ?_; intro g cp w9 hown hgrow hat hgl))
                all_goals
                  have HD := Lib.hid (HNX.out (.mk k2 n2 s2 A2 p2 a2) w8 w9 g cp _ MM.out.2.2.1 MM.out.2.2.2 (by rw [← HI2.out]; exact MM.out.1) MM.out.2.1 (by rw [← HI2.out, HNM.out]) hfn hown hgrow (by rcases hat with h | h; exact .inl h; exact .inr (by rw [h]; simp)))
                  clear hown hgrow hat hgl OW MM
                  go_wp2_with fail
                  go_roundw
                  case rel => exact ⟨j + 1, acc ++ [⟨nm, .mk k2 n2 s2 A2 p2 a2⟩], some ⟨g, 0, none⟩, cp, by omega, by go_num, by rw [List.length_append]; rfl, Lib.hid (by rw [List.length_append]; exact HD.out)⟩
                  case measure => simp [intOf]; omega
              · obtain rfl : j = bd.length := by omega
                have HE2 := Lib.hid (show AllR la lb w (.returned (.tuple #[.slice oA acc.length oc, .int .i64 0])) wr from by
                  have h1 := HAL.out.is
                  rw [List.take_of_length_le (by unfold bindsOf; rw [List.length_map]; exact Nat.le_refl _)] at h1
                  have h2 := below_fr HB6.out HAL.out.fr (fun b e => Nat.le_trans hw2 (HZL.out b e).1)
                  have h3 := HB6.out.size
                  have hr := HAL.out.row
                  exact ⟨acc, _, 0, rfl, by rw [h1]; exact HE.out, h2, hr.low h3⟩)
                clear HAL
                go_wp2_with fail
                go_ret2
                exact HE2.out
      · have HE := Lib.hid (fun w' (hb : Below w.heap.size w w') => all_nil (w := w) (out_arity hrr hl) hb)
        have hne : ((la.length : Int) == (lb.length : Int)) = false := by simp; omega
        clear hA hB hn hra hrb hl
        go_enter Tryz.func21, Tryz.ntmps21
        go_wp2_with (first
          | ((with_reducible refine (HQ.out).mono ?_); rintro e w1 ⟨rfl, hb⟩; have HB1 := Lib.hid hb; have HQ3 := Lib.hid (HQ2.out _ hb); clear hb)
          | ((with_reducible refine (HQ3.out).mono ?_); rintro e w2 ⟨rfl, hb2⟩; have H1 := Lib.hid (HE.out _ (HB1.out.trans (hb2.mono HB1.out.size))); clear hb2))
        go_ret2
        exact H1.out
end Go.Proofs.YtelkmnjoboekmaaGreat
