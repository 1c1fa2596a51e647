/-
  RfMeas.
  RfSolveP.
  RfRights.
  UnOuts.
  RfAll.
  RfUnify.
-/
import Derived.Test.YtgpglgehlnfggaaGreatMe24
import Derived.Test.YtgpglgehlnfggaaGreatMe13
import Derived.Deep.RegionHeld3
import Derived.Deep.CutRange
import Derived.Test.YtgpglgehlnfggaaGreatMe23
import Derived.Test.YtgpglgehlnfggaaGreatMe3
import Derived.Test.YtgpglgehlnfggaaGreatMe10
import Derived.Test.YtgpglgehlnfggaaGreatMe14
namespace Go.Proofs.YtgpglgehlnfggaaGreat
open Go.RowKit
def mcells (M : List (Nat × Nat)) : List Value := M.flatMap fun p => [.int .i64 (p.1 : Nat), .int .i64 (p.2 : Nat)]
theorem mcells_len (M : List (Nat × Nat)) : (mcells M).length = M.length * 2 := by
  induction M with
  | nil => rfl
  | cons t r ih => simp only [mcells, List.flatMap_cons, List.length_append, List.length_cons, List.length_nil] at *; omega
theorem mcells_get (M : List (Nat × Nat)) {c : Nat} (hc : c < M.length) : (mcells M)[c * 2]? = some (.int .i64 ((mget M c).1 : Nat)) ∧ (mcells M)[c * 2 + 1]? = some (.int .i64 ((mget M c).2 : Nat)) := by
  induction M generalizing c with
  | nil => simp at hc
  | cons t r ih =>
    simp only [mcells, List.flatMap_cons]
    cases c with
    | zero => simp [mget]
    | succ c =>
      have := ih (c := c) (by simpa using hc)
      rw [show (c + 1) * 2 = c * 2 + 1 + 1 by omega]
      simp only [List.cons_append, List.nil_append, List.getElem?_cons_succ]
      simpa [mcells, mget] using this
theorem mcells_set (M : List (Nat × Nat)) {c : Nat} (hc : c < M.length) (x : Nat × Nat) : ((mcells M).set (c * 2) (.int .i64 (x.1 : Nat))).set (c * 2 + 1) (.int .i64 (x.2 : Nat)) = mcells (M.set c x) := by
  refine List.ext_getElem? fun m => ?_
  by_cases hm : m < M.length * 2
  · obtain ⟨v, hv, h | h⟩ : ∃ v, v < M.length ∧ (m = v * 2 ∨ m = v * 2 + 1) := ⟨m / 2, by omega, by omega⟩
    · subst h
      rw [(mcells_get (M.set c x) (c := v) (by rw [List.length_set]; exact hv)).1, mget_set hc, List.getElem?_set, if_neg (by omega), List.getElem?_set]
      by_cases e : v = c
      · subst e
        rw [if_pos rfl, if_pos rfl, if_pos (by rw [mcells_len]; omega)]
      · rw [if_neg (by omega), if_neg e, (mcells_get M hv).1]
    · subst h
      rw [(mcells_get (M.set c x) (c := v) (by rw [List.length_set]; exact hv)).2, mget_set hc, List.getElem?_set]
      by_cases e : v = c
      · subst e
        rw [if_pos rfl, if_pos rfl, if_pos (by rw [List.length_set, mcells_len]; omega)]
      · rw [if_neg (by omega), if_neg e, List.getElem?_set, if_neg (by omega), (mcells_get M hv).2]
  · rw [List.getElem?_eq_none (by rw [List.length_set, List.length_set, mcells_len]; omega), List.getElem?_eq_none (by rw [mcells_len, List.length_set]; omega)]
theorem meas_info : (Tryz.prog.info? 151).map (fun i => (i.zero, i.size, i.bytes)) = some (some (.agg #[.int .i64 0, .int .i64 0]), 2, 16) := by kernel_rfl
theorem made_meas (L : Nat) : (madeCells (Value.agg #[.int .i64 0, .int .i64 0]).cells (L * 2)).toList = mcells (List.replicate L (0, 0)) := by
  have hz : ∀ x, (#[Value.int .i64 0, Value.int .i64 0] : Array Value)[x % 2]! = Value.int .i64 0 := fun x => by
    have : x % 2 = 0 ∨ x % 2 = 1 := by omega
    rcases this with h | h <;> rw [h] <;> rfl
  have e : (madeCells (Value.agg #[.int .i64 0, .int .i64 0]).cells (L * 2)).toList = List.replicate (L * 2) (Value.int .i64 0) := by
    show (madeCells #[Value.int .i64 0, Value.int .i64 0] (L * 2)).toList = _
    unfold madeCells
    rw [Array.toList_map]
    have : (fun x => (#[Value.int .i64 0, Value.int .i64 0] : Array Value)[x % (#[Value.int .i64 0, Value.int .i64 0] : Array Value).size]!) = fun _ => Value.int .i64 0 := funext hz
    rw [this, Array.toList_range, List.map_const', List.length_range]
  rw [e]
  refine List.ext_getElem? fun m => ?_
  by_cases hm : m < L * 2
  · rw [List.getElem?_replicate, if_pos hm]
    have h1 := mcells_get (List.replicate L (0, 0)) (c := m / 2) (by simp; omega)
    have h0 : mget (List.replicate L (0, 0)) (m / 2) = (0, 0) := by simp [mget, List.getD, show m / 2 < L by omega]
    rw [h0] at h1
    have : m = m / 2 * 2 ∨ m = m / 2 * 2 + 1 := by omega
    rcases this with e' | e'
    · rw [e', h1.1]; rfl
    · rw [e', h1.2]; rfl
  · rw [List.getElem?_eq_none (by simp; omega), List.getElem?_eq_none (by rw [mcells_len]; simp; omega)]
section
variable {w w' : World} {lo g n : Nat} {M : List (Nat × Nat)}
theorem mrow_cells (h : w.ownsRow lo 151 2 (.slice (some ⟨g, 0, none⟩) n n) n (mcells M)) (hM : M.length = n) {c : Nat} (hc : c < n) : w.cell? ⟨g, c * 2, none⟩ = some (.int .i64 ((mget M c).1 : Nat)) ∧ w.cell? ⟨g, c * 2 + 1, none⟩ = some (.int .i64 ((mget M c).2 : Nat)) := by
  have h1 := mcells_get M (c := c) (by omega)
  rw [World.ownsRow.cellAt h (c * 2) (by omega), World.ownsRow.cellAt h (c * 2 + 1) (by omega)]
  exact h1
theorem mrow_set (h : w.ownsRow lo 151 2 (.slice (some ⟨g, 0, none⟩) n n) n (mcells M)) (hM : M.length = n) {c : Nat} (hc : c < n) (x : Nat × Nat) : ((w.setCell ⟨g, c * 2, none⟩ (.int .i64 (x.1 : Nat))).setCell ⟨g, c * 2 + 1, none⟩ (.int .i64 (x.2 : Nat))).ownsRow lo 151 2 (.slice (some ⟨g, 0, none⟩) n n) n (mcells (M.set c x)) := by
  have h1 := (World.ownsRow.stored (World.ownsRow.stored h (c * 2) (.int .i64 (x.1 : Nat))).1 (c * 2 + 1) (.int .i64 (x.2 : Nat))).1
  rw [mcells_set M (by omega)] at h1
  exact h1
end
def countR (root : Nat → Nat) (j : Nat) : Nat := ((List.range j).filter fun i => decide (root i = i)).length
theorem countR_next (root : Nat → Nat) (j : Nat) : countR root (j + 1) = countR root j + if root j = j then 1 else 0 := by
  unfold countR
  rw [List.range_succ, List.filter_append, List.length_append]
  congr 1
  by_cases h : root j = j <;> simp [h]
theorem countR_le (root : Nat → Nat) (j : Nat) : countR root j ≤ j := by
  unfold countR
  refine Nat.le_trans (List.length_filter_le _ _) (by simp)
def Argued (root : Nat → Nat) (M : List (Nat × Nat)) (ks : List Nat) (wd : World) (B j : Nat) (wr : World) : Prop :=
  FrX (fun b => b = B) wd wr ∧ B < wr.heap.size ∧ wr.cell? ⟨B, 0, none⟩ = some (.int .i64 (((ks.take j).foldl (calcStep root M) (1, 1)).1 : Nat)) ∧ wr.cell? ⟨B, 1, none⟩ = some (.int .i64 (((ks.take j).foldl (calcStep root M) (1, 1)).2 : Nat)) ∧ ∀ m, wr.frozen? ⟨B, m, none⟩ = false
def flagS (root : Nat → Nat) (done ks : List Nat) (j : Nat) : Bool := (ks.take j).all fun k => decide (root k ∈ done)
theorem flag_next {root : Nat → Nat} {done ks : List Nat} {j : Nat} (h : j < ks.length) : flagS root done ks (j + 1) = (flagS root done ks j && decide (root (ks.getD j 0) ∈ done)) := by
  unfold flagS
  rw [nat_take_next h, List.all_append]
  simp
theorem flag_all {root : Nat → Nat} {done ks : List Nat} : flagS root done ks ks.length = true ↔ ∀ k ∈ ks, root k ∈ done := by
  unfold flagS
  rw [List.take_length]
  simp
theorem calc_next {root : Nat → Nat} {M : List (Nat × Nat)} {ks : List Nat} {j : Nat} (h : j < ks.length) : (ks.take (j + 1)).foldl (calcStep root M) (1, 1) = calcStep root M ((ks.take j).foldl (calcStep root M) (1, 1)) (ks.getD j 0) := by
  rw [nat_take_next h, List.foldl_append]
  rfl
theorem argued_next {root : Nat → Nat} {M : List (Nat × Nat)} {ks : List Nat} {wd wr : World} {B j xa xb ya yb k : Nat} {o : Obj} (h : Argued root M ks wd B j wr) (hc : (ks.take (j + 1)).foldl (calcStep root M) (1, 1) = calcStep root M (xa, xb) k) (hy : mget M (root k) = (ya, yb)) :
    Argued root M ks wd B (j + 1) (((wr.setCell ⟨B, 0, none⟩ (.int .i64 (min ((xa : Nat) + (ya : Nat) : Int) 201))).setCell ⟨B, 1, none⟩ (.int .i64 (min (max ((xb : Nat) : Int) ((yb : Nat) + 1)) 21))).alloc o).drew := by
  obtain ⟨h1, h2, h3, h4, h5⟩ := h
  have e0 : (((wr.setCell ⟨B, 0, none⟩ (.int .i64 (min ((xa : Nat) + (ya : Nat) : Int) 201))).setCell ⟨B, 1, none⟩ (.int .i64 (min (max ((xb : Nat) : Int) ((yb : Nat) + 1)) 21)))).cell? ⟨B, 0, none⟩ = some (.int .i64 (min ((xa : Nat) + (ya : Nat) : Int) 201)) := by
    rw [World.cell?_setCell_other _ _ _ _ (fun e => by injection e with _ e _; omega)]
    exact World.cell?_setCell_same' _ _ _ (by rw [h3]; rfl)
  have e1 : (((wr.setCell ⟨B, 0, none⟩ (.int .i64 (min ((xa : Nat) + (ya : Nat) : Int) 201))).setCell ⟨B, 1, none⟩ (.int .i64 (min (max ((xb : Nat) : Int) ((yb : Nat) + 1)) 21)))).cell? ⟨B, 1, none⟩ = some (.int .i64 (min (max ((xb : Nat) : Int) ((yb : Nat) + 1)) 21)) :=
    World.cell?_setCell_same' _ _ _ (by rw [World.cell?_setCell_other _ _ _ _ (fun e => by injection e with _ e _; omega), h4]; rfl)
  have hs : (((wr.setCell ⟨B, 0, none⟩ (.int .i64 (min ((xa : Nat) + (ya : Nat) : Int) 201))).setCell ⟨B, 1, none⟩ (.int .i64 (min (max ((xb : Nat) : Int) ((yb : Nat) + 1)) 21)))).heap.size = wr.heap.size := by simp [World.setCell]
  refine ⟨(((h1.set (p := ⟨B, 0, none⟩) (fun _ => rfl) _).set (p := ⟨B, 1, none⟩) (fun _ => rfl) _).alloc o).drew, ?_, ?_, ?_, fun m => ?_⟩
  · show B < (World.alloc _ o).heap.size
    rw [World.size_alloc, hs]
    omega
  · refine (al1 e0 o).trans ?_
    rw [hc]
    unfold calcStep
    rw [hy]
    congr 2
    show (min ((xa : Nat) + (ya : Nat) : Int) 201) = ((min (xa + ya) 201 : Nat) : Int)
    omega
  · refine (al1 e1 o).trans ?_
    rw [hc]
    unfold calcStep
    rw [hy]
    congr 2
    show (min (max ((xb : Nat) : Int) ((yb : Nat) + 1)) 21) = ((min (max xb (yb + 1)) 21 : Nat) : Int)
    omega
  · show (World.alloc _ o).frozen? _ = false
    rw [(below1 _ o).frozen (p := ⟨B, m, none⟩) (by rw [hs]; exact h2), World.frozen?_setCell, World.frozen?_setCell]
    exact h5 m
theorem argued_any {root : Nat → Nat} {M : List (Nat × Nat)} {ks : List Nat} {wd wr : World} {B j xa xb ya yb k : Nat} {o : Obj} {u v : Int} (h : Argued root M ks wd B j wr) (hc : (ks.take (j + 1)).foldl (calcStep root M) (1, 1) = calcStep root M (xa, xb) k) (hy : mget M (root k) = (ya, yb)) (hu : u = min ((xa : Nat) + (ya : Nat) : Int) 201) (hv : v = min (max ((xb : Nat) : Int) ((yb : Nat) + 1)) 21) :
    Argued root M ks wd B (j + 1) (((wr.setCell ⟨B, 0, none⟩ (.int .i64 u)).setCell ⟨B, 1, none⟩ (.int .i64 v)).alloc o).drew := by
  subst hu hv
  exact argued_next h hc hy
theorem if_max (a b : Int) : (if a < b then b else a) = max a b := by rw [Int.max_def]; split <;> split <;> omega
theorem if_min (a : Int) : (if 201 < a then 201 else a) = min a 201 := by rw [Int.min_def]; split <;> split <;> omega
theorem if_min2 (a : Int) : (if 21 < a then 21 else a) = min a 21 := by rw [Int.min_def]; split <;> split <;> omega
theorem argued_start (root : Nat → Nat) (M : List (Nat × Nat)) (ks : List Nat) (w : World) (T : TypeId) : Argued root M ks (w.alloc (.cells #[.int .i64 1, .int .i64 1] T)) w.heap.size 0 (w.alloc (.cells #[.int .i64 1, .int .i64 1] T)) :=
  ⟨FrX.refl _, by simp, World.cell?_alloc_at _ _ _ _ rfl, World.cell?_alloc_at _ _ _ _ rfl, fun m => by simp⟩
def MeasO (G : List Nd) (root : Nat → Nat) (E : List (Nat × Nat)) (w : World) (e : Ending) (w' : World) : Prop :=
  ∃ (z : Value) (ok : Bool), e = .returned (.tuple #[z, .bool ok]) ∧ Ext w w' ∧ (ok = false → ∀ f, ¬ ∀ p ∈ E, ndv f G p.1 = ndv f G p.2) ∧
    (ok = true → ∃ (g : Nat) (M : List (Nat × Nat)) (done : List Nat), z = .slice (some ⟨g, 0, none⟩) G.length G.length ∧ MInv G root M done 0 ∧ w'.ownsRow w.heap.size 151 2 z G.length (mcells M))
def Measuring (G : List Nd) (root : Nat → Nat) (w w1 : World) (g : Nat) (M : List (Nat × Nat)) (done : List Nat) (left : Nat) (wr : World) : Prop :=
  MInv G root M done left ∧ wr.ownsRow w.heap.size 151 2 (.slice (some ⟨g, 0, none⟩) G.length G.length) G.length (mcells M) ∧ FrX (fun b => b = g) w1 wr
def Scanned (G : List Nd) (root : Nat → Nat) (done : List Nat) (left before i : Nat) : Prop := left ≤ before ∧ (left = before → ∀ j, j < i → root j ∈ done ∨ ∃ k ∈ kd G root (root j), root k ∉ done)
set_option maxHeartbeats 8000000 in
set_option maxRecDepth 100000 in
theorem measured_at {lo p : Nat} {Y : Nat → Prop} {zL zC : Value} {G : List Nd} {cls : List Nat} {E : List (Nat × Nat)} {w : World} (h : RG lo Y w p zL zC G cls) (hm : Mid G (clsR cls) [] E) (hok : Ok G) (rl : Roots G (clsR cls)) :
    Calls Tryz.prog 165 #[.pointer (some ⟨p, 0, none⟩)] w (MeasO G (clsR cls) E w) := by
  obtain ⟨⟨zA, ca, rfl, _⟩, zB, cb, rfl, _⟩ := h.slices
  obtain ⟨i1, hi1, hy0, hy1, hy2⟩ := info_parts meas_info
  have hsm := h.small
  have c0 := h.hl
  have hpl := h.lt
  have HG := Lib.hid (h.out (Y' := fun b => Y b ∨ w.heap.size ≤ b) (fun b hb e => by rcases e with e | e; exact e; omega))
  have HM := Lib.hid hm
  have HOK := Lib.hid hok
  have HRL := Lib.hid rl
  clear h hm hok rl
  go_enter Tryz.func165, Tryz.ntmps165
  go_wp2_with (at_make; refine wpList_make_full _ rfl _ _ 145 rfl w.heap.size 151 i1 _ 2 Tryz.underlying145 hi1 hy0 hy1 _ _ _ _ G.length rfl rfl rfl rfl (by rw [hy2]; omega) (by unfold maxLen; omega) (Nat.le_refl _) ?_; intro w1 hown1 hg1; have c1 := (fr_cell hg1 (p := ⟨p, 0, none⟩) hpl (by simp)).trans c0)
  have hb1 : Ext w w1 := ⟨hg1.os, hg1.tape, hg1.output, hg1.size, fun k hk => hg1.block k hk (by simp)⟩
  rw [made_meas] at hown1
  have HG1 := Lib.hid (HG.out.ext hb1)
  have HB1 := Lib.hid hb1
  have HO1 := Lib.hid hown1
  have hgl : w.heap.size < w1.heap.size := own_block_lt hown1
  have c2 := HG1.out.hc
  clear hown1 hg1 hb1
  go_loopw [5, 6] (fun s5 s6 wr => ∃ i : Nat, i ≤ G.length ∧ s5 = .int .i64 (countR (clsR cls) i : Nat) ∧ s6 = .int .i64 (i : Nat) ∧ w1 = wr) (fun _ s6 _ => G.length - (intOf s6).toNat)
  case atStart => exact ⟨0, Nat.zero_le _, rfl, rfl, rfl⟩
  case round =>
    obtain ⟨i, hi, rfl, rfl, rfl⟩ := hrel
    have hcl := countR_le (clsR cls) i
    have hcn := countR_next (clsR cls) i
    by_cases hlt : i < G.length
    · obtain ⟨q, k1, q2, k2, e1, e2, _⟩ := HG1.out.form (by omega)
      injection e1 with e1 _ e1'
      injection e2 with e2 _ e2'
      subst e1 e1' e2 e2'
      have d4 := HG1.out.class hlt
      by_cases he : clsR cls i = i
      · have he' : (((clsR cls i : Nat) : Int) == (i : Int)) = true := by simp [he]
        rw [if_pos he] at hcn
        clear he
        have HCN := Lib.hid hcn
        clear hcn
        generalize countR (clsR cls) i = ci at *
        generalize clsR cls i = ri at *
        go_wp2_with fail
        go_roundw
        case rel => exact ⟨i + 1, by omega, by rw [HCN.out]; go_num, by go_num, trivial⟩
        case measure => simp [intOf]; omega
      · have he' : (((clsR cls i : Nat) : Int) == (i : Int)) = false := by simp; omega
        rw [if_neg he] at hcn
        clear he
        have HCN := Lib.hid hcn
        clear hcn
        generalize countR (clsR cls) i = ci at *
        generalize clsR cls i = ri at *
        go_wp2_with fail
        go_roundw
        case rel => exact ⟨i + 1, by omega, by rw [HCN.out]; rfl, by go_num, trivial⟩
        case measure => simp [intOf]; omega
    · obtain rfl : i = G.length := by omega
      have HS0 := Lib.hid (show Measuring G (clsR cls) w w1 w.heap.size (List.replicate G.length (0, 0)) [] (countR (clsR cls) G.length) w1 from ⟨MInv.start G (clsR cls), HO1.out, FrX.refl _⟩)
      clear hcn
      generalize countR (clsR cls) G.length = left0 at *
      have hl0 : left0 ≤ G.length := by have := countR_le (clsR cls) G.length; omega
      go_wp2_with fail
      go_loopw [5] (fun s5 wr => ∃ (left : Nat) (M : List (Nat × Nat)) (done : List Nat), left ≤ G.length ∧ s5 = .int .i64 (left : Nat) ∧ Hid (Measuring G (clsR cls) w w1 w.heap.size M done left wr)) (fun s5 _ => (intOf s5).toNat)
      case atStart => exact ⟨left0, _, _, hl0, rfl, HS0⟩
      case round =>
        clear HS0
        obtain ⟨left, M, done, hleft, rfl, HS⟩ := hrel
        by_cases hpos : 0 < left
        · have g0 : decide ((0 : Int) < (left : Int)) = true := by simp; omega
          have HC0 := Lib.hid (And.intro HS.out (show Scanned G (clsR cls) done left left 0 from ⟨Nat.le_refl _, fun _ j hj => by omega⟩))
          have HPOS := Lib.hid hpos
          clear HS g0
          go_wp2_with fail
          rename World => wb
          go_loopw [5, 8] (fun s5 s8 wr => ∃ (left2 : Nat) (M : List (Nat × Nat)) (done : List Nat) (i : Nat), i ≤ G.length ∧ s5 = .int .i64 (left2 : Nat) ∧ s8 = .int .i64 (i : Nat) ∧ Hid (Measuring G (clsR cls) w w1 w.heap.size M done left2 wr ∧ Scanned G (clsR cls) done left2 left i)) (fun _ s8 _ => G.length - (intOf s8).toNat)
          case atStart => exact ⟨left, _, _, 0, Nat.zero_le _, rfl, rfl, HC0⟩
          case round =>
            clear HC0
            obtain ⟨left2, M, done, i, hi, rfl, rfl, HS⟩ := hrel
            have hb2 : left2 ≤ left := HS.out.2.1
            have HGR := Lib.hid (HG1.out.fr HS.out.1.2.2 fun b hb e => ⟨fun e2 => by have h1 := (HG.out.ownlt e2).2; omega, .inr (by omega)⟩)
            have c1 := HGR.out.hl
            have c2 := HGR.out.hc
            by_cases hlt : i < G.length
            · obtain ⟨q, k1, q2, k2, e1, e2, _⟩ := HG1.out.form (by omega)
              injection e1 with e1 _ e1'
              injection e2 with e2 _ e2'
              subst e1 e1' e2 e2'
              have d4 := HGR.out.class hlt
              obtain ⟨c, hc⟩ : ∃ c, c = clsR cls i := ⟨_, rfl⟩
              have hcr : c < G.length ∧ clsR cls c = c := by rw [hc]; exact HRL.out i hlt
              have m4 := mrow_cells HS.out.1.2.1 HS.out.1.1.len hcr.1
              obtain ⟨m4a, m4b⟩ := m4
              have hms := HS.out.1.1.small c
              have hmp := HS.out.1.1.pos (c := c)
              have HC := Lib.hid hc
              rw [← hc] at d4
              obtain ⟨sz, hsz⟩ : ∃ s, s = (mget M c).1 := ⟨_, rfl⟩
              rw [← hsz] at m4a hms hmp
              clear hc hsz
              by_cases hd : c ∈ done
              · have g1 : 0 < sz := hmp.2 hd
                have HE := Lib.hid (show Measuring G (clsR cls) w w1 w.heap.size M done left2 wr ∧ Scanned G (clsR cls) done left2 left (i + 1) from ⟨HS.out.1, hb2, fun e j hj => by
                  by_cases e2 : j = i
                  · rw [e2, ← HC.out]; exact .inl hd
                  · exact HS.out.2.2 e j (by omega)⟩)
                clear hd hmp HS
                go_wp2_with fail
                go_roundw
                case rel => exact ⟨left2, M, done, i + 1, by omega, rfl, by go_num, HE⟩
                case measure => simp [intOf]; omega
              · have g1 : ¬ 0 < sz := fun h => hd (hmp.1 h)
                have HD := Lib.hid hd
                have HQ := Lib.hid (shape_at (c := c) HGR.out)
                clear hd hmp
                go_wp2_with (go_at_call 166; refine (HQ.out).mono ?_; rintro e w3 ⟨rfl, rfl⟩)
                rcases shapeI_cases G (clsR cls) c with ⟨s1, e1⟩ | ⟨m, s1, e1⟩
                · have hks : kd G (clsR cls) c = [] := by
                    have h1 := topC_spec (G := G) (root := clsR cls) hcr.1 hcr.2
                    exact (HOK.out _ h1.1).var (h1.2.2 s1).1
                  have HKS := Lib.hid hks
                  rw [e1]
                  have HNX := Lib.hid (HS.out.1.1.next hcr.1 hcr.2 HD.out (by rw [hks]; intro k hk; cases hk))
                  have HMR := Lib.hid (own_below HS.out.1.2.1 (below1 wr (.cells #[.int .i64 1, .int .i64 1] 151)))
                  have hmi := mrow_set HMR.out HS.out.1.1.len hcr.1 (calcS (clsR cls) M (kd G (clsR cls) c))
                  have hxx : calcS (clsR cls) M (kd G (clsR cls) c) = (1, 1) := by rw [hks]; rfl
                  rw [hxx] at HNX hmi
                  have HMI := Lib.hid hmi
                  have HFX := Lib.hid (show FrX (fun b => b = w.heap.size) w1 (wr.alloc (.cells #[.int .i64 1, .int .i64 1] 151)) from HS.out.1.2.2.alloc _)
                  obtain ⟨z1, z2⟩ := mrow_cells HMR.out HS.out.1.1.len hcr.1
                  have fz := World.ownsRow.frozenAt HMR.out (c * 2)
                  have fz' := World.ownsRow.frozenAt HMR.out (c * 2 + 1)
                  have h0l := HNX.out.2
                  have HE := Lib.hid (show Measuring G (clsR cls) w w1 w.heap.size (M.set c (1, 1)) (done ++ [c]) (left2 - 1) (((wr.alloc (.cells #[.int .i64 1, .int .i64 1] 151)).setCell ⟨w.heap.size, c * 2, none⟩ (.int .i64 1)).setCell ⟨w.heap.size, c * 2 + 1, none⟩ (.int .i64 1)) ∧ Scanned G (clsR cls) (done ++ [c]) (left2 - 1) left (i + 1) from
                    ⟨⟨HNX.out.1, HMI.out, (HFX.out.set (p := ⟨w.heap.size, c * 2, none⟩) (fun _ => rfl) _).set (p := ⟨w.heap.size, c * 2 + 1, none⟩) (fun _ => rfl) _⟩, by omega, fun e => by omega⟩)
                  clear hmi hxx hks HNX HMI HFX HS s1 e1 HQ
                  go_wp2_with fail
                  rename World => wc
                  go_loopw [12, 13] (fun s12 s13 wr => ∃ j : Nat, j ≤ 0 ∧ s12 = .bool true ∧ s13 = .int .i64 (j : Nat) ∧ Hid (wr = wc.alloc (.cells #[.int .i64 1, .int .i64 1] 151))) (fun _ s13 _ => 0 - (intOf s13).toNat)
                  case atStart => exact ⟨0, Nat.le_refl _, rfl, rfl, Lib.hid rfl⟩
                  case round =>
                    obtain ⟨j, hj, rfl, rfl, HW⟩ := hrel
                    obtain rfl : j = 0 := by omega
                    obtain rfl := HW.out
                    go_wp2_with fail
                    go_roundw
                    case rel => exact ⟨left2 - 1, _, _, i + 1, by omega, by congr 1; omega, by go_num, HE⟩
                    case measure => simp [intOf]; omega
                · have hks : kd G (clsR cls) c = (nd G m).kids := by unfold kd; rw [topC_shape s1]
                  have hml := (shapeOf_some s1).1
                  have HKS := Lib.hid hks
                  rw [e1]
                  have gm : ¬ ((m : Int) < 0) := by omega
                  have gm0 : (0 : Int) ≤ (m : Int) := by omega
                  have HA0 := Lib.hid (argued_start (clsR cls) M (nd G m).kids wr 151)
                  have HS1 := Lib.hid HS.out
                  have hkl : (nd G m).kids.length ≤ 1000000 := (HGR.out.fine m hml).kids
                  have d3 := (HGR.out.cells hml).2.2.2
                  have c1x := al1 c1
                  have d3x := al1 d3
                  clear hks s1 e1 HS HQ
                  go_wp2_with fail
                  rename World => wc
                  go_loopw [12, 13] (fun s12 s13 wr => ∃ (j : Nat), j ≤ (nd G m).kids.length ∧ s12 = .bool (flagS (clsR cls) done (nd G m).kids j) ∧ s13 = .int .i64 (j : Nat) ∧ Hid (Argued (clsR cls) M (nd G m).kids (wc.alloc (.cells #[.int .i64 1, .int .i64 1] 151)) wc.heap.size j wr)) (fun _ s13 _ => (nd G m).kids.length - (intOf s13).toNat)
                  case atStart => exact ⟨0, Nat.zero_le _, rfl, rfl, HA0⟩
                  case round =>
                    clear HA0 c1 c1x d3 d3x c2 d4
                    obtain ⟨j, hj, rfl, rfl, HA⟩ := hrel
                    have hwc : w1.heap.size ≤ wc.heap.size := HS1.out.1.2.2.size
                    have HGD := Lib.hid ((HGR.out.alloc (.cells #[.int .i64 1, .int .i64 1] 151)).fr HA.out.1 fun b hb e => ⟨fun e2 => by have h1 := (HG.out.ownlt e2).2; omega, .inr (by omega)⟩)
                    have HMR := Lib.hid (HA.out.1.row (own_below HS1.out.1.2.1 (below1 wc (.cells #[.int .i64 1, .int .i64 1] 151))) fun b e => by
                      have e' : w.heap.size = b := by simpa [Value.ownBlock] using e
                      omega)
                    have c1 := HGD.out.hl
                    have c2 := HGD.out.hc
                    have d3 := (HGD.out.cells hml).2.2.2
                    have x1 := HA.out.2.2.1
                    have x2 := HA.out.2.2.2.1
                    by_cases hjl : j < (nd G m).kids.length
                    · obtain ⟨bk, ek, a1, a2, a3, a4⟩ := (HGD.out.kids m hml).cells (by omega)
                      have r1 := a4 j hjl
                      rw [ek] at d3
                      have hFN := Lib.hid (flag_next (root := clsR cls) (done := done) hjl)
                      have hCN := Lib.hid (calc_next (root := clsR cls) (M := M) hjl)
                      have hkl1 : (nd G m).kids.getD j 0 < G.length := (HOK.out m hml).mem (nat_getD_mem hjl)
                      have hacc := calc_bounds (clsR cls) M ((nd G m).kids.take j) (1, 1) (by decide) (by decide) (by decide)
                      obtain ⟨kj, hkj⟩ : ∃ k, k = (nd G m).kids.getD j 0 := ⟨_, rfl⟩
                      rw [← hkj] at r1 hkl1
                      have hFN := Lib.hid (show flagS (clsR cls) done (nd G m).kids (j + 1) = (flagS (clsR cls) done (nd G m).kids j && decide (clsR cls kj ∈ done)) from by rw [hFN.out, hkj])
                      have hCN := Lib.hid (show ((nd G m).kids.take (j + 1)).foldl (calcStep (clsR cls) M) (1, 1) = calcStep (clsR cls) M (((nd G m).kids.take j).foldl (calcStep (clsR cls) M) (1, 1)) kj from by rw [hCN.out, hkj])
                      have d4 := HGD.out.class hkl1
                      obtain ⟨rk, hrk⟩ : ∃ r, r = clsR cls kj := ⟨_, rfl⟩
                      have hrl : rk < G.length := by rw [hrk]; exact (HRL.out kj hkl1).1
                      obtain ⟨y1, y2⟩ := mrow_cells HMR.out HS1.out.1.1.len hrl
                      have hys := HS1.out.1.1.small rk
                      have hyp := HS1.out.1.1.pos (c := rk)
                      rw [← hrk] at d4
                      have HRK := Lib.hid hrk
                      clear hkj hrk a1 a2 a3 a4 ek
                      obtain ⟨acc, hac⟩ : ∃ a, a = ((nd G m).kids.take j).foldl (calcStep (clsR cls) M) (1, 1) := ⟨_, rfl⟩
                      rw [← hac] at x1 x2 hacc hCN
                      obtain ⟨yy, hyy⟩ : ∃ y, y = mget M rk := ⟨_, rfl⟩
                      rw [← hyy] at y1 y2 hys hyp
                      have HYY := Lib.hid hyy
                      clear hac hyy
                      obtain ⟨xa, xb⟩ := acc
                      obtain ⟨ya, yb⟩ := yy
                      simp only at x1 x2 y1 y2 hacc hys hyp
                      have f0 := HA.out.2.2.2.2 0
                      have f1 := HA.out.2.2.2.2 1
                      have hBl := HA.out.2.1
                      obtain ⟨fl, hfl⟩ : ∃ f, f = flagS (clsR cls) done (nd G m).kids j := ⟨_, rfl⟩
                      rw [← hfl] at hFN ⊢
                      have c1x := al1 c1
                      have c2x := al1 c2
                      have d3x := al1 d3
                      have d4x := al1 d4
                      have r1x := al1 r1
                      have y1x := al1 y1
                      have y2x := al1 y2
                      have x1x := al1 x1
                      have x2x := al1 x2
                      have HE := Lib.hid (fun o u v hu hv => argued_any (o := o) (u := u) (v := v) (ya := ya) (yb := yb) HA.out hCN.out (by rw [← HRK.out]; exact HYY.out.symm) hu hv)
                      clear hfl HA HYY
                      cases fl with
                      | true =>
                        go_wp2_with fail
                        go_region
                        go_wp2_with fail
                        go_roundw
                        case rel => exact ⟨j + 1, by omega, by rw [hFN.out, ← HRK.out, Bool.true_and], by go_num, Lib.hid (HE.out _ _ _ (by first | rfl | rw [if_min]) (by first | rfl | rw [if_max, if_min2]))⟩
                        case measure => simp [intOf]; omega
                      | false =>
                        go_wp2_with fail
                        go_region
                        go_wp2_with fail
                        go_roundw
                        case rel => exact ⟨j + 1, by omega, by rw [hFN.out, Bool.false_and], by go_num, Lib.hid (HE.out _ _ _ (by first | rfl | rw [if_min]) (by first | rfl | rw [if_max, if_min2]))⟩
                        case measure => simp [intOf]; omega
                    · obtain rfl : j = (nd G m).kids.length := by omega
                      rw [List.take_length] at x1 x2
                      have hfa := flag_all (root := clsR cls) (done := done) (ks := (nd G m).kids)
                      obtain ⟨fl, hfl⟩ : ∃ f, f = flagS (clsR cls) done (nd G m).kids (nd G m).kids.length := ⟨_, rfl⟩
                      rw [← hfl] at hfa ⊢
                      clear hfl
                      cases fl with
                      | true =>
                        have hall := hfa.1 rfl
                        have HNX := Lib.hid (HS1.out.1.1.next hcr.1 hcr.2 HD.out (by rw [HKS.out]; exact hall))
                        have hmi := mrow_set HMR.out HS1.out.1.1.len hcr.1 (calcS (clsR cls) M (kd G (clsR cls) c))
                        have HMI := Lib.hid hmi
                        have hxx : ((nd G m).kids.foldl (calcStep (clsR cls) M) (1, 1)) = calcS (clsR cls) M (kd G (clsR cls) c) := by rw [HKS.out]; rfl
                        rw [hxx] at x1 x2
                        have HFX := Lib.hid (show FrX (fun b => b = w.heap.size) w1 wr from (HS1.out.1.2.2.alloc _).trans HA.out.1 (fun b hb e => by omega))
                        obtain ⟨z1, z2⟩ := mrow_cells HMR.out HS1.out.1.1.len hcr.1
                        have fz := World.ownsRow.frozenAt HMR.out (c * 2)
                        have fz' := World.ownsRow.frozenAt HMR.out (c * 2 + 1)
                        generalize calcS (clsR cls) M (kd G (clsR cls) c) = X at *
                        obtain ⟨xa, xb⟩ := X
                        simp only at x1 x2
                        have h0l := HNX.out.2
                        have HE := Lib.hid (show Measuring G (clsR cls) w w1 w.heap.size (M.set c (xa, xb)) (done ++ [c]) (left2 - 1) ((wr.setCell ⟨w.heap.size, c * 2, none⟩ (.int .i64 (xa : Nat))).setCell ⟨w.heap.size, c * 2 + 1, none⟩ (.int .i64 (xb : Nat))) ∧ Scanned G (clsR cls) (done ++ [c]) (left2 - 1) left (i + 1) from
                          ⟨⟨HNX.out.1, HMI.out, (HFX.out.set (p := ⟨w.heap.size, c * 2, none⟩) (fun _ => rfl) _).set (p := ⟨w.heap.size, c * 2 + 1, none⟩) (fun _ => rfl) _⟩, by omega, fun e => by omega⟩)
                        clear hmi hall hfa HA hxx HNX HMI HFX
                        go_wp2_with fail
                        go_roundw
                        case rel => exact ⟨left2 - 1, _, _, i + 1, by omega, by congr 1; omega, by go_num, HE⟩
                        case measure => simp [intOf]; omega
                      | false =>
                        have hx : ∃ k ∈ kd G (clsR cls) c, clsR cls k ∉ done := by
                          apply Classical.byContradiction
                          intro hn
                          have : false = true := hfa.2 fun k hk => by
                            apply Classical.byContradiction
                            intro h
                            exact hn ⟨k, by rw [HKS.out]; exact hk, h⟩
                          cases this
                        have HE := Lib.hid (show Measuring G (clsR cls) w w1 w.heap.size M done left2 wr ∧ Scanned G (clsR cls) done left2 left (i + 1) from ⟨⟨HS1.out.1.1, HMR.out, (HS1.out.1.2.2.alloc _).trans HA.out.1 (fun b hb e => by omega)⟩, hb2, fun e j hj => by
                          by_cases e2 : j = i
                          · rw [e2, ← HC.out]; exact .inr hx
                          · exact HS1.out.2.2 e j (by omega)⟩)
                        clear hx hfa HA
                        go_wp2_with fail
                        go_roundw
                        case rel => exact ⟨left2, M, done, i + 1, by omega, rfl, by go_num, HE⟩
                        case measure => simp [intOf]; omega
            · obtain rfl : i = G.length := by omega
              by_cases hbe : left2 = left
              · subst hbe
                have HE := Lib.hid (show MeasO G (clsR cls) E w (.returned (.tuple #[.slice none 0 0, .bool false])) wr from ⟨_, false, rfl, HS.out.1.2.2.ext HB1.out (fun b e => by omega), fun _ => HS.out.1.1.circle HPOS.out HM.out HRL.out HOK.out (HS.out.2.2 rfl), fun h => by cases h⟩)
                clear HS
                go_wp2_with fail
                go_ret2
                exact HE.out
              · have g2 : ((left2 : Int) == (left : Int)) = false := by simp; omega
                have HE := Lib.hid HS.out.1
                have hlt2 : left2 < left := by omega
                clear hbe HS
                go_wp2_with fail
                go_roundw
                case rel => exact ⟨left2, M, done, by omega, rfl, HE⟩
                case measure => simp [intOf]; omega
        · obtain rfl : left = 0 := by omega
          have HE := Lib.hid (show MeasO G (clsR cls) E w (.returned (.tuple #[.slice (some ⟨w.heap.size, 0, none⟩) G.length G.length, .bool true])) wr from ⟨_, true, rfl, HS.out.2.2.ext HB1.out (fun b e => by omega), fun h => (by cases h), fun _ => ⟨w.heap.size, M, done, rfl, HS.out.1, HS.out.2.1⟩⟩)
          clear HS
          go_wp2_with fail
          go_ret2
          exact HE.out
end Go.Proofs.YtgpglgehlnfggaaGreat
namespace Go.Proofs.YtgpglgehlnfggaaGreat
open Go.RowKit
def RSolving (la lb : List Tm) (p : Nat) (w : World) (j : Nat) (wr : World) : Prop :=
  ∃ (zL zC : Value) (G : List Nd) (cls : List Nat) (E : List (Nat × Nat)), RG w.heap.size No wr p zL zC G cls ∧ Ext w wr ∧ Ok G ∧ VarU G ∧ Roots G (clsR cls) ∧ Mid G (clsR cls) [] E ∧ (∀ f, Unif ((la.zip lb).take j) f ↔ ∀ p ∈ E, ndv f G p.1 = ndv f G p.2) ∧ G.length ≤ nodesL (la.take j) + nodesL (lb.take j)
theorem rsolving_start (la lb : List Tm) (w : World) (T : TypeId) : RSolving la lb w.heap.size w 0 (w.alloc (.cells #[.slice none 0 0, .slice none 0 0] T)) := by
  refine ⟨.slice none 0 0, .slice none 0 0, [], [], [], ⟨World.cell?_alloc_at _ _ _ _ rfl, World.cell?_alloc_at _ _ _ _ rfl, World.ownsRow_nil _ _ _ _, World.ownsRow_nil _ _ _ _, fun i hi => by simp at hi, by simp [Value.ownBlock], by simp [Value.ownBlock], fun b e => by simp [Value.ownBlock] at e, Nat.le_refl _, fun j => World.frozen?_alloc_at _ _ _ _ rfl, fun i hi => by simp at hi, rfl, by simp⟩, Ext.al _ _, fun i hi => by simp at hi, fun i j hi => by simp at hi, fun j hj => by simp at hj, mid_nil, fun f => by simp [Unif], by simp⟩
theorem roots_more {G N : List Nd} {cls : List Nat} (h : Roots G (clsR cls)) (hl : cls.length = G.length) : Roots (G ++ N) (clsR cls) := fun j hj => by
  by_cases h1 : j < G.length
  · have := h j h1
    exact ⟨by rw [List.length_append]; omega, this.2⟩
  · rw [clsR_out (by omega)]
    exact ⟨hj, clsR_out (by omega)⟩
theorem mid_more {G N : List Nd} {cls : List Nat} {E : List (Nat × Nat)} (h : Mid G (clsR cls) [] E) (hr : Roots G (clsR cls)) (hl : cls.length = G.length) : Mid (G ++ N) (clsR cls) [] E := by
  have h1 := h.ext (N := N) fun j hj => (hr j hj).1
  rw [← hl, clsR_ext] at h1
  exact h1
def RSolveO (la lb : List Tm) (w : World) (e : Ending) (w' : World) : Prop :=
  ∃ (A : Option Addr) (c : Nat) (l : List Bd) (er : Int), e = .returned (.tuple #[.slice A l.length c, .int .i64 er]) ∧ Out (la.zip lb) (stripB l) er ∧ BLst w' A l c ∧ Ext w w'
theorem rsolve_none {la lb : List Tm} {w w' : World} (h : ∀ f, ¬ Unif (la.zip lb) f) (he : Ext w w') : RSolveO la lb w (.returned (.tuple #[.slice none 0 0, .int .i64 13])) w' := ⟨none, 0, [], 13, rfl, .inl ⟨rfl, rfl, h⟩, BLst.nil _, he⟩
end Go.Proofs.YtgpglgehlnfggaaGreat
namespace Go.Proofs.YtgpglgehlnfggaaGreat
open Go.RowKit
theorem rights_stop {l : List Tm} {k : Nat} (h : k < l.length) (hv : (l.getD k default).right = false) : l.all Tm.right = false := by
  rw [List.all_eq_false]
  refine ⟨l[k], List.getElem_mem h, ?_⟩
  rw [show l.getD k default = l[k] by simp [List.getD, List.getElem?_eq_getElem h]] at hv
  rw [hv]; simp
end Go.Proofs.YtgpglgehlnfggaaGreat
namespace Go.Proofs.YtgpglgehlnfggaaGreat
open Go.RowKit
theorem out_arg {la lb : List Tm} (h : (la.all Tm.right && lb.all Tm.right) = false) : AllOut la lb [] 2 := by unfold AllOut; rw [if_pos h]; exact ⟨rfl, rfl⟩
theorem out_arity {la lb : List Tm} (h : (la.all Tm.right && lb.all Tm.right) = true) (hl : la.length ≠ lb.length) : AllOut la lb [] 9 := by unfold AllOut; rw [if_neg (by rw [h]; simp), if_pos hl]; exact ⟨rfl, rfl⟩
end Go.Proofs.YtgpglgehlnfggaaGreat
namespace Go.Proofs.YtgpglgehlnfggaaGreat
open Go.RowKit
def RAllO (la lb : List Tm) (w : World) (e : Ending) (w' : World) : Prop :=
  ∃ (A : Option Addr) (c : Nat) (l : List Bd) (er : Int), e = .returned (.tuple #[.slice A l.length c, .int .i64 er]) ∧ AllOut la lb (stripB l) er ∧ BLst w' A l c ∧ Ext w w'
theorem rall_nil {la lb : List Tm} {er : Int} {w w' : World} (h : AllOut la lb [] er) (hb : Ext w w') : RAllO la lb w (.returned (.tuple #[.slice none 0 0, .int .i64 er])) w' := ⟨none, 0, [], er, rfl, h, BLst.nil _, hb⟩
theorem rall_some {la lb : List Tm} {w W w' : World} {e : Ending} (h : (la.all Tm.right && lb.all Tm.right) = true) (hl : la.length = lb.length) (hb : Ext w W) (hs : RSolveO la lb W e w') : RAllO la lb w e w' := by
  obtain ⟨A, c, l, er, rfl, h1, h2, h3⟩ := hs
  refine ⟨A, c, l, er, rfl, ?_, h2, hb.trans h3⟩
  unfold AllOut; rw [if_neg (by rw [h]; simp), if_neg (by simp [hl])]; exact h1
set_option maxHeartbeats 4000000 in
set_option maxRecDepth 100000 in
theorem rall_of (la lb : List Tm) (A B : Option Addr) (ca cb : Nat) (w : World) (hA : Lst w A la ca) (hB : Lst w B lb cb) (hsa : ∀ t ∈ la, t.size ≤ 1000000) (hsb : ∀ t ∈ lb, t.size ≤ 1000000)
    (hs : (la.all Tm.right && lb.all Tm.right) = true → la.length = lb.length → ∀ W, Ext w W → Calls Tryz.prog 142 #[.slice A la.length ca, .slice B lb.length cb] W (RSolveO la lb W)) :
    Calls Tryz.prog 106 #[.slice A la.length ca, .slice B lb.length cb] w (RAllO la lb w) := by
  have hla : la.length ≤ maxLen := Nat.le_trans hA.1 hA.2.1
  have hlb : lb.length ≤ maxLen := Nat.le_trans hB.1 hB.2.1
  unfold maxLen at hla hlb
  have HA := Lib.hid hA
  have HB := Lib.hid hB
  have HSA := Lib.hid hsa
  have HSB := Lib.hid hsb
  have HS := Lib.hid hs
  clear hA hB hsa hsb hs
  go_enter Tryz.func106, Tryz.ntmps106
  go_wp2_with fail
  go_loopw [6] (fun i wr => ∃ j : Nat, j ≤ la.length ∧ i = .int .i64 (j : Nat) ∧ Hid ((la.take j).all Tm.right = true) ∧ Hid (Ext w wr)) (fun i _ => la.length - (intOf i).toNat)
  case atStart => exact ⟨0, Nat.zero_le _, rfl, Lib.hid rfl, Lib.hid (Ext.refl _)⟩
  case round =>
    obtain ⟨j, hj, rfl, HF, HW⟩ := hrel
    by_cases hlt : j < la.length
    · obtain ⟨b, o, rfl, ⟨c0, c1, c2, c3⟩, hx⟩ := (HA.out.below HW.out).get hlt
      have HN := Lib.hid (rights_next hlt)
      rw [HF.out, Bool.true_and] at HN
      have HST := Lib.hid (rights_stop hlt)
      have HX := Lib.hid (HSA.out _ (getD_mem hlt))
      generalize la.getD j default = x at *
      have Q := Lib.hid (ref_right_tm_at x wr hx HX.out rfl)
      clear hx
      generalize x.right = N at *
      obtain ⟨k', n', s', A', c', a'⟩ := x
      simp only [Tm.kind, Tm.num, Tm.name, Tm.at_, Tm.args, Tm.cap] at c0 c1 c2 c3
      cases N with
      | true =>
        go_wp2_with fail
        refine (Q.out).mono ?_
        rintro e w2 ⟨rfl, hb3⟩
        have HW2 := Lib.hid (HW.out.trans hb3)
        clear hb3
        go_wp2_with fail
        go_roundw
        case rel => exact ⟨j + 1, by omega, by go_num, HN, HW2⟩
        case measure => simp [intOf]; omega
      | false =>
        have HE := Lib.hid (fun w' (hb : Ext w w') => rall_nil (w := w) (out_arg (la := la) (lb := lb) (by rw [HST.out rfl]; rfl)) hb)
        go_wp2_with fail
        refine (Q.out).mono ?_
        rintro e w2 ⟨rfl, hb3⟩
        have HW2 := Lib.hid (HW.out.trans hb3)
        clear hb3
        go_wp2_with fail
        go_ret2
        exact HE.out _ HW2.out
    · obtain rfl : j = la.length := by omega
      have HRA := Lib.hid (show la.all Tm.right = true by have := HF.out; rwa [List.take_length] at this)
      clear HF
      rename World => wq
      have HWQ := Lib.hid HW.out
      clear HW
      go_wp2_with fail
      go_loopw [7] (fun i wr => ∃ j : Nat, j ≤ lb.length ∧ i = .int .i64 (j : Nat) ∧ Hid ((lb.take j).all Tm.right = true) ∧ Hid (Ext w wr)) (fun i _ => lb.length - (intOf i).toNat)
      case atStart => exact ⟨0, Nat.zero_le _, rfl, Lib.hid rfl, HWQ⟩
      case round =>
        obtain ⟨j, hj, rfl, HF, HW⟩ := hrel
        by_cases hlt : j < lb.length
        · obtain ⟨b, o, rfl, ⟨c0, c1, c2, c3⟩, hx⟩ := (HB.out.below HW.out).get hlt
          have HN := Lib.hid (rights_next hlt)
          rw [HF.out, Bool.true_and] at HN
          have HST := Lib.hid (rights_stop hlt)
          have HX := Lib.hid (HSB.out _ (getD_mem hlt))
          generalize lb.getD j default = x at *
          have Q := Lib.hid (ref_right_tm_at x wr hx HX.out rfl)
          clear hx
          generalize x.right = N at *
          obtain ⟨k', n', s', A', c', a'⟩ := x
          simp only [Tm.kind, Tm.num, Tm.name, Tm.at_, Tm.args, Tm.cap] at c0 c1 c2 c3
          cases N with
          | true =>
            go_wp2_with fail
            refine (Q.out).mono ?_
            rintro e w2 ⟨rfl, hb3⟩
            have HW2 := Lib.hid (HW.out.trans hb3)
            clear hb3
            go_wp2_with fail
            go_roundw
            case rel => exact ⟨j + 1, by omega, by go_num, HN, HW2⟩
            case measure => simp [intOf]; omega
          | false =>
            have HE := Lib.hid (fun w' (hb : Ext w w') => rall_nil (w := w) (out_arg (la := la) (lb := lb) (by rw [HST.out rfl, Bool.and_false])) hb)
            go_wp2_with fail
            refine (Q.out).mono ?_
            rintro e w2 ⟨rfl, hb3⟩
            have HW2 := Lib.hid (HW.out.trans hb3)
            clear hb3
            go_wp2_with fail
            go_ret2
            exact HE.out _ HW2.out
        · obtain rfl : j = lb.length := by omega
          have HR := Lib.hid (show (la.all Tm.right && lb.all Tm.right) = true by have := HF.out; rw [List.take_length] at this; rw [HRA.out, this]; rfl)
          clear HF HRA
          by_cases hl : la.length = lb.length
          · have d1 : ((la.length : Int) != (lb.length : Int)) = false := by simp [hl]
            have HC := Lib.hid (fun e w' h => rall_some (e := e) (w' := w') HR.out hl HW.out h)
            have QS := Lib.hid (HS.out HR.out hl _ HW.out)
            clear hl
            go_wp2_with (go_at_call 142; (with_reducible refine (QS.out).mono ?_); rintro e w5 ⟨A5, c5, l5, er5, rfl, o5, b5, h5⟩; have H5 := Lib.hid (HC.out _ _ ⟨A5, c5, l5, er5, rfl, o5, b5, h5⟩); clear o5 b5 h5)
            go_ret2
            exact H5.out
          · have d1 : ((la.length : Int) != (lb.length : Int)) = true := by simp; omega
            have HE := Lib.hid (rall_nil (w := w) (out_arity HR.out hl) HW.out)
            clear hl
            go_wp2_with fail
            go_ret2
            exact HE.out
end Go.Proofs.YtgpglgehlnfggaaGreat
namespace Go.Proofs.YtgpglgehlnfggaaGreat
open Go.RowKit
def RSolves : Prop := ∀ (la lb : List Tm) (A B : Option Addr) (ca cb : Nat) (w : World), Lst w A la ca → Lst w B lb cb → la.length = lb.length → (∀ t ∈ la, t.form = true) → (∀ t ∈ lb, t.form = true) → nodesL la + nodesL lb ≤ 1000000 →
    Calls Tryz.prog 142 #[.slice A la.length ca, .slice B lb.length cb] w (RSolveO la lb w)
theorem all_forms {l : List Tm} (h : l.all Tm.right = true) : ∀ t ∈ l, t.form = true := fun t ht => by
  have := List.all_eq_true.1 h t ht
  unfold Tm.right at this
  simp only [Bool.and_eq_true] at this
  exact this.1
theorem rall_at (H : RSolves) (la lb : List Tm) (A B : Option Addr) (ca cb : Nat) (w : World) (hA : Lst w A la ca) (hB : Lst w B lb cb) (hsa : ∀ t ∈ la, t.size ≤ 1000000) (hsb : ∀ t ∈ lb, t.size ≤ 1000000) (hn : (la.all Tm.right && lb.all Tm.right) = true → nodesL la + nodesL lb ≤ 1000000) :
    Calls Tryz.prog 106 #[.slice A la.length ca, .slice B lb.length cb] w (RAllO la lb w) :=
  rall_of la lb A B ca cb w hA hB hsa hsb fun hr hl W hW => by
    have h2 := hr
    rw [Bool.and_eq_true] at h2
    exact H la lb A B ca cb W (hA.below hW) (hB.below hW) hl (all_forms h2.1) (all_forms h2.2) (hn hr)
theorem RAllO.from {la lb : List Tm} {w w1 w' : World} {e : Ending} (h : RAllO la lb w1 e w') (hb : Ext w w1) : RAllO la lb w e w' := by
  obtain ⟨A, c, l, er, h1, h2, h3, h4⟩ := h
  exact ⟨A, c, l, er, h1, h2, h3, hb.trans h4⟩
set_option maxHeartbeats 2000000 in
theorem runify_at (H : RSolves) (t u : Tm) (w : World) (ht : t.At w) (hu : u.At w) (hst : t.size ≤ 1000000) (hsu : u.size ≤ 1000000) : Calls Tryz.prog 70 #[t.val, u.val] w (RAllO [t] [u] w) := by
  have HQ := Lib.hid (fun (W : World) (hb : Ext w W) p q hp hq => (rall_at H [t] [u] (some ⟨p, 0, none⟩) (some ⟨q, 0, none⟩) 1 1 W (one_lst (ht.below hb) hp) (one_lst (hu.below hb) hq) (fun x hx => by rw [List.mem_singleton.1 hx]; exact hst) (fun x hx => by rw [List.mem_singleton.1 hx]; exact hsu) (fun h => two_nodes h)).mono fun e w' h => h.from hb)
  have HB := Lib.hid (fun o0 o1 o2 o3 => show Ext w _ from ((((Below.refl w.heap.size w).alloc (Nat.le_refl _) o0).alloc (by simp) o1).alloc (by simp; omega) o2).alloc (by simp; omega) o3)
  generalize hX : RAllO [t] [u] w = X at *
  have HX := Lib.hid hX
  clear ht hu hX hst hsu H
  obtain ⟨k, n, s, A, c, a⟩ := t
  obtain ⟨k2, n2, s2, A2, c2, a2⟩ := u
  show Calls Tryz.prog 70 #[.agg #[.int .i64 k, .int .i64 n, .string s, .slice A a.length c], .agg #[.int .i64 k2, .int .i64 n2, .string s2, .slice A2 a2.length c2]] w X
  go_enter Tryz.func70, Tryz.ntmps70
  go_wp2_with (first
    | (go_at_call 106; refine (HQ.out _ (HB.out _ _ _ _) _ _ ⟨cell4 0, cell4 1, cell4 2, cell4 3⟩ ⟨cell5 0, cell5 1, cell5 2, cell5 3⟩).mono ?_; rintro e w5 hR; rw [← HX.out] at hR; obtain ⟨A5, c5, l, er, rfl, r1, r2, r3⟩ := hR; have H1 := Lib.hid (show RAllO _ _ _ _ _ from ⟨A5, c5, l, er, rfl, r1, r2, r3⟩); clear r1 r2 r3))
  rw [← HX.out]
  exact H1.out
theorem can_out {t u : Tm} {m : List Bd} {e : Int} (h : AllOut [t] [u] m e) : CanR t u (decide (e = 0 ∨ e = 6)) := by
  unfold AllOut at h
  unfold CanR
  split at h
  · rename_i hr
    obtain ⟨_, rfl⟩ := h
    simp only [List.all_cons, List.all_nil, Bool.and_true] at hr
    refine ⟨fun h => by simp at h, fun h => ?_⟩
    rw [h.1, h.2.1] at hr
    cases hr
  · rename_i hr
    rw [if_neg (by simp)] at h
    have hr2 : t.right = true ∧ u.right = true := by simpa using hr
    rcases h with ⟨_, rfl, hn⟩ | ⟨s, hs, h1⟩
    · refine ⟨fun h => by simp at h, fun h => ?_⟩
      obtain ⟨_, _, f, hf⟩ := h
      exact absurd (Unif.one.2 hf) (hn f)
    · have he : e = 0 ∨ e = 6 := by rcases h1 with ⟨_, _, h⟩ | ⟨_, _, h⟩; exact .inl h; exact .inr h
      exact ⟨fun _ => ⟨hr2.1, hr2.2, _, Unif.one.1 hs.unif⟩, fun _ => decide_eq_true he⟩
set_option maxHeartbeats 2000000 in
theorem runifiable_at (H : RSolves) (t u : Tm) (w : World) (ht : t.At w) (hu : u.At w) (hst : t.size ≤ 1000000) (hsu : u.size ≤ 1000000) : Calls Tryz.prog 39 #[t.val, u.val] w fun e w' => ∃ r, e = .returned (.bool r) ∧ CanR t u r ∧ Ext w w' := by
  have HQ := Lib.hid (fun (W : World) (hb : Ext w W) => (runify_at H t u W (ht.below hb) (hu.below hb) hst hsu).mono fun e w' h => h.from hb)
  have HC := Lib.hid (fun m e (h : AllOut [t] [u] m e) => can_out h)
  have HB := Lib.hid (fun o0 o1 => show Ext w _ from ((Below.refl w.heap.size w).alloc (Nat.le_refl _) o0).alloc (by simp) o1)
  generalize CanR t u = X at *
  generalize hY : AllOut [t] [u] = Y at *
  have HQ2 := Lib.hid (fun (W : World) (hb : Ext w W) => (HQ.out W hb).mono fun e w' h => (show ∃ (A : Option Addr) (c : Nat) (l : List Bd) (er : Int), e = .returned (.tuple #[.slice A l.length c, .int .i64 er]) ∧ Y (stripB l) er ∧ Ext w w' from by
    obtain ⟨A, c, l, er, h1, h2, _, h4⟩ := h
    exact ⟨A, c, l, er, h1, by rw [← hY]; exact h2, h4⟩))
  clear hY HQ ht hu hst hsu H
  obtain ⟨k, n, s, A, c, a⟩ := t
  obtain ⟨k2, n2, s2, A2, c2, a2⟩ := u
  show Calls Tryz.prog 39 #[.agg #[.int .i64 k, .int .i64 n, .string s, .slice A a.length c], .agg #[.int .i64 k2, .int .i64 n2, .string s2, .slice A2 a2.length c2]] w _
  go_enter Tryz.func39, Tryz.ntmps39
  go_upto_region 2 with (first
    | (go_at_call 70; refine (HQ2.out _ (HB.out _ _)).mono ?_; rintro e w5 ⟨A5, c5, l, er, rfl, r1, r3⟩; have H1 := Lib.hid (HC.out _ _ r1); have H3 := Lib.hid r3; clear r1 r3))
  by_cases h0 : er = 0
  · subst h0
    go_wp2_with fail
    go_ret
    exact .inr ⟨rfl, H1.out, H3.out⟩
  · by_cases h6 : er = 6
    · subst h6
      go_wp2_with fail
      go_ret
      exact .inr ⟨rfl, H1.out, H3.out⟩
    · have e0 : (er == 0) = false := by simpa using h0
      have e6 : (er == 6) = false := by simpa using h6
      have HF := Lib.hid (show X false by have := H1.out; rwa [show decide (er = 0 ∨ er = 6) = false by simp [h0, h6]] at this)
      go_wp2_with fail
      go_ret
      exact ⟨false, rfl, HF.out, H3.out⟩
end Go.Proofs.YtgpglgehlnfggaaGreat
