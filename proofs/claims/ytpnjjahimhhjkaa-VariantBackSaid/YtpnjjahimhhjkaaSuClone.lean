/-
  The cells of a list of terms; a row of the call's own; slices.Clone of the program.
-/
import Derived.Test.YtpnjjahimhhjkaaTmVarAll
import Derived.Test.YtpnjjahimhhjkaaTmBase
import Derived.Maps.AppendAt
import Derived.WalkSpells
import Derived.Lib.SliceRun
import Derived.Laws.Rows
import Derived.Laws.OwnMore
namespace Go.Proofs.Ytpnjjahimhhjkaa
open Go.RowKit

def tcells (l : List Tm) : List Value := l.flatMap Tm.cells
theorem cells_length (t : Tm) : t.cells.length = 4 := rfl
theorem tcells_length (l : List Tm) : (tcells l).length = l.length * 4 := by
  induction l with
  | nil => rfl
  | cons t r ih => simp only [tcells, List.flatMap_cons, List.length_append, cells_length, List.length_cons] at *; omega
theorem tcells_one (l : List Tm) : ∀ u ∈ tcells l, u.oneCell' = true := by
  intro u hu
  obtain ⟨t, _, ht⟩ := List.mem_flatMap.1 hu
  simp only [Tm.cells, List.mem_cons, List.not_mem_nil, or_false] at ht
  rcases ht with rfl | rfl | rfl | rfl <;> rfl
theorem tcells_get (l : List Tm) {i j : Nat} (hi : i < l.length) (hj : j < 4) : (tcells l)[4 * i + j]? = (l.getD i default).cells[j]? := by
  induction l generalizing i with
  | nil => simp at hi
  | cons t r ih =>
    simp only [tcells, List.flatMap_cons]
    cases i with
    | zero =>
      rw [List.getElem?_append_left (by rw [cells_length]; omega)]
      simp
    | succ i =>
      rw [List.getElem?_append_right (by rw [cells_length]; omega), cells_length, show 4 * (i + 1) + j - 4 = 4 * i + j by omega]
      simpa [tcells] using ih (by simpa using hi)
theorem RowAt.cells {w : World} {l : List Tm} {b o : Nat} (h : RowAt w l b o) : ∀ (j : Nat) (u : Value), (tcells l)[j]? = some u → w.cell? ((⟨b, o, none⟩ : Addr).add j) = some u := by
  induction l generalizing o with
  | nil => intro j u hu; simp [tcells] at hu
  | cons t r ih =>
    intro j u hu
    simp only [RowAt] at h
    obtain ⟨⟨h0, h1, h2, h3⟩, _, hr⟩ := h
    rw [add_plain]
    simp only [tcells, List.flatMap_cons] at hu
    by_cases hj : j < 4
    · rw [List.getElem?_append_left (by rw [cells_length]; exact hj)] at hu
      match j, hj with
      | 0, _ => rw [← hu]; exact h0
      | 1, _ => rw [← hu]; exact h1
      | 2, _ => rw [← hu]; exact h2
      | 3, _ => rw [← hu]; exact h3
    · rw [List.getElem?_append_right (by rw [cells_length]; omega), cells_length] at hu
      have := ih hr (j - 4) u hu
      rw [add_plain, show o + 4 + (j - 4) = o + j by omega] at this
      exact this

theorem term_info : (Try.prog.info? 24).map (fun i => (i.zero, i.size, i.bytes)) = some (some (.agg #[.int .i64 0, .int .i64 0, .string ⟨#[]⟩, .slice none 0 0]), 4, 56) := by kernel_rfl

/-- A row of its own: block g holds the terms, and may be written. -/
def Row4 (w : World) (g : Nat) (l : List Tm) : Prop := g < w.heap.size ∧ (∀ j, w.frozen? ⟨g, j, none⟩ = false) ∧ ∀ i j u, i < l.length → (l.getD i default).cells[j]? = some u → w.cell? ⟨g, 4 * i + j, none⟩ = some u
theorem Row4.below {w w' : World} {g : Nat} {l : List Tm} (h : Row4 w g l) (hb : Below w.heap.size w w') : Row4 w' g l := by
  refine ⟨Nat.lt_of_lt_of_le h.1 hb.size, fun j => ?_, fun i j u hi hu => ?_⟩
  · rw [hb.frozen (p := ⟨g, j, none⟩) h.1]; exact h.2.1 j
  · rw [hb.cell (p := ⟨g, 4 * i + j, none⟩) h.1]; exact h.2.2 i j u hi hu
theorem own_block_lt {w : World} {base : Nat} {e : TypeId} {size : Nat} {g n c : Nat} {xs : List Value} (h : w.ownsRow base e size (.slice (some ⟨g, 0, none⟩) n c) n xs) : g < w.heap.size := (World.ownsRow.lt h g rfl).2
theorem Row4.of {w : World} {base g c : Nat} {l : List Tm} (h : w.ownsRow base 24 4 (.slice (some ⟨g, 0, none⟩) l.length c) l.length (tcells l)) : Row4 w g l := by
  refine ⟨own_block_lt h, fun j => World.ownsRow.frozenAt h j, fun i j u hi hu => ?_⟩
  have hj : j < 4 := by
    have := (List.getElem?_eq_some_iff.1 hu).1
    simpa [Tm.cells] using this
  rw [World.ownsRow.cellAt h (4 * i + j) (by omega), tcells_get l hi hj]
  exact hu

/-- What Clone gives back. -/
def Cloned (w : World) (l : List Tm) (e : Ending) (w' : World) : Prop := ∃ A cap, e = .returned (.slice A l.length cap) ∧ l.length ≤ cap ∧ cap ≤ maxLen ∧ (0 < l.length → ∃ g, A = some ⟨g, 0, none⟩ ∧ w.heap.size ≤ g ∧ Row4 w' g l) ∧ Below w.heap.size w w'

set_option maxHeartbeats 1000000 in
theorem clone_at (l : List Tm) (b o c : Nat) (w : World) (h0 : 0 < l.length) (hl : RowAt w l b o) (hsz : l.length ≤ 1000000) :
    Calls Try.prog 72 #[.slice (some ⟨b, o, none⟩) l.length c] w (Cloned w l) := by
  obtain ⟨i0, hi, hz0, hz1, hz2⟩ := info_parts term_info
  have hn := fun (W : World) => Lib.run_eql_slice_nil (P := Try.prog) W 22 24 (some ⟨b, o, none⟩) l.length c 0 0 Try.underlying22
  go_enter Try.func72, Try.ntmps72
  have hl1 : RowAt (w.alloc (.cells #[] 24)) l b o := (At_keep ((Below.refl _ _).alloc (Nat.le_refl _) _)).2 _ _ _ hl
  have HC := Lib.hid hl1.cells
  have HO := Lib.hid (World.ownsRow_lit (base := w.heap.size) (e := 24) (size := 4) w #[] 0 (Nat.le_refl _) (Nat.zero_le _) rfl)
  clear hl hl1
  go_wp2_with (at_builtin; refine wpList_append_own _ rfl _ _ 22 rfl w.heap.size 24 i0 _ 4 56 Try.underlying22 hi hz0 hz1 hz2 rfl (by decide) _ 0 [] rfl HO.out ⟨b, o, none⟩ l.length c (tcells l) rfl (tcells_length l) HC.out (tcells_one l) (by unfold maxLen; omega) (by omega) (by simp) ?_; intro v' w1 hown1 hg1 _)
  have HG := Lib.hid hg1
  have HW := Lib.hid hown1
  clear hg1 hown1
  go_ret
  have hw := HW.out
  simp only [Nat.zero_add, List.nil_append] at hw
  obtain ⟨hlen, hv⟩ := hw
  rcases hv with ⟨_, h⟩ | ⟨g, cap, cur, rfl, hb, hheap, hle, hcap, _, hcur⟩
  · omega
  · refine ⟨_, cap, rfl, hle, hcap, fun _ => ⟨g, rfl, hb, Row4.of (base := w.heap.size) (c := cap) ?_⟩, ?_⟩
    · have hw := HW.out
      simpa only [Nat.zero_add, List.nil_append] using hw
    · exact ((Below.refl _ _).alloc (Nat.le_refl _) _).grown HG.out (by simp) (fun k hk => (World.ownsRow.lt HO.out k hk).1)

set_option maxHeartbeats 1000000 in
theorem clone_none_at (A : Option Addr) (c : Nat) (w : World) :
    Calls Try.prog 72 #[.slice A 0 c] w (Cloned w []) := by
  obtain ⟨i0, hi, hz0, hz1, hz2⟩ := info_parts term_info
  have hn := fun (W : World) => Lib.run_eql_slice_nil (P := Try.prog) W 22 24 A 0 c 0 0 Try.underlying22
  cases A with
  | none =>
    go_enter Try.func72, Try.ntmps72
    go_wp2_with fail
    go_ret
    exact ⟨none, 0, rfl, Nat.le_refl _, Nat.zero_le _, fun h => by simp at h, Below.refl _ _⟩
  | some a =>
    go_enter Try.func72, Try.ntmps72
    have HO := Lib.hid (World.ownsRow_lit (base := w.heap.size) (e := 24) (size := 4) w #[] 0 (Nat.le_refl _) (Nat.zero_le _) rfl)
    go_wp2_with (at_builtin; refine wpList_append_own _ rfl _ _ 22 rfl w.heap.size 24 i0 _ 4 56 Try.underlying22 hi hz0 hz1 hz2 rfl (by decide) _ 0 [] rfl HO.out a 0 c [] rfl rfl (fun _ _ h => by simp at h) (fun _ h => by simp at h) (by unfold maxLen; omega) (by omega) (by simp) ?_; intro v' w1 hown1 hg1 _)
    have HG := Lib.hid hg1
    have HW := Lib.hid hown1
    clear hg1 hown1
    go_ret
    have hb : Below w.heap.size w w1 := ((Below.refl _ _).alloc (Nat.le_refl _) _).grown HG.out (by simp) (fun k hk => (World.ownsRow.lt HO.out k hk).1)
    rcases HW.out.2 with ⟨rfl, _⟩ | ⟨g, cap, cur, rfl, _, _, _, hcap, _, _⟩
    · exact ⟨none, 0, rfl, Nat.le_refl _, Nat.zero_le _, fun h => by simp at h, hb⟩
    · exact ⟨_, cap, rfl, Nat.zero_le _, hcap, fun h => by simp at h, hb⟩
theorem set4 (w : World) (g q : Nat) (v0 v1 v2 v3 : Value) (h0 : ∀ j, j < 4 → (w.cell? ⟨g, q + j, none⟩).isSome = true) :
    ∀ p : Addr, ((((w.setCell ⟨g, q, none⟩ v0).setCell ⟨g, q + 1, none⟩ v1).setCell ⟨g, q + 2, none⟩ v2).setCell ⟨g, q + 3, none⟩ v3).cell? p =
      if p = ⟨g, q, none⟩ then some v0 else if p = ⟨g, q + 1, none⟩ then some v1 else if p = ⟨g, q + 2, none⟩ then some v2 else if p = ⟨g, q + 3, none⟩ then some v3 else w.cell? p := by
  intro p
  have ne : ∀ i j : Nat, i ≠ j → (⟨g, q + i, none⟩ : Addr) ≠ ⟨g, q + j, none⟩ := fun i j h e => by injection e with _ e _; omega
  have n01 : (⟨g, q, none⟩ : Addr) ≠ ⟨g, q + 1, none⟩ := ne 0 1 (by omega)
  have n02 : (⟨g, q, none⟩ : Addr) ≠ ⟨g, q + 2, none⟩ := ne 0 2 (by omega)
  have n03 : (⟨g, q, none⟩ : Addr) ≠ ⟨g, q + 3, none⟩ := ne 0 3 (by omega)
  have n12 := ne 1 2 (by omega)
  have n13 := ne 1 3 (by omega)
  have n23 := ne 2 3 (by omega)
  have s0 := h0 0 (by omega)
  have s1 := h0 1 (by omega)
  have s2 := h0 2 (by omega)
  have s3 := h0 3 (by omega)
  simp only [Nat.add_zero] at s0
  by_cases e0 : p = ⟨g, q, none⟩
  · subst e0
    rw [if_pos rfl, World.cell?_setCell_other _ _ _ _ n03.symm, World.cell?_setCell_other _ _ _ _ n02.symm, World.cell?_setCell_other _ _ _ _ n01.symm, World.cell?_setCell_same' _ _ _ s0]
  rw [if_neg e0]
  by_cases e1 : p = ⟨g, q + 1, none⟩
  · subst e1
    rw [if_pos rfl, World.cell?_setCell_other _ _ _ _ n13.symm, World.cell?_setCell_other _ _ _ _ n12.symm, World.cell?_setCell_same' _ _ _ (by rw [World.cell?_setCell_other _ _ _ _ n01]; exact s1)]
  rw [if_neg e1]
  by_cases e2 : p = ⟨g, q + 2, none⟩
  · subst e2
    rw [if_pos rfl, World.cell?_setCell_other _ _ _ _ n23.symm, World.cell?_setCell_same' _ _ _ (by rw [World.cell?_setCell_other _ _ _ _ n12, World.cell?_setCell_other _ _ _ _ n02]; exact s2)]
  rw [if_neg e2]
  by_cases e3 : p = ⟨g, q + 3, none⟩
  · subst e3
    rw [if_pos rfl, World.cell?_setCell_same' _ _ _ (by rw [World.cell?_setCell_other _ _ _ _ n23, World.cell?_setCell_other _ _ _ _ n13, World.cell?_setCell_other _ _ _ _ n03]; exact s3)]
  rw [if_neg e3, World.cell?_setCell_other _ _ _ _ (Ne.symm e3), World.cell?_setCell_other _ _ _ _ (Ne.symm e2), World.cell?_setCell_other _ _ _ _ (Ne.symm e1), World.cell?_setCell_other _ _ _ _ (Ne.symm e0)]

theorem Row4.some_cell {w : World} {g : Nat} {l : List Tm} (h : Row4 w g l) {i : Nat} (hi : i < l.length) : ∀ j, j < 4 → (w.cell? ⟨g, i * 4 + j, none⟩).isSome = true := by
  intro j hj
  have e : (l.getD i default).cells.length = 4 := rfl
  rw [Nat.mul_comm, h.2.2 i j _ hi (List.getElem?_eq_getElem (by omega))]
  rfl
/-- A term stored into the row. -/
theorem Row4.store {w : World} {g : Nat} {l : List Tm} (h : Row4 w g l) {i : Nat} (hi : i < l.length) (u : Tm) :
    Row4 ((((w.setCell ⟨g, i * 4, none⟩ (.int .i64 u.kind)).setCell ⟨g, i * 4 + 1, none⟩ (.int .i64 u.num)).setCell ⟨g, i * 4 + 2, none⟩ (.string u.name)).setCell ⟨g, i * 4 + 3, none⟩ (.slice u.at_ u.args.length u.cap)) g (l.set i u) := by
  refine ⟨by simpa using h.1, fun j => by simp only [World.frozen?_setCell]; exact h.2.1 j, fun i' j v hi' hv => ?_⟩
  rw [List.length_set] at hi'
  rw [set4 _ _ _ _ _ _ _ (h.some_cell hi)]
  have hj : j < 4 := by
    have := (List.getElem?_eq_some_iff.1 hv).1
    simpa [Tm.cells] using this
  by_cases e : i' = i
  · subst e
    have ev : (l.set i' u).getD i' default = u := by simp [List.getD, hi']
    rw [ev] at hv
    have ad : ∀ a b : Nat, a ≠ b → ¬ (⟨g, 4 * i' + a, none⟩ : Addr) = ⟨g, i' * 4 + b, none⟩ := fun a b hab h => by injection h with _ h _; omega
    have ad0 : ∀ a : Nat, a ≠ 0 → ¬ (⟨g, 4 * i' + a, none⟩ : Addr) = ⟨g, i' * 4, none⟩ := fun a ha h => by injection h with _ h _; omega
    match j, hj with
    | 0, _ => rw [if_pos (by rw [Nat.mul_comm]; rfl)]; exact hv
    | 1, _ => rw [if_neg (ad0 1 (by omega)), if_pos (by rw [Nat.mul_comm])]; exact hv
    | 2, _ => rw [if_neg (ad0 2 (by omega)), if_neg (ad 2 1 (by omega)), if_pos (by rw [Nat.mul_comm])]; exact hv
    | 3, _ => rw [if_neg (ad0 3 (by omega)), if_neg (ad 3 1 (by omega)), if_neg (ad 3 2 (by omega)), if_pos (by rw [Nat.mul_comm])]; exact hv
  · have ev : (l.set i u).getD i' default = l.getD i' default := by simp [List.getD, Ne.symm e]
    rw [ev] at hv
    have ad : ∀ b : Nat, b < 4 → ¬ (⟨g, 4 * i' + j, none⟩ : Addr) = ⟨g, i * 4 + b, none⟩ := fun b hb h => by injection h with _ h _; omega
    have ad0 : ¬ (⟨g, 4 * i' + j, none⟩ : Addr) = ⟨g, i * 4, none⟩ := fun h => by injection h with _ h _; omega
    rw [if_neg ad0, if_neg (ad 1 (by omega)), if_neg (ad 2 (by omega)), if_neg (ad 3 (by omega))]
    exact h.2.2 i' j v hi' hv

theorem Row4.at {w : World} {g : Nat} {l : List Tm} (h : Row4 w g l) (W : World) (hc : ∀ j, W.cell? ⟨g, j, none⟩ = w.cell? ⟨g, j, none⟩) (ha : ∀ x ∈ l, x.At W) : RowAt W l g 0 := by
  refine RowAt.of fun i hi => ⟨fun j u hu => ?_, ha _ (getD_mem hi)⟩
  rw [Nat.zero_add, hc]
  exact h.2.2 i j u hi hu

end Go.Proofs.Ytpnjjahimhhjkaa
