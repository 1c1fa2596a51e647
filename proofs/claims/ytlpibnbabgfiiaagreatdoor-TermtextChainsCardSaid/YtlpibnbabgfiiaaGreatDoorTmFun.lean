/-
  Contracts of Int, Var and Fun of the program (with slices.Clone and slices.Clip).
-/
import Derived.Test.YtlpibnbabgfiiaaGreatDoorTmMem
import Derived.Test.YtlpibnbabgfiiaaGreatDoorTmOrder
import Derived.Test.YtlpibnbabgfiiaaGreatDoorTtKeep
import Derived.Maps.AppendAt
import Derived.WalkSpells
import Derived.Lib.SliceRun
import Derived.Laws.Rows
namespace Go.Proofs.YtlpibnbabgfiiaaGreatDoor
open Go.RowKit

def tcells (l : List Tm) : List Value := l.flatMap Tm.cells
theorem cells_length (t : Tm) : t.cells.length = 4 := rfl
theorem tcells_length (l : List Tm) : (tcells l).length = l.length * 4 := by
  induction l with
  | nil => rfl
  | cons t r ih => simp only [tcells, List.flatMap_cons, List.length_append, cells_length, List.length_cons] at *; omega
theorem tcells_one (l : List Tm) : ∀ u ∈ tcells l, u.oneCell' = true := by
  intro u hu
  obtain ⟨t, _, ht⟩ := List.mem_flatMap.1 hu
  simp only [Tm.cells, List.mem_cons, List.not_mem_nil, or_false] at ht
  rcases ht with rfl | rfl | rfl | rfl <;> rfl
theorem tcells_get (l : List Tm) {i j : Nat} (hi : i < l.length) (hj : j < 4) : (tcells l)[4 * i + j]? = (l.getD i default).cells[j]? := by
  induction l generalizing i with
  | nil => simp at hi
  | cons t r ih =>
    simp only [tcells, List.flatMap_cons]
    cases i with
    | zero =>
      rw [List.getElem?_append_left (by rw [cells_length]; omega)]
      simp
    | succ i =>
      rw [List.getElem?_append_right (by rw [cells_length]; omega), cells_length, show 4 * (i + 1) + j - 4 = 4 * i + j by omega]
      simpa [tcells] using ih (by simpa using hi)
theorem RowAt.cells {w : World} {l : List Tm} {b o : Nat} (h : RowAt w l b o) : ∀ (j : Nat) (u : Value), (tcells l)[j]? = some u → w.cell? ((⟨b, o, none⟩ : Addr).add j) = some u := by
  induction l generalizing o with
  | nil => intro j u hu; simp [tcells] at hu
  | cons t r ih =>
    intro j u hu
    simp only [RowAt] at h
    obtain ⟨⟨h0, h1, h2, h3⟩, _, hr⟩ := h
    rw [add_plain]
    simp only [tcells, List.flatMap_cons] at hu
    by_cases hj : j < 4
    · rw [List.getElem?_append_left (by rw [cells_length]; exact hj)] at hu
      match j, hj with
      | 0, _ => rw [← hu]; exact h0
      | 1, _ => rw [← hu]; exact h1
      | 2, _ => rw [← hu]; exact h2
      | 3, _ => rw [← hu]; exact h3
    · rw [List.getElem?_append_right (by rw [cells_length]; omega), cells_length] at hu
      have := ih hr (j - 4) u hu
      rw [add_plain, show o + 4 + (j - 4) = o + j by omega] at this
      exact this

theorem term_info : (Tryz.prog.info? 24).map (fun i => (i.zero, i.size, i.bytes)) = some (some (.agg #[.int .i64 0, .int .i64 0, .string ⟨#[]⟩, .slice none 0 0]), 4, 56) := by kernel_rfl

theorem int_tm_at (n : Int) (w : World) : Calls Tryz.prog 134 #[.int .i64 n] w fun e w' => e = .returned (.agg #[.int .i64 0, .int .i64 n, .string ⟨#[]⟩, .slice none 0 0]) ∧ Below w.heap.size w w' := by
  go_enter Tryz.func134, Tryz.ntmps134
  go_wp2
  exact bodyPost_ret (v := .agg #[.int .i64 0, .int .i64 n, .string ⟨#[]⟩, .slice none 0 0]) (by simp [results, Tryz.results134, go_sem]) rfl ⟨rfl, (Below.refl _ _).alloc (Nat.le_refl _) _⟩
theorem var_tm_at (n : Int) (w : World) : Calls Tryz.prog 136 #[.int .i64 n] w fun e w' => e = .returned (.agg #[.int .i64 1, .int .i64 n, .string ⟨#[]⟩, .slice none 0 0]) ∧ Below w.heap.size w w' := by
  go_enter Tryz.func136, Tryz.ntmps136
  go_wp2
  exact bodyPost_ret (v := .agg #[.int .i64 1, .int .i64 n, .string ⟨#[]⟩, .slice none 0 0]) (by simp [results, Tryz.results136, go_sem]) rfl ⟨rfl, (Below.refl _ _).alloc (Nat.le_refl _) _⟩

/-- What Clone gives back: a row of its own that holds the terms. -/
def Cloned (w : World) (l : List Tm) (e : Ending) (w' : World) : Prop := ∃ g cap, e = .returned (.slice (some ⟨g, 0, none⟩) l.length cap) ∧ w.heap.size ≤ g ∧ g < w'.heap.size ∧ l.length ≤ cap ∧ cap ≤ maxLen ∧ (∀ j u, (tcells l)[j]? = some u → w'.cell? ⟨g, j, none⟩ = some u) ∧ Below w.heap.size w w'

set_option maxHeartbeats 400000 in
theorem clone_at (l : List Tm) (b o c : Nat) (w : World) (h0 : 0 < l.length) (hl : RowAt w l b o) (hsz : l.length ≤ 1000000) :
    Calls Tryz.prog 121 #[.slice (some ⟨b, o, none⟩) l.length c] w (Cloned w l) := by
  obtain ⟨i0, hi, hz0, hz1, hz2⟩ := info_parts term_info
  have hn := fun (W : World) => Lib.run_eql_slice_nil (P := Tryz.prog) W 22 24 (some ⟨b, o, none⟩) l.length c 0 0 Tryz.underlying22
  go_enter Tryz.func121, Tryz.ntmps121
  have hl1 : RowAt (w.alloc (.cells #[] 24)) l b o := (At_keep ((Below.refl _ _).alloc (Nat.le_refl _) _)).2 _ _ _ hl
  have HC := Lib.hid hl1.cells
  have HO := Lib.hid (World.ownsRow_lit (base := w.heap.size) (e := 24) (size := 4) w #[] 0 (Nat.le_refl _) (Nat.zero_le _) rfl)
  clear hl hl1
  go_wp2_with (at_builtin; refine wpList_append_own _ rfl _ _ 22 rfl w.heap.size 24 i0 _ 4 56 Tryz.underlying22 hi hz0 hz1 hz2 rfl (by decide) _ 0 [] rfl HO.out ⟨b, o, none⟩ l.length c (tcells l) rfl (tcells_length l) HC.out (tcells_one l) (by unfold maxLen; omega) (by omega) (by simp) ?_; intro v' w1 hown1 hg1 _)
  have HG := Lib.hid hg1
  have HW := Lib.hid hown1
  clear hg1 hown1
  go_ret
  obtain ⟨hlen, hv⟩ := HW.out
  rcases hv with ⟨_, h⟩ | ⟨g, cap, cur, rfl, hb, hheap, hle, hcap, _, hcur⟩
  · omega
  · refine ⟨g, cap, by simp only [Nat.zero_add]; rfl, hb, ?_, by omega, hcap, fun j u hu => ?_, ?_⟩
    · rcases Nat.lt_or_ge g w1.heap.size with h | h
      · exact h
      · rw [Array.getElem?_eq_none h] at hheap; cases hheap
    · have hj : j < (tcells l).length := (List.getElem?_eq_some_iff.1 hu).1
      rw [tcells_length] at hj
      rw [World.ownsRow.cellAt HW.out j (by omega)]
      simpa using hu
    · exact ((Below.refl _ _).alloc (Nat.le_refl _) _).grown HG.out (by simp) (fun k hk => (World.ownsRow.lt HO.out k hk).1)

theorem clip_at (A : Option Addr) (n c : Nat) (w : World) (hn : n ≤ c) (_hc : c ≤ 9223372036854775807) :
    Calls Tryz.prog 120 #[.slice A n c] w fun e w' => e = .returned (.slice A n n) ∧ w = w' := by
  go_enter Tryz.func120, Tryz.ntmps120
  go_wp2_with fail
  go_ret
  exact ⟨rfl, rfl⟩

/-- A functor that was built: a term of its own over the arguments. -/
def Built (w : World) (s : ByteArray) (l : List Tm) (e : Ending) (w' : World) : Prop :=
  ∃ A c, e = .returned (Tm.mk 2 0 s A c l).val ∧ (∀ W, Agree w.heap.size No w' W → (∀ x ∈ l, x.At W) → (Tm.mk 2 0 s A c l).At W) ∧ Below w.heap.size w w'

set_option maxHeartbeats 400000 in
theorem fun_at (s : ByteArray) (l : List Tm) (b o c : Nat) (w : World) (h0 : 0 < l.length) (hl : RowAt w l b o) (hsz : l.length ≤ 1000000) (hs : s.size ≤ maxLen) :
    Calls Tryz.prog 107 #[.string s, .slice (some ⟨b, o, none⟩) l.length c] w (Built w s l) := by
  have Q1 := Lib.hid (fun W (h : Below w.heap.size w W) => clone_at l b o c W h0 ((At_keep h).2 _ _ _ hl) hsz)
  clear hl
  go_enter Tryz.func107, Tryz.ntmps107
  go_wp2_with fail
  refine (Q1.out _ ((Below.refl _ _).alloc (Nat.le_refl _) _)).mono ?_
  rintro e w1 ⟨g, cap, rfl, hg, hg', hle, hcap, hc, hb⟩
  have hcap' : cap ≤ 9223372036854775807 := by unfold maxLen at hcap; exact hcap
  obtain ⟨d0, d1, d2, d3, hb1⟩ := box4 hb
  have f0 : ∀ j, w1.frozen? ⟨w.heap.size, j, none⟩ = false := fun j => by
    rw [hb.frozen (p := ⟨w.heap.size, j, none⟩) (by simp), World.frozen?_alloc_at _ _ _ _ rfl]
  have HC := Lib.hid hc
  have HB := Lib.hid hb
  have hgw : w.heap.size < g := by simp at hg; omega
  have f00 := f0 0
  have f01 := f0 1
  have f02 := f0 2
  have f03 := f0 3
  clear hc hb f0 hg
  go_wp2_with fail
  refine (clip_at _ _ _ _ hle hcap').mono ?_
  rintro e w2 ⟨rfl, rfl⟩
  go_wp2_with fail
  have hb2 : Below w.heap.size w ((((w1.setCell ⟨w.heap.size, 0, none⟩ (.int .i64 2)).setCell ⟨w.heap.size, 1, none⟩ (.int .i64 0)).setCell ⟨w.heap.size, 2, none⟩ (.string s)).setCell ⟨w.heap.size, 3, none⟩ (.slice (some ⟨g, 0, none⟩) l.length l.length)) :=
    (((hb1.setCell (Nat.le_refl _) _).setCell (Nat.le_refl _) _).setCell (Nat.le_refl _) _).setCell (Nat.le_refl _) _
  refine bodyPost_ret (v := .agg #[.int .i64 2, .int .i64 0, .string s, .slice (some ⟨g, 0, none⟩) l.length l.length]) (by simp [results, Tryz.results107, go_sem, d0, d1, d2, d3]) rfl ⟨some ⟨g, 0, none⟩, l.length, rfl, fun W hW ha => ?_, hb2⟩
  refine (At_iff _ _).2 ⟨⟨by simp only [Tm.kind]; unfold Fits; omega, by simp only [Tm.num]; unfold Fits; omega, hs⟩, Nat.le_refl _, by unfold maxLen; simp only [Tm.cap]; omega, fun _ => ⟨g, 0, rfl, RowAt.of fun i hi => ⟨fun j u hu => ?_, ha _ (getD_mem hi)⟩⟩⟩
  have hj : j < 4 := by
    have := (List.getElem?_eq_some_iff.1 hu).1
    simpa [Tm.cells] using this
  have hne : ∀ q : Nat, (⟨g, 0 + 4 * i + j, none⟩ : Addr) ≠ ⟨w.heap.size, q, none⟩ := fun q e => by injection e with e _; omega
  rw [hW.cell (p := ⟨g, 0 + 4 * i + j, none⟩) (by simp only; omega) (by simpa [World.setCell] using hg') (fun h => h),
    World.cell?_setCell_other _ _ _ _ (hne 3).symm, World.cell?_setCell_other _ _ _ _ (hne 2).symm, World.cell?_setCell_other _ _ _ _ (hne 1).symm, World.cell?_setCell_other _ _ _ _ (hne 0).symm, Nat.zero_add]
  exact HC.out _ _ ((tcells_get l hi hj).trans hu)

theorem clone_none (w : World) :
    Calls Tryz.prog 121 #[.slice none 0 0] w fun e w' => e = .returned (.slice none 0 0) ∧ w = w' := by
  have hn := fun (W : World) => Lib.run_eql_slice_nil (P := Tryz.prog) W 22 24 none 0 0 0 0 Tryz.underlying22
  go_enter Tryz.func121, Tryz.ntmps121
  go_wp2_with fail
  go_ret
  exact ⟨rfl, rfl⟩
theorem fun_none (s : ByteArray) (w : World) (hs : s.size ≤ maxLen) :
    Calls Tryz.prog 107 #[.string s, .slice none 0 0] w (Built w s []) := by
  go_enter Tryz.func107, Tryz.ntmps107
  go_wp2_with fail
  refine (clone_none _).mono ?_
  rintro e w1 ⟨rfl, rfl⟩
  go_wp2_with fail
  refine (clip_at _ _ _ _ (Nat.le_refl _) (by omega)).mono ?_
  rintro e w2 ⟨rfl, rfl⟩
  go_wp2_with fail
  refine bodyPost_ret (v := .agg #[.int .i64 2, .int .i64 0, .string s, .slice none 0 0]) (by simp [results, Tryz.results107, go_sem]) rfl ⟨none, 0, rfl, fun W _ _ => ?_, ?_⟩
  · exact (At_iff _ _).2 ⟨⟨by simp only [Tm.kind]; unfold Fits; omega, by simp only [Tm.num]; unfold Fits; omega, hs⟩, Lst.nil W⟩
  · exact (Below.refl _ _).alloc (Nat.le_refl _) _
end Go.Proofs.YtlpibnbabgfiiaaGreatDoor
