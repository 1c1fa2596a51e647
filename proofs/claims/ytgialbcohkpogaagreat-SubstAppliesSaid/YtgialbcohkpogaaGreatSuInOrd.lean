/-
  Contracts of slices.SortStableFunc and slices.Clone at bindings, and of inOrder of any list.
-/
import Derived.Test.YtgialbcohkpogaaGreatSuStable
import Derived.Test.YtgialbcohkpogaaGreatSuOrder
import Derived.Test.YtgialbcohkpogaaGreatSuRow
import Derived.Maps.AppendAt
namespace Go.Proofs.YtgialbcohkpogaaGreat
open Go.RowKit

set_option maxHeartbeats 1000000 in
theorem sort_stable_at (l : List Bd) (g c N : Nat) (w : World) (hN : N = l.length) (hN6 : N ≤ 1000000) (h : Row5 w g l) :
    Calls Tryz.prog 72 #[.slice (some ⟨g, 0, none⟩) N c, CMPV] w (Steps (fun l' => Stab l l' ∧ SrtL l') g w) := by
  have Q := Lib.hid (stable_at l g c N w hN hN6 h)
  clear h hN
  go_enter Tryz.func72, Tryz.ntmps72
  go_wp2_with fail
  refine (Q.out).mono ?_
  rintro e w' ⟨rfl, H⟩
  have HE := Lib.hid H
  clear H
  go_wp2_with fail
  go_end0
  exact ⟨rfl, HE.out⟩

/-- What Clone of some bindings gives back. -/
def ClonedB (w : World) (l : List Bd) (e : Ending) (w' : World) : Prop := ∃ g cap, e = .returned (.slice (some ⟨g, 0, none⟩) l.length cap) ∧ l.length ≤ cap ∧ cap ≤ maxLen ∧ w.heap.size ≤ g ∧ Row5 w' g l ∧ Below w.heap.size w w'
theorem bcells_all (l : List Bd) : ∀ u ∈ bcells l, u.oneCell' = true := by
  intro u hu
  obtain ⟨x, _, hx⟩ := List.mem_flatMap.1 hu
  exact bcells_one x u hx
theorem BRow.cells {w : World} {l : List Bd} {b o : Nat} (h : BRow w l b o) : ∀ (j : Nat) (u : Value), (bcells l)[j]? = some u → w.cell? ((⟨b, o, none⟩ : Addr).add j) = some u := by
  intro j u hu
  have hj : j < l.length * 5 := by rw [← bcells_len]; exact (List.getElem?_eq_some_iff.1 hu).1
  have e : j = j / 5 * 5 + j % 5 := by omega
  rw [e, bcells_get l (by omega) (by omega)] at hu
  have := (h (j / 5) (by omega)).1 (j % 5) u hu
  rw [add_plain, e, ← Nat.add_assoc]
  exact this
set_option maxHeartbeats 1000000 in
theorem clone_b_at (l : List Bd) (b o c : Nat) (w : World) (h0 : 0 < l.length) (hl : BRow w l b o) (hsz : l.length ≤ 1000000) :
    Calls Tryz.prog 71 #[.slice (some ⟨b, o, none⟩) l.length c] w (ClonedB w l) := by
  obtain ⟨i0, hi, hz0, hz1, hz2⟩ := info_parts bind_info
  have hn := fun (W : World) => Lib.run_eql_slice_nil (P := Tryz.prog) W 23 53 (some ⟨b, o, none⟩) l.length c 0 0 Tryz.underlying23
  go_enter Tryz.func71, Tryz.ntmps71
  have hl1 : BRow (w.alloc (.cells #[] 53)) l b o := hl.below ((Below.refl _ _).alloc (Nat.le_refl _) _)
  have HC := Lib.hid hl1.cells
  have HO := Lib.hid (World.ownsRow_lit (base := w.heap.size) (e := 53) (size := 5) w #[] 0 (Nat.le_refl _) (Nat.zero_le _) rfl)
  clear hl hl1
  go_wp2_with (at_builtin; refine wpList_append_own _ rfl _ _ 23 rfl w.heap.size 53 i0 _ 5 64 Tryz.underlying23 hi hz0 hz1 hz2 rfl (by decide) _ 0 [] rfl HO.out ⟨b, o, none⟩ l.length c (bcells l) rfl (bcells_len l) HC.out (bcells_all l) (by unfold maxLen; omega) (by omega) (by simp) ?_; intro v' w1 hown1 hg1 _)
  have HG := Lib.hid hg1
  have HW := Lib.hid hown1
  clear hg1 hown1
  go_ret
  have hw := HW.out
  simp only [Nat.zero_add, List.nil_append] at hw
  obtain ⟨hlen, hv⟩ := hw
  rcases hv with ⟨_, h⟩ | ⟨g, cap, cur, rfl, hb, hheap, hle, hcap, _, hcur⟩
  · omega
  · have hw := HW.out
    simp only [Nat.zero_add, List.nil_append] at hw
    refine ⟨g, cap, rfl, hle, hcap, hb, ⟨(own_lt hw g rfl).2, fun j => World.ownsRow.frozenAt hw j, fun i j u hi hu => ?_⟩, ((Below.refl _ _).alloc (Nat.le_refl _) _).grown HG.out (by simp) (fun k hk => (World.ownsRow.lt HO.out k hk).1)⟩
    have hj := bcells_lt hu
    rw [World.ownsRow.cellAt hw (i * 5 + j) (by omega)]
    exact (bcells_get l hi hj).trans hu

set_option maxHeartbeats 1000000 in
theorem in_order_any (l : List Bd) (A : Option Addr) (c : Nat) (w : World) (hl : BLst w A l c) (hlen : l.length ≤ 1000000) (hn : ∀ x ∈ l, x.tm.nodes ≤ 1000000) : Calls Tryz.prog 42 #[.slice A l.length c] w (InOrd l w) := by
  by_cases hs : Srt l
  · exact in_order_at l A c w hl ⟨hlen, hs, hn⟩
  have hs2 : srtB l = false := by
    cases h : srtB l
    · rfl
    · exact absurd ((srtB_iff l).1 h) hs
  have h0 : 0 < l.length := by
    rcases Nat.eq_zero_or_pos l.length with h | h
    · exact absurd (fun i j hij hj => by omega) hs
    · exact h
  have Q := Lib.hid (is_sorted_at l A c w hl hlen)
  rw [hs2] at Q
  obtain ⟨b, o, rfl, hB⟩ := hl.2.2 h0
  have QC := Lib.hid (fun W (hb : Below w.heap.size w W) => clone_b_at l b o c W h0 (hB.below hb) hlen)
  have QS := Lib.hid (fun g cap W (h : Row5 W g l) => sort_stable_at l g cap l.length W rfl hlen h)
  have HM := Lib.hid (fun x (hx : x ∈ l) => hl.mem hx)
  have HNo := Lib.hid hn
  clear hl hB hs hs2 hn h0
  go_enter Tryz.func42, Tryz.ntmps42
  go_wp2_with fail
  refine (Q.out).mono ?_
  rintro e w1 ⟨rfl, hb1⟩
  go_wp2_with fail
  refine (QC.out _ hb1).mono ?_
  rintro e w2 ⟨g, cap, rfl, hle, hcap, hg, hR, hb2⟩
  have HB2 := Lib.hid (hb1.trans (hb2.mono hb1.size))
  have HG := Lib.hid (Nat.le_trans hb1.size hg)
  have HC := Lib.hid (show l.length ≤ cap ∧ cap ≤ maxLen from ⟨hle, hcap⟩)
  have Q3 := Lib.hid (QS.out g cap w2 hR)
  clear hb2 hg hle hcap hR
  go_wp2_with fail
  refine (Q3.out).mono ?_
  rintro e w3 ⟨rfl, l', ⟨hS, hL⟩, hR, hK⟩
  have HE := Lib.hid (show InOrd l w (.returned (.slice (some ⟨g, 0, none⟩) l.length cap)) w3 from by
    have hb := Keeps.below HB2.out hK HG.out
    have hl := hS.len
    refine ⟨some ⟨g, 0, none⟩, cap, l', by rw [hl], ⟨by rw [← hl]; exact HC.out.1, HC.out.2, fun _ => ⟨g, 0, rfl, fun i hi => ⟨fun j u hu => ?_, ?_⟩⟩⟩, ⟨by omega, hL.srt, fun x hx => HNo.out x (hS.mem.2 hx)⟩, fun v => (stab_look hS v).symm, hb⟩
    · rw [Nat.zero_add]; exact hR.2.2 i j u hi hu
    · have := HM.out _ (hS.mem.2 (bgetD_mem hi))
      exact ⟨this.1, this.2.below hb⟩)
  clear hS hL hR hK
  go_wp2_with fail
  go_ret
  exact HE.out
end Go.Proofs.YtgialbcohkpogaaGreat
