/-
  Contracts of Fun of the reference and Parse of the program, with the blocks in which what they hand out lies.
-/
import Derived.Test.YtlpibnbabgfiiaaGreatDoorTrFun
import Derived.Test.YtlpibnbabgfiiaaGreatDoorTtWhole
import Derived.Test.YtlpibnbabgfiiaaGreatDoorTtChainL
namespace Go.Proofs.YtlpibnbabgfiiaaGreatDoor
open Go.RowKit

/-- A functor that was built, with the place of its arguments, which is new. -/
def BuiltN (w : World) (s : ByteArray) (l : List Tm) (e : Ending) (w' : World) : Prop :=
  ∃ g c : Nat, e = .returned (.agg #[.int .i64 2, .int .i64 0, .string s, .slice (some ⟨g, 0, none⟩) l.length c]) ∧ (Tm.mk 2 0 s (some ⟨g, 0, none⟩) c l).At w' ∧ w.heap.size ≤ g ∧ Below w.heap.size w w'

set_option maxHeartbeats 2000000 in
set_option maxRecDepth 20000 in
theorem ref_fun_new (s : ByteArray) (l : List Tm) (b o c : Nat) (w : World) (h0 : 0 < l.length) (hl : RowAt w l b o) (hsz : l.length ≤ 1000000) (hs : s.size ≤ maxLen) :
    Calls Tryz.prog 28 #[.string s, .slice (some ⟨b, o, none⟩) l.length c] w (BuiltN w s l) := by
  obtain ⟨i0, hi, hz0, hz1, hz2⟩ := info_parts term_info
  have HAll := Lib.hid hl
  go_enter Tryz.func28, Tryz.ntmps28
  have hl1 : RowAt ((w.alloc (.cells #[.int .i64 0, .int .i64 0, .string ⟨#[]⟩, .slice none 0 0] 24)).alloc (.cells #[] 24)) l b o := (At_keep (((Below.refl _ _).alloc (Nat.le_refl _) _).alloc (by simp) _)).2 _ _ _ hl
  have HC := Lib.hid hl1.cells
  have HO0 := World.ownsRow_lit (base := (w.alloc (.cells #[.int .i64 0, .int .i64 0, .string ⟨#[]⟩, .slice none 0 0] 24)).heap.size) (e := 24) (size := 4) (w.alloc (.cells #[.int .i64 0, .int .i64 0, .string ⟨#[]⟩, .slice none 0 0] 24)) #[] 0 (Nat.le_refl _) (Nat.zero_le _) rfl
  rw [show (w.alloc (.cells #[.int .i64 0, .int .i64 0, .string ⟨#[]⟩, .slice none 0 0] 24)).heap.size = w.heap.size + 1 by simp] at HO0
  have HO := Lib.hid HO0
  clear HO0
  clear hl hl1
  go_wp2_with (at_builtin; refine wpList_append_own _ rfl _ _ 22 rfl (w.heap.size + 1) 24 i0 _ 4 56 Tryz.underlying22 hi hz0 hz1 hz2 rfl (by decide) _ 0 [] rfl HO.out ⟨b, o, none⟩ l.length c (tcells l) rfl (tcells_length l) HC.out (tcells_one l) (by unfold maxLen; omega) (by omega) (by simp) ?_; intro v' w1 hown1 hg1 _; rw [Nat.zero_add, List.nil_append] at hown1; obtain ⟨hlen, hv⟩ := id hown1; rcases hv with ⟨_, h⟩ | ⟨g, cap, cur, hv', hb, hheap, hle, hcap, _, hcur⟩; (exfalso; omega); subst hv'; have hb0 : Below (w.alloc (.cells #[.int .i64 0, .int .i64 0, .string ⟨#[]⟩, .slice none 0 0] 24)).heap.size (w.alloc (.cells #[.int .i64 0, .int .i64 0, .string ⟨#[]⟩, .slice none 0 0] 24)) w1 := ((Below.refl _ _).alloc (Nat.le_refl _) _).grown hg1 (by simp) (fun k hk => by have := (World.ownsRow.lt HO.out k hk).1; simpa using this); obtain ⟨d0, d1, d2, d3, hb1⟩ := box4 hb0; have f0 : ∀ j, w1.frozen? ⟨w.heap.size, j, none⟩ = false := fun j => (by rw [hb0.frozen (p := ⟨w.heap.size, j, none⟩) (by simp), World.frozen?_alloc_at _ _ _ _ rfl]); have f00 := f0 0; have f01 := f0 1; have f02 := f0 2; have f03 := f0 3; have HB := Lib.hid hb1; have HW := Lib.hid hown1; have hle' : l.length ≤ cap := hle; have hcm := Lib.hid hcap; have hgb : w.heap.size + 1 ≤ g := hb; have hg' : g < w1.heap.size := (own_lt' hown1 g rfl).2; clear hb0 hb1 f0 hown1 hg1 hheap hle hcap hcur hlen hb)
  have hgw : w.heap.size < g := by omega
  have hc : ∀ (j : Nat) u, (tcells l)[j]? = some u → w1.cell? ⟨g, j, none⟩ = some u := fun j u hu => by
    have hj : j < (tcells l).length := (List.getElem?_eq_some_iff.1 hu).1
    rw [tcells_length] at hj
    rw [World.ownsRow.cellAt HW.out j (by omega)]
    simpa using hu
  have HX := Lib.hid hc
  clear hc
  have hb2 : Below w.heap.size w ((((w1.setCell ⟨w.heap.size, 0, none⟩ (.int .i64 2)).setCell ⟨w.heap.size, 1, none⟩ (.int .i64 0)).setCell ⟨w.heap.size, 2, none⟩ (.string s)).setCell ⟨w.heap.size, 3, none⟩ (.slice (some ⟨g, 0, none⟩) l.length cap)) :=
    (((HB.out.setCell (Nat.le_refl _) _).setCell (Nat.le_refl _) _).setCell (Nat.le_refl _) _).setCell (Nat.le_refl _) _
  refine bodyPost_ret (v := .agg #[.int .i64 2, .int .i64 0, .string s, .slice (some ⟨g, 0, none⟩) l.length cap]) (by simp [results, Tryz.results28, go_sem, d0, d1, d2, d3]) rfl ⟨g, cap, rfl, ?_, by omega, hb2⟩
  refine (At_iff _ _).2 ⟨⟨by simp only [Tm.kind]; unfold Fits; omega, by simp only [Tm.num]; unfold Fits; omega, hs⟩, hle', hcm.out, fun _ => ⟨g, 0, rfl, RowAt.of fun i hi => ⟨fun j u hu => ?_, (At_keep hb2).1 _ (HAll.out.get hi).2⟩⟩⟩
  have hj : j < 4 := by
    have := (List.getElem?_eq_some_iff.1 hu).1
    simpa [Tm.cells] using this
  have hne : ∀ q : Nat, (⟨g, 0 + 4 * i + j, none⟩ : Addr) ≠ ⟨w.heap.size, q, none⟩ := fun q e => by injection e with e _; omega
  rw [World.cell?_setCell_other _ _ _ _ (hne 3).symm, World.cell?_setCell_other _ _ _ _ (hne 2).symm, World.cell?_setCell_other _ _ _ _ (hne 1).symm, World.cell?_setCell_other _ _ _ _ (hne 0).symm, Nat.zero_add]
  exact HX.out _ _ ((tcells_get l hi hj).trans hu)

theorem fun_two (t u : Tm) (s : ByteArray) (W : World) (b : Nat) (hr : RowAt W [t, u] b 0) (hs : s.size ≤ maxLen) :
    Calls Tryz.prog 28 #[.string s, .slice (some ⟨b, 0, none⟩) 2 2] W fun e w' =>
      ∃ g c : Nat, e = .returned (.agg #[.int .i64 2, .int .i64 0, .string s, .slice (some ⟨g, 0, none⟩) 2 c]) ∧ W.heap.size ≤ g ∧ (Tm.mk 2 0 s (some ⟨g, 0, none⟩) c [t, u]).At w' ∧ Below W.heap.size W w' := by
  refine (ref_fun_new s [t, u] b 0 2 W (by simp) hr (by simp) hs).mono ?_
  rintro e w' ⟨g, c, he, h1, h2, h3⟩
  exact ⟨g, c, he, h2, h1, h3⟩

set_option maxHeartbeats 1000000 in
theorem parse_new (s : ByteArray) (w : World) (hs : s.size ≤ maxLen) (hL : Laid w) : Calls Tryz.prog 18 #[.string s] w fun e w' => ∃ u, Live w.heap.size No w' u ∧ Below w.heap.size w w' ∧ Outw (parseP s.data.toList) u e := by
  have Q := Lib.hid (fun o T => whole_at s (w.heap.size + 1) _ hs (rd_new s w o T hL))
  clear hL hs
  go_enter Tryz.func18, Tryz.ntmps18
  go_wp2_with fail
  refine (Q.out _ _).mono ?_
  rintro e w2 ⟨u, hu, hk, ho⟩
  obtain ⟨hc, hf, hz⟩ := boxP hk
  have c0 := hc 0 _ rfl
  have c1 := hc 1 _ rfl
  have c2 := hc 2 _ rfl
  have c3 := hc 3 _ rfl
  have f0 := hf 0
  have f1 := hf 1
  have f2 := hf 2
  have f3 := hf 3
  have HB := Lib.hid (Keeps.below (a := w) (((Below.refl _ _).alloc (Nat.le_refl _) _).alloc (by simp) _) hk (by omega))
  have HU := Lib.hid (show Live (w.heap.size + 1) No w2 u from hu.low (by simp))
  have HO : ∃ c : Int, e = .returned (.tuple #[u.val, .int .i64 c]) := by
    rcases ho with ⟨_, _, _, he⟩ | ⟨c, _, _, _, he⟩
    · exact ⟨0, he⟩
    · exact ⟨c, he⟩
  obtain ⟨c, rfl⟩ := HO
  have HOut := Lib.hid ho
  clear hc hf hk hu ho
  go_wp2_with fail
  refine bodyPost_ret (v := .tuple #[u.val, .int .i64 c]) (by simp [results, Tryz.results18, go_sem, c0, c1, c2, c3]) rfl ?_
  exact ⟨u, ((HU.out.put4 (b := w.heap.size) (.inl (Nat.lt_succ_self _))).low (Nat.le_succ _)), (((HB.out.setCell (p := ⟨w.heap.size, 0, none⟩) (Nat.le_refl _) _).setCell (p := ⟨w.heap.size, 1, none⟩) (Nat.le_refl _) _).setCell (p := ⟨w.heap.size, 2, none⟩) (Nat.le_refl _) _).setCell (p := ⟨w.heap.size, 3, none⟩) (Nat.le_refl _) _, HOut.out⟩

end Go.Proofs.YtlpibnbabgfiiaaGreatDoor
