/-
  Contracts of Int, Var and Fun of the reference.
-/
import Derived.Test.YtpnjjahimhhjkaaSuRow
namespace Go.Proofs.Ytpnjjahimhhjkaa
open Go.RowKit

theorem ref_var_at3 (n : Int) (w : World) : Calls Try.prog 25 #[.int .i64 n] w fun e w' => e = .returned (.agg #[.int .i64 1, .int .i64 n, .string ⟨#[]⟩, .slice none 0 0]) ∧ Below w.heap.size w w' := by
  go_enter Try.func25, Try.ntmps25
  go_wp2
  exact bodyPost_ret (v := .agg #[.int .i64 1, .int .i64 n, .string ⟨#[]⟩, .slice none 0 0]) (by simp [results, Try.results25, go_sem]) rfl ⟨rfl, (Below.refl _ _).alloc (Nat.le_refl _) _⟩

/-- A functor that was built, with the place of its arguments. -/
def BuiltR (w : World) (s : ByteArray) (l : List Tm) (e : Ending) (w' : World) : Prop :=
  ∃ g c : Nat, e = .returned (.agg #[.int .i64 2, .int .i64 0, .string s, .slice (some ⟨g, 0, none⟩) l.length c]) ∧ (Tm.mk 2 0 s (some ⟨g, 0, none⟩) c l).At w' ∧ Below w.heap.size w w'

set_option maxHeartbeats 2000000 in
set_option maxRecDepth 20000 in
theorem ref_fun_at (s : ByteArray) (l : List Tm) (b o c : Nat) (w : World) (h0 : 0 < l.length) (hl : RowAt w l b o) (hsz : l.length ≤ 1000000) (hs : s.size ≤ maxLen) :
    Calls Try.prog 41 #[.string s, .slice (some ⟨b, o, none⟩) l.length c] w (BuiltR w s l) := by
  obtain ⟨i0, hi, hz0, hz1, hz2⟩ := info_parts term_info
  have HAll := Lib.hid hl
  go_enter Try.func41, Try.ntmps41
  have hl1 : RowAt ((w.alloc (.cells #[.int .i64 0, .int .i64 0, .string ⟨#[]⟩, .slice none 0 0] 24)).alloc (.cells #[] 24)) l b o := (At_keep (((Below.refl _ _).alloc (Nat.le_refl _) _).alloc (by simp) _)).2 _ _ _ hl
  have HC := Lib.hid hl1.cells
  have HO0 := World.ownsRow_lit (base := (w.alloc (.cells #[.int .i64 0, .int .i64 0, .string ⟨#[]⟩, .slice none 0 0] 24)).heap.size) (e := 24) (size := 4) (w.alloc (.cells #[.int .i64 0, .int .i64 0, .string ⟨#[]⟩, .slice none 0 0] 24)) #[] 0 (Nat.le_refl _) (Nat.zero_le _) rfl
  rw [show (w.alloc (.cells #[.int .i64 0, .int .i64 0, .string ⟨#[]⟩, .slice none 0 0] 24)).heap.size = w.heap.size + 1 by simp] at HO0
  have HO := Lib.hid HO0
  clear HO0
  clear hl hl1
  go_wp2_with (at_builtin; refine wpList_append_own _ rfl _ _ 22 rfl (w.heap.size + 1) 24 i0 _ 4 56 Try.underlying22 hi hz0 hz1 hz2 rfl (by decide) _ 0 [] rfl HO.out ⟨b, o, none⟩ l.length c (tcells l) rfl (tcells_length l) HC.out (tcells_one l) (by unfold maxLen; omega) (by omega) (by simp) ?_; intro v' w1 hown1 hg1 _; rw [Nat.zero_add, List.nil_append] at hown1; obtain ⟨hlen, hv⟩ := id hown1; rcases hv with ⟨_, h⟩ | ⟨g, cap, cur, hv', hb, hheap, hle, hcap, _, hcur⟩; (exfalso; omega); subst hv'; have hb0 : Below (w.alloc (.cells #[.int .i64 0, .int .i64 0, .string ⟨#[]⟩, .slice none 0 0] 24)).heap.size (w.alloc (.cells #[.int .i64 0, .int .i64 0, .string ⟨#[]⟩, .slice none 0 0] 24)) w1 := ((Below.refl _ _).alloc (Nat.le_refl _) _).grown hg1 (by simp) (fun k hk => by have := (World.ownsRow.lt HO.out k hk).1; simpa using this); obtain ⟨d0, d1, d2, d3, hb1⟩ := box4 hb0; have f0 : ∀ j, w1.frozen? ⟨w.heap.size, j, none⟩ = false := fun j => (by rw [hb0.frozen (p := ⟨w.heap.size, j, none⟩) (by simp), World.frozen?_alloc_at _ _ _ _ rfl]); have f00 := f0 0; have f01 := f0 1; have f02 := f0 2; have f03 := f0 3; have HB := Lib.hid hb1; have HW := Lib.hid hown1; have hle' : l.length ≤ cap := hle; have hcm := Lib.hid hcap; have hgb : w.heap.size + 1 ≤ g := hb; have hg' : g < w1.heap.size := (own_lt hown1 g rfl).2; clear hb0 hb1 f0 hown1 hg1 hheap hle hcap hcur hlen hb)
  have hgw : w.heap.size < g := by omega
  have hc : ∀ (j : Nat) u, (tcells l)[j]? = some u → w1.cell? ⟨g, j, none⟩ = some u := fun j u hu => by
    have hj : j < (tcells l).length := (List.getElem?_eq_some_iff.1 hu).1
    rw [tcells_length] at hj
    rw [World.ownsRow.cellAt HW.out j (by omega)]
    simpa using hu
  have HX := Lib.hid hc
  clear hc
  have hb2 : Below w.heap.size w ((((w1.setCell ⟨w.heap.size, 0, none⟩ (.int .i64 2)).setCell ⟨w.heap.size, 1, none⟩ (.int .i64 0)).setCell ⟨w.heap.size, 2, none⟩ (.string s)).setCell ⟨w.heap.size, 3, none⟩ (.slice (some ⟨g, 0, none⟩) l.length cap)) :=
    (((HB.out.setCell (Nat.le_refl _) _).setCell (Nat.le_refl _) _).setCell (Nat.le_refl _) _).setCell (Nat.le_refl _) _
  refine bodyPost_ret (v := .agg #[.int .i64 2, .int .i64 0, .string s, .slice (some ⟨g, 0, none⟩) l.length cap]) (by simp [results, Try.results41, go_sem, d0, d1, d2, d3]) rfl ⟨g, cap, rfl, ?_, hb2⟩
  refine (At_iff _ _).2 ⟨⟨by simp only [Tm.kind]; unfold Fits; omega, by simp only [Tm.num]; unfold Fits; omega, hs⟩, hle', hcm.out, fun _ => ⟨g, 0, rfl, RowAt.of fun i hi => ⟨fun j u hu => ?_, (At_keep hb2).1 _ (HAll.out.get hi).2⟩⟩⟩
  have hj : j < 4 := by
    have := (List.getElem?_eq_some_iff.1 hu).1
    simpa [Tm.cells] using this
  have hne : ∀ q : Nat, (⟨g, 0 + 4 * i + j, none⟩ : Addr) ≠ ⟨w.heap.size, q, none⟩ := fun q e => by injection e with e _; omega
  rw [World.cell?_setCell_other _ _ _ _ (hne 3).symm, World.cell?_setCell_other _ _ _ _ (hne 2).symm, World.cell?_setCell_other _ _ _ _ (hne 1).symm, World.cell?_setCell_other _ _ _ _ (hne 0).symm, Nat.zero_add]
  exact HX.out _ _ ((tcells_get l hi hj).trans hu)
end Go.Proofs.Ytpnjjahimhhjkaa
