/-
  Contracts of Vars, VarsOf, Ground and Occurs of the reference.
-/
import Derived.Test.YtclhmdgiffemlaaTmVars
namespace Go.Proofs.Ytclhmdgiffemlaa
open Go.RowKit

theorem ref_vars_at (t : Tm) (w : World) (ht : t.At w) (hs : t.size ≤ 1000000) : Calls Try.prog 20 #[t.val] w (Grows w (addAll [] t.occ)) := by
  have Q := Lib.hid (fun W (h : Below w.heap.size w W) => vars_at t (.slice none 0 0) [] w W ht h (OwnI.nil _ _) (by simpa using hs))
  obtain ⟨k, n, s, A, c, a⟩ := t
  show Calls Try.prog 20 #[.agg #[.int .i64 k, .int .i64 n, .string s, .slice A a.length c]] w _
  generalize (Tm.mk k n s A c a).occ = oc at *
  clear ht hs
  go_enter Try.func20, Try.ntmps20
  go_wp2_with fail
  refine (Q.out _ ((Below.refl _ _).alloc (Nat.le_refl _) _)).mono ?_
  rintro e w1 ⟨v, rfl, hown, hb⟩
  go_wp2_with fail
  go_ret
  exact Grows.mk rfl hown hb

theorem ref_ground_at (t : Tm) (w : World) (ht : t.At w) (hs : t.size ≤ 1000000) {r : Bool} (hr : decide (t.occ = []) = r) :
    Calls Try.prog 22 #[t.val] w fun e w' => e = .returned (.bool r) ∧ Below w.heap.size w w' := by
  have Q := Lib.hid (fun W (h : Below w.heap.size w W) => ref_vars_at t W (ht.below h) hs)
  have hR : (((addAll [] t.occ).length : Int) == 0) = r := by
    rw [← hr, Bool.eq_iff_iff, decide_eq_true_eq, ← addAll_nil]
    simp
  have ho := occ_length.1 t
  have hal := addAll_length [] t.occ
  have HR := Lib.hid hR
  obtain ⟨k, n, s, A, c, a⟩ := t
  show Calls Try.prog 22 #[.agg #[.int .i64 k, .int .i64 n, .string s, .slice A a.length c]] w _
  have hal' : (addAll [] (Tm.mk k n s A c a).occ).length ≤ 1000000 := by simp only [List.length_nil] at hal; omega
  generalize addAll [] (Tm.mk k n s A c a).occ = l at *
  clear ht hs ho hal hR hr
  go_enter Try.func22, Try.ntmps22
  go_wp2_with fail
  refine (Q.out _ ((Below.refl _ _).alloc (Nat.le_refl _) _)).mono ?_
  rintro e w1 ⟨v, he, hown, hb⟩
  obtain ⟨A', c', hv, hI, _⟩ := hown.form
  rw [hv] at he
  subst he
  clear hv hown hI
  go_wp2_with fail
  go_ret
  exact ⟨by rw [← HR.out]; rfl, ((Below.refl _ _).alloc (Nat.le_refl _) _).trans (hb.mono (by simp))⟩

theorem ref_occurs_at (x : Int) (t : Tm) (w : World) (ht : t.At w) (hs : t.size ≤ 1000000) {r : Bool} (hr : decide (x ∈ t.occ) = r) :
    Calls Try.prog 24 #[.int .i64 x, t.val] w fun e w' => e = .returned (.bool r) ∧ Below w.heap.size w w' := by
  have Q := Lib.hid (fun W (h : Below w.heap.size w W) => ref_vars_at t W (ht.below h) hs)
  have hR : decide (x ∈ addAll [] t.occ) = r := by
    rw [← hr, decide_eq_decide, mem_addAll]
    simp
  have ho := occ_length.1 t
  have hal := addAll_length [] t.occ
  obtain ⟨k, n, s, A, c, a⟩ := t
  show Calls Try.prog 24 #[.int .i64 x, .agg #[.int .i64 k, .int .i64 n, .string s, .slice A a.length c]] w _
  have hal' : (addAll [] (Tm.mk k n s A c a).occ).length ≤ 9223372036854775807 := by simp only [List.length_nil] at hal; omega
  generalize addAll [] (Tm.mk k n s A c a).occ = l at *
  have Q2 := Lib.hid (fun A' c' W (h : Ints W A' l) => has_at A' l c' x W h hal' hR)
  clear ht hs ho hal hR hr
  go_enter Try.func24, Try.ntmps24
  go_wp2_with fail
  refine (Q.out _ ((Below.refl _ _).alloc (Nat.le_refl _) _)).mono ?_
  rintro e w1 ⟨v, he, hown, hb⟩
  obtain ⟨A', c', hv, hI, _⟩ := hown.form
  rw [hv] at he
  subst he
  have HI := Lib.hid hI
  clear hv hown hI
  go_wp2_with fail
  refine (Q2.out _ _ _ HI.out).mono ?_
  rintro e w2 ⟨rfl, rfl⟩
  go_wp2_with fail
  go_ret
  exact ⟨rfl, ((Below.refl _ _).alloc (Nat.le_refl _) _).trans (hb.mono (by simp))⟩

set_option maxHeartbeats 400000 in
theorem ref_vars_of_at (us : List Tm) (U : Option Addr) (uq : Nat) (w : World) (hl : Lst w U us uq) (hsz : sizeL us ≤ 1000000) :
    Calls Try.prog 30 #[.slice U us.length uq] w (Grows w (addAll [] (occL us))) := by
  have hlen : us.length ≤ 9223372036854775807 := by have := hl.1; have := hl.2.1; unfold maxLen at *; omega
  go_enter Try.func30, Try.ntmps30
  go_wp2_with fail
  go_loopw [3, 4] (fun z i wr => ∃ j : Nat, j ≤ us.length ∧ i = .int .i64 j ∧ Hid (OwnI wr w.heap.size z (addAll [] (occL (us.take j)))) ∧ Below w.heap.size w wr) (fun _ i _ => us.length - (intOf i).toNat)
  case atStart => exact ⟨0, Nat.zero_le _, rfl, Lib.hid (OwnI.nil _ _), Below.refl _ _⟩
  case round =>
    obtain ⟨j, hj, rfl, HX, hb⟩ := hrel
    by_cases hlt : j < us.length
    · obtain ⟨b, o, rfl, ⟨c0, c1, c2, c3⟩, _⟩ := (hl.below hb).get hlt
      have hy := hl.mem (getD_mem hlt)
      have hn := sizeL_next hlt
      have ht := sizeL_take us (j + 1)
      have ho := occ_length.2 (us.take j)
      have ha := addAll_length [] (occL (us.take j))
      have HN := Lib.hid (occL_next hlt)
      generalize us.getD j default = y at *
      have hB : (addAll [] (occL (us.take j))).length + y.size ≤ 1000000 := by simp only [List.length_nil] at ha; omega
      have Q1 := Lib.hid (vars_at y _ (addAll [] (occL (us.take j))) w wr hy hb HX.out hB)
      clear hy hn ht ho ha hB
      obtain ⟨k', n', s', A', c', a'⟩ := y
      simp only [Tm.kind, Tm.num, Tm.name, Tm.at_, Tm.args, Tm.cap] at c0 c1 c2 c3
      go_wp2_with fail
      refine Q1.out.mono ?_
      rintro e w5 ⟨v5, rfl, hown5, hb5⟩
      go_wp2_with fail
      go_roundw
      case rel => exact ⟨j + 1, by omega, by go_num, Lib.hid (by rw [HN.out, addAll_append]; exact hown5), hb5⟩
      case measure => simp [intOf]; omega
    · obtain rfl : j = us.length := by omega
      go_wp2_with fail
      go_ret
      refine Grows.mk rfl ?_ hb
      have := HX.out
      rw [List.take_length] at this
      exact this
end Go.Proofs.Ytclhmdgiffemlaa
