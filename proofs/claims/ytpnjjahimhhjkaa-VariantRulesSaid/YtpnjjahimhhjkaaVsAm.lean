/-
  Contracts of the reference's comparison of lists of constraints and of their weight.
-/
import Derived.Test.YtpnjjahimhhjkaaVgAm
import Derived.Test.YtpnjjahimhhjkaaTmTop
import Derived.Test.YtpnjjahimhhjkaaVlP
import Derived.Deep.RegionHeld3
import Derived.BigQuiet
import Derived.Deep.QuietTactic
namespace Go.Proofs.Ytpnjjahimhhjkaa
open Go.RowKit

/-- Two constraints that identity does not tell apart. -/
def Am.sameP (x y : Am) : Prop := (cmpA x y == 0) = true
theorem ref_same_am0_at (x y : Am) (w : World) (hx : x.At w) (hy : y.At w) (h : Am.sameP x y) : Calls Try.prog 67 #[x.val, y.val] w fun e w' => e = .returned (.bool true) ∧ Ext w w' := ref_same_atom_at x y w hx hy h
set_option maxHeartbeats 4000000 in
theorem same_ams_at (l m : List Am) (n : Nat) (A B : Option Addr) (c d : Nat) (w : World) (hl : AmLst w A l c) (hm : AmLst w B m d) (h1 : l.length = n) (h2 : m.length = n) (hn : n ≤ 1000000) (hs : ∀ i, i < n → Am.sameP (l.getD i default) (m.getD i default)) :
    Calls Try.prog 44 #[.slice A n c, .slice B n d] w fun e w' => e = .returned (.bool true) ∧ Ext w w' := by
  have HL := Lib.hid hl
  have HM := Lib.hid hm
  have HS := Lib.hid hs
  have H1 := Lib.hid h1
  have H2 := Lib.hid h2
  clear hl hm hs h1 h2
  go_enter Try.func44, Try.ntmps44
  go_wp2_with fail
  go_loopw [5] (fun i wr => ∃ j : Nat, j ≤ n ∧ i = .int .i64 j ∧ Hid (Ext w wr)) (fun i _ => n - (intOf i).toNat)
  case atStart => exact ⟨0, Nat.zero_le _, rfl, Lib.hid (Ext.refl _)⟩
  case round =>
    obtain ⟨j, hj, rfl, HF⟩ := hrel
    by_cases hlt : j < n
    · obtain ⟨b1, o1, rfl, hcs, hat⟩ := (HL.out.below HF.out).get (i := j) (by rw [H1.out]; exact hlt)
      obtain ⟨b2, o2, rfl, hcs2, hat2⟩ := (HM.out.below HF.out).get (i := j) (by rw [H2.out]; exact hlt)
      have hsj := HS.out j hlt
      generalize l.getD j default = x at *
      generalize m.getD j default = y at *
      have Q := Lib.hid (ref_same_am0_at x y wr.drew (hat.below (Ext.drew _)) (hat2.below (Ext.drew _)) hsj)
      have c0 := hcs 0 _ rfl
      have c1 := hcs 1 _ rfl
      have e0 := hcs2 0 _ rfl
      have e1 := hcs2 1 _ rfl
      simp only [Nat.add_zero] at c0 e0
      have HC := Lib.hid (fun W (h : Ext wr W) => (⟨keepv h c0, keepv h c1, keepv h e0, keepv h e1⟩ : (fun W => W.cell? ⟨b1, o1 + j * 2, none⟩ = some (.string x.name) ∧ W.cell? ⟨b1, o1 + j * 2 + 1, none⟩ = some (.slice x.at_ x.args.length x.cap) ∧ W.cell? ⟨b2, o2 + j * 2, none⟩ = some (.string y.name) ∧ W.cell? ⟨b2, o2 + j * 2 + 1, none⟩ = some (.slice y.at_ y.args.length y.cap)) W))
      obtain ⟨s1, A1, p1, a1⟩ := x
      obtain ⟨s2, A2, p2, a2⟩ := y
      simp only at c0 c1 e0 e1
      clear hcs hcs2 hat hat2 hsj
      go_wp2_with fail
      go_region_held3 (fun W => W.cell? ⟨b1, o1 + j * 2, none⟩ = some (.string s1) ∧ W.cell? ⟨b1, o1 + j * 2 + 1, none⟩ = some (.slice A1 a1.length p1) ∧ W.cell? ⟨b2, o2 + j * 2, none⟩ = some (.string s2) ∧ W.cell? ⟨b2, o2 + j * 2 + 1, none⟩ = some (.slice A2 a2.length p2)) (first | (with_reducible exact HC.out _ (Ext.drew _)) | (with_reducible exact HC.out _ E1.out) | fail) (first
        | (go_at_call 67; have hF := Q.out; (with_reducible refine hF.mono ?_); rintro e y1 ⟨rfl, h1⟩; have E1 := Lib.hid (show Ext wr y1 from Ext.trans (Ext.drew _) h1); clear h1 hF)
        | fail)
      go_wp2_with fail
      go_roundw
      case rel => exact ⟨j + 1, by omega, by go_num, Lib.hid (HF.out.trans E1.out)⟩
      case measure => simp [intOf]; omega
    · obtain rfl : j = n := by omega
      go_wp2_with fail
      go_ret
      exact ⟨rfl, HF.out⟩

/-! ### The weight -/
def weighAm (l : List Am) (m : Int) : Int := l.foldl (fun m x => weighN x.name x.args m) m
theorem weighAm_neg (l : List Am) {m : Int} (h : m < 0) : weighAm l m = m := by
  unfold weighAm
  induction l with
  | nil => rfl
  | cons x r ih => rw [List.foldl_cons, show weighN x.name x.args m = m from if_pos h, ih]
theorem weighAm_next {l : List Am} {j : Nat} (h : j < l.length) (m : Int) : weighAm (l.take (j + 1)) m = weighN (l.getD j default).name (l.getD j default).args (weighAm (l.take j) m) := by
  rw [am_take_next h]
  simp [weighAm, List.foldl_append]
theorem weighAm_stop {l : List Am} {j : Nat} {m : Int} (h : weighAm (l.take j) m < 0) : weighAm l m = weighAm (l.take j) m := by
  have e : weighAm l m = weighAm (l.drop j) (weighAm (l.take j) m) := by
    unfold weighAm
    rw [← List.foldl_append, List.take_append_drop]
  rw [e, weighAm_neg _ h]
theorem weighAm_hi (l : List Am) (m : Int) : weighAm l m ≤ m ∨ weighAm l m = -1 := by
  induction l generalizing m with
  | nil => exact .inl (Int.le_refl _)
  | cons x r ih =>
    have h1 := weighN_hi x.name x.args m
    have h2 := ih (weighN x.name x.args m)
    show weighAm r (weighN x.name x.args m) ≤ m ∨ weighAm r (weighN x.name x.args m) = -1
    rcases h1 with h1 | h1
    · omega
    · rw [h1]; exact .inr (weighAm_neg r (by omega))
theorem weighAm_facts (l : List Am) (m : Int) (h : 0 ≤ weighAm l m) : (l.length : Int) + weighAm l m ≤ m ∧ ∀ x ∈ l, (nodesL x.args : Int) ≤ m := by
  induction l generalizing m with
  | nil => exact ⟨by simp [weighAm], fun x hx => by cases hx⟩
  | cons x r ih =>
    have e : weighAm (x :: r) m = weighAm r (weighN x.name x.args m) := rfl
    rw [e] at h ⊢
    have h1 := ih _ h
    have hn : 0 ≤ weighN x.name x.args m := by
      rcases Int.lt_or_le (weighN x.name x.args m) 0 with h2 | h2
      · rw [weighAm_neg r h2] at h; omega
      · exact h2
    have h3 := weighN_size hn
    have h4 : weighN x.name x.args m + 1 ≤ m := by
      unfold weighN at hn ⊢
      split at hn
      · omega
      · rename_i h5
        rw [if_neg h5]
        unfold weigh at hn ⊢
        split at hn
        · omega
        · rename_i h6
          rw [if_neg h6]
          have := (weigh_facts.2 x.args (m - 1 - (x.name.size : Int) / 8) 64).1 hn
          omega
    refine ⟨by rw [List.length_cons]; omega, fun y hy => ?_⟩
    rcases List.mem_cons.1 hy with rfl | hy
    · exact h3
    · have := h1.2 y hy; omega

set_option maxHeartbeats 4000000 in
theorem great_ams_at (l : List Am) (A : Option Addr) (c : Nat) (most : Int) (w : World) (hl : AmLst w A l c) (h0 : 0 ≤ most) (h1 : most ≤ 1000000) {r : Bool} (hr : decide (weighAm l most < 0) = r) :
    Calls Try.prog 42 #[.slice A l.length c, .int .i64 most] w fun e w' => e = .returned (.bool r) ∧ Ext w w' := by
  have HL := Lib.hid hl
  have HR := Lib.hid hr
  have hlen := hl.len
  clear hl hr
  go_enter Try.func42, Try.ntmps42
  go_wp2_with fail
  go_loopw [1, 5] (fun z i wr => ∃ j : Nat, j ≤ l.length ∧ i = .int .i64 j ∧ z = .int .i64 (weighAm (l.take j) most) ∧ Hid (Ext w wr)) (fun _ i _ => l.length - (intOf i).toNat)
  case atStart => exact ⟨0, Nat.zero_le _, rfl, rfl, Lib.hid (Ext.refl _)⟩
  case round =>
    obtain ⟨j, hj, rfl, rfl, HF⟩ := hrel
    have hhi := weighAm_hi (l.take j) most
    by_cases hlt : j < l.length
    · have hjl : ((j : Nat) : Int) < (l.length : Int) := by omega
      have HT := Lib.hid (weighAm_next hlt most)
      have HST := Lib.hid (fun (h : weighAm (l.take j) most < 0) => weighAm_stop h)
      obtain ⟨b, o, rfl, hcs, hat⟩ := (HL.out.below HF.out).get hlt
      generalize weighAm (l.take j) most = v at *
      by_cases hv : 0 ≤ v
      · generalize l.getD j default = x at *
        have hsz : x.name.size ≤ 9223372036854775807 := by have := hat.1; unfold maxLen at this; exact this
        have P1 := Lib.hid (fun n => weigh64 x.args x.at_ x.cap (v - 1 - (x.name.size : Int) / 8) (wr.drewN n) ((hat.2).below (below_drewN (Below.refl _ _) n)) (by omega) (by omega))
        have hW : weighN x.name x.args v = weigh x.args (v - 1 - (x.name.size : Int) / 8) 64 := if_neg (by omega)
        rw [← hW] at P1
        rw [← HT.out]at P1
        have c0 := hcs 0 _ rfl
        have c1 := hcs 1 _ rfl
        simp only [Nat.add_zero] at c0
        obtain ⟨s', A', c', a'⟩ := x
        simp only at c0 c1 hsz
        clear hcs hat hW
        obtain ⟨v2, hv2⟩ : ∃ v2, weighAm (l.take (j + 1)) most = v2 := ⟨_, rfl⟩
        have HV2 := Lib.hid hv2
        rw [hv2] at P1
        clear hv2 HT
        go_wp2_with fail
        go_quiet ((go_at_call 35; exact Calls.quiet_of (P1.out _)))
        rename_i nq
        go_wp2_with fail
        go_roundw
        case rel => exact ⟨j + 1, by omega, by go_num, by rw [HV2.out], Lib.hid (Ext.trans HF.out (below_drewN (Below.refl _ _) nq))⟩
        case measure => simp [intOf]; omega
      · have hv' : v < 0 := by omega
        have HE := Lib.hid (HST.out hv')
        go_wp2_with fail
        go_ret
        exact ⟨by rw [← HR.out, HE.out, decide_eq_true hv']; rfl, HF.out⟩
    · obtain rfl : j = l.length := by omega
      rw [List.take_length]
      generalize weighAm l most = v at *
      go_wp2_with fail
      go_ret
      exact ⟨by rw [← HR.out]; rfl, HF.out⟩
end Go.Proofs.Ytpnjjahimhhjkaa
