/-
  Contracts of the reference's comparison of lists of goals and of their weight.
-/
import Derived.Test.YtpnjjahimhhjkaaVgGl
import Derived.Test.YtpnjjahimhhjkaaTmTop
import Derived.Test.YtpnjjahimhhjkaaVlP
import Derived.Deep.RegionHeld3
import Derived.BigQuiet
import Derived.Deep.QuietTactic
namespace Go.Proofs.Ytpnjjahimhhjkaa
open Go.RowKit

/-- Two goals that identity does not tell apart. -/
def Gl.sameP (x y : Gl) : Prop := sameG x y = true
theorem ref_same_gl0_at (x y : Gl) (w : World) (hx : x.At w) (hy : y.At w) (h : Gl.sameP x y) : Calls Try.prog 68 #[x.val, y.val] w fun e w' => e = .returned (.bool true) ∧ Ext w w' := ref_same_goal_at x y w hx hy h
set_option maxHeartbeats 4000000 in
theorem same_gls_at (l m : List Gl) (n : Nat) (A B : Option Addr) (c d : Nat) (w : World) (hl : GlLst w A l c) (hm : GlLst w B m d) (h1 : l.length = n) (h2 : m.length = n) (hn : n ≤ 1000000) (hs : ∀ i, i < n → Gl.sameP (l.getD i default) (m.getD i default)) :
    Calls Try.prog 45 #[.slice A n c, .slice B n d] w fun e w' => e = .returned (.bool true) ∧ Ext w w' := by
  have HL := Lib.hid hl
  have HM := Lib.hid hm
  have HS := Lib.hid hs
  have H1 := Lib.hid h1
  have H2 := Lib.hid h2
  clear hl hm hs h1 h2
  go_enter Try.func45, Try.ntmps45
  go_wp2_with fail
  go_loopw [5] (fun i wr => ∃ j : Nat, j ≤ n ∧ i = .int .i64 j ∧ Hid (Ext w wr)) (fun i _ => n - (intOf i).toNat)
  case atStart => exact ⟨0, Nat.zero_le _, rfl, Lib.hid (Ext.refl _)⟩
  case round =>
    obtain ⟨j, hj, rfl, HF⟩ := hrel
    by_cases hlt : j < n
    · obtain ⟨b1, o1, rfl, hcs, hat⟩ := (HL.out.below HF.out).get (i := j) (by rw [H1.out]; exact hlt)
      obtain ⟨b2, o2, rfl, hcs2, hat2⟩ := (HM.out.below HF.out).get (i := j) (by rw [H2.out]; exact hlt)
      have hsj := HS.out j hlt
      generalize l.getD j default = x at *
      generalize m.getD j default = y at *
      have Q := Lib.hid (ref_same_gl0_at x y wr.drew (hat.below (Ext.drew _)) (hat2.below (Ext.drew _)) hsj)
      have c0 := hcs 0 _ rfl
      have c1 := hcs 1 _ rfl
      have c2 := hcs 2 _ rfl
      have e0 := hcs2 0 _ rfl
      have e1 := hcs2 1 _ rfl
      have e2 := hcs2 2 _ rfl
      simp only [Nat.add_zero] at c0 e0
      have HC := Lib.hid (fun W (h : Ext wr W) => (⟨keepv h c0, keepv h c1, keepv h c2, keepv h e0, keepv h e1, keepv h e2⟩ : (fun W => W.cell? ⟨b1, o1 + j * 3, none⟩ = some (.int .i64 x.op) ∧ W.cell? ⟨b1, o1 + j * 3 + 1, none⟩ = some (.string x.name) ∧ W.cell? ⟨b1, o1 + j * 3 + 2, none⟩ = some (.slice x.at_ x.args.length x.cap) ∧ W.cell? ⟨b2, o2 + j * 3, none⟩ = some (.int .i64 y.op) ∧ W.cell? ⟨b2, o2 + j * 3 + 1, none⟩ = some (.string y.name) ∧ W.cell? ⟨b2, o2 + j * 3 + 2, none⟩ = some (.slice y.at_ y.args.length y.cap)) W))
      obtain ⟨k1, s1, A1, p1, a1⟩ := x
      obtain ⟨k2, s2, A2, p2, a2⟩ := y
      simp only at c0 c1 c2 e0 e1 e2
      clear hcs hcs2 hat hat2 hsj
      go_wp2_with fail
      go_region_held3 (fun W => W.cell? ⟨b1, o1 + j * 3, none⟩ = some (.int .i64 k1) ∧ W.cell? ⟨b1, o1 + j * 3 + 1, none⟩ = some (.string s1) ∧ W.cell? ⟨b1, o1 + j * 3 + 2, none⟩ = some (.slice A1 a1.length p1) ∧ W.cell? ⟨b2, o2 + j * 3, none⟩ = some (.int .i64 k2) ∧ W.cell? ⟨b2, o2 + j * 3 + 1, none⟩ = some (.string s2) ∧ W.cell? ⟨b2, o2 + j * 3 + 2, none⟩ = some (.slice A2 a2.length p2)) (first | (with_reducible exact HC.out _ (Ext.drew _)) | (with_reducible exact HC.out _ E1.out) | fail) (first
        | (go_at_call 68; have hF := Q.out; (with_reducible refine hF.mono ?_); rintro e y1 ⟨rfl, h1⟩; have E1 := Lib.hid (show Ext wr y1 from Ext.trans (Ext.drew _) h1); clear h1 hF)
        | fail)
      go_wp2_with fail
      go_roundw
      case rel => exact ⟨j + 1, by omega, by go_num, Lib.hid (HF.out.trans E1.out)⟩
      case measure => simp [intOf]; omega
    · obtain rfl : j = n := by omega
      go_wp2_with fail
      go_ret
      exact ⟨rfl, HF.out⟩

/-! ### The weight -/
def weighGl (l : List Gl) (m : Int) : Int := l.foldl (fun m x => weighN x.name x.args m) m
theorem weighGl_neg (l : List Gl) {m : Int} (h : m < 0) : weighGl l m = m := by
  unfold weighGl
  induction l with
  | nil => rfl
  | cons x r ih => rw [List.foldl_cons, show weighN x.name x.args m = m from if_pos h, ih]
theorem weighGl_next {l : List Gl} {j : Nat} (h : j < l.length) (m : Int) : weighGl (l.take (j + 1)) m = weighN (l.getD j default).name (l.getD j default).args (weighGl (l.take j) m) := by
  rw [gl_take_next h]
  simp [weighGl, List.foldl_append]
theorem weighGl_stop {l : List Gl} {j : Nat} {m : Int} (h : weighGl (l.take j) m < 0) : weighGl l m = weighGl (l.take j) m := by
  have e : weighGl l m = weighGl (l.drop j) (weighGl (l.take j) m) := by
    unfold weighGl
    rw [← List.foldl_append, List.take_append_drop]
  rw [e, weighGl_neg _ h]
theorem weighGl_hi (l : List Gl) (m : Int) : weighGl l m ≤ m ∨ weighGl l m = -1 := by
  induction l generalizing m with
  | nil => exact .inl (Int.le_refl _)
  | cons x r ih =>
    have h1 := weighN_hi x.name x.args m
    have h2 := ih (weighN x.name x.args m)
    show weighGl r (weighN x.name x.args m) ≤ m ∨ weighGl r (weighN x.name x.args m) = -1
    rcases h1 with h1 | h1
    · omega
    · rw [h1]; exact .inr (weighGl_neg r (by omega))
theorem weighGl_facts (l : List Gl) (m : Int) (h : 0 ≤ weighGl l m) : (l.length : Int) + weighGl l m ≤ m ∧ ∀ x ∈ l, (nodesL x.args : Int) ≤ m := by
  induction l generalizing m with
  | nil => exact ⟨by simp [weighGl], fun x hx => by cases hx⟩
  | cons x r ih =>
    have e : weighGl (x :: r) m = weighGl r (weighN x.name x.args m) := rfl
    rw [e] at h ⊢
    have h1 := ih _ h
    have hn : 0 ≤ weighN x.name x.args m := by
      rcases Int.lt_or_le (weighN x.name x.args m) 0 with h2 | h2
      · rw [weighGl_neg r h2] at h; omega
      · exact h2
    have h3 := weighN_size hn
    have h4 : weighN x.name x.args m + 1 ≤ m := by
      unfold weighN at hn ⊢
      split at hn
      · omega
      · rename_i h5
        rw [if_neg h5]
        unfold weigh at hn ⊢
        split at hn
        · omega
        · rename_i h6
          rw [if_neg h6]
          have := (weigh_facts.2 x.args (m - 1 - (x.name.size : Int) / 8) 64).1 hn
          omega
    refine ⟨by rw [List.length_cons]; omega, fun y hy => ?_⟩
    rcases List.mem_cons.1 hy with rfl | hy
    · exact h3
    · have := h1.2 y hy; omega

set_option maxHeartbeats 4000000 in
theorem great_gls_at (l : List Gl) (A : Option Addr) (c : Nat) (most : Int) (w : World) (hl : GlLst w A l c) (h0 : 0 ≤ most) (h1 : most ≤ 1000000) {r : Bool} (hr : decide (weighGl l most < 0) = r) :
    Calls Try.prog 43 #[.slice A l.length c, .int .i64 most] w fun e w' => e = .returned (.bool r) ∧ Ext w w' := by
  have HL := Lib.hid hl
  have HR := Lib.hid hr
  have hlen := hl.len
  clear hl hr
  go_enter Try.func43, Try.ntmps43
  go_wp2_with fail
  go_loopw [1, 5] (fun z i wr => ∃ j : Nat, j ≤ l.length ∧ i = .int .i64 j ∧ z = .int .i64 (weighGl (l.take j) most) ∧ Hid (Ext w wr)) (fun _ i _ => l.length - (intOf i).toNat)
  case atStart => exact ⟨0, Nat.zero_le _, rfl, rfl, Lib.hid (Ext.refl _)⟩
  case round =>
    obtain ⟨j, hj, rfl, rfl, HF⟩ := hrel
    have hhi := weighGl_hi (l.take j) most
    by_cases hlt : j < l.length
    · have hjl : ((j : Nat) : Int) < (l.length : Int) := by omega
      have HT := Lib.hid (weighGl_next hlt most)
      have HST := Lib.hid (fun (h : weighGl (l.take j) most < 0) => weighGl_stop h)
      obtain ⟨b, o, rfl, hcs, hat⟩ := (HL.out.below HF.out).get hlt
      generalize weighGl (l.take j) most = v at *
      by_cases hv : 0 ≤ v
      · generalize l.getD j default = x at *
        have hsz : x.name.size ≤ 9223372036854775807 := by have := hat.2.1; unfold maxLen at this; exact this
        have P1 := Lib.hid (fun n => weigh64 x.args x.at_ x.cap (v - 1 - (x.name.size : Int) / 8) (wr.drewN n) ((hat.2.2).below (below_drewN (Below.refl _ _) n)) (by omega) (by omega))
        have hW : weighN x.name x.args v = weigh x.args (v - 1 - (x.name.size : Int) / 8) 64 := if_neg (by omega)
        rw [← hW] at P1
        rw [← HT.out]at P1
        have c0 := hcs 0 _ rfl
        have c1 := hcs 1 _ rfl
        have c2 := hcs 2 _ rfl
        simp only [Nat.add_zero] at c0
        obtain ⟨o', s', A', c', a'⟩ := x
        simp only at c0 c1 c2 hsz
        clear hcs hat hW
        obtain ⟨v2, hv2⟩ : ∃ v2, weighGl (l.take (j + 1)) most = v2 := ⟨_, rfl⟩
        have HV2 := Lib.hid hv2
        rw [hv2] at P1
        clear hv2 HT
        go_wp2_with fail
        go_quiet ((go_at_call 35; exact Calls.quiet_of (P1.out _)))
        rename_i nq
        go_wp2_with fail
        go_roundw
        case rel => exact ⟨j + 1, by omega, by go_num, by rw [HV2.out], Lib.hid (Ext.trans HF.out (below_drewN (Below.refl _ _) nq))⟩
        case measure => simp [intOf]; omega
      · have hv' : v < 0 := by omega
        have HE := Lib.hid (HST.out hv')
        go_wp2_with fail
        go_ret
        exact ⟨by rw [← HR.out, HE.out, decide_eq_true hv']; rfl, HF.out⟩
    · obtain rfl : j = l.length := by omega
      rw [List.take_length]
      generalize weighGl l most = v at *
      go_wp2_with fail
      go_ret
      exact ⟨by rw [← HR.out]; rfl, HF.out⟩
end Go.Proofs.Ytpnjjahimhhjkaa
