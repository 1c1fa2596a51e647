/-
  VsAm.
  VsGl.
  VrRule1.
  VrRule.
  SrRl.
-/
import Derived.Test.YtnghanpmmbcbbaaGreatDoorMp7
import Derived.Test.YtnghanpmmbcbbaaGreatDoorMp8
import Derived.Deep.RegionHeld3
import Derived.BigQuiet
import Derived.Deep.QuietTactic
import Derived.Test.YtnghanpmmbcbbaaGreatDoorMp9
import Derived.Test.YtnghanpmmbcbbaaGreatDoorMp10
import Derived.Test.YtnghanpmmbcbbaaGreatDoorMp5
namespace Go.Proofs.YtnghanpmmbcbbaaGreatDoor
open Go.RowKit
def Am.sameP (x y : Am) : Prop := (cmpA x y == 0) = true
theorem ref_same_am0_at (x y : Am) (w : World) (hx : x.At w) (hy : y.At w) (h : Am.sameP x y) : Calls Tryz.prog 80 #[x.val, y.val] w fun e w' => e = .returned (.bool true) ∧ Ext w w' := ref_same_atom_at x y w hx hy h
set_option maxHeartbeats 4000000 in
theorem same_ams_at (l m : List Am) (n : Nat) (A B : Option Addr) (c d : Nat) (w : World) (hl : AmLst w A l c) (hm : AmLst w B m d) (h1 : l.length = n) (h2 : m.length = n) (hn : n ≤ 1000000) (hs : ∀ i, i < n → Am.sameP (l.getD i default) (m.getD i default)) :
    Calls Tryz.prog 43 #[.slice A n c, .slice B n d] w fun e w' => e = .returned (.bool true) ∧ Ext w w' := by
  have HL := Lib.hid hl
  have HM := Lib.hid hm
  have HS := Lib.hid hs
  have H1 := Lib.hid h1
  have H2 := Lib.hid h2
  clear hl hm hs h1 h2
  go_enter Tryz.func43, Tryz.ntmps43
  go_wp2_with fail
  go_loopw [5] (fun i wr => ∃ j : Nat, j ≤ n ∧ i = .int .i64 j ∧ Hid (Ext w wr)) (fun i _ => n - (intOf i).toNat)
  case atStart => exact ⟨0, Nat.zero_le _, rfl, Lib.hid (Ext.refl _)⟩
  case round =>
    obtain ⟨j, hj, rfl, HF⟩ := hrel
    by_cases hlt : j < n
    · obtain ⟨b1, o1, rfl, hcs, hat⟩ := (HL.out.below HF.out).get (i := j) (by rw [H1.out]; exact hlt)
      obtain ⟨b2, o2, rfl, hcs2, hat2⟩ := (HM.out.below HF.out).get (i := j) (by rw [H2.out]; exact hlt)
      have hsj := HS.out j hlt
      generalize l.getD j default = x at *
      generalize m.getD j default = y at *
      have Q := Lib.hid (ref_same_am0_at x y wr.drew (hat.below (Ext.drew _)) (hat2.below (Ext.drew _)) hsj)
      have c0 := hcs 0 _ rfl
      have c1 := hcs 1 _ rfl
      have e0 := hcs2 0 _ rfl
      have e1 := hcs2 1 _ rfl
      simp only [Nat.add_zero] at c0 e0
      have HC := Lib.hid (fun W (h : Ext wr W) => (⟨keepv h c0, keepv h c1, keepv h e0, keepv h e1⟩ : (fun W => W.cell? ⟨b1, o1 + j * 2, none⟩ = some (.string x.name) ∧ W.cell? ⟨b1, o1 + j * 2 + 1, none⟩ = some (.slice x.at_ x.args.length x.cap) ∧ W.cell? ⟨b2, o2 + j * 2, none⟩ = some (.string y.name) ∧ W.cell? ⟨b2, o2 + j * 2 + 1, none⟩ = some (.slice y.at_ y.args.length y.cap)) W))
      obtain ⟨s1, A1, p1, a1⟩ := x
      obtain ⟨s2, A2, p2, a2⟩ := y
      simp only at c0 c1 e0 e1
      clear hcs hcs2 hat hat2 hsj
      go_wp2_with fail
      go_region_held3 (fun W => W.cell? ⟨b1, o1 + j * 2, none⟩ = some (.string s1) ∧ W.cell? ⟨b1, o1 + j * 2 + 1, none⟩ = some (.slice A1 a1.length p1) ∧ W.cell? ⟨b2, o2 + j * 2, none⟩ = some (.string s2) ∧ W.cell? ⟨b2, o2 + j * 2 + 1, none⟩ = some (.slice A2 a2.length p2)) (first | (with_reducible exact HC.out _ (Ext.drew _)) | (with_reducible exact HC.out _ E1.out) | fail) (first
        | (go_at_call 80; have hF := Q.out; (with_reducible refine hF.mono ?_); rintro e y1 ⟨rfl, h1⟩; have E1 := Lib.hid (show Ext wr y1 from Ext.trans (Ext.drew _) h1); clear h1 hF)
        | fail)
      go_wp2_with fail
      go_roundw
      case rel => exact ⟨j + 1, by omega, by go_num, Lib.hid (HF.out.trans E1.out)⟩
      case measure => simp [intOf]; omega
    · obtain rfl : j = n := by omega
      go_wp2_with fail
      go_ret
      exact ⟨rfl, HF.out⟩
def weighAm (l : List Am) (m : Int) : Int := l.foldl (fun m x => weighN x.name x.args m) m
theorem weighAm_neg (l : List Am) {m : Int} (h : m < 0) : weighAm l m = m := by
  unfold weighAm
  induction l with
  | nil => rfl
  | cons x r ih => rw [List.foldl_cons, show weighN x.name x.args m = m from if_pos h, ih]
theorem weighAm_next {l : List Am} {j : Nat} (h : j < l.length) (m : Int) : weighAm (l.take (j + 1)) m = weighN (l.getD j default).name (l.getD j default).args (weighAm (l.take j) m) := by
  rw [am_take_next h]
  simp [weighAm, List.foldl_append]
theorem weighAm_stop {l : List Am} {j : Nat} {m : Int} (h : weighAm (l.take j) m < 0) : weighAm l m = weighAm (l.take j) m := by
  have e : weighAm l m = weighAm (l.drop j) (weighAm (l.take j) m) := by
    unfold weighAm
    rw [← List.foldl_append, List.take_append_drop]
  rw [e, weighAm_neg _ h]
theorem weighAm_hi (l : List Am) (m : Int) : weighAm l m ≤ m ∨ weighAm l m = -1 := by
  induction l generalizing m with
  | nil => exact .inl (Int.le_refl _)
  | cons x r ih =>
    have h1 := weighN_hi x.name x.args m
    have h2 := ih (weighN x.name x.args m)
    show weighAm r (weighN x.name x.args m) ≤ m ∨ weighAm r (weighN x.name x.args m) = -1
    rcases h1 with h1 | h1
    · omega
    · rw [h1]; exact .inr (weighAm_neg r (by omega))
theorem weighAm_facts (l : List Am) (m : Int) (h : 0 ≤ weighAm l m) : (l.length : Int) + weighAm l m ≤ m ∧ ∀ x ∈ l, (nodesL x.args : Int) ≤ m := by
  induction l generalizing m with
  | nil => exact ⟨by simp [weighAm], fun x hx => by cases hx⟩
  | cons x r ih =>
    have e : weighAm (x :: r) m = weighAm r (weighN x.name x.args m) := rfl
    rw [e] at h ⊢
    have h1 := ih _ h
    have hn : 0 ≤ weighN x.name x.args m := by
      rcases Int.lt_or_le (weighN x.name x.args m) 0 with h2 | h2
      · rw [weighAm_neg r h2] at h; omega
      · exact h2
    have h3 := weighN_size hn
    have h4 : weighN x.name x.args m + 1 ≤ m := by
      unfold weighN at hn ⊢
      split at hn
      · omega
      · rename_i h5
        rw [if_neg h5]
        unfold weigh at hn ⊢
        split at hn
        · omega
        · rename_i h6
          rw [if_neg h6]
          have := (weigh_facts.2 x.args (m - 1 - (x.name.size : Int) / 8) 64).1 hn
          omega
    refine ⟨by rw [List.length_cons]; omega, fun y hy => ?_⟩
    rcases List.mem_cons.1 hy with rfl | hy
    · exact h3
    · have := h1.2 y hy; omega
set_option maxHeartbeats 4000000 in
theorem great_ams_at (l : List Am) (A : Option Addr) (c : Nat) (most : Int) (w : World) (hl : AmLst w A l c) (h0 : 0 ≤ most) (h1 : most ≤ 1000000) {r : Bool} (hr : decide (weighAm l most < 0) = r) :
    Calls Tryz.prog 68 #[.slice A l.length c, .int .i64 most] w fun e w' => e = .returned (.bool r) ∧ Ext w w' := by
  have HL := Lib.hid hl
  have HR := Lib.hid hr
  have hlen := hl.len
  clear hl hr
  go_enter Tryz.func68, Tryz.ntmps68
  go_wp2_with fail
  go_loopw [1, 5] (fun z i wr => ∃ j : Nat, j ≤ l.length ∧ i = .int .i64 j ∧ z = .int .i64 (weighAm (l.take j) most) ∧ Hid (Ext w wr)) (fun _ i _ => l.length - (intOf i).toNat)
  case atStart => exact ⟨0, Nat.zero_le _, rfl, rfl, Lib.hid (Ext.refl _)⟩
  case round =>
    obtain ⟨j, hj, rfl, rfl, HF⟩ := hrel
    have hhi := weighAm_hi (l.take j) most
    by_cases hlt : j < l.length
    · have hjl : ((j : Nat) : Int) < (l.length : Int) := by omega
      have HT := Lib.hid (weighAm_next hlt most)
      have HST := Lib.hid (fun (h : weighAm (l.take j) most < 0) => weighAm_stop h)
      obtain ⟨b, o, rfl, hcs, hat⟩ := (HL.out.below HF.out).get hlt
      generalize weighAm (l.take j) most = v at *
      by_cases hv : 0 ≤ v
      · generalize l.getD j default = x at *
        have hsz : x.name.size ≤ 9223372036854775807 := by have := hat.1; unfold maxLen at this; exact this
        have P1 := Lib.hid (fun n => weigh64 x.args x.at_ x.cap (v - 1 - (x.name.size : Int) / 8) (wr.drewN n) ((hat.2).below (below_drewN (Below.refl _ _) n)) (by omega) (by omega))
        have hW : weighN x.name x.args v = weigh x.args (v - 1 - (x.name.size : Int) / 8) 64 := if_neg (by omega)
        rw [← hW] at P1
        rw [← HT.out]at P1
        have c0 := hcs 0 _ rfl
        have c1 := hcs 1 _ rfl
        simp only [Nat.add_zero] at c0
        obtain ⟨s', A', c', a'⟩ := x
        simp only at c0 c1 hsz
        clear hcs hat hW
        obtain ⟨v2, hv2⟩ : ∃ v2, weighAm (l.take (j + 1)) most = v2 := ⟨_, rfl⟩
        have HV2 := Lib.hid hv2
        rw [hv2] at P1
        clear hv2 HT
        go_wp2_with fail
        go_quiet ((go_at_call 47; exact Calls.quiet_of (P1.out _)))
        rename_i nq
        go_wp2_with fail
        go_roundw
        case rel => exact ⟨j + 1, by omega, by go_num, by rw [HV2.out], Lib.hid (Ext.trans HF.out (below_drewN (Below.refl _ _) nq))⟩
        case measure => simp [intOf]; omega
      · have hv' : v < 0 := by omega
        have HE := Lib.hid (HST.out hv')
        go_wp2_with fail
        go_ret
        exact ⟨by rw [← HR.out, HE.out, decide_eq_true hv']; rfl, HF.out⟩
    · obtain rfl : j = l.length := by omega
      rw [List.take_length]
      generalize weighAm l most = v at *
      go_wp2_with fail
      go_ret
      exact ⟨by rw [← HR.out]; rfl, HF.out⟩
end Go.Proofs.YtnghanpmmbcbbaaGreatDoor
namespace Go.Proofs.YtnghanpmmbcbbaaGreatDoor
open Go.RowKit
def Gl.sameP (x y : Gl) : Prop := sameG x y = true
theorem ref_same_gl0_at (x y : Gl) (w : World) (hx : x.At w) (hy : y.At w) (h : Gl.sameP x y) : Calls Tryz.prog 66 #[x.val, y.val] w fun e w' => e = .returned (.bool true) ∧ Ext w w' := ref_same_goal_at x y w hx hy h
set_option maxHeartbeats 4000000 in
theorem same_gls_at (l m : List Gl) (n : Nat) (A B : Option Addr) (c d : Nat) (w : World) (hl : GlLst w A l c) (hm : GlLst w B m d) (h1 : l.length = n) (h2 : m.length = n) (hn : n ≤ 1000000) (hs : ∀ i, i < n → Gl.sameP (l.getD i default) (m.getD i default)) :
    Calls Tryz.prog 27 #[.slice A n c, .slice B n d] w fun e w' => e = .returned (.bool true) ∧ Ext w w' := by
  have HL := Lib.hid hl
  have HM := Lib.hid hm
  have HS := Lib.hid hs
  have H1 := Lib.hid h1
  have H2 := Lib.hid h2
  clear hl hm hs h1 h2
  go_enter Tryz.func27, Tryz.ntmps27
  go_wp2_with fail
  go_loopw [5] (fun i wr => ∃ j : Nat, j ≤ n ∧ i = .int .i64 j ∧ Hid (Ext w wr)) (fun i _ => n - (intOf i).toNat)
  case atStart => exact ⟨0, Nat.zero_le _, rfl, Lib.hid (Ext.refl _)⟩
  case round =>
    obtain ⟨j, hj, rfl, HF⟩ := hrel
    by_cases hlt : j < n
    · obtain ⟨b1, o1, rfl, hcs, hat⟩ := (HL.out.below HF.out).get (i := j) (by rw [H1.out]; exact hlt)
      obtain ⟨b2, o2, rfl, hcs2, hat2⟩ := (HM.out.below HF.out).get (i := j) (by rw [H2.out]; exact hlt)
      have hsj := HS.out j hlt
      generalize l.getD j default = x at *
      generalize m.getD j default = y at *
      have Q := Lib.hid (ref_same_gl0_at x y wr.drew (hat.below (Ext.drew _)) (hat2.below (Ext.drew _)) hsj)
      have c0 := hcs 0 _ rfl
      have c1 := hcs 1 _ rfl
      have c2 := hcs 2 _ rfl
      have e0 := hcs2 0 _ rfl
      have e1 := hcs2 1 _ rfl
      have e2 := hcs2 2 _ rfl
      simp only [Nat.add_zero] at c0 e0
      have HC := Lib.hid (fun W (h : Ext wr W) => (⟨keepv h c0, keepv h c1, keepv h c2, keepv h e0, keepv h e1, keepv h e2⟩ : (fun W => W.cell? ⟨b1, o1 + j * 3, none⟩ = some (.int .i64 x.op) ∧ W.cell? ⟨b1, o1 + j * 3 + 1, none⟩ = some (.string x.name) ∧ W.cell? ⟨b1, o1 + j * 3 + 2, none⟩ = some (.slice x.at_ x.args.length x.cap) ∧ W.cell? ⟨b2, o2 + j * 3, none⟩ = some (.int .i64 y.op) ∧ W.cell? ⟨b2, o2 + j * 3 + 1, none⟩ = some (.string y.name) ∧ W.cell? ⟨b2, o2 + j * 3 + 2, none⟩ = some (.slice y.at_ y.args.length y.cap)) W))
      obtain ⟨k1, s1, A1, p1, a1⟩ := x
      obtain ⟨k2, s2, A2, p2, a2⟩ := y
      simp only at c0 c1 c2 e0 e1 e2
      clear hcs hcs2 hat hat2 hsj
      go_wp2_with fail
      go_region_held3 (fun W => W.cell? ⟨b1, o1 + j * 3, none⟩ = some (.int .i64 k1) ∧ W.cell? ⟨b1, o1 + j * 3 + 1, none⟩ = some (.string s1) ∧ W.cell? ⟨b1, o1 + j * 3 + 2, none⟩ = some (.slice A1 a1.length p1) ∧ W.cell? ⟨b2, o2 + j * 3, none⟩ = some (.int .i64 k2) ∧ W.cell? ⟨b2, o2 + j * 3 + 1, none⟩ = some (.string s2) ∧ W.cell? ⟨b2, o2 + j * 3 + 2, none⟩ = some (.slice A2 a2.length p2)) (first | (with_reducible exact HC.out _ (Ext.drew _)) | (with_reducible exact HC.out _ E1.out) | fail) (first
        | (go_at_call 66; have hF := Q.out; (with_reducible refine hF.mono ?_); rintro e y1 ⟨rfl, h1⟩; have E1 := Lib.hid (show Ext wr y1 from Ext.trans (Ext.drew _) h1); clear h1 hF)
        | fail)
      go_wp2_with fail
      go_roundw
      case rel => exact ⟨j + 1, by omega, by go_num, Lib.hid (HF.out.trans E1.out)⟩
      case measure => simp [intOf]; omega
    · obtain rfl : j = n := by omega
      go_wp2_with fail
      go_ret
      exact ⟨rfl, HF.out⟩
def weighGl (l : List Gl) (m : Int) : Int := l.foldl (fun m x => weighN x.name x.args m) m
theorem weighGl_neg (l : List Gl) {m : Int} (h : m < 0) : weighGl l m = m := by
  unfold weighGl
  induction l with
  | nil => rfl
  | cons x r ih => rw [List.foldl_cons, show weighN x.name x.args m = m from if_pos h, ih]
theorem weighGl_next {l : List Gl} {j : Nat} (h : j < l.length) (m : Int) : weighGl (l.take (j + 1)) m = weighN (l.getD j default).name (l.getD j default).args (weighGl (l.take j) m) := by
  rw [gl_take_next h]
  simp [weighGl, List.foldl_append]
theorem weighGl_stop {l : List Gl} {j : Nat} {m : Int} (h : weighGl (l.take j) m < 0) : weighGl l m = weighGl (l.take j) m := by
  have e : weighGl l m = weighGl (l.drop j) (weighGl (l.take j) m) := by
    unfold weighGl
    rw [← List.foldl_append, List.take_append_drop]
  rw [e, weighGl_neg _ h]
theorem weighGl_hi (l : List Gl) (m : Int) : weighGl l m ≤ m ∨ weighGl l m = -1 := by
  induction l generalizing m with
  | nil => exact .inl (Int.le_refl _)
  | cons x r ih =>
    have h1 := weighN_hi x.name x.args m
    have h2 := ih (weighN x.name x.args m)
    show weighGl r (weighN x.name x.args m) ≤ m ∨ weighGl r (weighN x.name x.args m) = -1
    rcases h1 with h1 | h1
    · omega
    · rw [h1]; exact .inr (weighGl_neg r (by omega))
theorem weighGl_facts (l : List Gl) (m : Int) (h : 0 ≤ weighGl l m) : (l.length : Int) + weighGl l m ≤ m ∧ ∀ x ∈ l, (nodesL x.args : Int) ≤ m := by
  induction l generalizing m with
  | nil => exact ⟨by simp [weighGl], fun x hx => by cases hx⟩
  | cons x r ih =>
    have e : weighGl (x :: r) m = weighGl r (weighN x.name x.args m) := rfl
    rw [e] at h ⊢
    have h1 := ih _ h
    have hn : 0 ≤ weighN x.name x.args m := by
      rcases Int.lt_or_le (weighN x.name x.args m) 0 with h2 | h2
      · rw [weighGl_neg r h2] at h; omega
      · exact h2
    have h3 := weighN_size hn
    have h4 : weighN x.name x.args m + 1 ≤ m := by
      unfold weighN at hn ⊢
      split at hn
      · omega
      · rename_i h5
        rw [if_neg h5]
        unfold weigh at hn ⊢
        split at hn
        · omega
        · rename_i h6
          rw [if_neg h6]
          have := (weigh_facts.2 x.args (m - 1 - (x.name.size : Int) / 8) 64).1 hn
          omega
    refine ⟨by rw [List.length_cons]; omega, fun y hy => ?_⟩
    rcases List.mem_cons.1 hy with rfl | hy
    · exact h3
    · have := h1.2 y hy; omega
set_option maxHeartbeats 4000000 in
theorem great_gls_at (l : List Gl) (A : Option Addr) (c : Nat) (most : Int) (w : World) (hl : GlLst w A l c) (h0 : 0 ≤ most) (h1 : most ≤ 1000000) {r : Bool} (hr : decide (weighGl l most < 0) = r) :
    Calls Tryz.prog 15 #[.slice A l.length c, .int .i64 most] w fun e w' => e = .returned (.bool r) ∧ Ext w w' := by
  have HL := Lib.hid hl
  have HR := Lib.hid hr
  have hlen := hl.len
  clear hl hr
  go_enter Tryz.func15, Tryz.ntmps15
  go_wp2_with fail
  go_loopw [1, 5] (fun z i wr => ∃ j : Nat, j ≤ l.length ∧ i = .int .i64 j ∧ z = .int .i64 (weighGl (l.take j) most) ∧ Hid (Ext w wr)) (fun _ i _ => l.length - (intOf i).toNat)
  case atStart => exact ⟨0, Nat.zero_le _, rfl, rfl, Lib.hid (Ext.refl _)⟩
  case round =>
    obtain ⟨j, hj, rfl, rfl, HF⟩ := hrel
    have hhi := weighGl_hi (l.take j) most
    by_cases hlt : j < l.length
    · have hjl : ((j : Nat) : Int) < (l.length : Int) := by omega
      have HT := Lib.hid (weighGl_next hlt most)
      have HST := Lib.hid (fun (h : weighGl (l.take j) most < 0) => weighGl_stop h)
      obtain ⟨b, o, rfl, hcs, hat⟩ := (HL.out.below HF.out).get hlt
      generalize weighGl (l.take j) most = v at *
      by_cases hv : 0 ≤ v
      · generalize l.getD j default = x at *
        have hsz : x.name.size ≤ 9223372036854775807 := by have := hat.2.1; unfold maxLen at this; exact this
        have P1 := Lib.hid (fun n => weigh64 x.args x.at_ x.cap (v - 1 - (x.name.size : Int) / 8) (wr.drewN n) ((hat.2.2).below (below_drewN (Below.refl _ _) n)) (by omega) (by omega))
        have hW : weighN x.name x.args v = weigh x.args (v - 1 - (x.name.size : Int) / 8) 64 := if_neg (by omega)
        rw [← hW] at P1
        rw [← HT.out]at P1
        have c0 := hcs 0 _ rfl
        have c1 := hcs 1 _ rfl
        have c2 := hcs 2 _ rfl
        simp only [Nat.add_zero] at c0
        obtain ⟨o', s', A', c', a'⟩ := x
        simp only at c0 c1 c2 hsz
        clear hcs hat hW
        obtain ⟨v2, hv2⟩ : ∃ v2, weighGl (l.take (j + 1)) most = v2 := ⟨_, rfl⟩
        have HV2 := Lib.hid hv2
        rw [hv2] at P1
        clear hv2 HT
        go_wp2_with fail
        go_quiet ((go_at_call 47; exact Calls.quiet_of (P1.out _)))
        rename_i nq
        go_wp2_with fail
        go_roundw
        case rel => exact ⟨j + 1, by omega, by go_num, by rw [HV2.out], Lib.hid (Ext.trans HF.out (below_drewN (Below.refl _ _) nq))⟩
        case measure => simp [intOf]; omega
      · have hv' : v < 0 := by omega
        have HE := Lib.hid (HST.out hv')
        go_wp2_with fail
        go_ret
        exact ⟨by rw [← HR.out, HE.out, decide_eq_true hv']; rfl, HF.out⟩
    · obtain rfl : j = l.length := by omega
      rw [List.take_length]
      generalize weighGl l most = v at *
      go_wp2_with fail
      go_ret
      exact ⟨by rw [← HR.out]; rfl, HF.out⟩
end Go.Proofs.YtnghanpmmbcbbaaGreatDoor
namespace Go.Proofs.YtnghanpmmbcbbaaGreatDoor
open Go.RowKit
set_option maxHeartbeats 16000000 in
set_option maxRecDepth 100000 in
theorem ref_shift_rule_at (r : Rl) (kk : Int) (hk : Fits kk) (w : World) (h : r.At w) (hs : r.Small) :
    Calls Tryz.prog 25 #[r.val, .int .i64 kk] w (RlMade (fun x => x.rr (shiftV kk)) (fun x => x.rr (shiftV kk)) r w) := by
  obtain ⟨X, hX⟩ : ∃ X, (w.alloc (.cells #[.string r.name, .slice r.kA r.keep.length r.kc, .slice r.rA r.remove.length r.rc, .slice r.gA r.guard.length r.gc, .slice r.bA r.body.length r.bc, .int .i64 r.vars] 25)).alloc (.cells #[.string ⟨#[]⟩, .slice none 0 0, .slice none 0 0, .slice none 0 0, .slice none 0 0, .int .i64 0] 25) = X := ⟨_, rfl⟩
  obtain ⟨HB0, HB1⟩ := two_boxesL w [.string r.name, .slice r.kA r.keep.length r.kc, .slice r.rA r.remove.length r.rc, .slice r.gA r.guard.length r.gc, .slice r.bA r.body.length r.bc, .int .i64 r.vars] [.string ⟨#[]⟩, .slice none 0 0, .slice none 0 0, .slice none 0 0, .slice none 0 0, .int .i64 0] 25
  have H0 := Lib.hid (show HeldL w.heap.size X [.string r.name, .slice r.kA r.keep.length r.kc, .slice r.rA r.remove.length r.rc, .slice r.gA r.guard.length r.gc, .slice r.bA r.body.length r.bc, .int .i64 r.vars] from by rw [← hX]; exact HB0)
  have H1 := Lib.hid (show HeldL (w.heap.size + 1) X [.string ⟨#[]⟩, .slice none 0 0, .slice none 0 0, .slice none 0 0, .slice none 0 0, .int .i64 0] from by rw [← hX]; exact HB1)
  have HX := Lib.hid (show Ext w X ∧ X.heap.size = w.heap.size + 2 from by rw [← hX]; exact ⟨Ext.al2 _ _ _, by simp⟩)
  have Q1 := Lib.hid (fun (W : World) (hb : Ext X W) => ref_shift_ams_at kk hk w r.keep r.kA r.kc W (Ext.trans HX.out.1 hb) h.keep hs.k1 hs.k2)
  have Q2 := Lib.hid (fun (W : World) (hb : Ext X W) => ref_shift_ams_at kk hk w r.remove r.rA r.rc W (Ext.trans HX.out.1 hb) h.remove hs.r1 hs.r2)
  have Q3 := Lib.hid (fun (W : World) (hb : Ext X W) => ref_shift_gls_at kk hk w r.guard r.gA r.gc W (Ext.trans HX.out.1 hb) h.guard hs.g1 hs.g2)
  have Q4 := Lib.hid (fun (W : World) (hb : Ext X W) => ref_shift_gls_at kk hk w r.body r.bA r.bc W (Ext.trans HX.out.1 hb) h.body hs.b1 hs.b2)
  have HA := Lib.hid (And.intro h.name h.vars)
  have HC := Lib.hid (fun W (h : Ext X W) => (⟨(H0.out.below h).cell 0 _ rfl, (H0.out.below h).cell 1 _ rfl, (H0.out.below h).cell 2 _ rfl, (H0.out.below h).cell 3 _ rfl, (H0.out.below h).cell 4 _ rfl, (H0.out.below h).cell 5 _ rfl⟩ : (fun W => W.cell? ⟨w.heap.size, 0, none⟩ = some (.string r.name) ∧ W.cell? ⟨w.heap.size, 1, none⟩ = some (.slice r.kA r.keep.length r.kc) ∧ W.cell? ⟨w.heap.size, 2, none⟩ = some (.slice r.rA r.remove.length r.rc) ∧ W.cell? ⟨w.heap.size, 3, none⟩ = some (.slice r.gA r.guard.length r.gc) ∧ W.cell? ⟨w.heap.size, 4, none⟩ = some (.slice r.bA r.body.length r.bc) ∧ W.cell? ⟨w.heap.size, 5, none⟩ = some (.int .i64 r.vars)) W))
  have HCZ := Lib.hid (fun W (h : Ext X W) (a b c d e f : Value) => (⟨((((((((H0.out.below h).other (p := ⟨w.heap.size + 1, 0, none⟩) (by show w.heap.size + 1 ≠ w.heap.size; omega) a).other (p := ⟨w.heap.size + 1, 1, none⟩) (by show w.heap.size + 1 ≠ w.heap.size; omega) b).other (p := ⟨w.heap.size + 1, 2, none⟩) (by show w.heap.size + 1 ≠ w.heap.size; omega) c).other (p := ⟨w.heap.size + 1, 3, none⟩) (by show w.heap.size + 1 ≠ w.heap.size; omega) d).other (p := ⟨w.heap.size + 1, 4, none⟩) (by show w.heap.size + 1 ≠ w.heap.size; omega) e).other (p := ⟨w.heap.size + 1, 5, none⟩) (by show w.heap.size + 1 ≠ w.heap.size; omega) f)).cell 0 _ rfl, ((((((((H0.out.below h).other (p := ⟨w.heap.size + 1, 0, none⟩) (by show w.heap.size + 1 ≠ w.heap.size; omega) a).other (p := ⟨w.heap.size + 1, 1, none⟩) (by show w.heap.size + 1 ≠ w.heap.size; omega) b).other (p := ⟨w.heap.size + 1, 2, none⟩) (by show w.heap.size + 1 ≠ w.heap.size; omega) c).other (p := ⟨w.heap.size + 1, 3, none⟩) (by show w.heap.size + 1 ≠ w.heap.size; omega) d).other (p := ⟨w.heap.size + 1, 4, none⟩) (by show w.heap.size + 1 ≠ w.heap.size; omega) e).other (p := ⟨w.heap.size + 1, 5, none⟩) (by show w.heap.size + 1 ≠ w.heap.size; omega) f)).cell 1 _ rfl, ((((((((H0.out.below h).other (p := ⟨w.heap.size + 1, 0, none⟩) (by show w.heap.size + 1 ≠ w.heap.size; omega) a).other (p := ⟨w.heap.size + 1, 1, none⟩) (by show w.heap.size + 1 ≠ w.heap.size; omega) b).other (p := ⟨w.heap.size + 1, 2, none⟩) (by show w.heap.size + 1 ≠ w.heap.size; omega) c).other (p := ⟨w.heap.size + 1, 3, none⟩) (by show w.heap.size + 1 ≠ w.heap.size; omega) d).other (p := ⟨w.heap.size + 1, 4, none⟩) (by show w.heap.size + 1 ≠ w.heap.size; omega) e).other (p := ⟨w.heap.size + 1, 5, none⟩) (by show w.heap.size + 1 ≠ w.heap.size; omega) f)).cell 2 _ rfl, ((((((((H0.out.below h).other (p := ⟨w.heap.size + 1, 0, none⟩) (by show w.heap.size + 1 ≠ w.heap.size; omega) a).other (p := ⟨w.heap.size + 1, 1, none⟩) (by show w.heap.size + 1 ≠ w.heap.size; omega) b).other (p := ⟨w.heap.size + 1, 2, none⟩) (by show w.heap.size + 1 ≠ w.heap.size; omega) c).other (p := ⟨w.heap.size + 1, 3, none⟩) (by show w.heap.size + 1 ≠ w.heap.size; omega) d).other (p := ⟨w.heap.size + 1, 4, none⟩) (by show w.heap.size + 1 ≠ w.heap.size; omega) e).other (p := ⟨w.heap.size + 1, 5, none⟩) (by show w.heap.size + 1 ≠ w.heap.size; omega) f)).cell 3 _ rfl, ((((((((H0.out.below h).other (p := ⟨w.heap.size + 1, 0, none⟩) (by show w.heap.size + 1 ≠ w.heap.size; omega) a).other (p := ⟨w.heap.size + 1, 1, none⟩) (by show w.heap.size + 1 ≠ w.heap.size; omega) b).other (p := ⟨w.heap.size + 1, 2, none⟩) (by show w.heap.size + 1 ≠ w.heap.size; omega) c).other (p := ⟨w.heap.size + 1, 3, none⟩) (by show w.heap.size + 1 ≠ w.heap.size; omega) d).other (p := ⟨w.heap.size + 1, 4, none⟩) (by show w.heap.size + 1 ≠ w.heap.size; omega) e).other (p := ⟨w.heap.size + 1, 5, none⟩) (by show w.heap.size + 1 ≠ w.heap.size; omega) f)).cell 4 _ rfl, ((((((((H0.out.below h).other (p := ⟨w.heap.size + 1, 0, none⟩) (by show w.heap.size + 1 ≠ w.heap.size; omega) a).other (p := ⟨w.heap.size + 1, 1, none⟩) (by show w.heap.size + 1 ≠ w.heap.size; omega) b).other (p := ⟨w.heap.size + 1, 2, none⟩) (by show w.heap.size + 1 ≠ w.heap.size; omega) c).other (p := ⟨w.heap.size + 1, 3, none⟩) (by show w.heap.size + 1 ≠ w.heap.size; omega) d).other (p := ⟨w.heap.size + 1, 4, none⟩) (by show w.heap.size + 1 ≠ w.heap.size; omega) e).other (p := ⟨w.heap.size + 1, 5, none⟩) (by show w.heap.size + 1 ≠ w.heap.size; omega) f)).cell 5 _ rfl⟩ : (fun W => W.cell? ⟨w.heap.size, 0, none⟩ = some (.string r.name) ∧ W.cell? ⟨w.heap.size, 1, none⟩ = some (.slice r.kA r.keep.length r.kc) ∧ W.cell? ⟨w.heap.size, 2, none⟩ = some (.slice r.rA r.remove.length r.rc) ∧ W.cell? ⟨w.heap.size, 3, none⟩ = some (.slice r.gA r.guard.length r.gc) ∧ W.cell? ⟨w.heap.size, 4, none⟩ = some (.slice r.bA r.body.length r.bc) ∧ W.cell? ⟨w.heap.size, 5, none⟩ = some (.int .i64 r.vars)) ((((((W.setCell ⟨w.heap.size + 1, 0, none⟩ a).setCell ⟨w.heap.size + 1, 1, none⟩ b).setCell ⟨w.heap.size + 1, 2, none⟩ c).setCell ⟨w.heap.size + 1, 3, none⟩ d).setCell ⟨w.heap.size + 1, 4, none⟩ e).setCell ⟨w.heap.size + 1, 5, none⟩ f)))
  clear HB0 HB1 h hs
  show Calls Tryz.prog 25 #[.agg #[.string r.name, .slice r.kA r.keep.length r.kc, .slice r.rA r.remove.length r.rc, .slice r.gA r.guard.length r.gc, .slice r.bA r.body.length r.bc, .int .i64 r.vars], .int .i64 kk] w _
  go_enter Tryz.func25, Tryz.ntmps25
  go_upto_region 1 with (fail)
  (try rw [hX])
  clear hX
  go_region_held3 (fun W => W.cell? ⟨w.heap.size, 0, none⟩ = some (.string r.name) ∧ W.cell? ⟨w.heap.size, 1, none⟩ = some (.slice r.kA r.keep.length r.kc) ∧ W.cell? ⟨w.heap.size, 2, none⟩ = some (.slice r.rA r.remove.length r.rc) ∧ W.cell? ⟨w.heap.size, 3, none⟩ = some (.slice r.gA r.guard.length r.gc) ∧ W.cell? ⟨w.heap.size, 4, none⟩ = some (.slice r.bA r.body.length r.bc) ∧ W.cell? ⟨w.heap.size, 5, none⟩ = some (.int .i64 r.vars)) (first | (with_reducible exact HCZ.out _ EZ.out _ _ _ _ _ _) | (with_reducible exact HC.out _ (Ext.drew _)) | (with_reducible exact HC.out _ E1.out) | (with_reducible exact HC.out _ E2.out) | (with_reducible exact HC.out _ E3.out) | (with_reducible exact HC.out _ EZ.out) | fail) (first
    | (go_at_call 62; (with_reducible refine (Q1.out X.drew (Ext.drew X)).mono ?_); rintro e y1 ⟨A1, c1, k, rfl, hl, hs, hL, h1⟩; have E1 := Lib.hid (show Ext X y1 from Ext.trans (Ext.drew X) h1);  have Lk1 := Lib.hid (LP.low (lo' := w.heap.size + 2) (P := fun W => From w W → AmLst W A1 k c1) (w := y1) (fun W hW hF => hL W hF hW) (by have := (Ext.drew X).size; have := HX.out.2; simp at this ⊢; omega)); have Sk := Lib.hid (And.intro hl hs); clear hL h1 hl hs)
    | (go_at_call 62; (with_reducible refine (Q2.out y1 E1.out).mono ?_); rintro e y2 ⟨A2, c2, m, rfl, hl, hs, hL, h1⟩; have E2 := Lib.hid (show Ext X y2 from Ext.trans E1.out h1); have Lk2 := Lib.hid (Lk1.out.below h1); have Lm2 := Lib.hid (LP.low (lo' := w.heap.size + 2) (P := fun W => From w W → AmLst W A2 m c2) (w := y2) (fun W hW hF => hL W hF hW) (by have := E1.out.size; have := HX.out.2; simp at this ⊢; omega)); have Sm := Lib.hid (And.intro hl hs); clear hL h1 hl hs)
    | (go_at_call 63; (with_reducible refine (Q3.out y2 E2.out).mono ?_); rintro e y3 ⟨A3, c3, g, rfl, hl, hs, hL, h1⟩; have E3 := Lib.hid (show Ext X y3 from Ext.trans E2.out h1); have Lk3 := Lib.hid (Lk2.out.below h1); have Lm3 := Lib.hid (Lm2.out.below h1); have Lg3 := Lib.hid (LP.low (lo' := w.heap.size + 2) (P := fun W => From w W → GlLst W A3 g c3) (w := y3) (fun W hW hF => hL W hF hW) (by have := E2.out.size; have := HX.out.2; simp at this ⊢; omega)); have Sg := Lib.hid (And.intro hl hs); clear hL h1 hl hs)
    | (go_at_call 63; (with_reducible refine (Q4.out y3 E3.out).mono ?_); rintro e y4 ⟨A4, c4, b, rfl, hl, hs, hL, h1⟩; have E4 := Lib.hid (show Ext X y4 from Ext.trans E3.out h1); have Lk4 := Lib.hid (Lk3.out.below h1); have Lm4 := Lib.hid (Lm3.out.below h1); have Lg4 := Lib.hid (Lg3.out.below h1); have Lb4 := Lib.hid (LP.low (lo' := w.heap.size + 2) (P := fun W => From w W → GlLst W A4 b c4) (w := y4) (fun W hW hF => hL W hF hW) (by have := E3.out.size; have := HX.out.2; simp at this ⊢; omega)); have Sb := Lib.hid (And.intro hl hs); have EZ := E4; have ZB := Lib.hid (H1.out.below E4.out); have q0 := ZB.out.cell 0 _ rfl; have q1 := ZB.out.cell 1 _ rfl; have q2 := ZB.out.cell 2 _ rfl; have q3 := ZB.out.cell 3 _ rfl; have q4 := ZB.out.cell 4 _ rfl; have q5 := ZB.out.cell 5 _ rfl; have f0 := ZB.out.free 0; have f1 := ZB.out.free 1; have f2 := ZB.out.free 2; have f3 := ZB.out.free 3; have f4 := ZB.out.free 4; have f5 := ZB.out.free 5; have hz := ZB.out.lt; clear hL h1 hl hs)
    | fail)
  all_goals
    go_wp2_with fail
    refine bodyPost_ret (v := .agg #[.string r.name, .slice A1 r.keep.length c1, .slice A2 r.remove.length c2, .slice A3 r.guard.length c3, .slice A4 r.body.length c4, .int .i64 r.vars]) (by simp [results, Tryz.results25, go_sem, q0, q1, q2, q3, q4, q5]) rfl ?_
    have HE := Lib.hid (show Below w.heap.size w y4 from Ext.trans HX.out.1 E4.out)
    refine ⟨⟨r.name, A1, c1, k, A2, c2, m, A3, c3, g, A4, c4, b, r.vars⟩, by rw [← Sk.out.1, ← Sm.out.1, ← Sg.out.1, ← Sb.out.1], ⟨rfl, rfl, Sk.out.1, Sk.out.2, Sm.out.1, Sm.out.2, Sg.out.1, Sg.out.2, Sb.out.1, Sb.out.2⟩, ⟨HA.out.1, LP.now (LP.set (LP.set (LP.set (LP.set (LP.set (LP.set Lk4.out (p := ⟨w.heap.size + 1, 0, none⟩) (by show w.heap.size + 1 < w.heap.size + 2; omega) _) (p := ⟨w.heap.size + 1, 1, none⟩) (by show w.heap.size + 1 < w.heap.size + 2; omega) _) (p := ⟨w.heap.size + 1, 2, none⟩) (by show w.heap.size + 1 < w.heap.size + 2; omega) _) (p := ⟨w.heap.size + 1, 3, none⟩) (by show w.heap.size + 1 < w.heap.size + 2; omega) _) (p := ⟨w.heap.size + 1, 4, none⟩) (by show w.heap.size + 1 < w.heap.size + 2; omega) _) (p := ⟨w.heap.size + 1, 5, none⟩) (by show w.heap.size + 1 < w.heap.size + 2; omega) _) (Below.setCell (Below.setCell (Below.setCell (Below.setCell (Below.setCell (Below.setCell HE.out (p := ⟨w.heap.size + 1, 0, none⟩) (Nat.le_succ _) _) (p := ⟨w.heap.size + 1, 1, none⟩) (Nat.le_succ _) _) (p := ⟨w.heap.size + 1, 2, none⟩) (Nat.le_succ _) _) (p := ⟨w.heap.size + 1, 3, none⟩) (Nat.le_succ _) _) (p := ⟨w.heap.size + 1, 4, none⟩) (Nat.le_succ _) _) (p := ⟨w.heap.size + 1, 5, none⟩) (Nat.le_succ _) _), LP.now (LP.set (LP.set (LP.set (LP.set (LP.set (LP.set Lm4.out (p := ⟨w.heap.size + 1, 0, none⟩) (by show w.heap.size + 1 < w.heap.size + 2; omega) _) (p := ⟨w.heap.size + 1, 1, none⟩) (by show w.heap.size + 1 < w.heap.size + 2; omega) _) (p := ⟨w.heap.size + 1, 2, none⟩) (by show w.heap.size + 1 < w.heap.size + 2; omega) _) (p := ⟨w.heap.size + 1, 3, none⟩) (by show w.heap.size + 1 < w.heap.size + 2; omega) _) (p := ⟨w.heap.size + 1, 4, none⟩) (by show w.heap.size + 1 < w.heap.size + 2; omega) _) (p := ⟨w.heap.size + 1, 5, none⟩) (by show w.heap.size + 1 < w.heap.size + 2; omega) _) (Below.setCell (Below.setCell (Below.setCell (Below.setCell (Below.setCell (Below.setCell HE.out (p := ⟨w.heap.size + 1, 0, none⟩) (Nat.le_succ _) _) (p := ⟨w.heap.size + 1, 1, none⟩) (Nat.le_succ _) _) (p := ⟨w.heap.size + 1, 2, none⟩) (Nat.le_succ _) _) (p := ⟨w.heap.size + 1, 3, none⟩) (Nat.le_succ _) _) (p := ⟨w.heap.size + 1, 4, none⟩) (Nat.le_succ _) _) (p := ⟨w.heap.size + 1, 5, none⟩) (Nat.le_succ _) _), LP.now (LP.set (LP.set (LP.set (LP.set (LP.set (LP.set Lg4.out (p := ⟨w.heap.size + 1, 0, none⟩) (by show w.heap.size + 1 < w.heap.size + 2; omega) _) (p := ⟨w.heap.size + 1, 1, none⟩) (by show w.heap.size + 1 < w.heap.size + 2; omega) _) (p := ⟨w.heap.size + 1, 2, none⟩) (by show w.heap.size + 1 < w.heap.size + 2; omega) _) (p := ⟨w.heap.size + 1, 3, none⟩) (by show w.heap.size + 1 < w.heap.size + 2; omega) _) (p := ⟨w.heap.size + 1, 4, none⟩) (by show w.heap.size + 1 < w.heap.size + 2; omega) _) (p := ⟨w.heap.size + 1, 5, none⟩) (by show w.heap.size + 1 < w.heap.size + 2; omega) _) (Below.setCell (Below.setCell (Below.setCell (Below.setCell (Below.setCell (Below.setCell HE.out (p := ⟨w.heap.size + 1, 0, none⟩) (Nat.le_succ _) _) (p := ⟨w.heap.size + 1, 1, none⟩) (Nat.le_succ _) _) (p := ⟨w.heap.size + 1, 2, none⟩) (Nat.le_succ _) _) (p := ⟨w.heap.size + 1, 3, none⟩) (Nat.le_succ _) _) (p := ⟨w.heap.size + 1, 4, none⟩) (Nat.le_succ _) _) (p := ⟨w.heap.size + 1, 5, none⟩) (Nat.le_succ _) _), LP.now (LP.set (LP.set (LP.set (LP.set (LP.set (LP.set Lb4.out (p := ⟨w.heap.size + 1, 0, none⟩) (by show w.heap.size + 1 < w.heap.size + 2; omega) _) (p := ⟨w.heap.size + 1, 1, none⟩) (by show w.heap.size + 1 < w.heap.size + 2; omega) _) (p := ⟨w.heap.size + 1, 2, none⟩) (by show w.heap.size + 1 < w.heap.size + 2; omega) _) (p := ⟨w.heap.size + 1, 3, none⟩) (by show w.heap.size + 1 < w.heap.size + 2; omega) _) (p := ⟨w.heap.size + 1, 4, none⟩) (by show w.heap.size + 1 < w.heap.size + 2; omega) _) (p := ⟨w.heap.size + 1, 5, none⟩) (by show w.heap.size + 1 < w.heap.size + 2; omega) _) (Below.setCell (Below.setCell (Below.setCell (Below.setCell (Below.setCell (Below.setCell HE.out (p := ⟨w.heap.size + 1, 0, none⟩) (Nat.le_succ _) _) (p := ⟨w.heap.size + 1, 1, none⟩) (Nat.le_succ _) _) (p := ⟨w.heap.size + 1, 2, none⟩) (Nat.le_succ _) _) (p := ⟨w.heap.size + 1, 3, none⟩) (Nat.le_succ _) _) (p := ⟨w.heap.size + 1, 4, none⟩) (Nat.le_succ _) _) (p := ⟨w.heap.size + 1, 5, none⟩) (Nat.le_succ _) _), HA.out.2⟩, (Below.setCell (Below.setCell (Below.setCell (Below.setCell (Below.setCell (Below.setCell HE.out (p := ⟨w.heap.size + 1, 0, none⟩) (Nat.le_succ _) _) (p := ⟨w.heap.size + 1, 1, none⟩) (Nat.le_succ _) _) (p := ⟨w.heap.size + 1, 2, none⟩) (Nat.le_succ _) _) (p := ⟨w.heap.size + 1, 3, none⟩) (Nat.le_succ _) _) (p := ⟨w.heap.size + 1, 4, none⟩) (Nat.le_succ _) _) (p := ⟨w.heap.size + 1, 5, none⟩) (Nat.le_succ _) _)⟩
end Go.Proofs.YtnghanpmmbcbbaaGreatDoor
namespace Go.Proofs.YtnghanpmmbcbbaaGreatDoor
open Go.RowKit
theorem am_key_get {l m : List Am} {f : Am → Am} (h : l.map Am.key = (m.map f).map Am.key) {i : Nat} (hi : i < m.length) : (l.getD i default).key = (f (m.getD i default)).key := by
  have hl : l.length = m.length := by have := congrArg List.length h; simpa using this
  have h2 := congrArg (fun x => x[i]?) h
  simp only [List.getElem?_map, List.getElem?_eq_getElem (show i < l.length by omega), List.getElem?_eq_getElem hi, Option.map_some, Option.some.injEq] at h2
  simpa [List.getD, List.getElem?_eq_getElem (show i < l.length by omega), List.getElem?_eq_getElem hi] using h2
theorem gl_key_get {l m : List Gl} {f : Gl → Gl} (h : l.map Gl.key = (m.map f).map Gl.key) {i : Nat} (hi : i < m.length) : (l.getD i default).key = (f (m.getD i default)).key := by
  have hl : l.length = m.length := by have := congrArg List.length h; simpa using this
  have h2 := congrArg (fun x => x[i]?) h
  simp only [List.getElem?_map, List.getElem?_eq_getElem (show i < l.length by omega), List.getElem?_eq_getElem hi, Option.map_some, Option.some.injEq] at h2
  simpa [List.getD, List.getElem?_eq_getElem (show i < l.length by omega), List.getElem?_eq_getElem hi] using h2
def greatR (r : Rl) : Bool := decide ((300 : Int) < (r.name.size : Int) / 8 + (r.keep.length : Int) + (r.remove.length : Int)) || (decide (weighAm r.keep 300 < 0) || (decide (weighAm r.remove 300 < 0) || (decide (weighGl r.guard 300 < 0) || decide (weighGl r.body 300 < 0))))
theorem great_eq {r : Rl} {q b0 b1 b2 b3 b4 : Bool} (hq : greatR r = q) (e0 : decide ((300 : Int) < wrap64 (wrap64 ((r.name.size : Int) / 8 + (r.keep.length : Int)) + (r.remove.length : Int))) = b0) (e1 : decide (weighAm r.keep 300 < 0) = b1) (e2 : decide (weighAm r.remove 300 < 0) = b2) (e3 : decide (weighGl r.guard 300 < 0) = b3) (e4 : decide (weighGl r.body 300 < 0) = b4) (hn : r.name.size ≤ 9223372036854775807) :
    (b0 || (b1 || (b2 || (b3 || b4)))) = q := by
  by_cases hs : r.keep.length ≤ 300 ∧ r.remove.length ≤ 300
  · have e : decide ((300 : Int) < (r.name.size : Int) / 8 + (r.keep.length : Int) + (r.remove.length : Int)) = b0 := by
      rw [← e0]
      rw [decide_eq_decide]
      unfold wrap64
      omega
    rw [← hq, ← e, ← e1, ← e2, ← e3, ← e4]
    rfl
  · have h0 : decide ((300 : Int) < (r.name.size : Int) / 8 + (r.keep.length : Int) + (r.remove.length : Int)) = true := decide_eq_true (by omega)
    have hq2 : q = true := by rw [← hq]; unfold greatR; rw [h0]; rfl
    have h12 : b1 = true ∨ b2 = true := by
      by_cases hk : r.keep.length ≤ 300
      · right
        rw [← e2]
        refine decide_eq_true (Int.not_le.1 fun h => ?_)
        have := (weighAm_facts _ _ h).1
        omega
      · left
        rw [← e1]
        refine decide_eq_true (Int.not_le.1 fun h => ?_)
        have := (weighAm_facts _ _ h).1
        omega
    rw [hq2]
    rcases h12 with rfl | rfl <;> simp
end Go.Proofs.YtnghanpmmbcbbaaGreatDoor
namespace Go.Proofs.YtnghanpmmbcbbaaGreatDoor
open Go.ChangeShapes Go.WideShapes Go.ChangeAt Go.RowKit
def Rl.cells (x : Rl) : List Value := [.string x.name, .slice x.kA x.keep.length x.kc, .slice x.rA x.remove.length x.rc, .slice x.gA x.guard.length x.gc, .slice x.bA x.body.length x.bc, .int .i64 x.vars]
instance : Inhabited Rl := ⟨⟨⟨#[]⟩, none, 0, [], none, 0, [], none, 0, [], none, 0, [], 0⟩⟩
theorem Rl.cells_lt {x : Rl} {j : Nat} {u : Value} (h : x.cells[j]? = some u) : j < 6 := by
  have := (List.getElem?_eq_some_iff.1 h).1
  simpa [Rl.cells] using this
structure Dc where
  name : ByteArray
  arity : Int
instance : Inhabited Dc := ⟨⟨⟨#[]⟩, 0⟩⟩
def Dc.cells (x : Dc) : List Value := [.string x.name, .int .i64 x.arity]
def Dc.At (_ : World) (x : Dc) : Prop := x.name.size ≤ maxLen ∧ Fits x.arity
theorem Dc.At.below {w w' : World} {x : Dc} (h : x.At w) (_ : Below w.heap.size w w') : x.At w' := h
theorem Dc.cells_lt {x : Dc} {j : Nat} {u : Value} (h : x.cells[j]? = some u) : j < 2 := by
  have := (List.getElem?_eq_some_iff.1 h).1
  simpa [Dc.cells] using this
def RlRow (w : World) (l : List Rl) (b o : Nat) : Prop := ∀ i, i < l.length → (∀ j u, (l.getD i default).cells[j]? = some u → w.cell? ⟨b, o + i * 6 + j, none⟩ = some u) ∧ (l.getD i default).At w
def RlLst (w : World) (A : Option Addr) (l : List Rl) (c : Nat) : Prop := l.length ≤ c ∧ c ≤ maxLen ∧ (0 < l.length → ∃ b o, A = some ⟨b, o, none⟩ ∧ RlRow w l b o)
theorem rl_getD_mem {l : List Rl} {k : Nat} (h : k < l.length) : l.getD k default ∈ l := by
  rw [show l.getD k default = l[k] from by simp [List.getD, h]]
  exact List.getElem_mem h
theorem rl_take_next {l : List Rl} {k : Nat} (h : k < l.length) : l.take (k + 1) = l.take k ++ [l.getD k default] := by
  rw [List.take_add_one, List.getElem?_eq_getElem h]
  simp [List.getD, h]
section
variable {w w' : World} {A : Option Addr} {l : List Rl} {b o c : Nat}
theorem RlRow.below (h : RlRow w l b o) (hb : Below w.heap.size w w') : RlRow w' l b o := fun i hi => ⟨fun j u hu => keepv hb ((h i hi).1 j u hu), (h i hi).2.below hb⟩
theorem RlLst.below (h : RlLst w A l c) (hb : Below w.heap.size w w') : RlLst w' A l c := ⟨h.1, h.2.1, fun hn => by
  obtain ⟨b, o, e, hr⟩ := h.2.2 hn
  exact ⟨b, o, e, hr.below hb⟩⟩
theorem RlLst.get (h : RlLst w A l c) {i : Nat} (hi : i < l.length) : ∃ b o, A = some ⟨b, o, none⟩ ∧ (∀ j u, (l.getD i default).cells[j]? = some u → w.cell? ⟨b, o + i * 6 + j, none⟩ = some u) ∧ (l.getD i default).At w := by
  obtain ⟨b, o, e, hr⟩ := h.2.2 (by omega)
  exact ⟨b, o, e, hr i hi⟩
theorem RlLst.mem (h : RlLst w A l c) {x : Rl} (hx : x ∈ l) : x.At w := by
  obtain ⟨i, hi, e⟩ := List.mem_iff_getElem.1 hx
  obtain ⟨_, _, _, _, h2⟩ := h.get hi
  simpa [List.getD, List.getElem?_eq_getElem hi, e] using h2
theorem RlLst.len (h : RlLst w A l c) : l.length ≤ 9223372036854775807 := by have := h.1; have := h.2.1; unfold maxLen at *; omega
theorem RlLst.nil (w : World) : RlLst w none [] 0 := ⟨Nat.le_refl _, Nat.zero_le _, fun h => absurd h (by simp)⟩
end
def DcRow (w : World) (l : List Dc) (b o : Nat) : Prop := ∀ i, i < l.length → (∀ j u, (l.getD i default).cells[j]? = some u → w.cell? ⟨b, o + i * 2 + j, none⟩ = some u) ∧ (l.getD i default).At w
def DcLst (w : World) (A : Option Addr) (l : List Dc) (c : Nat) : Prop := l.length ≤ c ∧ c ≤ maxLen ∧ (0 < l.length → ∃ b o, A = some ⟨b, o, none⟩ ∧ DcRow w l b o)
theorem dc_getD_mem {l : List Dc} {k : Nat} (h : k < l.length) : l.getD k default ∈ l := by
  rw [show l.getD k default = l[k] from by simp [List.getD, h]]
  exact List.getElem_mem h
theorem dc_take_next {l : List Dc} {k : Nat} (h : k < l.length) : l.take (k + 1) = l.take k ++ [l.getD k default] := by
  rw [List.take_add_one, List.getElem?_eq_getElem h]
  simp [List.getD, h]
section
variable {w w' : World} {A : Option Addr} {l : List Dc} {b o c : Nat}
theorem DcRow.below (h : DcRow w l b o) (hb : Below w.heap.size w w') : DcRow w' l b o := fun i hi => ⟨fun j u hu => keepv hb ((h i hi).1 j u hu), (h i hi).2.below hb⟩
theorem DcLst.below (h : DcLst w A l c) (hb : Below w.heap.size w w') : DcLst w' A l c := ⟨h.1, h.2.1, fun hn => by
  obtain ⟨b, o, e, hr⟩ := h.2.2 hn
  exact ⟨b, o, e, hr.below hb⟩⟩
theorem DcLst.get (h : DcLst w A l c) {i : Nat} (hi : i < l.length) : ∃ b o, A = some ⟨b, o, none⟩ ∧ (∀ j u, (l.getD i default).cells[j]? = some u → w.cell? ⟨b, o + i * 2 + j, none⟩ = some u) ∧ (l.getD i default).At w := by
  obtain ⟨b, o, e, hr⟩ := h.2.2 (by omega)
  exact ⟨b, o, e, hr i hi⟩
theorem DcLst.mem (h : DcLst w A l c) {x : Dc} (hx : x ∈ l) : x.At w := by
  obtain ⟨i, hi, e⟩ := List.mem_iff_getElem.1 hx
  obtain ⟨_, _, _, _, h2⟩ := h.get hi
  simpa [List.getD, List.getElem?_eq_getElem hi, e] using h2
theorem DcLst.len (h : DcLst w A l c) : l.length ≤ 9223372036854775807 := by have := h.1; have := h.2.1; unfold maxLen at *; omega
theorem DcLst.nil (w : World) : DcLst w none [] 0 := ⟨Nat.le_refl _, Nat.zero_le _, fun h => absurd h (by simp)⟩
end
section
variable {H : Type} {enc : TypeId × Value → H} {W : World} {base : Nat} {spare : Nat → Bool} {held : Bool}
set_option maxRecDepth 100000 in
theorem rl_of (n : Nat) (cs : List Value) (x : DataW H × List MemPlace) (h : DataW.trod enc Tryz.prog W base spare held n 25 cs = some x) : ∃ y : Rl, cs = y.cells ∧ y.At W := by
  obtain ⟨xs, m, _, _, hcl, hxl, hg⟩ := DataW.trod_struct Tryz.underlying25 h
  have hcl' : cs.length = 6 := hcl.trans (by kernel_rfl)
  match cs, hcl' with
  | [c0, c1, c2, c3, c4, c5], _ =>
    have hxs : xs.length = 6 := hxl
    have g0 := hg 0 _ rfl
    have g1 := hg 1 _ rfl
    have g2 := hg 2 _ rfl
    have g3 := hg 3 _ rfl
    have g4 := hg 4 _ rfl
    have g5 := hg 5 _ rfl
    rw [List.getElem?_eq_getElem (by omega)] at g0 g1 g2 g3 g4 g5
    have e0 : (Tryz.prog.cellsOf 9) = 1 := by kernel_rfl
    have e1 : (Tryz.prog.cellsOf 22) = 1 := by kernel_rfl
    have e2 : (Tryz.prog.cellsOf 23) = 1 := by kernel_rfl
    have e3 : (Tryz.prog.cellsOf 3) = 1 := by kernel_rfl
    simp only [List.getElem_toArray, List.getElem_cons_zero, List.getElem_cons_succ] at g0 g1 g2 g3 g4 g5
    obtain ⟨s, hs, _, ws⟩ := DataW.trod_string (cs := [c0]) Tryz.underlying9 (by simpa [e0] using g0)
    obtain ⟨A1, l1, n1, hv1, hl1⟩ := ams_of (v := c1) (by simpa [e1] using g1)
    obtain ⟨A2, l2, n2, hv2, hl2⟩ := ams_of (v := c2) (by simpa [e1] using g2)
    obtain ⟨A3, l3, n3, hv3, hl3⟩ := gls_of (v := c3) (by simpa [e2] using g3)
    obtain ⟨A4, l4, n4, hv4, hl4⟩ := gls_of (v := c4) (by simpa [e2] using g4)
    obtain ⟨k, hk, _, wk⟩ := DataW.trod_int (cs := [c5]) Tryz.underlying3 (by simpa [e3] using g5)
    obtain rfl : c0 = .string s := by simpa using hs
    obtain rfl : c5 = .int .i64 k := by simpa using hk
    subst hv1 hv2 hv3 hv4
    exact ⟨⟨s, A1, n1, l1, A2, n2, l2, A3, n3, l3, A4, n4, l4, k⟩, rfl, ⟨ws, hl1, hl2, hl3, hl4, int_fits wk⟩⟩
set_option maxRecDepth 100000 in
theorem dc_of (n : Nat) (cs : List Value) (x : DataW H × List MemPlace) (h : DataW.trod enc Tryz.prog W base spare held n 38 cs = some x) : ∃ y : Dc, cs = y.cells ∧ y.At W := by
  obtain ⟨xs, m, _, _, hcl, hxl, hg⟩ := DataW.trod_struct Tryz.underlying38 h
  have hcl' : cs.length = 2 := hcl.trans (by kernel_rfl)
  match cs, hcl' with
  | [c0, c1], _ =>
    have hxs : xs.length = 2 := hxl
    have g0 := hg 0 _ rfl
    have g1 := hg 1 _ rfl
    rw [List.getElem?_eq_getElem (by omega)] at g0 g1
    have e0 : (Tryz.prog.cellsOf 9) = 1 := by kernel_rfl
    have e3 : (Tryz.prog.cellsOf 3) = 1 := by kernel_rfl
    simp only [List.getElem_toArray, List.getElem_cons_zero, List.getElem_cons_succ] at g0 g1
    obtain ⟨s, hs, _, ws⟩ := DataW.trod_string (cs := [c0]) Tryz.underlying9 (by simpa [e0] using g0)
    obtain ⟨k, hk, _, wk⟩ := DataW.trod_int (cs := [c1]) Tryz.underlying3 (by simpa [e3] using g1)
    obtain rfl : c0 = .string s := by simpa using hs
    obtain rfl : c1 = .int .i64 k := by simpa using hk
    exact ⟨⟨s, k⟩, rfl, ws, int_fits wk⟩
set_option maxRecDepth 100000 in
theorem rls_of {n : Nat} {v : Value} {x : DataW H × List MemPlace} (h : DataW.trod enc Tryz.prog W base spare held n 27 [v] = some x) :
    ∃ (A : Option Addr) (l : List Rl) (c : Nat), v = .slice A l.length c ∧ RlLst W A l c := by
  rcases DataW.trod_slice Tryz.underlying27 h with ⟨hcs, _⟩ | ⟨a, len, cap, elems, rest, n', hn, hcs, _, _, hl, hm, hlen, hel, _⟩
  · obtain rfl : v = .slice none 0 0 := by simpa using hcs
    exact ⟨none, [], 0, rfl, RlLst.nil W⟩
  · obtain rfl : v = .slice (some a) len cap := by simpa using hcs
    have cT : Tryz.prog.cellsOf 25 = 6 := by kernel_rfl
    obtain ⟨f, hf⟩ := Deep.choose_lt (α := Rl) (p := fun i y => W.cells? base (a.add (i * 6)) 6 = some y.cells ∧ y.At W) (n := len) (fun i hi => by
      have h1 := hel i hi
      rw [cT, List.getElem?_eq_getElem (by omega)] at h1
      obtain ⟨cs', h2, h3⟩ := Option.bind_eq_some_iff.1 h1
      obtain ⟨y, rfl, hy'⟩ := rl_of _ _ _ h3
      exact ⟨y, h2, hy'⟩)
    have hll : ((List.range len).map f).length = len := by simp
    refine ⟨some a, (List.range len).map f, cap, by rw [hll], by rw [hll]; exact hl, hm, fun h0 => ?_⟩
    rw [hll] at h0
    obtain ⟨b, o, sp⟩ := a
    have c0 := (World.cells?_some (hf 0 h0).1).2.2 0 (by omega)
    obtain rfl : sp = none := by
      have e0 : ∃ u, (f 0).cells[0]? = some u := ⟨_, rfl⟩
      obtain ⟨u, e0⟩ := e0
      rw [e0] at c0
      simpa [Addr.add] using World.cell?_spot c0
    refine ⟨b, o, rfl, fun i hi => ?_⟩
    rw [hll] at hi
    have e : ((List.range len).map f).getD i default = f i := by simp [List.getD, hi]
    rw [e]
    refine ⟨fun j u hu => ?_, (hf i hi).2⟩
    have hj := Rl.cells_lt hu
    have := (World.cells?_some (hf i hi).1).2.2 j hj
    rw [add_plain, add_plain, hu] at this
    exact this
set_option maxRecDepth 100000 in
theorem dcs_of {n : Nat} {v : Value} {x : DataW H × List MemPlace} (h : DataW.trod enc Tryz.prog W base spare held n 33 [v] = some x) :
    ∃ (A : Option Addr) (l : List Dc) (c : Nat), v = .slice A l.length c ∧ DcLst W A l c := by
  rcases DataW.trod_slice Tryz.underlying33 h with ⟨hcs, _⟩ | ⟨a, len, cap, elems, rest, n', hn, hcs, _, _, hl, hm, hlen, hel, _⟩
  · obtain rfl : v = .slice none 0 0 := by simpa using hcs
    exact ⟨none, [], 0, rfl, DcLst.nil W⟩
  · obtain rfl : v = .slice (some a) len cap := by simpa using hcs
    have cT : Tryz.prog.cellsOf 38 = 2 := by kernel_rfl
    obtain ⟨f, hf⟩ := Deep.choose_lt (α := Dc) (p := fun i y => W.cells? base (a.add (i * 2)) 2 = some y.cells ∧ y.At W) (n := len) (fun i hi => by
      have h1 := hel i hi
      rw [cT, List.getElem?_eq_getElem (by omega)] at h1
      obtain ⟨cs', h2, h3⟩ := Option.bind_eq_some_iff.1 h1
      obtain ⟨y, rfl, hy'⟩ := dc_of _ _ _ h3
      exact ⟨y, h2, hy'⟩)
    have hll : ((List.range len).map f).length = len := by simp
    refine ⟨some a, (List.range len).map f, cap, by rw [hll], by rw [hll]; exact hl, hm, fun h0 => ?_⟩
    rw [hll] at h0
    obtain ⟨b, o, sp⟩ := a
    have c0 := (World.cells?_some (hf 0 h0).1).2.2 0 (by omega)
    obtain rfl : sp = none := by
      have e0 : ∃ u, (f 0).cells[0]? = some u := ⟨_, rfl⟩
      obtain ⟨u, e0⟩ := e0
      rw [e0] at c0
      simpa [Addr.add] using World.cell?_spot c0
    refine ⟨b, o, rfl, fun i hi => ?_⟩
    rw [hll] at hi
    have e : ((List.range len).map f).getD i default = f i := by simp [List.getD, hi]
    rw [e]
    refine ⟨fun j u hu => ?_, (hf i hi).2⟩
    have hj := Dc.cells_lt hu
    have := (World.cells?_some (hf i hi).1).2.2 j hj
    rw [add_plain, add_plain, hu] at this
    exact this
end
structure Pm where
  dA : Option Addr
  dc : Nat
  decls : List Dc
  rA : Option Addr
  rc : Nat
  rules : List Rl
abbrev Pm.val (p : Pm) : Value := .agg #[.slice p.dA p.decls.length p.dc, .slice p.rA p.rules.length p.rc]
structure Pm.At (w : World) (p : Pm) : Prop where
  decls : DcLst w p.dA p.decls p.dc
  rules : RlLst w p.rA p.rules p.rc
theorem Pm.At.below {w w' : World} {p : Pm} (h : p.At w) (hb : Below w.heap.size w w') : p.At w' := ⟨h.decls.below hb, h.rules.below hb⟩
section
variable {H : Type} {enc : TypeId × Value → H} {W : World} {base : Nat} {spare : Nat → Bool} {held : Bool}
set_option maxRecDepth 100000 in
theorem open_pm {r : Reach} {b0 : Nat} {v : Value} {d : DataW H} {p : List MemPlace} (hv : Value.okWide Tryz.prog W r b0 35 v) (h : DataW.Trod enc Tryz.prog W base spare held 35 v d p) :
    ∃ u : Pm, v = u.val ∧ u.At W := by
  obtain ⟨cs, rfl, hsz⟩ := okWide_struct Tryz.underlying35 hv
  obtain ⟨fuel, hf⟩ := h
  obtain ⟨xs, m, _, _, hcl, hxl, hg⟩ := DataW.trod_struct Tryz.underlying35 hf
  have hcl' : cs.toList.length = 2 := hcl.trans (by kernel_rfl)
  have hcs : (Value.agg cs).cells.toList = cs.toList := rfl
  rw [hcs] at hg
  match hl : cs.toList, hcl' with
  | [c0, c1], _ =>
    rw [hl] at hg
    have hxs : xs.length = 2 := hxl
    have g0 := hg 0 _ rfl
    have g1 := hg 1 _ rfl
    rw [List.getElem?_eq_getElem (by omega)] at g0 g1
    have e0 : (Tryz.prog.cellsOf 33) = 1 := by kernel_rfl
    have e1 : (Tryz.prog.cellsOf 27) = 1 := by kernel_rfl
    simp only [List.getElem_toArray, List.getElem_cons_zero, List.getElem_cons_succ] at g0 g1
    obtain ⟨A1, l1, n1, hv1, hl1⟩ := dcs_of (v := c0) (by simpa [e0] using g0)
    obtain ⟨A2, l2, n2, hv2, hl2⟩ := rls_of (v := c1) (by simpa [e1] using g1)
    subst hv1 hv2
    refine ⟨⟨A1, n1, l1, A2, n2, l2⟩, ?_, ⟨hl1, hl2⟩⟩
    rw [← Array.toArray_toList (xs := cs), hl]
end
end Go.Proofs.YtnghanpmmbcbbaaGreatDoor
