/-
  The reference's reader in memory; contracts of its next, fail, digit, letter, word and name.
-/
import Derived.Test.YtlpibnbabgfiiaaGreatDoorTtScan
import Derived.Test.YtlpibnbabgfiiaaGreatDoorNmLab
namespace Go.Proofs.YtlpibnbabgfiiaaGreatDoor
open Go.RowKit

/-- Three cells: a text, a place in it, the first error. -/
structure Rr (w : World) (R : Nat) (s : ByteArray) (p : Nat) (er : Int) : Prop where
  lt : R < w.heap.size
  txt : w.cell? ⟨R, 0, none⟩ = some (.string s)
  pos : w.cell? ⟨R, 1, none⟩ = some (.int .i64 (p : Int))
  err : w.cell? ⟨R, 2, none⟩ = some (.int .i64 er)
  free : w.frozen? ⟨R, 1, none⟩ = false
  free2 : w.frozen? ⟨R, 2, none⟩ = false
  le : p ≤ s.size
section
variable {w w' : World} {R : Nat} {s : ByteArray} {p : Nat} {er : Int}
theorem Rr.of (h : Rr w R s p er) (hs : w.heap.size ≤ w'.heap.size) (hb : w'.heap[R]? = w.heap[R]?) : Rr w' R s p er :=
  ⟨Nat.lt_of_lt_of_le h.lt hs, by rw [World.cell?_of_block (a := ⟨R, 0, none⟩) hb]; exact h.txt, by rw [World.cell?_of_block (a := ⟨R, 1, none⟩) hb]; exact h.pos, by rw [World.cell?_of_block (a := ⟨R, 2, none⟩) hb]; exact h.err,
    by rw [World.frozen?_of_block (a := ⟨R, 1, none⟩) hb]; exact h.free, by rw [World.frozen?_of_block (a := ⟨R, 2, none⟩) hb]; exact h.free2, h.le⟩
theorem Rr.below (h : Rr w R s p er) (hb : Below w.heap.size w w') : Rr w' R s p er := h.of hb.size (hb.block R h.lt)
theorem Rr.drewN (h : Rr w R s p er) (n : Nat) : Rr (w.drewN n) R s p er := ⟨h.lt, h.txt, h.pos, h.err, h.free, h.free2, h.le⟩
theorem Rr.drew (h : Rr w R s p er) : Rr w.drew R s p er := ⟨h.lt, h.txt, h.pos, h.err, h.free, h.free2, h.le⟩
theorem Rr.alloc (h : Rr w R s p er) (o : Obj) : Rr (w.alloc o) R s p er := h.below ((Below.refl _ _).alloc (Nat.le_refl _) o)
theorem Rr.set {q : Nat} (h : Rr w R s p er) (hq : q ≤ s.size) : Rr (w.setCell ⟨R, 1, none⟩ (.int .i64 (q : Int))) R s q er := by
  refine ⟨by simpa [World.setCell] using h.lt, ?_, ?_, ?_, ?_, ?_, hq⟩
  · rw [World.cell?_setCell_other _ _ _ _ (by simp)]; exact h.txt
  · exact World.cell?_setCell_same _ _ _ (by rw [h.pos])
  · rw [World.cell?_setCell_other _ _ _ _ (by simp)]; exact h.err
  · rw [World.frozen?_setCell]; exact h.free
  · rw [World.frozen?_setCell]; exact h.free2
theorem Rr.fail (h : Rr w R s p er) (c : Int) : Rr (w.setCell ⟨R, 2, none⟩ (.int .i64 c)) R s p c := by
  refine ⟨by simpa [World.setCell] using h.lt, ?_, ?_, ?_, ?_, ?_, h.le⟩
  · rw [World.cell?_setCell_other _ _ _ _ (by simp)]; exact h.txt
  · rw [World.cell?_setCell_other _ _ _ _ (by simp)]; exact h.pos
  · exact World.cell?_setCell_same _ _ _ (by rw [h.err])
  · rw [World.frozen?_setCell]; exact h.free
  · rw [World.frozen?_setCell]; exact h.free2
theorem Rr.other (h : Rr w R s p er) {a : Addr} (ha : a.block ≠ R) (v : Value) : Rr (w.setCell a v) R s p er := h.of (by simp [World.setCell]) (Below.heap_setCell _ _ _ _ (fun e => ha e.symm))
theorem Rr.put4 {b : Nat} {v0 v1 v2 v3 : Value} (h : Rr w R s p er) (hb : b ≠ R) : Rr (put4 w b v0 v1 v2 v3) R s p er :=
  (((h.other (a := ⟨b, 0, none⟩) hb _).other (a := ⟨b, 1, none⟩) hb _).other (a := ⟨b, 2, none⟩) hb _).other (a := ⟨b, 3, none⟩) hb _
theorem Rr.grown {row : Option Nat} (h : Rr w R s p er) (hg : w.grownBy w' row) (hr : ∀ k, row = some k → k ≠ R) : Rr w' R s p er :=
  h.of hg.size (hg.block R h.lt (fun e => hr R e.symm rfl))
end

/-- The reader is behind the spaces; the byte there, or 0 after an error. -/
def NextR (R : Nat) (s : ByteArray) (p : Nat) (er : Int) (w : World) (e : Ending) (w' : World) : Prop :=
  ∃ p' x, rest s p' = skip (rest s p) ∧ ((er = 0 ∧ (rest s p').headD 0 = x) ∨ (er ≠ 0 ∧ x = 0)) ∧ e = .returned (.int .u8 (x.toNat : Int)) ∧ Keeps R w w' ∧ Rr w' R s p' er
def Skips (R : Nat) (s : ByteArray) (p : Nat) (er : Int) (w : World) (j q : Nat) (wr : World) : Prop := Keeps R w wr ∧ Rr wr R s q er ∧ s.size - q ≤ j ∧ skip (rest s q) = skip (rest s p)

set_option maxHeartbeats 2000000 in
set_option maxRecDepth 10000 in
theorem nextr_at (s : ByteArray) (R p : Nat) (er : Int) (w : World) (hs : s.size ≤ maxLen) (h : Rr w R s p er) :
    Calls Tryz.prog 48 #[.pointer (some ⟨R, 0, none⟩)] w (NextR R s p er w) := by
  have hs' : s.size ≤ 9223372036854775807 := by unfold maxLen at hs; omega
  have H0 := Lib.hid h
  clear h hs
  go_enter Tryz.func48, Tryz.ntmps48
  go_wp2_with fail
  go_loopg [] s.size (fun k wr => ∃ q, Hid (Skips R s p er w k q wr))
  case atStart => exact ⟨p, Keeps.refl _ _, H0.out, by omega, rfl⟩
  case round =>
    obtain ⟨q, hk⟩ := hrel
    obtain ⟨k1, k2, k3, k4⟩ := hk.out
    clear hk
    have hlt := k2.lt
    have ht := k2.txt
    have hp := k2.pos
    have hf := k2.free
    have hee := k2.err
    by_cases hq : q < s.size
    · have hd : decide ((q : Int) < (s.size : Int)) = true := by simpa using hq
      have hcons := Lib.hid (rest_cons hq)
      by_cases h32 : s[q] = 32
      · have h32' : ((s[q].toNat : Int) == 32) = true := by rw [h32]; rfl
        have HK := Lib.hid (And.intro k1 (And.intro k2 (And.intro k3 k4)))
        have H32 := Lib.hid h32
        clear k1 k2 k3 k4 h32
        go_wp2_with fail
        go_quiet (fail)
        go_wp2_with fail
        go_roundg (gk - 1)
        case measure => have := HK.out.2.2.1; omega
        case rel => exact ⟨q + 1, (HK.out.1.drewN nq).set _ _ _, (HK.out.2.1.drewN nq).set (q := q + 1) (by omega), by have := HK.out.2.2.1; omega, by rw [← HK.out.2.2.2, hcons.out, H32.out, skip_space]⟩
      · have h32' : ((s[q].toNat : Int) == 32) = false := byte_ne (b := 32) h32
        have HK := Lib.hid (And.intro k1 (And.intro k2 (And.intro k3 k4)))
        have H32 := Lib.hid h32
        have HH := Lib.hid (rest_head hq)
        have hge : decide ((s.size : Int) ≤ (q : Int)) = false := by simp; omega
        have hq' : (q : Int) < (s.size : Int) := by omega
        clear k1 k2 k3 k4 h32
        by_cases her : er = 0
        · subst her
          go_wp2_with fail
          go_quiet (fail)
          go_wp2_with fail
          go_quiet (fail)
          go_wp2_with fail
          go_quiet (fail)
          go_wp2_with fail
          go_ret
          exact ⟨q, s[q], by rw [← HK.out.2.2.2, hcons.out, skip_cons _ H32.out], .inl ⟨rfl, HH.out⟩, rfl, ((HK.out.1.drewN _).drewN _).drewN _, ((HK.out.2.1.drewN _).drewN _).drewN _⟩
        · have hne : (er != 0) = true := by simpa using her
          have HR := Lib.hid her
          clear her
          go_wp2_with fail
          go_quiet (fail)
          go_wp2_with fail
          go_quiet (fail)
          go_wp2_with fail
          go_ret
          exact ⟨q, 0, by rw [← HK.out.2.2.2, hcons.out, skip_cons _ H32.out], .inr ⟨HR.out, rfl⟩, rfl, (HK.out.1.drewN _).drewN _, (HK.out.2.1.drewN _).drewN _⟩
    · have hd : decide ((q : Int) < (s.size : Int)) = false := by simp; omega
      have HK := Lib.hid (And.intro k1 (And.intro k2 (And.intro k3 k4)))
      have HE := Lib.hid (rest_end (show s.size ≤ q by omega))
      have hge : decide ((s.size : Int) ≤ (q : Int)) = true := by simp; omega
      clear k1 k2 k3 k4
      by_cases her : er = 0
      · subst her
        go_wp2_with fail
        go_quiet (fail)
        go_wp2_with fail
        go_quiet (fail)
        go_wp2_with fail
        go_ret
        exact ⟨q, 0, by rw [← HK.out.2.2.2, HE.out, skip], .inl ⟨rfl, by rw [HE.out]; rfl⟩, rfl, (HK.out.1.drewN _).drewN _, (HK.out.2.1.drewN _).drewN _⟩
      · have hne : (er != 0) = true := by simpa using her
        have HR := Lib.hid her
        clear her
        go_wp2_with fail
        go_quiet (fail)
        go_wp2_with fail
        go_quiet (fail)
        go_wp2_with fail
        go_ret
        exact ⟨q, 0, by rw [← HK.out.2.2.2, HE.out, skip], .inr ⟨HR.out, rfl⟩, rfl, (HK.out.1.drewN _).drewN _, (HK.out.2.1.drewN _).drewN _⟩

/-- An error is set, where there was none. -/
def Failed (R : Nat) (s : ByteArray) (p : Nat) (er c : Int) (w : World) (e : Ending) (w' : World) : Prop := e = .returned (.agg #[.int .i64 0, .int .i64 0, .string ⟨#[]⟩, .slice none 0 0]) ∧ Keeps R w w' ∧ ((er = 0 ∧ Rr w' R s p c) ∨ (er ≠ 0 ∧ Rr w' R s p er))
theorem fail_at (s : ByteArray) (R p : Nat) (er c : Int) (w : World) (h : Rr w R s p er) :
    Calls Tryz.prog 79 #[.pointer (some ⟨R, 0, none⟩), .int .i64 c] w (Failed R s p er c w) := by
  have H := Lib.hid h
  have hee : ∀ o, (w.alloc o).cell? ⟨R, 2, none⟩ = some (.int .i64 er) := fun o => (h.alloc o).err
  have hf : ∀ o, (w.alloc o).frozen? ⟨R, 2, none⟩ = false := fun o => (h.alloc o).free2
  have hR := h.lt
  have hne : ¬ R = w.heap.size := by omega
  have hne2 : ¬ w.heap.size = R := by omega
  clear h
  by_cases her : er = 0
  · subst her
    go_enter Tryz.func79, Tryz.ntmps79
    go_wp2_with fail
    refine bodyPost_ret (v := .agg #[.int .i64 0, .int .i64 0, .string ⟨#[]⟩, .slice none 0 0]) (by simp [results, Tryz.results79, go_sem]) rfl ⟨rfl, ((Keeps.refl R w).set 2 none _).alloc _, .inl ⟨rfl, (H.out.fail c).alloc _⟩⟩
  · have hne3 : (er == 0) = false := by simpa using her
    have HE := Lib.hid her
    clear her
    go_enter Tryz.func79, Tryz.ntmps79
    go_wp2_with fail
    refine bodyPost_ret (v := .agg #[.int .i64 0, .int .i64 0, .string ⟨#[]⟩, .slice none 0 0]) (by simp [results, Tryz.results79, go_sem]) rfl ⟨rfl, (Keeps.refl R w).alloc _, .inr ⟨HE.out, H.out.alloc _⟩⟩

def letB (x : UInt8) : Bool := lowB x || uppB x || undB x
theorem in_let (x : UInt8) : inB x = (letB x || digB x) := by
  unfold inB letB
  cases lowB x <;> cases uppB x <;> cases digB x <;> cases undB x <;> rfl

theorem digit_at (s : ByteArray) (R p q : Nat) (er : Int) (w : World) (hs : s.size ≤ maxLen) (h : Rr w R s p er) {r : Bool} (hr : digB ((rest s q).headD 0) = r) :
    Calls Tryz.prog 113 #[.pointer (some ⟨R, 0, none⟩), .int .i64 (q : Int)] w fun e w' => e = .returned (.bool r) ∧ w = w' := by
  have hs' : s.size ≤ 9223372036854775807 := by unfold maxLen at hs; omega
  have ht := h.txt
  clear h hs
  by_cases hq : q < s.size
  · have hd : decide ((q : Int) < (s.size : Int)) = true := by simpa using hq
    have hq' : (q : Int) < (s.size : Int) := by omega
    rw [rest_head hq] at hr
    by_cases h1 : 48 ≤ s[q].toNat
    · have h1' : (48 : Int) ≤ (s[q].toNat : Int) := by omega
      by_cases h2 : s[q].toNat ≤ 57
      · have h2' : (s[q].toNat : Int) ≤ 57 := by omega
        have HV := Lib.hid (show r = true by rw [← hr]; simp only [digB, h1, h2, and_self, decide_true])
        clear h1 h2 hr
        go_enter Tryz.func113, Tryz.ntmps113
        go_wp2_with fail
        go_ret
        exact ⟨ret_bool (by rw [HV.out]), rfl⟩
      · have h2' : decide ((s[q].toNat : Int) ≤ 57) = false := by simp; omega
        have HV := Lib.hid (show r = false by rw [← hr]; simp only [digB, h2, and_false, decide_false])
        clear h1 h2 hr
        go_enter Tryz.func113, Tryz.ntmps113
        go_wp2_with fail
        go_ret
        exact ⟨ret_bool (by rw [HV.out]), rfl⟩
    · have h1' : decide ((48 : Int) ≤ (s[q].toNat : Int)) = false := by simp; omega
      have HV := Lib.hid (show r = false by rw [← hr]; simp only [digB, h1, false_and, decide_false])
      clear h1 hr
      go_enter Tryz.func113, Tryz.ntmps113
      go_wp2_with fail
      go_ret
      exact ⟨ret_bool (by rw [HV.out]), rfl⟩
  · have hd : decide ((q : Int) < (s.size : Int)) = false := by simp; omega
    have HV := Lib.hid (show r = false by rw [← hr, rest_end (by omega)]; rfl)
    clear hr
    go_enter Tryz.func113, Tryz.ntmps113
    go_wp2_with fail
    go_ret
    exact ⟨ret_bool (by rw [HV.out]), rfl⟩


set_option maxHeartbeats 1000000 in
set_option maxRecDepth 10000 in
theorem letter_at (s : ByteArray) (R p q : Nat) (er : Int) (w : World) (hs : s.size ≤ maxLen) (h : Rr w R s p er) {r : Bool} (hr : letB ((rest s q).headD 0) = r) :
    Calls Tryz.prog 112 #[.pointer (some ⟨R, 0, none⟩), .int .i64 (q : Int)] w fun e w' => e = .returned (.bool r) ∧ w = w' := by
  have hs' : s.size ≤ 9223372036854775807 := by unfold maxLen at hs; omega
  have ht := h.txt
  clear h hs
  by_cases hq : q < s.size
  · have hd : decide ((q : Int) < (s.size : Int)) = true := by simpa using hq
    have hq' : (q : Int) < (s.size : Int) := by omega
    rw [rest_head hq] at hr
    have HV := Lib.hid hr
    clear hr
    by_cases k0 : s[q].toNat < 65
    · have HW := Lib.hid (show r = false by rw [← HV.out]; unfold letB lowB uppB undB; rw [Bool.eq_iff_iff]; simp; omega)
      have f97g : decide ((97 : Int) ≤ (s[q].toNat : Int)) = false := by simp; omega
      have f65g : decide ((65 : Int) ≤ (s[q].toNat : Int)) = false := by simp; omega
      have f95e : ((s[q].toNat : Int) == 95) = false := by simp; omega
      clear HV k0
      go_enter Tryz.func112, Tryz.ntmps112
      go_wp2_with fail
      go_ret
      exact ⟨ret_bool (by rw [HW.out]), rfl⟩
    by_cases k1 : s[q].toNat ≤ 90
    · have HW := Lib.hid (show r = true by rw [← HV.out]; unfold letB lowB uppB undB; rw [Bool.eq_iff_iff]; simp; omega)
      have f97g : decide ((97 : Int) ≤ (s[q].toNat : Int)) = false := by simp; omega
      have f65g : ((65 : Int) ≤ (s[q].toNat : Int)) := by omega
      have f90l : ((s[q].toNat : Int) ≤ 90) := by omega
      clear HV k0 k1
      go_enter Tryz.func112, Tryz.ntmps112
      go_wp2_with fail
      go_ret
      exact ⟨ret_bool (by rw [HW.out]), rfl⟩
    by_cases k2 : s[q].toNat < 95
    · have HW := Lib.hid (show r = false by rw [← HV.out]; unfold letB lowB uppB undB; rw [Bool.eq_iff_iff]; simp; omega)
      have f97g : decide ((97 : Int) ≤ (s[q].toNat : Int)) = false := by simp; omega
      have f65g : ((65 : Int) ≤ (s[q].toNat : Int)) := by omega
      have f90l : decide ((s[q].toNat : Int) ≤ 90) = false := by simp; omega
      have f95e : ((s[q].toNat : Int) == 95) = false := by simp; omega
      clear HV k0 k1 k2
      go_enter Tryz.func112, Tryz.ntmps112
      go_wp2_with fail
      go_ret
      exact ⟨ret_bool (by rw [HW.out]), rfl⟩
    by_cases k3 : s[q].toNat = 95
    · have HW := Lib.hid (show r = true by rw [← HV.out]; unfold letB lowB uppB undB; rw [Bool.eq_iff_iff]; simp; omega)
      have f97g : decide ((97 : Int) ≤ (s[q].toNat : Int)) = false := by simp; omega
      have f65g : ((65 : Int) ≤ (s[q].toNat : Int)) := by omega
      have f90l : decide ((s[q].toNat : Int) ≤ 90) = false := by simp; omega
      have f95e : ((s[q].toNat : Int) == 95) = true := by simp; omega
      clear HV k0 k1 k2 k3
      go_enter Tryz.func112, Tryz.ntmps112
      go_wp2_with fail
      go_ret
      exact ⟨ret_bool (by rw [HW.out]), rfl⟩
    by_cases k4 : s[q].toNat < 97
    · have HW := Lib.hid (show r = false by rw [← HV.out]; unfold letB lowB uppB undB; rw [Bool.eq_iff_iff]; simp; omega)
      have f97g : decide ((97 : Int) ≤ (s[q].toNat : Int)) = false := by simp; omega
      have f65g : ((65 : Int) ≤ (s[q].toNat : Int)) := by omega
      have f90l : decide ((s[q].toNat : Int) ≤ 90) = false := by simp; omega
      have f95e : ((s[q].toNat : Int) == 95) = false := by simp; omega
      clear HV k0 k1 k2 k3 k4
      go_enter Tryz.func112, Tryz.ntmps112
      go_wp2_with fail
      go_ret
      exact ⟨ret_bool (by rw [HW.out]), rfl⟩
    by_cases k5 : s[q].toNat ≤ 122
    · have HW := Lib.hid (show r = true by rw [← HV.out]; unfold letB lowB uppB undB; rw [Bool.eq_iff_iff]; simp; omega)
      have f97g : ((97 : Int) ≤ (s[q].toNat : Int)) := by omega
      have f122l : ((s[q].toNat : Int) ≤ 122) := by omega
      clear HV k0 k1 k2 k3 k4 k5
      go_enter Tryz.func112, Tryz.ntmps112
      go_wp2_with fail
      go_ret
      exact ⟨ret_bool (by rw [HW.out]), rfl⟩
    have HW := Lib.hid (show r = false by rw [← HV.out]; unfold letB lowB uppB undB; rw [Bool.eq_iff_iff]; simp; omega)
    have f97g : ((97 : Int) ≤ (s[q].toNat : Int)) := by omega
    have f122l : decide ((s[q].toNat : Int) ≤ 122) = false := by simp; omega
    have f65g : ((65 : Int) ≤ (s[q].toNat : Int)) := by omega
    have f90l : decide ((s[q].toNat : Int) ≤ 90) = false := by simp; omega
    have f95e : ((s[q].toNat : Int) == 95) = false := by simp; omega
    clear HV k0 k1 k2 k3 k4 k5
    go_enter Tryz.func112, Tryz.ntmps112
    go_wp2_with fail
    go_ret
    exact ⟨ret_bool (by rw [HW.out]), rfl⟩
  · have hd : decide ((q : Int) < (s.size : Int)) = false := by simp; omega
    have HV := Lib.hid (show r = false by rw [← hr, rest_end (by omega)]; rfl)
    clear hr
    go_enter Tryz.func112, Tryz.ntmps112
    go_wp2_with fail
    go_ret
    exact ⟨ret_bool (by rw [HV.out]), rfl⟩

end Go.Proofs.YtlpibnbabgfiiaaGreatDoor
