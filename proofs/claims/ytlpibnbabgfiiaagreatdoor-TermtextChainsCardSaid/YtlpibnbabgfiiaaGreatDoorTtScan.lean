/-
  Contracts of the reader's small methods: skipSpaces, atEnd, next, accept, take.
-/
import Derived.Test.YtlpibnbabgfiiaaGreatDoorTtKeep
import Derived.Test.YtlpibnbabgfiiaaGreatDoorTtBytes
import Derived.Deep.QuietTactic
import Derived.BigQuiet
import Derived.Deep.LoopGhost
import Derived.WalkSpells
namespace Go.Proofs.YtlpibnbabgfiiaaGreatDoor
open Go.RowKit

def Skipped (R : Nat) (s : ByteArray) (p : Nat) (w : World) (e : Ending) (w' : World) : Prop := ∃ p', rest s p' = skip (rest s p) ∧ e = .returned (.tuple #[]) ∧ Keeps R w w' ∧ Rd w' R s p'
/-- The reader is behind the spaces: whether that is the end; the byte there. -/
def EndSeen (R : Nat) (s : ByteArray) (p : Nat) (w : World) (e : Ending) (w' : World) : Prop := ∃ p' b, rest s p' = skip (rest s p) ∧ (rest s p').isEmpty = b ∧ e = .returned (.bool b) ∧ Keeps R w w' ∧ Rd w' R s p'
def NextSeen (R : Nat) (s : ByteArray) (p : Nat) (w : World) (e : Ending) (w' : World) : Prop := ∃ p' x, rest s p' = skip (rest s p) ∧ (rest s p').headD 0 = x ∧ e = .returned (.int .u8 (x.toNat : Int)) ∧ Keeps R w w' ∧ Rd w' R s p'

set_option maxHeartbeats 1000000 in
set_option maxRecDepth 10000 in
theorem skips_at (s : ByteArray) (R p : Nat) (w : World) (hs : s.size ≤ maxLen) (h : Rd w R s p) :
    Calls Tryz.prog 106 #[.pointer (some ⟨R, 0, none⟩)] w (Skipped R s p w) := by
  have hs' : s.size ≤ 9223372036854775807 := by unfold maxLen at hs; omega
  have H0 := Lib.hid h
  clear h hs
  go_enter Tryz.func106, Tryz.ntmps106
  go_wp2_with fail
  go_loopg [] s.size (fun k wr => ∃ q, Hid (Keeps R w wr ∧ Rd wr R s q ∧ s.size - q ≤ k ∧ skip (rest s q) = skip (rest s p)))
  case atStart => exact ⟨p, Keeps.refl _ _, H0.out, by omega, rfl⟩
  case round =>
    obtain ⟨q, hk⟩ := hrel
    obtain ⟨k1, k2, k3, k4⟩ := hk.out
    clear hk
    have hlt := k2.lt
    have ht := k2.txt
    have hp := k2.pos
    have hf := k2.free
    by_cases hq : q < s.size
    · have hd : decide ((q : Int) < (s.size : Int)) = true := by simpa using hq
      have hcons := Lib.hid (rest_cons hq)
      by_cases h32 : s[q] = 32
      · have h32' : ((s[q].toNat : Int) == 32) = true := by rw [h32]; rfl
        have HK := Lib.hid (And.intro k1 (And.intro k2 (And.intro k3 k4)))
        have H32 := Lib.hid h32
        clear k1 k2 k3 k4 h32
        go_wp2_with fail
        go_quiet (fail)
        go_wp2_with fail
        go_roundg (gk - 1)
        case measure => have := HK.out.2.2.1; omega
        case rel => exact ⟨q + 1, (HK.out.1.drewN nq).set _ _ _, (HK.out.2.1.drewN nq).set (q := q + 1) (by omega), by have := HK.out.2.2.1; omega, by rw [← HK.out.2.2.2, hcons.out, H32.out, skip_space]⟩
      · have h32' : ((s[q].toNat : Int) == 32) = false := by
          have : s[q].toNat ≠ 32 := fun e => h32 (UInt8.toNat_inj.1 e)
          simp; omega
        have HK := Lib.hid (And.intro k1 (And.intro k2 (And.intro k3 k4)))
        have H32 := Lib.hid h32
        clear k1 k2 k3 k4 h32
        go_wp2_with fail
        go_quiet (fail)
        go_wp2_with fail
        go_end0
        exact ⟨q, by rw [← HK.out.2.2.2, hcons.out, skip_cons _ H32.out], rfl, HK.out.1.drewN _, HK.out.2.1.drewN _⟩
    · have hd : decide ((q : Int) < (s.size : Int)) = false := by simp; omega
      have HK := Lib.hid (And.intro k1 (And.intro k2 (And.intro k3 k4)))
      have HE := Lib.hid (rest_end (show s.size ≤ q by omega))
      clear k1 k2 k3 k4
      go_wp2_with fail
      go_quiet (fail)
      go_wp2_with fail
      go_end0
      exact ⟨q, by rw [← HK.out.2.2.2, HE.out, skip], rfl, HK.out.1.drewN _, HK.out.2.1.drewN _⟩

theorem rest_empty {s : ByteArray} {p : Nat} (h : p ≤ s.size) : (rest s p).isEmpty = decide (p = s.size) := by
  by_cases e : p = s.size
  · subst e; rw [rest_end (Nat.le_refl _)]; simp
  · rw [rest_cons (by omega)]; simp [e]
set_option maxHeartbeats 1000000 in
theorem end_at (s : ByteArray) (R p : Nat) (w : World) (hs : s.size ≤ maxLen) (h : Rd w R s p) :
    Calls Tryz.prog 75 #[.pointer (some ⟨R, 0, none⟩)] w (EndSeen R s p w) := by
  have hs' : s.size ≤ 9223372036854775807 := by unfold maxLen at hs; omega
  have Q := Lib.hid (skips_at s R p w hs h)
  clear h hs
  go_enter Tryz.func75, Tryz.ntmps75
  go_wp2_with fail
  refine Q.out.mono ?_
  rintro e w1 ⟨q, hq, rfl, hk, hr⟩
  have ht := hr.txt
  have hp := hr.pos
  have hle := hr.le
  have HK := Lib.hid hk
  have HR := Lib.hid hr
  have HQ := Lib.hid hq
  have HE := Lib.hid (rest_empty hle)
  clear hk hr hq
  by_cases hc : q = s.size
  · have hd : ((q : Int) == (s.size : Int)) = true := by simp [hc]
    have HC := Lib.hid hc
    clear hc
    go_wp2_with fail
    go_quiet (fail)
    go_wp2_with fail
    go_ret
    exact ⟨q, _, HQ.out, (by rw [HE.out]; simp [HC.out]), rfl, HK.out.drewN _, HR.out.drewN _⟩
  · have hd : ((q : Int) == (s.size : Int)) = false := by simp; omega
    have HC := Lib.hid hc
    clear hc
    go_wp2_with fail
    go_quiet (fail)
    go_wp2_with fail
    go_ret
    exact ⟨q, _, HQ.out, (by rw [HE.out]; simp [HC.out]), rfl, HK.out.drewN _, HR.out.drewN _⟩

set_option maxHeartbeats 1000000 in
theorem next_at (s : ByteArray) (R p : Nat) (w : World) (hs : s.size ≤ maxLen) (h : Rd w R s p) :
    Calls Tryz.prog 81 #[.pointer (some ⟨R, 0, none⟩)] w (NextSeen R s p w) := by
  have hs' : s.size ≤ 9223372036854775807 := by unfold maxLen at hs; omega
  have Q := Lib.hid (end_at s R p w hs h)
  clear h hs
  go_enter Tryz.func81, Tryz.ntmps81
  go_wp2_with fail
  refine Q.out.mono ?_
  rintro e w1 ⟨q, b, hq, hb, rfl, hk, hr⟩
  have ht := hr.txt
  have hp := hr.pos
  have hle := hr.le
  have HK := Lib.hid hk
  have HR := Lib.hid hr
  have HQ := Lib.hid hq
  have HE := rest_empty hle
  rw [hb] at HE
  clear hk hr hq hb
  by_cases hc : q = s.size
  · obtain rfl : b = true := by rw [HE]; simpa using hc
    have HC := Lib.hid hc
    clear hc HE
    go_wp2_with fail
    go_ret
    exact ⟨q, 0, HQ.out, by rw [rest_end (by rw [HC.out]; exact Nat.le_refl _)]; rfl, rfl, HK.out, HR.out⟩
  · obtain rfl : b = false := by rw [HE]; simpa using hc
    have hlt : q < s.size := by omega
    have hlt' : (q : Int) < (s.size : Int) := by omega
    have HC := Lib.hid (rest_head hlt)
    clear hc HE
    go_wp2_with fail
    go_quiet (fail)
    go_wp2_with fail
    go_ret
    exact ⟨q, _, HQ.out, HC.out, rfl, HK.out.drewN _, HR.out.drewN _⟩

/-- The byte c was skipped, or it was not there. -/
def Took (R : Nat) (s : ByteArray) (p : Nat) (w : World) (e : Ending) (w' : World) : Prop := ∃ p', rest s p' = (skip (rest s p)).tail ∧ e = .returned (.bool true) ∧ Keeps R w w' ∧ Rd w' R s p'
def Left (R : Nat) (s : ByteArray) (p : Nat) (w : World) (e : Ending) (w' : World) : Prop := ∃ p', rest s p' = skip (rest s p) ∧ e = .returned (.bool false) ∧ Keeps R w w' ∧ Rd w' R s p'
theorem byte_eq {a b : UInt8} (h : a = b) : ((a.toNat : Int) == (b.toNat : Int)) = true := by simp [h]
theorem byte_ne {a b : UInt8} (h : a ≠ b) : ((a.toNat : Int) == (b.toNat : Int)) = false := by
  have : a.toNat ≠ b.toNat := fun e => h (UInt8.toNat_inj.1 e)
  simp; omega
set_option maxHeartbeats 1000000 in
theorem accept_yes (s : ByteArray) (R p : Nat) (c : UInt8) (w : World) (hs : s.size ≤ maxLen) (h : Rd w R s p) (hc : (skip (rest s p)).headD 0 = c) (h0 : c ≠ 0) :
    Calls Tryz.prog 84 #[.pointer (some ⟨R, 0, none⟩), .int .u8 (c.toNat : Int)] w (Took R s p w) := by
  have hs' : s.size ≤ 9223372036854775807 := by unfold maxLen at hs; omega
  have Q := Lib.hid (next_at s R p w hs h)
  have HC := Lib.hid hc
  have H0 := Lib.hid h0
  clear h hs hc h0
  go_enter Tryz.func84, Tryz.ntmps84
  go_wp2_with fail
  refine Q.out.mono ?_
  rintro e w1 ⟨q, x, hq, hx, rfl, hk, hr⟩
  have ht := hr.txt
  have hp := hr.pos
  have hf := hr.free
  have hlt : q < s.size := by
    rcases Nat.lt_or_ge q s.size with h | h
    · exact h
    · exact absurd (by rw [← HC.out, ← hq, rest_end h]; rfl) H0.out
  have hxc : x = c := by rw [← hx, hq]; exact HC.out
  have heq := byte_eq hxc
  have hne : ((x.toNat : Int) != (c.toNat : Int)) = false := by simp [bne, heq]
  have HK := Lib.hid hk
  have HR := Lib.hid hr
  have HQ := Lib.hid (show rest s (q + 1) = (skip (rest s p)).tail by rw [← hq, rest_tail hlt])
  clear hk hr hq hx hxc heq
  go_wp2_with fail
  go_ret
  exact ⟨q + 1, HQ.out, rfl, HK.out.set _ _ _, HR.out.set (q := q + 1) (by omega)⟩
set_option maxHeartbeats 1000000 in
theorem accept_no (s : ByteArray) (R p : Nat) (c : UInt8) (w : World) (hs : s.size ≤ maxLen) (h : Rd w R s p) (hc : (skip (rest s p)).headD 0 ≠ c) :
    Calls Tryz.prog 84 #[.pointer (some ⟨R, 0, none⟩), .int .u8 (c.toNat : Int)] w (Left R s p w) := by
  have Q := Lib.hid (next_at s R p w hs h)
  have HC := Lib.hid hc
  clear h hs hc
  go_enter Tryz.func84, Tryz.ntmps84
  go_wp2_with fail
  refine Q.out.mono ?_
  rintro e w1 ⟨q, x, hq, hx, rfl, hk, hr⟩
  have hxc : x ≠ c := by rw [← hx, hq]; exact HC.out
  have heq := byte_ne hxc
  have hne : ((x.toNat : Int) != (c.toNat : Int)) = true := by simp [bne, heq]
  have HK := Lib.hid hk
  have HR := Lib.hid hr
  have HQ := Lib.hid hq
  clear hk hr hq hx hxc heq
  go_wp2_with fail
  go_ret
  exact ⟨q, HQ.out, rfl, HK.out, HR.out⟩

/-- Bytes of one kind were taken. -/
def Taken (R : Nat) (s : ByteArray) (p : Nat) (k : UInt8 → Bool) (w : World) (e : Ending) (w' : World) : Prop :=
  ∃ p' x, x.data.toList = (rest s p).takeWhile k ∧ rest s p' = (rest s p).dropWhile k ∧ p' = p + x.size ∧ e = .returned (.string x) ∧ Keeps R w w' ∧ Rd w' R s p'
theorem while_next {k : UInt8 → Bool} {s : ByteArray} {q : Nat} (h : q < s.size) (hk : k s[q] = true) : (rest s q).takeWhile k = s[q] :: (rest s (q + 1)).takeWhile k ∧ (rest s q).dropWhile k = (rest s (q + 1)).dropWhile k := by
  rw [rest_cons h]; simp [hk]
theorem while_end {k : UInt8 → Bool} {s : ByteArray} {q : Nat} (h : ∀ _ : q < s.size, k s[q] = false) : (rest s q).takeWhile k = [] ∧ (rest s q).dropWhile k = rest s q := by
  by_cases hq : q < s.size
  · have := h hq
    rw [rest_cons hq]; simp [this]
  · rw [rest_end (by omega)]; simp
theorem extract_list (s : ByteArray) (a b : Nat) : (s.extract a b).data.toList = (s.data.toList.drop a).take (b - a) := by
  rw [ByteArray.data_extract, Array.toList_extract, List.extract_eq_take_drop]
def Taking (R : Nat) (s : ByteArray) (p : Nat) (k : UInt8 → Bool) (w : World) (j q : Nat) (wr : World) : Prop :=
  Keeps R w wr ∧ Rd wr R s q ∧ s.size - q ≤ j ∧ p ≤ q ∧ (rest s p).takeWhile k = (rest s p).take (q - p) ++ (rest s q).takeWhile k ∧ (rest s q).dropWhile k = (rest s p).dropWhile k
theorem taken_next {R p q j n : Nat} {s : ByteArray} {k : UInt8 → Bool} {w wr : World} (hq : q < s.size) (h : Taking R s p k w j q wr) (hk : k s[q] = true) :
    Taking R s p k w (j - 1) (q + 1) ((wr.drewN n).setCell ⟨R, 1, none⟩ (.int .i64 ((q + 1 : Nat) : Int))) := by
  obtain ⟨h1, h2, h3, h4, h5, h6⟩ := h
  obtain ⟨e1, e2⟩ := while_next hq hk
  refine ⟨(h1.drewN n).set _ _ _, (h2.drewN n).set (by omega), by omega, by omega, ?_, by rw [← e2, h6]⟩
  rw [h5, e1, show q + 1 - p = (q - p) + 1 by omega]
  have hl : q - p < (rest s p).length := by rw [rest_len]; omega
  rw [List.take_succ_eq_append_getElem hl, List.append_assoc]
  congr 1
  have : (rest s p)[q - p] = s[q] := by
    have e : (rest s p)[q - p] = (rest s q).headD 0 := by
      have hr := rest_drop s p (q - p)
      rw [show p + (q - p) = q by omega] at hr
      rw [hr]
      simp [List.headD_eq_head?_getD, List.head?_drop, hl]
    rw [e, rest_head hq]
  rw [this]
  rfl
theorem taken_end {R p q j n m : Nat} {s : ByteArray} {k : UInt8 → Bool} {w wr : World} (hle : q ≤ s.size) (h : Taking R s p k w j q wr) (hk : ∀ _ : q < s.size, k s[q] = false) :
    Taken R s p k w (.returned (.string (s.extract p q))) ((wr.drewN n).drewN m) := by
  obtain ⟨h1, h2, h3, h4, h5, h6⟩ := h
  obtain ⟨e1, e2⟩ := while_end hk
  refine ⟨q, _, ?_, by rw [← h6, e2], ?_, rfl, (h1.drewN n).drewN m, (h2.drewN n).drewN m⟩
  · rw [extract_list, h5, e1, List.append_nil]; rfl
  · have : (s.extract p q).size = min q s.size - p := by simp [ByteArray.size_extract]
    rw [this]; omega
set_option maxHeartbeats 1000000 in
set_option maxRecDepth 10000 in
theorem take_dig (s : ByteArray) (R p : Nat) (w : World) (hs : s.size ≤ maxLen) (h : Rd w R s p) :
    Calls Tryz.prog 82 #[.pointer (some ⟨R, 0, none⟩), .func (.func 111) #[] #[]] w (Taken R s p digB w) := by
  have hs' : s.size ≤ 9223372036854775807 := by unfold maxLen at hs; omega
  have QF := Lib.hid tt_dig_at
  have hlt0 := h.lt
  have ht0 := h.txt
  have hp0 := h.pos
  have hle0 := h.le
  have H0 := Lib.hid h
  clear h hs
  go_enter Tryz.func82, Tryz.ntmps82
  go_wp2_with fail
  go_loopg [] s.size (fun j wr => ∃ q, Hid (Taking R s p digB w j q wr))
  case atStart => exact ⟨p, Keeps.refl _ _, H0.out, by omega, Nat.le_refl _, by simp, rfl⟩
  case round =>
    obtain ⟨q, hk⟩ := hrel
    have hkk := hk.out
    obtain ⟨k1, k2, k3, k4, k5, k6⟩ := hk.out
    have hlt := k2.lt
    have ht := k2.txt
    have hp := k2.pos
    have hf := k2.free
    have hle := k2.le
    have HK := Lib.hid hkk
    clear hk hkk k1 k2 k3 k5 k6 ht0 hp0 hlt0
    by_cases hq : q < s.size
    · have hd : decide ((q : Int) < (s.size : Int)) = true := by simpa using hq
      obtain ⟨b, hb⟩ : ∃ b, digB s[q] = b := ⟨_, rfl⟩
      have Q1 := Lib.hid (fun W => QF.out s[q] W (r := b) hb)
      have HB := Lib.hid hb
      clear hb
      cases b
      · go_wp2_with fail
        go_quiet ((go_at_call 111; exact Calls.quiet_of_same ((Q1.out _).mono fun _ _ ⟨he, hw⟩ => ⟨he, hw.symm⟩)))
        go_wp2_with fail
        have hk4 : (p : Int) ≤ (q : Int) := by omega
        go_quiet (fail)
        go_wp2_with fail
        go_ret
        exact taken_end hle HK.out (fun _ => HB.out)
      · go_wp2_with fail
        go_quiet ((go_at_call 111; exact Calls.quiet_of_same ((Q1.out _).mono fun _ _ ⟨he, hw⟩ => ⟨he, hw.symm⟩)))
        go_wp2_with fail
        go_roundg (gk - 1)
        case measure => have := HK.out.2.2.1; omega
        case rel => exact ⟨q + 1, taken_next hq HK.out HB.out⟩
    · have hd : decide ((q : Int) < (s.size : Int)) = false := by simp; omega
      have hk4 : (p : Int) ≤ (q : Int) := by omega
      have hqs : ¬ q < s.size := hq
      clear hq
      go_wp2_with fail
      go_quiet (fail)
      go_wp2_with fail
      go_quiet (fail)
      go_wp2_with fail
      go_ret
      exact taken_end hle HK.out (fun h => absurd h hqs)
set_option maxHeartbeats 1000000 in
set_option maxRecDepth 10000 in
theorem take_word (s : ByteArray) (R p : Nat) (w : World) (hs : s.size ≤ maxLen) (h : Rd w R s p) :
    Calls Tryz.prog 82 #[.pointer (some ⟨R, 0, none⟩), .func (.func 83) #[] #[]] w (Taken R s p inB w) := by
  have hs' : s.size ≤ 9223372036854775807 := by unfold maxLen at hs; omega
  have QF := Lib.hid tt_word_at
  have hlt0 := h.lt
  have ht0 := h.txt
  have hp0 := h.pos
  have hle0 := h.le
  have H0 := Lib.hid h
  clear h hs
  go_enter Tryz.func82, Tryz.ntmps82
  go_wp2_with fail
  go_loopg [] s.size (fun j wr => ∃ q, Hid (Taking R s p inB w j q wr))
  case atStart => exact ⟨p, Keeps.refl _ _, H0.out, by omega, Nat.le_refl _, by simp, rfl⟩
  case round =>
    obtain ⟨q, hk⟩ := hrel
    have hkk := hk.out
    obtain ⟨k1, k2, k3, k4, k5, k6⟩ := hk.out
    have hlt := k2.lt
    have ht := k2.txt
    have hp := k2.pos
    have hf := k2.free
    have hle := k2.le
    have HK := Lib.hid hkk
    clear hk hkk k1 k2 k3 k5 k6 ht0 hp0 hlt0
    by_cases hq : q < s.size
    · have hd : decide ((q : Int) < (s.size : Int)) = true := by simpa using hq
      obtain ⟨b, hb⟩ : ∃ b, inB s[q] = b := ⟨_, rfl⟩
      have Q1 := Lib.hid (fun W => QF.out s[q] W (r := b) hb)
      have HB := Lib.hid hb
      clear hb
      cases b
      · go_wp2_with fail
        go_quiet ((go_at_call 83; exact Calls.quiet_of_same ((Q1.out _).mono fun _ _ ⟨he, hw⟩ => ⟨he, hw.symm⟩)))
        go_wp2_with fail
        have hk4 : (p : Int) ≤ (q : Int) := by omega
        go_quiet (fail)
        go_wp2_with fail
        go_ret
        exact taken_end hle HK.out (fun _ => HB.out)
      · go_wp2_with fail
        go_quiet ((go_at_call 83; exact Calls.quiet_of_same ((Q1.out _).mono fun _ _ ⟨he, hw⟩ => ⟨he, hw.symm⟩)))
        go_wp2_with fail
        go_roundg (gk - 1)
        case measure => have := HK.out.2.2.1; omega
        case rel => exact ⟨q + 1, taken_next hq HK.out HB.out⟩
    · have hd : decide ((q : Int) < (s.size : Int)) = false := by simp; omega
      have hk4 : (p : Int) ≤ (q : Int) := by omega
      have hqs : ¬ q < s.size := hq
      clear hq
      go_wp2_with fail
      go_quiet (fail)
      go_wp2_with fail
      go_quiet (fail)
      go_wp2_with fail
      go_ret
      exact taken_end hle HK.out (fun h => absurd h hqs)

end Go.Proofs.YtlpibnbabgfiiaaGreatDoor
