/-
  Contracts of the reference's word, name and integer.
-/
import Derived.Test.YtlpibnbabgfiiaaGreatDoorTrScan
import Derived.Test.YtlpibnbabgfiiaaGreatDoorTtRead
import Derived.Test.YtlpibnbabgfiiaaGreatDoorNmAll
namespace Go.Proofs.YtlpibnbabgfiiaaGreatDoor
open Go.RowKit

theorem fail0 {w : World} {R p : Nat} {s : ByteArray} {c : Int} (h : ((0 : Int) = 0 ∧ Rr w R s p c) ∨ ((0 : Int) ≠ 0 ∧ Rr w R s p 0)) : Rr w R s p c := h.elim (fun h => h.2) (fun h => absurd rfl h.1)
def TakenR (R : Nat) (s : ByteArray) (p : Nat) (k : UInt8 → Bool) (er : Int) (w : World) (e : Ending) (w' : World) : Prop :=
  ∃ p' x, x.data.toList = (rest s p).takeWhile k ∧ rest s p' = (rest s p).dropWhile k ∧ p' = p + x.size ∧ e = .returned (.string x) ∧ Keeps R w w' ∧ Rr w' R s p' er
def TakingR (R : Nat) (s : ByteArray) (p : Nat) (k : UInt8 → Bool) (er : Int) (w : World) (j q : Nat) (wr : World) : Prop :=
  Keeps R w wr ∧ Rr wr R s q er ∧ s.size - q ≤ j ∧ p ≤ q ∧ (rest s p).takeWhile k = (rest s p).take (q - p) ++ (rest s q).takeWhile k ∧ (rest s q).dropWhile k = (rest s p).dropWhile k
theorem takenr_next {R p q j : Nat} {er : Int} {s : ByteArray} {k : UInt8 → Bool} {w wr : World} (hq : q < s.size) (h : TakingR R s p k er w j q wr) (hk : k s[q] = true) :
    TakingR R s p k er w (j - 1) (q + 1) (wr.setCell ⟨R, 1, none⟩ (.int .i64 ((q + 1 : Nat) : Int))) := by
  obtain ⟨h1, h2, h3, h4, h5, h6⟩ := h
  obtain ⟨e1, e2⟩ := while_next hq hk
  refine ⟨h1.set _ _ _, h2.set (by omega), by omega, by omega, ?_, by rw [← e2, h6]⟩
  rw [h5, e1, show q + 1 - p = (q - p) + 1 by omega]
  have hl : q - p < (rest s p).length := by rw [rest_len]; omega
  rw [List.take_succ_eq_append_getElem hl, List.append_assoc]
  congr 1
  have : (rest s p)[q - p] = s[q] := by
    have e : (rest s p)[q - p] = (rest s q).headD 0 := by
      have hr := rest_drop s p (q - p)
      rw [show p + (q - p) = q by omega] at hr
      rw [hr]
      simp [List.headD_eq_head?_getD, List.head?_drop, hl]
    rw [e, rest_head hq]
  rw [this]
  rfl
theorem takenr_end {R p q j n : Nat} {er : Int} {s : ByteArray} {k : UInt8 → Bool} {w wr : World} (hle : q ≤ s.size) (h : TakingR R s p k er w j q wr) (hk : ∀ _ : q < s.size, k s[q] = false) :
    TakenR R s p k er w (.returned (.string (s.extract p q))) (wr.drewN n) := by
  obtain ⟨h1, h2, h3, h4, h5, h6⟩ := h
  obtain ⟨e1, e2⟩ := while_end hk
  refine ⟨q, _, ?_, by rw [← h6, e2], ?_, rfl, h1.drewN n, h2.drewN n⟩
  · rw [extract_list, h5, e1, List.append_nil]; rfl
  · have : (s.extract p q).size = min q s.size - p := by simp [ByteArray.size_extract]
    rw [this]; omega
theorem in_false {s : ByteArray} {q : Nat} (h1 : letB ((rest s q).headD 0) = false) (h2 : digB ((rest s q).headD 0) = false) : ∀ _ : q < s.size, inB s[q] = false := fun h => by
  rw [rest_head h] at h1 h2
  rw [in_let, h1, h2]; rfl
theorem in_true {s : ByteArray} {q : Nat} (h : letB ((rest s q).headD 0) = true ∨ digB ((rest s q).headD 0) = true) : ∃ hq : q < s.size, inB s[q] = true := by
  rcases Nat.lt_or_ge q s.size with hq | hq
  · refine ⟨hq, ?_⟩
    rw [rest_head hq] at h
    rw [in_let]
    rcases h with h | h <;> simp [h]
  · rw [rest_end hq] at h
    exact absurd h (by decide)
set_option maxHeartbeats 1000000 in
set_option maxRecDepth 10000 in
theorem wordr_at (s : ByteArray) (R p : Nat) (er : Int) (w : World) (hs : s.size ≤ maxLen) (h : Rr w R s p er) :
    Calls Tryz.prog 86 #[.pointer (some ⟨R, 0, none⟩)] w (TakenR R s p inB er w) := by
  have hs' : s.size ≤ 9223372036854775807 := by unfold maxLen at hs; omega
  have hp0 := h.pos
  have H0 := Lib.hid h
  clear h
  go_enter Tryz.func86, Tryz.ntmps86
  go_wp2_with fail
  go_loopg [] s.size (fun j wr => ∃ q, Hid (TakingR R s p inB er w j q wr))
  case atStart => exact ⟨p, Keeps.refl _ _, H0.out, by omega, Nat.le_refl _, by simp, rfl⟩
  case round =>
    obtain ⟨q, hk⟩ := hrel
    have k2 := hk.out.2.1
    have hple : (p : Int) ≤ (q : Int) := by have := hk.out.2.2.2.1; omega
    have hp := k2.pos
    have ht := k2.txt
    have hf := k2.free
    have hle : (q : Int) ≤ (s.size : Int) := by have := k2.le; omega
    have HR := Lib.hid k2
    clear k2 hp0
    obtain ⟨b1, h1⟩ : ∃ b, letB ((rest s q).headD 0) = b := ⟨_, rfl⟩
    obtain ⟨b2, h2⟩ : ∃ b, digB ((rest s q).headD 0) = b := ⟨_, rfl⟩
    have Q1 := Lib.hid (letter_at s R q q er wr hs HR.out h1)
    have Q2 := Lib.hid (digit_at s R q q er wr hs HR.out h2)
    have HB1 := Lib.hid h1
    have HB2 := Lib.hid h2
    clear h1 h2
    cases b1
    · cases b2
      · go_wp2_with (first | (go_at_call 112; refine Q1.out.mono ?_; rintro e w' ⟨rfl, rfl⟩) | (go_at_call 113; refine Q2.out.mono ?_; rintro e w' ⟨rfl, rfl⟩))
        go_quiet (fail)
        go_wp2_with fail
        go_ret
        exact takenr_end HR.out.le hk.out (in_false HB1.out HB2.out)
      · obtain ⟨hq, hin⟩ := in_true (.inr HB2.out)
        have HN := Lib.hid (takenr_next hq hk.out hin)
        have HG := Lib.hid (show gk - 1 < gk by have := hk.out.2.2.1; omega)
        have hq' : (q : Int) < (s.size : Int) := by omega
        clear hin hq
        go_wp2_with (first | (go_at_call 112; refine Q1.out.mono ?_; rintro e w' ⟨rfl, rfl⟩) | (go_at_call 113; refine Q2.out.mono ?_; rintro e w' ⟨rfl, rfl⟩))
        go_roundg (gk - 1)
        case measure => exact HG.out
        case rel => exact ⟨q + 1, HN.out⟩
    · obtain ⟨hq, hin⟩ := in_true (.inl HB1.out)
      have HN := Lib.hid (takenr_next hq hk.out hin)
      have HG := Lib.hid (show gk - 1 < gk by have := hk.out.2.2.1; omega)
      have hq' : (q : Int) < (s.size : Int) := by omega
      clear hin hq
      go_wp2_with (first | (go_at_call 112; refine Q1.out.mono ?_; rintro e w' ⟨rfl, rfl⟩) | (go_at_call 113; refine Q2.out.mono ?_; rintro e w' ⟨rfl, rfl⟩))
      go_roundg (gk - 1)
      case measure => exact HG.out
      case rel => exact ⟨q + 1, HN.out⟩

/-- A name was read: it is right, or the error is set. -/
def NameR (R : Nat) (s : ByteArray) (p : Nat) (w : World) (e : Ending) (w' : World) : Prop :=
  ∃ p' x, x.data.toList = (rest s p).takeWhile inB ∧ rest s p' = (rest s p).dropWhile inB ∧ p' = p + x.size ∧ e = .returned (.string x) ∧ Keeps R w w' ∧ ((rightB x.data.toList = true ∧ Rr w' R s p' 0) ∨ (rightB x.data.toList = false ∧ Rr w' R s p' 7))
set_option maxHeartbeats 1000000 in
theorem namer_at (s : ByteArray) (R p : Nat) (w : World) (hs : s.size ≤ maxLen) (h : Rr w R s p 0) :
    Calls Tryz.prog 49 #[.pointer (some ⟨R, 0, none⟩)] w (NameR R s p w) := by
  have hs' : s.size ≤ 9223372036854775807 := by unfold maxLen at hs; omega
  have Q := Lib.hid (wordr_at s R p 0 w hs h)
  clear h hs
  go_enter Tryz.func49, Tryz.ntmps49
  go_wp2_with fail
  refine Q.out.mono ?_
  rintro e w1 ⟨p', x, hx, hd, hp, rfl, hk, hr⟩
  have hxs : x.size ≤ 9223372036854775807 := by have := hr.le; omega
  have HX := Lib.hid hx
  have HD := Lib.hid hd
  have HP := Lib.hid hp
  have HK := Lib.hid hk
  have HR := Lib.hid hr
  clear hx hd hp hk hr
  obtain ⟨b, hb⟩ : ∃ b, rightB x.data.toList = b := ⟨_, rfl⟩
  go_wp2_with fail
  refine (ref_right_at x _ hxs hb).mono ?_
  rintro e w' ⟨rfl, rfl⟩
  have HB := Lib.hid hb
  clear hb
  cases b
  · go_wp2_with fail
    refine (fail_at s R p' 0 7 _ HR.out).mono ?_
    rintro e w2 ⟨rfl, hk2, ho⟩
    have HR2 := Lib.hid (show Rr w2 R s p' 7 from fail0 ho)
    have HK2 := Lib.hid (HK.out.trans hk2)
    clear ho hk2
    go_wp2_with fail
    go_ret
    exact ⟨p', x, HX.out, HD.out, HP.out, rfl, HK2.out, .inr ⟨HB.out, HR2.out⟩⟩
  · go_wp2_with fail
    go_ret
    exact ⟨p', x, HX.out, HD.out, HP.out, rfl, HK.out, .inl ⟨HB.out, HR.out⟩⟩
end Go.Proofs.YtlpibnbabgfiiaaGreatDoor
