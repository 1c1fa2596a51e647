/-
  Contracts of weigh, Great, GreatAtoms and GreatGoals of the reference: they only read.
-/
import Derived.Test.YtpnjjahimhhjkaaProg
import Derived.Test.YtpnjjahimhhjkaaTmBase
import Derived.Outline
import Derived.WalkLawsBesides
import Derived.BigQuiet
import Derived.Deep.QuietTactic
import Derived.IntWalk
namespace Go.Proofs.Ytpnjjahimhhjkaa
open Go.RowKit

theorem Lst.drewN {w : World} {A : Option Addr} {l : List Tm} {c : Nat} (h : Lst w A l c) (n : Nat) : Lst (w.drewN n) A l c := h.below (below_drewN (Below.refl _ _) n)

set_option maxHeartbeats 1000000 in
theorem weigh_at (deep : Nat) : ∀ (l : List Tm) (A : Option Addr) (c : Nat) (left : Int) (w : World), Lst w A l c → deep ≤ 64 → -4611686018427387904 ≤ left → left ≤ 1000000 →
    Calls Try.prog 35 #[.slice A l.length c, .int .i64 left, .int .i64 (deep : Int)] w fun e w' => e = .returned (.int .i64 (weigh l left deep)) ∧ ∃ n, w' = w.drewN n := by
  induction deep with
  | zero =>
    intro l A c left w hl _ hlo hhi
    have HV := Lib.hid (show weigh l left ((0 : Nat) : Int) = -1 by simp [weigh])
    go_enter Try.func35, Try.ntmps35
    go_wp2_with fail
    go_ret
    exact ⟨by rw [HV.out]; rfl, 0, rfl⟩
  | succ deep ih =>
    intro l A c left w hl hd hlo hhi
    rw [show ((deep + 1 : Nat) : Int) = (deep : Int) + 1 by omega]
    have hlen : l.length ≤ 9223372036854775807 := by have := hl.1; have := hl.2.1; unfold maxLen at *; omega
    have hd0 : (((deep : Int) + 1) == 0) = false := by simp; omega
    by_cases hgt : left < (l.length : Int)
    · have HV := Lib.hid (show weigh l left ((deep : Int) + 1) = -1 by simp [weigh, hgt])
      go_enter Try.func35, Try.ntmps35
      go_wp2_with fail
      go_ret
      exact ⟨by rw [HV.out]; rfl, 0, rfl⟩
    · have HV := Lib.hid (show weigh l left ((deep : Int) + 1) = weighL l left ((deep : Int) + 1) by unfold weigh; rw [if_neg (by omega)])
      have hgt' : decide (left < (l.length : Int)) = false := by simpa using hgt
      have h0 : 0 ≤ left := by omega
      clear hgt
      have QI := Lib.hid ih
      clear ih
      go_enter Try.func35, Try.ntmps35
      go_wp2_with fail
      go_loopw [1, 7] (fun z i wr => ∃ j : Nat, j ≤ l.length ∧ i = .int .i64 j ∧ z = .int .i64 (weighL (l.take j) left ((deep : Int) + 1)) ∧ Hid (∃ n, wr = w.drewN n)) (fun _ i _ => l.length - (intOf i).toNat)
      case atStart => exact ⟨0, Nat.zero_le _, rfl, rfl, Lib.hid ⟨0, rfl⟩⟩
      case round =>
        obtain ⟨j, hj, rfl, rfl, hb⟩ := hrel
        have z1 := weigh_lo.2 (l.take j) left ((deep : Int) + 1) (by omega)
        have z2 := weighL_hi (l.take j) left ((deep : Int) + 1) (by omega)
        have HS := Lib.hid (fun h => weighL_stop (l := l) (k := j) left ((deep : Int) + 1) h)
        have HN := Lib.hid (fun h => weighL_next (l := l) (k := j) h left ((deep : Int) + 1))
        obtain ⟨z, hz⟩ : ∃ z, weighL (l.take j) left ((deep : Int) + 1) = z := ⟨_, rfl⟩
        rw [hz] at z1 z2 HS HN ⊢
        have HZ := Lib.hid hz
        clear hz
        by_cases hlt : j < l.length
        · by_cases hz0 : 0 ≤ z
          · have hlr : Lst wr A l c := by obtain ⟨n, rfl⟩ := hb.out; exact hl.drewN n
            obtain ⟨b, o, rfl, ⟨c0, c1, c2, c3⟩, hx⟩ := hlr.get hlt
            have HN' := Lib.hid (HN.out hlt hz0)
            clear HN HS
            generalize l.getD j default = x at *
            obtain ⟨k', n', s', A', c', a'⟩ := x
            simp only [Tm.kind, Tm.num, Tm.name, Tm.at_, Tm.args, Tm.cap] at c0 c1 c2 c3
            have hs' : s'.size ≤ 9223372036854775807 := by have := ((At_iff _ _).1 hx).1.2.2; unfold maxLen at this; exact this
            have Q1 := Lib.hid (QI.out a' A' c' (z - 1 - (s'.size : Int) / 8))
            have HX := Lib.hid (show Lst wr A' a' c' from hx.lst)
            clear hx QI
            go_wp2_with fail
            go_quiet ((go_at_call 35; exact Calls.quiet_of (Q1.out _ (HX.out.drewN _) (by omega) (by omega) (by omega))))
            go_wp2_with fail
            go_roundw
            case rel =>
              refine ⟨j + 1, by omega, by go_num, ?_, ?_⟩
              · rw [HN'.out]
                have e : ((deep : Int) + 1) - 1 = (deep : Int) := by omega
                simp only [Tm.args, Tm.name, e]
              · obtain ⟨n, hn⟩ := hb.out
                exact Lib.hid ⟨n + nq, by rw [hn, World.drewN_drewN]⟩
            case measure => simp [intOf]; omega
          · have hz0' : z < 0 := by omega
            have HE := Lib.hid (HS.out hz0')
            clear HN HS
            go_wp2_with fail
            go_ret
            exact ⟨by rw [HV.out, HE.out]; rfl, hb.out⟩
        · obtain rfl : j = l.length := by omega
          have HE := Lib.hid (show weighL l left ((deep : Int) + 1) = z by rw [← HZ.out, List.take_length])
          clear HN HS
          go_wp2_with fail
          go_ret
          exact ⟨by rw [HV.out, HE.out]; rfl, hb.out⟩

theorem great_at (l : List Tm) (A : Option Addr) (c : Nat) (most : Int) (w : World) (hl : Lst w A l c) (h1 : 0 ≤ most) (h2 : most ≤ 1000000) {r : Bool} (hr : decide (weigh l most 64 < 0) = r) :
    Calls Try.prog 10 #[.slice A l.length c, .int .i64 most] w fun e w' => e = .returned (.bool r) ∧ ∃ n, w' = w.drewN n := by
  have Q := Lib.hid (weigh_at 64 l A c most w hl (Nat.le_refl _) (by omega) h2)
  obtain ⟨z, hz⟩ : ∃ z, weigh l most 64 = z := ⟨_, rfl⟩
  have HR := Lib.hid hr
  rw [hz] at HR
  have HZ := Lib.hid hz
  clear hr hz
  go_enter Try.func10, Try.ntmps10
  go_wp2_with fail
  refine Q.out.mono ?_
  rintro e w1 ⟨rfl, hw⟩
  go_wp2_with fail
  go_ret
  refine ⟨?_, hw⟩
  rw [← HR.out, ← HZ.out]
  rfl
end Go.Proofs.Ytpnjjahimhhjkaa
