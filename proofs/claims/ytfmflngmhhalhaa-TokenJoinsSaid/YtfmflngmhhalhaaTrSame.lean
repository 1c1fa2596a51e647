/-
  Contracts of Gap and Same of the reference, and of great of the statements.
-/
import Derived.Test.YtfmflngmhhalhaaTkMem
import Derived.Test.YtfmflngmhhalhaaTrSkip
import Derived.Deep.QuietTactic
import Derived.BigQuiet
import Derived.BigRegion
import Derived.WalkSpells
namespace Go.Proofs.Ytfmflngmhhalhaa
open Go.RowKit

theorem skip_of_gap {s : ByteArray} {p : Nat} (hp : p ≤ s.size) : skipP (s.extract 0 (skipP s p)) p = skipP s p := by
  obtain ⟨f1, f2, f3⟩ := skipP_facts hp
  have hz : (s.extract 0 (skipP s p)).size = skipP s p := by rw [ByteArray.size_extract]; omega
  have hr : rest (s.extract 0 (skipP s p)) p = (rest s p).take ((rest s p).length - (gap false (rest s p)).length) := by
    unfold rest
    rw [extract_list, Nat.sub_zero, rest_zero, List.drop_take]
    congr 1
    have h1 := rest_len s p
    have h2 := (gap_suffix false (rest s p)).length_le
    show skipP s p - p = (rest s p).length - (gap false (rest s p)).length
    unfold skipP
    omega
  show (s.extract 0 (skipP s p)).size - (gap false (rest (s.extract 0 (skipP s p)) p)).length = skipP s p
  rw [hz, hr, gap_take]
  rfl
set_option maxHeartbeats 1000000 in
theorem gap_at (s : ByteArray) (p q : Nat) (w : World) (hs : s.size ≤ 100000) (hp : p ≤ s.size) (hq : skipP s p = q) :
    Calls Try.prog 16 #[.string s, .int .i64 (p : Int), .int .i64 (q : Int)] w fun e w' => e = .returned (.bool true) ∧ w = w' := by
  obtain ⟨f1, f2, _⟩ := skipP_facts hp
  have hx := skip_of_gap hp
  rw [hq] at f1 f2 hx
  have hpq : (p : Int) ≤ (q : Int) := by omega
  have hqs : (q : Int) ≤ (s.size : Int) := by omega
  have hz : (s.extract 0 q).size = q := by rw [ByteArray.size_extract]; omega
  have Q := Lib.hid (fun W => tr_skip_at (s.extract 0 q) p W (by omega) (by omega) hx)
  have h0 : (0 : Int) ≤ (p : Int) := by omega
  clear hx hq
  go_enter Try.func16, Try.ntmps16
  go_wp2_with (go_at_call 22; refine (Q.out _).mono ?_; rintro e w' ⟨rfl, rfl⟩)
  go_ret
  exact ⟨by simp, rfl⟩
def greatB (s : ByteArray) : Bool := decide (3000 < s.size ∧ s.size ≤ 16384 ∨ 20000 < s.size)
set_option maxHeartbeats 1000000 in
theorem great_at (s : ByteArray) (w : World) {r : Bool} (hr : greatB s = r) :
    Calls Try.prog 9 #[.string s] w fun e w' => e = .returned (.bool r) ∧ w = w' := by
  by_cases h1 : 3000 < s.size
  · by_cases h2 : s.size ≤ 16384
    · obtain rfl : true = r := by rw [← hr]; simp [greatB]; omega
      have h1' : (3000 : Int) < (s.size : Int) := by omega
      have h2' : (s.size : Int) ≤ 16384 := by omega
      clear h1 h2 hr
      go_enter Try.func9, Try.ntmps9
      go_wp2
      go_ret
      exact ⟨rfl, rfl⟩
    · have h1' : (3000 : Int) < (s.size : Int) := by omega
      have h2' : decide ((s.size : Int) ≤ 16384) = false := by simp; omega
      by_cases h3 : 20000 < s.size
      · obtain rfl : true = r := by rw [← hr]; simp [greatB]; omega
        have h3' : (20000 : Int) < (s.size : Int) := by omega
        clear h1 h2 hr
        go_enter Try.func9, Try.ntmps9
        go_wp2
        go_ret
        exact ⟨rfl, rfl⟩
      · obtain rfl : false = r := by rw [← hr]; simp [greatB]; omega
        have h3' : decide ((20000 : Int) < (s.size : Int)) = false := by simp; omega
        clear h1 h2 h3 hr
        go_enter Try.func9, Try.ntmps9
        go_wp2
        go_ret
        exact ⟨rfl, rfl⟩
  · obtain rfl : false = r := by rw [← hr]; simp [greatB]; omega
    have h1' : decide ((3000 : Int) < (s.size : Int)) = false := by simp; omega
    have h3' : decide ((20000 : Int) < (s.size : Int)) = false := by simp; omega
    clear h1 hr
    go_enter Try.func9, Try.ntmps9
    go_wp2
    go_ret
    exact ⟨rfl, rfl⟩

set_option maxHeartbeats 4000000 in
set_option maxRecDepth 20000 in
theorem same_at (l : List Tk) (A B : Option Addr) (c d : Nat) (w : World) (ha : TLst w A l c) (hb : TLst w B l d) (hl : l.length ≤ 200000) :
    Calls Try.prog 15 #[.slice A l.length c, .slice B l.length d] w fun e w' => e = .returned (.bool true) ∧ Below w.heap.size w w' := by
  have HA := Lib.hid ha
  have HB := Lib.hid hb
  clear ha hb
  go_enter Try.func15, Try.ntmps15
  go_wp2_with fail
  go_loopw [5] (fun i wr => ∃ k : Nat, k ≤ l.length ∧ i = .int .i64 (k : Int) ∧ Hid (Below w.heap.size w wr)) (fun i _ => l.length - (intOf i).toNat)
  case atStart => exact ⟨0, Nat.zero_le _, rfl, Lib.hid (Below.refl _ _)⟩
  case round =>
    obtain ⟨k, hk, rfl, HW⟩ := hrel
    by_cases hlt : k < l.length
    · have hlt' : (k : Int) < (l.length : Int) := by omega
      obtain ⟨g, rfl, a0, a1, a2⟩ := (HA.out.below HW.out).get hlt
      obtain ⟨h, rfl, b0, b1, b2⟩ := (HB.out.below HW.out).get hlt
      generalize l.getD k default = x at a0 a1 a2 b0 b1 b2
      go_wp2_with fail
      go_quiet (fail)
      have hk63 : ¬ (9223372036854775807 < (k : Int) + 1) := by omega
      go_wp2_with fail
      go_roundw
      case rel => exact ⟨k + 1, by omega, by go_num, Lib.hid (below_drewN HW.out _)⟩
      case measure => simp [intOf]; omega
    · obtain rfl : k = l.length := by omega
      have hd : decide ((l.length : Int) < (l.length : Int)) = false := by simp
      go_wp2_with fail
      go_ret
      exact ⟨rfl, HW.out⟩
end Go.Proofs.Ytfmflngmhhalhaa
