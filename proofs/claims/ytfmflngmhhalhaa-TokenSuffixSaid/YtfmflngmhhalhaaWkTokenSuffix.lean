/-
  The walk of TokenSuffix.
-/
import Derived.Lib.QuietBelow
import Derived.ProofKit
import Derived.OpenShut
import Derived.ChangeOld
import Derived.Test.YtfmflngmhhalhaaTkLaw
namespace Go.Proofs.Ytfmflngmhhalhaa.tokenSuffix
open Go.ChangeShapes Go.WideShapes Go.ChangeAt Go.RowKit Go.Sort
set_option linter.unusedVariables false

theorem tok_suffix {s : ByteArray} {q : Nat} (hq : q ≤ s.size) : ∃ (k er : Int) (p n : Nat) (t : List UInt8), tokAt (s.extract q s.size) 0 = ((k, p, t), n, er) ∧ tokAt s q = (if er = 0 then ((k, p + q, t), n + q, 0) else ((0, 0, []), n + q, er)) ∧ n + q ≤ s.size ∧ p + q ≤ s.size := by
  have hz : (s.extract q s.size).size = s.size - q := by rw [ByteArray.size_extract]; omega
  have hr : rest (s.extract q s.size) 0 = rest s q := rest_of_extract s q
  have hsk : skipP s q = skipP (s.extract q s.size) 0 + q := by
    have h2 := (gap_suffix false (rest s q)).length_le
    rw [rest_len] at h2
    unfold skipP
    rw [hz, hr]
    omega
  obtain ⟨f1, f2, f3⟩ := skipP_facts hq
  have hin := tokAt_in hq
  generalize hx : skipP (s.extract q s.size) 0 = x at hsk
  rcases ht : tokL (gap false (rest s q)) with ⟨k, t, er⟩
  by_cases he : er = 0
  · subst he
    refine ⟨k, 0, x, x + t.length, t, tokAt_ok hx (by rw [hr]; exact ht), ?_, ?_, by omega⟩
    · rw [if_pos rfl, tokAt_ok hsk ht, Nat.add_right_comm]
    · rw [tokAt_ok hsk ht] at hin; simp only at hin; omega
  · refine ⟨0, er, 0, x, [], tokAt_err hx (by rw [hr]; exact ht) he, ?_, by omega, by omega⟩
    rw [if_neg he, tokAt_err hsk ht he]
theorem offset_in (s : ByteArray) (a : Int) (hs : s.size ≤ 3000) : ∃ q : Nat, wrap64 ((IntKind.u64.wrap a).tmod ((s.size : Int) + 1)) = (q : Int) ∧ q ≤ s.size := by
  rw [IntKind.wrap_u64]
  have h0 : 0 ≤ a % 18446744073709551616 := Int.emod_nonneg _ (by decide)
  generalize a % 18446744073709551616 = x at h0
  rw [Int.tmod_eq_emod_of_nonneg h0]
  have h1 : 0 ≤ x % ((s.size : Int) + 1) := Int.emod_nonneg _ (by omega)
  have h2 : x % ((s.size : Int) + 1) < (s.size : Int) + 1 := Int.emod_lt_of_pos _ (by omega)
  generalize x % ((s.size : Int) + 1) = y at h1 h2
  refine ⟨y.toNat, ?_, by omega⟩
  unfold wrap64
  omega
theorem suffix_at (s : ByteArray) (q : Nat) (hs : s.size ≤ 3000) (hq : q ≤ s.size) : nextP s (q : Int) = tokAt s q ∧ nextP (s.extract q s.size) 0 = tokAt (s.extract q s.size) 0 := by
  have hz : (s.extract q s.size).size = s.size - q := by rw [ByteArray.size_extract]; omega
  constructor
  · unfold nextP; rw [if_neg (by omega), if_neg (by omega)]; rfl
  · unfold nextP; rw [if_neg (by omega), if_neg (by omega)]; rfl
set_option maxHeartbeats 4000000 in
theorem walk (a0 : ByteArray) (a1 : Int) (w : World) (w0 : a0.size ≤ maxLen) (w1 : (Lit.int .i64 a1).wf = true) :
    Calls Try.prog 8 #[.string a0, .int .i64 a1] w fun e w' => e = .returned (.bool true) ∧ Below w.heap.size w w' := by
  by_cases hs : 3000 < a0.size
  · have hs' : (3000 : Int) < (a0.size : Int) := by omega
    go_enter Try.func8, Try.ntmps8
    go_wp2_with (go_at_call 12; refine (live_at _).mono ?_; rintro e w9 ⟨rfl, hb9⟩; have HL := Lib.hid hb9; clear hb9)
    go_ret
    exact ⟨rfl, HL.out⟩
  · have hs' : decide ((3000 : Int) < (a0.size : Int)) = false := by simp; omega
    have hs2 : a0.size ≤ 3000 := by omega
    clear hs
    go_enter Try.func8, Try.ntmps8
    go_wp2_with (go_at_call 12; refine (live_at _).mono ?_; rintro e w9 ⟨rfl, hb9⟩; have HL := Lib.hid hb9; clear hb9)
    obtain ⟨q, hqe, hq⟩ := offset_in a0 a1 hs2
    rw [hqe]
    clear hqe
    have hq0 : (0 : Int) ≤ (q : Int) := by omega
    have hqs : (q : Int) ≤ (a0.size : Int) := by omega
    obtain ⟨k, er, p, n, t, hx0, hx1, hn, hp⟩ := tok_suffix hq
    obtain ⟨s1, s2⟩ := suffix_at a0 q hs2 hq
    have Q1 := fun W => next_at a0 (q : Int) W (by omega)
    have Q2 := Lib.hid (fun W => next_at (a0.extract q a0.size) 0 W (by rw [ByteArray.size_extract]; omega))
    rw [s1, hx1] at Q1
    rw [s2, hx0] at Q2
    have hn63 : ¬ (9223372036854775807 < (n : Int) + (q : Int)) := by omega
    have hp63 : ¬ (9223372036854775807 < (p : Int) + (q : Int)) := by omega
    clear hx0 hx1 s1 s2
    by_cases he : er = 0
    · subst he
      rw [if_pos rfl] at Q1
      refine (Q1 _).mono ?_
      clear Q1
      rintro e w1 ⟨rfl, hb1⟩
      go_wp2_with fail
      refine (Q2.out _).mono ?_
      rintro e w2 ⟨rfl, hb2⟩
      obtain ⟨d0, d1, d2, hb3⟩ := box3 hb2
      have HB := Lib.hid (HL.out.trans ((hb1.trans (hb3.mono hb1.size)).mono HL.out.size))
      have hlt : w1.heap.size < w2.heap.size := by have := hb2.size; simp at this; omega
      have hne : ¬ w1.heap.size = w2.heap.size := by omega
      have hne2 : ¬ w2.heap.size = w1.heap.size := by omega
      clear hb1 hb2 hb3
      go_wp2_with fail
      go_ret
      exact ⟨rfl, HB.out.alloc HB.out.size _⟩
    · rw [if_neg he] at Q1
      have he' : (er == 0) = false := by simpa using he
      have hne' : (er != 0) = true := by simpa using he
      clear he
      refine (Q1 _).mono ?_
      clear Q1
      rintro e w1 ⟨rfl, hb1⟩
      go_wp2_with fail
      refine (Q2.out _).mono ?_
      rintro e w2 ⟨rfl, hb2⟩
      obtain ⟨d0, d1, d2, hb3⟩ := box3 hb2
      have HB := Lib.hid (HL.out.trans ((hb1.trans (hb3.mono hb1.size)).mono HL.out.size))
      have hlt : w1.heap.size < w2.heap.size := by have := hb2.size; simp at this; omega
      have hne : ¬ w1.heap.size = w2.heap.size := by omega
      have hne2 : ¬ w2.heap.size = w1.heap.size := by omega
      clear hb1 hb2 hb3
      go_wp2_with fail
      go_ret
      exact ⟨rfl, HB.out.alloc HB.out.size _⟩
end Go.Proofs.Ytfmflngmhhalhaa.tokenSuffix
