/-
  The walk of TokenSymbols.
-/
import Derived.Lib.QuietBelow
import Derived.ProofKit
import Derived.OpenShut
import Derived.ChangeOld
import Derived.Test.YtfmflngmhhalhaaTkLaw
import Derived.Test.YtfmflngmhhalhaaTrSymbol
namespace Go.Proofs.Ytfmflngmhhalhaa.tokenSymbols
open Go.ChangeShapes Go.WideShapes Go.ChangeAt Go.RowKit Go.Sort
set_option linter.unusedVariables false

theorem sym_next {s : ByteArray} {a : Int} {k p n : Nat} {t : List UInt8} {kk : Int} (h : nextP s a = ((kk, p, t), n, 0)) (hx : symAt s a ≠ []) : kk = 4 ∧ t = symAt s a ∧ (p : Int) = a ∧ (n : Int) = a + (symAt s a).length ∧ n ≤ s.size := by
  unfold symAt at hx ⊢
  unfold nextP at h
  by_cases h0 : a < 0 ∨ (s.size : Int) < a
  · rw [if_pos h0] at hx; exact absurd rfl hx
  · rw [if_neg h0] at hx h ⊢
    by_cases h1 : 16384 < s.size
    · rw [if_pos h1] at h; simp at h
    · rw [if_neg h1] at h
      obtain ⟨g1, g2⟩ := sym_token hx
      have hq : skipP s a.toNat = a.toNat := skipP_stop (by omega) g1
      rw [tokAt_ok hq (by rw [g1]; exact g2)] at h
      simp only [Prod.mk.injEq] at h
      obtain ⟨⟨rfl, rfl, rfl⟩, rfl, _⟩ := h
      exact ⟨rfl, rfl, by omega, by omega, symP_le (by omega)⟩
set_option maxHeartbeats 4000000 in
theorem walk (a0 : ByteArray) (a1 : Int) (w : World) (w0 : a0.size ≤ maxLen) (w1 : (Lit.int .i64 a1).wf = true) :
    Calls Try.prog 7 #[.string a0, .int .i64 a1] w fun e w' => e = .returned (.bool true) ∧ Below w.heap.size w w' := by
  obtain ⟨b, hb⟩ : ∃ b, greatB a0 = b := ⟨_, rfl⟩
  have QG := Lib.hid (fun W => great_at a0 W hb)
  cases b
  case true =>
    clear hb
    go_enter Try.func7, Try.ntmps7
    go_wp2_with (go_at_call 9; refine (QG.out _).mono ?_; rintro e w' ⟨rfl, rfl⟩)
    go_ret
    exact ⟨rfl, Below.refl _ _⟩
  have hs : a0.size ≤ 100000 := small_of hb
  clear hb
  have Q1 := Lib.hid (fun W => symbol_at a0 a1 W hs)
  have Q2 := Lib.hid (fun W => tr_symbol_at a0 a1 W hs)
  have Q3 := Lib.hid (fun W => next_at a0 a1 W hs)
  have HS := fun kk p t n => @sym_next a0 a1 0 p n t kk
  generalize symAt a0 a1 = y at Q1 Q2 HS
  generalize nextP a0 a1 = x at Q3 HS
  obtain ⟨⟨k, p, t⟩, n, er⟩ := x
  have HN : Hid (er = 0 → y ≠ [] → k = 4 ∧ t = y ∧ (p : Int) = a1 ∧ (n : Int) = a1 + y.length ∧ n ≤ a0.size) := Lib.hid (fun he hy => HS k p t n (by rw [he]) hy)
  clear HS
  have hyl : (S y).size = y.length := by simp [ByteArray.size]
  go_enter Try.func7, Try.ntmps7
  go_wp2_with (first | (go_at_call 9; refine (QG.out _).mono ?_; rintro e w' ⟨rfl, rfl⟩) | (go_at_call 17; refine (Q1.out _).mono ?_; rintro e w' ⟨rfl, rfl⟩))
  refine (Q2.out _).mono ?_
  rintro e w1 ⟨rfl, hb1⟩
  have HB1 := Lib.hid hb1
  clear hb1
  go_wp2_with fail
  refine (Q3.out _).mono ?_
  rintro e w2 ⟨rfl, hb2⟩
  have HB := Lib.hid (HB1.out.trans (hb2.mono HB1.out.size))
  clear hb2
  by_cases he : er = 0
  · subst he
    by_cases hy : y = []
    · subst hy
      go_wp2_with (go_at_call 12; refine (live_at _).mono ?_; rintro e w9 ⟨rfl, hb9⟩; have HL := Lib.hid hb9; clear hb9)
      go_ret
      exact ⟨rfl, below_live HB.out HL.out⟩
    · obtain ⟨rfl, rfl, hp, hn, hns⟩ := HN.out rfl hy
      subst hp
      have hp63 : ¬ (9223372036854775807 < (p : Int) + (t.length : Int)) := by omega
      have ht : t.isEmpty = false := by simpa using hy
      have hty : ((S t).toList == []) = false := by rw [raw_list]; simpa using hy
      have htz : (S t).toList.isEmpty = false := by rw [raw_list]; simpa using hy
      obtain rfl : n = p + t.length := by omega
      go_wp2_with (go_at_call 12; refine (live_at _).mono ?_; rintro e w9 ⟨rfl, hb9⟩; have HL := Lib.hid hb9; clear hb9)
      go_ret
      exact ⟨rfl, below_live HB.out HL.out⟩
  · have he' : (er == 0) = false := by simpa using he
    clear he
    go_wp2_with (go_at_call 12; refine (live_at _).mono ?_; rintro e w9 ⟨rfl, hb9⟩; have HL := Lib.hid hb9; clear hb9)
    go_ret
    exact ⟨rfl, below_live HB.out HL.out⟩
end Go.Proofs.Ytfmflngmhhalhaa.tokenSymbols
