/-
  The walk of TokenCovers.
-/
import Derived.Lib.QuietBelow
import Derived.ProofKit
import Derived.OpenShut
import Derived.ChangeOld
import Derived.Test.YtfmflngmhhalhaaTkLaw
import Derived.Test.YtfmflngmhhalhaaTkCover
import Derived.Test.YtfmflngmhhalhaaTrTokens
namespace Go.Proofs.Ytfmflngmhhalhaa.tokenCovers
open Go.ChangeShapes Go.WideShapes Go.ChangeAt Go.RowKit Go.Sort
set_option linter.unusedVariables false

set_option maxHeartbeats 8000000 in
set_option maxRecDepth 40000 in
theorem walk (a0 : ByteArray) (w : World) (w0 : a0.size ≤ maxLen) :
    Calls Try.prog 5 #[.string a0] w fun e w' => e = .returned (.bool true) ∧ Below w.heap.size w w' := by
  obtain ⟨b, hb⟩ : ∃ b, greatB a0 = b := ⟨_, rfl⟩
  have QG := Lib.hid (fun W => great_at a0 W hb)
  cases b
  case true =>
    clear hb
    go_enter Try.func5, Try.ntmps5
    go_wp2_with (first | (go_at_call 9; refine (QG.out _).mono ?_; rintro e w' ⟨rfl, rfl⟩) | (go_at_call 12; refine (live_at _).mono ?_; rintro e w9 ⟨rfl, hb9⟩; have HL := Lib.hid hb9; clear hb9))
    go_ret
    exact ⟨rfl, HL.out⟩
  have hs : a0.size ≤ 100000 := small_of hb
  clear hb
  have Q1 := Lib.hid (fun W => scan_at a0 W hs)
  unfold ScanR at Q1
  have hsc := scan_cases a0
  generalize hx : scanP a0 = x at Q1 hsc
  obtain ⟨l, n, er⟩ := x
  have h0 : (0 : Int) ≤ (n : Int) := by omega
  rcases hsc with ⟨he, hl, hn⟩ | ⟨he, hn, hsz, M, hM, hlast, hcov⟩
  · simp only at he hl hn
    subst hl
    have her : (er != 0) = true := by simpa using he
    have hn' : (n : Int) ≤ (a0.size : Int) := by omega
    clear he
    go_enter Try.func5, Try.ntmps5
    go_wp2_with (first | (go_at_call 9; refine (QG.out _).mono ?_; rintro e w' ⟨rfl, rfl⟩) | (go_at_call 12; refine (live_at _).mono ?_; rintro e w9 ⟨rfl, hb9⟩; have HL := Lib.hid hb9; clear hb9))
    refine (Q1.out _).mono ?_
    rintro e w1 ⟨A, c, rfl, hl1, hb1⟩
    have HB := Lib.hid (HL.out.trans (hb1.mono HL.out.size))
    clear hb1 hl1
    simp only [List.length_nil]
    go_wp2_with fail
    go_ret
    exact ⟨rfl, HB.out⟩
  · simp only at he hn hM hlast hcov
    subst he hn
    have hlen : l.length ≤ 200000 := by
      have h1 := toks_len a0 (a0.size + 1) 0
      unfold scanP at hx
      rw [if_neg (by omega)] at hx
      rw [hx] at h1
      simp only at h1
      omega
    clear hx
    go_enter Try.func5, Try.ntmps5
    go_wp2_with (first | (go_at_call 9; refine (QG.out _).mono ?_; rintro e w' ⟨rfl, rfl⟩) | (go_at_call 12; refine (live_at _).mono ?_; rintro e w9 ⟨rfl, hb9⟩; have HL := Lib.hid hb9; clear hb9))
    refine (Q1.out _).mono ?_
    rintro e w1 ⟨A, c, rfl, hl1, hb1⟩
    have HB1 := Lib.hid (HL.out.trans (hb1.mono HL.out.size))
    have HT1 := Lib.hid hl1
    obtain ⟨g, rfl, k0, k1, k2⟩ := hl1.get (i := M) (by omega)
    have hg := cell_lt k0
    rw [hlast] at k0
    have hMb : M ≤ 200000 := by omega
    have HM := Lib.hid hM
    have HC := Lib.hid hcov
    rw [hM]
    have hM0 : ((M : Int) + 1 == 0) = false := by simp only [beq_eq_false_iff_ne, ne_eq]; omega
    clear hb1 hl1 k1 k2 hlast hcov hM HL
    go_wp2_with fail
    go_loopw [6, 7] (fun pz iz wr => ∃ (i p : Nat), i ≤ M + 1 ∧ p ≤ a0.size ∧ pz = .int .i64 (p : Int) ∧ iz = .int .i64 (i : Int) ∧ Hid (Cov a0 l i p) ∧ Hid (TLst wr (some ⟨g, 0, none⟩) l c) ∧ Hid (Below w.heap.size w wr)) (fun _ iz _ => M + 1 - (intOf iz).toNat)
    case atStart => exact ⟨0, 0, Nat.zero_le _, Nat.zero_le _, rfl, rfl, HC, HT1, HB1⟩
    case round =>
      obtain ⟨i, p, hi, hp, rfl, rfl, HC2, HT, HB⟩ := hrel
      clear k0 hg HT1 HB1 HC
      by_cases hlt : i < M + 1
      · have hlt' : (i : Int) < (M : Int) + 1 := by omega
        obtain ⟨m, _, htok, hcov⟩ := cov_step HC2.out (by have := HM.out; omega)
        have hil : i < l.length := by have := HM.out; omega
        obtain ⟨t1, t2, t3, t4, t5, t6, t7⟩ := tokAt_facts hp (by rw [htok])
        have Q2 := fun W => next_at a0 (p : Int) W hs
        rw [show nextP a0 (p : Int) = tokAt a0 p by unfold nextP; rw [if_neg (by omega), if_neg (by omega)]; rfl] at Q2
        rw [htok] at t1 t2 t4 t5 t6 t7 Q2
        have HQ := Lib.hid Q2
        have HG := Lib.hid (fun W => gap_at a0 p (skipP a0 p) W hs hp rfl)
        have HR := Lib.hid (fun W (h : Below wr.heap.size wr W) => (HT.out.below h).get hil)
        rw [← t1] at HG t2 t6 t7
        simp only at t2 t4 t5 t6 t7
        have HCV := Lib.hid hcov
        generalize l.getD i default = x at HQ HG HR t1 t2 t4 t5 t6 t7
        obtain ⟨k, at_, t⟩ := x
        simp only at HQ HG HR t2 t4 t5 t6 t7
        have hz : ∃ b, (k == 0) = b ∧ (((t.length : Nat) : Int) == 0) = b := by
          by_cases hk : k = 0
          · exact ⟨true, by simpa using hk, by rw [(t6 hk).1]; rfl⟩
          · have := t5 hk
            exact ⟨false, by simpa using hk, by simp only [beq_eq_false_iff_ne, ne_eq]; omega⟩
        obtain ⟨b, z1, z2⟩ := hz
        have hex : a0.extract at_ (at_ + t.length) = S t := S_of (by rw [extract_list, Nat.add_sub_cancel_left]; exact (List.prefix_iff_eq_take.1 t7).symm)
        have HX := Lib.hid hex
        have hsub : at_ + t.length ≤ a0.size := by omega
        have HW1 : Hid (IntKind.i64.wrap ((a0.size : Int) - (at_ : Int)) = (a0.size : Int) - (at_ : Int)) := Lib.hid (IntWalk.i64_in _ (by omega))
        have HW2 : Hid (IntKind.i64.wrap ((at_ : Int) + (t.length : Int)) = (at_ : Int) + (t.length : Int)) := Lib.hid (IntWalk.i64_in _ (by omega))
        have htl : (S t).size = t.length := by simp [ByteArray.size]
        have HQ2 : Hid (∀ W, Calls Try.prog 10 #[.string a0, .int .i64 (p : Int)] W fun e w' => e = .returned (.tuple #[.agg #[.int .i64 k, .int .i64 (at_ : Int), .string (S t)], .int .i64 ((at_ : Int) + (t.length : Int)), .int .i64 0]) ∧ Below W.heap.size W w') := Lib.hid (fun W => (HQ.out W).mono fun e w' ⟨he, hb⟩ => ⟨by rw [he, t2, ← Int.natCast_add], hb⟩)
        subst t2
        clear Q2 htok hcov t1 t5 t6 t7 HQ hex
        generalize t.length = N at *
        generalize S t = y at *
        go_wp2_with fail
        refine (HQ2.out _).mono ?_
        rintro e w2 ⟨rfl, hb2⟩
        obtain ⟨g2, hg2, c0, c1, c2⟩ := HR.out w2 hb2
        injection hg2 with hg2
        injection hg2 with hg2
        subst hg2
        have hgl := cell_lt c0
        have hne : ¬ g = w2.heap.size := by simp only at hgl; omega
        have hne2 : ¬ w2.heap.size = g := by omega
        have HB2 := Lib.hid (HB.out.trans (hb2.mono HB.out.size))
        have HT2 := Lib.hid (HT.out.below hb2)
        clear hb2 HT
        go_wp2_with fail
        have hw1 := HW1.out
        have hw2 := HW2.out
        have hx := HX.out
        have g1 : ¬ ((a0.size : Int) - (at_ : Int) < (N : Int)) := by omega
        have g2 : (at_ : Int) ≤ (at_ : Int) + (N : Int) := by omega
        have g3 : (at_ : Int) + (N : Int) ≤ (a0.size : Int) := by omega
        have eN : ((at_ : Int) + (N : Int)).toNat = at_ + N := by omega
        go_quiet ((go_at_call 16; exact Calls.quiet_of_same ((HG.out _).mono fun _ _ ⟨he, hw⟩ => ⟨he, hw.symm⟩)))
        have hi63 : ¬ (9223372036854775807 < (i : Int) + 1) := by omega
        go_wp2_with fail
        go_roundw
        case rel => exact ⟨i + 1, at_ + N, by omega, hsub, by rw [Int.natCast_add], by go_num, HCV, Lib.hid ((HT2.out.below (below1 _ _)).below (below_drewN (Below.refl _ _) _)), Lib.hid (below_drewN (HB2.out.alloc HB2.out.size _) _)⟩
        case measure => simp [intOf]; omega
      · obtain rfl : i = M + 1 := by omega
        obtain rfl : p = a0.size := by
          rcases HC2.out with h | h
          · exact h.2
          · have := HM.out; omega
        have hd : decide (((M : Int) + 1) < (M : Int) + 1) = false := by simp
        go_wp2_with fail
        go_ret
        exact ⟨rfl, HB.out⟩
end Go.Proofs.Ytfmflngmhhalhaa.tokenCovers
