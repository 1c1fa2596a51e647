/-
  The walk of ArithValues.
-/
import Derived.Test.YtponcbnghiaclaaArAwake
import Derived.Test.YtponcbnghiaclaaArLeft
import Derived.Test.YtponcbnghiaclaaArTwo
import Derived.Test.YtponcbnghiaclaaArFold
namespace Go.Proofs.Ytponcbnghiaclaa.arithValues
open Go.ChangeShapes Go.WideShapes Go.ChangeAt Go.RowKit Go.Sort
set_option linter.unusedVariables false

set_option maxHeartbeats 8000000 in
theorem walk (a0 : Tm) (w : World) (w0 : a0.At w) :
    Calls Try.prog 7 #[a0.val] w fun e w' => e = .returned (.bool true) ∧ Below w.heap.size w w' := by
  obtain ⟨g, hg⟩ : ∃ g, decide (0 ≤ a0.lft 1000 100) = g := ⟨_, rfl⟩
  have QG := Lib.hid (fun (W : World) (h : Below w.heap.size w W) => small_at a0 W (w0.below h) hg)
  cases g
  · obtain ⟨k, n, s, A, c, a⟩ := a0
    clear w0 hg
    show Calls Try.prog 7 #[.agg #[.int .i64 k, .int .i64 n, .string s, .slice A a.length c]] w _
    go_enter Try.func7, Try.ntmps7
    go_wp2_with fail
    refine (QG.out _ (below1 _ _)).mono ?_
    rintro e w1 ⟨rfl, hb⟩
    go_wp2_with fail
    refine (awake_at _).mono ?_
    rintro e w2 ⟨rfl, hb2⟩
    go_wp2_with fail
    go_ret
    exact ⟨rfl, ((below1 _ _).trans (hb.mono (by simp))).trans (hb2.mono (Nat.le_trans (below1 _ _).size hb.size))⟩
  · have hz := small_nodes hg
    have Q1 := Lib.hid (fun (W : World) (h : Below w.heap.size w W) => eval_at a0 W (w0.below h))
    have Q2 := Lib.hid (fun (W : World) (h : Below w.heap.size w W) => fold_at a0 W (w0.below h) (by omega))
    have HA := Lib.hid w0
    have HV := Lib.hid (fold_val (t := a0))
    have HE := Lib.hid (eval_fold.1 a0)
    have HW := Lib.hid (eval_in (t := a0))
    clear w0 hg hz
    generalize a0.eval = p at *
    obtain ⟨p1, p2⟩ := p
    obtain ⟨t0, ht0⟩ : ∃ t, t = a0 := ⟨_, rfl⟩
    have HT := Lib.hid ht0
    rw [← ht0] at HV HE HA Q2
    clear ht0
    obtain ⟨k, n, s, A, c, a⟩ := a0
    show Calls Try.prog 7 #[.agg #[.int .i64 k, .int .i64 n, .string s, .slice A a.length c]] w _
    rw [HT.out] at Q2
    go_enter Try.func7, Try.ntmps7
    go_wp2_with fail
    refine (QG.out _ (below1 _ _)).mono ?_
    rintro e w1 ⟨rfl, hb⟩
    obtain ⟨d0, d1, d2, d3, hb1⟩ := box4 hb
    go_wp2_with fail
    refine (Q1.out _ hb1).mono ?_
    rintro e w2 ⟨rfl, hb2⟩
    replace d0 := keepc hb2 d0
    replace d1 := keepc hb2 d1
    replace d2 := keepc hb2 d2
    replace d3 := keepc hb2 d3
    replace hb1 := hb1.trans (hb2.mono hb1.size)
    clear hb hb2
    go_wp2_with fail
    refine (Q2.out _ hb1).mono ?_
    rintro e w3 ⟨u, rfl, hu, hst, hb2⟩
    have HU := Lib.hid (hst w3 (fun x hx => by rw [List.mem_singleton.1 hx, ← HT.out]; exact HA.out.below (hb1.trans (hb2.mono hb1.size))) (fun _ _ _ _ => rfl))
    have HS := Lib.hid (show u.strip = t0.fold.strip by rw [hu, HT.out])
    have HQ := Lib.hid (show u.eval = (p1, p2) by rw [eval_same HS.out, HE.out])
    replace d0 := keepc hb2 d0
    replace d1 := keepc hb2 d1
    replace d2 := keepc hb2 d2
    replace d3 := keepc hb2 d3
    replace hb1 := hb1.trans (hb2.mono hb1.size)
    have Q3 := Lib.hid (fun (W : World) (h : Below w3.heap.size w3 W) => eval_at u W (HU.out.below h))
    rw [HQ.out] at Q3
    have Q4 := Lib.hid (fun (W : World) (h : Below w3.heap.size w3 W) (hp : p2 = 0) => same_at u (numT p1) W (by rw [HS.out, HV.out hp]) (HU.out.below h) (num_at W (by have := (inR_iff p1).1 (HW.out hp); unfold Fits; omega)))
    clear hb2 hu hst
    obtain ⟨k2, n2, s2, A2, c2, a2⟩ := u
    go_wp2_with fail
    refine (Q3.out _ (below1 _ _)).mono ?_
    rintro e w4 ⟨rfl, hb4⟩
    obtain ⟨f0, f1, f2, f3, hb5⟩ := box4 hb4
    have hb6 := hb1.trans (hb5.mono hb1.size)
    by_cases hp : p2 = 0
    · subst hp
      have Q5 := Lib.hid (show ∀ W : World, Below w3.heap.size w3 W → Calls Try.prog 18 #[.agg #[.int .i64 k2, .int .i64 n2, .string s2, .slice A2 a2.length c2], .agg #[.int .i64 0, .int .i64 p1, .string ⟨#[]⟩, .slice none 0 0]] W fun e w' => e = .returned (.bool true) ∧ Below W.heap.size W w' from fun W h => Q4.out W h rfl)
      clear Q4 hb4
      go_wp2_with fail
      refine (Q5.out _ hb5).mono ?_
      rintro e w5 ⟨rfl, hb7⟩
      go_wp2_with fail
      refine (awake_at _).mono ?_
      rintro e w6 ⟨rfl, hb8⟩
      go_wp2_with fail
      go_ret
      exact ⟨rfl, (hb6.trans (hb7.mono hb6.size)).trans (hb8.mono (Nat.le_trans hb6.size hb7.size))⟩
    · have m1 : (p2 != 0) = true := by simpa using hp
      have m2 : (p2 == 0) = false := by simpa using hp
      clear Q4 hb4 hp
      go_wp2_with fail
      refine (awake_at _).mono ?_
      rintro e w6 ⟨rfl, hb8⟩
      go_wp2_with fail
      go_ret
      exact ⟨rfl, hb6.trans (hb8.mono hb6.size)⟩
end Go.Proofs.Ytponcbnghiaclaa.arithValues
