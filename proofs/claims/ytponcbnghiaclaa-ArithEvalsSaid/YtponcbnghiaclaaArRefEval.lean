/-
  Contract of Eval of the reference.
-/
import Derived.Test.YtponcbnghiaclaaArEval
namespace Go.Proofs.Ytponcbnghiaclaa
open Go.RowKit

theorem eval_other {k n : Int} {s : ByteArray} {A : Option Addr} {c : Nat} {a : List Tm} (h0 : k ≠ 0) (h1 : k ≠ 1) (h2 : k ≠ 2 ∨ opB s.data.toList = false ∨ a.length ≠ 2) : (Tm.mk k n s A c a).eval = (0, 11) := by
  refine eval_plain (t := .mk k n s A c a) h0 h1 ?_
  rw [opt_mk]
  rcases h2 with h | h | h <;> simp [h]

set_option maxHeartbeats 4000000 in
theorem ref_eval_at (t : Tm) : ∀ w : World, t.At w → Calls Try.prog 14 #[t.val] w fun e w' => e = .returned (pairV t.eval) ∧ Below w.heap.size w w' := by
  induction t using Tm.induct with
  | h k n s A c a ih =>
    intro w hat
    have B0 := Lib.hid (show ∀ o, Below w.heap.size w (w.alloc o) from fun o => (Below.refl _ _).alloc (Nat.le_refl _) o)
    show Calls Try.prog 14 #[.agg #[.int .i64 k, .int .i64 n, .string s, .slice A a.length c]] w _
    by_cases hk0 : k = 0
    · subst hk0
      obtain ⟨v, hv⟩ : ∃ v, inR n = v := ⟨_, rfl⟩
      have Q := Lib.hid (fun W => ref_in_at n W hv)
      have HV := Lib.hid (show (Tm.mk 0 n s A c a).eval = if v = true then (n, 0) else (0, 5) by simp [Tm.eval, hv])
      clear hv hat ih
      cases v
      all_goals
        go_enter Try.func14, Try.ntmps14
        go_wp2_with fail
        refine (Q.out _).mono ?_
        rintro e w1 ⟨rfl, rfl⟩
        go_wp2_with fail
        go_ret2
        exact ⟨by rw [HV.out]; rfl, B0.out _⟩
    have n0 : (k == 0) = false := by simpa using hk0
    by_cases hk1 : k = 1
    · subst hk1
      have HV := Lib.hid (show (Tm.mk 1 n s A c a).eval = (0, 17) by simp [Tm.eval])
      clear hat ih n0 hk0
      go_enter Try.func14, Try.ntmps14
      go_wp2_with fail
      go_ret2
      exact ⟨by rw [HV.out]; rfl, B0.out _⟩
    have n1 : (k == 1) = false := by simpa using hk1
    by_cases hk2 : k = 2
    · subst hk2
      obtain ⟨p, hp⟩ : ∃ p, opB s.data.toList = p := ⟨_, rfl⟩
      have Q1 := Lib.hid (fun W => ref_oper_at s W hp)
      cases p
      · have HV := Lib.hid (eval_other (n := n) (A := A) (c := c) (a := a) hk0 hk1 (.inr (.inl hp)))
        clear hat ih hk0 hk1 hp n0 n1
        go_enter Try.func14, Try.ntmps14
        go_wp2_with fail
        refine (Q1.out _).mono ?_
        rintro e w1 ⟨rfl, rfl⟩
        go_wp2_with fail
        go_ret2
        exact ⟨by rw [HV.out]; rfl, B0.out _⟩
      by_cases hl : a.length = 2
      · obtain ⟨x, y, rfl⟩ : ∃ x y, a = [x, y] := by
          match a, hl with
          | [x, y], _ => exact ⟨x, y, rfl⟩
        have HV := Lib.hid (eval_fun (n := n) (A := A) (c := c) (x := x) (y := y) hp)
        have Q2 := Lib.hid (fun W (h : Below w.heap.size w W) => ih x (by simp) W ((hat.below h).lst.mem (by simp [Tm.args])))
        have Q3 := Lib.hid (fun W (h : Below w.heap.size w W) => ih y (by simp) W ((hat.below h).lst.mem (by simp [Tm.args])))
        have Q4 := Lib.hid (fun a b W => ref_apply_at s a b W)
        obtain ⟨b, o, rfl, ⟨c0, c1, c2, c3⟩, ⟨g0, g1, g2, g3⟩, _, _⟩ := two_cells hat
        have HG := Lib.hid (show _ ∧ _ ∧ _ ∧ _ from ⟨g0, g1, g2, g3⟩)
        replace c0 := fun ob => keepc (B0.out ob) c0
        replace c1 := fun ob => keepc (B0.out ob) c1
        replace c2 := fun ob => keepc (B0.out ob) c2
        replace c3 := fun ob => keepc (B0.out ob) c3
        clear hat ih hk0 hk1 hp n0 n1 hl g0 g1 g2 g3
        go_enter Try.func14, Try.ntmps14
        go_wp2_with fail
        refine (Q1.out _).mono ?_
        rintro e w1 ⟨rfl, rfl⟩
        go_wp2_with fail
        refine (Q2.out _ (B0.out _)).mono ?_
        rintro e w2 ⟨rfl, hb⟩
        obtain ⟨d0, d1, d2, d3, hb3⟩ := box4 hb
        obtain ⟨g0, g1, g2, g3⟩ := HG.out
        have k0 := keepc hb3 g0
        have k1 := keepc hb3 g1
        have k2 := keepc hb3 g2
        have k3 := keepc hb3 g3
        clear g0 g1 g2 g3 hb c0 c1 c2 c3
        generalize x.eval = p at *
        obtain ⟨p1, p2⟩ := p
        by_cases hp2 : p2 = 0
        · subst hp2
          go_wp2_with fail
          refine (Q3.out _ hb3).mono ?_
          rintro e w4 ⟨rfl, hb4⟩
          replace d2 := keepc hb4 d2
          clear d3 k0 k1 k2 k3
          have hb5 := hb3.trans (hb4.mono hb3.size)
          generalize y.eval = q at *
          obtain ⟨q1, q2⟩ := q
          by_cases hq2 : q2 = 0
          · subst hq2
            go_wp2_with fail
            refine (Q4.out _ _ _).mono ?_
            rintro e w6 ⟨rfl, rfl⟩
            go_wp2_with fail
            go_ret2
            exact ⟨by rw [HV.out]; rfl, hb5⟩
          · have m2 : (q2 == 0) = false := by simpa using hq2
            have m3 : (q2 != 0) = true := by simpa using hq2
            have HW := Lib.hid hq2
            clear hq2
            go_wp2_with fail
            go_ret2
            exact ⟨by rw [HV.out]; simp [HW.out], hb5⟩
        · have m2 : (p2 == 0) = false := by simpa using hp2
          have m3 : (p2 != 0) = true := by simpa using hp2
          have HW := Lib.hid hp2
          clear hp2
          go_wp2_with fail
          go_ret2
          exact ⟨by rw [HV.out]; simp [HW.out], hb3⟩
      · have HV := Lib.hid (eval_other (n := n) (s := s) (A := A) (c := c) (a := a) hk0 hk1 (.inr (.inr hl)))
        have h1 : (a.length == 2) = false := by simpa using hl
        have h2 : ((a.length : Int) == 2) = false := by simp; omega
        have h3 : ((a.length : Int) != 2) = true := by simp; omega
        clear hat ih hk0 hk1 hp n0 n1 hl
        go_enter Try.func14, Try.ntmps14
        go_wp2_with fail
        refine (Q1.out _).mono ?_
        rintro e w1 ⟨rfl, rfl⟩
        go_wp2_with fail
        go_ret2
        exact ⟨by rw [HV.out]; rfl, B0.out _⟩
    · have n2 : (k == 2) = false := by simpa using hk2
      have n3 : (k != 2) = true := by simpa using hk2
      have HV := Lib.hid (eval_other (n := n) (s := s) (A := A) (c := c) (a := a) hk0 hk1 (.inl hk2))
      clear hat ih hk0 hk1 hk2
      go_enter Try.func14, Try.ntmps14
      go_wp2_with fail
      go_ret2
      exact ⟨by rw [HV.out]; rfl, B0.out _⟩
end Go.Proofs.Ytponcbnghiaclaa
