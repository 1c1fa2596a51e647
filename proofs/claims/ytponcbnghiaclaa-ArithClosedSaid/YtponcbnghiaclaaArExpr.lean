/-
  Contracts of Expr and isOperand of the program.
-/
import Derived.Test.YtponcbnghiaclaaArEval
namespace Go.Proofs.Ytponcbnghiaclaa
open Go.RowKit

/-- What isOperand answers. -/
def Tm.opnd (t : Tm) : Bool := decide (t.kind = 1) || t.expr
theorem expr_two {n : Int} {s : ByteArray} {A : Option Addr} {c : Nat} {x y : Tm} (h : opB s.data.toList = true) : (Tm.mk 2 n s A c [x, y]).expr = (x.opnd && y.opnd) := by
  simp [Tm.expr, opndL, h, Tm.opnd]
theorem expr_not {k n : Int} {s : ByteArray} {A : Option Addr} {c : Nat} {a : List Tm} (h0 : k ≠ 0) (ho : (Tm.mk k n s A c a).opt = false) : (Tm.mk k n s A c a).expr = false := by
  rw [opt_mk] at ho
  simp only [Tm.expr, h0, decide_false, Bool.false_or]
  rw [ho]; rfl

set_option maxHeartbeats 2000000 in
theorem opnd_of (t : Tm) (w : World) (h : ∀ W, Below w.heap.size w W → Calls Try.prog 15 #[t.val] W fun e w' => e = .returned (.bool t.expr) ∧ Below W.heap.size W w') :
    Calls Try.prog 30 #[t.val] w fun e w' => e = .returned (.bool t.opnd) ∧ Below w.heap.size w w' := by
  have B0 := Lib.hid (show ∀ o, Below w.heap.size w (w.alloc o) from fun o => (Below.refl _ _).alloc (Nat.le_refl _) o)
  have Q := Lib.hid h
  have HV := Lib.hid (show t.opnd = (decide (t.kind = 1) || t.expr) from rfl)
  clear h
  generalize t.opnd = v at *
  generalize t.expr = u at *
  obtain ⟨k, n, s, A, c, a⟩ := t
  simp only [Tm.kind] at HV
  show Calls Try.prog 30 #[.agg #[.int .i64 k, .int .i64 n, .string s, .slice A a.length c]] w _
  by_cases hk : k = 1
  · subst hk
    go_enter Try.func30, Try.ntmps30
    go_wp2_with fail
    go_ret
    exact ⟨by rw [HV.out]; rfl, B0.out _⟩
  · have h1 : (k == 1) = false := by simpa using hk
    have HU := Lib.hid (show v = u by rw [HV.out]; simp [hk])
    clear hk HV
    go_enter Try.func30, Try.ntmps30
    go_wp2_with fail
    refine (Q.out _ (B0.out _)).mono ?_
    rintro e w1 ⟨rfl, hb⟩
    go_wp2_with fail
    go_ret
    exact ⟨by rw [HU.out]; rfl, (B0.out _).trans (hb.mono (by simp))⟩

set_option maxHeartbeats 2000000 in
theorem expr_at (t : Tm) : ∀ w : World, t.At w → Calls Try.prog 15 #[t.val] w fun e w' => e = .returned (.bool t.expr) ∧ Below w.heap.size w w' := by
  induction t using Tm.induct with
  | h k n s A c a ih =>
    intro w hat
    have B0 := Lib.hid (show ∀ o, Below w.heap.size w (w.alloc o) from fun o => (Below.refl _ _).alloc (Nat.le_refl _) o)
    show Calls Try.prog 15 #[.agg #[.int .i64 k, .int .i64 n, .string s, .slice A a.length c]] w _
    by_cases hk0 : k = 0
    · subst hk0
      have HV := Lib.hid (show (Tm.mk 0 n s A c a).expr = true by simp [Tm.expr])
      clear hat ih
      go_enter Try.func15, Try.ntmps15
      go_wp2_with fail
      go_ret
      exact ⟨by rw [HV.out]; rfl, B0.out _⟩
    have n0 : (k == 0) = false := by simpa using hk0
    obtain ⟨p, hp⟩ : ∃ p, (Tm.mk k n s A c a).opt = p := ⟨_, rfl⟩
    have Q1 := Lib.hid (fun W => is_opt_at (Tm.mk k n s A c a) W hp)
    cases p
    · have HV := Lib.hid (expr_not hk0 hp)
      clear hat ih hk0 hp
      go_enter Try.func15, Try.ntmps15
      go_wp2_with fail
      refine (Q1.out _).mono ?_
      rintro e w1 ⟨rfl, hb⟩
      go_wp2_with fail
      go_ret
      exact ⟨by rw [HV.out]; rfl, (B0.out _).trans (hb.mono (by simp))⟩
    · obtain ⟨rfl, ⟨x, y, rfl⟩, ho⟩ := opt_parts hp
      have HV := Lib.hid (expr_two (n := n) (A := A) (c := c) (x := x) (y := y) ho)
      have Q2 := Lib.hid (fun W (h : Below w.heap.size w W) => opnd_of x W (fun W' h' => ih x (by simp) W' ((hat.below (h.trans (h'.mono h.size))).lst.mem (by simp [Tm.args]))))
      have Q3 := Lib.hid (fun W (h : Below w.heap.size w W) => opnd_of y W (fun W' h' => ih y (by simp) W' ((hat.below (h.trans (h'.mono h.size))).lst.mem (by simp [Tm.args]))))
      obtain ⟨b, o, rfl, ⟨c0, c1, c2, c3⟩, ⟨g0, g1, g2, g3⟩, _, _⟩ := two_cells hat
      clear hat ih hk0 hp n0
      generalize x.opnd = p at *
      generalize y.opnd = q at *
      go_enter Try.func15, Try.ntmps15
      go_wp2_with fail
      refine (Q1.out _).mono ?_
      rintro e w1 ⟨rfl, hb⟩
      obtain ⟨d0, d1, d2, d3, hb1⟩ := box4 hb
      have k0 := keepc hb1 c0
      have k1 := keepc hb1 c1
      have k2 := keepc hb1 c2
      have k3 := keepc hb1 c3
      clear c0 c1 c2 c3 hb
      go_wp2_with fail
      refine (Q2.out _ hb1).mono ?_
      rintro e w2 ⟨rfl, hb2⟩
      replace d3 := keepc hb2 d3
      clear d0 d1 d2 k0 k1 k2 k3
      have hb3 := hb1.trans (hb2.mono hb1.size)
      have k0 := keepc hb3 g0
      have k1 := keepc hb3 g1
      have k2 := keepc hb3 g2
      have k3 := keepc hb3 g3
      clear g0 g1 g2 g3 hb1 hb2
      cases p
      · go_wp2_with fail
        go_ret
        exact ⟨by rw [HV.out]; rfl, hb3⟩
      · go_wp2_with fail
        refine (Q3.out _ hb3).mono ?_
        rintro e w4 ⟨rfl, hb4⟩
        have hb5 := hb3.trans (hb4.mono hb3.size)
        go_wp2_with fail
        go_ret
        exact ⟨by rw [HV.out]; rfl, hb5⟩
end Go.Proofs.Ytponcbnghiaclaa
