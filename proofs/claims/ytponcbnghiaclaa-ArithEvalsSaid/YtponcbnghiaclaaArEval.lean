/-
  Contracts of isOperatorTerm and Eval of the program, and of Eval of the reference.
-/
import Derived.Test.YtponcbnghiaclaaArRef
namespace Go.Proofs.Ytponcbnghiaclaa
open Go.RowKit

/-- An operator with two arguments. -/
def Tm.opt (t : Tm) : Bool := decide (t.kind = 2) && (decide (t.args.length = 2) && opB t.name.data.toList)
theorem opt_mk (k n : Int) (s : ByteArray) (A : Option Addr) (c : Nat) (a : List Tm) : (Tm.mk k n s A c a).opt = (decide (k = 2) && (decide (a.length = 2) && opB s.data.toList)) := rfl
theorem keepc {w w' : World} (hb : Below w.heap.size w w') {p : Addr} {v : Value} (h : w.cell? p = some v) : w'.cell? p = some v := by
  rw [hb.cell (World.block_lt_of_cell? _ _ h)]; exact h
theorem eval_plain {t : Tm} (h0 : t.kind ≠ 0) (h1 : t.kind ≠ 1) (ho : t.opt = false) : t.eval = (0, 11) := by
  obtain ⟨k, n, s, A, c, a⟩ := t
  rw [opt_mk] at ho
  simp only [Tm.kind] at h0 h1
  simp only [Tm.eval, if_neg h0, if_neg h1]
  split
  · rename_i h
    refine comb_two (.inr trivial) ?_
    rw [evalL_length]
    intro hl
    simp [h.1, h.2, hl] at ho
  · rfl
theorem opt_parts {k n : Int} {s : ByteArray} {A : Option Addr} {c : Nat} {a : List Tm} (h : (Tm.mk k n s A c a).opt = true) : k = 2 ∧ (∃ x y, a = [x, y]) ∧ opB s.data.toList = true := by
  rw [opt_mk] at h
  simp only [Bool.and_eq_true, decide_eq_true_eq] at h
  refine ⟨h.1, ?_, h.2.2⟩
  match a, h.2.1 with
  | [x, y], _ => exact ⟨x, y, rfl⟩

set_option maxHeartbeats 1000000 in
theorem is_opt_at (t : Tm) (w : World) {r : Bool} (hr : t.opt = r) :
    Calls Try.prog 29 #[t.val] w fun e w' => e = .returned (.bool r) ∧ Below w.heap.size w w' := by
  have B0 := Lib.hid (show ∀ o, Below w.heap.size w (w.alloc o) from fun o => (Below.refl _ _).alloc (Nat.le_refl _) o)
  obtain ⟨k, n, s, A, c, a⟩ := t
  show Calls Try.prog 29 #[.agg #[.int .i64 k, .int .i64 n, .string s, .slice A a.length c]] w _
  rw [opt_mk] at hr
  by_cases hk : k = 2
  · subst hk
    by_cases hl : a.length = 2
    · have Q := Lib.hid (fun W => is_op_at s W (r := r) (by simpa [hl] using hr))
      rw [hl]
      clear hr hl
      go_enter Try.func29, Try.ntmps29
      go_wp2_with fail
      refine (Q.out _).mono ?_
      rintro e w1 ⟨rfl, rfl⟩
      go_wp2_with fail
      go_ret
      exact ⟨rfl, B0.out _⟩
    · obtain rfl : false = r := by rw [← hr]; simp [hl]
      have h1 : (a.length == 2) = false := by simpa using hl
      have h2 : ((a.length : Int) == 2) = false := by simp; omega
      clear hr hl
      go_enter Try.func29, Try.ntmps29
      go_wp2_with fail
      go_ret
      exact ⟨rfl, B0.out _⟩
  · obtain rfl : false = r := by rw [← hr]; simp [hk]
    have h1 : (k == 2) = false := by simpa using hk
    clear hr hk
    go_enter Try.func29, Try.ntmps29
    go_wp2_with fail
    go_ret
    exact ⟨rfl, B0.out _⟩

theorem two_cells {w : World} {k n : Int} {s : ByteArray} {A : Option Addr} {c : Nat} {x y : Tm} (h : (Tm.mk k n s A c [x, y]).At w) : ∃ b o, A = some ⟨b, o, none⟩ ∧
    (w.cell? ⟨b, o, none⟩ = some (.int .i64 x.kind) ∧ w.cell? ⟨b, o + 1, none⟩ = some (.int .i64 x.num) ∧ w.cell? ⟨b, o + 2, none⟩ = some (.string x.name) ∧ w.cell? ⟨b, o + 3, none⟩ = some (.slice x.at_ x.args.length x.cap)) ∧
    (w.cell? ⟨b, o + 4, none⟩ = some (.int .i64 y.kind) ∧ w.cell? ⟨b, o + 4 + 1, none⟩ = some (.int .i64 y.num) ∧ w.cell? ⟨b, o + 4 + 2, none⟩ = some (.string y.name) ∧ w.cell? ⟨b, o + 4 + 3, none⟩ = some (.slice y.at_ y.args.length y.cap)) ∧ x.At w ∧ y.At w := by
  obtain ⟨b, o, e, h0, hx⟩ := h.lst.get (i := 0) (by simp [Tm.args])
  obtain ⟨b', o', e', h1, hy⟩ := h.lst.get (i := 1) (by simp [Tm.args])
  simp only [Tm.at_] at e e'
  rw [e, Option.some.injEq, Addr.mk.injEq] at e'
  obtain ⟨rfl, rfl, _⟩ := e'
  exact ⟨b, o, e, by simpa [Tm.args] using h0, by simpa [Tm.args] using h1, by simpa [Tm.args] using hx, by simpa [Tm.args] using hy⟩

set_option maxHeartbeats 2000000 in
theorem eval_at (t : Tm) : ∀ w : World, t.At w → Calls Try.prog 13 #[t.val] w fun e w' => e = .returned (pairV t.eval) ∧ Below w.heap.size w w' := by
  induction t using Tm.induct with
  | h k n s A c a ih =>
    intro w hat
    have B0 := Lib.hid (show ∀ o, Below w.heap.size w (w.alloc o) from fun o => (Below.refl _ _).alloc (Nat.le_refl _) o)
    show Calls Try.prog 13 #[.agg #[.int .i64 k, .int .i64 n, .string s, .slice A a.length c]] w _
    by_cases hk0 : k = 0
    · subst hk0
      obtain ⟨v, hv⟩ : ∃ v, inR n = v := ⟨_, rfl⟩
      have Q := Lib.hid (fun W => in_range_at n W hv)
      have HV := Lib.hid (show (Tm.mk 0 n s A c a).eval = if v = true then (n, 0) else (0, 5) by simp [Tm.eval, hv])
      clear hv hat ih
      cases v
      all_goals
        go_enter Try.func13, Try.ntmps13
        go_wp2_with fail
        refine (Q.out _).mono ?_
        rintro e w1 ⟨rfl, rfl⟩
        go_wp2_with fail
        go_ret2
        exact ⟨by rw [HV.out]; rfl, B0.out _⟩
    have n0 : (k == 0) = false := by simpa using hk0
    by_cases hk1 : k = 1
    · subst hk1
      have HV := Lib.hid (show (Tm.mk 1 n s A c a).eval = (0, 17) by simp [Tm.eval])
      clear hat ih n0 hk0
      go_enter Try.func13, Try.ntmps13
      go_wp2_with fail
      go_ret2
      exact ⟨by rw [HV.out]; rfl, B0.out _⟩
    have n1 : (k == 1) = false := by simpa using hk1
    obtain ⟨p, hp⟩ : ∃ p, (Tm.mk k n s A c a).opt = p := ⟨_, rfl⟩
    have Q1 := Lib.hid (fun W => is_opt_at (Tm.mk k n s A c a) W hp)
    cases p
    · have HV := Lib.hid (eval_plain (t := .mk k n s A c a) hk0 hk1 hp)
      clear hat ih hk0 hk1 hp
      go_enter Try.func13, Try.ntmps13
      go_wp2_with fail
      refine (Q1.out _).mono ?_
      rintro e w1 ⟨rfl, hb⟩
      go_wp2_with fail
      go_ret2
      exact ⟨by rw [HV.out]; rfl, (B0.out _).trans (hb.mono (by simp))⟩
    · obtain ⟨rfl, ⟨x, y, rfl⟩, ho⟩ := opt_parts hp
      have HV := Lib.hid (eval_fun (n := n) (A := A) (c := c) (x := x) (y := y) ho)
      have Q2 := Lib.hid (fun W (h : Below w.heap.size w W) => ih x (by simp) W ((hat.below h).lst.mem (by simp [Tm.args])))
      have Q3 := Lib.hid (fun W (h : Below w.heap.size w W) => ih y (by simp) W ((hat.below h).lst.mem (by simp [Tm.args])))
      have Q4 := Lib.hid (fun a b W => apply_at s a b W)
      obtain ⟨b, o, rfl, ⟨c0, c1, c2, c3⟩, ⟨g0, g1, g2, g3⟩, _, _⟩ := two_cells hat
      have HA := Lib.hid hat
      clear hat ih hk0 hk1 hp n0 n1
      go_enter Try.func13, Try.ntmps13
      go_wp2_with fail
      refine (Q1.out _).mono ?_
      rintro e w1 ⟨rfl, hb⟩
      obtain ⟨d0, d1, d2, d3, hb1⟩ := box4 hb
      have k0 := keepc hb1 c0
      have k1 := keepc hb1 c1
      have k2 := keepc hb1 c2
      have k3 := keepc hb1 c3
      clear c0 c1 c2 c3 hb
      go_wp2_with fail
      refine (Q2.out _ hb1).mono ?_
      rintro e w2 ⟨rfl, hb2⟩
      replace d2 := keepc hb2 d2
      replace d3 := keepc hb2 d3
      clear d0 d1 k0 k1 k2 k3
      have hb3 := hb1.trans (hb2.mono hb1.size)
      have k0 := keepc hb3 g0
      have k1 := keepc hb3 g1
      have k2 := keepc hb3 g2
      have k3 := keepc hb3 g3
      clear g0 g1 g2 g3 hb1 hb2
      generalize x.eval = p at *
      obtain ⟨p1, p2⟩ := p
      by_cases hp2 : p2 = 0
      · subst hp2
        go_wp2_with fail
        refine (Q3.out _ hb3).mono ?_
        rintro e w4 ⟨rfl, hb4⟩
        replace d2 := keepc hb4 d2
        clear d3 k0 k1 k2 k3
        have hb5 := hb3.trans (hb4.mono hb3.size)
        generalize y.eval = q at *
        obtain ⟨q1, q2⟩ := q
        by_cases hq2 : q2 = 0
        · subst hq2
          go_wp2_with fail
          refine (Q4.out _ _ _).mono ?_
          rintro e w6 ⟨rfl, rfl⟩
          go_wp2_with fail
          go_ret2
          exact ⟨by rw [HV.out]; rfl, hb5⟩
        · have m2 : (q2 == 0) = false := by simpa using hq2
          have m3 : (q2 != 0) = true := by simpa using hq2
          have HW := Lib.hid hq2
          clear hq2
          go_wp2_with fail
          go_ret2
          exact ⟨by rw [HV.out]; simp [HW.out], hb5⟩
      · have m2 : (p2 == 0) = false := by simpa using hp2
        have m3 : (p2 != 0) = true := by simpa using hp2
        have HW := Lib.hid hp2
        clear hp2
        go_wp2_with fail
        go_ret2
        exact ⟨by rw [HV.out]; simp [HW.out], hb3⟩
end Go.Proofs.Ytponcbnghiaclaa
