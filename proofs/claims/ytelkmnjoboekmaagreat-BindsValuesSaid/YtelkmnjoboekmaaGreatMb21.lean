/-
  Contracts of floor and Apply of the reference.
  Contracts of isOperatorTerm and Eval of the program, and of Eval of the reference.
  Contract of Eval of the reference.
  Contracts of Apply and ApplyTerms of the reference.
  Contracts of Tell, TellIs and Equal of the reference.
-/
import Derived.Test.YtelkmnjoboekmaaGreatMb20
import Derived.Test.YtelkmnjoboekmaaGreatMb9
import Derived.Test.YtelkmnjoboekmaaGreatMb19
import Derived.Test.YtelkmnjoboekmaaGreatMb8
import Derived.OwnWalk
namespace Go.Proofs.YtelkmnjoboekmaaGreat
open Go.RowKit

set_option maxHeartbeats 1000000 in
theorem floor_at (a b : Int) (w : World) (ha : inR a = true) (hb : inR b = true) (h0 : b ≠ 0) :
    Calls Tryz.prog 97 #[.int .i64 a, .int .i64 b] w fun e w' => e = .returned (.int .i64 (flr a b)) ∧ w = w' := by
  rw [inR_iff] at ha hb
  obtain ⟨hb1, hb2⟩ := hb
  obtain ⟨ha1, ha2⟩ := ha
  by_cases h : b < 0
  · obtain ⟨d, rfl⟩ : ∃ d, b = -d := ⟨-b, by omega⟩
    obtain ⟨c, rfl⟩ : ∃ c, a = -c := ⟨-a, by omega⟩
    have HV := Lib.hid (show flr (-c) (-d) = c / d by unfold flr; rw [if_pos h, Int.neg_neg, Int.neg_neg])
    have hd : 1 ≤ d := by omega
    by_cases hc : 0 ≤ c
    · have hz : (d == 0) = false := by simp; omega
      have q := div_small (show 0 < d by omega) hc
      obtain ⟨q1, q2⟩ := q
      clear h0
      go_enter Tryz.func97, Tryz.ntmps97
      go_wp2
      go_ret
      exact ⟨by rw [HV.out]; rfl, rfl⟩
    · have hz : (d == 0) = false := by simp; omega
      have HR := Lib.hid (ref_flr (a := c) (b := d) (by omega))
      have q := div_small (show 0 < d by omega) (show 0 ≤ d - 1 - c by omega)
      obtain ⟨q1, q2⟩ := q
      clear h0
      go_enter Tryz.func97, Tryz.ntmps97
      go_wp2
      go_ret
      exact ⟨by rw [HV.out, ← HR.out]; rfl, rfl⟩
  · have hd : 1 ≤ b := by omega
    have HV := Lib.hid (show flr a b = a / b by unfold flr; rw [if_neg h])
    by_cases hc : 0 ≤ a
    · have hz : (b == 0) = false := by simp; omega
      have q := div_small (show 0 < b by omega) hc
      obtain ⟨q1, q2⟩ := q
      clear h0
      go_enter Tryz.func97, Tryz.ntmps97
      go_wp2
      go_ret
      exact ⟨by rw [HV.out]; rfl, rfl⟩
    · have hz : (b == 0) = false := by simp; omega
      have HR := Lib.hid (ref_flr (a := a) (b := b) (by omega))
      have q := div_small (show 0 < b by omega) (show 0 ≤ b - 1 - a by omega)
      obtain ⟨q1, q2⟩ := q
      clear h0
      go_enter Tryz.func97, Tryz.ntmps97
      go_wp2
      go_ret
      exact ⟨by rw [HV.out, ← HR.out]; rfl, rfl⟩

/-- What the switch and the division leave, at each operator. -/
theorem ref_apply_zero (s : ByteArray) (a : Int) (w : World) (hs : s.data.toList = [47] ∨ s.data.toList = [37]) (hx : inR a = true) :
    Calls Tryz.prog 57 #[.string s, .int .i64 a, .int .i64 0] w fun e w' => e = .returned (.tuple #[.int .i64 0, .int .i64 12]) ∧ w = w' := by
  have hy : inR 0 = true := by decide
  rcases hs with h | h
  all_goals
    obtain rfl := astr_of h
    have Q1 := Lib.hid (fun W => ref_oper_at _ W (r := true) (show opB _ = true by rw [h]; decide))
    have Q2 := Lib.hid (fun W => ref_in_at a W hx)
    have Q3 := Lib.hid (fun W => ref_in_at 0 W hy)
    clear h hx hy
    go_enter Tryz.func57, Tryz.ntmps57
    go_wp2_with fail
    refine (Q1.out _).mono ?_
    rintro e w1 ⟨rfl, rfl⟩
    go_wp2_with fail
    refine (Q2.out _).mono ?_
    rintro e w1 ⟨rfl, rfl⟩
    go_wp2_with fail
    refine (Q3.out _).mono ?_
    rintro e w1 ⟨rfl, rfl⟩
    go_wp2_with fail
    go_ret2
    exact ⟨rfl, rfl⟩

set_option maxHeartbeats 2000000 in
theorem ref_aapply_at (s : ByteArray) (a b : Int) (w : World) :
    Calls Tryz.prog 57 #[.string s, .int .i64 a, .int .i64 b] w fun e w' => e = .returned (pairV (app s.data.toList a b)) ∧ w = w' := by
  obtain ⟨o, ho⟩ : ∃ o, opB s.data.toList = o := ⟨_, rfl⟩
  have Q1 := Lib.hid (fun W => ref_oper_at s W ho)
  cases o
  · have HV := Lib.hid (show app s.data.toList a b = (0, 7) by unfold app; rw [if_pos ho])
    clear ho
    go_enter Tryz.func57, Tryz.ntmps57
    go_wp2_with fail
    refine (Q1.out _).mono ?_
    rintro e w1 ⟨rfl, rfl⟩
    go_wp2_with fail
    go_ret2
    exact ⟨by rw [HV.out]; rfl, rfl⟩
  obtain ⟨x, hx⟩ : ∃ x, inR a = x := ⟨_, rfl⟩
  have Q2 := Lib.hid (fun W => ref_in_at a W hx)
  cases x
  · have HV := Lib.hid (show app s.data.toList a b = (0, 5) by unfold app; rw [if_neg (by rw [ho]; simp), if_pos (by rw [hx]; rfl)])
    clear ho hx
    go_enter Tryz.func57, Tryz.ntmps57
    go_wp2_with fail
    refine (Q1.out _).mono ?_
    rintro e w1 ⟨rfl, rfl⟩
    go_wp2_with fail
    refine (Q2.out _).mono ?_
    rintro e w1 ⟨rfl, rfl⟩
    go_wp2_with fail
    go_ret2
    exact ⟨by rw [HV.out]; rfl, rfl⟩
  obtain ⟨y, hy⟩ : ∃ y, inR b = y := ⟨_, rfl⟩
  have Q3 := Lib.hid (fun W => ref_in_at b W hy)
  cases y
  · have HV := Lib.hid (show app s.data.toList a b = (0, 5) by unfold app; rw [if_neg (by rw [ho]; simp), if_pos (by rw [hx, hy]; rfl)])
    clear ho hx hy
    go_enter Tryz.func57, Tryz.ntmps57
    go_wp2_with fail
    refine (Q1.out _).mono ?_
    rintro e w1 ⟨rfl, rfl⟩
    go_wp2_with fail
    refine (Q2.out _).mono ?_
    rintro e w1 ⟨rfl, rfl⟩
    go_wp2_with fail
    refine (Q3.out _).mono ?_
    rintro e w1 ⟨rfl, rfl⟩
    go_wp2_with fail
    go_ret2
    exact ⟨by rw [HV.out]; rfl, rfl⟩
  obtain ⟨z, hz⟩ : ∃ z, zeroB s.data.toList b = z := ⟨_, rfl⟩
  cases z
  · obtain ⟨v, hv⟩ : ∃ v, inR (acomp s.data.toList a b) = v := ⟨_, rfl⟩
    have Q5 := Lib.hid (fun W => ref_in_at (acomp s.data.toList a b) W hv)
    have HV := Lib.hid (show app s.data.toList a b = if v = true then (acomp s.data.toList a b, 0) else (0, 5) by unfold app; rw [if_neg (by rw [ho]; simp), if_neg (by rw [hx, hy]; simp), if_neg (by rw [hz]; simp), hv])
    have ha' := (inR_iff a).1 hx
    have hb' := (inR_iff b).1 hy
    obtain ⟨hm1, hm2⟩ := mul_fit ha' hb'
    obtain ⟨ha1, ha2⟩ := ha'
    obtain ⟨hb1, hb2⟩ := hb'
    rcases op_cases ho with h | h | h | h | h
    · obtain rfl := astr_of h
      have hc : acomp [43] a b = a + b := rfl
      rw [show (ByteArray.mk [43].toArray).data.toList = [43] from rfl, hc] at HV Q5
      clear h ho hx hy hz hv hc
      cases v
      all_goals
        go_enter Tryz.func57, Tryz.ntmps57
        go_wp2_with fail
        refine (Q1.out _).mono ?_
        rintro e w1 ⟨rfl, rfl⟩
        go_wp2_with fail
        refine (Q2.out _).mono ?_
        rintro e w1 ⟨rfl, rfl⟩
        go_wp2_with fail
        refine (Q3.out _).mono ?_
        rintro e w1 ⟨rfl, rfl⟩
        go_wp2_with fail
        refine (Q5.out _).mono ?_
        rintro e w1 ⟨rfl, rfl⟩
        go_wp2_with fail
        go_ret2
        exact ⟨by show _ = Ending.returned (pairV (app [43] a b)); rw [HV.out]; rfl, rfl⟩
    · obtain rfl := astr_of h
      have hc : acomp [45] a b = a - b := rfl
      rw [show (ByteArray.mk [45].toArray).data.toList = [45] from rfl, hc] at HV Q5
      clear h ho hx hy hz hv hc
      cases v
      all_goals
        go_enter Tryz.func57, Tryz.ntmps57
        go_wp2_with fail
        refine (Q1.out _).mono ?_
        rintro e w1 ⟨rfl, rfl⟩
        go_wp2_with fail
        refine (Q2.out _).mono ?_
        rintro e w1 ⟨rfl, rfl⟩
        go_wp2_with fail
        refine (Q3.out _).mono ?_
        rintro e w1 ⟨rfl, rfl⟩
        go_wp2_with fail
        refine (Q5.out _).mono ?_
        rintro e w1 ⟨rfl, rfl⟩
        go_wp2_with fail
        go_ret2
        exact ⟨by show _ = Ending.returned (pairV (app [45] a b)); rw [HV.out]; rfl, rfl⟩
    · obtain rfl := astr_of h
      have hc : acomp [42] a b = a * b := rfl
      rw [show (ByteArray.mk [42].toArray).data.toList = [42] from rfl, hc] at HV Q5
      clear h ho hx hy hz hv hc
      cases v
      all_goals
        go_enter Tryz.func57, Tryz.ntmps57
        go_wp2_with fail
        refine (Q1.out _).mono ?_
        rintro e w1 ⟨rfl, rfl⟩
        go_wp2_with fail
        refine (Q2.out _).mono ?_
        rintro e w1 ⟨rfl, rfl⟩
        go_wp2_with fail
        refine (Q3.out _).mono ?_
        rintro e w1 ⟨rfl, rfl⟩
        go_wp2_with fail
        refine (Q5.out _).mono ?_
        rintro e w1 ⟨rfl, rfl⟩
        go_wp2_with fail
        go_ret2
        exact ⟨by show _ = Ending.returned (pairV (app [42] a b)); rw [HV.out]; rfl, rfl⟩
    · obtain rfl := astr_of h
      have hb0 : b ≠ 0 := by rintro rfl; simp [zeroB] at hz
      have hn : (b == 0) = false := by simpa using hb0
      have Q4 := Lib.hid (fun W => floor_at a b W hx hy hb0)
      have hc : acomp [47] a b = flr a b := rfl
      rw [show (ByteArray.mk [47].toArray).data.toList = [47] from rfl, hc] at HV Q5
      clear h ho hx hy hz hv hc hb0
      generalize flr a b = q at *
      cases v
      all_goals
        go_enter Tryz.func57, Tryz.ntmps57
        go_wp2_with fail
        refine (Q1.out _).mono ?_
        rintro e w1 ⟨rfl, rfl⟩
        go_wp2_with fail
        refine (Q2.out _).mono ?_
        rintro e w1 ⟨rfl, rfl⟩
        go_wp2_with fail
        refine (Q3.out _).mono ?_
        rintro e w1 ⟨rfl, rfl⟩
        go_wp2_with fail
        refine (Q4.out _).mono ?_
        rintro e w1 ⟨rfl, rfl⟩
        go_wp2_with fail
        refine (Q5.out _).mono ?_
        rintro e w1 ⟨rfl, rfl⟩
        go_wp2_with fail
        go_ret2
        exact ⟨by show _ = Ending.returned (pairV (app [47] a b)); rw [HV.out]; rfl, rfl⟩
    · obtain rfl := astr_of h
      have hb0 : b ≠ 0 := by rintro rfl; simp [zeroB] at hz
      have hn : (b == 0) = false := by simpa using hb0
      have Q4 := Lib.hid (fun W => floor_at a b W hx hy hb0)
      have hq := flr_small hb0 ha1 ha2
      have hr := flr_rem (a := a) hb0
      have hxx : -2147483648 ≤ a - flr a b * b ∧ a - flr a b * b ≤ 2147483648 := by
        rcases Int.lt_or_gt_of_ne hb0 with h | h
        · have := hr.2 h; omega
        · have := hr.1 h; omega
      obtain ⟨hx1, hx2⟩ := hxx
      obtain ⟨hq1, hq2⟩ := mul_fit hq ⟨hb1, hb2⟩
      have hc : acomp [37] a b = a - flr a b * b := rfl
      rw [show (ByteArray.mk [37].toArray).data.toList = [37] from rfl, hc] at HV Q5
      clear h ho hx hy hz hv hc hb0 hr hq
      generalize flr a b = q at *
      cases v
      all_goals
        go_enter Tryz.func57, Tryz.ntmps57
        go_wp2_with fail
        refine (Q1.out _).mono ?_
        rintro e w1 ⟨rfl, rfl⟩
        go_wp2_with fail
        refine (Q2.out _).mono ?_
        rintro e w1 ⟨rfl, rfl⟩
        go_wp2_with fail
        refine (Q3.out _).mono ?_
        rintro e w1 ⟨rfl, rfl⟩
        go_wp2_with fail
        refine (Q4.out _).mono ?_
        rintro e w1 ⟨rfl, rfl⟩
        go_wp2_with fail
        refine (Q5.out _).mono ?_
        rintro e w1 ⟨rfl, rfl⟩
        go_wp2_with fail
        go_ret2
        exact ⟨by show _ = Ending.returned (pairV (app [37] a b)); rw [HV.out]; rfl, rfl⟩
  · have HV := Lib.hid (show app s.data.toList a b = (0, 12) by unfold app; rw [if_neg (by rw [ho]; simp), if_neg (by rw [hx, hy]; simp), if_pos hz])
    have HZ : b = 0 ∧ (s.data.toList = [47] ∨ s.data.toList = [37]) := by simpa [zeroB] using hz
    obtain ⟨rfl, h⟩ := HZ
    rw [HV.out]
    exact ref_apply_zero s a w h hx
end Go.Proofs.YtelkmnjoboekmaaGreat
namespace Go.Proofs.YtelkmnjoboekmaaGreat
open Go.RowKit

/-- An operator with two arguments. -/
def Tm.opt (t : Tm) : Bool := decide (t.kind = 2) && (decide (t.args.length = 2) && opB t.name.data.toList)
theorem opt_mk (k n : Int) (s : ByteArray) (A : Option Addr) (c : Nat) (a : List Tm) : (Tm.mk k n s A c a).opt = (decide (k = 2) && (decide (a.length = 2) && opB s.data.toList)) := rfl
theorem akeepc {w w' : World} (hb : Below w.heap.size w w') {p : Addr} {v : Value} (h : w.cell? p = some v) : w'.cell? p = some v := by
  rw [hb.cell (World.block_lt_of_cell? _ _ h)]; exact h
theorem eval_plain {t : Tm} (h0 : t.kind ≠ 0) (h1 : t.kind ≠ 1) (ho : t.opt = false) : t.eval = (0, 11) := by
  obtain ⟨k, n, s, A, c, a⟩ := t
  rw [opt_mk] at ho
  simp only [Tm.kind] at h0 h1
  simp only [Tm.eval, if_neg h0, if_neg h1]
  split
  · rename_i h
    refine comb_two (.inr trivial) ?_
    rw [evalL_length]
    intro hl
    simp [h.1, h.2, hl] at ho
  · rfl
theorem opt_parts {k n : Int} {s : ByteArray} {A : Option Addr} {c : Nat} {a : List Tm} (h : (Tm.mk k n s A c a).opt = true) : k = 2 ∧ (∃ x y, a = [x, y]) ∧ opB s.data.toList = true := by
  rw [opt_mk] at h
  simp only [Bool.and_eq_true, decide_eq_true_eq] at h
  refine ⟨h.1, ?_, h.2.2⟩
  match a, h.2.1 with
  | [x, y], _ => exact ⟨x, y, rfl⟩

set_option maxHeartbeats 1000000 in
theorem is_opt_at (t : Tm) (w : World) {r : Bool} (hr : t.opt = r) :
    Calls Tryz.prog 53 #[t.val] w fun e w' => e = .returned (.bool r) ∧ Below w.heap.size w w' := by
  have B0 := Lib.hid (show ∀ o, Below w.heap.size w (w.alloc o) from fun o => (Below.refl _ _).alloc (Nat.le_refl _) o)
  obtain ⟨k, n, s, A, c, a⟩ := t
  show Calls Tryz.prog 53 #[.agg #[.int .i64 k, .int .i64 n, .string s, .slice A a.length c]] w _
  rw [opt_mk] at hr
  by_cases hk : k = 2
  · subst hk
    by_cases hl : a.length = 2
    · have Q := Lib.hid (fun W => is_op_at s W (r := r) (by simpa [hl] using hr))
      rw [hl]
      clear hr hl
      go_enter Tryz.func53, Tryz.ntmps53
      go_wp2_with fail
      refine (Q.out _).mono ?_
      rintro e w1 ⟨rfl, rfl⟩
      go_wp2_with fail
      go_ret
      exact ⟨rfl, B0.out _⟩
    · obtain rfl : false = r := by rw [← hr]; simp [hl]
      have h1 : (a.length == 2) = false := by simpa using hl
      have h2 : ((a.length : Int) == 2) = false := by simp; omega
      clear hr hl
      go_enter Tryz.func53, Tryz.ntmps53
      go_wp2_with fail
      go_ret
      exact ⟨rfl, B0.out _⟩
  · obtain rfl : false = r := by rw [← hr]; simp [hk]
    have h1 : (k == 2) = false := by simpa using hk
    clear hr hk
    go_enter Tryz.func53, Tryz.ntmps53
    go_wp2_with fail
    go_ret
    exact ⟨rfl, B0.out _⟩

theorem two_cells {w : World} {k n : Int} {s : ByteArray} {A : Option Addr} {c : Nat} {x y : Tm} (h : (Tm.mk k n s A c [x, y]).At w) : ∃ b o, A = some ⟨b, o, none⟩ ∧
    (w.cell? ⟨b, o, none⟩ = some (.int .i64 x.kind) ∧ w.cell? ⟨b, o + 1, none⟩ = some (.int .i64 x.num) ∧ w.cell? ⟨b, o + 2, none⟩ = some (.string x.name) ∧ w.cell? ⟨b, o + 3, none⟩ = some (.slice x.at_ x.args.length x.cap)) ∧
    (w.cell? ⟨b, o + 4, none⟩ = some (.int .i64 y.kind) ∧ w.cell? ⟨b, o + 4 + 1, none⟩ = some (.int .i64 y.num) ∧ w.cell? ⟨b, o + 4 + 2, none⟩ = some (.string y.name) ∧ w.cell? ⟨b, o + 4 + 3, none⟩ = some (.slice y.at_ y.args.length y.cap)) ∧ x.At w ∧ y.At w := by
  obtain ⟨b, o, e, h0, hx⟩ := h.lst.get (i := 0) (by simp [Tm.args])
  obtain ⟨b', o', e', h1, hy⟩ := h.lst.get (i := 1) (by simp [Tm.args])
  simp only [Tm.at_] at e e'
  rw [e, Option.some.injEq, Addr.mk.injEq] at e'
  obtain ⟨rfl, rfl, _⟩ := e'
  exact ⟨b, o, e, by simpa [Tm.args] using h0, by simpa [Tm.args] using h1, by simpa [Tm.args] using hx, by simpa [Tm.args] using hy⟩

set_option maxHeartbeats 2000000 in
theorem eval_at (t : Tm) : ∀ w : World, t.At w → Calls Tryz.prog 31 #[t.val] w fun e w' => e = .returned (pairV t.eval) ∧ Below w.heap.size w w' := by
  induction t using Tm.induct with
  | h k n s A c a ih =>
    intro w hat
    have B0 := Lib.hid (show ∀ o, Below w.heap.size w (w.alloc o) from fun o => (Below.refl _ _).alloc (Nat.le_refl _) o)
    show Calls Tryz.prog 31 #[.agg #[.int .i64 k, .int .i64 n, .string s, .slice A a.length c]] w _
    by_cases hk0 : k = 0
    · subst hk0
      obtain ⟨v, hv⟩ : ∃ v, inR n = v := ⟨_, rfl⟩
      have Q := Lib.hid (fun W => in_range_at n W hv)
      have HV := Lib.hid (show (Tm.mk 0 n s A c a).eval = if v = true then (n, 0) else (0, 5) by simp [Tm.eval, hv])
      clear hv hat ih
      cases v
      all_goals
        go_enter Tryz.func31, Tryz.ntmps31
        go_wp2_with fail
        refine (Q.out _).mono ?_
        rintro e w1 ⟨rfl, rfl⟩
        go_wp2_with fail
        go_ret2
        exact ⟨by rw [HV.out]; rfl, B0.out _⟩
    have n0 : (k == 0) = false := by simpa using hk0
    by_cases hk1 : k = 1
    · subst hk1
      have HV := Lib.hid (show (Tm.mk 1 n s A c a).eval = (0, 17) by simp [Tm.eval])
      clear hat ih n0 hk0
      go_enter Tryz.func31, Tryz.ntmps31
      go_wp2_with fail
      go_ret2
      exact ⟨by rw [HV.out]; rfl, B0.out _⟩
    have n1 : (k == 1) = false := by simpa using hk1
    obtain ⟨p, hp⟩ : ∃ p, (Tm.mk k n s A c a).opt = p := ⟨_, rfl⟩
    have Q1 := Lib.hid (fun W => is_opt_at (Tm.mk k n s A c a) W hp)
    cases p
    · have HV := Lib.hid (eval_plain (t := .mk k n s A c a) hk0 hk1 hp)
      clear hat ih hk0 hk1 hp
      go_enter Tryz.func31, Tryz.ntmps31
      go_wp2_with fail
      refine (Q1.out _).mono ?_
      rintro e w1 ⟨rfl, hb⟩
      go_wp2_with fail
      go_ret2
      exact ⟨by rw [HV.out]; rfl, (B0.out _).trans (hb.mono (by simp))⟩
    · obtain ⟨rfl, ⟨x, y, rfl⟩, ho⟩ := opt_parts hp
      have HV := Lib.hid (eval_fun (n := n) (A := A) (c := c) (x := x) (y := y) ho)
      have Q2 := Lib.hid (fun W (h : Below w.heap.size w W) => ih x (by simp) W ((hat.below h).lst.mem (by simp [Tm.args])))
      have Q3 := Lib.hid (fun W (h : Below w.heap.size w W) => ih y (by simp) W ((hat.below h).lst.mem (by simp [Tm.args])))
      have Q4 := Lib.hid (fun a b W => aapply_at s a b W)
      obtain ⟨b, o, rfl, ⟨c0, c1, c2, c3⟩, ⟨g0, g1, g2, g3⟩, _, _⟩ := two_cells hat
      have HA := Lib.hid hat
      clear hat ih hk0 hk1 hp n0 n1
      go_enter Tryz.func31, Tryz.ntmps31
      go_wp2_with fail
      refine (Q1.out _).mono ?_
      rintro e w1 ⟨rfl, hb⟩
      obtain ⟨d0, d1, d2, d3, hb1⟩ := box4 hb
      have k0 := akeepc hb1 c0
      have k1 := akeepc hb1 c1
      have k2 := akeepc hb1 c2
      have k3 := akeepc hb1 c3
      clear c0 c1 c2 c3 hb
      go_wp2_with fail
      refine (Q2.out _ hb1).mono ?_
      rintro e w2 ⟨rfl, hb2⟩
      replace d2 := akeepc hb2 d2
      replace d3 := akeepc hb2 d3
      clear d0 d1 k0 k1 k2 k3
      have hb3 := hb1.trans (hb2.mono hb1.size)
      have k0 := akeepc hb3 g0
      have k1 := akeepc hb3 g1
      have k2 := akeepc hb3 g2
      have k3 := akeepc hb3 g3
      clear g0 g1 g2 g3 hb1 hb2
      generalize x.eval = p at *
      obtain ⟨p1, p2⟩ := p
      by_cases hp2 : p2 = 0
      · subst hp2
        go_wp2_with fail
        refine (Q3.out _ hb3).mono ?_
        rintro e w4 ⟨rfl, hb4⟩
        replace d2 := akeepc hb4 d2
        clear d3 k0 k1 k2 k3
        have hb5 := hb3.trans (hb4.mono hb3.size)
        generalize y.eval = q at *
        obtain ⟨q1, q2⟩ := q
        by_cases hq2 : q2 = 0
        · subst hq2
          go_wp2_with fail
          refine (Q4.out _ _ _).mono ?_
          rintro e w6 ⟨rfl, rfl⟩
          go_wp2_with fail
          go_ret2
          exact ⟨by rw [HV.out]; rfl, hb5⟩
        · have m2 : (q2 == 0) = false := by simpa using hq2
          have m3 : (q2 != 0) = true := by simpa using hq2
          have HW := Lib.hid hq2
          clear hq2
          go_wp2_with fail
          go_ret2
          exact ⟨by rw [HV.out]; simp [HW.out], hb5⟩
      · have m2 : (p2 == 0) = false := by simpa using hp2
        have m3 : (p2 != 0) = true := by simpa using hp2
        have HW := Lib.hid hp2
        clear hp2
        go_wp2_with fail
        go_ret2
        exact ⟨by rw [HV.out]; simp [HW.out], hb3⟩
end Go.Proofs.YtelkmnjoboekmaaGreat
namespace Go.Proofs.YtelkmnjoboekmaaGreat
open Go.RowKit

theorem eval_other {k n : Int} {s : ByteArray} {A : Option Addr} {c : Nat} {a : List Tm} (h0 : k ≠ 0) (h1 : k ≠ 1) (h2 : k ≠ 2 ∨ opB s.data.toList = false ∨ a.length ≠ 2) : (Tm.mk k n s A c a).eval = (0, 11) := by
  refine eval_plain (t := .mk k n s A c a) h0 h1 ?_
  rw [opt_mk]
  rcases h2 with h | h | h <;> simp [h]

set_option maxHeartbeats 4000000 in
theorem ref_eval_at (t : Tm) : ∀ w : World, t.At w → Calls Tryz.prog 33 #[t.val] w fun e w' => e = .returned (pairV t.eval) ∧ Below w.heap.size w w' := by
  induction t using Tm.induct with
  | h k n s A c a ih =>
    intro w hat
    have B0 := Lib.hid (show ∀ o, Below w.heap.size w (w.alloc o) from fun o => (Below.refl _ _).alloc (Nat.le_refl _) o)
    show Calls Tryz.prog 33 #[.agg #[.int .i64 k, .int .i64 n, .string s, .slice A a.length c]] w _
    by_cases hk0 : k = 0
    · subst hk0
      obtain ⟨v, hv⟩ : ∃ v, inR n = v := ⟨_, rfl⟩
      have Q := Lib.hid (fun W => ref_in_at n W hv)
      have HV := Lib.hid (show (Tm.mk 0 n s A c a).eval = if v = true then (n, 0) else (0, 5) by simp [Tm.eval, hv])
      clear hv hat ih
      cases v
      all_goals
        go_enter Tryz.func33, Tryz.ntmps33
        go_wp2_with fail
        refine (Q.out _).mono ?_
        rintro e w1 ⟨rfl, rfl⟩
        go_wp2_with fail
        go_ret2
        exact ⟨by rw [HV.out]; rfl, B0.out _⟩
    have n0 : (k == 0) = false := by simpa using hk0
    by_cases hk1 : k = 1
    · subst hk1
      have HV := Lib.hid (show (Tm.mk 1 n s A c a).eval = (0, 17) by simp [Tm.eval])
      clear hat ih n0 hk0
      go_enter Tryz.func33, Tryz.ntmps33
      go_wp2_with fail
      go_ret2
      exact ⟨by rw [HV.out]; rfl, B0.out _⟩
    have n1 : (k == 1) = false := by simpa using hk1
    by_cases hk2 : k = 2
    · subst hk2
      obtain ⟨p, hp⟩ : ∃ p, opB s.data.toList = p := ⟨_, rfl⟩
      have Q1 := Lib.hid (fun W => ref_oper_at s W hp)
      cases p
      · have HV := Lib.hid (eval_other (n := n) (A := A) (c := c) (a := a) hk0 hk1 (.inr (.inl hp)))
        clear hat ih hk0 hk1 hp n0 n1
        go_enter Tryz.func33, Tryz.ntmps33
        go_wp2_with fail
        refine (Q1.out _).mono ?_
        rintro e w1 ⟨rfl, rfl⟩
        go_wp2_with fail
        go_ret2
        exact ⟨by rw [HV.out]; rfl, B0.out _⟩
      by_cases hl : a.length = 2
      · obtain ⟨x, y, rfl⟩ : ∃ x y, a = [x, y] := by
          match a, hl with
          | [x, y], _ => exact ⟨x, y, rfl⟩
        have HV := Lib.hid (eval_fun (n := n) (A := A) (c := c) (x := x) (y := y) hp)
        have Q2 := Lib.hid (fun W (h : Below w.heap.size w W) => ih x (by simp) W ((hat.below h).lst.mem (by simp [Tm.args])))
        have Q3 := Lib.hid (fun W (h : Below w.heap.size w W) => ih y (by simp) W ((hat.below h).lst.mem (by simp [Tm.args])))
        have Q4 := Lib.hid (fun a b W => ref_aapply_at s a b W)
        obtain ⟨b, o, rfl, ⟨c0, c1, c2, c3⟩, ⟨g0, g1, g2, g3⟩, _, _⟩ := two_cells hat
        have HG := Lib.hid (show _ ∧ _ ∧ _ ∧ _ from ⟨g0, g1, g2, g3⟩)
        replace c0 := fun ob => akeepc (B0.out ob) c0
        replace c1 := fun ob => akeepc (B0.out ob) c1
        replace c2 := fun ob => akeepc (B0.out ob) c2
        replace c3 := fun ob => akeepc (B0.out ob) c3
        clear hat ih hk0 hk1 hp n0 n1 hl g0 g1 g2 g3
        go_enter Tryz.func33, Tryz.ntmps33
        go_wp2_with fail
        refine (Q1.out _).mono ?_
        rintro e w1 ⟨rfl, rfl⟩
        go_wp2_with fail
        refine (Q2.out _ (B0.out _)).mono ?_
        rintro e w2 ⟨rfl, hb⟩
        obtain ⟨d0, d1, d2, d3, hb3⟩ := box4 hb
        obtain ⟨g0, g1, g2, g3⟩ := HG.out
        have k0 := akeepc hb3 g0
        have k1 := akeepc hb3 g1
        have k2 := akeepc hb3 g2
        have k3 := akeepc hb3 g3
        clear g0 g1 g2 g3 hb c0 c1 c2 c3
        generalize x.eval = p at *
        obtain ⟨p1, p2⟩ := p
        by_cases hp2 : p2 = 0
        · subst hp2
          go_wp2_with fail
          refine (Q3.out _ hb3).mono ?_
          rintro e w4 ⟨rfl, hb4⟩
          replace d2 := akeepc hb4 d2
          clear d3 k0 k1 k2 k3
          have hb5 := hb3.trans (hb4.mono hb3.size)
          generalize y.eval = q at *
          obtain ⟨q1, q2⟩ := q
          by_cases hq2 : q2 = 0
          · subst hq2
            go_wp2_with fail
            refine (Q4.out _ _ _).mono ?_
            rintro e w6 ⟨rfl, rfl⟩
            go_wp2_with fail
            go_ret2
            exact ⟨by rw [HV.out]; rfl, hb5⟩
          · have m2 : (q2 == 0) = false := by simpa using hq2
            have m3 : (q2 != 0) = true := by simpa using hq2
            have HW := Lib.hid hq2
            clear hq2
            go_wp2_with fail
            go_ret2
            exact ⟨by rw [HV.out]; simp [HW.out], hb5⟩
        · have m2 : (p2 == 0) = false := by simpa using hp2
          have m3 : (p2 != 0) = true := by simpa using hp2
          have HW := Lib.hid hp2
          clear hp2
          go_wp2_with fail
          go_ret2
          exact ⟨by rw [HV.out]; simp [HW.out], hb3⟩
      · have HV := Lib.hid (eval_other (n := n) (s := s) (A := A) (c := c) (a := a) hk0 hk1 (.inr (.inr hl)))
        have h1 : (a.length == 2) = false := by simpa using hl
        have h2 : ((a.length : Int) == 2) = false := by simp; omega
        have h3 : ((a.length : Int) != 2) = true := by simp; omega
        clear hat ih hk0 hk1 hp n0 n1 hl
        go_enter Tryz.func33, Tryz.ntmps33
        go_wp2_with fail
        refine (Q1.out _).mono ?_
        rintro e w1 ⟨rfl, rfl⟩
        go_wp2_with fail
        go_ret2
        exact ⟨by rw [HV.out]; rfl, B0.out _⟩
    · have n2 : (k == 2) = false := by simpa using hk2
      have n3 : (k != 2) = true := by simpa using hk2
      have HV := Lib.hid (eval_other (n := n) (s := s) (A := A) (c := c) (a := a) hk0 hk1 (.inl hk2))
      clear hat ih hk0 hk1 hk2
      go_enter Tryz.func33, Tryz.ntmps33
      go_wp2_with fail
      go_ret2
      exact ⟨by rw [HV.out]; rfl, B0.out _⟩
end Go.Proofs.YtelkmnjoboekmaaGreat
namespace Go.Proofs.YtelkmnjoboekmaaGreat
open Go.RowKit

/-- The worlds behind w0. -/
abbrev From (w0 : World) : World → Prop := fun W => Below w0.heap.size w0 W
/-- A term like t: its parts lie where the caller's do, or in blocks of the call's own. -/
def RMade (w0 : World) (t : Tm) (w : World) (e : Ending) (w' : World) : Prop := ∃ u : Tm, e = .returned u.val ∧ u.strip = t.strip ∧ Lie (From w0) w.heap.size No w' u ∧ Below w.heap.size w w'
def RMadeN (w0 : World) (n : Nat) (m : List Tm) (w : World) (e : Ending) (w' : World) : Prop :=
  ∃ A cap, ∃ cur : List Tm, e = .returned (.slice A n cap) ∧ cur.length = n ∧ stripL cur = stripL m ∧ (∀ W, From w0 W → Agree w.heap.size No w' W → Lst W A cur cap) ∧ Below w.heap.size w w'
theorem rlie_row {B : World → Prop} {w w' : World} {k n : Int} {s : ByteArray} {A : Option Addr} {cap lo : Nat} {cur : List Tm} (hp : Fits k ∧ Fits n ∧ s.size ≤ maxLen) (h : ∀ W, B W → Agree lo No w' W → Lst W A cur cap) (hlo : w.heap.size ≤ lo) : Lie B w.heap.size No w' (.mk k n s A cap cur) :=
  fun W hB hW => (At_iff _ _).2 ⟨hp, h W hB fun b h1 h2 h3 => hW b (by omega) h2 h3⟩
theorem take_tm {l : List Tm} {k : Nat} (h : k < l.length) : l.take (k + 1) = l.take k ++ [l.getD k default] := by
  rw [List.take_add_one, List.getElem?_eq_getElem h]
  simp [List.getD, List.getElem?_eq_getElem h]

set_option maxHeartbeats 4000000 in
set_option maxRecDepth 100000 in
theorem ref_apply_terms_at (w0 : World) (b : List Bd) (D : Option Addr) (q : Nat) (l : List Tm) (A : Option Addr) (c : Nat) (w : World) (hl : Lst w A l c) (hsz : l.length ≤ 1000000)
    (ih : ∀ x ∈ l, ∀ W : World, Below w.heap.size w W → Calls Tryz.prog 29 #[.slice D b.length q, x.val] W (RMade w0 (x.app b) W)) :
    Calls Tryz.prog 50 #[.slice D b.length q, .slice A l.length c] w (RMadeN w0 l.length (appL b l) w) := by
  obtain ⟨i0, hi, hz0, hz1, hz2⟩ := info_parts term_info
  have HL := Lib.hid hl
  have HI := Lib.hid ih
  have HA := Lib.hid (fun l => appL_map b l)
  clear hl ih
  go_enter Tryz.func50, Tryz.ntmps50
  go_wp2_with fail
  go_loopw [5, 6] (fun z i wr => ∃ (j : Nat) (acc : List Tm) (x : Value), j ≤ l.length ∧ i = .int .i64 j ∧ z = x ∧ Hid (RowT (From w0) w.heap.size wr x acc) ∧ Hid (stripL acc = stripL (appL b (l.take j))) ∧ Hid (acc.length = j) ∧ Below w.heap.size w wr) (fun _ i _ => l.length - (intOf i).toNat)
  case atStart => exact ⟨0, [], _, Nat.zero_le _, rfl, rfl, Lib.hid (RowT.nil _ _ _), Lib.hid rfl, Lib.hid rfl, Below.refl _ _⟩
  case round =>
    obtain ⟨j, acc, z, hj, rfl, hz, HK, HS, HAc, hbw⟩ := hrel
    have hz' := hz.symm
    subst hz'
    clear hz
    by_cases hlt : j < l.length
    · obtain ⟨b0, o, rfl, ⟨c0, c1, c2, c3⟩, _⟩ := (HL.out.below hbw).get hlt
      have HT := Lib.hid (take_tm hlt)
      have Q := Lib.hid (fun W (h : Below w.heap.size w W) => HI.out _ (getD_mem hlt) W h)
      have hal : acc.length ≤ 1000000 := by rw [HAc.out]; omega
      generalize l.getD j default = x at *
      obtain ⟨k', n', s', A', c', a'⟩ := x
      simp only [Tm.kind, Tm.num, Tm.name, Tm.at_, Tm.args, Tm.cap] at c0 c1 c2 c3
      go_wp2_with fail
      refine (Q.out _ hbw).mono ?_
      rintro e w2 ⟨u, rfl, hu, hlie, hb2⟩
      have HU := Lib.hid (lie_apart HK.out.1 hlie hbw.size (Nat.le_refl _))
      have HK2 := Lib.hid (HK.out.below hb2)
      have HS2 := Lib.hid (show stripL (acc ++ [u]) = stripL (appL b (l.take (j + 1))) by
        rw [HT.out, HA.out, List.map_append, stripL_append, stripL_append, HS.out, HA.out]
        simp only [stripL, List.map_cons, List.map_nil, hu])
      have hbw2 := hbw.trans (hb2.mono hbw.size)
      have HOwn := Lib.hid (own_lt HK2.out.1)
      have hlo := hbw2.size
      clear hu hlie hb2 hbw c0 c1 c2 c3 HK HS Q
      obtain ⟨k2, n2, s2, A2, p2, a2⟩ := u
      go_wp2_with (at_builtin; refine wpList_append_lies _ rfl _ _ 24 rfl w.heap.size 26 i0 _ 4 56 Tryz.underlying24 hi hz0 hz1 hz2 rfl (by decide) _ acc.length (tcells acc) rfl (HK2.out.1.alloc _) ⟨w2.heap.size, 0, none⟩ 1 1 (Tm.cells (.mk k2 n2 s2 A2 p2 a2)) rfl rfl (tnews1 w2 (.mk k2 n2 s2 A2 p2 a2) _) (cells_one _) (by decide) (by unfold maxLen; omega) (by omega) (by simp; omega) _ rfl ?_; intro g cap w5 hown hg hat hglt)
      have HR5 := Lib.hid (HK2.out.next (u := .mk k2 n2 s2 A2 p2 a2) HU.out (below1 w2 _) hown hg hat)
      have HB5 : Below w.heap.size w w5 := (hbw2.alloc hbw2.size _).grown hg (by simp; omega) (fun k hk => (HOwn.out k hk).1)
      clear hown hg hat hglt
      go_wp2_with fail
      go_roundw
      case rel => exact ⟨j + 1, acc ++ [.mk k2 n2 s2 A2 p2 a2], _, by omega, by go_num, rfl, HR5, HS2, Lib.hid (by rw [List.length_append, HAc.out]; rfl), HB5⟩
      case measure => simp [intOf]; omega
    · obtain rfl : j = l.length := by omega
      have hK := HK.out
      obtain ⟨A', cz, hz, hcz⟩ := hK.form
      subst hz
      have HF := Lib.hid hK.lies
      have HE := Lib.hid (show stripL acc = stripL (appL b l) by rw [HS.out, List.take_length])
      rw [HAc.out]
      clear hK HK hlt HS hcz
      go_wp2_with fail
      go_ret
      exact ⟨A', cz, acc, rfl, HAc.out, HE.out, HF.out, hbw⟩

set_option maxHeartbeats 4000000 in
theorem ref_apply_at (w0 : World) (b : List Bd) (D : Option Addr) (q : Nat) (hb : BLst w0 D b q) (t : Tm) : t.At w0 → t.nodes ≤ 1000000 → ∀ w : World, Below w0.heap.size w0 w → Calls Tryz.prog 29 #[.slice D b.length q, t.val] w (RMade w0 (t.app b) w) := by
  induction t using Tm.induct with
  | h k n s A c a ih =>
    intro hat hnodes w hw
    show Calls Tryz.prog 29 #[.slice D b.length q, .agg #[.int .i64 k, .int .i64 n, .string s, .slice A a.length c]] w _
    have HT := Lib.hid hat
    have HP := Lib.hid ((At_iff _ _).1 hat).1
    simp only [Tm.kind, Tm.num, Tm.name] at HP
    obtain ⟨HB0, HB1⟩ := two_boxes w (.int .i64 k) (.int .i64 n) (.string s) (.slice A a.length c) (.int .i64 0) (.int .i64 0) (.string ⟨#[]⟩) (.slice none 0 0) 26
    have H0 := Lib.hid HB0
    have H1 := Lib.hid HB1
    clear HB0 HB1
    by_cases k2 : k = 2
    · subst k2
      have hl : Lst w0 A a c := hat.lst
      have hna : nodesL a ≤ 1000000 := by simp only [Tm.nodes] at hnodes; omega
      have hln : a.length ≤ 1000000 := by have := length_le_nodes a; omega
      have Q1 := Lib.hid (fun W (h : Below w.heap.size w W) => ref_apply_terms_at w0 b D q a A c W ((hl.below hw).below h) hln (fun x hx W' h' => ih x hx (hl.mem hx) (by have := nodes_mem hx; omega) W' (hw.trans ((h.trans (h'.mono h.size)).mono hw.size))))
      have HV := Lib.hid (show (Tm.mk 2 n s A c a).app b = .mk 2 n s A c (appL b a) by simp [Tm.app])
      clear hat ih hl hna hnodes hln hb hw HT
      go_enter Tryz.func29, Tryz.ntmps29
      go_wp2_with fail
      refine (Q1.out _ (below2 _ _ _)).mono ?_
      rintro e w1 ⟨A', cap, cur, rfl, hcl, hst, hL, hb2⟩
      have HK := Lib.hid (H0.out.below hb2)
      have HM := Lib.hid (H1.out.below hb2)
      have hb1 := (below2 w (.cells #[.int .i64 2, .int .i64 n, .string s, .slice A a.length c] 26) zeroBox).trans (hb2.mono (by simp; omega))
      obtain ⟨hz0, d0, d1, d2, d3, f⟩ := HK.out
      obtain ⟨hz, e0, e1, e2, e3, f'⟩ := HM.out
      have f3 := f 3
      have f0' := f' 0
      have f1' := f' 1
      have f2' := f' 2
      have f3' := f' 3
      have HB := Lib.hid hb1
      have HL := Lib.hid hL
      have HS := Lib.hid hst
      have HC := Lib.hid hcl
      clear f f' hb1 hL hst hcl hb2 Q1
      go_wp2_with fail
      refine bodyPost_ret (v := .agg #[.int .i64 2, .int .i64 n, .string s, .slice A' a.length cap]) (by simp [results, Tryz.results29, go_sem, e0, e1, e2, e3]) rfl ?_
      have hsz : ((w.alloc (.cells #[.int .i64 2, .int .i64 n, .string s, .slice A a.length c] 26)).alloc zeroBox).heap.size = w.heap.size + 2 := by simp
      refine ⟨.mk 2 n s A' cap cur, by rw [← HC.out]; rfl, ?_, rlie_row (lo := w.heap.size + 2) HP.out (fun W hBW hW => HL.out W hBW fun b' h1 h2 h3 => ?_) (by omega), set4c (HB.out.setCell (Nat.le_refl _) _) (Nat.le_succ _)⟩
      · rw [HV.out]
        simp only [Tm.strip, HS.out]
      · rw [hsz] at h1
        rw [hW b' h1 (by rw [size_set4]; simpa [World.setCell] using h2) h3, heap_set4 _ (by omega), Below.heap_setCell _ _ _ _ (by show b' ≠ w.heap.size; omega)]
    · have k2' : (k == 2) = false := by simpa using k2
      by_cases k1 : k = 1
      · subst k1
        have hF := Lib.hid (fun W (h : Below w.heap.size w W) => ref_lookup_at b D q n W ((hb.below hw).below h))
        have HLk := Lib.hid (fun (x : Tm) (hx : look b n = some x) => show x.At w0 from hb.look hx)
        have HV := Lib.hid (show (Tm.mk 1 n s A c a).app b = (look b n).getD (.mk 1 n s A c a) by simp [Tm.app])
        clear hat ih hnodes hb k2 k2' hw
        generalize look b n = lk at *
        cases lk with
        | none =>
          simp only [Option.getD_none] at HV
          obtain ⟨z0, hz0⟩ : ∃ z, optT none = z := ⟨_, rfl⟩
          rw [hz0] at hF
          clear hz0 HLk
          obtain ⟨zk, zn, zs, zA, zc, za⟩ := z0
          have QF := Lib.hid (fun W (h : Below w.heap.size w W) => show Calls Tryz.prog 45 #[.slice D b.length q, .int .i64 n] W fun e w' => e = .returned (.tuple #[.agg #[.int .i64 zk, .int .i64 zn, .string zs, .slice zA za.length zc], .bool false]) ∧ Below W.heap.size W w' from hF.out W h)
          clear hF
          go_enter Tryz.func29, Tryz.ntmps29
          go_wp2_with fail
          refine (QF.out _ (below2 _ _ _)).mono ?_
          rintro e w1 ⟨rfl, hb2⟩
          have HK := Lib.hid ((H0.out.below hb2).alloc (.cells #[.int .i64 zk, .int .i64 zn, .string zs, .slice zA za.length zc] 26))
          have HM := Lib.hid ((H1.out.below hb2).alloc (.cells #[.int .i64 zk, .int .i64 zn, .string zs, .slice zA za.length zc] 26))
          have HB := Lib.hid (((below2 w (.cells #[.int .i64 1, .int .i64 n, .string s, .slice A a.length c] 26) zeroBox).trans (hb2.mono (by simp; omega))).alloc (by have := hb2.size; simp at this; omega) (.cells #[.int .i64 zk, .int .i64 zn, .string zs, .slice zA za.length zc] 26))
          obtain ⟨hz0, d0, d1, d2, d3, _⟩ := HK.out
          obtain ⟨hz, e0, e1, e2, e3, f'⟩ := HM.out
          have f0' := f' 0
          have f1' := f' 1
          have f2' := f' 2
          have f3' := f' 3
          clear hb2 QF f'
          go_wp2_with fail
          refine bodyPost_ret (v := .agg #[.int .i64 1, .int .i64 n, .string s, .slice A a.length c]) (by simp [results, Tryz.results29, go_sem, e0, e1, e2, e3]) rfl ?_
          exact ⟨.mk 1 n s A c a, rfl, by rw [HV.out], Lie.any fun W hW => HT.out.below hW, set4c HB.out (Nat.le_succ _)⟩
        | some x =>
          simp only [Option.getD_some] at HV
          have HX := Lib.hid (HLk.out x rfl)
          rw [HV.out]
          clear HV HT
          obtain ⟨xk, xn, xs, xA, xc, xa⟩ := x
          have QF := Lib.hid (fun W (h : Below w.heap.size w W) => show Calls Tryz.prog 45 #[.slice D b.length q, .int .i64 n] W fun e w' => e = .returned (.tuple #[.agg #[.int .i64 xk, .int .i64 xn, .string xs, .slice xA xa.length xc], .bool true]) ∧ Below W.heap.size W w' from hF.out W h)
          clear hF HLk
          go_enter Tryz.func29, Tryz.ntmps29
          go_wp2_with fail
          refine (QF.out _ (below2 _ _ _)).mono ?_
          rintro e w1 ⟨rfl, hb2⟩
          have HM := Lib.hid ((H1.out.below hb2).alloc (.cells #[.int .i64 xk, .int .i64 xn, .string xs, .slice xA xa.length xc] 26))
          have HB := Lib.hid (((below2 w (.cells #[.int .i64 1, .int .i64 n, .string s, .slice A a.length c] 26) zeroBox).trans (hb2.mono (by simp; omega))).alloc (by have := hb2.size; simp at this; omega) (.cells #[.int .i64 xk, .int .i64 xn, .string xs, .slice xA xa.length xc] 26))
          obtain ⟨hz, e0, e1, e2, e3, f'⟩ := HM.out
          have f0' := f' 0
          have f1' := f' 1
          have f2' := f' 2
          have f3' := f' 3
          clear hb2 QF f'
          go_wp2_with fail
          refine bodyPost_ret (v := .agg #[.int .i64 xk, .int .i64 xn, .string xs, .slice xA xa.length xc]) (by simp [results, Tryz.results29, go_sem, e0, e1, e2, e3]) rfl ?_
          exact ⟨.mk xk xn xs xA xc xa, rfl, rfl, Lie.any fun W hW => HX.out.below hW, set4c HB.out (Nat.le_succ _)⟩
      · have k1' : (k == 1) = false := by simpa using k1
        have HV := Lib.hid (show (Tm.mk k n s A c a).app b = .mk k n s A c a by simp [Tm.app, k1, k2])
        clear hat ih hnodes hb k1 k2 hw
        go_enter Tryz.func29, Tryz.ntmps29
        go_wp2_with fail
        refine bodyPost_ret (v := .agg #[.int .i64 k, .int .i64 n, .string s, .slice A a.length c]) (by simp [results, Tryz.results29, go_sem]) rfl ?_
        exact ⟨.mk k n s A c a, rfl, by rw [HV.out], Lie.any fun W hW => HT.out.below hW, below2 _ _ _⟩
end Go.Proofs.YtelkmnjoboekmaaGreat
namespace Go.Proofs.YtelkmnjoboekmaaGreat
open Go.RowKit

/-- What Tell answers. -/
def TellR (b : List Bd) (s t : Tm) (w : World) (e : Ending) (w' : World) : Prop :=
  ∃ (A : Option Addr) (c : Nat) (l : List Bd) (D : Option Addr) (q : Nat) (k : List Int) (er : Int), e = .returned (.tuple #[.slice A l.length c, .slice D k.length q, .int .i64 er]) ∧ TellOut b s t (stripB l) k er ∧ BLst w' A l c ∧ Ints w' D k ∧ Ext w w'
theorem ints_nil (w : World) : Ints w none [] := fun h => absurd h (by simp)
theorem tell_arg {b : List Bd} {s t : Tm} {w w' : World} (h : (rightS b && (s.right && t.right)) = false) (hx : Ext w w') : TellR b s t w (.returned (.tuple #[.slice none 0 0, .slice none 0 0, .int .i64 2])) w' :=
  ⟨none, 0, [], none, 0, [], 2, rfl, TellOut.arg h, BLst.nil _, ints_nil _, hx⟩
theorem tell_err {b : List Bd} {s t : Tm} {l : List Bd} {er : Int} {w w' : World} (h : (rightS b && (s.right && t.right)) = true) (ho : Out ((s, t) :: eqsB b) (stripB l) er) (he : er ≠ 0) (hx : Ext w w') : TellR b s t w (.returned (.tuple #[.slice none 0 0, .slice none 0 0, .int .i64 er])) w' := by
  have h0 := ho.none he
  rw [h0] at ho
  have h1 := TellOut.of h ho
  rw [if_neg he] at h1
  exact ⟨none, 0, [], none, 0, [], er, rfl, h1, BLst.nil _, ints_nil _, hx⟩
theorem tell_len0 {b : List Bd} {s t : Tm} {l : List Bd} (h : (rightS b && (s.right && t.right)) = true) (ho : Out ((s, t) :: eqsB b) (stripB l) 0) : l.length ≤ 400 + 201 * b.length :=
  tell_len (TellOut.of h ho)
theorem tell_ok {b : List Bd} {s t : Tm} {l : List Bd} {A D : Option Addr} {c q : Nat} {w w' : World} (h : (rightS b && (s.right && t.right)) = true) (ho : Out ((s, t) :: eqsB b) (stripB l) 0) (hl : BLst w' A l c) (hk : Ints w' D (freshL b l)) (hx : Ext w w') :
    TellR b s t w (.returned (.tuple #[.slice A l.length c, .slice D (freshL b l).length q, .int .i64 0])) w' := by
  have h1 := TellOut.of h ho
  rw [if_pos rfl, freshL_like (b' := b) (c' := l) rfl (by rw [stripB, stripB, List.map_map]; exact List.map_congr_left fun x _ => by simp [Bd.strip, strip_strip.1])] at h1
  exact ⟨A, c, l, D, q, _, 0, rfl, h1, hl, hk, hx⟩
set_option maxHeartbeats 4000000 in
set_option maxRecDepth 100000 in
theorem rtell_at (H : RSolves) (b : List Bd) (A : Option Addr) (c : Nat) (s t : Tm) (w : World) (hb : BLst w A b c) (hs : s.At w) (ht : t.At w) (hzb : ∀ x ∈ b, x.tm.size ≤ 1000000) (hzs : s.size ≤ 1000000) (hzt : t.size ≤ 1000000) (hlen : b.length ≤ 10000) :
    Calls Tryz.prog 10 #[.slice A b.length c, s.val, t.val] w (TellR b s t w) := by
  have B0 := Lib.hid (show ∀ o1 o2, Ext w ((w.alloc o1).alloc o2) from fun o1 o2 => (Ext.al _ _).trans (Ext.al _ _))
  have HBX := Lib.hid (fun (W : World) (v0 v1 v2 v3 u0 u1 u2 u3 : Value) (h : Below ((w.alloc (.cells #[v0, v1, v2, v3] 26)).alloc (.cells #[u0, u1, u2, u3] 26)).heap.size ((w.alloc (.cells #[v0, v1, v2, v3] 26)).alloc (.cells #[u0, u1, u2, u3] 26)) W) => boxes_two h)
  cases hr : (rightS b && (s.right && t.right)) with
  | false =>
    have QV := Lib.hid (fun W (h : Ext w W) => rvalid_at b A c s t W (hb.below h) (hs.below h) (ht.below h) hzb hzs hzt hr)
    have HE := Lib.hid (fun w' (h : Ext w w') => tell_arg (w := w) (w' := w') hr h)
    generalize TellR b s t w = X at *
    clear hb hs ht hzb hzs hzt hr H HBX
    obtain ⟨k, n, s, A1, c1, a⟩ := s
    obtain ⟨k2, n2, s2, A2, c2, a2⟩ := t
    show Calls Tryz.prog 10 #[.slice A b.length c, .agg #[.int .i64 k, .int .i64 n, .string s, .slice A1 a.length c1], .agg #[.int .i64 k2, .int .i64 n2, .string s2, .slice A2 a2.length c2]] w _
    go_enter Tryz.func10, Tryz.ntmps10
    go_wp2_with fail
    refine (QV.out _ (B0.out _ _)).mono ?_
    rintro e w1 ⟨rfl, hb1⟩
    have E1 := Lib.hid ((B0.out _ _).trans hb1)
    clear hb1
    go_wp2_with fail
    go_ret3
    exact HE.out _ E1.out
  | true =>
    have QV := Lib.hid (fun W (h : Ext w W) => rvalid_at b A c s t W (hb.below h) (hs.below h) (ht.below h) hzb hzs hzt hr)
    have QT := Lib.hid (fun W (h : Ext w W) => told_at H b A c s t W (hb.below h) (hs.below h) (ht.below h) hr hlen)
    have HN := Lib.hid (fun (l : List Bd) er w' ho he hx => tell_err (b := b) (s := s) (t := t) (l := l) (er := er) (w := w) (w' := w') hr ho he hx)
    have HK := Lib.hid (fun (l : List Bd) A c D q w' ho hl hk hx => tell_ok (b := b) (s := s) (t := t) (l := l) (A := A) (c := c) (D := D) (q := q) (w := w) (w' := w') hr ho hl hk hx)
    have HL := Lib.hid (fun (l : List Bd) ho => tell_len0 (b := b) (s := s) (t := t) (l := l) hr ho)
    have QF := Lib.hid (fun W (h : Ext w W) (l : List Bd) C d hl hlen => rfresh_at b l A C c d W (hb.below h) hl hlen)
    generalize TellR b s t w = X at *
    generalize hY : Out ((s, t) :: eqsB b) = Y at *
    have QT2 := Lib.hid (fun (W : World) (hW : Ext w W) => (QT.out W hW).mono fun e w' h => (show ∃ (A : Option Addr) (c : Nat) (l : List Bd) (er : Int), e = .returned (.tuple #[.slice A l.length c, .int .i64 er]) ∧ Y (stripB l) er ∧ BLst w' A l c ∧ Ext W w' from by
      obtain ⟨A, c, l, er, h1, h2, h3, h4⟩ := h
      exact ⟨A, c, l, er, h1, by rw [← hY]; exact h2, h3, h4⟩))
    clear hb hs ht hzb hzs hzt hr H hY QT
    obtain ⟨k, n, s, A1, c1, a⟩ := s
    obtain ⟨k2, n2, s2, A2, c2, a2⟩ := t
    show Calls Tryz.prog 10 #[.slice A b.length c, .agg #[.int .i64 k, .int .i64 n, .string s, .slice A1 a.length c1], .agg #[.int .i64 k2, .int .i64 n2, .string s2, .slice A2 a2.length c2]] w _
    go_enter Tryz.func10, Tryz.ntmps10
    go_wp2_with fail
    refine (QV.out _ (B0.out _ _)).mono ?_
    rintro e w1 ⟨rfl, hb1⟩
    have E1 := Lib.hid ((B0.out _ _).trans hb1)
    obtain ⟨⟨d0, d1, d2, d3⟩, x0, x1, x2, x3⟩ := HBX.out _ _ _ _ _ _ _ _ _ hb1
    clear hb1
    go_wp2_with fail
    refine (QT2.out _ E1.out).mono ?_
    rintro e w2 ⟨A5, c5, l, er, rfl, ho, hl, hx2⟩
    have E2 := Lib.hid (E1.out.trans hx2)
    have HO := Lib.hid ho
    have HLL := Lib.hid hl
    clear ho hl hx2 d0 d1 d2 d3 x0 x1 x2 x3
    by_cases he : er = 0
    · subst he
      have QG := Lib.hid (QF.out w2 E2.out l A5 c5 HLL.out (by have := HL.out l HO.out; omega))
      go_wp2_with fail
      refine QG.out.mono ?_
      rintro e w3 ⟨D, q, rfl, hi, hx3⟩
      have E3 := Lib.hid (HK.out l A5 c5 D q w3 HO.out (HLL.out.below hx3) hi (E2.out.trans hx3))
      clear hi hx3
      go_wp2_with fail
      go_ret3
      exact E3.out
    · have e0 : (er == 0) = false := by simpa using he
      have E3 := Lib.hid (HN.out l er w2 HO.out he E2.out)
      go_wp2_with fail
      go_ret3
      exact E3.out
end Go.Proofs.YtelkmnjoboekmaaGreat
