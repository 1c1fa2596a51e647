/-
  Contract of Expr of the reference.
-/
import Derived.Test.YtponcbnghiaclaaArExpr
namespace Go.Proofs.Ytponcbnghiaclaa
open Go.RowKit

theorem expr_other {k n : Int} {s : ByteArray} {A : Option Addr} {c : Nat} {a : List Tm} (h0 : k ≠ 0) (h2 : k ≠ 2 ∨ opB s.data.toList = false ∨ a.length ≠ 2) : (Tm.mk k n s A c a).expr = false := by
  refine expr_not h0 ?_
  rw [opt_mk]
  rcases h2 with h | h | h <;> simp [h]

set_option maxHeartbeats 4000000 in
theorem ref_expr_at (t : Tm) : ∀ w : World, t.At w → Calls Try.prog 16 #[t.val] w fun e w' => e = .returned (.bool t.expr) ∧ Below w.heap.size w w' := by
  induction t using Tm.induct with
  | h k n s A c a ih =>
    intro w hat
    have B0 := Lib.hid (show ∀ o, Below w.heap.size w (w.alloc o) from fun o => (Below.refl _ _).alloc (Nat.le_refl _) o)
    show Calls Try.prog 16 #[.agg #[.int .i64 k, .int .i64 n, .string s, .slice A a.length c]] w _
    by_cases hk0 : k = 0
    · subst hk0
      have HV := Lib.hid (show (Tm.mk 0 n s A c a).expr = true by simp [Tm.expr])
      clear hat ih
      go_enter Try.func16, Try.ntmps16
      go_wp2_with fail
      go_ret
      exact ⟨by rw [HV.out]; rfl, B0.out _⟩
    have n0 : (k == 0) = false := by simpa using hk0
    by_cases hk2 : k = 2
    · subst hk2
      obtain ⟨p, hp⟩ : ∃ p, opB s.data.toList = p := ⟨_, rfl⟩
      have Q1 := Lib.hid (fun W => ref_oper_at s W hp)
      cases p
      · have HV := Lib.hid (expr_other (n := n) (A := A) (c := c) (a := a) hk0 (.inr (.inl hp)))
        clear hat ih hk0 hp n0
        go_enter Try.func16, Try.ntmps16
        go_wp2_with fail
        refine (Q1.out _).mono ?_
        rintro e w1 ⟨rfl, rfl⟩
        go_wp2_with fail
        go_ret
        exact ⟨by rw [HV.out]; rfl, B0.out _⟩
      by_cases hl : a.length = 2
      · obtain ⟨x, y, rfl⟩ : ∃ x y, a = [x, y] := by
          match a, hl with
          | [x, y], _ => exact ⟨x, y, rfl⟩
        have HV := Lib.hid (expr_two (n := n) (A := A) (c := c) (x := x) (y := y) hp)
        have Q2 := Lib.hid (fun W (h : Below w.heap.size w W) => ih x (by simp) W ((hat.below h).lst.mem (by simp [Tm.args])))
        have Q3 := Lib.hid (fun W (h : Below w.heap.size w W) => ih y (by simp) W ((hat.below h).lst.mem (by simp [Tm.args])))
        obtain ⟨b, o, rfl, ⟨c0, c1, c2, c3⟩, ⟨g0, g1, g2, g3⟩, _, _⟩ := two_cells hat
        have hx : ∀ t : Tm, t.opnd = (decide (t.kind = 1) || t.expr) := fun _ => rfl
        rw [hx, hx] at HV
        clear hat ih hk0 hp n0 hl hx
        generalize x.expr = u at *
        generalize y.expr = v at *
        obtain ⟨i1, n1, s1, A1, e1, a1⟩ := x
        obtain ⟨i2, n2, s2, A2, e2, a2⟩ := y
        simp only [Tm.kind, Tm.num, Tm.name, Tm.at_, Tm.args, Tm.cap] at c0 c1 c2 c3 g0 g1 g2 g3 HV
        replace HV := Lib.hid (show _ = ((decide (i1 = 1) || u) && (decide (i2 = 1) || v)) from HV.out)
        go_enter Try.func16, Try.ntmps16
        go_wp2_with fail
        refine (Q1.out _).mono ?_
        rintro e w1 ⟨rfl, rfl⟩
        go_wp2_with fail
        have hb0 := B0.out (.cells #[.int .i64 2, .int .i64 n, .string s, .slice (some ⟨b, o, none⟩) 2 c] 30)
        go_loopw [3] (fun i wr => ∃ j : Nat, j ≤ 2 ∧ i = .int .i64 j ∧ Hid ((0 < j → (decide (i1 = 1) || u) = true) ∧ (1 < j → (decide (i2 = 1) || v) = true)) ∧ Below (w.alloc (.cells #[.int .i64 2, .int .i64 n, .string s, .slice (some ⟨b, o, none⟩) 2 c] 30)).heap.size (w.alloc (.cells #[.int .i64 2, .int .i64 n, .string s, .slice (some ⟨b, o, none⟩) 2 c] 30)) wr) (fun i _ => 2 - (intOf i).toNat)
        case atStart => exact ⟨0, by omega, rfl, Lib.hid ⟨fun h => by omega, fun h => by omega⟩, Below.refl _ _⟩
        case round =>
        obtain ⟨j, hj, rfl, HF, hbb⟩ := hrel
        obtain ⟨d0, d1, d2, d3, hbw⟩ := box4 hbb
        clear hb0 d0 d1 d2
        rcases (show j = 2 ∨ j = 0 ∨ j = 1 by omega) with h | h | h
        · obtain rfl : j = 2 := h
          clear Q2 Q3
          go_wp2_with fail
          go_ret
          exact ⟨by rw [HV.out, HF.out.1 (by omega), HF.out.2 (by omega)]; rfl, hbw⟩
        · obtain rfl : j = 0 := by omega
          have x0 := keepc hbw c0
          have x1 := keepc hbw c1
          have x2 := keepc hbw c2
          have x3 := keepc hbw c3
          by_cases hv : i1 = 1
          · subst hv
            clear Q2 Q3
            go_wp2_with fail
            go_roundw
            case rel => exact ⟨1, by omega, by go_num, Lib.hid ⟨fun _ => rfl, fun h => by omega⟩, hbb⟩
            case measure => simp [intOf]
          · have m1 : (i1 == 1) = false := by simpa using hv
            have m2 : (i1 != 1) = true := by simpa using hv
            have HX := Lib.hid hv
            clear hv
            go_wp2_with fail
            refine (Q2.out _ hbw).mono ?_
            rintro e w3 ⟨rfl, hb3⟩
            cases u
            · go_wp2_with fail
              go_ret
              exact ⟨by rw [HV.out]; simp [HX.out], hbw.trans (hb3.mono hbw.size)⟩
            · go_wp2_with fail
              go_roundw
              case rel => exact ⟨1, by omega, by go_num, Lib.hid ⟨fun _ => by simp, fun h => by omega⟩, hbb.trans (hb3.mono hbb.size)⟩
              case measure => simp [intOf]

        · obtain rfl : j = 1 := by omega
          have x0 := keepc hbw g0
          have x1 := keepc hbw g1
          have x2 := keepc hbw g2
          have x3 := keepc hbw g3
          by_cases hv : i2 = 1
          · subst hv
            clear Q2 Q3
            go_wp2_with fail
            go_roundw
            case rel => exact ⟨2, by omega, by go_num, Lib.hid ⟨fun _ => HF.out.1 (by omega), fun _ => rfl⟩, hbb⟩
            case measure => simp [intOf]
          · have m1 : (i2 == 1) = false := by simpa using hv
            have m2 : (i2 != 1) = true := by simpa using hv
            have HX := Lib.hid hv
            clear hv
            go_wp2_with fail
            refine (Q3.out _ hbw).mono ?_
            rintro e w3 ⟨rfl, hb3⟩
            cases v
            · go_wp2_with fail
              go_ret
              exact ⟨by rw [HV.out]; simp [HX.out], hbw.trans (hb3.mono hbw.size)⟩
            · go_wp2_with fail
              go_roundw
              case rel => exact ⟨2, by omega, by go_num, Lib.hid ⟨fun _ => HF.out.1 (by omega), fun _ => by simp⟩, hbb.trans (hb3.mono hbb.size)⟩
              case measure => simp [intOf]
      · have HV := Lib.hid (expr_other (n := n) (s := s) (A := A) (c := c) (a := a) hk0 (.inr (.inr hl)))
        have h1 : (a.length == 2) = false := by simpa using hl
        have h2 : ((a.length : Int) == 2) = false := by simp; omega
        have h3 : ((a.length : Int) != 2) = true := by simp; omega
        clear hat ih hk0 hp n0 hl
        go_enter Try.func16, Try.ntmps16
        go_wp2_with fail
        refine (Q1.out _).mono ?_
        rintro e w1 ⟨rfl, rfl⟩
        go_wp2_with fail
        go_ret
        exact ⟨by rw [HV.out]; rfl, B0.out _⟩
    · have n2 : (k == 2) = false := by simpa using hk2
      have n3 : (k != 2) = true := by simpa using hk2
      have HV := Lib.hid (expr_other (n := n) (s := s) (A := A) (c := c) (a := a) hk0 (.inl hk2))
      clear hat ih hk0 hk2
      go_enter Try.func16, Try.ntmps16
      go_wp2_with fail
      go_ret
      exact ⟨by rw [HV.out]; rfl, B0.out _⟩
end Go.Proofs.Ytponcbnghiaclaa
