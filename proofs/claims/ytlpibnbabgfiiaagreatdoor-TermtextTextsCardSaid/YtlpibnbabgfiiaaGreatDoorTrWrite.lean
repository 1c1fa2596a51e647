/-
  The contract of the reference's write.
-/
import Derived.Test.YtlpibnbabgfiiaaGreatDoorTrText
import Derived.BigRegion
namespace Go.Proofs.YtlpibnbabgfiiaaGreatDoor
open Go.RowKit

theorem rw_len (x y : List UInt8) (hx : x.length ≤ 1000000000) (hy : y.length ≤ 1000000000) :
    ¬ 9223372036854775807 < x.length + 1 ∧ ¬ 9223372036854775807 < x.length + 1 + 1 ∧ ¬ 9223372036854775807 < x.length + 1 + 1 + 1 ∧ ¬ 9223372036854775807 < x.length + 1 + 1 + 1 + y.length := by omega

set_option maxHeartbeats 4000000 in
set_option maxRecDepth 10000 in
theorem rwrite_op (n : Int) (o : UInt8) (A : Option Addr) (c : Nat) (x y : Tm) (hx : RTextAt x) (hy : RTextAt y) (hop : opB [o] = true) (w : World) (hat : (Tm.mk 2 n ⟨#[o]⟩ A c [x, y]).At w) (hft : (Tm.mk 2 n ⟨#[o]⟩ A c [x, y]).form = true) (hfx : x.form = true) (hfy : y.form = true) (hz : x.size + y.size ≤ 1000000) :
    Calls Tryz.prog 34 #[(Tm.mk 2 n ⟨#[o]⟩ A c [x, y]).val] w fun e w' => e = .returned (.string (S ((Tm.mk 2 n ⟨#[o]⟩ A c [x, y]).txt plain))) ∧ Below w.heap.size w w' := by
  have HV := Lib.hid (show (Tm.mk 2 n ⟨#[o]⟩ A c [x, y]).txt plain = opT [o] (paren plain (decide (x.pw < ostr [o])) (x.txt plain)) (paren plain (decide (y.pw ≤ ostr [o])) (y.txt plain)) by
    simp only [Tm.txt, show ¬ ((2 : Int) = 0) by omega, show ¬ ((2 : Int) = 1) by omega, if_false, txtL]
    rw [if_pos (by simpa using hop)]
    rfl)
  obtain ⟨b, q, rfl, hrow⟩ := hat.lst.2.2 (by simp [Tm.args])
  obtain ⟨⟨x0, x1, x2, x3⟩, hxa, ⟨y0, y1, y2, y3⟩, hya, -⟩ := hrow
  have b1 := paren_len slim_plain (decide (x.pw < ostr [o])) (x.txt plain)
  have b2 := paren_len slim_plain (decide (y.pw ≤ ostr [o])) (y.txt plain)
  have b3 := txt_bound hfx (by omega)
  have b4 := txt_bound hfy (by omega)
  have hop' : ostr [o] < 2 := (ostr_op _).1 hop
  have Q0 := Lib.hid (fun W => rstrength_at _ hft W)
  obtain ⟨p, hp⟩ : ∃ p : Nat, ostr [o] = p := ⟨_, rfl⟩
  have hpw : (Tm.mk 2 n ⟨#[o]⟩ (some ⟨b, q, none⟩) c [x, y]).pw = p := hp
  rw [hpw] at Q0
  rw [hp] at HV b1 b2 hop'
  have Q3 := Lib.hid (fun W (h : Below w.heap.size w W) => roperand_at x hx ((p : Int) + 1) 0 (decide (x.pw < p)) (by rw [decide_eq_decide]; omega) (by omega) (by omega) (by omega) (by omega) W (hxa.below h) hfx (by omega))
  have Q4 := Lib.hid (fun W (h : Below w.heap.size w W) => roperand_at y hy ((p : Int) + 1) 1 (decide (y.pw ≤ p)) (by rw [decide_eq_decide]; omega) (by omega) (by omega) (by omega) (by omega) W (hya.below h) hfy (by omega))
  obtain ⟨X, hX⟩ : ∃ X, paren plain (decide (x.pw < p)) (x.txt plain) = X := ⟨_, rfl⟩
  obtain ⟨Y, hY⟩ : ∃ Y, paren plain (decide (y.pw ≤ p)) (y.txt plain) = Y := ⟨_, rfl⟩
  rw [hX] at b1 Q3 HV
  rw [hY] at b2 Q4 HV
  obtain ⟨l1, l2, l3, l4⟩ := rw_len X Y (by omega) (by omega)
  obtain ⟨P, hP⟩ : ∃ P : Int, (p : Int) + 1 = P := ⟨_, rfl⟩
  have hP3 : P < 3 := by omega
  have hP1 : 0 ≤ P := by omega
  rw [hP] at Q0 Q3 Q4
  clear hX hY b1 b2 b3 b4 hx hy hxa hya hat hft hfx hfy hz hop hop' hp hpw hP
  obtain ⟨k1, n1, s1, A1, p1, a1⟩ := x
  obtain ⟨k2, n2, s2, A2, p2, a2⟩ := y
  simp only [Tm.kind, Tm.num, Tm.name, Tm.at_, Tm.args, Tm.cap] at x0 x1 x2 x3 y0 y1 y2 y3
  have Q0 := Lib.hid (show ∀ W, Calls Tryz.prog 67 #[.agg #[.int .i64 2, .int .i64 n, .string ⟨#[o]⟩, .slice (some ⟨b, q, none⟩) 2 c]] W fun e w' => e = .returned (.int .i64 P) ∧ Below W.heap.size W w' from Q0.out)
  have Q3 := Lib.hid (show ∀ W, Below w.heap.size w W → Calls Tryz.prog 68 #[.agg #[.int .i64 k1, .int .i64 n1, .string s1, .slice A1 a1.length p1], .int .i64 P, .int .i64 0] W fun e w' => e = .returned (.string (S X)) ∧ Below W.heap.size W w' from Q3.out)
  have Q4 := Lib.hid (show ∀ W, Below w.heap.size w W → Calls Tryz.prog 68 #[.agg #[.int .i64 k2, .int .i64 n2, .string s2, .slice A2 a2.length p2], .int .i64 P, .int .i64 1] W fun e w' => e = .returned (.string (S Y)) ∧ Below W.heap.size W w' from Q4.out)
  show Calls Tryz.prog 34 #[.agg #[.int .i64 2, .int .i64 n, .string ⟨#[o]⟩, .slice (some ⟨b, q, none⟩) 2 c]] w _
  go_enter Tryz.func34, Tryz.ntmps34
  go_wp2_with fail
  refine (Q0.out _).mono ?_
  rintro e w1 ⟨rfl, hb1⟩
  have HBel := Lib.hid (((Below.refl w.heap.size w).alloc (Nat.le_refl _) (.cells #[.int .i64 2, .int .i64 n, .string ⟨#[o]⟩, .slice (some ⟨b, q, none⟩) 2 c] 24)).trans (hb1.mono (by simp)))
  obtain ⟨t0, t1, t2, t3, _⟩ := box4 hb1
  clear hb1
  have t0' := cell_regrown t0
  have t1' := cell_regrown t1
  have t2' := cell_regrown t2
  have t3' := cell_regrown t3
  have cx : ∀ {p : Addr} {v : Value}, w.cell? p = some v → w1.cell? p = some v := fun h => by
    rw [HBel.out.cell (World.block_lt_of_cell? w _ h)]; exact h
  have kx0 := cell_regrown (cx x0)
  have kx1 := cell_regrown (cx x1)
  have kx2 := cell_regrown (cx x2)
  have kx3 := cell_regrown (cx x3)
  have ky0 := cell_regrown (cx y0)
  have ky1 := cell_regrown (cx y1)
  have ky2 := cell_regrown (cx y2)
  have ky3 := cell_regrown (cx y3)
  clear cx
  go_wp2_with fail
  refine wp_region_quiet_below (by kernel_rfl) (by kernel_rfl) ?_
  repeat (go_big_quiet_step (first | (go_at_call 67; (with_reducible exact Calls.regrown_of (Q0.out _))) | (go_at_call 68; first | (with_reducible exact Calls.regrown_of (Q3.out _ (HBel.out.trans ((below_regrown _ _ _).mono HBel.out.size)))) | (with_reducible exact Calls.regrown_of (Q4.out _ (HBel.out.trans ((below_regrown _ _ _).mono HBel.out.size)))))))
  refine wpQuiet_nil ?_
  intro w9 hw'
  have hb9 := HBel.out.trans ((regrown_below hw').mono HBel.out.size)
  go_wp2_with fail
  go_ret
  refine ⟨ret_str ?_, hb9⟩
  apply WideShapes.bytes_inj
  rw [show (S ((Tm.mk 2 n ⟨#[o]⟩ (some ⟨b, q, none⟩) c [Tm.mk k1 n1 s1 A1 p1 a1, Tm.mk k2 n2 s2 A2 p2 a2]).txt plain)).data.toList = (Tm.mk 2 n ⟨#[o]⟩ (some ⟨b, q, none⟩) c [Tm.mk k1 n1 s1 A1 p1 a1, Tm.mk k2 n2 s2 A2 p2 a2]).txt plain from rfl, HV.out]
  simp [opT]

set_option maxHeartbeats 2000000 in
theorem rwrite_call (n : Int) (s : ByteArray) (A : Option Addr) (c : Nat) (l : List Tm) (ih : ∀ x ∈ l, RTextAt x) (hop : opB s.data.toList = false) (w : World) (hat : (Tm.mk 2 n s A c l).At w) (hf : formL l = true) (hz : sizeL l ≤ 1000000) (hs : s.size ≤ 1000000) (hlen : l.length ≤ 1000000) :
    Calls Tryz.prog 34 #[(Tm.mk 2 n s A c l).val] w fun e w' => e = .returned (.string (S ((Tm.mk 2 n s A c l).txt plain))) ∧ Below w.heap.size w w' := by
  have HV := Lib.hid (show (Tm.mk 2 n s A c l).txt plain = callT plain s.data.toList (txtL plain l) by
    simp only [Tm.txt, show ¬ ((2 : Int) = 0) by omega, show ¬ ((2 : Int) = 1) by omega, if_false]
    rw [if_neg (by rw [hop]; simp)])
  have Q1 := Lib.hid (fun W => rstrength_no n s (.slice A l.length c) W hop)
  have Q2 := Lib.hid (fun W (h : Below w.heap.size w W) => rcall_at s l ih A c W (hat.lst.below h) hf hz hs hlen)
  clear ih hop hat hf hz hs hlen
  show Calls Tryz.prog 34 #[.agg #[.int .i64 2, .int .i64 n, .string s, .slice A l.length c]] w _
  go_enter Tryz.func34, Tryz.ntmps34
  go_wp2_with fail
  refine (Q1.out _).mono ?_
  rintro e w1 ⟨rfl, hb1⟩
  have hb1' := ((Below.refl w.heap.size w).alloc (Nat.le_refl _) (.cells #[.int .i64 2, .int .i64 n, .string s, .slice A l.length c] 24)).trans (hb1.mono (by simp))
  obtain ⟨t0, t1, t2, t3, _⟩ := box4 hb1
  clear hb1
  go_wp2_with fail
  refine (Q2.out _ hb1').mono ?_
  rintro e w2 ⟨rfl, hb⟩
  have HB := Lib.hid (hb1'.trans (hb.mono hb1'.size))
  clear hb hb1'
  go_wp2_with fail
  go_ret
  exact ⟨ret_str (by rw [HV.out]), HB.out⟩

set_option maxHeartbeats 2000000 in
theorem rwrite_int (n : Int) (s : ByteArray) (A : Option Addr) (c : Nat) (l : List Tm) (h1 : -2147483648 ≤ n) (h2 : n ≤ 2147483648) (w : World) :
    Calls Tryz.prog 34 #[(Tm.mk 0 n s A c l).val] w fun e w' => e = .returned (.string (S (Lib.itoa n))) ∧ Below w.heap.size w w' := by
  have Q := Lib.hid (fun W => ref_dec n W h1 h2)
  clear h1 h2
  show Calls Tryz.prog 34 #[.agg #[.int .i64 0, .int .i64 n, .string s, .slice A l.length c]] w _
  go_enter Tryz.func34, Tryz.ntmps34
  go_wp2_with fail
  refine (Q.out _).mono ?_
  rintro e w1 ⟨rfl, hb⟩
  have HB := Lib.hid (((Below.refl w.heap.size w).alloc (Nat.le_refl _) (.cells #[.int .i64 0, .int .i64 n, .string s, .slice A l.length c] 24)).trans (hb.mono (by simp)))
  clear hb
  go_wp2_with fail
  go_ret
  exact ⟨rfl, HB.out⟩
set_option maxHeartbeats 2000000 in
theorem rwrite_var (n : Nat) (s : ByteArray) (A : Option Addr) (c : Nat) (l : List Tm) (h1 : n ≤ 1048576) (w : World) :
    Calls Tryz.prog 34 #[(Tm.mk 1 n s A c l).val] w fun e w' => e = .returned (.string (S (label n))) ∧ Below w.heap.size w w' := by
  have Q := Lib.hid (fun W => ref_label_in n W h1)
  clear h1
  show Calls Tryz.prog 34 #[.agg #[.int .i64 1, .int .i64 n, .string s, .slice A l.length c]] w _
  go_enter Tryz.func34, Tryz.ntmps34
  go_wp2_with fail
  refine (Q.out _).mono ?_
  rintro e w1 ⟨rfl, hb⟩
  have HB := Lib.hid (((Below.refl w.heap.size w).alloc (Nat.le_refl _) (.cells #[.int .i64 1, .int .i64 n, .string s, .slice A l.length c] 24)).trans (hb.mono (by simp)))
  clear hb
  go_wp2_with fail
  go_ret
  exact ⟨rfl, HB.out⟩

theorem rwrite_at : ∀ t, RTextAt t := by
  refine Tm.induct fun k n s A c l ih => ?_
  intro w hat hf hz
  have hft := hf
  simp only [Tm.form] at hf
  by_cases hk0 : k = 0
  · subst hk0
    simp only [if_true, Bool.and_eq_true, decide_eq_true_eq] at hf
    rw [show (Tm.mk 0 n s A c l).txt plain = Lib.itoa n by simp [Tm.txt]]
    exact rwrite_int n s A c l hf.1 hf.2.1 w
  by_cases hk1 : k = 1
  · subst hk1
    simp only [if_true, show ¬ ((1 : Int) = 0) by omega, if_false, Bool.and_eq_true, decide_eq_true_eq] at hf
    obtain ⟨m, rfl⟩ : ∃ m : Nat, n = (m : Int) := ⟨n.toNat, by omega⟩
    rw [show (Tm.mk 1 (m : Int) s A c l).txt plain = label m by simp [Tm.txt]]
    exact rwrite_var m s A c l (by omega) w
  by_cases hk2 : k = 2
  · subst hk2
    simp only [show ¬ ((2 : Int) = 0) by omega, show ¬ ((2 : Int) = 1) by omega, if_false, if_true, Bool.and_eq_true, Bool.or_eq_true, decide_eq_true_eq] at hf
    obtain ⟨_, hs, hfl⟩ := hf
    simp only [Tm.size, if_true] at hz
    by_cases ho : opB s.data.toList = true
    · have ha2 : l.length = 2 := by
        rcases hs with hs | hs
        · exact hs.2
        · rw [(op_right ho).1] at hs; cases hs.1
      obtain ⟨x, y, rfl⟩ : ∃ x y, l = [x, y] := by
        match l, ha2 with
        | [x, y], _ => exact ⟨x, y, rfl⟩
      obtain ⟨o, hso, _⟩ := op_byte ho
      obtain rfl : s = ⟨#[o]⟩ := by
        apply WideShapes.bytes_inj
        rw [hso]
      simp only [formL, Bool.and_eq_true] at hfl
      simp only [sizeL] at hz
      exact rwrite_op n o A c x y (ih _ (by simp)) (ih _ (by simp)) ho w hat hft hfl.1 hfl.2.1 (by omega)
    · have hn : opB s.data.toList = false := by simpa using ho
      have hr : rightB s.data.toList = true ∧ l.length ≤ 6 := by
        rcases hs with hs | hs
        · rw [hn] at hs; cases hs.1
        · exact hs
      have := right_len hr.1
      rw [len_str] at this
      exact rwrite_call n s A c l ih hn w hat hfl (by omega) (by omega) (by omega)
  · simp [hk0, hk1, hk2] at hf
end Go.Proofs.YtlpibnbabgfiiaaGreatDoor
