/-
  The contract of the program's text.
-/
import Derived.Test.YtlpibnbabgfiiaaGreatDoorTtText
import Derived.BigRegion
namespace Go.Proofs.YtlpibnbabgfiiaaGreatDoor
open Go.RowKit

theorem boxR {w : World} {v0 v1 v2 v3 : Value} {T : TypeId} : ∀ o, ((w.alloc (.cells #[v0, v1, v2, v3] T)).alloc o).cell? ⟨w.heap.size, 0, none⟩ = some v0 ∧ ((w.alloc (.cells #[v0, v1, v2, v3] T)).alloc o).cell? ⟨w.heap.size, 1, none⟩ = some v1 ∧ ((w.alloc (.cells #[v0, v1, v2, v3] T)).alloc o).cell? ⟨w.heap.size, 2, none⟩ = some v2 ∧ ((w.alloc (.cells #[v0, v1, v2, v3] T)).alloc o).cell? ⟨w.heap.size, 3, none⟩ = some v3 := by
  intro o
  have hb := below1 (w.alloc (.cells #[v0, v1, v2, v3] T)) o
  obtain ⟨h0, h1, h2, h3, _⟩ := box4 hb
  exact ⟨h0, h1, h2, h3⟩
theorem alloc_keep {w : World} {p : Addr} {v : Value} (h : w.cell? p = some v) : ∀ o, (w.alloc o).cell? p = some v := fun o => by
  rw [(below1 w o).cell (World.block_lt_of_cell? w _ h)]; exact h

theorem three (w : World) (c1 c2 c3 : Array Value) (T : TypeId) :
    (∀ j v, c1[j]? = some v → ((((w.alloc (.cells c1 T)).alloc (.cells c2 T)).alloc (.cells c3 T)).drew).cell? ⟨w.heap.size, j, none⟩ = some v) ∧
    (∀ j v, c2[j]? = some v → ((((w.alloc (.cells c1 T)).alloc (.cells c2 T)).alloc (.cells c3 T)).drew).cell? ⟨w.heap.size + 1, j, none⟩ = some v) ∧
    (∀ j v, c3[j]? = some v → ((((w.alloc (.cells c1 T)).alloc (.cells c2 T)).alloc (.cells c3 T)).drew).cell? ⟨w.heap.size + 1 + 1, j, none⟩ = some v) ∧
    Below w.heap.size w (((w.alloc (.cells c1 T)).alloc (.cells c2 T)).alloc (.cells c3 T)).drew := by
  refine ⟨fun j v h => ?_, fun j v h => ?_, fun j v h => ?_, ((((Below.refl _ _).alloc (Nat.le_refl _) _).alloc (by simp) _).alloc (by simp; omega) _).drew⟩
  · exact alloc_keep (alloc_keep (by rw [World.cell?_alloc_at _ _ _ _ rfl, h]) _) _
  · exact alloc_keep (by rw [World.cell?_alloc_at _ _ _ _ (by simp), h]) _
  · show World.cell? _ _ = _
    exact (World.cell?_alloc_at _ _ _ _ (by simp)).trans h

set_option maxHeartbeats 4000000 in
set_option maxRecDepth 10000 in
theorem text_op (n : Int) (o : UInt8) (A : Option Addr) (c : Nat) (x y : Tm) (hx : TextAt x) (hy : TextAt y) (hop : opB [o] = true) (w : World) (hat : (Tm.mk 2 n ⟨#[o]⟩ A c [x, y]).At w) (hfx : x.form = true) (hfy : y.form = true) (hz : x.size + y.size ≤ 1000000) (hL : Laid w) :
    Calls Tryz.prog 33 #[(Tm.mk 2 n ⟨#[o]⟩ A c [x, y]).val] w fun e w' => e = .returned (.string (S ((Tm.mk 2 n ⟨#[o]⟩ A c [x, y]).txt plain))) ∧ Below w.heap.size w w' := by
  have HV := Lib.hid (show (Tm.mk 2 n ⟨#[o]⟩ A c [x, y]).txt plain = opT [o] (paren plain (decide (x.pw < ostr [o])) (x.txt plain)) (paren plain (decide (y.pw ≤ ostr [o])) (y.txt plain)) by
    simp only [Tm.txt, show ¬ ((2 : Int) = 0) by omega, show ¬ ((2 : Int) = 1) by omega, if_false, txtL]
    rw [if_pos (by simpa using hop)]
    rfl)
  obtain ⟨b, q, rfl, hrow⟩ := hat.lst.2.2 (by simp [Tm.args])
  obtain ⟨⟨x0, x1, x2, x3⟩, hxa, ⟨y0, y1, y2, y3⟩, hya, -⟩ := hrow
  have b1 := paren_len slim_plain (decide (x.pw < ostr [o])) (x.txt plain)
  have b2 := paren_len slim_plain (decide (y.pw ≤ ostr [o])) (y.txt plain)
  have b3 := txt_bound hfx (by omega)
  have b4 := txt_bound hfy (by omega)
  have Q1 := Lib.hid (fun W (h : Below w.heap.size w W) => op_at ⟨#[o]⟩ W (r := true) hop)
  have Q2 := Lib.hid (fun W => ostr_at ⟨#[o]⟩ W (n := ostr [o]) rfl)
  have Q3 := Lib.hid (fun W (h : Below w.heap.size w W) => toperand_at x hx (decide (x.pw < ostr [o])) W (hxa.below h) hfx (by omega) (hL.below h))
  have Q4 := Lib.hid (fun W (h : Below w.heap.size w W) => toperand_at y hy (decide (y.pw ≤ ostr [o])) W (hya.below h) hfy (by omega) (hL.below h))
  have Q5 := Lib.hid (fun W => strength_at x W)
  have Q6 := Lib.hid (fun W => strength_at y W)
  obtain ⟨X, hX⟩ : ∃ X, paren plain (decide (x.pw < ostr [o])) (x.txt plain) = X := ⟨_, rfl⟩
  obtain ⟨Y, hY⟩ : ∃ Y, paren plain (decide (y.pw ≤ ostr [o])) (y.txt plain) = Y := ⟨_, rfl⟩
  rw [hX] at b1 Q3 HV
  rw [hY] at b2 Q4 HV
  have Q7 := Lib.hid (fun W => between_at X [o] Y W (by omega) (by simp) (by omega))
  clear hX hY b1 b2 b3 b4 hx hy hxa hya hat hfx hfy hz hL hop
  obtain ⟨px, hpx⟩ : ∃ p, x.pw = p := ⟨_, rfl⟩
  obtain ⟨py, hpy⟩ : ∃ p, y.pw = p := ⟨_, rfl⟩
  obtain ⟨po, hpo⟩ : ∃ p, ostr [o] = p := ⟨_, rfl⟩
  rw [hpx] at Q5 Q3
  rw [hpy] at Q6 Q4
  rw [hpo] at Q2 Q3 Q4
  clear hpx hpy hpo
  obtain ⟨k1, n1, s1, A1, p1, a1⟩ := x
  obtain ⟨k2, n2, s2, A2, p2, a2⟩ := y
  simp only [Tm.kind, Tm.num, Tm.name, Tm.at_, Tm.args, Tm.cap] at x0 x1 x2 x3 y0 y1 y2 y3
  have Q5 := Lib.hid (show ∀ W, Calls Tryz.prog 64 #[.agg #[.int .i64 k1, .int .i64 n1, .string s1, .slice A1 a1.length p1]] W fun e w' => e = .returned (.int .i64 (px : Int)) ∧ Below W.heap.size W w' from Q5.out)
  have Q6 := Lib.hid (show ∀ W, Calls Tryz.prog 64 #[.agg #[.int .i64 k2, .int .i64 n2, .string s2, .slice A2 a2.length p2]] W fun e w' => e = .returned (.int .i64 (py : Int)) ∧ Below W.heap.size W w' from Q6.out)
  have Q3 := Lib.hid (show ∀ W, Below w.heap.size w W → Calls Tryz.prog 63 #[.agg #[.int .i64 k1, .int .i64 n1, .string s1, .slice A1 a1.length p1], .bool (decide (px < po))] W fun e w' => e = .returned (.string (S X)) ∧ Below W.heap.size W w' from Q3.out)
  have Q4 := Lib.hid (show ∀ W, Below w.heap.size w W → Calls Tryz.prog 63 #[.agg #[.int .i64 k2, .int .i64 n2, .string s2, .slice A2 a2.length p2], .bool (decide (py ≤ po))] W fun e w' => e = .returned (.string (S Y)) ∧ Below W.heap.size W w' from Q4.out)
  have kx0 := alloc_keep x0
  have kx1 := alloc_keep x1
  have kx2 := alloc_keep x2
  have kx3 := alloc_keep x3
  have ky0 := alloc_keep y0
  have ky1 := alloc_keep y1
  have ky2 := alloc_keep y2
  have ky3 := alloc_keep y3
  show Calls Tryz.prog 33 #[.agg #[.int .i64 2, .int .i64 n, .string ⟨#[o]⟩, .slice (some ⟨b, q, none⟩) 2 c]] w _
  go_enter Tryz.func33, Tryz.ntmps33
  go_wp2_with fail
  refine (Q1.out _ ((Below.refl _ _).alloc (Nat.le_refl _) _)).mono ?_
  rintro e w' ⟨rfl, rfl⟩
  go_wp2_with fail
  refine (Q2.out _).mono ?_
  rintro e w' ⟨rfl, rfl⟩
  go_wp2_with fail
  have lx0 := fun o => alloc_keep (kx0 o)
  have mx0 := fun o o2 => alloc_keep (lx0 o o2)
  have lx1 := fun o => alloc_keep (kx1 o)
  have mx1 := fun o o2 => alloc_keep (lx1 o o2)
  have lx2 := fun o => alloc_keep (kx2 o)
  have mx2 := fun o o2 => alloc_keep (lx2 o o2)
  have lx3 := fun o => alloc_keep (kx3 o)
  have mx3 := fun o o2 => alloc_keep (lx3 o o2)
  have ly0 := fun o => alloc_keep (ky0 o)
  have my0 := fun o o2 => alloc_keep (ly0 o o2)
  have ly1 := fun o => alloc_keep (ky1 o)
  have my1 := fun o o2 => alloc_keep (ly1 o o2)
  have ly2 := fun o => alloc_keep (ky2 o)
  have my2 := fun o o2 => alloc_keep (ly2 o o2)
  have ly3 := fun o => alloc_keep (ky3 o)
  have my3 := fun o o2 => alloc_keep (ly3 o o2)
  go_region
  · obtain ⟨u1, u2, u3, hbel⟩ := three w #[.int .i64 2, .int .i64 n, .string ⟨#[o]⟩, .slice (some ⟨b, q, none⟩) 2 c] #[.int .i64 k1, .int .i64 n1, .string s1, .slice A1 a1.length p1] #[.int .i64 k2, .int .i64 n2, .string s2, .slice A2 a2.length p2] 24
    have kt := cell_regrown (u1 2 _ rfl)
    have kx0' := cell_regrown (u2 0 _ rfl)
    have ky0' := cell_regrown (u3 0 _ rfl)
    have kx1' := cell_regrown (u2 1 _ rfl)
    have ky1' := cell_regrown (u3 1 _ rfl)
    have kx2' := cell_regrown (u2 2 _ rfl)
    have ky2' := cell_regrown (u3 2 _ rfl)
    have kx3' := cell_regrown (u2 3 _ rfl)
    have ky3' := cell_regrown (u3 3 _ rfl)
    have HBel := Lib.hid hbel
    clear u1 u2 u3 hbel
    go_wp2_with fail
    refine wp_region_quiet_below (by kernel_rfl) (by kernel_rfl) ?_
    repeat (go_big_quiet_step (first | (go_at_call 64; first | (with_reducible exact Calls.regrown_of (Q5.out _)) | (with_reducible exact Calls.regrown_of (Q6.out _))) | (go_at_call 63; first | (with_reducible exact Calls.regrown_of (Q3.out _ (HBel.out.trans ((below_regrown _ _ _).mono HBel.out.size)))) | (with_reducible exact Calls.regrown_of (Q4.out _ (HBel.out.trans ((below_regrown _ _ _).mono HBel.out.size))))) | (go_at_call 37; exact Calls.regrown_of (withBelow (Q7.out _)))))
    refine wpQuiet_nil ?_
    intro w9 hw'
    have hb9 := HBel.out.trans ((regrown_below hw').mono HBel.out.size)
    go_wp2_with fail
    go_ret
    exact ⟨ret_str (by rw [HV.out]), hb9⟩
  · obtain ⟨u1, u2, u3, hbel⟩ := three w #[.int .i64 2, .int .i64 n, .string ⟨#[o]⟩, .slice (some ⟨b, q, none⟩) 2 c] #[.int .i64 k2, .int .i64 n2, .string s2, .slice A2 a2.length p2] #[.int .i64 k1, .int .i64 n1, .string s1, .slice A1 a1.length p1] 24
    have kt := cell_regrown (u1 2 _ rfl)
    have kx0' := cell_regrown (u3 0 _ rfl)
    have ky0' := cell_regrown (u2 0 _ rfl)
    have kx1' := cell_regrown (u3 1 _ rfl)
    have ky1' := cell_regrown (u2 1 _ rfl)
    have kx2' := cell_regrown (u3 2 _ rfl)
    have ky2' := cell_regrown (u2 2 _ rfl)
    have kx3' := cell_regrown (u3 3 _ rfl)
    have ky3' := cell_regrown (u2 3 _ rfl)
    have HBel := Lib.hid hbel
    clear u1 u2 u3 hbel
    go_wp2_with fail
    refine wp_region_quiet_below (by kernel_rfl) (by kernel_rfl) ?_
    repeat (go_big_quiet_step (first | (go_at_call 64; first | (with_reducible exact Calls.regrown_of (Q5.out _)) | (with_reducible exact Calls.regrown_of (Q6.out _))) | (go_at_call 63; first | (with_reducible exact Calls.regrown_of (Q3.out _ (HBel.out.trans ((below_regrown _ _ _).mono HBel.out.size)))) | (with_reducible exact Calls.regrown_of (Q4.out _ (HBel.out.trans ((below_regrown _ _ _).mono HBel.out.size))))) | (go_at_call 37; exact Calls.regrown_of (withBelow (Q7.out _)))))
    refine wpQuiet_nil ?_
    intro w9 hw'
    have hb9 := HBel.out.trans ((regrown_below hw').mono HBel.out.size)
    go_wp2_with fail
    go_ret
    exact ⟨ret_str (by rw [HV.out]), hb9⟩

set_option maxHeartbeats 2000000 in
set_option maxRecDepth 10000 in
theorem text_call (n : Int) (s : ByteArray) (A : Option Addr) (c : Nat) (l : List Tm) (ih : ∀ x ∈ l, TextAt x) (hop : opB s.data.toList = false) (w : World) (hat : (Tm.mk 2 n s A c l).At w) (hf : formL l = true) (hz : sizeL l ≤ 1000000) (hs : s.size ≤ 1000000) (hlen : l.length ≤ 1000000) (hL : Laid w) :
    Calls Tryz.prog 33 #[(Tm.mk 2 n s A c l).val] w fun e w' => e = .returned (.string (S ((Tm.mk 2 n s A c l).txt plain))) ∧ Below w.heap.size w w' := by
  have HV := Lib.hid (show (Tm.mk 2 n s A c l).txt plain = callT plain s.data.toList (txtL plain l) by
    simp only [Tm.txt, show ¬ ((2 : Int) = 0) by omega, show ¬ ((2 : Int) = 1) by omega, if_false]
    rw [if_neg (by rw [hop]; simp)])
  have Q1 := Lib.hid (fun W (h : Below w.heap.size w W) => op_at s W (r := false) hop)
  have Q2 := Lib.hid (fun W (h : Below w.heap.size w W) => tcall_at s l ih A c W (hat.lst.below h) hf hz hs hlen (hL.below h))
  clear ih hop hat hf hz hs hlen hL
  show Calls Tryz.prog 33 #[.agg #[.int .i64 2, .int .i64 n, .string s, .slice A l.length c]] w _
  go_enter Tryz.func33, Tryz.ntmps33
  go_wp2_with fail
  refine (Q1.out _ ((Below.refl _ _).alloc (Nat.le_refl _) _)).mono ?_
  rintro e w' ⟨rfl, rfl⟩
  go_wp2_with fail
  refine (Q2.out _ ((Below.refl _ _).alloc (Nat.le_refl _) _)).mono ?_
  rintro e w1 ⟨rfl, hb⟩
  have HB := Lib.hid (((Below.refl w.heap.size w).alloc (Nat.le_refl _) (.cells #[.int .i64 2, .int .i64 n, .string s, .slice A l.length c] 24)).trans (hb.mono (by simp)))
  clear hb
  go_wp2_with fail
  go_ret
  exact ⟨ret_str (by rw [HV.out]), HB.out⟩

set_option maxHeartbeats 2000000 in
theorem text_int (n : Int) (s : ByteArray) (A : Option Addr) (c : Nat) (l : List Tm) (h1 : -2147483648 ≤ n) (h2 : n ≤ 2147483648) (w : World) (hL : Laid w) :
    Calls Tryz.prog 33 #[(Tm.mk 0 n s A c l).val] w fun e w' => e = .returned (.string (S (Lib.itoa n))) ∧ Below w.heap.size w w' := by
  have Q := Lib.hid (fun W (h : Below w.heap.size w W) => itoa_any n W h1 h2 (hL.below h))
  clear h1 h2 hL
  show Calls Tryz.prog 33 #[.agg #[.int .i64 0, .int .i64 n, .string s, .slice A l.length c]] w _
  go_enter Tryz.func33, Tryz.ntmps33
  go_wp2_with fail
  refine (Q.out _ ((Below.refl _ _).alloc (Nat.le_refl _) _)).mono ?_
  rintro e w1 ⟨rfl, hb⟩
  have HB := Lib.hid (((Below.refl w.heap.size w).alloc (Nat.le_refl _) (.cells #[.int .i64 0, .int .i64 n, .string s, .slice A l.length c] 24)).trans (hb.mono (by simp)))
  clear hb
  go_wp2_with fail
  go_ret
  exact ⟨rfl, HB.out⟩
set_option maxHeartbeats 2000000 in
theorem text_var (n : Nat) (s : ByteArray) (A : Option Addr) (c : Nat) (l : List Tm) (h1 : n ≤ 1048576) (w : World) (hL : Laid w) :
    Calls Tryz.prog 33 #[(Tm.mk 1 n s A c l).val] w fun e w' => e = .returned (.string (S (label n))) ∧ Below w.heap.size w w' := by
  have Q := Lib.hid (fun W (h : Below w.heap.size w W) => label_in n W h1 (hL.below h))
  clear h1 hL
  show Calls Tryz.prog 33 #[.agg #[.int .i64 1, .int .i64 n, .string s, .slice A l.length c]] w _
  go_enter Tryz.func33, Tryz.ntmps33
  go_wp2_with fail
  refine (Q.out _ ((Below.refl _ _).alloc (Nat.le_refl _) _)).mono ?_
  rintro e w1 ⟨rfl, hb⟩
  have HB := Lib.hid (((Below.refl w.heap.size w).alloc (Nat.le_refl _) (.cells #[.int .i64 1, .int .i64 n, .string s, .slice A l.length c] 24)).trans (hb.mono (by simp)))
  clear hb
  go_wp2_with fail
  go_ret
  exact ⟨rfl, HB.out⟩

theorem text_at : ∀ t, TextAt t := by
  refine Tm.induct fun k n s A c l ih => ?_
  intro w hat hf hz hL
  simp only [Tm.form] at hf
  by_cases hk0 : k = 0
  · subst hk0
    simp only [if_true, Bool.and_eq_true, decide_eq_true_eq] at hf
    rw [show (Tm.mk 0 n s A c l).txt plain = Lib.itoa n by simp [Tm.txt]]
    exact text_int n s A c l hf.1 hf.2.1 w hL
  by_cases hk1 : k = 1
  · subst hk1
    simp only [if_true, show ¬ ((1 : Int) = 0) by omega, if_false, Bool.and_eq_true, decide_eq_true_eq] at hf
    obtain ⟨m, rfl⟩ : ∃ m : Nat, n = (m : Int) := ⟨n.toNat, by omega⟩
    rw [show (Tm.mk 1 (m : Int) s A c l).txt plain = label m by simp [Tm.txt]]
    exact text_var m s A c l (by omega) w hL
  by_cases hk2 : k = 2
  · subst hk2
    simp only [show ¬ ((2 : Int) = 0) by omega, show ¬ ((2 : Int) = 1) by omega, if_false, if_true, Bool.and_eq_true, Bool.or_eq_true, decide_eq_true_eq] at hf
    obtain ⟨_, hs, hfl⟩ := hf
    simp only [Tm.size, if_true] at hz
    by_cases ho : opB s.data.toList = true
    · have ha2 : l.length = 2 := by
        rcases hs with hs | hs
        · exact hs.2
        · rw [(op_right ho).1] at hs; cases hs.1
      obtain ⟨x, y, rfl⟩ : ∃ x y, l = [x, y] := by
        match l, ha2 with
        | [x, y], _ => exact ⟨x, y, rfl⟩
      obtain ⟨o, hso, _⟩ := op_byte ho
      obtain rfl : s = ⟨#[o]⟩ := by
        apply WideShapes.bytes_inj
        rw [hso]
      simp only [formL, Bool.and_eq_true] at hfl
      simp only [sizeL] at hz
      exact text_op n o A c x y (ih _ (by simp)) (ih _ (by simp)) ho w hat hfl.1 hfl.2.1 (by omega) hL
    · have hn : opB s.data.toList = false := by simpa using ho
      have hr : rightB s.data.toList = true ∧ l.length ≤ 6 := by
        rcases hs with hs | hs
        · rw [hn] at hs; cases hs.1
        · exact hs
      have := right_len hr.1
      rw [len_str] at this
      exact text_call n s A c l ih hn w hat hfl (by omega) (by omega) (by omega) hL
  · simp [hk0, hk1, hk2] at hf
end Go.Proofs.YtlpibnbabgfiiaaGreatDoor
