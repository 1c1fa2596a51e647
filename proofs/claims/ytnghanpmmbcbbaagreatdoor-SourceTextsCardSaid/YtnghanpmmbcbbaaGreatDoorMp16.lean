/-
  TrWrite.
  TtGoal.
  TrGoal.
-/
import Derived.Test.YtnghanpmmbcbbaaGreatDoorMp15
import Derived.BigRegion
import Derived.Test.YtnghanpmmbcbbaaGreatDoorMp4
namespace Go.Proofs.YtnghanpmmbcbbaaGreatDoor
open Go.RowKit
theorem rw_len (x y : List UInt8) (hx : x.length ≤ 1000000000) (hy : y.length ≤ 1000000000) :
    ¬ 9223372036854775807 < x.length + 1 ∧ ¬ 9223372036854775807 < x.length + 1 + 1 ∧ ¬ 9223372036854775807 < x.length + 1 + 1 + 1 ∧ ¬ 9223372036854775807 < x.length + 1 + 1 + 1 + y.length := by omega
set_option maxHeartbeats 4000000 in
set_option maxRecDepth 10000 in
theorem rwrite_op (n : Int) (o : UInt8) (A : Option Addr) (c : Nat) (x y : Tm) (hx : RTextAt x) (hy : RTextAt y) (hop : opB [o] = true) (w : World) (hat : (Tm.mk 2 n ⟨#[o]⟩ A c [x, y]).At w) (hft : (Tm.mk 2 n ⟨#[o]⟩ A c [x, y]).form = true) (hfx : x.form = true) (hfy : y.form = true) (hz : x.size + y.size ≤ 1000000) :
    Calls Tryz.prog 120 #[(Tm.mk 2 n ⟨#[o]⟩ A c [x, y]).val] w fun e w' => e = .returned (.string (S ((Tm.mk 2 n ⟨#[o]⟩ A c [x, y]).txt plain))) ∧ Below w.heap.size w w' := by
  have HV := Lib.hid (show (Tm.mk 2 n ⟨#[o]⟩ A c [x, y]).txt plain = topT [o] (paren plain (decide (x.pw < ostr [o])) (x.txt plain)) (paren plain (decide (y.pw ≤ ostr [o])) (y.txt plain)) by
    simp only [Tm.txt, show ¬ ((2 : Int) = 0) by omega, show ¬ ((2 : Int) = 1) by omega, if_false, txtL]
    rw [if_pos (by simpa using hop)]
    rfl)
  obtain ⟨b, q, rfl, hrow⟩ := hat.lst.2.2 (by simp [Tm.args])
  obtain ⟨⟨x0, x1, x2, x3⟩, hxa, ⟨y0, y1, y2, y3⟩, hya, -⟩ := hrow
  have b1 := paren_len slim_plain (decide (x.pw < ostr [o])) (x.txt plain)
  have b2 := paren_len slim_plain (decide (y.pw ≤ ostr [o])) (y.txt plain)
  have b3 := txt_bound hfx (by omega)
  have b4 := txt_bound hfy (by omega)
  have hop' : ostr [o] < 2 := (ostr_op _).1 hop
  have Q0 := Lib.hid (fun W => rstrength_at _ hft W)
  obtain ⟨p, hp⟩ : ∃ p : Nat, ostr [o] = p := ⟨_, rfl⟩
  have hpw : (Tm.mk 2 n ⟨#[o]⟩ (some ⟨b, q, none⟩) c [x, y]).pw = p := hp
  rw [hpw] at Q0
  rw [hp] at HV b1 b2 hop'
  have Q3 := Lib.hid (fun W (h : Below w.heap.size w W) => roperand_at x hx ((p : Int) + 1) 0 (decide (x.pw < p)) (by rw [decide_eq_decide]; omega) (by omega) (by omega) (by omega) (by omega) W (hxa.below h) hfx (by omega))
  have Q4 := Lib.hid (fun W (h : Below w.heap.size w W) => roperand_at y hy ((p : Int) + 1) 1 (decide (y.pw ≤ p)) (by rw [decide_eq_decide]; omega) (by omega) (by omega) (by omega) (by omega) W (hya.below h) hfy (by omega))
  obtain ⟨X, hX⟩ : ∃ X, paren plain (decide (x.pw < p)) (x.txt plain) = X := ⟨_, rfl⟩
  obtain ⟨Y, hY⟩ : ∃ Y, paren plain (decide (y.pw ≤ p)) (y.txt plain) = Y := ⟨_, rfl⟩
  rw [hX] at b1 Q3 HV
  rw [hY] at b2 Q4 HV
  obtain ⟨l1, l2, l3, l4⟩ := rw_len X Y (by omega) (by omega)
  obtain ⟨P, hP⟩ : ∃ P : Int, (p : Int) + 1 = P := ⟨_, rfl⟩
  have hP3 : P < 3 := by omega
  have hP1 : 0 ≤ P := by omega
  rw [hP] at Q0 Q3 Q4
  clear hX hY b1 b2 b3 b4 hx hy hxa hya hat hft hfx hfy hz hop hop' hp hpw hP
  obtain ⟨k1, n1, s1, A1, p1, a1⟩ := x
  obtain ⟨k2, n2, s2, A2, p2, a2⟩ := y
  simp only [Tm.kind, Tm.num, Tm.name, Tm.at_, Tm.args, Tm.cap] at x0 x1 x2 x3 y0 y1 y2 y3
  have Q0 := Lib.hid (show ∀ W, Calls Tryz.prog 157 #[.agg #[.int .i64 2, .int .i64 n, .string ⟨#[o]⟩, .slice (some ⟨b, q, none⟩) 2 c]] W fun e w' => e = .returned (.int .i64 P) ∧ Below W.heap.size W w' from Q0.out)
  have Q3 := Lib.hid (show ∀ W, Below w.heap.size w W → Calls Tryz.prog 158 #[.agg #[.int .i64 k1, .int .i64 n1, .string s1, .slice A1 a1.length p1], .int .i64 P, .int .i64 0] W fun e w' => e = .returned (.string (S X)) ∧ Below W.heap.size W w' from Q3.out)
  have Q4 := Lib.hid (show ∀ W, Below w.heap.size w W → Calls Tryz.prog 158 #[.agg #[.int .i64 k2, .int .i64 n2, .string s2, .slice A2 a2.length p2], .int .i64 P, .int .i64 1] W fun e w' => e = .returned (.string (S Y)) ∧ Below W.heap.size W w' from Q4.out)
  show Calls Tryz.prog 120 #[.agg #[.int .i64 2, .int .i64 n, .string ⟨#[o]⟩, .slice (some ⟨b, q, none⟩) 2 c]] w _
  go_enter Tryz.func120, Tryz.ntmps120
  go_wp2_with fail
  refine (Q0.out _).mono ?_
  rintro e w1 ⟨rfl, hb1⟩
  have HBel := Lib.hid (((Below.refl w.heap.size w).alloc (Nat.le_refl _) (.cells #[.int .i64 2, .int .i64 n, .string ⟨#[o]⟩, .slice (some ⟨b, q, none⟩) 2 c] 69)).trans (hb1.mono (by simp)))
  obtain ⟨t0, t1, t2, t3, _⟩ := box4 hb1
  clear hb1
  have t0' := cell_regrown t0
  have t1' := cell_regrown t1
  have t2' := cell_regrown t2
  have t3' := cell_regrown t3
  have cx : ∀ {p : Addr} {v : Value}, w.cell? p = some v → w1.cell? p = some v := fun h => by
    rw [HBel.out.cell (World.block_lt_of_cell? w _ h)]; exact h
  have kx0 := cell_regrown (cx x0)
  have kx1 := cell_regrown (cx x1)
  have kx2 := cell_regrown (cx x2)
  have kx3 := cell_regrown (cx x3)
  have ky0 := cell_regrown (cx y0)
  have ky1 := cell_regrown (cx y1)
  have ky2 := cell_regrown (cx y2)
  have ky3 := cell_regrown (cx y3)
  clear cx
  go_wp2_with fail
  refine wp_region_quiet_below (by kernel_rfl) (by kernel_rfl) ?_
  repeat (go_big_quiet_step (first | (go_at_call 157; (with_reducible exact Calls.regrown_of (Q0.out _))) | (go_at_call 158; first | (with_reducible exact Calls.regrown_of (Q3.out _ (HBel.out.trans ((below_regrown _ _ _).mono HBel.out.size)))) | (with_reducible exact Calls.regrown_of (Q4.out _ (HBel.out.trans ((below_regrown _ _ _).mono HBel.out.size)))))))
  refine wpQuiet_nil ?_
  intro w9 hw'
  have hb9 := HBel.out.trans ((regrown_below hw').mono HBel.out.size)
  go_wp2_with fail
  go_ret
  refine ⟨ret_str ?_, hb9⟩
  apply WideShapes.bytes_inj
  rw [show (S ((Tm.mk 2 n ⟨#[o]⟩ (some ⟨b, q, none⟩) c [Tm.mk k1 n1 s1 A1 p1 a1, Tm.mk k2 n2 s2 A2 p2 a2]).txt plain)).data.toList = (Tm.mk 2 n ⟨#[o]⟩ (some ⟨b, q, none⟩) c [Tm.mk k1 n1 s1 A1 p1 a1, Tm.mk k2 n2 s2 A2 p2 a2]).txt plain from rfl, HV.out]
  simp [topT]
set_option maxHeartbeats 2000000 in
theorem rwrite_call (n : Int) (s : ByteArray) (A : Option Addr) (c : Nat) (l : List Tm) (ih : ∀ x ∈ l, RTextAt x) (hop : opB s.data.toList = false) (w : World) (hat : (Tm.mk 2 n s A c l).At w) (hf : formL l = true) (hz : sizeL l ≤ 1000000) (hs : s.size ≤ 1000000) (hlen : l.length ≤ 1000000) :
    Calls Tryz.prog 120 #[(Tm.mk 2 n s A c l).val] w fun e w' => e = .returned (.string (S ((Tm.mk 2 n s A c l).txt plain))) ∧ Below w.heap.size w w' := by
  have HV := Lib.hid (show (Tm.mk 2 n s A c l).txt plain = callT plain s.data.toList (txtL plain l) by
    simp only [Tm.txt, show ¬ ((2 : Int) = 0) by omega, show ¬ ((2 : Int) = 1) by omega, if_false]
    rw [if_neg (by rw [hop]; simp)])
  have Q1 := Lib.hid (fun W => rstrength_no n s (.slice A l.length c) W hop)
  have Q2 := Lib.hid (fun W (h : Below w.heap.size w W) => rcall_at s l ih A c W (hat.lst.below h) hf hz hs hlen)
  clear ih hop hat hf hz hs hlen
  show Calls Tryz.prog 120 #[.agg #[.int .i64 2, .int .i64 n, .string s, .slice A l.length c]] w _
  go_enter Tryz.func120, Tryz.ntmps120
  go_wp2_with fail
  refine (Q1.out _).mono ?_
  rintro e w1 ⟨rfl, hb1⟩
  have hb1' := ((Below.refl w.heap.size w).alloc (Nat.le_refl _) (.cells #[.int .i64 2, .int .i64 n, .string s, .slice A l.length c] 69)).trans (hb1.mono (by simp))
  obtain ⟨t0, t1, t2, t3, _⟩ := box4 hb1
  clear hb1
  go_wp2_with fail
  refine (Q2.out _ hb1').mono ?_
  rintro e w2 ⟨rfl, hb⟩
  have HB := Lib.hid (hb1'.trans (hb.mono hb1'.size))
  clear hb hb1'
  go_wp2_with fail
  go_ret
  exact ⟨ret_str (by rw [HV.out]), HB.out⟩
set_option maxHeartbeats 2000000 in
theorem rwrite_int (n : Int) (s : ByteArray) (A : Option Addr) (c : Nat) (l : List Tm) (h1 : -2147483648 ≤ n) (h2 : n ≤ 2147483648) (w : World) :
    Calls Tryz.prog 120 #[(Tm.mk 0 n s A c l).val] w fun e w' => e = .returned (.string (S (Lib.itoa n))) ∧ Below w.heap.size w w' := by
  have Q := Lib.hid (fun W => ref_dec n W h1 h2)
  clear h1 h2
  show Calls Tryz.prog 120 #[.agg #[.int .i64 0, .int .i64 n, .string s, .slice A l.length c]] w _
  go_enter Tryz.func120, Tryz.ntmps120
  go_wp2_with fail
  refine (Q.out _).mono ?_
  rintro e w1 ⟨rfl, hb⟩
  have HB := Lib.hid (((Below.refl w.heap.size w).alloc (Nat.le_refl _) (.cells #[.int .i64 0, .int .i64 n, .string s, .slice A l.length c] 69)).trans (hb.mono (by simp)))
  clear hb
  go_wp2_with fail
  go_ret
  exact ⟨rfl, HB.out⟩
set_option maxHeartbeats 2000000 in
theorem rwrite_var (n : Nat) (s : ByteArray) (A : Option Addr) (c : Nat) (l : List Tm) (h1 : n ≤ 1048576) (w : World) :
    Calls Tryz.prog 120 #[(Tm.mk 1 n s A c l).val] w fun e w' => e = .returned (.string (S (label n))) ∧ Below w.heap.size w w' := by
  have Q := Lib.hid (fun W => ref_label_in n W h1)
  clear h1
  show Calls Tryz.prog 120 #[.agg #[.int .i64 1, .int .i64 n, .string s, .slice A l.length c]] w _
  go_enter Tryz.func120, Tryz.ntmps120
  go_wp2_with fail
  refine (Q.out _).mono ?_
  rintro e w1 ⟨rfl, hb⟩
  have HB := Lib.hid (((Below.refl w.heap.size w).alloc (Nat.le_refl _) (.cells #[.int .i64 1, .int .i64 n, .string s, .slice A l.length c] 69)).trans (hb.mono (by simp)))
  clear hb
  go_wp2_with fail
  go_ret
  exact ⟨rfl, HB.out⟩
theorem rwrite_at : ∀ t, RTextAt t := by
  refine Tm.induct fun k n s A c l ih => ?_
  intro w hat hf hz
  have hft := hf
  simp only [Tm.form] at hf
  by_cases hk0 : k = 0
  · subst hk0
    simp only [if_true, Bool.and_eq_true, decide_eq_true_eq] at hf
    rw [show (Tm.mk 0 n s A c l).txt plain = Lib.itoa n by simp [Tm.txt]]
    exact rwrite_int n s A c l hf.1 hf.2.1 w
  by_cases hk1 : k = 1
  · subst hk1
    simp only [if_true, show ¬ ((1 : Int) = 0) by omega, if_false, Bool.and_eq_true, decide_eq_true_eq] at hf
    obtain ⟨m, rfl⟩ : ∃ m : Nat, n = (m : Int) := ⟨n.toNat, by omega⟩
    rw [show (Tm.mk 1 (m : Int) s A c l).txt plain = label m by simp [Tm.txt]]
    exact rwrite_var m s A c l (by omega) w
  by_cases hk2 : k = 2
  · subst hk2
    simp only [show ¬ ((2 : Int) = 0) by omega, show ¬ ((2 : Int) = 1) by omega, if_false, if_true, Bool.and_eq_true, Bool.or_eq_true, decide_eq_true_eq] at hf
    obtain ⟨_, hs, hfl⟩ := hf
    simp only [Tm.size, if_true] at hz
    by_cases ho : opB s.data.toList = true
    · have ha2 : l.length = 2 := by
        rcases hs with hs | hs
        · exact hs.2
        · rw [(op_right ho).1] at hs; cases hs.1
      obtain ⟨x, y, rfl⟩ : ∃ x y, l = [x, y] := by
        match l, ha2 with
        | [x, y], _ => exact ⟨x, y, rfl⟩
      obtain ⟨o, hso, _⟩ := op_byte ho
      obtain rfl : s = ⟨#[o]⟩ := by
        apply WideShapes.bytes_inj
        rw [hso]
      simp only [formL, Bool.and_eq_true] at hfl
      simp only [sizeL] at hz
      exact rwrite_op n o A c x y (ih _ (by simp)) (ih _ (by simp)) ho w hat hft hfl.1 hfl.2.1 (by omega)
    · have hn : opB s.data.toList = false := by simpa using ho
      have hr : rightB s.data.toList = true ∧ l.length ≤ 6 := by
        rcases hs with hs | hs
        · rw [hn] at hs; cases hs.1
        · exact hs
      have := right_len hr.1
      rw [len_str] at this
      exact rwrite_call n s A c l ih hn w hat hfl (by omega) (by omega) (by omega)
  · simp [hk0, hk1, hk2] at hf
end Go.Proofs.YtnghanpmmbcbbaaGreatDoor
namespace Go.Proofs.YtnghanpmmbcbbaaGreatDoor
open Go.RowKit
def termT (t : Tm) : List UInt8 := if t.right then t.txt plain else []
def atomT (s : ByteArray) (l : List Tm) : List UInt8 := if atomB s.data.toList l then callT plain s.data.toList (txtL plain l) else []
def goalW (op : Int) (s : ByteArray) (l : List Tm) : List UInt8 :=
  if op = 0 then callT plain s.data.toList (txtL plain l)
  else if op = 1 ∨ op = 2 ∨ op = 11 ∨ op = 12 then callT plain (goalWords.getD op.toNat []) (txtL plain l)
  else topT (goalWords.getD op.toNat []) ((txtL plain l).getD 0 []) ((txtL plain l).getD 1 [])
def goalT (op : Int) (s : ByteArray) (l : List Tm) : List UInt8 := if goalB op s l then goalW op s l else []
theorem rightL_parts {l : List Tm} (h : rightL l = true) : formL l = true ∧ sizeL l ≤ 200 := by
  rw [← rights_all] at h
  simp only [Bool.and_eq_true, decide_eq_true_eq, List.all_eq_true] at h
  refine ⟨?_, h.2⟩
  have h1 := h.1
  clear h
  induction l with
  | nil => rfl
  | cons t r ih =>
    have ht := h1 t (by simp)
    simp only [Tm.right, Bool.and_eq_true] at ht
    simp only [formL, ht.1, Bool.true_and]
    exact ih fun x hx => h1 x (by simp [hx])
theorem atomB_parts {s : List UInt8} {l : List Tm} (h : atomB s l = true) : rightB s = true ∧ s.length ≤ 40 ∧ l.length ≤ 6 ∧ formL l = true ∧ sizeL l ≤ 200 := by
  simp only [atomB, Bool.and_eq_true, decide_eq_true_eq] at h
  obtain ⟨h1, h2, h3⟩ := h
  exact ⟨h1, right_len h1, h2, rightL_parts h3⟩
theorem builtin_parts {op : Int} {s : ByteArray} {l : List Tm} (h : goalB op s l = true) (h0 : op ≠ 0) :
    s.size = 0 ∧ (l.length : Int) = arity op ∧ l.length ≤ 2 ∧ formL l = true ∧ sizeL l ≤ 200 ∧ 1 ≤ op ∧ op ≤ 12 := by
  unfold goalB at h
  rw [if_neg h0] at h
  simp only [builtinB, Bool.and_eq_true, decide_eq_true_eq] at h
  obtain ⟨h1, h2, h3⟩ := h
  obtain ⟨h4, h5⟩ := rightL_parts h3
  refine ⟨h1, h2, ?_, h4, h5, ?_, ?_⟩
  · have h2' := h2
    unfold arity at h2'
    split at h2'
    · omega
    · split at h2'
      · omega
      · split at h2' <;> omega
  · have h2' := h2
    unfold arity at h2'
    split at h2'
    · omega
    · split at h2'
      · omega
      · split at h2' <;> omega
  · have h2' := h2
    unfold arity at h2'
    split at h2'
    · omega
    · split at h2'
      · omega
      · split at h2' <;> omega
theorem arity_two {op : Int} (h1 : 3 ≤ op) (h2 : op ≤ 10) : arity op = 2 := by
  unfold arity
  rw [if_neg (by omega), if_neg (by omega), if_pos (by omega)]
theorem held2_p {w W : World} {v0 v1 : Value} {T : TypeId} (h : Below (w.alloc (.cells #[v0, v1] T)).heap.size (w.alloc (.cells #[v0, v1] T)) W) :
    W.cell? ⟨w.heap.size, 0, none⟩ = some v0 ∧ W.cell? ⟨w.heap.size, 1, none⟩ = some v1 := by
  have k : ∀ j v, #[v0, v1][j]? = some v → W.cell? ⟨w.heap.size, j, none⟩ = some v := fun j v hj => by
    rw [h.cell (by simp), World.cell?_alloc_at _ _ _ _ rfl, hj]
  exact ⟨k 0 _ rfl, k 1 _ rfl⟩
set_option maxHeartbeats 2000000 in
theorem tt_atom (a : Am) (w : World) (ht : a.At w) (hL : Laid w) :
    Calls Tryz.prog 116 #[a.val] w fun e w' => e = .returned (.string (S (atomT a.name a.args))) ∧ Below w.heap.size w w' := by
  obtain ⟨r, hr⟩ : ∃ r, atomB a.name.data.toList a.args = r := ⟨_, rfl⟩
  have Q0 := Lib.hid (fun W (h : Below w.heap.size w W) => right_atom_at a W (ht.below h) hr)
  have HV := Lib.hid (show atomT a.name a.args = if r then callT plain a.name.data.toList (txtL plain a.args) else [] by unfold atomT; rw [hr])
  have hlen := ht.2.len
  cases r
  · clear hr ht
    obtain ⟨s, A, c, l⟩ := a
    simp only at hlen
    show Calls Tryz.prog 116 #[.agg #[.string s, .slice A l.length c]] w _
    go_enter Tryz.func116, Tryz.ntmps116
    go_wp2_with fail
    refine (Q0.out _ (below1 _ _)).mono ?_
    rintro e w1 ⟨rfl, hb1⟩
    have HB := Lib.hid ((below1 w _).trans (hb1.mono (by simp)))
    clear hb1
    go_wp2_with fail
    go_ret
    exact ⟨ret_str (by rw [HV.out]; rfl), HB.out⟩
  · obtain ⟨h1, h2, h3, h4, h5⟩ := atomB_parts hr
    rw [len_str] at h2
    have Q := Lib.hid (fun W (h : Below w.heap.size w W) => tcall_at a.name a.args (fun x _ => text_at x) a.at_ a.cap W (ht.2.below h) h4 (by omega) (by omega) (by omega) (hL.below h))
    clear hr ht h1 h2 h3 h4 h5 hL
    obtain ⟨s, A, c, l⟩ := a
    simp only at hlen
    show Calls Tryz.prog 116 #[.agg #[.string s, .slice A l.length c]] w _
    go_enter Tryz.func116, Tryz.ntmps116
    go_wp2_with fail
    refine (Q0.out _ (below1 _ _)).mono ?_
    rintro e w1 ⟨rfl, hb1⟩
    have HB := Lib.hid ((below1 w _).trans (hb1.mono (by simp)))
    obtain ⟨t0, t1⟩ := held2_p hb1
    clear hb1
    go_wp2_with fail
    refine (Q.out _ HB.out).mono ?_
    rintro e w2 ⟨rfl, hb⟩
    have HB2 := Lib.hid (HB.out.trans (hb.mono HB.out.size))
    clear hb
    go_wp2_with fail
    go_ret
    exact ⟨ret_str (by rw [HV.out]; rfl), HB2.out⟩
theorem held3_p {w W : World} {v0 v1 v2 : Value} {T : TypeId} (h : Below (w.alloc (.cells #[v0, v1, v2] T)).heap.size (w.alloc (.cells #[v0, v1, v2] T)) W) :
    W.cell? ⟨w.heap.size, 0, none⟩ = some v0 ∧ W.cell? ⟨w.heap.size, 1, none⟩ = some v1 ∧ W.cell? ⟨w.heap.size, 2, none⟩ = some v2 := by
  have k : ∀ j v, #[v0, v1, v2][j]? = some v → W.cell? ⟨w.heap.size, j, none⟩ = some v := fun j v hj => by
    rw [h.cell (by simp), World.cell?_alloc_at _ _ _ _ rfl, hj]
  exact ⟨k 0 _ rfl, k 1 _ rfl, k 2 _ rfl⟩
set_option maxHeartbeats 2000000 in
theorem tt_goal_no (g : Gl) (w : World) (ht : g.At w) (hr : goalB g.op g.name g.args = false) :
    Calls Tryz.prog 92 #[g.val] w fun e w' => e = .returned (.string (S [])) ∧ Below w.heap.size w w' := by
  have Q0 := Lib.hid (fun W (h : Below w.heap.size w W) => right_goal_at g W (ht.below h) hr)
  clear ht hr
  obtain ⟨op, s, A, c, l⟩ := g
  show Calls Tryz.prog 92 #[.agg #[.int .i64 op, .string s, .slice A l.length c]] w _
  go_enter Tryz.func92, Tryz.ntmps92
  go_wp2_with fail
  refine (Q0.out _ (below1 _ _)).mono ?_
  rintro e w1 ⟨rfl, hb1⟩
  have HB := Lib.hid ((below1 w _).trans (hb1.mono (by simp)))
  clear hb1
  go_wp2_with fail
  go_ret
  exact ⟨ret_str rfl, HB.out⟩
set_option maxHeartbeats 2000000 in
theorem tt_goal_call (s : ByteArray) (A : Option Addr) (c : Nat) (l : List Tm) (w : World) (ht : (Gl.mk 0 s A c l).At w) (hL : Laid w) (hr : goalB 0 s l = true) :
    Calls Tryz.prog 92 #[(Gl.mk 0 s A c l).val] w fun e w' => e = .returned (.string (S (callT plain s.data.toList (txtL plain l)))) ∧ Below w.heap.size w w' := by
  obtain ⟨h1, h2, h3, h4, h5⟩ := atomB_parts (show atomB s.data.toList l = true from hr)
  rw [len_str] at h2
  have Q0 := Lib.hid (fun W (h : Below w.heap.size w W) => right_goal_at (Gl.mk 0 s A c l) W (ht.below h) hr)
  have Q := Lib.hid (fun W (h : Below w.heap.size w W) => tcall_at s l (fun x _ => text_at x) A c W (ht.2.2.below h) h4 (by omega) (by omega) (by omega) (hL.below h))
  clear hr ht h1 h2 h3 h4 h5 hL
  show Calls Tryz.prog 92 #[.agg #[.int .i64 0, .string s, .slice A l.length c]] w _
  go_enter Tryz.func92, Tryz.ntmps92
  go_wp2_with fail
  refine (Q0.out _ (below1 _ _)).mono ?_
  rintro e w1 ⟨rfl, hb1⟩
  have HB := Lib.hid ((below1 w _).trans (hb1.mono (by simp)))
  obtain ⟨t0, t1, t2⟩ := held3_p hb1
  clear hb1
  go_wp2_with fail
  refine (Q.out _ HB.out).mono ?_
  rintro e w2 ⟨rfl, hb⟩
  have HB2 := Lib.hid (HB.out.trans (hb.mono HB.out.size))
  clear hb
  go_wp2_with fail
  go_ret
  exact ⟨rfl, HB2.out⟩
theorem words_cell {w : World} (hL : Laid w) (i : Nat) (wd : List UInt8) (h : goalWords[i]? = some wd) : w.cell? ⟨0, i, none⟩ = some (.string (S wd)) := by
  rw [World.var?_cell gWords hL.words i]
  simp [goalStrs, h]
set_option maxHeartbeats 4000000 in
theorem tt_goal_word (op : Int) (hop : op = 1 ∨ op = 2 ∨ op = 11 ∨ op = 12) (wd : List UInt8) (hwd : goalWords[op.toNat]? = some wd) (hwl : wd.length ≤ 1000) (s : ByteArray) (A : Option Addr) (c : Nat) (l : List Tm) (w : World) (ht : (Gl.mk op s A c l).At w) (hL : Laid w) (hr : goalB op s l = true) :
    Calls Tryz.prog 92 #[(Gl.mk op s A c l).val] w fun e w' => e = .returned (.string (S (callT plain wd (txtL plain l)))) ∧ Below w.heap.size w w' := by
  obtain ⟨h1, h2, h3, h4, h5, -, -⟩ := builtin_parts hr (by omega)
  have hlen : l.length ≤ 9223372036854775807 := by omega
  have Q0 := Lib.hid (fun W (h : Below w.heap.size w W) => right_goal_at (Gl.mk op s A c l) W (ht.below h) hr)
  have Q := Lib.hid (fun W (h : Below w.heap.size w W) => tcall_at (S wd) l (fun x _ => text_at x) A c W (ht.2.2.below h) h4 (by omega) (by rw [← len_str]; show wd.length ≤ _; omega) (by omega) (hL.below h))
  have HL := Lib.hid hL
  clear hr ht h1 h2 h3 h4 h5 hL hwl
  rcases hop with rfl | rfl | rfl | rfl
  all_goals
    show Calls Tryz.prog 92 #[.agg #[.int .i64 _, .string s, .slice A l.length c]] w _
    go_enter Tryz.func92, Tryz.ntmps92
    go_wp2_with fail
    refine (Q0.out _ (below1 _ _)).mono ?_
    rintro e w1 ⟨rfl, hb1⟩
    have HB := Lib.hid ((below1 w _).trans (hb1.mono (by simp)))
    obtain ⟨t0, t1, t2⟩ := held3_p hb1
    have hc := words_cell (HL.out.below HB.out) _ wd hwd
    simp only [Int.reduceToNat] at hc
    clear hb1
    have t0' := cell_regrown t0
    have t2' := cell_regrown t2
    have hc' := cell_regrown hc
    go_wp2_with fail
    refine wp_region_quiet_below (by kernel_rfl) (by kernel_rfl) ?_
    repeat (go_big_quiet_step ((go_at_call 133; exact Calls.regrown_of (Q.out _ (HB.out.trans ((below_regrown _ _ _).mono HB.out.size))))))
    refine wpQuiet_nil ?_
    intro w9 hw'
    have HB2 := Lib.hid (HB.out.trans ((regrown_below hw').mono HB.out.size))
    clear hw'
    go_wp2_with fail
    go_ret
    exact ⟨rfl, HB2.out⟩
theorem two_of {l : List Tm} (h : l.length = 2) : ∃ x y, l = [x, y] := by
  match l, h with
  | [x, y], _ => exact ⟨x, y, rfl⟩
set_option maxHeartbeats 8000000 in
set_option maxRecDepth 10000 in
theorem tt_goal_two (m : Nat) (hm1 : 3 ≤ m) (hm2 : m ≤ 10) (wd : List UInt8) (hwd : goalWords[m]? = some wd) (hwl : wd.length ≤ 1000) (s : ByteArray) (A : Option Addr) (c : Nat) (x y : Tm) (w : World) (ht : (Gl.mk (m : Int) s A c [x, y]).At w) (hL : Laid w) (hr : goalB (m : Int) s [x, y] = true) :
    Calls Tryz.prog 92 #[(Gl.mk (m : Int) s A c [x, y]).val] w fun e w' => e = .returned (.string (S (topT wd (x.txt plain) (y.txt plain)))) ∧ Below w.heap.size w w' := by
  obtain ⟨h1, h2, h3, h4, h5, -, -⟩ := builtin_parts hr (by omega)
  simp only [formL, Bool.and_eq_true, sizeL] at h4 h5
  have Q0 := Lib.hid (fun W (h : Below w.heap.size w W) => right_goal_at (Gl.mk (m : Int) s A c [x, y]) W (ht.below h) hr)
  obtain ⟨b, q, rfl, hrow⟩ := ht.2.2.2.2 (by simp)
  obtain ⟨⟨x0, x1, x2, x3⟩, hxa, ⟨y0, y1, y2, y3⟩, hya, -⟩ := hrow
  have b3 := txt_bound h4.1 (by omega)
  have b4 := txt_bound h4.2.1 (by omega)
  have Q3 := Lib.hid (fun W (h : Below w.heap.size w W) => text_at x W (hxa.below h) h4.1 (by omega) (hL.below h))
  have Q4 := Lib.hid (fun W (h : Below w.heap.size w W) => text_at y W (hya.below h) h4.2.1 (by omega) (hL.below h))
  obtain ⟨X, hX⟩ : ∃ X, x.txt plain = X := ⟨_, rfl⟩
  obtain ⟨Y, hY⟩ : ∃ Y, y.txt plain = Y := ⟨_, rfl⟩
  rw [hX] at b3 Q3 ⊢
  rw [hY] at b4 Q4 ⊢
  have Q7 := Lib.hid (fun W => between_at X wd Y W (by omega) (by omega) (by omega))
  have HL := Lib.hid hL
  have e0 : (((m : Nat) : Int) == 0) = false := by rw [beq_eq_false_iff_ne]; omega
  have e1 : (((m : Nat) : Int) == 1) = false := by rw [beq_eq_false_iff_ne]; omega
  have e2 : (((m : Nat) : Int) == 2) = false := by rw [beq_eq_false_iff_ne]; omega
  have e11 : (((m : Nat) : Int) == 11) = false := by rw [beq_eq_false_iff_ne]; omega
  have e12 : (((m : Nat) : Int) == 12) = false := by rw [beq_eq_false_iff_ne]; omega
  have hm3 : m < 13 := by omega
  clear hX hY b3 b4 hxa hya hr ht h1 h2 h3 h4 h5 hL hwl hm1 hm2
  obtain ⟨k1, n1, s1, A1, p1, a1⟩ := x
  obtain ⟨k2, n2, s2, A2, p2, a2⟩ := y
  simp only [Tm.kind, Tm.num, Tm.name, Tm.at_, Tm.args, Tm.cap] at x0 x1 x2 x3 y0 y1 y2 y3
  have Q3 := Lib.hid (show ∀ W, Below w.heap.size w W → Calls Tryz.prog 135 #[.agg #[.int .i64 k1, .int .i64 n1, .string s1, .slice A1 a1.length p1]] W fun e w' => e = .returned (.string (S X)) ∧ Below W.heap.size W w' from Q3.out)
  have Q4 := Lib.hid (show ∀ W, Below w.heap.size w W → Calls Tryz.prog 135 #[.agg #[.int .i64 k2, .int .i64 n2, .string s2, .slice A2 a2.length p2]] W fun e w' => e = .returned (.string (S Y)) ∧ Below W.heap.size W w' from Q4.out)
  show Calls Tryz.prog 92 #[.agg #[.int .i64 (m : Int), .string s, .slice (some ⟨b, q, none⟩) 2 c]] w _
  go_enter Tryz.func92, Tryz.ntmps92
  go_wp2_with fail
  refine (Q0.out _ (below1 _ _)).mono ?_
  rintro e w1 ⟨rfl, hb1⟩
  have HB := Lib.hid ((below1 w _).trans (hb1.mono (by simp)))
  obtain ⟨t0, t1, t2⟩ := held3_p hb1
  have hc := words_cell (HL.out.below HB.out) _ wd hwd
  clear hb1
  have t0' := cell_regrown t0
  have t2' := cell_regrown t2
  have hc' := cell_regrown hc
  have cx : ∀ {p : Addr} {v : Value}, w.cell? p = some v → w1.cell? p = some v := fun h => by
    rw [HB.out.cell (World.block_lt_of_cell? w _ h)]; exact h
  have kx0 := cell_regrown (cx x0)
  have kx1 := cell_regrown (cx x1)
  have kx2 := cell_regrown (cx x2)
  have kx3 := cell_regrown (cx x3)
  have ky0 := cell_regrown (cx y0)
  have ky1 := cell_regrown (cx y1)
  have ky2 := cell_regrown (cx y2)
  have ky3 := cell_regrown (cx y3)
  clear cx
  go_wp2_with fail
  refine wp_region_quiet_below (by kernel_rfl) (by kernel_rfl) ?_
  repeat (go_big_quiet_step (first | (go_at_call 135; first | (with_reducible exact Calls.regrown_of (Q3.out _ (HB.out.trans ((below_regrown _ _ _).mono HB.out.size)))) | (with_reducible exact Calls.regrown_of (Q4.out _ (HB.out.trans ((below_regrown _ _ _).mono HB.out.size))))) | (go_at_call 134; exact Calls.regrown_of (withBelow (Q7.out _)))))
  refine wpQuiet_nil ?_
  intro w9 hw'
  have HB2 := Lib.hid (HB.out.trans ((regrown_below hw').mono HB.out.size))
  clear hw'
  go_wp2_with fail
  go_ret
  exact ⟨rfl, HB2.out⟩
theorem tt_goal (g : Gl) (w : World) (ht : g.At w) (hL : Laid w) :
    Calls Tryz.prog 92 #[g.val] w fun e w' => e = .returned (.string (S (goalT g.op g.name g.args))) ∧ Below w.heap.size w w' := by
  unfold goalT
  cases hr : goalB g.op g.name g.args
  · exact tt_goal_no g w ht hr
  · obtain ⟨op, s, A, c, l⟩ := g
    simp only at hr
    rw [if_pos rfl]
    unfold goalW
    by_cases h0 : op = 0
    · subst h0
      rw [if_pos rfl]
      exact tt_goal_call s A c l w ht hL hr
    rw [if_neg h0]
    have hp := builtin_parts hr h0
    by_cases h1 : op = 1 ∨ op = 2 ∨ op = 11 ∨ op = 12
    · rw [if_pos h1]
      obtain ⟨wd, hwd, hwl⟩ : ∃ wd, goalWords[op.toNat]? = some wd ∧ wd.length ≤ 1000 := by
        rcases h1 with rfl | rfl | rfl | rfl
        all_goals exact ⟨_, rfl, by decide⟩
      rw [show goalWords.getD op.toNat [] = wd by rw [List.getD_eq_getElem?_getD, hwd]; rfl]
      exact tt_goal_word op h1 wd hwd hwl s A c l w ht hL hr
    · rw [if_neg h1]
      obtain ⟨m, rfl⟩ : ∃ m : Nat, op = (m : Int) := ⟨op.toNat, by omega⟩
      have hm1 : 3 ≤ m := by omega
      have hm2 : m ≤ 10 := by omega
      have h2 := hp.2.1
      rw [arity_two (by omega) (by omega)] at h2
      obtain ⟨x, y, rfl⟩ := two_of (l := l) (by omega)
      obtain ⟨wd, hwd, hwl⟩ : ∃ wd, goalWords[m]? = some wd ∧ wd.length ≤ 1000 := by
        have : m = 3 ∨ m = 4 ∨ m = 5 ∨ m = 6 ∨ m = 7 ∨ m = 8 ∨ m = 9 ∨ m = 10 := by omega
        rcases this with rfl | rfl | rfl | rfl | rfl | rfl | rfl | rfl
        all_goals exact ⟨_, rfl, by decide⟩
      rw [show goalWords.getD (m : Int).toNat [] = wd by rw [Int.toNat_natCast, List.getD_eq_getElem?_getD, hwd]; rfl]
      exact tt_goal_two m hm1 hm2 wd hwd hwl s A c x y w ht hL hr
end Go.Proofs.YtnghanpmmbcbbaaGreatDoor
namespace Go.Proofs.YtnghanpmmbcbbaaGreatDoor
open Go.RowKit
-- see TtGoal
theorem held2_r {w W : World} {v0 v1 : Value} {T : TypeId} (h : Below (w.alloc (.cells #[v0, v1] T)).heap.size (w.alloc (.cells #[v0, v1] T)) W) :
    W.cell? ⟨w.heap.size, 0, none⟩ = some v0 ∧ W.cell? ⟨w.heap.size, 1, none⟩ = some v1 := by
  have k : ∀ j v, #[v0, v1][j]? = some v → W.cell? ⟨w.heap.size, j, none⟩ = some v := fun j v hj => by
    rw [h.cell (by simp), World.cell?_alloc_at _ _ _ _ rfl, hj]
  exact ⟨k 0 _ rfl, k 1 _ rfl⟩
set_option maxHeartbeats 2000000 in
theorem tr_atom (a : Am) (w : World) (ht : a.At w) (hz : sizeL a.args ≤ 1000000) :
    Calls Tryz.prog 74 #[a.val] w fun e w' => e = .returned (.string (S (atomT a.name a.args))) ∧ Below w.heap.size w w' := by
  obtain ⟨r, hr⟩ : ∃ r, atomB a.name.data.toList a.args = r := ⟨_, rfl⟩
  have Q0 := Lib.hid (fun W (h : Below w.heap.size w W) => ref_right_atom_at a W (ht.below h) hz hr)
  have HV := Lib.hid (show atomT a.name a.args = if r then callT plain a.name.data.toList (txtL plain a.args) else [] by unfold atomT; rw [hr])
  have hlen := ht.2.len
  cases r
  · clear hr ht
    obtain ⟨s, A, c, l⟩ := a
    simp only at hlen
    show Calls Tryz.prog 74 #[.agg #[.string s, .slice A l.length c]] w _
    go_enter Tryz.func74, Tryz.ntmps74
    go_wp2_with fail
    refine (Q0.out _ (below1 _ _)).mono ?_
    rintro e w1 ⟨rfl, hb1⟩
    have HB := Lib.hid ((below1 w _).trans (hb1.mono (by simp)))
    clear hb1
    go_wp2_with fail
    go_ret
    exact ⟨ret_str (by rw [HV.out]; rfl), HB.out⟩
  · obtain ⟨h1, h2, h3, h4, h5⟩ := atomB_parts hr
    rw [len_str] at h2
    have Q := Lib.hid (fun W (h : Below w.heap.size w W) => rcall_at a.name a.args (fun x _ => rwrite_at x) a.at_ a.cap W (ht.2.below h) h4 (by omega) (by omega) (by omega))
    clear hr ht h1 h2 h3 h4 h5 hz
    obtain ⟨s, A, c, l⟩ := a
    simp only at hlen
    show Calls Tryz.prog 74 #[.agg #[.string s, .slice A l.length c]] w _
    go_enter Tryz.func74, Tryz.ntmps74
    go_wp2_with fail
    refine (Q0.out _ (below1 _ _)).mono ?_
    rintro e w1 ⟨rfl, hb1⟩
    have HB := Lib.hid ((below1 w _).trans (hb1.mono (by simp)))
    obtain ⟨t0, t1⟩ := held2_r hb1
    clear hb1
    go_wp2_with fail
    refine (Q.out _ HB.out).mono ?_
    rintro e w2 ⟨rfl, hb⟩
    have HB2 := Lib.hid (HB.out.trans (hb.mono HB.out.size))
    clear hb
    go_wp2_with fail
    go_ret
    exact ⟨ret_str (by rw [HV.out]; rfl), HB2.out⟩
set_option maxHeartbeats 2000000 in
theorem tr_goal_no (g : Gl) (w : World) (ht : g.At w) (hz : sizeL g.args ≤ 1000000) (hr : goalB g.op g.name g.args = false) :
    Calls Tryz.prog 76 #[g.val] w fun e w' => e = .returned (.string (S [])) ∧ Below w.heap.size w w' := by
  have Q0 := Lib.hid (fun W (h : Below w.heap.size w W) => ref_right_goal_at g W (ht.below h) hz hr)
  clear ht hr
  obtain ⟨op, s, A, c, l⟩ := g
  show Calls Tryz.prog 76 #[.agg #[.int .i64 op, .string s, .slice A l.length c]] w _
  go_enter Tryz.func76, Tryz.ntmps76
  go_wp2_with fail
  refine (Q0.out _ (below1 _ _)).mono ?_
  rintro e w1 ⟨rfl, hb1⟩
  have HB := Lib.hid ((below1 w _).trans (hb1.mono (by simp)))
  clear hb1
  go_wp2_with fail
  go_ret
  exact ⟨ret_str rfl, HB.out⟩
set_option maxHeartbeats 2000000 in
theorem tr_goal_call (s : ByteArray) (A : Option Addr) (c : Nat) (l : List Tm) (w : World) (ht : (Gl.mk 0 s A c l).At w) (hr : goalB 0 s l = true) :
    Calls Tryz.prog 76 #[(Gl.mk 0 s A c l).val] w fun e w' => e = .returned (.string (S (callT plain s.data.toList (txtL plain l)))) ∧ Below w.heap.size w w' := by
  obtain ⟨h1, h2, h3, h4, h5⟩ := atomB_parts (show atomB s.data.toList l = true from hr)
  rw [len_str] at h2
  have Q0 := Lib.hid (fun W (h : Below w.heap.size w W) => ref_right_goal_at (Gl.mk 0 s A c l) W (ht.below h) (by show sizeL l ≤ _; omega) hr)
  have Q := Lib.hid (fun W (h : Below w.heap.size w W) => rcall_at s l (fun x _ => rwrite_at x) A c W (ht.2.2.below h) h4 (by omega) (by omega) (by omega))
  clear hr ht h1 h2 h3 h4 h5
  show Calls Tryz.prog 76 #[.agg #[.int .i64 0, .string s, .slice A l.length c]] w _
  go_enter Tryz.func76, Tryz.ntmps76
  go_wp2_with fail
  refine (Q0.out _ (below1 _ _)).mono ?_
  rintro e w1 ⟨rfl, hb1⟩
  have HB := Lib.hid ((below1 w _).trans (hb1.mono (by simp)))
  obtain ⟨t0, t1, t2⟩ := held3_p hb1
  clear hb1
  go_wp2_with fail
  refine (Q.out _ HB.out).mono ?_
  rintro e w2 ⟨rfl, hb⟩
  have HB2 := Lib.hid (HB.out.trans (hb.mono HB.out.size))
  clear hb
  go_wp2_with fail
  go_ret
  exact ⟨rfl, HB2.out⟩
set_option maxHeartbeats 2000000 in
set_option maxRecDepth 10000 in
theorem gsymbol_at (m : Nat) (hm1 : 3 ≤ m) (hm2 : m ≤ 10) (wd : List UInt8) (hwd : goalWords[m]? = some wd) (w : World) :
    Calls Tryz.prog 121 #[.int .i64 (m : Int)] w fun e w' => e = .returned (.string (S wd)) ∧ Below w.heap.size w w' := by
  have : m = 3 ∨ m = 4 ∨ m = 5 ∨ m = 6 ∨ m = 7 ∨ m = 8 ∨ m = 9 ∨ m = 10 := by omega
  have hv := Lib.hid (show goalWords.getD m [] = wd by rw [List.getD_eq_getElem?_getD, hwd]; rfl)
  clear hm1 hm2 hwd
  rcases this with rfl | rfl | rfl | rfl | rfl | rfl | rfl | rfl
  all_goals
    go_enter Tryz.func121, Tryz.ntmps121
    go_wp2_with fail
    go_ret
    exact ⟨ret_str (by rw [← hv.out]; rfl), (Below.refl _ _).alloc (Nat.le_refl _) _⟩
set_option maxHeartbeats 4000000 in
theorem tr_goal_bare (op : Int) (hop : op = 1 ∨ op = 2) (s : ByteArray) (A : Option Addr) (c : Nat) (l : List Tm) (w : World) (ht : (Gl.mk op s A c l).At w) (hr : goalB op s l = true) :
    Calls Tryz.prog 76 #[(Gl.mk op s A c l).val] w fun e w' => e = .returned (.string (S (callT plain (goalWords.getD op.toNat []) (txtL plain l)))) ∧ Below w.heap.size w w' := by
  obtain ⟨h1, h2, h3, h4, h5, -, -⟩ := builtin_parts hr (by omega)
  have hlen : l.length ≤ 9223372036854775807 := by omega
  have Q0 := Lib.hid (fun W (h : Below w.heap.size w W) => ref_right_goal_at (Gl.mk op s A c l) W (ht.below h) (by show sizeL l ≤ _; omega) hr)
  have hl : l = [] := List.length_eq_zero_iff.1 (by
    have : arity op = 0 := by unfold arity; rw [if_pos hop]
    omega)
  have HE := Lib.hid hl
  clear hr ht h1 h2 h3 h4 h5 hl
  rcases hop with rfl | rfl
  all_goals
    show Calls Tryz.prog 76 #[.agg #[.int .i64 _, .string s, .slice A l.length c]] w _
    go_enter Tryz.func76, Tryz.ntmps76
    go_wp2_with fail
    refine (Q0.out _ (below1 _ _)).mono ?_
    rintro e w1 ⟨rfl, hb1⟩
    have HB := Lib.hid ((below1 w _).trans (hb1.mono (by simp)))
    obtain ⟨t0, t1, t2⟩ := held3_p hb1
    clear hb1
    go_wp2_with fail
    go_ret
    exact ⟨ret_str (by rw [HE.out]; rfl), HB.out⟩
set_option maxHeartbeats 4000000 in
theorem tr_goal_word (op : Int) (hop : op = 11 ∨ op = 12) (s : ByteArray) (A : Option Addr) (c : Nat) (l : List Tm) (w : World) (ht : (Gl.mk op s A c l).At w) (hr : goalB op s l = true) :
    Calls Tryz.prog 76 #[(Gl.mk op s A c l).val] w fun e w' => e = .returned (.string (S (callT plain (goalWords.getD op.toNat []) (txtL plain l)))) ∧ Below w.heap.size w w' := by
  obtain ⟨h1, h2, h3, h4, h5, -, -⟩ := builtin_parts hr (by omega)
  have hlen : l.length ≤ 9223372036854775807 := by omega
  have Q0 := Lib.hid (fun W (h : Below w.heap.size w W) => ref_right_goal_at (Gl.mk op s A c l) W (ht.below h) (by show sizeL l ≤ _; omega) hr)
  have Q := Lib.hid (fun (wd : List UInt8) (hw : wd.length ≤ 1000) W (h : Below w.heap.size w W) => rcall_at (S wd) l (fun x _ => rwrite_at x) A c W (ht.2.2.below h) h4 (by omega) (by rw [← len_str]; show wd.length ≤ _; omega) (by omega))
  clear hr ht h1 h2 h3 h4 h5
  rcases hop with rfl | rfl
  · show Calls Tryz.prog 76 #[.agg #[.int .i64 _, .string s, .slice A l.length c]] w _
    go_enter Tryz.func76, Tryz.ntmps76
    go_wp2_with fail
    refine (Q0.out _ (below1 _ _)).mono ?_
    rintro e w1 ⟨rfl, hb1⟩
    have HB := Lib.hid ((below1 w _).trans (hb1.mono (by simp)))
    obtain ⟨t0, t1, t2⟩ := held3_p hb1
    clear hb1
    go_wp2_with fail
    refine (Q.out [105, 110, 116] (by decide) _ HB.out).mono ?_
    rintro e w2 ⟨rfl, hb⟩
    have HB2 := Lib.hid (HB.out.trans (hb.mono HB.out.size))
    clear hb
    go_wp2_with fail
    go_ret
    exact ⟨rfl, HB2.out⟩
  · show Calls Tryz.prog 76 #[.agg #[.int .i64 _, .string s, .slice A l.length c]] w _
    go_enter Tryz.func76, Tryz.ntmps76
    go_wp2_with fail
    refine (Q0.out _ (below1 _ _)).mono ?_
    rintro e w1 ⟨rfl, hb1⟩
    have HB := Lib.hid ((below1 w _).trans (hb1.mono (by simp)))
    obtain ⟨t0, t1, t2⟩ := held3_p hb1
    clear hb1
    go_wp2_with fail
    refine (Q.out [103, 114, 111, 117, 110, 100] (by decide) _ HB.out).mono ?_
    rintro e w2 ⟨rfl, hb⟩
    have HB2 := Lib.hid (HB.out.trans (hb.mono HB.out.size))
    clear hb
    go_wp2_with fail
    go_ret
    exact ⟨rfl, HB2.out⟩
set_option maxHeartbeats 8000000 in
set_option maxRecDepth 10000 in
theorem tr_goal_two (m : Nat) (hm1 : 3 ≤ m) (hm2 : m ≤ 10) (wd : List UInt8) (hwd : goalWords[m]? = some wd) (hwl : wd.length ≤ 1000) (s : ByteArray) (A : Option Addr) (c : Nat) (x y : Tm) (w : World) (ht : (Gl.mk (m : Int) s A c [x, y]).At w) (hr : goalB (m : Int) s [x, y] = true) :
    Calls Tryz.prog 76 #[(Gl.mk (m : Int) s A c [x, y]).val] w fun e w' => e = .returned (.string (S (topT wd (x.txt plain) (y.txt plain)))) ∧ Below w.heap.size w w' := by
  obtain ⟨h1, h2, h3, h4, h5, -, -⟩ := builtin_parts hr (by omega)
  have h5' := h5
  simp only [formL, Bool.and_eq_true, sizeL] at h4 h5
  have Q0 := Lib.hid (fun W (h : Below w.heap.size w W) => ref_right_goal_at (Gl.mk (m : Int) s A c [x, y]) W (ht.below h) (by show sizeL [x, y] ≤ _; omega) hr)
  obtain ⟨b, q, rfl, hrow⟩ := ht.2.2.2.2 (by simp)
  obtain ⟨⟨x0, x1, x2, x3⟩, hxa, ⟨y0, y1, y2, y3⟩, hya, -⟩ := hrow
  have b3 := txt_bound h4.1 (by omega)
  have b4 := txt_bound h4.2.1 (by omega)
  have Q3 := Lib.hid (fun W (h : Below w.heap.size w W) => rwrite_at x W (hxa.below h) h4.1 (by omega))
  have Q4 := Lib.hid (fun W (h : Below w.heap.size w W) => rwrite_at y W (hya.below h) h4.2.1 (by omega))
  have Q7 := Lib.hid (fun W => gsymbol_at m hm1 hm2 wd hwd W)
  obtain ⟨X, hX⟩ : ∃ X, x.txt plain = X := ⟨_, rfl⟩
  obtain ⟨Y, hY⟩ : ∃ Y, y.txt plain = Y := ⟨_, rfl⟩
  rw [hX] at b3 Q3 ⊢
  rw [hY] at b4 Q4 ⊢
  have l1 : ¬ 9223372036854775807 < X.length + 1 := by omega
  have l2 : ¬ 9223372036854775807 < X.length + 1 + wd.length := by omega
  have l3 : ¬ 9223372036854775807 < X.length + 1 + wd.length + 1 := by omega
  have l4 : ¬ 9223372036854775807 < X.length + 1 + wd.length + 1 + Y.length := by omega
  have e0 : (((m : Nat) : Int) == 0) = false := by rw [beq_eq_false_iff_ne]; omega
  have e1 : (((m : Nat) : Int) == 1) = false := by rw [beq_eq_false_iff_ne]; omega
  have e2 : (((m : Nat) : Int) == 2) = false := by rw [beq_eq_false_iff_ne]; omega
  have e11 : (((m : Nat) : Int) == 11) = false := by rw [beq_eq_false_iff_ne]; omega
  have e12 : (((m : Nat) : Int) == 12) = false := by rw [beq_eq_false_iff_ne]; omega
  clear hX hY b3 b4 hxa hya hr ht h1 h2 h3 h4 h5 h5' hwl hm1 hm2 hwd
  obtain ⟨k1, n1, s1, A1, p1, a1⟩ := x
  obtain ⟨k2, n2, s2, A2, p2, a2⟩ := y
  simp only [Tm.kind, Tm.num, Tm.name, Tm.at_, Tm.args, Tm.cap] at x0 x1 x2 x3 y0 y1 y2 y3
  have Q3 := Lib.hid (show ∀ W, Below w.heap.size w W → Calls Tryz.prog 120 #[.agg #[.int .i64 k1, .int .i64 n1, .string s1, .slice A1 a1.length p1]] W fun e w' => e = .returned (.string (S X)) ∧ Below W.heap.size W w' from Q3.out)
  have Q4 := Lib.hid (show ∀ W, Below w.heap.size w W → Calls Tryz.prog 120 #[.agg #[.int .i64 k2, .int .i64 n2, .string s2, .slice A2 a2.length p2]] W fun e w' => e = .returned (.string (S Y)) ∧ Below W.heap.size W w' from Q4.out)
  show Calls Tryz.prog 76 #[.agg #[.int .i64 (m : Int), .string s, .slice (some ⟨b, q, none⟩) 2 c]] w _
  go_enter Tryz.func76, Tryz.ntmps76
  go_wp2_with fail
  refine (Q0.out _ (below1 _ _)).mono ?_
  rintro e w1 ⟨rfl, hb1⟩
  have HB := Lib.hid ((below1 w _).trans (hb1.mono (by simp)))
  obtain ⟨t0, t1, t2⟩ := held3_p hb1
  clear hb1
  have t0' := cell_regrown t0
  have t2' := cell_regrown t2
  have cx : ∀ {p : Addr} {v : Value}, w.cell? p = some v → w1.cell? p = some v := fun h => by
    rw [HB.out.cell (World.block_lt_of_cell? w _ h)]; exact h
  have kx0 := cell_regrown (cx x0)
  have kx1 := cell_regrown (cx x1)
  have kx2 := cell_regrown (cx x2)
  have kx3 := cell_regrown (cx x3)
  have ky0 := cell_regrown (cx y0)
  have ky1 := cell_regrown (cx y1)
  have ky2 := cell_regrown (cx y2)
  have ky3 := cell_regrown (cx y3)
  clear cx
  go_wp2_with fail
  refine wp_region_quiet_below (by kernel_rfl) (by kernel_rfl) ?_
  repeat (go_big_quiet_step (first | (go_at_call 120; first | (with_reducible exact Calls.regrown_of (Q3.out _ (HB.out.trans ((below_regrown _ _ _).mono HB.out.size)))) | (with_reducible exact Calls.regrown_of (Q4.out _ (HB.out.trans ((below_regrown _ _ _).mono HB.out.size))))) | (go_at_call 121; exact Calls.regrown_of (Q7.out _))))
  refine wpQuiet_nil ?_
  intro w9 hw'
  have HB2 := Lib.hid (HB.out.trans ((regrown_below hw').mono HB.out.size))
  clear hw'
  go_wp2_with fail
  go_ret
  refine ⟨ret_str ?_, HB2.out⟩
  apply WideShapes.bytes_inj
  simp [topT]
theorem tr_goal (g : Gl) (w : World) (ht : g.At w) (hz : sizeL g.args ≤ 1000000) :
    Calls Tryz.prog 76 #[g.val] w fun e w' => e = .returned (.string (S (goalT g.op g.name g.args))) ∧ Below w.heap.size w w' := by
  unfold goalT
  cases hr : goalB g.op g.name g.args
  · exact tr_goal_no g w ht hz hr
  · obtain ⟨op, s, A, c, l⟩ := g
    simp only at hr
    rw [if_pos rfl]
    unfold goalW
    by_cases h0 : op = 0
    · subst h0
      rw [if_pos rfl]
      exact tr_goal_call s A c l w ht hr
    rw [if_neg h0]
    have hp := builtin_parts hr h0
    by_cases h1 : op = 1 ∨ op = 2 ∨ op = 11 ∨ op = 12
    · rw [if_pos h1]
      by_cases h2 : op = 1 ∨ op = 2
      · exact tr_goal_bare op h2 s A c l w ht hr
      · exact tr_goal_word op (by omega) s A c l w ht hr
    · rw [if_neg h1]
      obtain ⟨m, rfl⟩ : ∃ m : Nat, op = (m : Int) := ⟨op.toNat, by omega⟩
      have hm1 : 3 ≤ m := by omega
      have hm2 : m ≤ 10 := by omega
      have h2 := hp.2.1
      rw [arity_two (by omega) (by omega)] at h2
      obtain ⟨x, y, rfl⟩ := two_of (l := l) (by omega)
      obtain ⟨wd, hwd, hwl⟩ : ∃ wd, goalWords[m]? = some wd ∧ wd.length ≤ 1000 := by
        have : m = 3 ∨ m = 4 ∨ m = 5 ∨ m = 6 ∨ m = 7 ∨ m = 8 ∨ m = 9 ∨ m = 10 := by omega
        rcases this with rfl | rfl | rfl | rfl | rfl | rfl | rfl | rfl
        all_goals exact ⟨_, rfl, by decide⟩
      rw [show goalWords.getD (m : Int).toNat [] = wd by rw [Int.toNat_natCast, List.getD_eq_getElem?_getD, hwd]; rfl]
      exact tr_goal_two m hm1 hm2 wd hwd hwl s A c x y w ht hr
end Go.Proofs.YtnghanpmmbcbbaaGreatDoor
