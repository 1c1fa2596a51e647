/-
  Contracts of the reference's operand, list, call and write.
-/
import Derived.Test.YtlpibnbabgfiiaaGreatDoorTtWrite
import Derived.Test.YtlpibnbabgfiiaaGreatDoorTrDec
import Derived.BigRegion
namespace Go.Proofs.YtlpibnbabgfiiaaGreatDoor
open Go.RowKit

def RTextAt (t : Tm) : Prop := ∀ w, t.At w → t.form = true → t.size ≤ 1000000 →
  Calls Tryz.prog 34 #[t.val] w fun e w' => e = .returned (.string (S (t.txt plain))) ∧ Below w.heap.size w w'

set_option maxHeartbeats 2000000 in
theorem roperand_at (t : Tm) (hT : RTextAt t) (P O : Int) (b : Bool) (hb : b = decide ((t.pw : Int) + 1 < P + O)) (hP1 : 0 ≤ P) (hP2 : P ≤ 3) (hO1 : 0 ≤ O) (hO2 : O ≤ 1) (w : World) (ht : t.At w) (hf : t.form = true) (hz : t.size ≤ 1000000) :
    Calls Tryz.prog 68 #[t.val, .int .i64 P, .int .i64 O] w fun e w' => e = .returned (.string (S (paren plain b (t.txt plain)))) ∧ Below w.heap.size w w' := by
  have hl := txt_bound hf hz
  have Q := Lib.hid (fun W (h : Below w.heap.size w W) => hT W (ht.below h) hf hz)
  have Q0 := Lib.hid (fun W => rstrength_at t hf W)
  obtain ⟨x, hx⟩ : ∃ x, t.txt plain = x := ⟨_, rfl⟩
  rw [hx] at Q hl ⊢
  obtain ⟨p, hp⟩ : ∃ p : Int, (t.pw : Int) + 1 = p := ⟨_, rfl⟩
  rw [hp] at Q0 hb
  have h1 : ¬ 9223372036854775807 < 1 + x.length := by omega
  have h2 : ¬ 9223372036854775807 < 1 + x.length + 1 := by omega
  clear hT ht hf hz hx hp hl
  obtain ⟨k, n, s, A, c, a⟩ := t
  show Calls Tryz.prog 68 #[.agg #[.int .i64 k, .int .i64 n, .string s, .slice A a.length c], .int .i64 P, .int .i64 O] w _
  have h0 : decide (p < P + O) = b := hb.symm
  cases b
  · clear hb
    go_enter Tryz.func68, Tryz.ntmps68
    go_wp2_with fail
    refine (Q0.out _).mono ?_
    rintro e w0 ⟨rfl, hb0⟩
    have hb0' := ((Below.refl w.heap.size w).alloc (Nat.le_refl _) (.cells #[.int .i64 k, .int .i64 n, .string s, .slice A a.length c] 24)).trans (hb0.mono (by simp))
    obtain ⟨hc0, hc1, hc2, hc3, _⟩ := box4 hb0
    clear hb0
    go_wp2_with fail
    refine (Q.out _ hb0').mono ?_
    rintro e w1 ⟨rfl, hb⟩
    have HB := Lib.hid (hb0'.trans (hb.mono hb0'.size))
    clear hb hb0'
    go_wp2_with fail
    go_ret
    exact ⟨rfl, HB.out⟩
  · clear hb
    go_enter Tryz.func68, Tryz.ntmps68
    go_wp2_with fail
    refine (Q0.out _).mono ?_
    rintro e w0 ⟨rfl, hb0⟩
    have hb0' := ((Below.refl w.heap.size w).alloc (Nat.le_refl _) (.cells #[.int .i64 k, .int .i64 n, .string s, .slice A a.length c] 24)).trans (hb0.mono (by simp))
    obtain ⟨hc0, hc1, hc2, hc3, _⟩ := box4 hb0
    clear hb0
    go_wp2_with fail
    refine (Q.out _ hb0').mono ?_
    rintro e w1 ⟨rfl, hb⟩
    have HB := Lib.hid (hb0'.trans (hb.mono hb0'.size))
    clear hb hb0'
    go_wp2_with fail
    go_ret
    refine ⟨ret_str ?_, HB.out⟩
    apply WideShapes.bytes_inj
    simp [paren, Sty.lp, Sty.rp, plain, sp]

theorem join_len (l : List (List UInt8)) : (joinT l).length ≤ (l.map fun x => x.length + 3).sum := by
  rcases l with _ | ⟨x, r⟩
  · simp [joinT]
  · have := rest_bound slim_plain r
    simp only [joinT, List.length_append, List.map_cons, List.sum_cons]
    omega
theorem sum_take (l : List Nat) (k : Nat) : (l.take k).sum ≤ l.sum := by
  have := List.take_append_drop k l
  have h2 := congrArg List.sum this
  rw [List.sum_append] at h2
  omega
theorem join_bound {l : List Tm} (hf : formL l = true) (hz : sizeL l ≤ 1000000) (k : Nat) : (joinT (txtL plain (l.take k))).length ≤ 51000000 := by
  have h1 := join_len (txtL plain (l.take k))
  have h2 := (txt_len slim_plain).2 l hf
  have h3 := sum_take ((txtL plain l).map fun x => x.length + 3) k
  rw [← List.map_take, txtL_map, ← List.map_take, ← txtL_map, ← txtL_map] at h3
  omega

set_option maxHeartbeats 2000000 in
theorem rlist_at (l : List Tm) (ih : ∀ x ∈ l, RTextAt x) (A : Option Addr) (c : Nat) (w : World) (hl : Lst w A l c) (hf : formL l = true) (hz : sizeL l ≤ 1000000) (hlen : l.length ≤ 1000000) :
    Calls Tryz.prog 72 #[.slice A l.length c] w fun e w' => e = .returned (.string (S (joinT (txtL plain l)))) ∧ Below w.heap.size w w' := by
  have hll : l.length ≤ 9223372036854775807 := by omega
  have Q := Lib.hid ih
  have HL := Lib.hid hl
  have HF := Lib.hid hf
  have HZ := Lib.hid hz
  have HJ := Lib.hid (join_bound hf hz)
  clear ih hf hz hl
  go_enter Tryz.func72, Tryz.ntmps72
  go_wp2_with fail
  go_loopw [3, 4] (fun z i wr => ∃ (j : Nat) (x : List UInt8), j ≤ l.length ∧ i = .int .i64 j ∧ z = .string (S x) ∧ Hid (joinT (txtL plain (l.take j)) = x) ∧ Below w.heap.size w wr) (fun _ i _ => l.length - (intOf i).toNat)
  case atStart => exact ⟨0, [], Nat.zero_le _, rfl, rfl, Lib.hid rfl, Below.refl _ _⟩
  case round =>
    obtain ⟨j, z, hj, rfl, rfl, HI, hbw⟩ := hrel
    by_cases hlt : j < l.length
    · obtain ⟨b, o, rfl, ⟨c0, c1, c2, c3⟩, hx⟩ := (HL.out.below hbw).get hlt
      have hmem := getD_mem hlt
      have hfx := formL_mem hmem HF.out
      have hzx := size_mem hmem
      have hb1 := HJ.out j
      have hb2 := HJ.out (j + 1)
      rw [HI.out] at hb1
      have hbt := txt_bound hfx (by have := HZ.out; omega)
      have HNX := Lib.hid (show txtL plain (l.take (j + 1)) = txtL plain (l.take j) ++ [(l.getD j default).txt plain] by
        rw [ttake_next hlt, txtL_append]; rfl)
      obtain ⟨x, hx0⟩ : ∃ x, l.getD j default = x := ⟨_, rfl⟩
      rw [hx0] at hmem c0 c1 c2 c3 hx hfx hzx hbt HNX
      have Q1 := Lib.hid (fun W (h : Below wr.heap.size wr W) => Q.out x hmem W (hx.below h) hfx (by have := HZ.out; omega))
      obtain ⟨y, hy⟩ : ∃ y, x.txt plain = y := ⟨_, rfl⟩
      rw [hy] at Q1 HNX hbt
      clear hx0 hmem hx hfx hzx hy
      obtain ⟨k, n, s', A', c', a⟩ := x
      simp only [Tm.kind, Tm.num, Tm.name, Tm.at_, Tm.args, Tm.cap] at c0 c1 c2 c3
      by_cases hj0 : j = 0
      · have hj0' := hj0
        subst hj0
        simp only [Nat.zero_mul, Nat.add_zero] at c0 c1 c2 c3
        have h1 : ¬ 9223372036854775807 < z.length + y.length := by omega
        have HNN := Lib.hid (show joinT (txtL plain (l.take (0 + 1))) = z ++ y by
          rw [HNX.out, ← HI.out]; simp [txtL, joinT, restT])
        clear hb1 hb2 hbt hj0' HNX
        go_wp2_with fail
        refine (Q1.out _ (Below.refl _ _)).mono ?_
        rintro e w2 ⟨rfl, hb2⟩
        have HB := Lib.hid (hbw.trans (hb2.mono hbw.size))
        clear hb2 c0 c1 c2 c3
        go_wp2_with fail
        go_roundw
        case rel => exact ⟨0 + 1, _, by omega, by go_num, by rw [append_str], HNN, HB.out⟩
        case measure => simp [intOf]; omega
      · have hj1 : 0 < j := by omega
        have h1 : ¬ 9223372036854775807 < z.length + 2 := by omega
        have h2 : ¬ 9223372036854775807 < z.length + 2 + y.length := by omega
        have HNN := Lib.hid (show joinT (txtL plain (l.take (j + 1))) = z ++ [44, 32] ++ y by
          rw [HNX.out, join_snoc _ _ (fun h => by
            have := congrArg List.length h
            rw [txtL_len, List.length_take] at this
            simp only [List.length_nil] at this; omega), HI.out])
        clear hb1 hb2 hbt hj0 HNX
        go_wp2_with fail
        refine (Q1.out _ (Below.refl _ _)).mono ?_
        rintro e w2 ⟨rfl, hb2⟩
        have HB := Lib.hid (hbw.trans (hb2.mono hbw.size))
        clear hb2 c0 c1 c2 c3
        go_wp2_with fail
        go_roundw
        case rel => exact ⟨j + 1, _, by omega, by go_num, by rw [show (⟨#[44, 32]⟩ : ByteArray) = S [44, 32] from rfl, append_str, append_str], HNN, HB.out⟩
        case measure => simp [intOf]; omega
    · obtain rfl : j = l.length := by omega
      have HV := Lib.hid (show joinT (txtL plain l) = z by rw [← HI.out, List.take_of_length_le (Nat.le_refl _)])
      clear hlt HI
      go_wp2_with fail
      go_ret
      exact ⟨ret_str (by rw [HV.out]), hbw⟩

set_option maxHeartbeats 2000000 in
theorem rcall_at (s : ByteArray) (l : List Tm) (ih : ∀ x ∈ l, RTextAt x) (A : Option Addr) (c : Nat) (w : World) (hl : Lst w A l c) (hf : formL l = true) (hz : sizeL l ≤ 1000000) (hs : s.size ≤ 1000000) (hlen : l.length ≤ 1000000) :
    Calls Tryz.prog 39 #[.string s, .slice A l.length c] w fun e w' => e = .returned (.string (S (callT plain s.data.toList (txtL plain l)))) ∧ Below w.heap.size w w' := by
  rcases hcase : l with _ | ⟨x0, r0⟩
  · go_enter Tryz.func39, Tryz.ntmps39
    go_wp2_with fail
    go_ret
    exact ⟨rfl, Below.refl _ _⟩
  rw [← hcase]
  have h0 : 0 < l.length := by rw [hcase]; simp
  have hj := join_bound hf hz l.length
  rw [List.take_of_length_le (Nat.le_refl _)] at hj
  have QL := Lib.hid (rlist_at l ih A c w hl hf hz hlen)
  have HV := Lib.hid (show callT plain s.data.toList (txtL plain l) = s.data.toList ++ [40] ++ joinT (txtL plain l) ++ [41] by
    rw [hcase]; simp only [txtL, plain_call, joinT])
  have hll : l.length ≤ 9223372036854775807 := by omega
  have hne : (((l.length : Nat) : Int) == 0) = false := by rw [beq_eq_false_iff_ne]; omega
  obtain ⟨J, hJ⟩ : ∃ J, joinT (txtL plain l) = J := ⟨_, rfl⟩
  rw [hJ] at QL HV hj
  have s1 : ¬ 9223372036854775807 < s.size + 1 := by omega
  have s2 : ¬ 9223372036854775807 < s.size + 1 + J.length := by omega
  have s3 : ¬ 9223372036854775807 < s.size + 1 + J.length + 1 := by omega
  clear ih hl hf hz hs hlen hcase hj hJ
  go_enter Tryz.func39, Tryz.ntmps39
  go_wp2_with fail
  refine QL.out.mono ?_
  rintro e w5 ⟨rfl, hb5⟩
  go_wp2_with fail
  go_ret
  refine ⟨ret_str ?_, hb5⟩
  apply WideShapes.bytes_inj
  rw [show (S (callT plain s.data.toList (txtL plain l))).data.toList = callT plain s.data.toList (txtL plain l) from rfl, HV.out]
  simp
end Go.Proofs.YtlpibnbabgfiiaaGreatDoor
