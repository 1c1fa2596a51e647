/-
  Contracts of floor and Apply of the reference.
-/
import Derived.Test.YtponcbnghiaclaaArApp
namespace Go.Proofs.Ytponcbnghiaclaa
open Go.RowKit

set_option maxHeartbeats 1000000 in
theorem floor_at (a b : Int) (w : World) (ha : inR a = true) (hb : inR b = true) (h0 : b ≠ 0) :
    Calls Try.prog 27 #[.int .i64 a, .int .i64 b] w fun e w' => e = .returned (.int .i64 (flr a b)) ∧ w = w' := by
  rw [inR_iff] at ha hb
  obtain ⟨hb1, hb2⟩ := hb
  obtain ⟨ha1, ha2⟩ := ha
  by_cases h : b < 0
  · obtain ⟨d, rfl⟩ : ∃ d, b = -d := ⟨-b, by omega⟩
    obtain ⟨c, rfl⟩ : ∃ c, a = -c := ⟨-a, by omega⟩
    have HV := Lib.hid (show flr (-c) (-d) = c / d by unfold flr; rw [if_pos h, Int.neg_neg, Int.neg_neg])
    have hd : 1 ≤ d := by omega
    by_cases hc : 0 ≤ c
    · have hz : (d == 0) = false := by simp; omega
      have q := div_small (show 0 < d by omega) hc
      obtain ⟨q1, q2⟩ := q
      clear h0
      go_enter Try.func27, Try.ntmps27
      go_wp2
      go_ret
      exact ⟨by rw [HV.out]; rfl, rfl⟩
    · have hz : (d == 0) = false := by simp; omega
      have HR := Lib.hid (ref_flr (a := c) (b := d) (by omega))
      have q := div_small (show 0 < d by omega) (show 0 ≤ d - 1 - c by omega)
      obtain ⟨q1, q2⟩ := q
      clear h0
      go_enter Try.func27, Try.ntmps27
      go_wp2
      go_ret
      exact ⟨by rw [HV.out, ← HR.out]; rfl, rfl⟩
  · have hd : 1 ≤ b := by omega
    have HV := Lib.hid (show flr a b = a / b by unfold flr; rw [if_neg h])
    by_cases hc : 0 ≤ a
    · have hz : (b == 0) = false := by simp; omega
      have q := div_small (show 0 < b by omega) hc
      obtain ⟨q1, q2⟩ := q
      clear h0
      go_enter Try.func27, Try.ntmps27
      go_wp2
      go_ret
      exact ⟨by rw [HV.out]; rfl, rfl⟩
    · have hz : (b == 0) = false := by simp; omega
      have HR := Lib.hid (ref_flr (a := a) (b := b) (by omega))
      have q := div_small (show 0 < b by omega) (show 0 ≤ b - 1 - a by omega)
      obtain ⟨q1, q2⟩ := q
      clear h0
      go_enter Try.func27, Try.ntmps27
      go_wp2
      go_ret
      exact ⟨by rw [HV.out, ← HR.out]; rfl, rfl⟩

/-- What the switch and the division leave, at each operator. -/
theorem ref_apply_zero (s : ByteArray) (a : Int) (w : World) (hs : s.data.toList = [47] ∨ s.data.toList = [37]) (hx : inR a = true) :
    Calls Try.prog 11 #[.string s, .int .i64 a, .int .i64 0] w fun e w' => e = .returned (.tuple #[.int .i64 0, .int .i64 12]) ∧ w = w' := by
  have hy : inR 0 = true := by decide
  rcases hs with h | h
  all_goals
    obtain rfl := str_of h
    have Q1 := Lib.hid (fun W => ref_oper_at _ W (r := true) (show opB _ = true by rw [h]; decide))
    have Q2 := Lib.hid (fun W => ref_in_at a W hx)
    have Q3 := Lib.hid (fun W => ref_in_at 0 W hy)
    clear h hx hy
    go_enter Try.func11, Try.ntmps11
    go_wp2_with fail
    refine (Q1.out _).mono ?_
    rintro e w1 ⟨rfl, rfl⟩
    go_wp2_with fail
    refine (Q2.out _).mono ?_
    rintro e w1 ⟨rfl, rfl⟩
    go_wp2_with fail
    refine (Q3.out _).mono ?_
    rintro e w1 ⟨rfl, rfl⟩
    go_wp2_with fail
    go_ret2
    exact ⟨rfl, rfl⟩

set_option maxHeartbeats 2000000 in
theorem ref_apply_at (s : ByteArray) (a b : Int) (w : World) :
    Calls Try.prog 11 #[.string s, .int .i64 a, .int .i64 b] w fun e w' => e = .returned (pairV (app s.data.toList a b)) ∧ w = w' := by
  obtain ⟨o, ho⟩ : ∃ o, opB s.data.toList = o := ⟨_, rfl⟩
  have Q1 := Lib.hid (fun W => ref_oper_at s W ho)
  cases o
  · have HV := Lib.hid (show app s.data.toList a b = (0, 7) by unfold app; rw [if_pos ho])
    clear ho
    go_enter Try.func11, Try.ntmps11
    go_wp2_with fail
    refine (Q1.out _).mono ?_
    rintro e w1 ⟨rfl, rfl⟩
    go_wp2_with fail
    go_ret2
    exact ⟨by rw [HV.out]; rfl, rfl⟩
  obtain ⟨x, hx⟩ : ∃ x, inR a = x := ⟨_, rfl⟩
  have Q2 := Lib.hid (fun W => ref_in_at a W hx)
  cases x
  · have HV := Lib.hid (show app s.data.toList a b = (0, 5) by unfold app; rw [if_neg (by rw [ho]; simp), if_pos (by rw [hx]; rfl)])
    clear ho hx
    go_enter Try.func11, Try.ntmps11
    go_wp2_with fail
    refine (Q1.out _).mono ?_
    rintro e w1 ⟨rfl, rfl⟩
    go_wp2_with fail
    refine (Q2.out _).mono ?_
    rintro e w1 ⟨rfl, rfl⟩
    go_wp2_with fail
    go_ret2
    exact ⟨by rw [HV.out]; rfl, rfl⟩
  obtain ⟨y, hy⟩ : ∃ y, inR b = y := ⟨_, rfl⟩
  have Q3 := Lib.hid (fun W => ref_in_at b W hy)
  cases y
  · have HV := Lib.hid (show app s.data.toList a b = (0, 5) by unfold app; rw [if_neg (by rw [ho]; simp), if_pos (by rw [hx, hy]; rfl)])
    clear ho hx hy
    go_enter Try.func11, Try.ntmps11
    go_wp2_with fail
    refine (Q1.out _).mono ?_
    rintro e w1 ⟨rfl, rfl⟩
    go_wp2_with fail
    refine (Q2.out _).mono ?_
    rintro e w1 ⟨rfl, rfl⟩
    go_wp2_with fail
    refine (Q3.out _).mono ?_
    rintro e w1 ⟨rfl, rfl⟩
    go_wp2_with fail
    go_ret2
    exact ⟨by rw [HV.out]; rfl, rfl⟩
  obtain ⟨z, hz⟩ : ∃ z, zeroB s.data.toList b = z := ⟨_, rfl⟩
  cases z
  · obtain ⟨v, hv⟩ : ∃ v, inR (comp s.data.toList a b) = v := ⟨_, rfl⟩
    have Q5 := Lib.hid (fun W => ref_in_at (comp s.data.toList a b) W hv)
    have HV := Lib.hid (show app s.data.toList a b = if v = true then (comp s.data.toList a b, 0) else (0, 5) by unfold app; rw [if_neg (by rw [ho]; simp), if_neg (by rw [hx, hy]; simp), if_neg (by rw [hz]; simp), hv])
    have ha' := (inR_iff a).1 hx
    have hb' := (inR_iff b).1 hy
    obtain ⟨hm1, hm2⟩ := mul_fit ha' hb'
    obtain ⟨ha1, ha2⟩ := ha'
    obtain ⟨hb1, hb2⟩ := hb'
    rcases op_cases ho with h | h | h | h | h
    · obtain rfl := str_of h
      have hc : comp [43] a b = a + b := rfl
      rw [show (ByteArray.mk [43].toArray).data.toList = [43] from rfl, hc] at HV Q5
      clear h ho hx hy hz hv hc
      cases v
      all_goals
        go_enter Try.func11, Try.ntmps11
        go_wp2_with fail
        refine (Q1.out _).mono ?_
        rintro e w1 ⟨rfl, rfl⟩
        go_wp2_with fail
        refine (Q2.out _).mono ?_
        rintro e w1 ⟨rfl, rfl⟩
        go_wp2_with fail
        refine (Q3.out _).mono ?_
        rintro e w1 ⟨rfl, rfl⟩
        go_wp2_with fail
        refine (Q5.out _).mono ?_
        rintro e w1 ⟨rfl, rfl⟩
        go_wp2_with fail
        go_ret2
        exact ⟨by show _ = Ending.returned (pairV (app [43] a b)); rw [HV.out]; rfl, rfl⟩
    · obtain rfl := str_of h
      have hc : comp [45] a b = a - b := rfl
      rw [show (ByteArray.mk [45].toArray).data.toList = [45] from rfl, hc] at HV Q5
      clear h ho hx hy hz hv hc
      cases v
      all_goals
        go_enter Try.func11, Try.ntmps11
        go_wp2_with fail
        refine (Q1.out _).mono ?_
        rintro e w1 ⟨rfl, rfl⟩
        go_wp2_with fail
        refine (Q2.out _).mono ?_
        rintro e w1 ⟨rfl, rfl⟩
        go_wp2_with fail
        refine (Q3.out _).mono ?_
        rintro e w1 ⟨rfl, rfl⟩
        go_wp2_with fail
        refine (Q5.out _).mono ?_
        rintro e w1 ⟨rfl, rfl⟩
        go_wp2_with fail
        go_ret2
        exact ⟨by show _ = Ending.returned (pairV (app [45] a b)); rw [HV.out]; rfl, rfl⟩
    · obtain rfl := str_of h
      have hc : comp [42] a b = a * b := rfl
      rw [show (ByteArray.mk [42].toArray).data.toList = [42] from rfl, hc] at HV Q5
      clear h ho hx hy hz hv hc
      cases v
      all_goals
        go_enter Try.func11, Try.ntmps11
        go_wp2_with fail
        refine (Q1.out _).mono ?_
        rintro e w1 ⟨rfl, rfl⟩
        go_wp2_with fail
        refine (Q2.out _).mono ?_
        rintro e w1 ⟨rfl, rfl⟩
        go_wp2_with fail
        refine (Q3.out _).mono ?_
        rintro e w1 ⟨rfl, rfl⟩
        go_wp2_with fail
        refine (Q5.out _).mono ?_
        rintro e w1 ⟨rfl, rfl⟩
        go_wp2_with fail
        go_ret2
        exact ⟨by show _ = Ending.returned (pairV (app [42] a b)); rw [HV.out]; rfl, rfl⟩
    · obtain rfl := str_of h
      have hb0 : b ≠ 0 := by rintro rfl; simp [zeroB] at hz
      have hn : (b == 0) = false := by simpa using hb0
      have Q4 := Lib.hid (fun W => floor_at a b W hx hy hb0)
      have hc : comp [47] a b = flr a b := rfl
      rw [show (ByteArray.mk [47].toArray).data.toList = [47] from rfl, hc] at HV Q5
      clear h ho hx hy hz hv hc hb0
      generalize flr a b = q at *
      cases v
      all_goals
        go_enter Try.func11, Try.ntmps11
        go_wp2_with fail
        refine (Q1.out _).mono ?_
        rintro e w1 ⟨rfl, rfl⟩
        go_wp2_with fail
        refine (Q2.out _).mono ?_
        rintro e w1 ⟨rfl, rfl⟩
        go_wp2_with fail
        refine (Q3.out _).mono ?_
        rintro e w1 ⟨rfl, rfl⟩
        go_wp2_with fail
        refine (Q4.out _).mono ?_
        rintro e w1 ⟨rfl, rfl⟩
        go_wp2_with fail
        refine (Q5.out _).mono ?_
        rintro e w1 ⟨rfl, rfl⟩
        go_wp2_with fail
        go_ret2
        exact ⟨by show _ = Ending.returned (pairV (app [47] a b)); rw [HV.out]; rfl, rfl⟩
    · obtain rfl := str_of h
      have hb0 : b ≠ 0 := by rintro rfl; simp [zeroB] at hz
      have hn : (b == 0) = false := by simpa using hb0
      have Q4 := Lib.hid (fun W => floor_at a b W hx hy hb0)
      have hq := flr_small hb0 ha1 ha2
      have hr := flr_rem (a := a) hb0
      have hxx : -2147483648 ≤ a - flr a b * b ∧ a - flr a b * b ≤ 2147483648 := by
        rcases Int.lt_or_gt_of_ne hb0 with h | h
        · have := hr.2 h; omega
        · have := hr.1 h; omega
      obtain ⟨hx1, hx2⟩ := hxx
      obtain ⟨hq1, hq2⟩ := mul_fit hq ⟨hb1, hb2⟩
      have hc : comp [37] a b = a - flr a b * b := rfl
      rw [show (ByteArray.mk [37].toArray).data.toList = [37] from rfl, hc] at HV Q5
      clear h ho hx hy hz hv hc hb0 hr hq
      generalize flr a b = q at *
      cases v
      all_goals
        go_enter Try.func11, Try.ntmps11
        go_wp2_with fail
        refine (Q1.out _).mono ?_
        rintro e w1 ⟨rfl, rfl⟩
        go_wp2_with fail
        refine (Q2.out _).mono ?_
        rintro e w1 ⟨rfl, rfl⟩
        go_wp2_with fail
        refine (Q3.out _).mono ?_
        rintro e w1 ⟨rfl, rfl⟩
        go_wp2_with fail
        refine (Q4.out _).mono ?_
        rintro e w1 ⟨rfl, rfl⟩
        go_wp2_with fail
        refine (Q5.out _).mono ?_
        rintro e w1 ⟨rfl, rfl⟩
        go_wp2_with fail
        go_ret2
        exact ⟨by show _ = Ending.returned (pairV (app [37] a b)); rw [HV.out]; rfl, rfl⟩
  · have HV := Lib.hid (show app s.data.toList a b = (0, 12) by unfold app; rw [if_neg (by rw [ho]; simp), if_neg (by rw [hx, hy]; simp), if_pos hz])
    have HZ : b = 0 ∧ (s.data.toList = [47] ∨ s.data.toList = [37]) := by simpa [zeroB] using hz
    obtain ⟨rfl, h⟩ := HZ
    rw [HV.out]
    exact ref_apply_zero s a w h hx
end Go.Proofs.Ytponcbnghiaclaa
