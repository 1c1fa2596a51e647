/-
  ArApp.
  ArRef.
  ArEval.
  UnPlain.
  UnGraph.
-/
import Derived.Test.YtgpglgehlnfggaaGreatMe9
import Derived.Test.YtgpglgehlnfggaaGreatMe5
namespace Go.Proofs.YtgpglgehlnfggaaGreat
open Go.RowKit
theorem tdiv_fit {a b : Int} (ha : inR a = true) (hb : b ≠ 0) : -2147483648 ≤ a.tdiv b ∧ a.tdiv b ≤ 2147483648 := by
  rw [inR_iff] at ha
  have key : ∀ c d : Int, 0 ≤ c → 0 < d → c ≤ 2147483648 → 0 ≤ c / d ∧ c / d ≤ 2147483648 := fun c d h1 h2 h3 => by
    have := div_small h2 h1; omega
  have k2 : ∀ d : Int, 0 < d → -2147483648 ≤ a.tdiv d ∧ a.tdiv d ≤ 2147483648 := fun d hd => by
    by_cases h : 0 ≤ a
    · rw [(tdivmod_pos h).1]; have := key a d h hd (by omega); omega
    · obtain ⟨c, rfl⟩ : ∃ c, a = -c := ⟨-a, by omega⟩
      rw [Int.neg_tdiv, (tdivmod_pos (by omega)).1]
      have := key c d (by omega) hd (by omega); omega
  by_cases h : 0 < b
  · exact k2 b h
  · obtain ⟨d, rfl⟩ : ∃ d, b = -d := ⟨-b, by omega⟩
    rw [Int.tdiv_neg]
    have := k2 d (by omega); omega
theorem tq_yes {a b : Int} (h1 : (a.tmod b != 0) = true) (h2 : (!decide (a < 0) == decide (b < 0)) = true) : tq a b = a.tdiv b - 1 := by
  have e : (decide (a < 0) != decide (b < 0)) = true := by
    cases h3 : decide (a < 0) <;> cases h4 : decide (b < 0) <;> simp_all
  unfold tq
  rw [if_pos ⟨by simpa using h1, e⟩]
theorem tq_no {a b : Int} (h1 : (a.tmod b != 0) = false ∨ (!decide (a < 0) == decide (b < 0)) = false) : tq a b = a.tdiv b := by
  unfold tq
  rw [if_neg]
  rintro ⟨h2, h3⟩
  rcases h1 with h1 | h1
  · exact h2 (by simpa using h1)
  · cases h5 : decide (a < 0) <;> cases h4 : decide (b < 0) <;> simp_all
set_option maxHeartbeats 1000000 in
theorem quotient_at (a b : Int) (w : World) (ha : inR a = true) (hb : inR b = true) (h0 : b ≠ 0) :
    Calls Tryz.prog 162 #[.int .i64 a, .int .i64 b] w fun e w' => e = .returned (.int .i64 (flr a b)) ∧ w = w' := by
  have hq := tdiv_fit ha h0
  have HF := Lib.hid (tq_flr (a := a) h0)
  rw [inR_iff] at ha hb
  obtain ⟨hb1, hb2⟩ := hb
  obtain ⟨ha1, ha2⟩ := ha
  obtain ⟨hq1, hq2⟩ := hq
  have hz : (b == 0) = false := by simpa using h0
  cases hx : a.tmod b != 0
  · have HV := Lib.hid (show flr a b = a.tdiv b by rw [← HF.out]; exact tq_no (.inl hx))
    clear HF
    go_enter Tryz.func162, Tryz.ntmps162
    go_wp2
    go_ret
    exact ⟨by rw [HV.out]; rfl, rfl⟩
  · cases hy : !decide (a < 0) == decide (b < 0)
    · have HV := Lib.hid (show flr a b = a.tdiv b by rw [← HF.out]; exact tq_no (.inr hy))
      clear HF
      go_enter Tryz.func162, Tryz.ntmps162
      go_wp2
      go_ret
      exact ⟨by rw [HV.out]; rfl, rfl⟩
    · have HV := Lib.hid (show flr a b = a.tdiv b - 1 by rw [← HF.out]; exact tq_yes hx hy)
      clear HF
      go_enter Tryz.func162, Tryz.ntmps162
      go_wp2
      go_ret
      exact ⟨by rw [HV.out]; rfl, rfl⟩
theorem mul_fit {a b : Int} (ha : -2147483648 ≤ a ∧ a ≤ 2147483648) (hb : -2147483648 ≤ b ∧ b ≤ 2147483648) : -4611686018427387904 ≤ a * b ∧ a * b ≤ 4611686018427387904 := by
  have key : ∀ c d : Int, 0 ≤ c → c ≤ 2147483648 → 0 ≤ d → d ≤ 2147483648 → 0 ≤ c * d ∧ c * d ≤ 4611686018427387904 := fun c d h1 h2 h3 h4 => by
    refine ⟨Int.mul_nonneg h1 h3, ?_⟩
    have e1 : c * d ≤ 2147483648 * d := Int.mul_le_mul_of_nonneg_right h2 h3
    omega
  by_cases h1 : 0 ≤ a <;> by_cases h2 : 0 ≤ b
  · have := key a b h1 (by omega) h2 (by omega); omega
  · have := key a (-b) h1 (by omega) (by omega) (by omega)
    rw [Int.mul_neg] at this; omega
  · have := key (-a) b (by omega) (by omega) h2 (by omega)
    rw [Int.neg_mul] at this; omega
  · have := key (-a) (-b) (by omega) (by omega) (by omega) (by omega)
    rw [Int.neg_mul_neg] at this; omega
set_option maxHeartbeats 1000000 in
theorem compute_at (s : ByteArray) (a b : Int) (w : World) (hs : opB s.data.toList = true) (ha : inR a = true) (hb : inR b = true) (h0 : zeroB s.data.toList b = false) :
    Calls Tryz.prog 139 #[.string s, .int .i64 a, .int .i64 b] w fun e w' => e = .returned (.int .i64 (acomp s.data.toList a b)) ∧ w = w' := by
  have ha' := (inR_iff a).1 ha
  have hb' := (inR_iff b).1 hb
  have hm := mul_fit ha' hb'
  obtain ⟨hb1, hb2⟩ := hb'
  obtain ⟨ha1, ha2⟩ := ha'
  obtain ⟨hm1, hm2⟩ := hm
  rcases op_cases hs with h | h | h | h | h
  · obtain rfl := astr_of h
    clear h hs h0 ha hb
    go_enter Tryz.func139, Tryz.ntmps139
    go_wp2
    go_ret
    exact ⟨rfl, rfl⟩
  · obtain rfl := astr_of h
    clear h hs h0 ha hb
    go_enter Tryz.func139, Tryz.ntmps139
    go_wp2
    go_ret
    exact ⟨rfl, rfl⟩
  · obtain rfl := astr_of h
    clear h hs h0 ha hb
    go_enter Tryz.func139, Tryz.ntmps139
    go_wp2
    go_ret
    exact ⟨rfl, rfl⟩
  · obtain rfl := astr_of h
    have hb0 : b ≠ 0 := by rintro rfl; simp [zeroB] at h0
    have Q := Lib.hid (fun W => quotient_at a b W ha hb hb0)
    clear h hs h0 ha hb hb0
    go_enter Tryz.func139, Tryz.ntmps139
    go_wp2_with fail
    refine (Q.out _).mono ?_
    rintro e w1 ⟨rfl, rfl⟩
    go_wp2_with fail
    go_ret
    exact ⟨rfl, rfl⟩
  · obtain rfl := astr_of h
    have hb0 : b ≠ 0 := by rintro rfl; simp [zeroB] at h0
    have Q := Lib.hid (fun W => quotient_at a b W ha hb hb0)
    have hq := flr_small hb0 ha1 ha2
    have hr := flr_rem (a := a) hb0
    have hx : -2147483648 ≤ a - flr a b * b ∧ a - flr a b * b ≤ 2147483648 := by
      rcases Int.lt_or_gt_of_ne hb0 with h | h
      · have := hr.2 h; omega
      · have := hr.1 h; omega
    obtain ⟨hx1, hx2⟩ := hx
    obtain ⟨hq1, hq2⟩ := mul_fit hq ⟨hb1, hb2⟩
    have HV := Lib.hid (show acomp [37] a b = a - flr a b * b from rfl)
    clear h hs h0 ha hb hb0 hr hq
    generalize flr a b = q at *
    go_enter Tryz.func139, Tryz.ntmps139
    go_wp2_with fail
    refine (Q.out _).mono ?_
    rintro e w1 ⟨rfl, rfl⟩
    go_wp2_with fail
    go_ret
    exact ⟨by show Ending.returned _ = Ending.returned (.int .i64 (acomp [37] a b)); rw [HV.out]; rfl, rfl⟩
abbrev pairV (p : Int × Int) : Value := .tuple #[.int .i64 p.1, .int .i64 p.2]
set_option maxHeartbeats 1000000 in
theorem aapply_at (s : ByteArray) (a b : Int) (w : World) :
    Calls Tryz.prog 96 #[.string s, .int .i64 a, .int .i64 b] w fun e w' => e = .returned (pairV (app s.data.toList a b)) ∧ w = w' := by
  obtain ⟨o, ho⟩ : ∃ o, opB s.data.toList = o := ⟨_, rfl⟩
  have Q1 := Lib.hid (fun W => is_op_at s W ho)
  cases o
  · have HV := Lib.hid (show app s.data.toList a b = (0, 7) by unfold app; rw [if_pos ho])
    clear ho
    go_enter Tryz.func96, Tryz.ntmps96
    go_wp2_with fail
    refine (Q1.out _).mono ?_
    rintro e w1 ⟨rfl, rfl⟩
    go_wp2_with fail
    go_ret2
    exact ⟨by rw [HV.out]; rfl, rfl⟩
  obtain ⟨x, hx⟩ : ∃ x, inR a = x := ⟨_, rfl⟩
  have Q2 := Lib.hid (fun W => in_range_at a W hx)
  cases x
  · have HV := Lib.hid (show app s.data.toList a b = (0, 5) by unfold app; rw [if_neg (by rw [ho]; simp), if_pos (by rw [hx]; rfl)])
    clear ho hx
    go_enter Tryz.func96, Tryz.ntmps96
    go_wp2_with fail
    refine (Q1.out _).mono ?_
    rintro e w1 ⟨rfl, rfl⟩
    go_wp2_with fail
    refine (Q2.out _).mono ?_
    rintro e w1 ⟨rfl, rfl⟩
    go_wp2_with fail
    go_ret2
    exact ⟨by rw [HV.out]; rfl, rfl⟩
  obtain ⟨y, hy⟩ : ∃ y, inR b = y := ⟨_, rfl⟩
  have Q3 := Lib.hid (fun W => in_range_at b W hy)
  cases y
  · have HV := Lib.hid (show app s.data.toList a b = (0, 5) by unfold app; rw [if_neg (by rw [ho]; simp), if_pos (by rw [hx, hy]; rfl)])
    clear ho hx hy
    go_enter Tryz.func96, Tryz.ntmps96
    go_wp2_with fail
    refine (Q1.out _).mono ?_
    rintro e w1 ⟨rfl, rfl⟩
    go_wp2_with fail
    refine (Q2.out _).mono ?_
    rintro e w1 ⟨rfl, rfl⟩
    go_wp2_with fail
    refine (Q3.out _).mono ?_
    rintro e w1 ⟨rfl, rfl⟩
    go_wp2_with fail
    go_ret2
    exact ⟨by rw [HV.out]; rfl, rfl⟩
  obtain ⟨z, hz⟩ : ∃ z, zeroB s.data.toList b = z := ⟨_, rfl⟩
  cases z
  · have Q4 := Lib.hid (fun W => compute_at s a b W ho hx hy hz)
    obtain ⟨v, hv⟩ : ∃ v, inR (acomp s.data.toList a b) = v := ⟨_, rfl⟩
    have Q5 := Lib.hid (fun W => in_range_at (acomp s.data.toList a b) W hv)
    have HV := Lib.hid (show app s.data.toList a b = if v = true then (acomp s.data.toList a b, 0) else (0, 5) by unfold app; rw [if_neg (by rw [ho]; simp), if_neg (by rw [hx, hy]; simp), if_neg (by rw [hz]; simp), hv])
    have HZ : (b == 0) = false ∨ ((b == 0) = true ∧ (s.toList == [47]) = false ∧ (s.toList == [37]) = false) := by
      by_cases hb0 : b = 0
      · subst hb0
        simp only [zeroB, decide_true, Bool.true_and, Bool.or_eq_false_iff, decide_eq_false_iff_not] at hz
        exact .inr ⟨rfl, araw_ne hz.1, araw_ne hz.2⟩
      · exact .inl (by simpa using hb0)
    have HI := Lib.hid (show inR a = true ∧ inR b = true from ⟨hx, hy⟩)
    clear ho hx hy hz hv
    generalize acomp s.data.toList a b = n at *
    rcases HZ with h0 | ⟨h0, h1, h2⟩
    all_goals
      cases v
      all_goals
        go_enter Tryz.func96, Tryz.ntmps96
        go_wp2_with fail
        refine (Q1.out _).mono ?_
        rintro e w1 ⟨rfl, rfl⟩
        go_wp2_with fail
        refine (Q2.out _).mono ?_
        rintro e w1 ⟨rfl, rfl⟩
        go_wp2_with fail
        refine (Q3.out _).mono ?_
        rintro e w1 ⟨rfl, rfl⟩
        go_wp2_with fail
        refine (Q4.out _).mono ?_
        rintro e w1 ⟨rfl, rfl⟩
        go_wp2_with fail
        refine (Q5.out _).mono ?_
        rintro e w1 ⟨rfl, rfl⟩
        go_wp2_with fail
        go_ret2
        exact ⟨by rw [HV.out]; rfl, rfl⟩
  · have HV := Lib.hid (show app s.data.toList a b = (0, 12) by unfold app; rw [if_neg (by rw [ho]; simp), if_neg (by rw [hx, hy]; simp), if_pos hz])
    have HZ : b = 0 ∧ (s.data.toList = [47] ∨ s.data.toList = [37]) := by simpa [zeroB] using hz
    clear ho hx hy hz
    obtain ⟨rfl, h | h⟩ := HZ
    all_goals
      obtain rfl := astr_of h
      clear h
      go_enter Tryz.func96, Tryz.ntmps96
      go_wp2_with fail
      refine (Q1.out _).mono ?_
      rintro e w1 ⟨rfl, rfl⟩
      go_wp2_with fail
      refine (Q2.out _).mono ?_
      rintro e w1 ⟨rfl, rfl⟩
      go_wp2_with fail
      refine (Q3.out _).mono ?_
      rintro e w1 ⟨rfl, rfl⟩
      go_wp2_with fail
      go_ret2
      exact ⟨by rw [HV.out]; rfl, rfl⟩
end Go.Proofs.YtgpglgehlnfggaaGreat
namespace Go.Proofs.YtgpglgehlnfggaaGreat
open Go.RowKit
set_option maxHeartbeats 1000000 in
theorem floor_at (a b : Int) (w : World) (ha : inR a = true) (hb : inR b = true) (h0 : b ≠ 0) :
    Calls Tryz.prog 141 #[.int .i64 a, .int .i64 b] w fun e w' => e = .returned (.int .i64 (flr a b)) ∧ w = w' := by
  rw [inR_iff] at ha hb
  obtain ⟨hb1, hb2⟩ := hb
  obtain ⟨ha1, ha2⟩ := ha
  by_cases h : b < 0
  · obtain ⟨d, rfl⟩ : ∃ d, b = -d := ⟨-b, by omega⟩
    obtain ⟨c, rfl⟩ : ∃ c, a = -c := ⟨-a, by omega⟩
    have HV := Lib.hid (show flr (-c) (-d) = c / d by unfold flr; rw [if_pos h, Int.neg_neg, Int.neg_neg])
    have hd : 1 ≤ d := by omega
    by_cases hc : 0 ≤ c
    · have hz : (d == 0) = false := by simp; omega
      have q := div_small (show 0 < d by omega) hc
      obtain ⟨q1, q2⟩ := q
      clear h0
      go_enter Tryz.func141, Tryz.ntmps141
      go_wp2
      go_ret
      exact ⟨by rw [HV.out]; rfl, rfl⟩
    · have hz : (d == 0) = false := by simp; omega
      have HR := Lib.hid (ref_flr (a := c) (b := d) (by omega))
      have q := div_small (show 0 < d by omega) (show 0 ≤ d - 1 - c by omega)
      obtain ⟨q1, q2⟩ := q
      clear h0
      go_enter Tryz.func141, Tryz.ntmps141
      go_wp2
      go_ret
      exact ⟨by rw [HV.out, ← HR.out]; rfl, rfl⟩
  · have hd : 1 ≤ b := by omega
    have HV := Lib.hid (show flr a b = a / b by unfold flr; rw [if_neg h])
    by_cases hc : 0 ≤ a
    · have hz : (b == 0) = false := by simp; omega
      have q := div_small (show 0 < b by omega) hc
      obtain ⟨q1, q2⟩ := q
      clear h0
      go_enter Tryz.func141, Tryz.ntmps141
      go_wp2
      go_ret
      exact ⟨by rw [HV.out]; rfl, rfl⟩
    · have hz : (b == 0) = false := by simp; omega
      have HR := Lib.hid (ref_flr (a := a) (b := b) (by omega))
      have q := div_small (show 0 < b by omega) (show 0 ≤ b - 1 - a by omega)
      obtain ⟨q1, q2⟩ := q
      clear h0
      go_enter Tryz.func141, Tryz.ntmps141
      go_wp2
      go_ret
      exact ⟨by rw [HV.out, ← HR.out]; rfl, rfl⟩
theorem ref_apply_zero (s : ByteArray) (a : Int) (w : World) (hs : s.data.toList = [47] ∨ s.data.toList = [37]) (hx : inR a = true) :
    Calls Tryz.prog 101 #[.string s, .int .i64 a, .int .i64 0] w fun e w' => e = .returned (.tuple #[.int .i64 0, .int .i64 12]) ∧ w = w' := by
  have hy : inR 0 = true := by decide
  rcases hs with h | h
  all_goals
    obtain rfl := astr_of h
    have Q1 := Lib.hid (fun W => ref_oper_at _ W (r := true) (show opB _ = true by rw [h]; decide))
    have Q2 := Lib.hid (fun W => ref_in_at a W hx)
    have Q3 := Lib.hid (fun W => ref_in_at 0 W hy)
    clear h hx hy
    go_enter Tryz.func101, Tryz.ntmps101
    go_wp2_with fail
    refine (Q1.out _).mono ?_
    rintro e w1 ⟨rfl, rfl⟩
    go_wp2_with fail
    refine (Q2.out _).mono ?_
    rintro e w1 ⟨rfl, rfl⟩
    go_wp2_with fail
    refine (Q3.out _).mono ?_
    rintro e w1 ⟨rfl, rfl⟩
    go_wp2_with fail
    go_ret2
    exact ⟨rfl, rfl⟩
set_option maxHeartbeats 2000000 in
theorem ref_aapply_at (s : ByteArray) (a b : Int) (w : World) :
    Calls Tryz.prog 101 #[.string s, .int .i64 a, .int .i64 b] w fun e w' => e = .returned (pairV (app s.data.toList a b)) ∧ w = w' := by
  obtain ⟨o, ho⟩ : ∃ o, opB s.data.toList = o := ⟨_, rfl⟩
  have Q1 := Lib.hid (fun W => ref_oper_at s W ho)
  cases o
  · have HV := Lib.hid (show app s.data.toList a b = (0, 7) by unfold app; rw [if_pos ho])
    clear ho
    go_enter Tryz.func101, Tryz.ntmps101
    go_wp2_with fail
    refine (Q1.out _).mono ?_
    rintro e w1 ⟨rfl, rfl⟩
    go_wp2_with fail
    go_ret2
    exact ⟨by rw [HV.out]; rfl, rfl⟩
  obtain ⟨x, hx⟩ : ∃ x, inR a = x := ⟨_, rfl⟩
  have Q2 := Lib.hid (fun W => ref_in_at a W hx)
  cases x
  · have HV := Lib.hid (show app s.data.toList a b = (0, 5) by unfold app; rw [if_neg (by rw [ho]; simp), if_pos (by rw [hx]; rfl)])
    clear ho hx
    go_enter Tryz.func101, Tryz.ntmps101
    go_wp2_with fail
    refine (Q1.out _).mono ?_
    rintro e w1 ⟨rfl, rfl⟩
    go_wp2_with fail
    refine (Q2.out _).mono ?_
    rintro e w1 ⟨rfl, rfl⟩
    go_wp2_with fail
    go_ret2
    exact ⟨by rw [HV.out]; rfl, rfl⟩
  obtain ⟨y, hy⟩ : ∃ y, inR b = y := ⟨_, rfl⟩
  have Q3 := Lib.hid (fun W => ref_in_at b W hy)
  cases y
  · have HV := Lib.hid (show app s.data.toList a b = (0, 5) by unfold app; rw [if_neg (by rw [ho]; simp), if_pos (by rw [hx, hy]; rfl)])
    clear ho hx hy
    go_enter Tryz.func101, Tryz.ntmps101
    go_wp2_with fail
    refine (Q1.out _).mono ?_
    rintro e w1 ⟨rfl, rfl⟩
    go_wp2_with fail
    refine (Q2.out _).mono ?_
    rintro e w1 ⟨rfl, rfl⟩
    go_wp2_with fail
    refine (Q3.out _).mono ?_
    rintro e w1 ⟨rfl, rfl⟩
    go_wp2_with fail
    go_ret2
    exact ⟨by rw [HV.out]; rfl, rfl⟩
  obtain ⟨z, hz⟩ : ∃ z, zeroB s.data.toList b = z := ⟨_, rfl⟩
  cases z
  · obtain ⟨v, hv⟩ : ∃ v, inR (acomp s.data.toList a b) = v := ⟨_, rfl⟩
    have Q5 := Lib.hid (fun W => ref_in_at (acomp s.data.toList a b) W hv)
    have HV := Lib.hid (show app s.data.toList a b = if v = true then (acomp s.data.toList a b, 0) else (0, 5) by unfold app; rw [if_neg (by rw [ho]; simp), if_neg (by rw [hx, hy]; simp), if_neg (by rw [hz]; simp), hv])
    have ha' := (inR_iff a).1 hx
    have hb' := (inR_iff b).1 hy
    obtain ⟨hm1, hm2⟩ := mul_fit ha' hb'
    obtain ⟨ha1, ha2⟩ := ha'
    obtain ⟨hb1, hb2⟩ := hb'
    rcases op_cases ho with h | h | h | h | h
    · obtain rfl := astr_of h
      have hc : acomp [43] a b = a + b := rfl
      rw [show (ByteArray.mk [43].toArray).data.toList = [43] from rfl, hc] at HV Q5
      clear h ho hx hy hz hv hc
      cases v
      all_goals
        go_enter Tryz.func101, Tryz.ntmps101
        go_wp2_with fail
        refine (Q1.out _).mono ?_
        rintro e w1 ⟨rfl, rfl⟩
        go_wp2_with fail
        refine (Q2.out _).mono ?_
        rintro e w1 ⟨rfl, rfl⟩
        go_wp2_with fail
        refine (Q3.out _).mono ?_
        rintro e w1 ⟨rfl, rfl⟩
        go_wp2_with fail
        refine (Q5.out _).mono ?_
        rintro e w1 ⟨rfl, rfl⟩
        go_wp2_with fail
        go_ret2
        exact ⟨by show _ = Ending.returned (pairV (app [43] a b)); rw [HV.out]; rfl, rfl⟩
    · obtain rfl := astr_of h
      have hc : acomp [45] a b = a - b := rfl
      rw [show (ByteArray.mk [45].toArray).data.toList = [45] from rfl, hc] at HV Q5
      clear h ho hx hy hz hv hc
      cases v
      all_goals
        go_enter Tryz.func101, Tryz.ntmps101
        go_wp2_with fail
        refine (Q1.out _).mono ?_
        rintro e w1 ⟨rfl, rfl⟩
        go_wp2_with fail
        refine (Q2.out _).mono ?_
        rintro e w1 ⟨rfl, rfl⟩
        go_wp2_with fail
        refine (Q3.out _).mono ?_
        rintro e w1 ⟨rfl, rfl⟩
        go_wp2_with fail
        refine (Q5.out _).mono ?_
        rintro e w1 ⟨rfl, rfl⟩
        go_wp2_with fail
        go_ret2
        exact ⟨by show _ = Ending.returned (pairV (app [45] a b)); rw [HV.out]; rfl, rfl⟩
    · obtain rfl := astr_of h
      have hc : acomp [42] a b = a * b := rfl
      rw [show (ByteArray.mk [42].toArray).data.toList = [42] from rfl, hc] at HV Q5
      clear h ho hx hy hz hv hc
      cases v
      all_goals
        go_enter Tryz.func101, Tryz.ntmps101
        go_wp2_with fail
        refine (Q1.out _).mono ?_
        rintro e w1 ⟨rfl, rfl⟩
        go_wp2_with fail
        refine (Q2.out _).mono ?_
        rintro e w1 ⟨rfl, rfl⟩
        go_wp2_with fail
        refine (Q3.out _).mono ?_
        rintro e w1 ⟨rfl, rfl⟩
        go_wp2_with fail
        refine (Q5.out _).mono ?_
        rintro e w1 ⟨rfl, rfl⟩
        go_wp2_with fail
        go_ret2
        exact ⟨by show _ = Ending.returned (pairV (app [42] a b)); rw [HV.out]; rfl, rfl⟩
    · obtain rfl := astr_of h
      have hb0 : b ≠ 0 := by rintro rfl; simp [zeroB] at hz
      have hn : (b == 0) = false := by simpa using hb0
      have Q4 := Lib.hid (fun W => floor_at a b W hx hy hb0)
      have hc : acomp [47] a b = flr a b := rfl
      rw [show (ByteArray.mk [47].toArray).data.toList = [47] from rfl, hc] at HV Q5
      clear h ho hx hy hz hv hc hb0
      generalize flr a b = q at *
      cases v
      all_goals
        go_enter Tryz.func101, Tryz.ntmps101
        go_wp2_with fail
        refine (Q1.out _).mono ?_
        rintro e w1 ⟨rfl, rfl⟩
        go_wp2_with fail
        refine (Q2.out _).mono ?_
        rintro e w1 ⟨rfl, rfl⟩
        go_wp2_with fail
        refine (Q3.out _).mono ?_
        rintro e w1 ⟨rfl, rfl⟩
        go_wp2_with fail
        refine (Q4.out _).mono ?_
        rintro e w1 ⟨rfl, rfl⟩
        go_wp2_with fail
        refine (Q5.out _).mono ?_
        rintro e w1 ⟨rfl, rfl⟩
        go_wp2_with fail
        go_ret2
        exact ⟨by show _ = Ending.returned (pairV (app [47] a b)); rw [HV.out]; rfl, rfl⟩
    · obtain rfl := astr_of h
      have hb0 : b ≠ 0 := by rintro rfl; simp [zeroB] at hz
      have hn : (b == 0) = false := by simpa using hb0
      have Q4 := Lib.hid (fun W => floor_at a b W hx hy hb0)
      have hq := flr_small hb0 ha1 ha2
      have hr := flr_rem (a := a) hb0
      have hxx : -2147483648 ≤ a - flr a b * b ∧ a - flr a b * b ≤ 2147483648 := by
        rcases Int.lt_or_gt_of_ne hb0 with h | h
        · have := hr.2 h; omega
        · have := hr.1 h; omega
      obtain ⟨hx1, hx2⟩ := hxx
      obtain ⟨hq1, hq2⟩ := mul_fit hq ⟨hb1, hb2⟩
      have hc : acomp [37] a b = a - flr a b * b := rfl
      rw [show (ByteArray.mk [37].toArray).data.toList = [37] from rfl, hc] at HV Q5
      clear h ho hx hy hz hv hc hb0 hr hq
      generalize flr a b = q at *
      cases v
      all_goals
        go_enter Tryz.func101, Tryz.ntmps101
        go_wp2_with fail
        refine (Q1.out _).mono ?_
        rintro e w1 ⟨rfl, rfl⟩
        go_wp2_with fail
        refine (Q2.out _).mono ?_
        rintro e w1 ⟨rfl, rfl⟩
        go_wp2_with fail
        refine (Q3.out _).mono ?_
        rintro e w1 ⟨rfl, rfl⟩
        go_wp2_with fail
        refine (Q4.out _).mono ?_
        rintro e w1 ⟨rfl, rfl⟩
        go_wp2_with fail
        refine (Q5.out _).mono ?_
        rintro e w1 ⟨rfl, rfl⟩
        go_wp2_with fail
        go_ret2
        exact ⟨by show _ = Ending.returned (pairV (app [37] a b)); rw [HV.out]; rfl, rfl⟩
  · have HV := Lib.hid (show app s.data.toList a b = (0, 12) by unfold app; rw [if_neg (by rw [ho]; simp), if_neg (by rw [hx, hy]; simp), if_pos hz])
    have HZ : b = 0 ∧ (s.data.toList = [47] ∨ s.data.toList = [37]) := by simpa [zeroB] using hz
    obtain ⟨rfl, h⟩ := HZ
    rw [HV.out]
    exact ref_apply_zero s a w h hx
end Go.Proofs.YtgpglgehlnfggaaGreat
namespace Go.Proofs.YtgpglgehlnfggaaGreat
open Go.RowKit
def Tm.opt (t : Tm) : Bool := decide (t.kind = 2) && (decide (t.args.length = 2) && opB t.name.data.toList)
theorem opt_mk (k n : Int) (s : ByteArray) (A : Option Addr) (c : Nat) (a : List Tm) : (Tm.mk k n s A c a).opt = (decide (k = 2) && (decide (a.length = 2) && opB s.data.toList)) := rfl
theorem akeepc {w w' : World} (hb : Below w.heap.size w w') {p : Addr} {v : Value} (h : w.cell? p = some v) : w'.cell? p = some v := by
  rw [hb.cell (World.block_lt_of_cell? _ _ h)]; exact h
theorem eval_plain {t : Tm} (h0 : t.kind ≠ 0) (h1 : t.kind ≠ 1) (ho : t.opt = false) : t.eval = (0, 11) := by
  obtain ⟨k, n, s, A, c, a⟩ := t
  rw [opt_mk] at ho
  simp only [Tm.kind] at h0 h1
  simp only [Tm.eval, if_neg h0, if_neg h1]
  split
  · rename_i h
    refine comb_two (.inr trivial) ?_
    rw [evalL_length]
    intro hl
    simp [h.1, h.2, hl] at ho
  · rfl
theorem opt_parts {k n : Int} {s : ByteArray} {A : Option Addr} {c : Nat} {a : List Tm} (h : (Tm.mk k n s A c a).opt = true) : k = 2 ∧ (∃ x y, a = [x, y]) ∧ opB s.data.toList = true := by
  rw [opt_mk] at h
  simp only [Bool.and_eq_true, decide_eq_true_eq] at h
  refine ⟨h.1, ?_, h.2.2⟩
  match a, h.2.1 with
  | [x, y], _ => exact ⟨x, y, rfl⟩
set_option maxHeartbeats 1000000 in
theorem is_opt_at (t : Tm) (w : World) {r : Bool} (hr : t.opt = r) :
    Calls Tryz.prog 95 #[t.val] w fun e w' => e = .returned (.bool r) ∧ Below w.heap.size w w' := by
  have B0 := Lib.hid (show ∀ o, Below w.heap.size w (w.alloc o) from fun o => (Below.refl _ _).alloc (Nat.le_refl _) o)
  obtain ⟨k, n, s, A, c, a⟩ := t
  show Calls Tryz.prog 95 #[.agg #[.int .i64 k, .int .i64 n, .string s, .slice A a.length c]] w _
  rw [opt_mk] at hr
  by_cases hk : k = 2
  · subst hk
    by_cases hl : a.length = 2
    · have Q := Lib.hid (fun W => is_op_at s W (r := r) (by simpa [hl] using hr))
      rw [hl]
      clear hr hl
      go_enter Tryz.func95, Tryz.ntmps95
      go_wp2_with fail
      refine (Q.out _).mono ?_
      rintro e w1 ⟨rfl, rfl⟩
      go_wp2_with fail
      go_ret
      exact ⟨rfl, B0.out _⟩
    · obtain rfl : false = r := by rw [← hr]; simp [hl]
      have h1 : (a.length == 2) = false := by simpa using hl
      have h2 : ((a.length : Int) == 2) = false := by simp; omega
      clear hr hl
      go_enter Tryz.func95, Tryz.ntmps95
      go_wp2_with fail
      go_ret
      exact ⟨rfl, B0.out _⟩
  · obtain rfl : false = r := by rw [← hr]; simp [hk]
    have h1 : (k == 2) = false := by simpa using hk
    clear hr hk
    go_enter Tryz.func95, Tryz.ntmps95
    go_wp2_with fail
    go_ret
    exact ⟨rfl, B0.out _⟩
theorem two_cells {w : World} {k n : Int} {s : ByteArray} {A : Option Addr} {c : Nat} {x y : Tm} (h : (Tm.mk k n s A c [x, y]).At w) : ∃ b o, A = some ⟨b, o, none⟩ ∧
    (w.cell? ⟨b, o, none⟩ = some (.int .i64 x.kind) ∧ w.cell? ⟨b, o + 1, none⟩ = some (.int .i64 x.num) ∧ w.cell? ⟨b, o + 2, none⟩ = some (.string x.name) ∧ w.cell? ⟨b, o + 3, none⟩ = some (.slice x.at_ x.args.length x.cap)) ∧
    (w.cell? ⟨b, o + 4, none⟩ = some (.int .i64 y.kind) ∧ w.cell? ⟨b, o + 4 + 1, none⟩ = some (.int .i64 y.num) ∧ w.cell? ⟨b, o + 4 + 2, none⟩ = some (.string y.name) ∧ w.cell? ⟨b, o + 4 + 3, none⟩ = some (.slice y.at_ y.args.length y.cap)) ∧ x.At w ∧ y.At w := by
  obtain ⟨b, o, e, h0, hx⟩ := h.lst.get (i := 0) (by simp [Tm.args])
  obtain ⟨b', o', e', h1, hy⟩ := h.lst.get (i := 1) (by simp [Tm.args])
  simp only [Tm.at_] at e e'
  rw [e, Option.some.injEq, Addr.mk.injEq] at e'
  obtain ⟨rfl, rfl, _⟩ := e'
  exact ⟨b, o, e, by simpa [Tm.args] using h0, by simpa [Tm.args] using h1, by simpa [Tm.args] using hx, by simpa [Tm.args] using hy⟩
set_option maxHeartbeats 2000000 in
theorem eval_at (t : Tm) : ∀ w : World, t.At w → Calls Tryz.prog 64 #[t.val] w fun e w' => e = .returned (pairV t.eval) ∧ Below w.heap.size w w' := by
  induction t using Tm.induct with
  | h k n s A c a ih =>
    intro w hat
    have B0 := Lib.hid (show ∀ o, Below w.heap.size w (w.alloc o) from fun o => (Below.refl _ _).alloc (Nat.le_refl _) o)
    show Calls Tryz.prog 64 #[.agg #[.int .i64 k, .int .i64 n, .string s, .slice A a.length c]] w _
    by_cases hk0 : k = 0
    · subst hk0
      obtain ⟨v, hv⟩ : ∃ v, inR n = v := ⟨_, rfl⟩
      have Q := Lib.hid (fun W => in_range_at n W hv)
      have HV := Lib.hid (show (Tm.mk 0 n s A c a).eval = if v = true then (n, 0) else (0, 5) by simp [Tm.eval, hv])
      clear hv hat ih
      cases v
      all_goals
        go_enter Tryz.func64, Tryz.ntmps64
        go_wp2_with fail
        refine (Q.out _).mono ?_
        rintro e w1 ⟨rfl, rfl⟩
        go_wp2_with fail
        go_ret2
        exact ⟨by rw [HV.out]; rfl, B0.out _⟩
    have n0 : (k == 0) = false := by simpa using hk0
    by_cases hk1 : k = 1
    · subst hk1
      have HV := Lib.hid (show (Tm.mk 1 n s A c a).eval = (0, 17) by simp [Tm.eval])
      clear hat ih n0 hk0
      go_enter Tryz.func64, Tryz.ntmps64
      go_wp2_with fail
      go_ret2
      exact ⟨by rw [HV.out]; rfl, B0.out _⟩
    have n1 : (k == 1) = false := by simpa using hk1
    obtain ⟨p, hp⟩ : ∃ p, (Tm.mk k n s A c a).opt = p := ⟨_, rfl⟩
    have Q1 := Lib.hid (fun W => is_opt_at (Tm.mk k n s A c a) W hp)
    cases p
    · have HV := Lib.hid (eval_plain (t := .mk k n s A c a) hk0 hk1 hp)
      clear hat ih hk0 hk1 hp
      go_enter Tryz.func64, Tryz.ntmps64
      go_wp2_with fail
      refine (Q1.out _).mono ?_
      rintro e w1 ⟨rfl, hb⟩
      go_wp2_with fail
      go_ret2
      exact ⟨by rw [HV.out]; rfl, (B0.out _).trans (hb.mono (by simp))⟩
    · obtain ⟨rfl, ⟨x, y, rfl⟩, ho⟩ := opt_parts hp
      have HV := Lib.hid (eval_fun (n := n) (A := A) (c := c) (x := x) (y := y) ho)
      have Q2 := Lib.hid (fun W (h : Below w.heap.size w W) => ih x (by simp) W ((hat.below h).lst.mem (by simp [Tm.args])))
      have Q3 := Lib.hid (fun W (h : Below w.heap.size w W) => ih y (by simp) W ((hat.below h).lst.mem (by simp [Tm.args])))
      have Q4 := Lib.hid (fun a b W => aapply_at s a b W)
      obtain ⟨b, o, rfl, ⟨c0, c1, c2, c3⟩, ⟨g0, g1, g2, g3⟩, _, _⟩ := two_cells hat
      have HA := Lib.hid hat
      clear hat ih hk0 hk1 hp n0 n1
      go_enter Tryz.func64, Tryz.ntmps64
      go_wp2_with fail
      refine (Q1.out _).mono ?_
      rintro e w1 ⟨rfl, hb⟩
      obtain ⟨d0, d1, d2, d3, hb1⟩ := box4 hb
      have k0 := akeepc hb1 c0
      have k1 := akeepc hb1 c1
      have k2 := akeepc hb1 c2
      have k3 := akeepc hb1 c3
      clear c0 c1 c2 c3 hb
      go_wp2_with fail
      refine (Q2.out _ hb1).mono ?_
      rintro e w2 ⟨rfl, hb2⟩
      replace d2 := akeepc hb2 d2
      replace d3 := akeepc hb2 d3
      clear d0 d1 k0 k1 k2 k3
      have hb3 := hb1.trans (hb2.mono hb1.size)
      have k0 := akeepc hb3 g0
      have k1 := akeepc hb3 g1
      have k2 := akeepc hb3 g2
      have k3 := akeepc hb3 g3
      clear g0 g1 g2 g3 hb1 hb2
      generalize x.eval = p at *
      obtain ⟨p1, p2⟩ := p
      by_cases hp2 : p2 = 0
      · subst hp2
        go_wp2_with fail
        refine (Q3.out _ hb3).mono ?_
        rintro e w4 ⟨rfl, hb4⟩
        replace d2 := akeepc hb4 d2
        clear d3 k0 k1 k2 k3
        have hb5 := hb3.trans (hb4.mono hb3.size)
        generalize y.eval = q at *
        obtain ⟨q1, q2⟩ := q
        by_cases hq2 : q2 = 0
        · subst hq2
          go_wp2_with fail
          refine (Q4.out _ _ _).mono ?_
          rintro e w6 ⟨rfl, rfl⟩
          go_wp2_with fail
          go_ret2
          exact ⟨by rw [HV.out]; rfl, hb5⟩
        · have m2 : (q2 == 0) = false := by simpa using hq2
          have m3 : (q2 != 0) = true := by simpa using hq2
          have HW := Lib.hid hq2
          clear hq2
          go_wp2_with fail
          go_ret2
          exact ⟨by rw [HV.out]; simp [HW.out], hb5⟩
      · have m2 : (p2 == 0) = false := by simpa using hp2
        have m3 : (p2 != 0) = true := by simpa using hp2
        have HW := Lib.hid hp2
        clear hp2
        go_wp2_with fail
        go_ret2
        exact ⟨by rw [HV.out]; simp [HW.out], hb3⟩
end Go.Proofs.YtgpglgehlnfggaaGreat
namespace Go.Proofs.YtgpglgehlnfggaaGreat
open Go
def vr (n : Int) : Tm := .mk 1 n ByteArray.empty none 0 []
mutual
def Tm.sub (f : Int → Tm) : Tm → Tm
  | .mk k n s _ _ a => if k = 1 then f n else .mk k n s none 0 (subL f a)
def subL (f : Int → Tm) : List Tm → List Tm
  | [] => []
  | t :: r => t.sub f :: subL f r
end
theorem subL_map (f : Int → Tm) (l : List Tm) : subL f l = l.map (Tm.sub f) := by
  induction l with
  | nil => rfl
  | cons t r ih => simp [subL, ih]
theorem sub_strip (f : Int → Tm) : (∀ t : Tm, t.strip.sub f = t.sub f) ∧ (∀ l, subL f (stripL l) = subL f l) := by
  refine Tm.induct2 (fun k n s A c a ih => ?_) rfl (fun t r h1 h2 => ?_)
  · simp only [Tm.strip, Tm.sub, ih]
  · simp only [stripL, subL, h1, h2]
theorem sub_like (f : Int → Tm) {t u : Tm} (h : t.strip = u.strip) : t.sub f = u.sub f := by rw [← (sub_strip f).1, h, (sub_strip f).1]
theorem form_var {t : Tm} (h : t.form = true) (hk : t.kind = 1) : t.strip = vr t.num ∧ 0 ≤ t.num ∧ t.num ≤ 1048576 ∧ t.args = [] := by
  obtain ⟨k, n, s, A, c, a⟩ := t
  simp only [Tm.kind] at hk
  subst hk
  simp [Tm.form] at h
  obtain ⟨h1, h2, h3, h4⟩ := h
  rw [h4, h3]
  exact ⟨rfl, h1, h2, rfl⟩
theorem form_kind {t : Tm} (h : t.form = true) : t.kind = 0 ∨ t.kind = 1 ∨ t.kind = 2 := by
  obtain ⟨k, n, s, A, c, a⟩ := t
  simp only [Tm.form] at h
  simp only [Tm.kind]
  split at h
  · exact .inl ‹_›
  · split at h
    · exact .inr (.inl ‹_›)
    · split at h
      · exact .inr (.inr ‹_›)
      · cases h
theorem form_args {t : Tm} (h : t.form = true) : (t.kind ≠ 2 → t.args = []) ∧ formL t.args = true := by
  obtain ⟨k, n, s, A, c, a⟩ := t
  simp only [Tm.form] at h
  simp only [Tm.kind, Tm.args]
  split at h
  · simp at h
    rw [h.2.2.2]
    exact ⟨fun _ => rfl, rfl⟩
  · split at h
    · simp at h
      rw [h.2.2.2]
      exact ⟨fun _ => rfl, rfl⟩
    · split at h
      · rename_i h2
        simp only [Bool.and_eq_true] at h
        exact ⟨fun h' => absurd h2 h', h.2.2⟩
      · cases h
theorem vr_form {n : Int} (h0 : 0 ≤ n) (h1 : n ≤ 1048576) : (vr n).form = true := by simp [vr, Tm.form, h0, h1]
theorem kind_sub {f : Int → Tm} {t : Tm} (h : t.kind ≠ 1) : (t.sub f).kind = t.kind := by
  obtain ⟨k, n, s, A, c, a⟩ := t
  simp only [Tm.kind] at h
  simp [Tm.sub, h, Tm.kind]
def subOf (b : List Bd) (v : Int) : Tm := ((look b v).map Tm.strip).getD (vr v)
theorem app_sub (b : List Bd) : (∀ t : Tm, t.form = true → (t.app b).strip = t.sub (subOf b)) ∧ (∀ l, formL l = true → stripL (appL b l) = subL (subOf b) l) := by
  refine Tm.induct2 (fun k n s A c a ih h => ?_) (fun _ => rfl) (fun t r h1 h2 h => ?_)
  · have hv := form_var h
    have ha := form_args h
    simp only [Tm.kind, Tm.num, Tm.args] at hv ha
    simp only [Tm.app, Tm.sub]
    split
    · rename_i hk
      unfold subOf
      cases hl : look b n with
      | none => simpa using (hv hk).1
      | some t => rfl
    · split
      · simp only [Tm.strip, ih ha.2]
      · rename_i h2
        simp [Tm.strip, ha.1 h2, stripL, subL]
  · simp only [formL, Bool.and_eq_true] at h
    simp only [appL, stripL, subL, h1 h.1, h2 h.2]
theorem sub_id {f : Int → Tm} : (∀ t : Tm, t.form = true → (∀ v ∈ t.occ, f v = vr v) → t.sub f = t.strip) ∧ (∀ l, formL l = true → (∀ v ∈ occL l, f v = vr v) → subL f l = stripL l) := by
  refine Tm.induct2 (fun k n s A c a ih h ho => ?_) (fun _ _ => rfl) (fun t r h1 h2 h ho => ?_)
  · have hv := form_var h
    have ha := form_args h
    simp only [Tm.kind, Tm.num, Tm.args] at hv ha
    simp only [Tm.sub]
    split
    · rename_i hk
      rw [(hv hk).1]
      exact ho n (by simp [Tm.occ, hk])
    · rename_i hk
      rw [ih ha.2 fun v hv => ho v ?_]
      · rfl
      · by_cases h2 : k = 2
        · simpa [Tm.occ, hk, h2] using hv
        · rw [ha.1 h2] at hv; cases hv
  · simp only [formL, Bool.and_eq_true] at h
    simp only [occL, List.mem_append] at ho
    simp only [subL, stripL, h1 h.1 fun v hv => ho v (.inl hv), h2 h.2 fun v hv => ho v (.inr hv)]
def Unif (E : List (Tm × Tm)) (f : Int → Tm) : Prop := ∀ p ∈ E, p.1.sub f = p.2.sub f
structure Sol (E : List (Tm × Tm)) (m : List Bd) : Prop where
  asc : Asc m
  cl : ∀ x ∈ m, x.tm.strip = x.tm ∧ x.tm.form = true ∧ 0 ≤ x.var ∧ x.var ≤ 1048576
  apart : ∀ x ∈ m, ∀ v ∈ x.tm.occ, look m v = none
  unif : Unif E (subOf m)
  gen : ∀ f, Unif E f → ∀ x ∈ m, f x.var = x.tm.sub f
  low : ∀ x ∈ m, x.tm.kind = 1 → x.tm.num < x.var
theorem subOf_mem {E : List (Tm × Tm)} {m : List Bd} (h : Sol E m) {x : Bd} (hx : x ∈ m) : subOf m x.var = x.tm := by
  unfold subOf
  rw [look_mem h.asc.dis hx]
  exact (h.cl x hx).1
theorem subOf_none {m : List Bd} {v : Int} (h : look m v = none) : subOf m v = vr v := by
  unfold subOf
  rw [h]; rfl
theorem Sol.dom {E : List (Tm × Tm)} {m n : List Bd} (h : Sol E m) (h' : Sol E n) {x : Bd} (hx : x ∈ m) : ∃ y ∈ n, y.var = x.var := by
  cases hl : look n x.var with
  | some t =>
    obtain ⟨y, hy, e, _⟩ := look_some hl
    exact ⟨y, hy, e⟩
  | none =>
    exfalso
    have hg := h.gen _ h'.unif x hx
    rw [subOf_none hl] at hg
    have hk : x.tm.kind = 1 := by
      apply Classical.byContradiction
      intro hk
      have := kind_sub (f := subOf n) hk
      rw [← hg] at this
      exact hk this.symm
    have hv := form_var (h.cl x hx).2.1 hk
    have hlo := h.low x hx hk
    rw [(h.cl x hx).1] at hv
    rw [hv.1] at hg
    have hg' : vr x.var = subOf n x.tm.num := by simpa [vr, Tm.sub] using hg
    cases hl' : look n x.tm.num with
    | none =>
      rw [subOf_none hl'] at hg'
      have : x.var = x.tm.num := congrArg Tm.num hg'
      omega
    | some t =>
      obtain ⟨y, hy, e, _⟩ := look_some hl'
      rw [← e, subOf_mem h' hy] at hg'
      have hlo' := h'.low y hy (by rw [← hg']; rfl)
      rw [← hg'] at hlo'
      have : x.var < y.var := hlo'
      omega
theorem Sol.sub {E : List (Tm × Tm)} {m n : List Bd} (h : Sol E m) (h' : Sol E n) {x : Bd} (hx : x ∈ m) : x ∈ n := by
  obtain ⟨y, hy, e⟩ := h.dom h' hx
  have hg := h.gen _ h'.unif x hx
  rw [← e, subOf_mem h' hy, sub_id.1 x.tm (h.cl x hx).2.1 fun v hv => ?_, (h.cl x hx).1] at hg
  · obtain ⟨a, b⟩ := x
    obtain ⟨c, d⟩ := y
    simp only at e hg
    subst e hg
    exact hy
  · refine subOf_none ?_
    rw [look_none]
    intro z hz ez
    obtain ⟨z', hz', e'⟩ := h'.dom h hz
    have := h.apart x hx v hv
    rw [look_none] at this
    exact this z' hz' (e'.trans ez)
theorem Asc.nodup {m : List Bd} (h : Asc m) : m.Nodup := h.imp fun h e => by rw [e] at h; omega
theorem Sol.of_unif {E E' : List (Tm × Tm)} (he : ∀ f, Unif E f ↔ Unif E' f) {m : List Bd} (h : Sol E m) : Sol E' m :=
  ⟨h.asc, h.cl, h.apart, (he _).1 h.unif, fun f hf => h.gen f ((he f).2 hf), h.low⟩
def Out (E : List (Tm × Tm)) (m : List Bd) (e : Int) : Prop :=
  (m = [] ∧ e = 13 ∧ ∀ f, ¬ Unif E f) ∨ ∃ s, Sol E s ∧ ((allRight s = true ∧ m = s ∧ e = 0) ∨ (allRight s = false ∧ m = [] ∧ e = 6))
def AllOut (a b : List Tm) (m : List Bd) (e : Int) : Prop :=
  if (a.all Tm.right && b.all Tm.right) = false then m = [] ∧ e = 2
  else if a.length ≠ b.length then m = [] ∧ e = 9
  else Out (a.zip b) m e
theorem Out.of_unif {E E' : List (Tm × Tm)} (he : ∀ f, Unif E f ↔ Unif E' f) {m : List Bd} {e : Int} (h : Out E m e) : Out E' m e := by
  rcases h with ⟨h1, h2, hn⟩ | ⟨s, hs, h1⟩
  · exact .inl ⟨h1, h2, fun f hf => hn f ((he f).2 hf)⟩
  · exact .inr ⟨s, hs.of_unif he, h1⟩
theorem Unif.one {a b : Tm} {f : Int → Tm} : Unif ([a].zip [b]) f ↔ a.sub f = b.sub f := by simp [Unif]
theorem AllOut.symm {a b : Tm} {m : List Bd} {e : Int} (h : AllOut [a] [b] m e) : AllOut [b] [a] m e := by
  unfold AllOut at h ⊢
  have e1 : ([b].all Tm.right && [a].all Tm.right) = ([a].all Tm.right && [b].all Tm.right) := Bool.and_comm _ _
  rw [e1]
  split at h
  · rename_i hr; rw [if_pos hr]; exact h
  · rename_i hr
    rw [if_neg hr]
    rw [if_neg (by simp)] at h ⊢
    exact h.of_unif fun f => by rw [Unif.one, Unif.one]; exact ⟨Eq.symm, Eq.symm⟩
theorem formL_all (l : List Tm) (h : ∀ t ∈ l, t.form = true) : formL l = true := by
  induction l with
  | nil => rfl
  | cons t r ih => simp [formL, h t (by simp), ih fun x hx => h x (by simp [hx])]
end Go.Proofs.YtgpglgehlnfggaaGreat
namespace Go.Proofs.YtgpglgehlnfggaaGreat
open Go
structure Nd where
  tm : Tm
  A : Option Addr
  cap : Nat
  kids : List Nat
  next : Nat
instance : Inhabited Nd := ⟨⟨default, none, 0, [], 0⟩⟩
def nd (G : List Nd) (i : Nat) : Nd := G.getD i default
def ndv (f : Int → Tm) (G : List Nd) (i : Nat) : Tm := (nd G i).tm.sub f
structure OkAt (G : List Nd) (i : Nat) : Prop where
  form : (nd G i).tm.form = true
  len : (nd G i).kids.length = (nd G i).tm.args.length
  kid : ∀ j, j < (nd G i).kids.length → (nd G i).kids.getD j 0 < G.length ∧ (nd G ((nd G i).kids.getD j 0)).tm.strip = ((nd G i).tm.args.getD j default).strip
def Ok (G : List Nd) : Prop := ∀ i, i < G.length → OkAt G i
def VarU (G : List Nd) : Prop := ∀ i j, i < G.length → j < G.length → (nd G i).tm.kind = 1 → (nd G j).tm.kind = 1 → (nd G i).tm.num = (nd G j).tm.num → i = j
theorem OkAt.mem {G : List Nd} {i c : Nat} (h : OkAt G i) (hc : c ∈ (nd G i).kids) : c < G.length := by
  obtain ⟨j, hj, e⟩ := List.mem_iff_getElem.1 hc
  have := (h.kid j hj).1
  rwa [List.getD, List.getElem?_eq_getElem hj, Option.getD_some, e] at this
theorem OkAt.var {G : List Nd} {i : Nat} (h : OkAt G i) (hk : (nd G i).tm.kind = 1) : (nd G i).kids = [] := by
  have := (form_var h.form hk).2.2.2
  exact List.length_eq_zero_iff.1 (by rw [h.len, this]; rfl)
theorem ndv_eq {f : Int → Tm} {G : List Nd} {i : Nat} (h : OkAt G i) : ndv f G i = if (nd G i).tm.kind = 1 then f (nd G i).tm.num else .mk (nd G i).tm.kind (nd G i).tm.num (nd G i).tm.name none 0 ((nd G i).kids.map (ndv f G)) := by
  have e : (nd G i).kids.map (ndv f G) = subL f (nd G i).tm.args := by
    rw [subL_map]
    refine List.ext_getElem (by simp [h.len]) fun j h1 h2 => ?_
    have hj : j < (nd G i).kids.length := by simpa using h1
    have ha : j < (nd G i).tm.args.length := by simpa using h2
    have := (h.kid j hj).2
    rw [List.getElem_map, List.getElem_map]
    rw [List.getD, List.getElem?_eq_getElem hj, Option.getD_some, List.getD, List.getElem?_eq_getElem ha, Option.getD_some] at this
    exact sub_like f this
  unfold ndv at e ⊢
  rw [e]
  cases hn : (nd G i).tm with
  | mk k n s A c a => rfl
def sol (G : List Nd) (top : Nat → Nat) : Nat → Nat → Tm
  | 0, _ => default
  | d + 1, i => if (nd G (top i)).tm.kind = 1 then vr (nd G (top i)).tm.num else .mk (nd G (top i)).tm.kind (nd G (top i)).tm.num (nd G (top i)).tm.name none 0 ((nd G (top i)).kids.map (sol G top d))
structure Closed (G : List Nd) (E : List (Nat × Nat)) (top : Nat → Nat) : Prop where
  ok : Ok G
  varu : VarU G
  lt : ∀ i, i < G.length → top i < G.length
  idem : ∀ i, i < G.length → top (top i) = top i
  sound : ∀ f, (∀ p ∈ E, ndv f G p.1 = ndv f G p.2) → ∀ i j, i < G.length → j < G.length → top i = top j → ndv f G i = ndv f G j
  cong : ∀ i j, i < G.length → j < G.length → (nd G i).tm.kind ≠ 1 → (nd G j).tm.kind ≠ 1 → top i = top j →
    ((nd G i).tm.kind = (nd G j).tm.kind ∧ (nd G i).tm.num = (nd G j).tm.num ∧ (nd G i).tm.name = (nd G j).tm.name) ∧ (nd G i).kids.map top = (nd G j).kids.map top
  eqs : ∀ p ∈ E, p.1 < G.length ∧ p.2 < G.length ∧ top p.1 = top p.2
  nonvar : ∀ i, i < G.length → (nd G i).tm.kind ≠ 1 → (nd G (top i)).tm.kind ≠ 1
  least : ∀ i, i < G.length → (nd G (top i)).tm.kind = 1 → (nd G (top i)).tm.num ≤ (nd G i).tm.num
def Ranked (G : List Nd) (top r : Nat → Nat) (D : Nat) : Prop := ∀ i, i < G.length → r (top i) < D ∧ ∀ c ∈ (nd G (top i)).kids, r (top c) < r (top i)
section
variable {G : List Nd} {E : List (Nat × Nat)} {top r : Nat → Nat} {D : Nat}
theorem sol_stable (h : Closed G E top) (hr : Ranked G top r D) : ∀ (n i : Nat), i < G.length → r (top i) < n → ∀ d d', r (top i) < d → r (top i) < d' → sol G top d i = sol G top d' i := by
  intro n
  induction n with
  | zero => intro i _ h; omega
  | succ n ih =>
    intro i hi hn d d' hd hd'
    obtain ⟨d, rfl⟩ : ∃ x, d = x + 1 := ⟨d - 1, by omega⟩
    obtain ⟨d', rfl⟩ : ∃ x, d' = x + 1 := ⟨d' - 1, by omega⟩
    simp only [sol]
    split
    · rfl
    · have : ∀ c ∈ (nd G (top i)).kids, sol G top d c = sol G top d' c := fun c hc => by
        have h1 := (hr i hi).2 c hc
        exact ih c ((h.ok _ (h.lt i hi)).mem hc) (by omega) d d' (by omega) (by omega)
      rw [List.map_congr_left this]
theorem sol_eq (h : Closed G E top) (hr : Ranked G top r D) {i : Nat} (hi : i < G.length) : sol G top D i =
    if (nd G (top i)).tm.kind = 1 then vr (nd G (top i)).tm.num else .mk (nd G (top i)).tm.kind (nd G (top i)).tm.num (nd G (top i)).tm.name none 0 ((nd G (top i)).kids.map (sol G top D)) := by
  have hd := (hr i hi).1
  rw [sol_stable h hr (D + 1) i hi (by omega) D (D + 1) hd (by omega)]
  rfl
theorem sol_top (h : Closed G E top) (hr : Ranked G top r D) {i j : Nat} (hi : i < G.length) (hj : j < G.length) (e : top i = top j) : sol G top D i = sol G top D j := by
  rw [sol_eq h hr hi, sol_eq h hr hj, e]
theorem sol_induct (h : Closed G E top) (hr : Ranked G top r D) {p : Nat → Prop} (hp : ∀ i, i < G.length → (∀ c ∈ (nd G (top i)).kids, p c) → p i) : ∀ i, i < G.length → p i := by
  suffices H : ∀ n i, i < G.length → r (top i) < n → p i from fun i hi => H _ i hi (Nat.lt_succ_self _)
  intro n
  induction n with
  | zero => intro i _ h; omega
  | succ n ih =>
    intro i hi hn
    refine hp i hi fun c hc => ih c ((h.ok _ (h.lt i hi)).mem hc) ?_
    have := (hr i hi).2 c hc
    omega
theorem formL_of {l : List Tm} (h : ∀ t ∈ l, t.form = true) : formL l = true := formL_all l h
theorem form_mk {t : Tm} (h : t.form = true) {l : List Tm} (hl : l.length = t.args.length) (hf : formL l = true) : (Tm.mk t.kind t.num t.name none 0 l).form = true := by
  obtain ⟨k, n, s, A, c, a⟩ := t
  simp only [Tm.kind, Tm.num, Tm.name, Tm.args] at *
  simp only [Tm.form, hl, hf] at h ⊢
  split at h
  · rename_i h0; rw [if_pos h0]; exact h
  · rename_i h0
    rw [if_neg h0]
    split at h
    · rename_i h1; rw [if_pos h1]; exact h
    · rename_i h1
      rw [if_neg h1]
      split at h
      · rename_i h2
        rw [if_pos h2]
        simp only [Bool.and_eq_true] at h ⊢
        exact ⟨h.1, h.2.1, trivial⟩
      · cases h
theorem stripL_id {l : List Tm} (h : ∀ t ∈ l, t.strip = t) : stripL l = l := by
  rw [stripL_map]
  exact (List.map_congr_left h).trans (List.map_id l)
theorem sol_form (h : Closed G E top) (hr : Ranked G top r D) : ∀ i, i < G.length → (sol G top D i).strip = sol G top D i ∧ (sol G top D i).form = true := by
  refine sol_induct h hr fun i hi ih => ?_
  rw [sol_eq h hr hi]
  have hk := h.ok _ (h.lt i hi)
  split
  · rename_i hv
    have := form_var hk.form hv
    exact ⟨rfl, vr_form this.2.1 this.2.2.1⟩
  · have h1 : ∀ t ∈ (nd G (top i)).kids.map (sol G top D), t.strip = t ∧ t.form = true := fun t ht => by
      obtain ⟨c, hc, rfl⟩ := List.mem_map.1 ht
      exact ih c hc
    refine ⟨?_, form_mk hk.form (by simp [hk.len]) (formL_of fun t ht => (h1 t ht).2)⟩
    simp only [Tm.strip]
    rw [stripL_id fun t ht => (h1 t ht).1]
theorem mem_occL {l : List Tm} {v : Int} : v ∈ occL l ↔ ∃ t ∈ l, v ∈ t.occ := by
  induction l with
  | nil => simp [occL]
  | cons t r ih => simp [occL, ih]
theorem sol_occ (h : Closed G E top) (hr : Ranked G top r D) : ∀ i, i < G.length → ∀ v ∈ (sol G top D i).occ, ∃ j, j < G.length ∧ (nd G j).tm.kind = 1 ∧ top j = j ∧ (nd G j).tm.num = v := by
  refine sol_induct h hr fun i hi ih v hv => ?_
  rw [sol_eq h hr hi] at hv
  split at hv
  · rename_i hk
    simp only [vr, Tm.occ, if_true, List.mem_singleton] at hv
    exact ⟨top i, h.lt i hi, hk, h.idem i hi, hv.symm⟩
  · rename_i hk
    simp only [Tm.occ, if_neg hk] at hv
    split at hv
    · obtain ⟨t, ht, hv⟩ := mem_occL.1 hv
      obtain ⟨c, hc, rfl⟩ := List.mem_map.1 ht
      exact ih c hc v hv
    · cases hv
theorem sol_gen (h : Closed G E top) (hr : Ranked G top r D) {f : Int → Tm} (hf : ∀ p ∈ E, ndv f G p.1 = ndv f G p.2) : ∀ i, i < G.length → (sol G top D i).sub f = ndv f G i := by
  refine sol_induct h hr fun i hi ih => ?_
  have ht := h.lt i hi
  rw [h.sound f hf i (top i) hi ht (h.idem i hi).symm, sol_eq h hr hi, ndv_eq (h.ok _ ht)]
  split
  · simp [vr, Tm.sub]
  · rename_i hk
    simp only [Tm.sub, if_neg hk, subL_map, List.map_map]
    have : List.map (Tm.sub f ∘ sol G top D) (nd G (top i)).kids = List.map (ndv f G) (nd G (top i)).kids := List.map_congr_left fun c hc => ih c hc
    rw [this]
def bindsOf (G : List Nd) (top : Nat → Nat) (D : Nat) (bd : List Nat) : List Bd := bd.map fun i => ⟨(nd G i).tm.num, sol G top D i⟩
def BoundIs (G : List Nd) (top : Nat → Nat) (bd : List Nat) : Prop :=
  (∀ i, i ∈ bd ↔ i < G.length ∧ (nd G i).tm.kind = 1 ∧ top i ≠ i) ∧ bd.Pairwise fun i j => (nd G i).tm.num < (nd G j).tm.num
theorem BoundIs.asc {bd : List Nat} (h : BoundIs G top bd) : Asc (bindsOf G top D bd) := by
  unfold Asc bindsOf
  rw [List.pairwise_map]
  exact h.2
theorem look_bound_node {bd : List Nat} (hb : BoundIs G top bd) {i : Nat} (hi : i ∈ bd) : look (bindsOf G top D bd) (nd G i).tm.num = some (sol G top D i) :=
  look_mem (x := ⟨(nd G i).tm.num, sol G top D i⟩) hb.asc.dis (List.mem_map.2 ⟨i, hi, rfl⟩)
theorem look_free_node (h : Closed G E top) {bd : List Nat} (hb : BoundIs G top bd) {j : Nat} (hj : j < G.length) (hk : (nd G j).tm.kind = 1) (ht : top j = j) : look (bindsOf G top D bd) (nd G j).tm.num = none := by
  rw [look_none]
  intro x hx e
  obtain ⟨i, hi, rfl⟩ := List.mem_map.1 hx
  obtain ⟨h1, h2, h3⟩ := (hb.1 i).1 hi
  exact h3 (by rw [h.varu i j h1 hj h2 hk e]; exact ht)
theorem sol_unif (h : Closed G E top) (hr : Ranked G top r D) {bd : List Nat} (hb : BoundIs G top bd) : ∀ i, i < G.length → ndv (subOf (bindsOf G top D bd)) G i = sol G top D i := by
  have hkey : ∀ n i, i < G.length → r (top i) < n → ndv (subOf (bindsOf G top D bd)) G i = sol G top D i := by
    intro n
    induction n with
    | zero => intro i _ h; omega
    | succ n ih =>
      intro i hi hn
      have hk := h.ok i hi
      rw [ndv_eq hk]
      split
      · rename_i hv
        by_cases ht : top i = i
        · unfold subOf
          rw [look_free_node h hb hi hv ht, sol_eq h hr hi, ht, if_pos hv]
          rfl
        · unfold subOf
          rw [look_bound_node hb ((hb.1 i).2 ⟨hi, hv, ht⟩)]
          exact (sol_form h hr i hi).1
      · rename_i hv
        obtain ⟨⟨e1, e2, e3⟩, e4⟩ := h.cong i (top i) hi (h.lt i hi) hv (h.nonvar i hi hv) (h.idem i hi).symm
        rw [sol_eq h hr hi, if_neg (h.nonvar i hi hv), e1, e2, e3]
        have hlen : (nd G i).kids.length = (nd G (top i)).kids.length := by simpa using congrArg List.length e4
        have hmap : (nd G i).kids.map (ndv (subOf (bindsOf G top D bd)) G) = (nd G (top i)).kids.map (sol G top D) := by
          refine List.ext_getElem (by simp [hlen]) fun j h1 h2 => ?_
          have hj : j < (nd G i).kids.length := by simpa using h1
          have hj' : j < (nd G (top i)).kids.length := by simpa using h2
          rw [List.getElem_map, List.getElem_map]
          have ec : top ((nd G i).kids[j]) = top ((nd G (top i)).kids[j]) := by
            have := List.getElem_of_eq e4 (by simpa using hj)
            simpa using this
          have hc := hk.mem (List.getElem_mem hj)
          have hc' := (h.ok _ (h.lt i hi)).mem (List.getElem_mem hj')
          have hlt := (hr i hi).2 _ (List.getElem_mem hj')
          rw [ih _ hc (by rw [ec]; omega)]
          exact sol_top h hr hc hc' ec
        rw [hmap]
  exact fun i hi => hkey _ i hi (Nat.lt_succ_self _)
theorem closed_sol (h : Closed G E top) (hr : Ranked G top r D) {bd : List Nat} (hb : BoundIs G top bd) {F : List (Tm × Tm)} (hF : ∀ f, Unif F f ↔ ∀ p ∈ E, ndv f G p.1 = ndv f G p.2) : Sol F (bindsOf G top D bd) := by
  have hm : ∀ x ∈ bindsOf G top D bd, ∃ i, i < G.length ∧ (nd G i).tm.kind = 1 ∧ top i ≠ i ∧ x = ⟨(nd G i).tm.num, sol G top D i⟩ := fun x hx => by
    obtain ⟨i, hi, rfl⟩ := List.mem_map.1 hx
    obtain ⟨h1, h2, h3⟩ := (hb.1 i).1 hi
    exact ⟨i, h1, h2, h3, rfl⟩
  refine ⟨hb.asc, fun x hx => ?_, fun x hx v hv => ?_, ?_, fun f hf x hx => ?_, fun x hx hk => ?_⟩
  · obtain ⟨i, h1, h2, h3, rfl⟩ := hm x hx
    have := form_var (h.ok i h1).form h2
    exact ⟨(sol_form h hr i h1).1, (sol_form h hr i h1).2, this.2.1, this.2.2.1⟩
  · obtain ⟨i, h1, h2, h3, rfl⟩ := hm x hx
    obtain ⟨j, hj, hk, ht, rfl⟩ := sol_occ h hr i h1 v hv
    exact look_free_node h hb hj hk ht
  · rw [hF]
    intro p hp
    obtain ⟨h1, h2, h3⟩ := h.eqs p hp
    rw [sol_unif h hr hb _ h1, sol_unif h hr hb _ h2, sol_top h hr h1 h2 h3]
  · obtain ⟨i, h1, h2, h3, rfl⟩ := hm x hx
    show f (nd G i).tm.num = (sol G top D i).sub f
    rw [sol_gen h hr ((hF f).1 hf) i h1, ndv_eq (h.ok i h1), if_pos h2]
  · obtain ⟨i, h1, h2, h3, rfl⟩ := hm x hx
    simp only at hk ⊢
    rw [sol_eq h hr h1] at hk ⊢
    split at hk
    · rename_i hv
      rw [if_pos hv]
      show (nd G (top i)).tm.num < (nd G i).tm.num
      have hle := h.least i h1 hv
      have hne : (nd G (top i)).tm.num ≠ (nd G i).tm.num := fun e => h3 (h.varu _ _ (h.lt i h1) h1 hv h2 e)
      omega
    · rename_i hv
      exact absurd hk hv
end
theorem nodesL_map_mem {α : Type} (f : α → Tm) {l : List α} {c : α} (hc : c ∈ l) : (f c).nodes ≤ nodesL (l.map f) := nodes_mem (List.mem_map.2 ⟨c, hc, rfl⟩)
theorem ndv_lt {f : Int → Tm} {G : List Nd} {i c : Nat} (h : OkAt G i) (hk : (nd G i).tm.kind ≠ 1) (hc : c ∈ (nd G i).kids) : (ndv f G c).nodes < (ndv f G i).nodes := by
  have := nodesL_map_mem (ndv f G) hc
  rw [ndv_eq h, if_neg hk]
  simp only [Tm.nodes]
  omega
theorem no_infinite {U : List Nat} (μ : Nat → Nat) (hU : U ≠ []) (h : ∀ u ∈ U, ∃ u' ∈ U, μ u' < μ u) : False := by
  obtain ⟨u0, hu0⟩ := List.exists_mem_of_ne_nil U hU
  have : ∀ n u, u ∈ U → μ u < n → False := by
    intro n
    induction n with
    | zero => intro u _ h; omega
    | succ n ih =>
      intro u hu hn
      obtain ⟨u', h1, h2⟩ := h u hu
      exact ih u' h1 (by omega)
  exact this _ u0 hu0 (Nat.lt_succ_self _)
theorem no_growth {U : List Nat} (μ : Nat → Nat) (hU : U ≠ []) (h : ∀ u ∈ U, ∃ u' ∈ U, μ u < μ u') : False := by
  have hb : ∃ B, ∀ u ∈ U, μ u ≤ B := by
    clear h hU
    induction U with
    | nil => exact ⟨0, fun u hu => by cases hu⟩
    | cons x r ih =>
      obtain ⟨B, hB⟩ := ih
      refine ⟨max B (μ x), fun u hu => ?_⟩
      rcases List.mem_cons.1 hu with rfl | hu
      · omega
      · have := hB u hu; omega
  obtain ⟨B, hB⟩ := hb
  refine no_infinite (fun u => B - μ u) hU fun u hu => ?_
  obtain ⟨u', h1, h2⟩ := h u hu
  exact ⟨u', h1, by have := hB u' h1; omega⟩
theorem clash {f : Int → Tm} {G : List Nd} {i j : Nat} (hi : OkAt G i) (hj : OkAt G j) (hki : (nd G i).tm.kind ≠ 1) (hkj : (nd G j).tm.kind ≠ 1)
    (h : ¬ (((nd G i).tm.kind = (nd G j).tm.kind ∧ (nd G i).tm.num = (nd G j).tm.num ∧ (nd G i).tm.name = (nd G j).tm.name) ∧ (nd G i).kids.length = (nd G j).kids.length)) : ndv f G i ≠ ndv f G j := by
  intro e
  rw [ndv_eq hi, ndv_eq hj, if_neg hki, if_neg hkj] at e
  simp only [Tm.mk.injEq, true_and] at e
  obtain ⟨e1, e2, e3, e4⟩ := e
  exact h ⟨⟨e1, e2, e3⟩, by simpa using congrArg List.length e4⟩
theorem kids_eq {f : Int → Tm} {G : List Nd} {i j : Nat} (hi : OkAt G i) (hj : OkAt G j) (hki : (nd G i).tm.kind ≠ 1) (hkj : (nd G j).tm.kind ≠ 1) (e : ndv f G i = ndv f G j) : (nd G i).kids.map (ndv f G) = (nd G j).kids.map (ndv f G) := by
  rw [ndv_eq hi, ndv_eq hj, if_neg hki, if_neg hkj] at e
  simp only [Tm.mk.injEq, true_and] at e
  exact e.2.2.2
end Go.Proofs.YtgpglgehlnfggaaGreat
