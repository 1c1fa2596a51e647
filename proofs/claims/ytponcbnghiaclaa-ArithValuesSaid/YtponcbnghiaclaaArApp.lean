/-
  Contracts of quotient, compute and Apply of the program, of floor and Apply of the reference.
-/
import Derived.Test.YtponcbnghiaclaaArOps
namespace Go.Proofs.Ytponcbnghiaclaa
open Go.RowKit

theorem tdiv_fit {a b : Int} (ha : inR a = true) (hb : b ≠ 0) : -2147483648 ≤ a.tdiv b ∧ a.tdiv b ≤ 2147483648 := by
  rw [inR_iff] at ha
  have key : ∀ c d : Int, 0 ≤ c → 0 < d → c ≤ 2147483648 → 0 ≤ c / d ∧ c / d ≤ 2147483648 := fun c d h1 h2 h3 => by
    have := div_small h2 h1; omega
  have k2 : ∀ d : Int, 0 < d → -2147483648 ≤ a.tdiv d ∧ a.tdiv d ≤ 2147483648 := fun d hd => by
    by_cases h : 0 ≤ a
    · rw [(tdivmod_pos h).1]; have := key a d h hd (by omega); omega
    · obtain ⟨c, rfl⟩ : ∃ c, a = -c := ⟨-a, by omega⟩
      rw [Int.neg_tdiv, (tdivmod_pos (by omega)).1]
      have := key c d (by omega) hd (by omega); omega
  by_cases h : 0 < b
  · exact k2 b h
  · obtain ⟨d, rfl⟩ : ∃ d, b = -d := ⟨-b, by omega⟩
    rw [Int.tdiv_neg]
    have := k2 d (by omega); omega

theorem tq_yes {a b : Int} (h1 : (a.tmod b != 0) = true) (h2 : (!decide (a < 0) == decide (b < 0)) = true) : tq a b = a.tdiv b - 1 := by
  have e : (decide (a < 0) != decide (b < 0)) = true := by
    cases h3 : decide (a < 0) <;> cases h4 : decide (b < 0) <;> simp_all
  unfold tq
  rw [if_pos ⟨by simpa using h1, e⟩]
theorem tq_no {a b : Int} (h1 : (a.tmod b != 0) = false ∨ (!decide (a < 0) == decide (b < 0)) = false) : tq a b = a.tdiv b := by
  unfold tq
  rw [if_neg]
  rintro ⟨h2, h3⟩
  rcases h1 with h1 | h1
  · exact h2 (by simpa using h1)
  · cases h5 : decide (a < 0) <;> cases h4 : decide (b < 0) <;> simp_all

set_option maxHeartbeats 1000000 in
theorem quotient_at (a b : Int) (w : World) (ha : inR a = true) (hb : inR b = true) (h0 : b ≠ 0) :
    Calls Try.prog 35 #[.int .i64 a, .int .i64 b] w fun e w' => e = .returned (.int .i64 (flr a b)) ∧ w = w' := by
  have hq := tdiv_fit ha h0
  have HF := Lib.hid (tq_flr (a := a) h0)
  rw [inR_iff] at ha hb
  obtain ⟨hb1, hb2⟩ := hb
  obtain ⟨ha1, ha2⟩ := ha
  obtain ⟨hq1, hq2⟩ := hq
  have hz : (b == 0) = false := by simpa using h0
  cases hx : a.tmod b != 0
  · have HV := Lib.hid (show flr a b = a.tdiv b by rw [← HF.out]; exact tq_no (.inl hx))
    clear HF
    go_enter Try.func35, Try.ntmps35
    go_wp2
    go_ret
    exact ⟨by rw [HV.out]; rfl, rfl⟩
  · cases hy : !decide (a < 0) == decide (b < 0)
    · have HV := Lib.hid (show flr a b = a.tdiv b by rw [← HF.out]; exact tq_no (.inr hy))
      clear HF
      go_enter Try.func35, Try.ntmps35
      go_wp2
      go_ret
      exact ⟨by rw [HV.out]; rfl, rfl⟩
    · have HV := Lib.hid (show flr a b = a.tdiv b - 1 by rw [← HF.out]; exact tq_yes hx hy)
      clear HF
      go_enter Try.func35, Try.ntmps35
      go_wp2
      go_ret
      exact ⟨by rw [HV.out]; rfl, rfl⟩

theorem mul_fit {a b : Int} (ha : -2147483648 ≤ a ∧ a ≤ 2147483648) (hb : -2147483648 ≤ b ∧ b ≤ 2147483648) : -4611686018427387904 ≤ a * b ∧ a * b ≤ 4611686018427387904 := by
  have key : ∀ c d : Int, 0 ≤ c → c ≤ 2147483648 → 0 ≤ d → d ≤ 2147483648 → 0 ≤ c * d ∧ c * d ≤ 4611686018427387904 := fun c d h1 h2 h3 h4 => by
    refine ⟨Int.mul_nonneg h1 h3, ?_⟩
    have e1 : c * d ≤ 2147483648 * d := Int.mul_le_mul_of_nonneg_right h2 h3
    omega
  by_cases h1 : 0 ≤ a <;> by_cases h2 : 0 ≤ b
  · have := key a b h1 (by omega) h2 (by omega); omega
  · have := key a (-b) h1 (by omega) (by omega) (by omega)
    rw [Int.mul_neg] at this; omega
  · have := key (-a) b (by omega) (by omega) h2 (by omega)
    rw [Int.neg_mul] at this; omega
  · have := key (-a) (-b) (by omega) (by omega) (by omega) (by omega)
    rw [Int.neg_mul_neg] at this; omega
theorem comp_fit {s : List UInt8} {a b : Int} (ha : -2147483648 ≤ a ∧ a ≤ 2147483648) (hb : -2147483648 ≤ b ∧ b ≤ 2147483648) (h0 : opB s = true) (hz : zeroB s b = false) :
    -4611686018427387904 ≤ comp s a b ∧ comp s a b ≤ 4611686018427387904 := by
  have hm := mul_fit ha hb
  unfold comp
  split
  · omega
  · split
    · omega
    · split
      · omega
      · have hb0 : b ≠ 0 := by
          rintro rfl
          rcases op_cases h0 with rfl | rfl | rfl | rfl | rfl <;> simp_all [zeroB]
        split
        · have := flr_small hb0 ha.1 ha.2; omega
        · have h1 := flr_rem (a := a) hb0
          rcases Int.lt_or_gt_of_ne hb0 with h | h
          · have := h1.2 h; omega
          · have := h1.1 h; omega

set_option maxHeartbeats 1000000 in
theorem compute_at (s : ByteArray) (a b : Int) (w : World) (hs : opB s.data.toList = true) (ha : inR a = true) (hb : inR b = true) (h0 : zeroB s.data.toList b = false) :
    Calls Try.prog 24 #[.string s, .int .i64 a, .int .i64 b] w fun e w' => e = .returned (.int .i64 (comp s.data.toList a b)) ∧ w = w' := by
  have ha' := (inR_iff a).1 ha
  have hb' := (inR_iff b).1 hb
  have hm := mul_fit ha' hb'
  obtain ⟨hb1, hb2⟩ := hb'
  obtain ⟨ha1, ha2⟩ := ha'
  obtain ⟨hm1, hm2⟩ := hm
  rcases op_cases hs with h | h | h | h | h
  · obtain rfl := str_of h
    clear h hs h0 ha hb
    go_enter Try.func24, Try.ntmps24
    go_wp2
    go_ret
    exact ⟨rfl, rfl⟩
  · obtain rfl := str_of h
    clear h hs h0 ha hb
    go_enter Try.func24, Try.ntmps24
    go_wp2
    go_ret
    exact ⟨rfl, rfl⟩
  · obtain rfl := str_of h
    clear h hs h0 ha hb
    go_enter Try.func24, Try.ntmps24
    go_wp2
    go_ret
    exact ⟨rfl, rfl⟩
  · obtain rfl := str_of h
    have hb0 : b ≠ 0 := by rintro rfl; simp [zeroB] at h0
    have Q := Lib.hid (fun W => quotient_at a b W ha hb hb0)
    clear h hs h0 ha hb hb0
    go_enter Try.func24, Try.ntmps24
    go_wp2_with fail
    refine (Q.out _).mono ?_
    rintro e w1 ⟨rfl, rfl⟩
    go_wp2_with fail
    go_ret
    exact ⟨rfl, rfl⟩
  · obtain rfl := str_of h
    have hb0 : b ≠ 0 := by rintro rfl; simp [zeroB] at h0
    have Q := Lib.hid (fun W => quotient_at a b W ha hb hb0)
    have hq := flr_small hb0 ha1 ha2
    have hr := flr_rem (a := a) hb0
    have hx : -2147483648 ≤ a - flr a b * b ∧ a - flr a b * b ≤ 2147483648 := by
      rcases Int.lt_or_gt_of_ne hb0 with h | h
      · have := hr.2 h; omega
      · have := hr.1 h; omega
    obtain ⟨hx1, hx2⟩ := hx
    obtain ⟨hq1, hq2⟩ := mul_fit hq ⟨hb1, hb2⟩
    have HV := Lib.hid (show comp [37] a b = a - flr a b * b from rfl)
    clear h hs h0 ha hb hb0 hr hq
    generalize flr a b = q at *
    go_enter Try.func24, Try.ntmps24
    go_wp2_with fail
    refine (Q.out _).mono ?_
    rintro e w1 ⟨rfl, rfl⟩
    go_wp2_with fail
    go_ret
    exact ⟨by show Ending.returned _ = Ending.returned (.int .i64 (comp [37] a b)); rw [HV.out]; rfl, rfl⟩

/-- The value and the error. -/
abbrev pairV (p : Int × Int) : Value := .tuple #[.int .i64 p.1, .int .i64 p.2]
set_option maxHeartbeats 1000000 in
theorem apply_at (s : ByteArray) (a b : Int) (w : World) :
    Calls Try.prog 10 #[.string s, .int .i64 a, .int .i64 b] w fun e w' => e = .returned (pairV (app s.data.toList a b)) ∧ w = w' := by
  obtain ⟨o, ho⟩ : ∃ o, opB s.data.toList = o := ⟨_, rfl⟩
  have Q1 := Lib.hid (fun W => is_op_at s W ho)
  cases o
  · have HV := Lib.hid (show app s.data.toList a b = (0, 7) by unfold app; rw [if_pos ho])
    clear ho
    go_enter Try.func10, Try.ntmps10
    go_wp2_with fail
    refine (Q1.out _).mono ?_
    rintro e w1 ⟨rfl, rfl⟩
    go_wp2_with fail
    go_ret2
    exact ⟨by rw [HV.out]; rfl, rfl⟩
  obtain ⟨x, hx⟩ : ∃ x, inR a = x := ⟨_, rfl⟩
  have Q2 := Lib.hid (fun W => in_range_at a W hx)
  cases x
  · have HV := Lib.hid (show app s.data.toList a b = (0, 5) by unfold app; rw [if_neg (by rw [ho]; simp), if_pos (by rw [hx]; rfl)])
    clear ho hx
    go_enter Try.func10, Try.ntmps10
    go_wp2_with fail
    refine (Q1.out _).mono ?_
    rintro e w1 ⟨rfl, rfl⟩
    go_wp2_with fail
    refine (Q2.out _).mono ?_
    rintro e w1 ⟨rfl, rfl⟩
    go_wp2_with fail
    go_ret2
    exact ⟨by rw [HV.out]; rfl, rfl⟩
  obtain ⟨y, hy⟩ : ∃ y, inR b = y := ⟨_, rfl⟩
  have Q3 := Lib.hid (fun W => in_range_at b W hy)
  cases y
  · have HV := Lib.hid (show app s.data.toList a b = (0, 5) by unfold app; rw [if_neg (by rw [ho]; simp), if_pos (by rw [hx, hy]; rfl)])
    clear ho hx hy
    go_enter Try.func10, Try.ntmps10
    go_wp2_with fail
    refine (Q1.out _).mono ?_
    rintro e w1 ⟨rfl, rfl⟩
    go_wp2_with fail
    refine (Q2.out _).mono ?_
    rintro e w1 ⟨rfl, rfl⟩
    go_wp2_with fail
    refine (Q3.out _).mono ?_
    rintro e w1 ⟨rfl, rfl⟩
    go_wp2_with fail
    go_ret2
    exact ⟨by rw [HV.out]; rfl, rfl⟩
  obtain ⟨z, hz⟩ : ∃ z, zeroB s.data.toList b = z := ⟨_, rfl⟩
  cases z
  · have Q4 := Lib.hid (fun W => compute_at s a b W ho hx hy hz)
    obtain ⟨v, hv⟩ : ∃ v, inR (comp s.data.toList a b) = v := ⟨_, rfl⟩
    have Q5 := Lib.hid (fun W => in_range_at (comp s.data.toList a b) W hv)
    have HV := Lib.hid (show app s.data.toList a b = if v = true then (comp s.data.toList a b, 0) else (0, 5) by unfold app; rw [if_neg (by rw [ho]; simp), if_neg (by rw [hx, hy]; simp), if_neg (by rw [hz]; simp), hv])
    have HZ : (b == 0) = false ∨ ((b == 0) = true ∧ (s.toList == [47]) = false ∧ (s.toList == [37]) = false) := by
      by_cases hb0 : b = 0
      · subst hb0
        simp only [zeroB, decide_true, Bool.true_and, Bool.or_eq_false_iff, decide_eq_false_iff_not] at hz
        exact .inr ⟨rfl, raw_ne hz.1, raw_ne hz.2⟩
      · exact .inl (by simpa using hb0)
    have HI := Lib.hid (show inR a = true ∧ inR b = true from ⟨hx, hy⟩)
    clear ho hx hy hz hv
    generalize comp s.data.toList a b = n at *
    rcases HZ with h0 | ⟨h0, h1, h2⟩
    all_goals
      cases v
      all_goals
        go_enter Try.func10, Try.ntmps10
        go_wp2_with fail
        refine (Q1.out _).mono ?_
        rintro e w1 ⟨rfl, rfl⟩
        go_wp2_with fail
        refine (Q2.out _).mono ?_
        rintro e w1 ⟨rfl, rfl⟩
        go_wp2_with fail
        refine (Q3.out _).mono ?_
        rintro e w1 ⟨rfl, rfl⟩
        go_wp2_with fail
        refine (Q4.out _).mono ?_
        rintro e w1 ⟨rfl, rfl⟩
        go_wp2_with fail
        refine (Q5.out _).mono ?_
        rintro e w1 ⟨rfl, rfl⟩
        go_wp2_with fail
        go_ret2
        exact ⟨by rw [HV.out]; rfl, rfl⟩
  · have HV := Lib.hid (show app s.data.toList a b = (0, 12) by unfold app; rw [if_neg (by rw [ho]; simp), if_neg (by rw [hx, hy]; simp), if_pos hz])
    have HZ : b = 0 ∧ (s.data.toList = [47] ∨ s.data.toList = [37]) := by simpa [zeroB] using hz
    clear ho hx hy hz
    obtain ⟨rfl, h | h⟩ := HZ
    all_goals
      obtain rfl := str_of h
      clear h
      go_enter Try.func10, Try.ntmps10
      go_wp2_with fail
      refine (Q1.out _).mono ?_
      rintro e w1 ⟨rfl, rfl⟩
      go_wp2_with fail
      refine (Q2.out _).mono ?_
      rintro e w1 ⟨rfl, rfl⟩
      go_wp2_with fail
      refine (Q3.out _).mono ?_
      rintro e w1 ⟨rfl, rfl⟩
      go_wp2_with fail
      go_ret2
      exact ⟨by rw [HV.out]; rfl, rfl⟩
end Go.Proofs.Ytponcbnghiaclaa
