/-
  Contracts of Right and rightTogether of the program, and of form, Right and rightArgs of the reference.
-/
import Derived.Test.YtclhmdgiffemlaaTmFit
import Derived.Test.YtclhmdgiffemlaaTmSize
namespace Go.Proofs.Ytclhmdgiffemlaa
open Go.RowKit Go.Sort

theorem right_tm_at (t : Tm) (w : World) (ht : t.At w) {r : Bool} (hr : t.right = r) :
    Calls Try.prog 11 #[t.val] w fun e w' => e = .returned (.bool r) ∧ Below w.heap.size w w' := by
  have Q := Lib.hid (fun W (h : Below w.heap.size w W) => fit_at t 200 20 W (ht.below h) (by omega) (by omega))
  have HR := Lib.hid (show (t.fit ((200 : Nat) : Int) ((20 : Nat) : Int)).2 = r from (fit_right t).trans hr)
  generalize t.fit ((200 : Nat) : Int) ((20 : Nat) : Int) = p at *
  clear hr
  obtain ⟨z, b⟩ := p
  obtain ⟨k, n, s, A, c, a⟩ := t
  show Calls Try.prog 11 #[.agg #[.int .i64 k, .int .i64 n, .string s, .slice A a.length c]] w _
  go_enter Try.func11, Try.ntmps11
  go_wp2_with fail
  refine (Q.out _ ((Below.refl _ _).alloc (Nat.le_refl _) _)).mono ?_
  rintro e w1 ⟨rfl, hb⟩
  go_wp2_with fail
  go_ret
  exact ⟨by rw [← HR.out]; rfl, ((Below.refl _ _).alloc (Nat.le_refl _) _).trans (hb.mono (by simp))⟩

/-- A list of terms that is valid together. -/
def rightL (l : List Tm) : Bool := formL l && (decide (sizeL l ≤ 200) && decide (depthL l ≤ 20))
theorem together_at (l : List Tm) (A : Option Addr) (c : Nat) (w : World) (hl : Lst w A l c) {r : Bool} (hr : rightL l = r) :
    Calls Try.prog 71 #[.slice A l.length c] w fun e w' => e = .returned (.bool r) ∧ Below w.heap.size w w' := by
  have Q := Lib.hid (fitL_at l (fun x _ => fit_at x) A c 200 20 w hl (by omega) (by omega))
  have HR := Lib.hid (show (fitL l ((200 : Nat) : Int) ((20 : Nat) : Int)).2 = r from ((fit_form.2 l 200 20).1).trans hr)
  generalize fitL l ((200 : Nat) : Int) ((20 : Nat) : Int) = p at *
  clear hr
  obtain ⟨z, b⟩ := p
  go_enter Try.func71, Try.ntmps71
  go_wp2_with fail
  refine (Q.out).mono ?_
  rintro e w1 ⟨rfl, hb⟩
  go_wp2_with fail
  go_ret
  exact ⟨by rw [← HR.out]; rfl, hb⟩

set_option maxHeartbeats 1000000 in
theorem form_at (t : Tm) : ∀ w : World, t.At w → Calls Try.prog 49 #[t.val] w fun e w' => e = .returned (.bool t.form) ∧ Below w.heap.size w w' := by
  induction t using Tm.induct with
  | h k n s A c a ih0 =>
    intro w hat
    have hl : Lst w A a c := hat.lst
    have hsz : s.size ≤ 9223372036854775807 := by have := ((At_iff _ _).1 hat).1.2.2; unfold maxLen at this; exact this
    have hlen : a.length ≤ 9223372036854775807 := by have := hl.1; have := hl.2.1; unfold maxLen at *; omega
    clear hat
    show Calls Try.prog 49 #[.agg #[.int .i64 k, .int .i64 n, .string s, .slice A a.length c]] w _
    by_cases hk0 : k = 0
    · subst hk0
      obtain ⟨b1, e1⟩ : ∃ b, decide (-2147483648 ≤ n) = b := ⟨_, rfl⟩
      obtain ⟨b2, e2⟩ : ∃ b, decide (n ≤ 2147483648) = b := ⟨_, rfl⟩
      obtain ⟨b3, h3⟩ : ∃ b, decide (s.size = 0) = b := ⟨_, rfl⟩
      obtain ⟨b4, h4⟩ : ∃ b, decide (a.length = 0) = b := ⟨_, rfl⟩
      have HV := Lib.hid (show (Tm.mk 0 n s A c a).form = (b1 && (b2 && (b3 && b4))) by simp only [Tm.form, e1, e2, h3, h4]; simp)
      have e3 : s.toList.isEmpty = b3 := by rw [empty_iff, h3]
      have e4 : ((a.length : Int) == 0) = b4 := by rw [← h4, Bool.eq_iff_iff]; simp
      clear h3 h4 ih0 hl
      cases b1
      · clear e2 e3 e4
        go_enter Try.func49, Try.ntmps49
        go_wp2_with fail
        go_ret
        exact ⟨by rw [HV.out]; rfl, (Below.refl _ _).alloc (Nat.le_refl _) _⟩
      · cases b2
        · clear e3 e4
          go_enter Try.func49, Try.ntmps49
          go_wp2_with fail
          go_ret
          exact ⟨by rw [HV.out]; rfl, (Below.refl _ _).alloc (Nat.le_refl _) _⟩
        · cases b3
          · clear e4
            go_enter Try.func49, Try.ntmps49
            go_wp2_with fail
            go_ret
            exact ⟨by rw [HV.out]; rfl, (Below.refl _ _).alloc (Nat.le_refl _) _⟩
          · cases b4
            all_goals
              go_enter Try.func49, Try.ntmps49
              go_wp2_with fail
              go_ret
              exact ⟨by rw [HV.out]; rfl, (Below.refl _ _).alloc (Nat.le_refl _) _⟩
    have k0 : (k == 0) = false := by simp [hk0]
    by_cases hk1 : k = 1
    · subst hk1
      obtain ⟨b1, e1⟩ : ∃ b, decide (0 ≤ n) = b := ⟨_, rfl⟩
      obtain ⟨b2, e2⟩ : ∃ b, decide (n ≤ 1048576) = b := ⟨_, rfl⟩
      obtain ⟨b3, h3⟩ : ∃ b, decide (s.size = 0) = b := ⟨_, rfl⟩
      obtain ⟨b4, h4⟩ : ∃ b, decide (a.length = 0) = b := ⟨_, rfl⟩
      have HV := Lib.hid (show (Tm.mk 1 n s A c a).form = (b1 && (b2 && (b3 && b4))) by simp only [Tm.form, e1, e2, h3, h4]; simp)
      have e3 : s.toList.isEmpty = b3 := by rw [empty_iff, h3]
      have e4 : ((a.length : Int) == 0) = b4 := by rw [← h4, Bool.eq_iff_iff]; simp
      clear h3 h4 ih0 hl
      cases b1
      · clear e2 e3 e4
        go_enter Try.func49, Try.ntmps49
        go_wp2_with fail
        go_ret
        exact ⟨by rw [HV.out]; rfl, (Below.refl _ _).alloc (Nat.le_refl _) _⟩
      · cases b2
        · clear e3 e4
          go_enter Try.func49, Try.ntmps49
          go_wp2_with fail
          go_ret
          exact ⟨by rw [HV.out]; rfl, (Below.refl _ _).alloc (Nat.le_refl _) _⟩
        · cases b3
          · clear e4
            go_enter Try.func49, Try.ntmps49
            go_wp2_with fail
            go_ret
            exact ⟨by rw [HV.out]; rfl, (Below.refl _ _).alloc (Nat.le_refl _) _⟩
          · cases b4
            all_goals
              go_enter Try.func49, Try.ntmps49
              go_wp2_with fail
              go_ret
              exact ⟨by rw [HV.out]; rfl, (Below.refl _ _).alloc (Nat.le_refl _) _⟩
    have k1 : (k == 1) = false := by simp [hk1]
    by_cases hk2 : k = 2
    · subst hk2
      by_cases hn1 : n = 0
      · subst hn1
        have QI := Lib.hid ih0
        clear ih0
        obtain ⟨b1, h1⟩ : ∃ b, opB s.data.toList = b := ⟨_, rfl⟩
        obtain ⟨b2, h2⟩ : ∃ b, decide (a.length = 2) = b := ⟨_, rfl⟩
        obtain ⟨b3, h3⟩ : ∃ b, rightB s.data.toList = b := ⟨_, rfl⟩
        obtain ⟨b4, h4⟩ : ∃ b, decide (a.length ≤ 6) = b := ⟨_, rfl⟩
        have HX := Lib.hid (fun h => (op_right (l := s.data.toList) h).1)
        rw [h1, h3] at HX
        have q1 := Lib.hid (fun W => ref_op_at s W h1)
        have q2 := Lib.hid (fun W => ref_right_at s W hsz h3)
        have HV := Lib.hid (show (Tm.mk 2 0 s A c a).form = (((b1 && b2) || (b3 && b4)) && formL a) by simp only [Tm.form, h1, h2, h3, h4]; simp)
        have e2 : ((a.length : Int) == 2) = b2 := by rw [← h2, Bool.eq_iff_iff]; simp; omega
        have e4 : decide (6 < (a.length : Int)) = !b4 := by rw [← h4, Bool.eq_iff_iff]; simp; omega
        clear h1 h2 h3 h4
        cases b1
        · clear e2
          cases b3
          · clear e4
            go_enter Try.func49, Try.ntmps49
            go_wp2_with fail
            refine (q1.out _).mono ?_
            rintro e w' ⟨rfl, rfl⟩
            go_wp2_with fail
            refine (q2.out _).mono ?_
            rintro e w' ⟨rfl, rfl⟩
            go_wp2_with fail
            go_ret
            exact ⟨by rw [HV.out]; rfl, (Below.refl _ _).alloc (Nat.le_refl _) _⟩
          · cases b4
            · have e4' : decide (6 < (a.length : Int)) = true := e4
              clear e4
              go_enter Try.func49, Try.ntmps49
              go_wp2_with fail
              refine (q1.out _).mono ?_
              rintro e w' ⟨rfl, rfl⟩
              go_wp2_with fail
              refine (q2.out _).mono ?_
              rintro e w' ⟨rfl, rfl⟩
              go_wp2_with fail
              go_ret
              exact ⟨by rw [HV.out]; rfl, (Below.refl _ _).alloc (Nat.le_refl _) _⟩
            · have e4' : decide (6 < (a.length : Int)) = false := e4
              clear e4
              go_enter Try.func49, Try.ntmps49
              go_wp2_with fail
              refine (q1.out _).mono ?_
              rintro e w' ⟨rfl, rfl⟩
              go_wp2_with fail
              refine (q2.out _).mono ?_
              rintro e w' ⟨rfl, rfl⟩
              go_wp2_with fail
              go_loopw [4] (fun i wr => ∃ j : Nat, j ≤ a.length ∧ i = .int .i64 j ∧ Hid (formL (a.take j) = true) ∧ Below (w.alloc (.cells #[.int .i64 2, .int .i64 0, .string s, .slice A a.length c] 24)).heap.size (w.alloc (.cells #[.int .i64 2, .int .i64 0, .string s, .slice A a.length c] 24)) wr) (fun i _ => a.length - (intOf i).toNat)
              case atStart => exact ⟨0, Nat.zero_le _, rfl, Lib.hid rfl, Below.refl _ _⟩
              case round =>
                obtain ⟨j, hj, rfl, HF, hb⟩ := hrel
                obtain ⟨d0, d1, d2, d3, hb2⟩ := box4 hb
                have HB := Lib.hid hb
                clear hb
                by_cases hlt : j < a.length
                · obtain ⟨b, o, rfl, ⟨c0, c1, c2, c3⟩, hx⟩ := (hl.below hb2).get hlt
                  have hmem := getD_mem hlt
                  have HN := Lib.hid (formL_next hlt)
                  have HS := Lib.hid (fun h => formL_false (l := a) (k := j + 1) h)
                  rw [HF.out, Bool.true_and] at HN
                  rw [HN.out] at HS
                  generalize a.getD j default = x at *
                  have Q1 := Lib.hid (QI.out x hmem)
                  have HX := Lib.hid hx
                  clear hx QI hmem
                  obtain ⟨bx, hbx⟩ : ∃ b, x.form = b := ⟨_, rfl⟩
                  rw [hbx] at HN HS Q1
                  clear hbx
                  obtain ⟨k', n', s', A', c', a'⟩ := x
                  simp only [Tm.kind, Tm.num, Tm.name, Tm.at_, Tm.args, Tm.cap] at c0 c1 c2 c3
                  cases bx
                  · go_wp2_with fail
                    refine (Q1.out _ HX.out).mono ?_
                    rintro e w2 ⟨rfl, hb3⟩
                    go_wp2_with fail
                    go_ret
                    refine ⟨?_, hb2.trans (hb3.mono hb2.size)⟩
                    rw [HV.out, HS.out True.intro]
                    rfl
                  · go_wp2_with fail
                    refine (Q1.out _ HX.out).mono ?_
                    rintro e w2 ⟨rfl, hb3⟩
                    go_wp2_with fail
                    go_roundw
                    case rel => exact ⟨j + 1, by omega, by go_num, HN, HB.out.trans (hb3.mono HB.out.size)⟩
                    case measure => simp [intOf]; omega
                · obtain rfl : j = a.length := by omega
                  have HE := Lib.hid (show formL a = true by rw [← HF.out, List.take_length])
                  clear HF
                  go_wp2_with fail
                  go_ret
                  refine ⟨?_, hb2⟩
                  rw [HV.out, HE.out]
                  rfl
        · have h3f : b3 = false := by cases b2 <;> exact HX.out rfl
          subst h3f
          clear e4
          cases b2
          · go_enter Try.func49, Try.ntmps49
            go_wp2_with fail
            refine (q1.out _).mono ?_
            rintro e w' ⟨rfl, rfl⟩
            go_wp2_with fail
            refine (q2.out _).mono ?_
            rintro e w' ⟨rfl, rfl⟩
            go_wp2_with fail
            go_ret
            exact ⟨by rw [HV.out]; rfl, (Below.refl _ _).alloc (Nat.le_refl _) _⟩
          · go_enter Try.func49, Try.ntmps49
            go_wp2_with fail
            refine (q1.out _).mono ?_
            rintro e w' ⟨rfl, rfl⟩
            go_wp2_with fail
            go_loopw [4] (fun i wr => ∃ j : Nat, j ≤ a.length ∧ i = .int .i64 j ∧ Hid (formL (a.take j) = true) ∧ Below (w.alloc (.cells #[.int .i64 2, .int .i64 0, .string s, .slice A a.length c] 24)).heap.size (w.alloc (.cells #[.int .i64 2, .int .i64 0, .string s, .slice A a.length c] 24)) wr) (fun i _ => a.length - (intOf i).toNat)
            case atStart => exact ⟨0, Nat.zero_le _, rfl, Lib.hid rfl, Below.refl _ _⟩
            case round =>
              obtain ⟨j, hj, rfl, HF, hb⟩ := hrel
              obtain ⟨d0, d1, d2, d3, hb2⟩ := box4 hb
              have HB := Lib.hid hb
              clear hb
              by_cases hlt : j < a.length
              · obtain ⟨b, o, rfl, ⟨c0, c1, c2, c3⟩, hx⟩ := (hl.below hb2).get hlt
                have hmem := getD_mem hlt
                have HN := Lib.hid (formL_next hlt)
                have HS := Lib.hid (fun h => formL_false (l := a) (k := j + 1) h)
                rw [HF.out, Bool.true_and] at HN
                rw [HN.out] at HS
                generalize a.getD j default = x at *
                have Q1 := Lib.hid (QI.out x hmem)
                have HX := Lib.hid hx
                clear hx QI hmem
                obtain ⟨bx, hbx⟩ : ∃ b, x.form = b := ⟨_, rfl⟩
                rw [hbx] at HN HS Q1
                clear hbx
                obtain ⟨k', n', s', A', c', a'⟩ := x
                simp only [Tm.kind, Tm.num, Tm.name, Tm.at_, Tm.args, Tm.cap] at c0 c1 c2 c3
                cases bx
                · go_wp2_with fail
                  refine (Q1.out _ HX.out).mono ?_
                  rintro e w2 ⟨rfl, hb3⟩
                  go_wp2_with fail
                  go_ret
                  refine ⟨?_, hb2.trans (hb3.mono hb2.size)⟩
                  rw [HV.out, HS.out True.intro]
                  rfl
                · go_wp2_with fail
                  refine (Q1.out _ HX.out).mono ?_
                  rintro e w2 ⟨rfl, hb3⟩
                  go_wp2_with fail
                  go_roundw
                  case rel => exact ⟨j + 1, by omega, by go_num, HN, HB.out.trans (hb3.mono HB.out.size)⟩
                  case measure => simp [intOf]; omega
              · obtain rfl : j = a.length := by omega
                have HE := Lib.hid (show formL a = true by rw [← HF.out, List.take_length])
                clear HF
                go_wp2_with fail
                go_ret
                refine ⟨?_, hb2⟩
                rw [HV.out, HE.out]
                rfl
      · have HV := Lib.hid (show (Tm.mk 2 n s A c a).form = false by simp [Tm.form, hn1])
        have hn1' : (n != 0) = true := by simp [hn1]
        obtain ⟨b1, h1⟩ : ∃ b, opB s.data.toList = b := ⟨_, rfl⟩
        obtain ⟨b2, e2⟩ : ∃ b, ((a.length : Int) == 2) = b := ⟨_, rfl⟩
        have q1 := Lib.hid (fun W => ref_op_at s W h1)
        clear ih0 hl h1
        cases b1
        · clear e2
          go_enter Try.func49, Try.ntmps49
          go_wp2_with fail
          refine (q1.out _).mono ?_
          rintro e w' ⟨rfl, rfl⟩
          go_wp2_with fail
          go_ret
          exact ⟨by rw [HV.out]; rfl, (Below.refl _ _).alloc (Nat.le_refl _) _⟩
        · cases b2
          all_goals
            go_enter Try.func49, Try.ntmps49
            go_wp2_with fail
            refine (q1.out _).mono ?_
            rintro e w' ⟨rfl, rfl⟩
            go_wp2_with fail
            go_ret
            exact ⟨by rw [HV.out]; rfl, (Below.refl _ _).alloc (Nat.le_refl _) _⟩
    · have HV := Lib.hid (show (Tm.mk k n s A c a).form = false by simp [Tm.form, hk0, hk1, hk2])
      have k2 : (k == 2) = false := by simp [hk2]
      clear ih0 hl
      go_enter Try.func49, Try.ntmps49
      go_wp2_with fail
      go_ret
      exact ⟨by rw [HV.out]; rfl, (Below.refl _ _).alloc (Nat.le_refl _) _⟩
end Go.Proofs.Ytclhmdgiffemlaa
