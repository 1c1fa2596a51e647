/-
  Contracts of rightWithin, rightAllWithin, Right and rightTogether of the program.
-/
import Derived.Test.YtgialbcohkpogaaTmRight
import Derived.Test.YtgialbcohkpogaaTmBelow
import Derived.BigQuiet
import Derived.Lib.QuietBelow
namespace Go.Proofs.Ytgialbcohkpogaa
open Go.RowKit Go.Sort

/-- A struct of four cells that was laid, in each world of the class. -/
theorem boxed4 (w : World) (v0 v1 v2 v3 : Value) (T : TypeId) :
    (∀ d os, (grow (redrawn (w.alloc (.cells #[v0, v1, v2, v3] T)) d) os).cell? ⟨w.heap.size, 0, none⟩ = some v0) ∧ (∀ d os, (grow (redrawn (w.alloc (.cells #[v0, v1, v2, v3] T)) d) os).cell? ⟨w.heap.size, 1, none⟩ = some v1) ∧
    (∀ d os, (grow (redrawn (w.alloc (.cells #[v0, v1, v2, v3] T)) d) os).cell? ⟨w.heap.size, 2, none⟩ = some v2) ∧ (∀ d os, (grow (redrawn (w.alloc (.cells #[v0, v1, v2, v3] T)) d) os).cell? ⟨w.heap.size, 3, none⟩ = some v3) := by
  have h : ∀ j v, (#[v0, v1, v2, v3] : Array Value)[j]? = some v → (w.alloc (.cells #[v0, v1, v2, v3] T)).cell? ⟨w.heap.size, j, none⟩ = some v := fun j v hv => by rw [World.cell?_alloc_at _ _ _ _ rfl, hv]
  exact ⟨cell_regrown (h 0 v0 rfl), cell_regrown (h 1 v1 rfl), cell_regrown (h 2 v2 rfl), cell_regrown (h 3 v3 rfl)⟩

theorem ret_fit {a b : Int × Bool} (h : a = b) : Ending.returned (.tuple #[.int .i64 a.1, .bool a.2]) = .returned (.tuple #[.int .i64 b.1, .bool b.2]) := by rw [h]

/-- What is proved of rightWithin at a term. -/
def FitAt (x : Tm) : Prop := ∀ (nodes depth : Nat) (w : World), x.At w → nodes ≤ 1000 → depth ≤ 1000 →
    Calls Try.prog 44 #[x.val, .int .i64 (nodes : Int), .int .i64 (depth : Int)] w fun e w' => e = .returned (.tuple #[.int .i64 (x.fit nodes depth).1, .bool (x.fit nodes depth).2]) ∧ Below w.heap.size w w'

set_option maxHeartbeats 1000000 in
theorem fitL_at (l : List Tm) (ih : ∀ x ∈ l, FitAt x) (A : Option Addr) (c nodes depth : Nat) (w : World) (hl : Lst w A l c) (hn : nodes ≤ 1000) (hd : depth ≤ 1000) :
    Calls Try.prog 67 #[.slice A l.length c, .int .i64 (nodes : Int), .int .i64 (depth : Int)] w fun e w' =>
      e = .returned (.tuple #[.int .i64 (fitL l nodes depth).1, .bool (fitL l nodes depth).2]) ∧ Below w.heap.size w w' := by
  have hlen : l.length ≤ 9223372036854775807 := by have := hl.1; have := hl.2.1; unfold maxLen at *; omega
  have QI := Lib.hid ih
  clear ih
  go_enter Try.func67, Try.ntmps67
  go_wp2_with fail
  go_loopw [6, 13] (fun z i wr => ∃ j m : Nat, j ≤ l.length ∧ i = .int .i64 j ∧ z = .int .i64 (m : Int) ∧ m ≤ 1000 ∧ Hid (fitL (l.take j) nodes depth = ((m : Int), true)) ∧ Below w.heap.size w wr) (fun _ i _ => l.length - (intOf i).toNat)
  case atStart => exact ⟨0, nodes, Nat.zero_le _, rfl, rfl, hn, Lib.hid rfl, Below.refl _ _⟩
  case round =>
    obtain ⟨j, m, hj, rfl, rfl, hm, HF, hb⟩ := hrel
    by_cases hlt : j < l.length
    · obtain ⟨b, o, rfl, ⟨c0, c1, c2, c3⟩, hx⟩ := (hl.below hb).get hlt
      have hmem := getD_mem hlt
      have HN := Lib.hid (fitL_next hlt (nodes : Int) (depth : Int) (by rw [HF.out]))
      have HS := Lib.hid (fun h => fitL_stop hlt (nodes : Int) (depth : Int) (by rw [HF.out]) h)
      rw [HF.out] at HN HS
      generalize l.getD j default = x at *
      have Q1 := Lib.hid (QI.out x hmem m depth)
      have HX := Lib.hid hx
      clear hx QI hmem
      obtain ⟨p, hp⟩ : ∃ p, x.fit m depth = p := ⟨_, rfl⟩
      have HT := Lib.hid (fun h => fit_nat (t := x) (nodes := m) (depth := depth) h)
      rw [hp] at HN HS Q1 HT
      clear hp
      obtain ⟨z, b2⟩ := p
      obtain ⟨k', n', s', A', c', a'⟩ := x
      simp only [Tm.kind, Tm.num, Tm.name, Tm.at_, Tm.args, Tm.cap] at c0 c1 c2 c3
      cases b2
      · go_wp2_with fail
        refine (Q1.out _ (HX.out.alloc _) hm hd).mono ?_
        rintro e w2 ⟨rfl, hb3⟩
        go_wp2_with fail
        go_ret2
        refine ⟨?_, (hb.alloc hb.size _).trans (hb3.mono (by have := hb.size; simp; omega))⟩
        rw [HS.out True.intro]
        rfl
      · obtain ⟨m', hm', hle⟩ := HT.out rfl
        obtain rfl : z = (m' : Int) := hm'
        clear HT HS
        go_wp2_with fail
        refine (Q1.out _ (HX.out.alloc _) hm hd).mono ?_
        rintro e w2 ⟨rfl, hb3⟩
        go_wp2_with fail
        go_roundw
        case rel => exact ⟨j + 1, m', by omega, by go_num, rfl, by omega, Lib.hid (by rw [HN.out]; rfl), (hb.alloc hb.size _).trans (hb3.mono (by have := hb.size; simp; omega))⟩
        case measure => simp [intOf]; omega
    · obtain rfl : j = l.length := by omega
      have HE := Lib.hid (show fitL l nodes depth = ((m : Int), true) by rw [← HF.out, List.take_length])
      clear HF
      go_wp2_with fail
      go_ret2
      refine ⟨?_, hb⟩
      rw [HE.out]
      rfl

theorem tuple_fit (z : Int) (b : Bool) (p : Int × Bool) (h : p = (z, b)) : Ending.returned (.tuple #[.int .i64 z, .bool b]) = .returned (.tuple #[.int .i64 p.1, .bool p.2]) := by rw [h]

set_option maxHeartbeats 1000000 in
theorem fit_at (t : Tm) : FitAt t := by
  induction t using Tm.induct with
  | h k n s A c a ih0 =>
    intro nodes depth w hat hn hd
    have hl := hat.lst
    have hsz : s.size ≤ 9223372036854775807 := by have := ((At_iff _ _).1 hat).1.2.2; unfold maxLen at this; exact this
    have hlen : a.length ≤ 9223372036854775807 := by have := hl.1; have := hl.2.1; simp only [Tm.args, Tm.cap] at *; unfold maxLen at *; omega
    show Calls Try.prog 44 #[.agg #[.int .i64 k, .int .i64 n, .string s, .slice A a.length c], .int .i64 (nodes : Int), .int .i64 (depth : Int)] w _
    by_cases hn0 : nodes = 0
    · have HV := Lib.hid (show (Tm.mk k n s A c a).fit nodes depth = (0, false) by subst hn0; simp [Tm.fit])
      have e0 : ((nodes : Int) == 0) = true := by simp [hn0]
      clear hn0 ih0 hl
      go_enter Try.func44, Try.ntmps44
      go_wp2_with fail
      go_ret2
      exact ⟨tuple_fit _ _ _ HV.out, (Below.refl _ _).alloc (Nat.le_refl _) _⟩
    have e0 : ((nodes : Int) == 0) = false := by simp [hn0]
    by_cases hd0 : depth = 0
    · have HV := Lib.hid (show (Tm.mk k n s A c a).fit nodes depth = (0, false) by subst hd0; simp [Tm.fit])
      have e1 : ((depth : Int) == 0) = true := by simp [hd0]
      clear hd0 ih0 hl
      go_enter Try.func44, Try.ntmps44
      go_wp2_with fail
      go_ret2
      exact ⟨tuple_fit _ _ _ HV.out, (Below.refl _ _).alloc (Nat.le_refl _) _⟩
    have e1 : ((depth : Int) == 0) = false := by simp [hd0]
    have hg : ¬ ((nodes : Int) = 0 ∨ (depth : Int) = 0) := by omega
    by_cases hk0 : k = 0
    · subst hk0
      clear ih0 hl
      obtain ⟨b1, hb1⟩ : ∃ b, plainB (.mk 0 n s A c a) = b := ⟨_, rfl⟩
      have q1 := Lib.hid (fun W => plain_at (.mk 0 n s A c a) W hlen hb1)
      have HV0 : (Tm.mk 0 n s A c a).fit nodes depth = ((nodes : Int) - 1, b1 && (decide (-2147483648 ≤ n) && decide (n ≤ 2147483648))) := by
        simp only [Tm.fit]
        rw [if_neg hg, hb1]
        simp
      clear hb1
      cases b1
      · have HV := Lib.hid HV0
        clear HV0
        go_enter Try.func44, Try.ntmps44
        go_wp2_with fail
        have kb := boxed4 w (.int .i64 0) (.int .i64 n) (.string s) (.slice A a.length c) 26
        obtain ⟨kb0, kb1, kb2, kb3⟩ := kb
        refine wp_region_quiet_below (by kernel_rfl) (by kernel_rfl) ?_
        repeat (go_big_quiet_step ((go_at_call 65; exact Calls.regrown_of (q1.out _))))
        refine wpQuiet_nil ?_
        intro _ hw'
        obtain ⟨⟨nd, nos⟩, hw''⟩ := hw'
        subst hw''
        go_wp2_with fail
        go_ret2
        exact ⟨tuple_fit _ _ _ HV.out, ((Below.refl _ _).alloc (Nat.le_refl _) _).trans ((below_regrown _ nd nos).mono (by simp))⟩
      · by_cases h1 : -2147483648 ≤ n
        · by_cases h2 : n ≤ 2147483648
          · have HV := Lib.hid (show (Tm.mk 0 n s A c a).fit nodes depth = ((nodes : Int) - 1, true) by rw [HV0]; simp [h1, h2])
            clear HV0
            go_enter Try.func44, Try.ntmps44
            go_wp2_with fail
            have kb := boxed4 w (.int .i64 0) (.int .i64 n) (.string s) (.slice A a.length c) 26
            obtain ⟨kb0, kb1, kb2, kb3⟩ := kb
            refine wp_region_quiet_below (by kernel_rfl) (by kernel_rfl) ?_
            repeat (go_big_quiet_step ((go_at_call 65; exact Calls.regrown_of (q1.out _))))
            refine wpQuiet_nil ?_
            intro _ hw'
            obtain ⟨⟨nd, nos⟩, hw''⟩ := hw'
            subst hw''
            go_wp2_with fail
            go_ret2
            exact ⟨tuple_fit _ _ _ HV.out, ((Below.refl _ _).alloc (Nat.le_refl _) _).trans ((below_regrown _ nd nos).mono (by simp))⟩
          · have HV := Lib.hid (show (Tm.mk 0 n s A c a).fit nodes depth = ((nodes : Int) - 1, false) by rw [HV0]; simp [h1, h2])
            have h2' : decide (n ≤ 2147483648) = false := by simpa using h2
            clear HV0 h2
            go_enter Try.func44, Try.ntmps44
            go_wp2_with fail
            have kb := boxed4 w (.int .i64 0) (.int .i64 n) (.string s) (.slice A a.length c) 26
            obtain ⟨kb0, kb1, kb2, kb3⟩ := kb
            refine wp_region_quiet_below (by kernel_rfl) (by kernel_rfl) ?_
            repeat (go_big_quiet_step ((go_at_call 65; exact Calls.regrown_of (q1.out _))))
            refine wpQuiet_nil ?_
            intro _ hw'
            obtain ⟨⟨nd, nos⟩, hw''⟩ := hw'
            subst hw''
            go_wp2_with fail
            go_ret2
            exact ⟨tuple_fit _ _ _ HV.out, ((Below.refl _ _).alloc (Nat.le_refl _) _).trans ((below_regrown _ nd nos).mono (by simp))⟩
        · have HV := Lib.hid (show (Tm.mk 0 n s A c a).fit nodes depth = ((nodes : Int) - 1, false) by rw [HV0]; simp [h1])
          have h1' : decide (-2147483648 ≤ n) = false := by simpa using h1
          clear HV0 h1
          go_enter Try.func44, Try.ntmps44
          go_wp2_with fail
          have kb := boxed4 w (.int .i64 0) (.int .i64 n) (.string s) (.slice A a.length c) 26
          obtain ⟨kb0, kb1, kb2, kb3⟩ := kb
          refine wp_region_quiet_below (by kernel_rfl) (by kernel_rfl) ?_
          repeat (go_big_quiet_step ((go_at_call 65; exact Calls.regrown_of (q1.out _))))
          refine wpQuiet_nil ?_
          intro _ hw'
          obtain ⟨⟨nd, nos⟩, hw''⟩ := hw'
          subst hw''
          go_wp2_with fail
          go_ret2
          exact ⟨tuple_fit _ _ _ HV.out, ((Below.refl _ _).alloc (Nat.le_refl _) _).trans ((below_regrown _ nd nos).mono (by simp))⟩
    have k0 : (k == 0) = false := by simp [hk0]
    by_cases hk1 : k = 1
    · subst hk1
      clear ih0 hl
      obtain ⟨b1, hb1⟩ : ∃ b, plainB (.mk 1 n s A c a) = b := ⟨_, rfl⟩
      have q1 := Lib.hid (fun W => plain_at (.mk 1 n s A c a) W hlen hb1)
      have HV0 : (Tm.mk 1 n s A c a).fit nodes depth = ((nodes : Int) - 1, b1 && (decide (0 ≤ n) && decide (n ≤ 1048576))) := by
        simp only [Tm.fit]
        rw [if_neg hg, hb1]
        simp
      clear hb1
      cases b1
      · have HV := Lib.hid HV0
        clear HV0
        go_enter Try.func44, Try.ntmps44
        go_wp2_with fail
        have kb := boxed4 w (.int .i64 1) (.int .i64 n) (.string s) (.slice A a.length c) 26
        obtain ⟨kb0, kb1, kb2, kb3⟩ := kb
        refine wp_region_quiet_below (by kernel_rfl) (by kernel_rfl) ?_
        repeat (go_big_quiet_step ((go_at_call 65; exact Calls.regrown_of (q1.out _))))
        refine wpQuiet_nil ?_
        intro _ hw'
        obtain ⟨⟨nd, nos⟩, hw''⟩ := hw'
        subst hw''
        go_wp2_with fail
        go_ret2
        exact ⟨tuple_fit _ _ _ HV.out, ((Below.refl _ _).alloc (Nat.le_refl _) _).trans ((below_regrown _ nd nos).mono (by simp))⟩
      · by_cases h1 : 0 ≤ n
        · by_cases h2 : n ≤ 1048576
          · have HV := Lib.hid (show (Tm.mk 1 n s A c a).fit nodes depth = ((nodes : Int) - 1, true) by rw [HV0]; simp [h1, h2])
            clear HV0
            go_enter Try.func44, Try.ntmps44
            go_wp2_with fail
            have kb := boxed4 w (.int .i64 1) (.int .i64 n) (.string s) (.slice A a.length c) 26
            obtain ⟨kb0, kb1, kb2, kb3⟩ := kb
            refine wp_region_quiet_below (by kernel_rfl) (by kernel_rfl) ?_
            repeat (go_big_quiet_step ((go_at_call 65; exact Calls.regrown_of (q1.out _))))
            refine wpQuiet_nil ?_
            intro _ hw'
            obtain ⟨⟨nd, nos⟩, hw''⟩ := hw'
            subst hw''
            go_wp2_with fail
            go_ret2
            exact ⟨tuple_fit _ _ _ HV.out, ((Below.refl _ _).alloc (Nat.le_refl _) _).trans ((below_regrown _ nd nos).mono (by simp))⟩
          · have HV := Lib.hid (show (Tm.mk 1 n s A c a).fit nodes depth = ((nodes : Int) - 1, false) by rw [HV0]; simp [h1, h2])
            have h2' : decide (n ≤ 1048576) = false := by simpa using h2
            clear HV0 h2
            go_enter Try.func44, Try.ntmps44
            go_wp2_with fail
            have kb := boxed4 w (.int .i64 1) (.int .i64 n) (.string s) (.slice A a.length c) 26
            obtain ⟨kb0, kb1, kb2, kb3⟩ := kb
            refine wp_region_quiet_below (by kernel_rfl) (by kernel_rfl) ?_
            repeat (go_big_quiet_step ((go_at_call 65; exact Calls.regrown_of (q1.out _))))
            refine wpQuiet_nil ?_
            intro _ hw'
            obtain ⟨⟨nd, nos⟩, hw''⟩ := hw'
            subst hw''
            go_wp2_with fail
            go_ret2
            exact ⟨tuple_fit _ _ _ HV.out, ((Below.refl _ _).alloc (Nat.le_refl _) _).trans ((below_regrown _ nd nos).mono (by simp))⟩
        · have HV := Lib.hid (show (Tm.mk 1 n s A c a).fit nodes depth = ((nodes : Int) - 1, false) by rw [HV0]; simp [h1])
          have h1' : decide (0 ≤ n) = false := by simpa using h1
          clear HV0 h1
          go_enter Try.func44, Try.ntmps44
          go_wp2_with fail
          have kb := boxed4 w (.int .i64 1) (.int .i64 n) (.string s) (.slice A a.length c) 26
          obtain ⟨kb0, kb1, kb2, kb3⟩ := kb
          refine wp_region_quiet_below (by kernel_rfl) (by kernel_rfl) ?_
          repeat (go_big_quiet_step ((go_at_call 65; exact Calls.regrown_of (q1.out _))))
          refine wpQuiet_nil ?_
          intro _ hw'
          obtain ⟨⟨nd, nos⟩, hw''⟩ := hw'
          subst hw''
          go_wp2_with fail
          go_ret2
          exact ⟨tuple_fit _ _ _ HV.out, ((Below.refl _ _).alloc (Nat.le_refl _) _).trans ((below_regrown _ nd nos).mono (by simp))⟩
    have k1 : (k == 1) = false := by simp [hk1]
    by_cases hk2 : k = 2
    · subst hk2
      by_cases hn1 : n = 0
      · subst hn1
        obtain ⟨b1, hb1⟩ : ∃ b, funcB s.data.toList a.length = b := ⟨_, rfl⟩
        have q1 := Lib.hid (fun W => func_at s a.length W hsz hlen hb1)
        have hn' : (nodes : Int) - 1 = ((nodes - 1 : Nat) : Int) := by omega
        have hd' : (depth : Int) - 1 = ((depth - 1 : Nat) : Int) := by omega
        cases b1
        · have HV := Lib.hid (show (Tm.mk 2 0 s A c a).fit nodes depth = (0, false) by simp only [Tm.fit]; rw [if_neg hg, hb1]; simp)
          clear ih0 hl hb1 hn' hd'
          go_enter Try.func44, Try.ntmps44
          go_wp2_with fail
          refine (q1.out _).mono ?_
          rintro e w' ⟨rfl, rfl⟩
          go_wp2_with fail
          go_ret2
          exact ⟨tuple_fit _ _ _ HV.out, (Below.refl _ _).alloc (Nat.le_refl _) _⟩
        · have HV := Lib.hid (show (Tm.mk 2 0 s A c a).fit nodes depth = fitL a ((nodes : Int) - 1) ((depth : Int) - 1) by simp only [Tm.fit]; rw [if_neg hg, hb1]; simp)
          have q2 := Lib.hid (fun W h => fitL_at a ih0 A c (nodes - 1) (depth - 1) W h (by omega) (by omega))
          rw [← hn', ← hd'] at q2
          have HL := Lib.hid (show Lst (w.alloc (.cells #[.int .i64 2, .int .i64 0, .string s, .slice A a.length c] 26)) A a c from hl.below ((Below.refl _ _).alloc (Nat.le_refl _) _))
          clear ih0 hl hb1 hn' hd'
          go_enter Try.func44, Try.ntmps44
          go_wp2_with fail
          refine (q1.out _).mono ?_
          rintro e w' ⟨rfl, rfl⟩
          go_wp2_with fail
          refine (q2.out _ HL.out).mono ?_
          rintro e w2 ⟨rfl, hb2⟩
          go_wp2_with fail
          go_ret2
          refine ⟨?_, ((Below.refl _ _).alloc (Nat.le_refl _) _).trans (hb2.mono (by simp))⟩
          rw [HV.out]
          rfl
      · have HV := Lib.hid (show (Tm.mk 2 n s A c a).fit nodes depth = (0, false) by simp only [Tm.fit]; rw [if_neg hg]; simp [hn1])
        have hn1' : (n != 0) = true := by simp [hn1]
        clear ih0 hl
        go_enter Try.func44, Try.ntmps44
        go_wp2_with fail
        go_ret2
        exact ⟨tuple_fit _ _ _ HV.out, (Below.refl _ _).alloc (Nat.le_refl _) _⟩
    · have HV := Lib.hid (show (Tm.mk k n s A c a).fit nodes depth = (0, false) by simp only [Tm.fit]; rw [if_neg hg]; simp [hk0, hk1, hk2])
      have k2 : (k == 2) = false := by simp [hk2]
      clear ih0 hl
      go_enter Try.func44, Try.ntmps44
      go_wp2_with fail
      go_ret2
      exact ⟨tuple_fit _ _ _ HV.out, (Below.refl _ _).alloc (Nat.le_refl _) _⟩
end Go.Proofs.Ytgialbcohkpogaa
