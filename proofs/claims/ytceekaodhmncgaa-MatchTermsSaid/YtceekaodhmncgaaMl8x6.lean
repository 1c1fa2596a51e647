/-
  Contracts of lists, Compare, Same and SameTerms of the reference.
  Arguments opened: terms, constraints and goals by value; what the statements lay of them (a slice of one, two or three).
  Contracts of firstOccurrences, Vars, AtomVars and GoalVars of the program.
  Contracts of what the program and the reference say of constraints and of goals: CompareAtom, SameAtom, AtomVars, SameGoal, GoalVars; and Vars of a term.
  Contracts of find, bindsVarIn (with its closure, slices.IndexFunc and slices.ContainsFunc over ints) of the program.
-/
import Derived.Test.YtceekaodhmncgaaMl8x5
import Derived.Test.YtceekaodhmncgaaMl8x4
import Derived.Test.YtceekaodhmncgaaMl8x3
namespace Go.Proofs.Ytceekaodhmncgaa
open Go.RowKit Go.Sort

def RefCmpAt (x : Tm) : Prop := ∀ (u : Tm) (w : World), x.At w → u.At w → Calls Try.prog 38 #[x.val, u.val] w fun e w' => e = .returned (.int .i64 (cmpT x u)) ∧ Below w.heap.size w w'

set_option maxHeartbeats 1000000 in
theorem ref_lists_at (l m : List Tm) (ih : ∀ x ∈ l, RefCmpAt x) (A B : Option Addr) (c d : Nat) (w : World) (hl : Lst w A l c) (hm : Lst w B m d) :
    Calls Try.prog 54 #[.slice A l.length c, .slice B m.length d] w fun e w' => e = .returned (.int .i64 (cmpL l m)) ∧ Below w.heap.size w w' := by
  have hlen : l.length ≤ 9223372036854775807 := by have := hl.1; have := hl.2.1; unfold maxLen at *; omega
  have hlen' : m.length ≤ 9223372036854775807 := by have := hm.1; have := hm.2.1; unfold maxLen at *; omega
  have QI := Lib.hid ih
  obtain ⟨zl, hzl⟩ : ∃ z, ints l.length m.length = z := ⟨_, rfl⟩
  have ql := Lib.hid (fun W => ref_ints_at (l.length : Int) (m.length : Int) W hzl)
  have HZL := Lib.hid hzl
  clear ih hzl
  go_enter Try.func54, Try.ntmps54
  go_wp2_with fail
  go_loopw [5] (fun i wr => ∃ j : Nat, j ≤ l.length ∧ j ≤ m.length ∧ i = .int .i64 j ∧ Hid (cmpL (l.take j) (m.take j) = 0) ∧ Below w.heap.size w wr) (fun i _ => l.length - (intOf i).toNat)
  case atStart => exact ⟨0, Nat.zero_le _, Nat.zero_le _, rfl, Lib.hid rfl, Below.refl _ _⟩
  case round =>
    obtain ⟨j, hj, hjm, rfl, HF, hb⟩ := hrel
    by_cases hlt : j < l.length
    · by_cases hlt' : j < m.length
      · obtain ⟨b, o, rfl, ⟨c0, c1, c2, c3⟩, hx⟩ := (hl.below hb).get hlt
        obtain ⟨b', o', rfl, ⟨g0, g1, g2, g3⟩, hy⟩ := (hm.below hb).get hlt'
        have hmem := getD_mem hlt
        have HN := Lib.hid (cmpL_next hlt hlt' HF.out)
        have HS := Lib.hid (fun h => cmpL_stop hlt hlt' HF.out h)
        generalize l.getD j default = x at *
        generalize m.getD j default = y at *
        have Q1 := Lib.hid (fun W (h : Below wr.heap.size wr W) => QI.out x hmem y W (hx.below h) (hy.below h))
        clear hx hy QI hmem
        obtain ⟨z, hz⟩ : ∃ z, cmpT x y = z := ⟨_, rfl⟩
        rw [hz] at HN HS Q1
        clear hz
        obtain ⟨k1, n1, s1, A1, p1, a1⟩ := x
        obtain ⟨k2, n2, s2, A2, p2, a2⟩ := y
        simp only [Tm.kind, Tm.num, Tm.name, Tm.at_, Tm.args, Tm.cap] at c0 c1 c2 c3 g0 g1 g2 g3
        have kc0 := cell_regrown c0
        have kc1 := cell_regrown c1
        have kc2 := cell_regrown c2
        have kc3 := cell_regrown c3
        have kg0 := cell_regrown g0
        have kg1 := cell_regrown g1
        have kg2 := cell_regrown g2
        have kg3 := cell_regrown g3
        go_wp2_with fail
        refine wp_region_quiet_below (by kernel_rfl) (by kernel_rfl) ?_
        repeat (go_big_quiet_step ((go_at_call 38; exact Calls.regrown_of (Q1.out _ (below_regrown _ _ _)))))
        refine wpQuiet_nil ?_
        intro w1 hw'
        have hb4 := hb.trans ((regrown_below hw').mono hb.size)
        clear kc0 kc1 kc2 kc3 kg0 kg1 kg2 kg3 hw'
        by_cases hz : z = 0
        · subst hz
          go_wp2_with fail
          go_roundw
          case rel => exact ⟨j + 1, by omega, by omega, by go_num, HN, hb4⟩
          case measure => simp [intOf]; omega
        · have hz' : (z != 0) = true := by simpa using hz
          have HE := Lib.hid (HS.out hz)
          clear HS HN
          go_wp2_with fail
          go_ret
          exact ⟨by rw [HE.out]; rfl, hb4⟩
      · have HE := Lib.hid (show cmpL l m = zl by rw [cmpL_end (.inr (by omega)) hj hjm HF.out, HZL.out])
        go_wp2_with fail
        refine (ql.out _).mono ?_
        rintro e w' ⟨rfl, rfl⟩
        go_wp2_with fail
        go_ret
        exact ⟨by rw [HE.out]; rfl, hb⟩
    · have HE := Lib.hid (show cmpL l m = zl by rw [cmpL_end (.inl (by omega)) hj hjm HF.out, HZL.out])
      go_wp2_with fail
      refine (ql.out _).mono ?_
      rintro e w' ⟨rfl, rfl⟩
      go_wp2_with fail
      go_ret
      exact ⟨by rw [HE.out]; rfl, hb⟩

set_option maxHeartbeats 2000000 in
theorem ref_compare_at (t : Tm) : RefCmpAt t := by
  induction t using Tm.induct with
  | h k n s A c a ih =>
    intro u w ht hu
    have hl : Lst w A a c := ht.lst
    have hm := hu.lst
    obtain ⟨k', n', s', A', c', a'⟩ := u
    simp only [Tm.args, Tm.at_, Tm.cap] at hm
    have hlen : a.length ≤ 9223372036854775807 := by have := hl.1; have := hl.2.1; unfold maxLen at *; omega
    have hlen' : a'.length ≤ 9223372036854775807 := by have := hm.1; have := hm.2.1; unfold maxLen at *; omega
    have q5 := Lib.hid (fun W (h : Below w.heap.size w W) => ref_lists_at a a' ih A A' c c' W (hl.below h) (hm.below h))
    clear ih ht hu hl hm
    show Calls Try.prog 38 #[.agg #[.int .i64 k, .int .i64 n, .string s, .slice A a.length c], .agg #[.int .i64 k', .int .i64 n', .string s', .slice A' a'.length c']] w _
    obtain ⟨j, hj⟩ : ∃ z, cls k = z := ⟨_, rfl⟩
    obtain ⟨j', hj'⟩ : ∃ z, cls k' = z := ⟨_, rfl⟩
    obtain ⟨z0, h0⟩ : ∃ z, ints j j' = z := ⟨_, rfl⟩
    obtain ⟨z1, h1⟩ : ∃ z, ints n n' = z := ⟨_, rfl⟩
    obtain ⟨z2, h2⟩ : ∃ z, ints k k' = z := ⟨_, rfl⟩
    obtain ⟨z3, h3⟩ : ∃ z, texts s.data.toList s'.data.toList = z := ⟨_, rfl⟩
    obtain ⟨z4, h4⟩ : ∃ z, ints a.length a'.length = z := ⟨_, rfl⟩
    obtain ⟨z5, h5⟩ : ∃ z, cmpL a a' = z := ⟨_, rfl⟩
    have r1 := Lib.hid (show ∀ W, Calls Try.prog 52 #[.agg #[.int .i64 k, .int .i64 n, .string s, .slice A a.length c]] W fun e w' => e = .returned (.int .i64 j) ∧ Below W.heap.size W w' from fun W => class_at (.mk k n s A c a) W hj)
    have r2 := Lib.hid (show ∀ W, Calls Try.prog 52 #[.agg #[.int .i64 k', .int .i64 n', .string s', .slice A' a'.length c']] W fun e w' => e = .returned (.int .i64 j') ∧ Below W.heap.size W w' from fun W => class_at (.mk k' n' s' A' c' a') W hj')
    have q0 := Lib.hid (fun W => ref_ints_at j j' W h0)
    have q1 := Lib.hid (fun W => ref_ints_at n n' W h1)
    have q2 := Lib.hid (fun W => ref_ints_at k k' W h2)
    have q3 := Lib.hid (fun W => ref_texts_at s s' W h3)
    have q4 := Lib.hid (fun W => ref_ints_at (a.length : Int) (a'.length : Int) W h4)
    rw [h5] at q5
    obtain ⟨R, hR⟩ : ∃ z, cmpT (.mk k n s A c a) (.mk k' n' s' A' c' a') = z := ⟨_, rfl⟩
    have HR := hR
    simp only [cmpT, Tm.kind, Tm.num, Tm.name, Tm.args] at HR
    rw [hj, hj', h0, h1, h2, h3, h4, h5] at HR
    rw [hR]
    clear hR h0 h1 h2 h3 h4 h5 hj'
    by_cases e0 : z0 = 0
    · subst e0
      rw [lex_zero] at HR
      by_cases k1 : k = 1
      · subst k1
        obtain rfl : j = 0 := by rw [← hj]; simp [cls]
        rw [if_pos (.inl rfl)] at HR
        subst HR
        clear hj q2 q3 q4 q5
        obtain ⟨kb0, kb1, kb2, kb3, kc0, kc1, kc2, kc3⟩ := boxed8 w (.int .i64 1) (.int .i64 n) (.string s) (.slice A a.length c) (.int .i64 k') (.int .i64 n') (.string s') (.slice A' a'.length c') 25
        go_enter Try.func38, Try.ntmps38
        go_wp2_with fail
        refine wp_region_quiet_below (by kernel_rfl) (by kernel_rfl) ?_
        repeat (go_big_quiet_step (first | (go_at_call 52; first | (with_reducible exact Calls.regrown_of (r1.out _)) | (with_reducible exact Calls.regrown_of (r2.out _))) | (go_at_call 51; exact Calls.regrown_of (withBelow (q0.out _)))))
        refine wpQuiet_nil ?_
        intro w1 hw'
        obtain ⟨⟨d0, d1, d2, d3⟩, ⟨g0, g1, g2, g3⟩, hb1⟩ := box8 (regrown_below hw')
        clear kb0 kb1 kb2 kb3 kc0 kc1 kc2 kc3 hw'
        go_wp2_with fail
        refine (r1.out _).mono ?_
        rintro e w2 ⟨rfl, hb2⟩
        have d0' := (hb2.cell (World.block_lt_of_cell? _ _ d0)).trans d0
        have d1' := (hb2.cell (World.block_lt_of_cell? _ _ d1)).trans d1
        have d2' := (hb2.cell (World.block_lt_of_cell? _ _ d2)).trans d2
        have d3' := (hb2.cell (World.block_lt_of_cell? _ _ d3)).trans d3
        have g0' := (hb2.cell (World.block_lt_of_cell? _ _ g0)).trans g0
        have g1' := (hb2.cell (World.block_lt_of_cell? _ _ g1)).trans g1
        have g2' := (hb2.cell (World.block_lt_of_cell? _ _ g2)).trans g2
        have g3' := (hb2.cell (World.block_lt_of_cell? _ _ g3)).trans g3
        have hb3 := hb1.trans (hb2.mono hb1.size)
        clear d0 d1 d2 d3 g0 g1 g2 g3
        go_wp2_with fail
        refine (q1.out _).mono ?_
        rintro e w' ⟨rfl, rfl⟩
        go_wp2_with fail
        go_ret
        exact ⟨rfl, hb3⟩
      · by_cases k0 : k = 0
        · subst k0
          obtain rfl : j = 1 := by rw [← hj]; simp [cls]
          rw [if_pos (.inr rfl)] at HR
          subst HR
          clear hj q2 q3 q4 q5
          obtain ⟨kb0, kb1, kb2, kb3, kc0, kc1, kc2, kc3⟩ := boxed8 w (.int .i64 0) (.int .i64 n) (.string s) (.slice A a.length c) (.int .i64 k') (.int .i64 n') (.string s') (.slice A' a'.length c') 25
          go_enter Try.func38, Try.ntmps38
          go_wp2_with fail
          refine wp_region_quiet_below (by kernel_rfl) (by kernel_rfl) ?_
          repeat (go_big_quiet_step (first | (go_at_call 52; first | (with_reducible exact Calls.regrown_of (r1.out _)) | (with_reducible exact Calls.regrown_of (r2.out _))) | (go_at_call 51; exact Calls.regrown_of (withBelow (q0.out _)))))
          refine wpQuiet_nil ?_
          intro w1 hw'
          obtain ⟨⟨d0, d1, d2, d3⟩, ⟨g0, g1, g2, g3⟩, hb1⟩ := box8 (regrown_below hw')
          clear kb0 kb1 kb2 kb3 kc0 kc1 kc2 kc3 hw'
          go_wp2_with fail
          refine (r1.out _).mono ?_
          rintro e w2 ⟨rfl, hb2⟩
          have d0' := (hb2.cell (World.block_lt_of_cell? _ _ d0)).trans d0
          have d1' := (hb2.cell (World.block_lt_of_cell? _ _ d1)).trans d1
          have d2' := (hb2.cell (World.block_lt_of_cell? _ _ d2)).trans d2
          have d3' := (hb2.cell (World.block_lt_of_cell? _ _ d3)).trans d3
          have g0' := (hb2.cell (World.block_lt_of_cell? _ _ g0)).trans g0
          have g1' := (hb2.cell (World.block_lt_of_cell? _ _ g1)).trans g1
          have g2' := (hb2.cell (World.block_lt_of_cell? _ _ g2)).trans g2
          have g3' := (hb2.cell (World.block_lt_of_cell? _ _ g3)).trans g3
          have hb3 := hb1.trans (hb2.mono hb1.size)
          clear d0 d1 d2 d3 g0 g1 g2 g3
          go_wp2_with fail
          refine (q1.out _).mono ?_
          rintro e w' ⟨rfl, rfl⟩
          go_wp2_with fail
          go_ret
          exact ⟨rfl, hb3⟩
        · rw [if_neg (by omega)] at HR
          by_cases k2 : k = 2
          · subst k2
            obtain rfl : j = 2 := by rw [← hj]; simp [cls]
            rw [if_pos rfl] at HR
            clear hj q1 q2 k1 k0
            by_cases e1 : z4 = 0
            · subst e1
              rw [lex_zero] at HR
              by_cases e2 : z3 = 0
              · subst e2
                rw [lex_zero] at HR
                subst HR
                obtain ⟨kb0, kb1, kb2, kb3, kc0, kc1, kc2, kc3⟩ := boxed8 w (.int .i64 2) (.int .i64 n) (.string s) (.slice A a.length c) (.int .i64 k') (.int .i64 n') (.string s') (.slice A' a'.length c') 25
                go_enter Try.func38, Try.ntmps38
                go_wp2_with fail
                refine wp_region_quiet_below (by kernel_rfl) (by kernel_rfl) ?_
                repeat (go_big_quiet_step (first | (go_at_call 52; first | (with_reducible exact Calls.regrown_of (r1.out _)) | (with_reducible exact Calls.regrown_of (r2.out _))) | (go_at_call 51; exact Calls.regrown_of (withBelow (q0.out _)))))
                refine wpQuiet_nil ?_
                intro w1 hw'
                obtain ⟨⟨d0, d1, d2, d3⟩, ⟨g0, g1, g2, g3⟩, hb1⟩ := box8 (regrown_below hw')
                clear kb0 kb1 kb2 kb3 kc0 kc1 kc2 kc3 hw'
                go_wp2_with fail
                refine (r1.out _).mono ?_
                rintro e w2 ⟨rfl, hb2⟩
                have d0' := (hb2.cell (World.block_lt_of_cell? _ _ d0)).trans d0
                have d1' := (hb2.cell (World.block_lt_of_cell? _ _ d1)).trans d1
                have d2' := (hb2.cell (World.block_lt_of_cell? _ _ d2)).trans d2
                have d3' := (hb2.cell (World.block_lt_of_cell? _ _ d3)).trans d3
                have g0' := (hb2.cell (World.block_lt_of_cell? _ _ g0)).trans g0
                have g1' := (hb2.cell (World.block_lt_of_cell? _ _ g1)).trans g1
                have g2' := (hb2.cell (World.block_lt_of_cell? _ _ g2)).trans g2
                have g3' := (hb2.cell (World.block_lt_of_cell? _ _ g3)).trans g3
                have hb3 := hb1.trans (hb2.mono hb1.size)
                clear d0 d1 d2 d3 g0 g1 g2 g3
                go_wp2_with fail
                refine (q4.out _).mono ?_
                rintro e w' ⟨rfl, rfl⟩
                go_wp2_with fail
                refine (q3.out _).mono ?_
                rintro e w' ⟨rfl, rfl⟩
                go_wp2_with fail
                refine (q5.out _ hb3).mono ?_
                rintro e w' ⟨rfl, hb⟩
                go_wp2_with fail
                go_ret
                exact ⟨rfl, hb3.trans (hb.mono hb3.size)⟩
              · rw [lex_ne e2] at HR
                subst HR
                have e2' : (z3 == 0) = false := by simpa using e2
                clear q5
                obtain ⟨kb0, kb1, kb2, kb3, kc0, kc1, kc2, kc3⟩ := boxed8 w (.int .i64 2) (.int .i64 n) (.string s) (.slice A a.length c) (.int .i64 k') (.int .i64 n') (.string s') (.slice A' a'.length c') 25
                go_enter Try.func38, Try.ntmps38
                go_wp2_with fail
                refine wp_region_quiet_below (by kernel_rfl) (by kernel_rfl) ?_
                repeat (go_big_quiet_step (first | (go_at_call 52; first | (with_reducible exact Calls.regrown_of (r1.out _)) | (with_reducible exact Calls.regrown_of (r2.out _))) | (go_at_call 51; exact Calls.regrown_of (withBelow (q0.out _)))))
                refine wpQuiet_nil ?_
                intro w1 hw'
                obtain ⟨⟨d0, d1, d2, d3⟩, ⟨g0, g1, g2, g3⟩, hb1⟩ := box8 (regrown_below hw')
                clear kb0 kb1 kb2 kb3 kc0 kc1 kc2 kc3 hw'
                go_wp2_with fail
                refine (r1.out _).mono ?_
                rintro e w2 ⟨rfl, hb2⟩
                have d0' := (hb2.cell (World.block_lt_of_cell? _ _ d0)).trans d0
                have d1' := (hb2.cell (World.block_lt_of_cell? _ _ d1)).trans d1
                have d2' := (hb2.cell (World.block_lt_of_cell? _ _ d2)).trans d2
                have d3' := (hb2.cell (World.block_lt_of_cell? _ _ d3)).trans d3
                have g0' := (hb2.cell (World.block_lt_of_cell? _ _ g0)).trans g0
                have g1' := (hb2.cell (World.block_lt_of_cell? _ _ g1)).trans g1
                have g2' := (hb2.cell (World.block_lt_of_cell? _ _ g2)).trans g2
                have g3' := (hb2.cell (World.block_lt_of_cell? _ _ g3)).trans g3
                have hb3 := hb1.trans (hb2.mono hb1.size)
                clear d0 d1 d2 d3 g0 g1 g2 g3
                go_wp2_with fail
                refine (q4.out _).mono ?_
                rintro e w' ⟨rfl, rfl⟩
                go_wp2_with fail
                refine (q3.out _).mono ?_
                rintro e w' ⟨rfl, rfl⟩
                go_wp2_with fail
                go_ret
                exact ⟨rfl, hb3⟩
            · rw [lex_ne e1] at HR
              subst HR
              have e1' : (z4 == 0) = false := by simpa using e1
              clear q5 q3
              obtain ⟨kb0, kb1, kb2, kb3, kc0, kc1, kc2, kc3⟩ := boxed8 w (.int .i64 2) (.int .i64 n) (.string s) (.slice A a.length c) (.int .i64 k') (.int .i64 n') (.string s') (.slice A' a'.length c') 25
              go_enter Try.func38, Try.ntmps38
              go_wp2_with fail
              refine wp_region_quiet_below (by kernel_rfl) (by kernel_rfl) ?_
              repeat (go_big_quiet_step (first | (go_at_call 52; first | (with_reducible exact Calls.regrown_of (r1.out _)) | (with_reducible exact Calls.regrown_of (r2.out _))) | (go_at_call 51; exact Calls.regrown_of (withBelow (q0.out _)))))
              refine wpQuiet_nil ?_
              intro w1 hw'
              obtain ⟨⟨d0, d1, d2, d3⟩, ⟨g0, g1, g2, g3⟩, hb1⟩ := box8 (regrown_below hw')
              clear kb0 kb1 kb2 kb3 kc0 kc1 kc2 kc3 hw'
              go_wp2_with fail
              refine (r1.out _).mono ?_
              rintro e w2 ⟨rfl, hb2⟩
              have d0' := (hb2.cell (World.block_lt_of_cell? _ _ d0)).trans d0
              have d1' := (hb2.cell (World.block_lt_of_cell? _ _ d1)).trans d1
              have d2' := (hb2.cell (World.block_lt_of_cell? _ _ d2)).trans d2
              have d3' := (hb2.cell (World.block_lt_of_cell? _ _ d3)).trans d3
              have g0' := (hb2.cell (World.block_lt_of_cell? _ _ g0)).trans g0
              have g1' := (hb2.cell (World.block_lt_of_cell? _ _ g1)).trans g1
              have g2' := (hb2.cell (World.block_lt_of_cell? _ _ g2)).trans g2
              have g3' := (hb2.cell (World.block_lt_of_cell? _ _ g3)).trans g3
              have hb3 := hb1.trans (hb2.mono hb1.size)
              clear d0 d1 d2 d3 g0 g1 g2 g3
              go_wp2_with fail
              refine (q4.out _).mono ?_
              rintro e w' ⟨rfl, rfl⟩
              go_wp2_with fail
              go_ret
              exact ⟨rfl, hb3⟩
          · rw [if_neg k2] at HR
            obtain rfl : j = 3 := by rw [← hj]; simp [cls, k1, k0, k2]
            clear hj q4 q5 k1 k0 k2
            by_cases e1 : z2 = 0
            · subst e1
              rw [lex_zero] at HR
              by_cases e2 : z1 = 0
              · subst e2
                rw [lex_zero] at HR
                subst HR
                obtain ⟨kb0, kb1, kb2, kb3, kc0, kc1, kc2, kc3⟩ := boxed8 w (.int .i64 k) (.int .i64 n) (.string s) (.slice A a.length c) (.int .i64 k') (.int .i64 n') (.string s') (.slice A' a'.length c') 25
                go_enter Try.func38, Try.ntmps38
                go_wp2_with fail
                refine wp_region_quiet_below (by kernel_rfl) (by kernel_rfl) ?_
                repeat (go_big_quiet_step (first | (go_at_call 52; first | (with_reducible exact Calls.regrown_of (r1.out _)) | (with_reducible exact Calls.regrown_of (r2.out _))) | (go_at_call 51; exact Calls.regrown_of (withBelow (q0.out _)))))
                refine wpQuiet_nil ?_
                intro w1 hw'
                obtain ⟨⟨d0, d1, d2, d3⟩, ⟨g0, g1, g2, g3⟩, hb1⟩ := box8 (regrown_below hw')
                clear kb0 kb1 kb2 kb3 kc0 kc1 kc2 kc3 hw'
                go_wp2_with fail
                refine (r1.out _).mono ?_
                rintro e w2 ⟨rfl, hb2⟩
                have d0' := (hb2.cell (World.block_lt_of_cell? _ _ d0)).trans d0
                have d1' := (hb2.cell (World.block_lt_of_cell? _ _ d1)).trans d1
                have d2' := (hb2.cell (World.block_lt_of_cell? _ _ d2)).trans d2
                have d3' := (hb2.cell (World.block_lt_of_cell? _ _ d3)).trans d3
                have g0' := (hb2.cell (World.block_lt_of_cell? _ _ g0)).trans g0
                have g1' := (hb2.cell (World.block_lt_of_cell? _ _ g1)).trans g1
                have g2' := (hb2.cell (World.block_lt_of_cell? _ _ g2)).trans g2
                have g3' := (hb2.cell (World.block_lt_of_cell? _ _ g3)).trans g3
                have hb3 := hb1.trans (hb2.mono hb1.size)
                clear d0 d1 d2 d3 g0 g1 g2 g3
                go_wp2_with fail
                refine (q2.out _).mono ?_
                rintro e w' ⟨rfl, rfl⟩
                go_wp2_with fail
                refine (q1.out _).mono ?_
                rintro e w' ⟨rfl, rfl⟩
                go_wp2_with fail
                refine (q3.out _).mono ?_
                rintro e w' ⟨rfl, rfl⟩
                go_wp2_with fail
                go_ret
                exact ⟨rfl, hb3⟩
              · rw [lex_ne e2] at HR
                subst HR
                have e2' : (z1 == 0) = false := by simpa using e2
                clear q3
                obtain ⟨kb0, kb1, kb2, kb3, kc0, kc1, kc2, kc3⟩ := boxed8 w (.int .i64 k) (.int .i64 n) (.string s) (.slice A a.length c) (.int .i64 k') (.int .i64 n') (.string s') (.slice A' a'.length c') 25
                go_enter Try.func38, Try.ntmps38
                go_wp2_with fail
                refine wp_region_quiet_below (by kernel_rfl) (by kernel_rfl) ?_
                repeat (go_big_quiet_step (first | (go_at_call 52; first | (with_reducible exact Calls.regrown_of (r1.out _)) | (with_reducible exact Calls.regrown_of (r2.out _))) | (go_at_call 51; exact Calls.regrown_of (withBelow (q0.out _)))))
                refine wpQuiet_nil ?_
                intro w1 hw'
                obtain ⟨⟨d0, d1, d2, d3⟩, ⟨g0, g1, g2, g3⟩, hb1⟩ := box8 (regrown_below hw')
                clear kb0 kb1 kb2 kb3 kc0 kc1 kc2 kc3 hw'
                go_wp2_with fail
                refine (r1.out _).mono ?_
                rintro e w2 ⟨rfl, hb2⟩
                have d0' := (hb2.cell (World.block_lt_of_cell? _ _ d0)).trans d0
                have d1' := (hb2.cell (World.block_lt_of_cell? _ _ d1)).trans d1
                have d2' := (hb2.cell (World.block_lt_of_cell? _ _ d2)).trans d2
                have d3' := (hb2.cell (World.block_lt_of_cell? _ _ d3)).trans d3
                have g0' := (hb2.cell (World.block_lt_of_cell? _ _ g0)).trans g0
                have g1' := (hb2.cell (World.block_lt_of_cell? _ _ g1)).trans g1
                have g2' := (hb2.cell (World.block_lt_of_cell? _ _ g2)).trans g2
                have g3' := (hb2.cell (World.block_lt_of_cell? _ _ g3)).trans g3
                have hb3 := hb1.trans (hb2.mono hb1.size)
                clear d0 d1 d2 d3 g0 g1 g2 g3
                go_wp2_with fail
                refine (q2.out _).mono ?_
                rintro e w' ⟨rfl, rfl⟩
                go_wp2_with fail
                refine (q1.out _).mono ?_
                rintro e w' ⟨rfl, rfl⟩
                go_wp2_with fail
                go_ret
                exact ⟨rfl, hb3⟩
            · rw [lex_ne e1] at HR
              subst HR
              have e1' : (z2 == 0) = false := by simpa using e1
              clear q3 q1
              obtain ⟨kb0, kb1, kb2, kb3, kc0, kc1, kc2, kc3⟩ := boxed8 w (.int .i64 k) (.int .i64 n) (.string s) (.slice A a.length c) (.int .i64 k') (.int .i64 n') (.string s') (.slice A' a'.length c') 25
              go_enter Try.func38, Try.ntmps38
              go_wp2_with fail
              refine wp_region_quiet_below (by kernel_rfl) (by kernel_rfl) ?_
              repeat (go_big_quiet_step (first | (go_at_call 52; first | (with_reducible exact Calls.regrown_of (r1.out _)) | (with_reducible exact Calls.regrown_of (r2.out _))) | (go_at_call 51; exact Calls.regrown_of (withBelow (q0.out _)))))
              refine wpQuiet_nil ?_
              intro w1 hw'
              obtain ⟨⟨d0, d1, d2, d3⟩, ⟨g0, g1, g2, g3⟩, hb1⟩ := box8 (regrown_below hw')
              clear kb0 kb1 kb2 kb3 kc0 kc1 kc2 kc3 hw'
              go_wp2_with fail
              refine (r1.out _).mono ?_
              rintro e w2 ⟨rfl, hb2⟩
              have d0' := (hb2.cell (World.block_lt_of_cell? _ _ d0)).trans d0
              have d1' := (hb2.cell (World.block_lt_of_cell? _ _ d1)).trans d1
              have d2' := (hb2.cell (World.block_lt_of_cell? _ _ d2)).trans d2
              have d3' := (hb2.cell (World.block_lt_of_cell? _ _ d3)).trans d3
              have g0' := (hb2.cell (World.block_lt_of_cell? _ _ g0)).trans g0
              have g1' := (hb2.cell (World.block_lt_of_cell? _ _ g1)).trans g1
              have g2' := (hb2.cell (World.block_lt_of_cell? _ _ g2)).trans g2
              have g3' := (hb2.cell (World.block_lt_of_cell? _ _ g3)).trans g3
              have hb3 := hb1.trans (hb2.mono hb1.size)
              clear d0 d1 d2 d3 g0 g1 g2 g3
              go_wp2_with fail
              refine (q2.out _).mono ?_
              rintro e w' ⟨rfl, rfl⟩
              go_wp2_with fail
              go_ret
              exact ⟨rfl, hb3⟩
    · rw [lex_ne e0] at HR
      subst HR
      have e0' : (z0 != 0) = true := by simpa using e0
      clear hj q1 q2 q3 q4 q5
      obtain ⟨kb0, kb1, kb2, kb3, kc0, kc1, kc2, kc3⟩ := boxed8 w (.int .i64 k) (.int .i64 n) (.string s) (.slice A a.length c) (.int .i64 k') (.int .i64 n') (.string s') (.slice A' a'.length c') 25
      go_enter Try.func38, Try.ntmps38
      go_wp2_with fail
      refine wp_region_quiet_below (by kernel_rfl) (by kernel_rfl) ?_
      repeat (go_big_quiet_step (first | (go_at_call 52; first | (with_reducible exact Calls.regrown_of (r1.out _)) | (with_reducible exact Calls.regrown_of (r2.out _))) | (go_at_call 51; exact Calls.regrown_of (withBelow (q0.out _)))))
      refine wpQuiet_nil ?_
      intro w1 hw'
      obtain ⟨⟨d0, d1, d2, d3⟩, ⟨g0, g1, g2, g3⟩, hb1⟩ := box8 (regrown_below hw')
      clear kb0 kb1 kb2 kb3 kc0 kc1 kc2 kc3 hw'
      go_wp2_with fail
      go_ret
      exact ⟨rfl, hb1⟩

theorem ref_same_at (t u : Tm) (w : World) (ht : t.At w) (hu : u.At w) {r : Bool} (hr : (cmpT t u == 0) = r) :
    Calls Try.prog 19 #[t.val, u.val] w fun e w' => e = .returned (.bool r) ∧ Below w.heap.size w w' := by
  have Q := Lib.hid (fun W (h : Below w.heap.size w W) => ref_compare_at t u W (ht.below h) (hu.below h))
  generalize cmpT t u = z at *
  obtain ⟨k, n, s, A, c, a⟩ := t
  obtain ⟨k', n', s', A', c', a'⟩ := u
  show Calls Try.prog 19 #[.agg #[.int .i64 k, .int .i64 n, .string s, .slice A a.length c], .agg #[.int .i64 k', .int .i64 n', .string s', .slice A' a'.length c']] w _
  have HR := Lib.hid hr
  clear hr ht hu
  go_enter Try.func19, Try.ntmps19
  go_wp2_with fail
  refine (Q.out _ (below2 _ _ _)).mono ?_
  rintro e w' ⟨rfl, hb⟩
  go_wp2_with fail
  go_ret
  exact ⟨by rw [← HR.out]; rfl, (below2 _ _ _).trans (hb.mono (by simp; omega))⟩
theorem same_terms_at (l m : List Tm) (A B : Option Addr) (c d : Nat) (w : World) (hl : Lst w A l c) (hm : Lst w B m d) {r : Bool} (hr : (cmpL l m == 0) = r) :
    Calls Try.prog 44 #[.slice A l.length c, .slice B m.length d] w fun e w' => e = .returned (.bool r) ∧ Below w.heap.size w w' := by
  have Q := Lib.hid (ref_lists_at l m (fun x _ => ref_compare_at x) A B c d w hl hm)
  generalize cmpL l m = z at *
  have HR := Lib.hid hr
  clear hr
  go_enter Try.func44, Try.ntmps44
  go_wp2_with fail
  refine (Q.out).mono ?_
  rintro e w' ⟨rfl, hb⟩
  go_wp2_with fail
  go_ret
  exact ⟨by rw [← HR.out]; rfl, hb⟩
end Go.Proofs.Ytceekaodhmncgaa
namespace Go.Proofs.Ytceekaodhmncgaa
open Go.ChangeShapes Go.WideShapes Go.ChangeAt Go.RowKit

theorem types : Types Try.prog 3 9 23 25 :=
  ⟨Try.underlying3, Try.underlying9, Try.underlying23, ⟨_, _, _, _, Try.underlying25, ⟨rfl, rfl⟩, ⟨rfl, rfl⟩, ⟨rfl, rfl⟩, ⟨rfl, rfl⟩⟩, by kernel_rfl, by kernel_rfl, by kernel_rfl, by kernel_rfl⟩

section
variable {H : Type} {enc : TypeId × Value → H} {W : World} {base : Nat} {spare : Nat → Bool} {held : Bool}
set_option maxRecDepth 100000 in
theorem open_am {r : Reach} {b0 : Nat} {v : Value} {d : DataW H} {p : List MemPlace} (hv : Value.okWide Try.prog W r b0 36 v) (h : DataW.Trod enc Try.prog W base spare held 36 v d p) :
    ∃ a : Am, v = a.val ∧ a.At W := by
  obtain ⟨cs, rfl, hsz⟩ := okWide_struct Try.underlying36 hv
  obtain ⟨fuel, hf⟩ := h
  obtain ⟨xs, m, _, _, hcl, hxl, hg⟩ := DataW.trod_struct Try.underlying36 hf
  have hcl' : cs.toList.length = 2 := hcl.trans (by kernel_rfl)
  have hcs : (Value.agg cs).cells.toList = cs.toList := rfl
  rw [hcs] at hg
  match hl : cs.toList, hcl' with
  | [c0, c1], _ =>
    rw [hl] at hg
    have hxs : xs.length = 2 := hxl
    have g0 := hg 0 _ rfl
    have g1 := hg 1 _ rfl
    rw [List.getElem?_eq_getElem (by omega)] at g0 g1
    have e0 : (Try.prog.cellsOf 9) = 1 := by kernel_rfl
    have e1 : (Try.prog.cellsOf 23) = 1 := by kernel_rfl
    simp only [List.getElem_toArray, List.getElem_cons_zero, List.getElem_cons_succ] at g0 g1
    obtain ⟨s, hs, _, ws⟩ := DataW.trod_string (cs := [c0]) Try.underlying9 (by simpa [e0] using g0)
    obtain ⟨A, l, c, hv', hl'⟩ := open_lst types (v := c1) (by simpa [e1] using g1)
    obtain rfl : c0 = .string s := by simpa using hs
    subst hv'
    refine ⟨⟨s, A, c, l⟩, ?_, ws, hl'⟩
    rw [← Array.toArray_toList (xs := cs), hl]
set_option maxRecDepth 100000 in
theorem open_gl {r : Reach} {b0 : Nat} {v : Value} {d : DataW H} {p : List MemPlace} (hv : Value.okWide Try.prog W r b0 42 v) (h : DataW.Trod enc Try.prog W base spare held 42 v d p) :
    ∃ g : Gl, v = g.val ∧ g.At W := by
  obtain ⟨cs, rfl, hsz⟩ := okWide_struct Try.underlying42 hv
  obtain ⟨fuel, hf⟩ := h
  obtain ⟨xs, m, _, _, hcl, hxl, hg⟩ := DataW.trod_struct Try.underlying42 hf
  have hcl' : cs.toList.length = 3 := hcl.trans (by kernel_rfl)
  have hcs : (Value.agg cs).cells.toList = cs.toList := rfl
  rw [hcs] at hg
  match hl : cs.toList, hcl' with
  | [c0, c1, c2], _ =>
    rw [hl] at hg
    have hxs : xs.length = 3 := hxl
    have g0 := hg 0 _ rfl
    have g1 := hg 1 _ rfl
    have g2 := hg 2 _ rfl
    rw [List.getElem?_eq_getElem (by omega)] at g0 g1 g2
    have e0 : (Try.prog.cellsOf 9) = 1 := by kernel_rfl
    have e1 : (Try.prog.cellsOf 23) = 1 := by kernel_rfl
    have e2 : (Try.prog.cellsOf 3) = 1 := by kernel_rfl
    simp only [List.getElem_toArray, List.getElem_cons_zero, List.getElem_cons_succ] at g0 g1 g2
    obtain ⟨k, hk, _, wk⟩ := DataW.trod_int (cs := [c0]) Try.underlying3 (by simpa [e2] using g0)
    obtain ⟨s, hs, _, ws⟩ := DataW.trod_string (cs := [c1]) Try.underlying9 (by simpa [e0] using g1)
    obtain ⟨A, l, c, hv', hl'⟩ := open_lst types (v := c2) (by simpa [e1] using g2)
    obtain rfl : c0 = .int .i64 k := by simpa using hk
    obtain rfl : c1 = .string s := by simpa using hs
    subst hv'
    refine ⟨⟨k, s, A, c, l⟩, ?_, int_fits wk, ws, hl'⟩
    rw [← Array.toArray_toList (xs := cs), hl]
end

/-- A slice of terms that was just laid. -/
theorem row_one {w : World} (t : Tm) (h : t.At w) : RowAt (w.alloc (.cells #[.int .i64 t.kind, .int .i64 t.num, .string t.name, .slice t.at_ t.args.length t.cap] 25)) [t] w.heap.size 0 := by
  have hc : ∀ j v, (#[.int .i64 t.kind, .int .i64 t.num, .string t.name, .slice t.at_ t.args.length t.cap] : Array Value)[j]? = some v →
      (w.alloc (.cells #[.int .i64 t.kind, .int .i64 t.num, .string t.name, .slice t.at_ t.args.length t.cap] 25)).cell? ⟨w.heap.size, j, none⟩ = some v := fun j v hv => by
    rw [World.cell?_alloc_at _ _ _ _ rfl, hv]
  simp only [RowAt]
  exact ⟨⟨hc 0 _ rfl, hc 1 _ rfl, hc 2 _ rfl, hc 3 _ rfl⟩, h.alloc _, trivial⟩
theorem Lst.of_row {w : World} {l : List Tm} {b o : Nat} (h : RowAt w l b o) (hl : l.length ≤ 1000000) : Lst w (some ⟨b, o, none⟩) l l.length := ⟨Nat.le_refl _, by unfold maxLen; omega, fun _ => ⟨b, o, rfl, h⟩⟩

/-- A contract that leaves what was there, told of a first world X. -/
theorem from_first {P : Program} {f : FuncId} {args : Array Value} {X W : World} {v : Value} (hX : Below X.heap.size X W) (h : Calls P f args W fun e w' => e = .returned v ∧ Below W.heap.size W w') :
    Calls P f args W fun e w' => e = .returned v ∧ Below X.heap.size X w' := h.mono fun _ _ ⟨he, hb⟩ => ⟨he, hX.trans (hb.mono hX.size)⟩
theorem great_below (l : List Tm) (A : Option Addr) (c : Nat) (most : Int) (w : World) (hl : Lst w A l c) (h1 : 0 ≤ most) (h2 : most ≤ 1000000) {r : Bool} (hr : decide (weigh l most 64 < 0) = r) :
    Calls Try.prog 10 #[.slice A l.length c, .int .i64 most] w fun e w' => e = .returned (.bool r) ∧ Below w.heap.size w w' :=
  (great_at l A c most w hl h1 h2 hr).mono fun _ _ ⟨he, n, hw⟩ => ⟨he, by rw [hw]; exact below_drewN (Below.refl _ _) n⟩
/-- Great of a slice of one term that was just laid. -/
theorem great_one (t : Tm) (most : Int) (W W' : World) (g : Nat) (hg : g = W.heap.size) (ht : t.At W) (hb : Below (W.alloc (.cells #[.int .i64 t.kind, .int .i64 t.num, .string t.name, .slice t.at_ t.args.length t.cap] 25)).heap.size (W.alloc (.cells #[.int .i64 t.kind, .int .i64 t.num, .string t.name, .slice t.at_ t.args.length t.cap] 25)) W')
    (h1 : 0 ≤ most) (h2 : most ≤ 1000000) {r : Bool} (hr : decide (weigh [t] most 64 < 0) = r) :
    Calls Try.prog 10 #[.slice (some ⟨g, 0, none⟩) 1 1, .int .i64 most] W' fun e w' => e = .returned (.bool r) ∧ Below W'.heap.size W' w' := by
  subst hg
  exact great_below [t] _ 1 most W' (Lst.of_row ((At_keep hb).2 _ _ _ (row_one t ht)) (by simp)) h1 h2 hr
theorem not_great {l : List Tm} {most : Int} (h : decide (weigh l most 64 < 0) = false) : (nodesL l : Int) ≤ most := weigh_nodes (deep := 64) (Int.not_lt.1 (by simpa using h))
/-- What is held in a region: the cells of the box, and that what was there is as it was. -/
theorem held4 {w W : World} {v0 v1 v2 v3 : Value} {T : TypeId} (h : Below (w.alloc (.cells #[v0, v1, v2, v3] T)).heap.size (w.alloc (.cells #[v0, v1, v2, v3] T)) W) :
    W.cell? ⟨w.heap.size, 0, none⟩ = some v0 ∧ W.cell? ⟨w.heap.size, 1, none⟩ = some v1 ∧ W.cell? ⟨w.heap.size, 2, none⟩ = some v2 ∧ W.cell? ⟨w.heap.size, 3, none⟩ = some v3 ∧ Below (w.alloc (.cells #[v0, v1, v2, v3] T)).heap.size (w.alloc (.cells #[v0, v1, v2, v3] T)) W := by
  obtain ⟨d0, d1, d2, d3, _⟩ := box4 h
  exact ⟨d0, d1, d2, d3, h⟩
end Go.Proofs.Ytceekaodhmncgaa
namespace Go.Proofs.Ytceekaodhmncgaa
open Go.RowKit Go.Maps

theorem OwnI.mono {w : World} {base base' : Nat} {v : Value} {l : List Int} (h : OwnI w base v l) (hb : base' ≤ base) : OwnI w base' v l := by
  refine ⟨h.1, ?_⟩
  rcases h.2 with h | ⟨g, cap, cur, h1, h2, h3⟩
  · exact .inl h
  · exact .inr ⟨g, cap, cur, h1, Nat.le_trans hb h2, h3⟩

end Go.Proofs.Ytceekaodhmncgaa
namespace Go.Proofs.Ytceekaodhmncgaa
open Go.ChangeShapes Go.WideShapes Go.ChangeAt Go.RowKit
set_option linter.unusedVariables false

/-- The order of constraints. -/
def cmpA (a b : Am) : Int := lex (texts a.name.data.toList b.name.data.toList) (lex (ints a.args.length b.args.length) (cmpL a.args b.args))
def sameG (g h : Gl) : Bool := decide (g.op = h.op) && (decide (g.name = h.name) && (cmpL g.args h.args == 0))

set_option maxHeartbeats 1000000 in
theorem ref_compare_atom_at (t u : Am) (w : World) (ht : t.At w) (hu : u.At w) {r : Int} (hr : cmpA t u = r) :
    Calls Try.prog 46 #[t.val, u.val] w fun e w' => e = .returned (.int .i64 r) ∧ Below w.heap.size w w' := by
  have hl := ht.2
  have hm := hu.2
  obtain ⟨s, A, c, a⟩ := t
  obtain ⟨s', A', c', a'⟩ := u
  simp only [cmpA] at hr hl hm
  show Calls Try.prog 46 #[.agg #[.string s, .slice A a.length c], .agg #[.string s', .slice A' a'.length c']] w _
  have hlen : a.length ≤ 9223372036854775807 := hl.len
  have hlen' : a'.length ≤ 9223372036854775807 := hm.len
  obtain ⟨z1, h1⟩ : ∃ z, ints a.length a'.length = z := ⟨_, rfl⟩
  obtain ⟨z2, h2⟩ : ∃ z, texts s.data.toList s'.data.toList = z := ⟨_, rfl⟩
  have q1 := Lib.hid (fun W => ref_ints_at (a.length : Int) (a'.length : Int) W h1)
  have q2 := Lib.hid (fun W => ref_texts_at s s' W h2)
  have q3 := Lib.hid (fun W (h : Below w.heap.size w W) => ref_lists_at a a' (fun x _ => ref_compare_at x) A A' c c' W (hl.below h) (hm.below h))
  obtain ⟨z3, h3⟩ : ∃ z, cmpL a a' = z := ⟨_, rfl⟩
  rw [h3] at q3
  rw [h1, h2, h3] at hr
  clear h1 h2 h3 hl hm ht hu
  by_cases e2 : z2 = 0
  · subst e2
    rw [lex_zero] at hr
    by_cases e1 : z1 = 0
    · subst e1
      rw [lex_zero] at hr
      subst hr
      go_enter Try.func46, Try.ntmps46
      go_wp2_with fail
      refine (q2.out _).mono ?_
      rintro e w' ⟨rfl, rfl⟩
      go_wp2_with fail
      refine (q1.out _).mono ?_
      rintro e w' ⟨rfl, rfl⟩
      go_wp2_with fail
      refine (q3.out _ (below2 _ _ _)).mono ?_
      rintro e w' ⟨rfl, hb⟩
      go_wp2_with fail
      go_ret
      exact ⟨rfl, (below2 _ _ _).trans (hb.mono (by simp; omega))⟩
    · rw [lex_ne e1] at hr
      subst hr
      have e1' : (z1 != 0) = true := by simpa using e1
      have e1'' : (z1 == 0) = false := by simpa using e1
      go_enter Try.func46, Try.ntmps46
      go_wp2_with fail
      refine (q2.out _).mono ?_
      rintro e w' ⟨rfl, rfl⟩
      go_wp2_with fail
      refine (q1.out _).mono ?_
      rintro e w' ⟨rfl, rfl⟩
      go_wp2_with fail
      go_ret
      exact ⟨rfl, below2 _ _ _⟩
  · rw [lex_ne e2] at hr
    subst hr
    have e2' : (z2 != 0) = true := by simpa using e2
    have e2'' : (z2 == 0) = false := by simpa using e2
    go_enter Try.func46, Try.ntmps46
    go_wp2_with fail
    refine (q2.out _).mono ?_
    rintro e w' ⟨rfl, rfl⟩
    go_wp2_with fail
    go_ret
    exact ⟨rfl, below2 _ _ _⟩
theorem ref_same_atom_at (t u : Am) (w : World) (ht : t.At w) (hu : u.At w) {r : Bool} (hr : (cmpA t u == 0) = r) :
    Calls Try.prog 25 #[t.val, u.val] w fun e w' => e = .returned (.bool r) ∧ Below w.heap.size w w' := by
  have Q := Lib.hid (fun W (h : Below w.heap.size w W) => ref_compare_atom_at t u W (ht.below h) (hu.below h) rfl)
  generalize cmpA t u = z at *
  obtain ⟨s, A, c, a⟩ := t
  obtain ⟨s', A', c', a'⟩ := u
  show Calls Try.prog 25 #[.agg #[.string s, .slice A a.length c], .agg #[.string s', .slice A' a'.length c']] w _
  have HR := Lib.hid hr
  clear hr ht hu
  go_enter Try.func25, Try.ntmps25
  go_wp2_with fail
  refine (Q.out _ (below2 _ _ _)).mono ?_
  rintro e w1 ⟨rfl, hb⟩
  go_wp2_with fail
  go_ret
  exact ⟨by rw [← HR.out]; rfl, (below2 _ _ _).trans (hb.mono (by simp; omega))⟩

theorem same_ne {l m : List Tm} (h : l.length ≠ m.length) : (cmpL l m == 0) = false := by
  induction l generalizing m with
  | nil => cases m with
    | nil => simp at h
    | cons y q => rfl
  | cons x r ih => cases m with
    | nil => rfl
    | cons y q =>
      have := ih (m := q) (by simpa using h)
      simp only [cmpL, lex]
      split
      · exact this
      · simpa using ‹¬ _›

set_option maxHeartbeats 1000000 in
theorem equal_func_at (l m : List Tm) (A B : Option Addr) (c d : Nat) (w : World) (hl : Lst w A l c) (hm : Lst w B m d) {r : Bool} (hr : (cmpL l m == 0) = r) :
    Calls Try.prog 66 #[.slice A l.length c, .slice B m.length d, .func (.func 78) #[] #[]] w fun e w' => e = .returned (.bool r) ∧ Below w.heap.size w w' := by
  have hlen : l.length ≤ 9223372036854775807 := hl.len
  have hlen' : m.length ≤ 9223372036854775807 := hm.len
  by_cases hne : l.length = m.length
  · have hne' : ((l.length : Int) != (m.length : Int)) = false := by simp; omega
    have HR := Lib.hid hr
    have HNE := Lib.hid hne
    clear hr hne
    go_enter Try.func66, Try.ntmps66
    go_wp2_with fail
    go_loopw [17] (fun i wr => ∃ j : Nat, j ≤ l.length ∧ j ≤ m.length ∧ i = .int .i64 j ∧ Hid (cmpL (l.take j) (m.take j) = 0) ∧ Below w.heap.size w wr) (fun i _ => l.length - (intOf i).toNat)
    case atStart => exact ⟨0, Nat.zero_le _, Nat.zero_le _, rfl, Lib.hid rfl, Below.refl _ _⟩
    case round =>
      obtain ⟨j, hj, hjm, rfl, HF, hb⟩ := hrel
      by_cases hlt : j < l.length
      · obtain ⟨b, o, rfl, ⟨c0, c1, c2, c3⟩, hx⟩ := (hl.below hb).get hlt
        have hlt' : j < m.length := by have := HNE.out; omega
        obtain ⟨b', o', rfl, ⟨g0, g1, g2, g3⟩, hy⟩ := (hm.below hb).get hlt'
        have HN := Lib.hid (cmpL_next hlt hlt' HF.out)
        have HS := Lib.hid (fun h => cmpL_stop hlt hlt' HF.out h)
        generalize l.getD j default = x at *
        generalize m.getD j default = y at *
        have Q1 := Lib.hid (fun W (h : Below wr.heap.size wr W) => same_at x y W (hx.below h) (hy.below h) rfl)
        have hb1 := ((World.block_lt_of_cell? _ _ c0 : b < wr.heap.size))
        have hb2 := ((World.block_lt_of_cell? _ _ g0 : b' < wr.heap.size))
        clear hx hy
        obtain ⟨z, hz⟩ : ∃ z, cmpT x y = z := ⟨_, rfl⟩
        rw [hz] at HN HS Q1
        clear hz
        obtain ⟨k1, n1, s1, A1, p1, a1⟩ := x
        obtain ⟨k2, n2, s2, A2, p2, a2⟩ := y
        simp only [Tm.kind, Tm.num, Tm.name, Tm.at_, Tm.args, Tm.cap] at c0 c1 c2 c3 g0 g1 g2 g3
        go_wp2_with fail
        refine (Q1.out _ (below2 _ _ _)).mono ?_
        rintro e w2 ⟨rfl, hb3⟩
        have hb4 := hb.trans (((below2 _ _ _).trans (hb3.mono (by simp; omega))).mono hb.size)
        by_cases hz : z = 0
        · subst hz
          go_wp2_with fail
          go_roundw
          case rel => exact ⟨j + 1, by omega, by omega, by go_num, HN, hb4⟩
          case measure => simp [intOf]; omega
        · have hz' : (z == 0) = false := by simpa using hz
          have HE := Lib.hid (HS.out hz)
          clear HS HN
          go_wp2_with fail
          go_ret
          exact ⟨by rw [← HR.out, HE.out, hz']; rfl, hb4⟩
      · obtain rfl : j = l.length := by omega
        have HE := Lib.hid (show cmpL l m = 0 by
          rw [cmpL_end (.inl rfl) hj hjm HF.out, HNE.out, ints_self])
        go_wp2_with fail
        go_ret
        exact ⟨by rw [← HR.out, HE.out]; rfl, hb⟩
  · have hne' : ((l.length : Int) != (m.length : Int)) = true := by simp; omega
    rw [same_ne hne] at hr
    subst hr
    go_enter Try.func66, Try.ntmps66
    go_wp2_with fail
    go_ret
    exact ⟨rfl, Below.refl _ _⟩

set_option maxHeartbeats 1000000 in
theorem ref_same_goal_at (t u : Gl) (w : World) (ht : t.At w) (hu : u.At w) {r : Bool} (hr : sameG t u = r) :
    Calls Try.prog 22 #[t.val, u.val] w fun e w' => e = .returned (.bool r) ∧ Below w.heap.size w w' := by
  have hl := ht.2.2
  have hm := hu.2.2
  obtain ⟨op, s, A, c, a⟩ := t
  obtain ⟨op', s', A', c', a'⟩ := u
  simp only [sameG] at hr hl hm
  show Calls Try.prog 22 #[.agg #[.int .i64 op, .string s, .slice A a.length c], .agg #[.int .i64 op', .string s', .slice A' a'.length c']] w _
  have hlen : a.length ≤ 9223372036854775807 := hl.len
  have hlen' : a'.length ≤ 9223372036854775807 := hm.len
  obtain ⟨b3, h3⟩ : ∃ z, (cmpL a a' == 0) = z := ⟨_, rfl⟩
  have q3 := Lib.hid (fun W (h : Below w.heap.size w W) => same_terms_at a a' A A' c c' W (hl.below h) (hm.below h) h3)
  have HN := Lib.hid (fun h : a.length ≠ a'.length => (h3.symm.trans (same_ne h) : b3 = false))
  rw [h3] at hr
  clear h3 hl hm ht hu
  by_cases e1 : op = op'
  · subst e1
    by_cases e2 : s = s'
    · subst e2
      obtain rfl : b3 = r := by simpa using hr
      clear hr
      by_cases e3 : a.length = a'.length
      · have e3' : ((a.length : Int) == (a'.length : Int)) = true := by simp; omega
        clear e3
        go_enter Try.func22, Try.ntmps22
        go_wp2_with fail
        refine (q3.out _ (below2 _ _ _)).mono ?_
        rintro e w' ⟨rfl, hb⟩
        go_wp2_with fail
        go_ret
        exact ⟨rfl, (below2 _ _ _).trans (hb.mono (by simp; omega))⟩
      · have e3' : ((a.length : Int) == (a'.length : Int)) = false := by simp; omega
        obtain rfl := HN.out e3
        clear e3 HN
        go_enter Try.func22, Try.ntmps22
        go_wp2_with fail
        go_ret
        exact ⟨rfl, below2 _ _ _⟩
    · have e2' : (s.toList == s'.toList) = false := by
        rw [ByteArray.toList_eq, ByteArray.toList_eq]
        exact beq_eq_false_iff_ne.2 (fun h => e2 (bytes_inj h))
      have e2'' : decide (s = s') = false := by simpa using e2
      have HR := Lib.hid (show false = r by rw [← hr]; simp [e2])
      clear hr e2
      go_enter Try.func22, Try.ntmps22
      go_wp2_with fail
      go_ret
      exact ⟨by rw [← HR.out]; rfl, below2 _ _ _⟩
  · have e1' : (op == op') = false := by simpa using e1
    have HR := Lib.hid (show false = r by rw [← hr]; simp [e1])
    clear hr e1
    go_enter Try.func22, Try.ntmps22
    go_wp2_with fail
    go_ret
    exact ⟨by rw [← HR.out]; rfl, below2 _ _ _⟩
end Go.Proofs.Ytceekaodhmncgaa
namespace Go.Proofs.Ytceekaodhmncgaa
open Go.RowKit

abbrev zeroT : Tm := .mk 0 0 ⟨#[]⟩ none 0 []
abbrev zeroBox : Obj := .cells #[.int .i64 0, .int .i64 0, .string ⟨#[]⟩, .slice none 0 0] 25
def optT (o : Option Tm) : Tm := o.getD zeroT
/-- A block that was just laid may be written, behind a call. -/
theorem free4 {w w' : World} {cs : Array Value} {T : TypeId} (hb : Below (w.alloc (.cells cs T)).heap.size (w.alloc (.cells cs T)) w') : ∀ j, w'.frozen? ⟨w.heap.size, j, none⟩ = false := fun j => by
  rw [hb.frozen (p := ⟨w.heap.size, j, none⟩) (by simp), World.frozen?_alloc_at _ _ _ _ rfl]
theorem set4c {X W : World} {B T : Nat} {v0 v1 v2 v3 : Value} (hb : Below B X W) (hT : B ≤ T) :
    Below B X ((((W.setCell ⟨T, 0, none⟩ v0).setCell ⟨T, 1, none⟩ v1).setCell ⟨T, 2, none⟩ v2).setCell ⟨T, 3, none⟩ v3) :=
  (((hb.setCell (p := ⟨T, 0, none⟩) hT _).setCell (p := ⟨T, 1, none⟩) hT _).setCell (p := ⟨T, 2, none⟩) hT _).setCell (p := ⟨T, 3, none⟩) hT _

set_option maxHeartbeats 1000000 in
theorem find_at (l : List Bd) (A : Option Addr) (c : Nat) (v : Int) (w : World) (hl : BLst w A l c) (hlen : l.length ≤ 1000000) (hs : Srt l) :
    Calls Try.prog 60 #[.slice A l.length c, .int .i64 v] w fun e w' => e = .returned (.tuple #[(optT (look l v)).val, .bool (look l v).isSome]) ∧ Below w.heap.size w w' := by
  have Q := Lib.hid (fun W (h : Below w.heap.size w W) => search_at l A c v W (hl.below h) hlen hs)
  have HL := Lib.hid hl
  have HS := Lib.hid hs
  clear hl hs
  go_enter Try.func60, Try.ntmps60
  go_wp2_with fail
  refine (Q.out _ (below1 _ _)).mono ?_
  rintro e w1 ⟨i, hi, hB, ⟨r, hr, rfl⟩, hb⟩
  have HK := Lib.hid (look_bound HS.out hB hi)
  obtain ⟨e0, e1, e2, e3, hb1⟩ := box4 hb
  have f0 := free4 hb 0
  have f1 := free4 hb 1
  have f2 := free4 hb 2
  have f3 := free4 hb 3
  have HR := Lib.hid hr
  clear hB hb hr Q
  cases r
  · have HN := Lib.hid (show look l v = none by rw [HK.out, if_neg (fun h => by cases HR.out.2 h)])
    go_wp2_with fail
    refine bodyPost_ret (v := .tuple #[.agg #[.int .i64 0, .int .i64 0, .string ⟨#[]⟩, .slice none 0 0], .bool false]) (by simp [results, Try.results60, go_sem, e0, e1, e2, e3]) rfl ⟨by rw [HN.out]; rfl, set4c hb1 (Nat.le_refl _)⟩
  · have hr1 := HR.out.1 rfl
    have hn : i < l.length := hr1.1
    have HN := Lib.hid (show look l v = some (l.getD i default).tm by rw [HK.out, if_pos hr1])
    obtain ⟨b, o, rfl, ⟨_, c1, c2, c3, c4⟩, _⟩ := (HL.out.below hb1).get hn
    clear hr1 HR HK
    generalize l.getD i default = x at *
    obtain ⟨v', k', n', s', A', c', a'⟩ := x
    simp only [Tm.kind, Tm.num, Tm.name, Tm.at_, Tm.args, Tm.cap] at c1 c2 c3 c4
    go_wp2_with fail
    refine bodyPost_ret (v := .tuple #[.agg #[.int .i64 k', .int .i64 n', .string s', .slice A' a'.length c'], .bool true]) (by simp [results, Try.results60, go_sem, e0, e1, e2, e3]) rfl ⟨by rw [HN.out]; rfl, set4c hb1 (Nat.le_refl _)⟩

/-- Where the first number with a property stands, or a negative number. -/
def SomeIdx (r : Bool) (w : World) (e : Ending) (w' : World) : Prop := ∃ m : Int, decide (0 ≤ m) = r ∧ e = .returned (.int .i64 m) ∧ Below w.heap.size w w'
theorem iany_next {l : List Int} {k : Nat} (p : Int → Bool) (h : k < l.length) : (l.take (k + 1)).any p = ((l.take k).any p || p (l.getD k 0)) := by
  rw [take_int h]; simp
theorem iany_stop {l : List Int} {k : Nat} {p : Int → Bool} (h : k < l.length) (hv : p (l.getD k 0) = true) : l.any p = true := List.any_eq_true.2 ⟨_, getD_int h, hv⟩

def hasB (l : List Bd) (t : Tm) : Bool := t.occ.any fun v => (look l v).isSome
theorem hasB_addAll (l : List Bd) (t : Tm) : (addAll [] t.occ).any (fun v => (look l v).isSome) = hasB l t := by
  unfold hasB
  rw [Bool.eq_iff_iff, List.any_eq_true, List.any_eq_true]
  simp only [mem_addAll, List.not_mem_nil, false_or]

end Go.Proofs.Ytceekaodhmncgaa
