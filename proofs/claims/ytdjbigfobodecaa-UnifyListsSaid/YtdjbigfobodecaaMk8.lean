/-
  Contracts of lists, Compare, Same and SameTerms of the reference.
  Arguments opened: terms, constraints and goals by value; what the statements lay of them (a slice of one, two or three).
  Contracts of firstOccurrences, Vars, AtomVars and GoalVars of the program.
  Contracts of what the program and the reference say of constraints and of goals: CompareAtom, SameAtom, AtomVars, SameGoal, GoalVars; and Vars of a term.
  Contracts of find, bindsVarIn (with its closure, slices.IndexFunc and slices.ContainsFunc over ints) of the program.
  Contract of copyOf of the program: a term with lists of its own.
  What add of the program answers, and what holds while it enters the arguments. No walk.
-/
import Derived.Test.YtdjbigfobodecaaMk7
import Derived.Test.YtdjbigfobodecaaMk6
import Derived.Test.YtdjbigfobodecaaMk4
import Derived.Deep.RegionLaw
import Derived.BigQuiet
import Derived.Deep.QuietTactic
import Derived.Deep.AppendLies
namespace Go.Proofs.Ytdjbigfobodecaa
open Go.RowKit Go.Sort

def RefCmpAt (x : Tm) : Prop := ∀ (u : Tm) (w : World), x.At w → u.At w → Calls Try.prog 33 #[x.val, u.val] w fun e w' => e = .returned (.int .i64 (cmpT x u)) ∧ Below w.heap.size w w'

set_option maxHeartbeats 1000000 in
theorem ref_lists_at (l m : List Tm) (ih : ∀ x ∈ l, RefCmpAt x) (A B : Option Addr) (c d : Nat) (w : World) (hl : Lst w A l c) (hm : Lst w B m d) :
    Calls Try.prog 62 #[.slice A l.length c, .slice B m.length d] w fun e w' => e = .returned (.int .i64 (cmpL l m)) ∧ Below w.heap.size w w' := by
  have hlen : l.length ≤ 9223372036854775807 := by have := hl.1; have := hl.2.1; unfold maxLen at *; omega
  have hlen' : m.length ≤ 9223372036854775807 := by have := hm.1; have := hm.2.1; unfold maxLen at *; omega
  have QI := Lib.hid ih
  obtain ⟨zl, hzl⟩ : ∃ z, ints l.length m.length = z := ⟨_, rfl⟩
  have ql := Lib.hid (fun W => ref_ints_at (l.length : Int) (m.length : Int) W hzl)
  have HZL := Lib.hid hzl
  clear ih hzl
  go_enter Try.func62, Try.ntmps62
  go_wp2_with fail
  go_loopw [5] (fun i wr => ∃ j : Nat, j ≤ l.length ∧ j ≤ m.length ∧ i = .int .i64 j ∧ Hid (cmpL (l.take j) (m.take j) = 0) ∧ Below w.heap.size w wr) (fun i _ => l.length - (intOf i).toNat)
  case atStart => exact ⟨0, Nat.zero_le _, Nat.zero_le _, rfl, Lib.hid rfl, Below.refl _ _⟩
  case round =>
    obtain ⟨j, hj, hjm, rfl, HF, hb⟩ := hrel
    by_cases hlt : j < l.length
    · by_cases hlt' : j < m.length
      · obtain ⟨b, o, rfl, ⟨c0, c1, c2, c3⟩, hx⟩ := (hl.below hb).get hlt
        obtain ⟨b', o', rfl, ⟨g0, g1, g2, g3⟩, hy⟩ := (hm.below hb).get hlt'
        have hmem := getD_mem hlt
        have HN := Lib.hid (cmpL_next hlt hlt' HF.out)
        have HS := Lib.hid (fun h => cmpL_stop hlt hlt' HF.out h)
        generalize l.getD j default = x at *
        generalize m.getD j default = y at *
        have Q1 := Lib.hid (fun W (h : Below wr.heap.size wr W) => QI.out x hmem y W (hx.below h) (hy.below h))
        clear hx hy QI hmem
        obtain ⟨z, hz⟩ : ∃ z, cmpT x y = z := ⟨_, rfl⟩
        rw [hz] at HN HS Q1
        clear hz
        obtain ⟨k1, n1, s1, A1, p1, a1⟩ := x
        obtain ⟨k2, n2, s2, A2, p2, a2⟩ := y
        simp only [Tm.kind, Tm.num, Tm.name, Tm.at_, Tm.args, Tm.cap] at c0 c1 c2 c3 g0 g1 g2 g3
        have kc0 := cell_regrown c0
        have kc1 := cell_regrown c1
        have kc2 := cell_regrown c2
        have kc3 := cell_regrown c3
        have kg0 := cell_regrown g0
        have kg1 := cell_regrown g1
        have kg2 := cell_regrown g2
        have kg3 := cell_regrown g3
        go_wp2_with fail
        refine wp_region_quiet_below (by kernel_rfl) (by kernel_rfl) ?_
        repeat (go_big_quiet_step ((go_at_call 33; exact Calls.regrown_of (Q1.out _ (below_regrown _ _ _)))))
        refine wpQuiet_nil ?_
        intro w1 hw'
        have hb4 := hb.trans ((regrown_below hw').mono hb.size)
        clear kc0 kc1 kc2 kc3 kg0 kg1 kg2 kg3 hw'
        by_cases hz : z = 0
        · subst hz
          go_wp2_with fail
          go_roundw
          case rel => exact ⟨j + 1, by omega, by omega, by go_num, HN, hb4⟩
          case measure => simp [intOf]; omega
        · have hz' : (z != 0) = true := by simpa using hz
          have HE := Lib.hid (HS.out hz)
          clear HS HN
          go_wp2_with fail
          go_ret
          exact ⟨by rw [HE.out]; rfl, hb4⟩
      · have HE := Lib.hid (show cmpL l m = zl by rw [cmpL_end (.inr (by omega)) hj hjm HF.out, HZL.out])
        go_wp2_with fail
        refine (ql.out _).mono ?_
        rintro e w' ⟨rfl, rfl⟩
        go_wp2_with fail
        go_ret
        exact ⟨by rw [HE.out]; rfl, hb⟩
    · have HE := Lib.hid (show cmpL l m = zl by rw [cmpL_end (.inl (by omega)) hj hjm HF.out, HZL.out])
      go_wp2_with fail
      refine (ql.out _).mono ?_
      rintro e w' ⟨rfl, rfl⟩
      go_wp2_with fail
      go_ret
      exact ⟨by rw [HE.out]; rfl, hb⟩

set_option maxHeartbeats 2000000 in
theorem ref_compare_at (t : Tm) : RefCmpAt t := by
  induction t using Tm.induct with
  | h k n s A c a ih =>
    intro u w ht hu
    have hl : Lst w A a c := ht.lst
    have hm := hu.lst
    obtain ⟨k', n', s', A', c', a'⟩ := u
    simp only [Tm.args, Tm.at_, Tm.cap] at hm
    have hlen : a.length ≤ 9223372036854775807 := by have := hl.1; have := hl.2.1; unfold maxLen at *; omega
    have hlen' : a'.length ≤ 9223372036854775807 := by have := hm.1; have := hm.2.1; unfold maxLen at *; omega
    have q5 := Lib.hid (fun W (h : Below w.heap.size w W) => ref_lists_at a a' ih A A' c c' W (hl.below h) (hm.below h))
    clear ih ht hu hl hm
    show Calls Try.prog 33 #[.agg #[.int .i64 k, .int .i64 n, .string s, .slice A a.length c], .agg #[.int .i64 k', .int .i64 n', .string s', .slice A' a'.length c']] w _
    obtain ⟨j, hj⟩ : ∃ z, cls k = z := ⟨_, rfl⟩
    obtain ⟨j', hj'⟩ : ∃ z, cls k' = z := ⟨_, rfl⟩
    obtain ⟨z0, h0⟩ : ∃ z, ints j j' = z := ⟨_, rfl⟩
    obtain ⟨z1, h1⟩ : ∃ z, ints n n' = z := ⟨_, rfl⟩
    obtain ⟨z2, h2⟩ : ∃ z, ints k k' = z := ⟨_, rfl⟩
    obtain ⟨z3, h3⟩ : ∃ z, texts s.data.toList s'.data.toList = z := ⟨_, rfl⟩
    obtain ⟨z4, h4⟩ : ∃ z, ints a.length a'.length = z := ⟨_, rfl⟩
    obtain ⟨z5, h5⟩ : ∃ z, cmpL a a' = z := ⟨_, rfl⟩
    have r1 := Lib.hid (show ∀ W, Calls Try.prog 60 #[.agg #[.int .i64 k, .int .i64 n, .string s, .slice A a.length c]] W fun e w' => e = .returned (.int .i64 j) ∧ Below W.heap.size W w' from fun W => class_at (.mk k n s A c a) W hj)
    have r2 := Lib.hid (show ∀ W, Calls Try.prog 60 #[.agg #[.int .i64 k', .int .i64 n', .string s', .slice A' a'.length c']] W fun e w' => e = .returned (.int .i64 j') ∧ Below W.heap.size W w' from fun W => class_at (.mk k' n' s' A' c' a') W hj')
    have q0 := Lib.hid (fun W => ref_ints_at j j' W h0)
    have q1 := Lib.hid (fun W => ref_ints_at n n' W h1)
    have q2 := Lib.hid (fun W => ref_ints_at k k' W h2)
    have q3 := Lib.hid (fun W => ref_texts_at s s' W h3)
    have q4 := Lib.hid (fun W => ref_ints_at (a.length : Int) (a'.length : Int) W h4)
    rw [h5] at q5
    obtain ⟨R, hR⟩ : ∃ z, cmpT (.mk k n s A c a) (.mk k' n' s' A' c' a') = z := ⟨_, rfl⟩
    have HR := hR
    simp only [cmpT, Tm.kind, Tm.num, Tm.name, Tm.args] at HR
    rw [hj, hj', h0, h1, h2, h3, h4, h5] at HR
    rw [hR]
    clear hR h0 h1 h2 h3 h4 h5 hj'
    by_cases e0 : z0 = 0
    · subst e0
      rw [lex_zero] at HR
      by_cases k1 : k = 1
      · subst k1
        obtain rfl : j = 0 := by rw [← hj]; simp [cls]
        rw [if_pos (.inl rfl)] at HR
        subst HR
        clear hj q2 q3 q4 q5
        obtain ⟨kb0, kb1, kb2, kb3, kc0, kc1, kc2, kc3⟩ := boxed8 w (.int .i64 1) (.int .i64 n) (.string s) (.slice A a.length c) (.int .i64 k') (.int .i64 n') (.string s') (.slice A' a'.length c') 24
        go_enter Try.func33, Try.ntmps33
        go_wp2_with fail
        refine wp_region_quiet_below (by kernel_rfl) (by kernel_rfl) ?_
        repeat (go_big_quiet_step (first | (go_at_call 60; first | (with_reducible exact Calls.regrown_of (r1.out _)) | (with_reducible exact Calls.regrown_of (r2.out _))) | (go_at_call 59; exact Calls.regrown_of (withBelow (q0.out _)))))
        refine wpQuiet_nil ?_
        intro w1 hw'
        obtain ⟨⟨d0, d1, d2, d3⟩, ⟨g0, g1, g2, g3⟩, hb1⟩ := box8 (regrown_below hw')
        clear kb0 kb1 kb2 kb3 kc0 kc1 kc2 kc3 hw'
        go_wp2_with fail
        refine (r1.out _).mono ?_
        rintro e w2 ⟨rfl, hb2⟩
        have d0' := (hb2.cell (World.block_lt_of_cell? _ _ d0)).trans d0
        have d1' := (hb2.cell (World.block_lt_of_cell? _ _ d1)).trans d1
        have d2' := (hb2.cell (World.block_lt_of_cell? _ _ d2)).trans d2
        have d3' := (hb2.cell (World.block_lt_of_cell? _ _ d3)).trans d3
        have g0' := (hb2.cell (World.block_lt_of_cell? _ _ g0)).trans g0
        have g1' := (hb2.cell (World.block_lt_of_cell? _ _ g1)).trans g1
        have g2' := (hb2.cell (World.block_lt_of_cell? _ _ g2)).trans g2
        have g3' := (hb2.cell (World.block_lt_of_cell? _ _ g3)).trans g3
        have hb3 := hb1.trans (hb2.mono hb1.size)
        clear d0 d1 d2 d3 g0 g1 g2 g3
        go_wp2_with fail
        refine (q1.out _).mono ?_
        rintro e w' ⟨rfl, rfl⟩
        go_wp2_with fail
        go_ret
        exact ⟨rfl, hb3⟩
      · by_cases k0 : k = 0
        · subst k0
          obtain rfl : j = 1 := by rw [← hj]; simp [cls]
          rw [if_pos (.inr rfl)] at HR
          subst HR
          clear hj q2 q3 q4 q5
          obtain ⟨kb0, kb1, kb2, kb3, kc0, kc1, kc2, kc3⟩ := boxed8 w (.int .i64 0) (.int .i64 n) (.string s) (.slice A a.length c) (.int .i64 k') (.int .i64 n') (.string s') (.slice A' a'.length c') 24
          go_enter Try.func33, Try.ntmps33
          go_wp2_with fail
          refine wp_region_quiet_below (by kernel_rfl) (by kernel_rfl) ?_
          repeat (go_big_quiet_step (first | (go_at_call 60; first | (with_reducible exact Calls.regrown_of (r1.out _)) | (with_reducible exact Calls.regrown_of (r2.out _))) | (go_at_call 59; exact Calls.regrown_of (withBelow (q0.out _)))))
          refine wpQuiet_nil ?_
          intro w1 hw'
          obtain ⟨⟨d0, d1, d2, d3⟩, ⟨g0, g1, g2, g3⟩, hb1⟩ := box8 (regrown_below hw')
          clear kb0 kb1 kb2 kb3 kc0 kc1 kc2 kc3 hw'
          go_wp2_with fail
          refine (r1.out _).mono ?_
          rintro e w2 ⟨rfl, hb2⟩
          have d0' := (hb2.cell (World.block_lt_of_cell? _ _ d0)).trans d0
          have d1' := (hb2.cell (World.block_lt_of_cell? _ _ d1)).trans d1
          have d2' := (hb2.cell (World.block_lt_of_cell? _ _ d2)).trans d2
          have d3' := (hb2.cell (World.block_lt_of_cell? _ _ d3)).trans d3
          have g0' := (hb2.cell (World.block_lt_of_cell? _ _ g0)).trans g0
          have g1' := (hb2.cell (World.block_lt_of_cell? _ _ g1)).trans g1
          have g2' := (hb2.cell (World.block_lt_of_cell? _ _ g2)).trans g2
          have g3' := (hb2.cell (World.block_lt_of_cell? _ _ g3)).trans g3
          have hb3 := hb1.trans (hb2.mono hb1.size)
          clear d0 d1 d2 d3 g0 g1 g2 g3
          go_wp2_with fail
          refine (q1.out _).mono ?_
          rintro e w' ⟨rfl, rfl⟩
          go_wp2_with fail
          go_ret
          exact ⟨rfl, hb3⟩
        · rw [if_neg (by omega)] at HR
          by_cases k2 : k = 2
          · subst k2
            obtain rfl : j = 2 := by rw [← hj]; simp [cls]
            rw [if_pos rfl] at HR
            clear hj q1 q2 k1 k0
            by_cases e1 : z4 = 0
            · subst e1
              rw [lex_zero] at HR
              by_cases e2 : z3 = 0
              · subst e2
                rw [lex_zero] at HR
                subst HR
                obtain ⟨kb0, kb1, kb2, kb3, kc0, kc1, kc2, kc3⟩ := boxed8 w (.int .i64 2) (.int .i64 n) (.string s) (.slice A a.length c) (.int .i64 k') (.int .i64 n') (.string s') (.slice A' a'.length c') 24
                go_enter Try.func33, Try.ntmps33
                go_wp2_with fail
                refine wp_region_quiet_below (by kernel_rfl) (by kernel_rfl) ?_
                repeat (go_big_quiet_step (first | (go_at_call 60; first | (with_reducible exact Calls.regrown_of (r1.out _)) | (with_reducible exact Calls.regrown_of (r2.out _))) | (go_at_call 59; exact Calls.regrown_of (withBelow (q0.out _)))))
                refine wpQuiet_nil ?_
                intro w1 hw'
                obtain ⟨⟨d0, d1, d2, d3⟩, ⟨g0, g1, g2, g3⟩, hb1⟩ := box8 (regrown_below hw')
                clear kb0 kb1 kb2 kb3 kc0 kc1 kc2 kc3 hw'
                go_wp2_with fail
                refine (r1.out _).mono ?_
                rintro e w2 ⟨rfl, hb2⟩
                have d0' := (hb2.cell (World.block_lt_of_cell? _ _ d0)).trans d0
                have d1' := (hb2.cell (World.block_lt_of_cell? _ _ d1)).trans d1
                have d2' := (hb2.cell (World.block_lt_of_cell? _ _ d2)).trans d2
                have d3' := (hb2.cell (World.block_lt_of_cell? _ _ d3)).trans d3
                have g0' := (hb2.cell (World.block_lt_of_cell? _ _ g0)).trans g0
                have g1' := (hb2.cell (World.block_lt_of_cell? _ _ g1)).trans g1
                have g2' := (hb2.cell (World.block_lt_of_cell? _ _ g2)).trans g2
                have g3' := (hb2.cell (World.block_lt_of_cell? _ _ g3)).trans g3
                have hb3 := hb1.trans (hb2.mono hb1.size)
                clear d0 d1 d2 d3 g0 g1 g2 g3
                go_wp2_with fail
                refine (q4.out _).mono ?_
                rintro e w' ⟨rfl, rfl⟩
                go_wp2_with fail
                refine (q3.out _).mono ?_
                rintro e w' ⟨rfl, rfl⟩
                go_wp2_with fail
                refine (q5.out _ hb3).mono ?_
                rintro e w' ⟨rfl, hb⟩
                go_wp2_with fail
                go_ret
                exact ⟨rfl, hb3.trans (hb.mono hb3.size)⟩
              · rw [lex_ne e2] at HR
                subst HR
                have e2' : (z3 == 0) = false := by simpa using e2
                clear q5
                obtain ⟨kb0, kb1, kb2, kb3, kc0, kc1, kc2, kc3⟩ := boxed8 w (.int .i64 2) (.int .i64 n) (.string s) (.slice A a.length c) (.int .i64 k') (.int .i64 n') (.string s') (.slice A' a'.length c') 24
                go_enter Try.func33, Try.ntmps33
                go_wp2_with fail
                refine wp_region_quiet_below (by kernel_rfl) (by kernel_rfl) ?_
                repeat (go_big_quiet_step (first | (go_at_call 60; first | (with_reducible exact Calls.regrown_of (r1.out _)) | (with_reducible exact Calls.regrown_of (r2.out _))) | (go_at_call 59; exact Calls.regrown_of (withBelow (q0.out _)))))
                refine wpQuiet_nil ?_
                intro w1 hw'
                obtain ⟨⟨d0, d1, d2, d3⟩, ⟨g0, g1, g2, g3⟩, hb1⟩ := box8 (regrown_below hw')
                clear kb0 kb1 kb2 kb3 kc0 kc1 kc2 kc3 hw'
                go_wp2_with fail
                refine (r1.out _).mono ?_
                rintro e w2 ⟨rfl, hb2⟩
                have d0' := (hb2.cell (World.block_lt_of_cell? _ _ d0)).trans d0
                have d1' := (hb2.cell (World.block_lt_of_cell? _ _ d1)).trans d1
                have d2' := (hb2.cell (World.block_lt_of_cell? _ _ d2)).trans d2
                have d3' := (hb2.cell (World.block_lt_of_cell? _ _ d3)).trans d3
                have g0' := (hb2.cell (World.block_lt_of_cell? _ _ g0)).trans g0
                have g1' := (hb2.cell (World.block_lt_of_cell? _ _ g1)).trans g1
                have g2' := (hb2.cell (World.block_lt_of_cell? _ _ g2)).trans g2
                have g3' := (hb2.cell (World.block_lt_of_cell? _ _ g3)).trans g3
                have hb3 := hb1.trans (hb2.mono hb1.size)
                clear d0 d1 d2 d3 g0 g1 g2 g3
                go_wp2_with fail
                refine (q4.out _).mono ?_
                rintro e w' ⟨rfl, rfl⟩
                go_wp2_with fail
                refine (q3.out _).mono ?_
                rintro e w' ⟨rfl, rfl⟩
                go_wp2_with fail
                go_ret
                exact ⟨rfl, hb3⟩
            · rw [lex_ne e1] at HR
              subst HR
              have e1' : (z4 == 0) = false := by simpa using e1
              clear q5 q3
              obtain ⟨kb0, kb1, kb2, kb3, kc0, kc1, kc2, kc3⟩ := boxed8 w (.int .i64 2) (.int .i64 n) (.string s) (.slice A a.length c) (.int .i64 k') (.int .i64 n') (.string s') (.slice A' a'.length c') 24
              go_enter Try.func33, Try.ntmps33
              go_wp2_with fail
              refine wp_region_quiet_below (by kernel_rfl) (by kernel_rfl) ?_
              repeat (go_big_quiet_step (first | (go_at_call 60; first | (with_reducible exact Calls.regrown_of (r1.out _)) | (with_reducible exact Calls.regrown_of (r2.out _))) | (go_at_call 59; exact Calls.regrown_of (withBelow (q0.out _)))))
              refine wpQuiet_nil ?_
              intro w1 hw'
              obtain ⟨⟨d0, d1, d2, d3⟩, ⟨g0, g1, g2, g3⟩, hb1⟩ := box8 (regrown_below hw')
              clear kb0 kb1 kb2 kb3 kc0 kc1 kc2 kc3 hw'
              go_wp2_with fail
              refine (r1.out _).mono ?_
              rintro e w2 ⟨rfl, hb2⟩
              have d0' := (hb2.cell (World.block_lt_of_cell? _ _ d0)).trans d0
              have d1' := (hb2.cell (World.block_lt_of_cell? _ _ d1)).trans d1
              have d2' := (hb2.cell (World.block_lt_of_cell? _ _ d2)).trans d2
              have d3' := (hb2.cell (World.block_lt_of_cell? _ _ d3)).trans d3
              have g0' := (hb2.cell (World.block_lt_of_cell? _ _ g0)).trans g0
              have g1' := (hb2.cell (World.block_lt_of_cell? _ _ g1)).trans g1
              have g2' := (hb2.cell (World.block_lt_of_cell? _ _ g2)).trans g2
              have g3' := (hb2.cell (World.block_lt_of_cell? _ _ g3)).trans g3
              have hb3 := hb1.trans (hb2.mono hb1.size)
              clear d0 d1 d2 d3 g0 g1 g2 g3
              go_wp2_with fail
              refine (q4.out _).mono ?_
              rintro e w' ⟨rfl, rfl⟩
              go_wp2_with fail
              go_ret
              exact ⟨rfl, hb3⟩
          · rw [if_neg k2] at HR
            obtain rfl : j = 3 := by rw [← hj]; simp [cls, k1, k0, k2]
            clear hj q4 q5 k1 k0 k2
            by_cases e1 : z2 = 0
            · subst e1
              rw [lex_zero] at HR
              by_cases e2 : z1 = 0
              · subst e2
                rw [lex_zero] at HR
                subst HR
                obtain ⟨kb0, kb1, kb2, kb3, kc0, kc1, kc2, kc3⟩ := boxed8 w (.int .i64 k) (.int .i64 n) (.string s) (.slice A a.length c) (.int .i64 k') (.int .i64 n') (.string s') (.slice A' a'.length c') 24
                go_enter Try.func33, Try.ntmps33
                go_wp2_with fail
                refine wp_region_quiet_below (by kernel_rfl) (by kernel_rfl) ?_
                repeat (go_big_quiet_step (first | (go_at_call 60; first | (with_reducible exact Calls.regrown_of (r1.out _)) | (with_reducible exact Calls.regrown_of (r2.out _))) | (go_at_call 59; exact Calls.regrown_of (withBelow (q0.out _)))))
                refine wpQuiet_nil ?_
                intro w1 hw'
                obtain ⟨⟨d0, d1, d2, d3⟩, ⟨g0, g1, g2, g3⟩, hb1⟩ := box8 (regrown_below hw')
                clear kb0 kb1 kb2 kb3 kc0 kc1 kc2 kc3 hw'
                go_wp2_with fail
                refine (r1.out _).mono ?_
                rintro e w2 ⟨rfl, hb2⟩
                have d0' := (hb2.cell (World.block_lt_of_cell? _ _ d0)).trans d0
                have d1' := (hb2.cell (World.block_lt_of_cell? _ _ d1)).trans d1
                have d2' := (hb2.cell (World.block_lt_of_cell? _ _ d2)).trans d2
                have d3' := (hb2.cell (World.block_lt_of_cell? _ _ d3)).trans d3
                have g0' := (hb2.cell (World.block_lt_of_cell? _ _ g0)).trans g0
                have g1' := (hb2.cell (World.block_lt_of_cell? _ _ g1)).trans g1
                have g2' := (hb2.cell (World.block_lt_of_cell? _ _ g2)).trans g2
                have g3' := (hb2.cell (World.block_lt_of_cell? _ _ g3)).trans g3
                have hb3 := hb1.trans (hb2.mono hb1.size)
                clear d0 d1 d2 d3 g0 g1 g2 g3
                go_wp2_with fail
                refine (q2.out _).mono ?_
                rintro e w' ⟨rfl, rfl⟩
                go_wp2_with fail
                refine (q1.out _).mono ?_
                rintro e w' ⟨rfl, rfl⟩
                go_wp2_with fail
                refine (q3.out _).mono ?_
                rintro e w' ⟨rfl, rfl⟩
                go_wp2_with fail
                go_ret
                exact ⟨rfl, hb3⟩
              · rw [lex_ne e2] at HR
                subst HR
                have e2' : (z1 == 0) = false := by simpa using e2
                clear q3
                obtain ⟨kb0, kb1, kb2, kb3, kc0, kc1, kc2, kc3⟩ := boxed8 w (.int .i64 k) (.int .i64 n) (.string s) (.slice A a.length c) (.int .i64 k') (.int .i64 n') (.string s') (.slice A' a'.length c') 24
                go_enter Try.func33, Try.ntmps33
                go_wp2_with fail
                refine wp_region_quiet_below (by kernel_rfl) (by kernel_rfl) ?_
                repeat (go_big_quiet_step (first | (go_at_call 60; first | (with_reducible exact Calls.regrown_of (r1.out _)) | (with_reducible exact Calls.regrown_of (r2.out _))) | (go_at_call 59; exact Calls.regrown_of (withBelow (q0.out _)))))
                refine wpQuiet_nil ?_
                intro w1 hw'
                obtain ⟨⟨d0, d1, d2, d3⟩, ⟨g0, g1, g2, g3⟩, hb1⟩ := box8 (regrown_below hw')
                clear kb0 kb1 kb2 kb3 kc0 kc1 kc2 kc3 hw'
                go_wp2_with fail
                refine (r1.out _).mono ?_
                rintro e w2 ⟨rfl, hb2⟩
                have d0' := (hb2.cell (World.block_lt_of_cell? _ _ d0)).trans d0
                have d1' := (hb2.cell (World.block_lt_of_cell? _ _ d1)).trans d1
                have d2' := (hb2.cell (World.block_lt_of_cell? _ _ d2)).trans d2
                have d3' := (hb2.cell (World.block_lt_of_cell? _ _ d3)).trans d3
                have g0' := (hb2.cell (World.block_lt_of_cell? _ _ g0)).trans g0
                have g1' := (hb2.cell (World.block_lt_of_cell? _ _ g1)).trans g1
                have g2' := (hb2.cell (World.block_lt_of_cell? _ _ g2)).trans g2
                have g3' := (hb2.cell (World.block_lt_of_cell? _ _ g3)).trans g3
                have hb3 := hb1.trans (hb2.mono hb1.size)
                clear d0 d1 d2 d3 g0 g1 g2 g3
                go_wp2_with fail
                refine (q2.out _).mono ?_
                rintro e w' ⟨rfl, rfl⟩
                go_wp2_with fail
                refine (q1.out _).mono ?_
                rintro e w' ⟨rfl, rfl⟩
                go_wp2_with fail
                go_ret
                exact ⟨rfl, hb3⟩
            · rw [lex_ne e1] at HR
              subst HR
              have e1' : (z2 == 0) = false := by simpa using e1
              clear q3 q1
              obtain ⟨kb0, kb1, kb2, kb3, kc0, kc1, kc2, kc3⟩ := boxed8 w (.int .i64 k) (.int .i64 n) (.string s) (.slice A a.length c) (.int .i64 k') (.int .i64 n') (.string s') (.slice A' a'.length c') 24
              go_enter Try.func33, Try.ntmps33
              go_wp2_with fail
              refine wp_region_quiet_below (by kernel_rfl) (by kernel_rfl) ?_
              repeat (go_big_quiet_step (first | (go_at_call 60; first | (with_reducible exact Calls.regrown_of (r1.out _)) | (with_reducible exact Calls.regrown_of (r2.out _))) | (go_at_call 59; exact Calls.regrown_of (withBelow (q0.out _)))))
              refine wpQuiet_nil ?_
              intro w1 hw'
              obtain ⟨⟨d0, d1, d2, d3⟩, ⟨g0, g1, g2, g3⟩, hb1⟩ := box8 (regrown_below hw')
              clear kb0 kb1 kb2 kb3 kc0 kc1 kc2 kc3 hw'
              go_wp2_with fail
              refine (r1.out _).mono ?_
              rintro e w2 ⟨rfl, hb2⟩
              have d0' := (hb2.cell (World.block_lt_of_cell? _ _ d0)).trans d0
              have d1' := (hb2.cell (World.block_lt_of_cell? _ _ d1)).trans d1
              have d2' := (hb2.cell (World.block_lt_of_cell? _ _ d2)).trans d2
              have d3' := (hb2.cell (World.block_lt_of_cell? _ _ d3)).trans d3
              have g0' := (hb2.cell (World.block_lt_of_cell? _ _ g0)).trans g0
              have g1' := (hb2.cell (World.block_lt_of_cell? _ _ g1)).trans g1
              have g2' := (hb2.cell (World.block_lt_of_cell? _ _ g2)).trans g2
              have g3' := (hb2.cell (World.block_lt_of_cell? _ _ g3)).trans g3
              have hb3 := hb1.trans (hb2.mono hb1.size)
              clear d0 d1 d2 d3 g0 g1 g2 g3
              go_wp2_with fail
              refine (q2.out _).mono ?_
              rintro e w' ⟨rfl, rfl⟩
              go_wp2_with fail
              go_ret
              exact ⟨rfl, hb3⟩
    · rw [lex_ne e0] at HR
      subst HR
      have e0' : (z0 != 0) = true := by simpa using e0
      clear hj q1 q2 q3 q4 q5
      obtain ⟨kb0, kb1, kb2, kb3, kc0, kc1, kc2, kc3⟩ := boxed8 w (.int .i64 k) (.int .i64 n) (.string s) (.slice A a.length c) (.int .i64 k') (.int .i64 n') (.string s') (.slice A' a'.length c') 24
      go_enter Try.func33, Try.ntmps33
      go_wp2_with fail
      refine wp_region_quiet_below (by kernel_rfl) (by kernel_rfl) ?_
      repeat (go_big_quiet_step (first | (go_at_call 60; first | (with_reducible exact Calls.regrown_of (r1.out _)) | (with_reducible exact Calls.regrown_of (r2.out _))) | (go_at_call 59; exact Calls.regrown_of (withBelow (q0.out _)))))
      refine wpQuiet_nil ?_
      intro w1 hw'
      obtain ⟨⟨d0, d1, d2, d3⟩, ⟨g0, g1, g2, g3⟩, hb1⟩ := box8 (regrown_below hw')
      clear kb0 kb1 kb2 kb3 kc0 kc1 kc2 kc3 hw'
      go_wp2_with fail
      go_ret
      exact ⟨rfl, hb1⟩

theorem ref_same_at (t u : Tm) (w : World) (ht : t.At w) (hu : u.At w) {r : Bool} (hr : (cmpT t u == 0) = r) :
    Calls Try.prog 19 #[t.val, u.val] w fun e w' => e = .returned (.bool r) ∧ Below w.heap.size w w' := by
  have Q := Lib.hid (fun W (h : Below w.heap.size w W) => ref_compare_at t u W (ht.below h) (hu.below h))
  generalize cmpT t u = z at *
  obtain ⟨k, n, s, A, c, a⟩ := t
  obtain ⟨k', n', s', A', c', a'⟩ := u
  show Calls Try.prog 19 #[.agg #[.int .i64 k, .int .i64 n, .string s, .slice A a.length c], .agg #[.int .i64 k', .int .i64 n', .string s', .slice A' a'.length c']] w _
  have HR := Lib.hid hr
  clear hr ht hu
  go_enter Try.func19, Try.ntmps19
  go_wp2_with fail
  refine (Q.out _ (below2 _ _ _)).mono ?_
  rintro e w' ⟨rfl, hb⟩
  go_wp2_with fail
  go_ret
  exact ⟨by rw [← HR.out]; rfl, (below2 _ _ _).trans (hb.mono (by simp; omega))⟩
end Go.Proofs.Ytdjbigfobodecaa
namespace Go.Proofs.Ytdjbigfobodecaa
open Go.ChangeShapes Go.WideShapes Go.ChangeAt Go.RowKit

theorem types : Types Try.prog 3 9 22 24 :=
  ⟨Try.underlying3, Try.underlying9, Try.underlying22, ⟨_, _, _, _, Try.underlying24, ⟨rfl, rfl⟩, ⟨rfl, rfl⟩, ⟨rfl, rfl⟩, ⟨rfl, rfl⟩⟩, by kernel_rfl, by kernel_rfl, by kernel_rfl, by kernel_rfl⟩

section
variable {H : Type} {enc : TypeId × Value → H} {W : World} {base : Nat} {spare : Nat → Bool} {held : Bool}
end

/-- A slice of terms that was just laid. -/
theorem row_one {w : World} (t : Tm) (h : t.At w) : RowAt (w.alloc (.cells #[.int .i64 t.kind, .int .i64 t.num, .string t.name, .slice t.at_ t.args.length t.cap] 24)) [t] w.heap.size 0 := by
  have hc : ∀ j v, (#[.int .i64 t.kind, .int .i64 t.num, .string t.name, .slice t.at_ t.args.length t.cap] : Array Value)[j]? = some v →
      (w.alloc (.cells #[.int .i64 t.kind, .int .i64 t.num, .string t.name, .slice t.at_ t.args.length t.cap] 24)).cell? ⟨w.heap.size, j, none⟩ = some v := fun j v hv => by
    rw [World.cell?_alloc_at _ _ _ _ rfl, hv]
  simp only [RowAt]
  exact ⟨⟨hc 0 _ rfl, hc 1 _ rfl, hc 2 _ rfl, hc 3 _ rfl⟩, h.alloc _, trivial⟩
theorem Lst.of_row {w : World} {l : List Tm} {b o : Nat} (h : RowAt w l b o) (hl : l.length ≤ 1000000) : Lst w (some ⟨b, o, none⟩) l l.length := ⟨Nat.le_refl _, by unfold maxLen; omega, fun _ => ⟨b, o, rfl, h⟩⟩

/-- A contract that leaves what was there, told of a first world X. -/
theorem from_first {P : Program} {f : FuncId} {args : Array Value} {X W : World} {v : Value} (hX : Below X.heap.size X W) (h : Calls P f args W fun e w' => e = .returned v ∧ Below W.heap.size W w') :
    Calls P f args W fun e w' => e = .returned v ∧ Below X.heap.size X w' := h.mono fun _ _ ⟨he, hb⟩ => ⟨he, hX.trans (hb.mono hX.size)⟩
theorem not_great {l : List Tm} {most : Int} (h : decide (weigh l most 64 < 0) = false) : (nodesL l : Int) ≤ most := weigh_nodes (deep := 64) (Int.not_lt.1 (by simpa using h))
/-- What is held in a region: the cells of the box, and that what was there is as it was. -/
theorem held4 {w W : World} {v0 v1 v2 v3 : Value} {T : TypeId} (h : Below (w.alloc (.cells #[v0, v1, v2, v3] T)).heap.size (w.alloc (.cells #[v0, v1, v2, v3] T)) W) :
    W.cell? ⟨w.heap.size, 0, none⟩ = some v0 ∧ W.cell? ⟨w.heap.size, 1, none⟩ = some v1 ∧ W.cell? ⟨w.heap.size, 2, none⟩ = some v2 ∧ W.cell? ⟨w.heap.size, 3, none⟩ = some v3 ∧ Below (w.alloc (.cells #[v0, v1, v2, v3] T)).heap.size (w.alloc (.cells #[v0, v1, v2, v3] T)) W := by
  obtain ⟨d0, d1, d2, d3, _⟩ := box4 h
  exact ⟨d0, d1, d2, d3, h⟩
end Go.Proofs.Ytdjbigfobodecaa
namespace Go.Proofs.Ytdjbigfobodecaa
open Go.RowKit Go.Maps

theorem OwnI.mono {w : World} {base base' : Nat} {v : Value} {l : List Int} (h : OwnI w base v l) (hb : base' ≤ base) : OwnI w base' v l := by
  refine ⟨h.1, ?_⟩
  rcases h.2 with h | ⟨g, cap, cur, h1, h2, h3⟩
  · exact .inl h
  · exact .inr ⟨g, cap, cur, h1, Nat.le_trans hb h2, h3⟩

end Go.Proofs.Ytdjbigfobodecaa
namespace Go.Proofs.Ytdjbigfobodecaa
open Go.ChangeShapes Go.WideShapes Go.ChangeAt Go.RowKit
set_option linter.unusedVariables false

/-- The order of constraints. -/
def cmpA (a b : Am) : Int := lex (texts a.name.data.toList b.name.data.toList) (lex (ints a.args.length b.args.length) (cmpL a.args b.args))
def sameG (g h : Gl) : Bool := decide (g.op = h.op) && (decide (g.name = h.name) && (cmpL g.args h.args == 0))

theorem same_ne {l m : List Tm} (h : l.length ≠ m.length) : (cmpL l m == 0) = false := by
  induction l generalizing m with
  | nil => cases m with
    | nil => simp at h
    | cons y q => rfl
  | cons x r ih => cases m with
    | nil => rfl
    | cons y q =>
      have := ih (m := q) (by simpa using h)
      simp only [cmpL, lex]
      split
      · exact this
      · simpa using ‹¬ _›

end Go.Proofs.Ytdjbigfobodecaa
namespace Go.Proofs.Ytdjbigfobodecaa
open Go.RowKit

abbrev zeroT : Tm := .mk 0 0 ⟨#[]⟩ none 0 []
abbrev zeroBox : Obj := .cells #[.int .i64 0, .int .i64 0, .string ⟨#[]⟩, .slice none 0 0] 24
def optT (o : Option Tm) : Tm := o.getD zeroT
/-- A block that was just laid may be written, behind a call. -/
theorem free4 {w w' : World} {cs : Array Value} {T : TypeId} (hb : Below (w.alloc (.cells cs T)).heap.size (w.alloc (.cells cs T)) w') : ∀ j, w'.frozen? ⟨w.heap.size, j, none⟩ = false := fun j => by
  rw [hb.frozen (p := ⟨w.heap.size, j, none⟩) (by simp), World.frozen?_alloc_at _ _ _ _ rfl]
theorem set4c {X W : World} {B T : Nat} {v0 v1 v2 v3 : Value} (hb : Below B X W) (hT : B ≤ T) :
    Below B X ((((W.setCell ⟨T, 0, none⟩ v0).setCell ⟨T, 1, none⟩ v1).setCell ⟨T, 2, none⟩ v2).setCell ⟨T, 3, none⟩ v3) :=
  (((hb.setCell (p := ⟨T, 0, none⟩) hT _).setCell (p := ⟨T, 1, none⟩) hT _).setCell (p := ⟨T, 2, none⟩) hT _).setCell (p := ⟨T, 3, none⟩) hT _

/-- Where the first number with a property stands, or a negative number. -/
def SomeIdx (r : Bool) (w : World) (e : Ending) (w' : World) : Prop := ∃ m : Int, decide (0 ≤ m) = r ∧ e = .returned (.int .i64 m) ∧ Below w.heap.size w w'
theorem iany_next {l : List Int} {k : Nat} (p : Int → Bool) (h : k < l.length) : (l.take (k + 1)).any p = ((l.take k).any p || p (l.getD k 0)) := by
  rw [take_int h]; simp
theorem iany_stop {l : List Int} {k : Nat} {p : Int → Bool} (h : k < l.length) (hv : p (l.getD k 0) = true) : l.any p = true := List.any_eq_true.2 ⟨_, getD_int h, hv⟩

def hasB (l : List Bd) (t : Tm) : Bool := t.occ.any fun v => (look l v).isSome
theorem hasB_addAll (l : List Bd) (t : Tm) : (addAll [] t.occ).any (fun v => (look l v).isSome) = hasB l t := by
  unfold hasB
  rw [Bool.eq_iff_iff, List.any_eq_true, List.any_eq_true]
  simp only [mem_addAll, List.not_mem_nil, false_or]

end Go.Proofs.Ytdjbigfobodecaa
namespace Go.Proofs.Ytdjbigfobodecaa
open Go.RowKit

/-- A term like t, in blocks of the call's own. -/
def Made (t : Tm) (w : World) (e : Ending) (w' : World) : Prop := ∃ u : Tm, e = .returned u.val ∧ u.strip = t.strip ∧ Lie Any w.heap.size No w' u ∧ Below w.heap.size w w'
def MadeL (l : List Tm) (w : World) (e : Ending) (w' : World) : Prop :=
  ∃ A cap, ∃ cur : List Tm, e = .returned (.slice A l.length cap) ∧ cur.length = l.length ∧ stripL cur = stripL l ∧ (∀ W, Agree w.heap.size No w' W → Lst W A cur cap) ∧ Below w.heap.size w w'
theorem length_le_nodes (l : List Tm) : l.length ≤ nodesL l := by
  induction l with
  | nil => simp [nodesL]
  | cons t r ih =>
    have h : 1 ≤ t.nodes := by cases t; simp [Tm.nodes]
    simp only [nodesL, List.length_cons]; omega
theorem two_boxes (w : World) (v0 v1 v2 v3 u0 u1 u2 u3 : Value) (T : TypeId) :
    Held w.heap.size ((w.alloc (.cells #[v0, v1, v2, v3] T)).alloc (.cells #[u0, u1, u2, u3] T)) v0 v1 v2 v3 ∧ Held (w.heap.size + 1) ((w.alloc (.cells #[v0, v1, v2, v3] T)).alloc (.cells #[u0, u1, u2, u3] T)) u0 u1 u2 u3 := by
  have h := held_new (v0 := u0) (v1 := u1) (v2 := u2) (v3 := u3) (w.alloc (.cells #[v0, v1, v2, v3] T)) T
  rw [World.size_alloc] at h
  exact ⟨(held_new w T).alloc _, h⟩
/-- A term whose arguments are made anew. -/
theorem lie_row {w w' : World} {k n : Int} {s : ByteArray} {A : Option Addr} {cap lo : Nat} {cur : List Tm} (hp : Fits k ∧ Fits n ∧ s.size ≤ maxLen) (h : ∀ W, Agree lo No w' W → Lst W A cur cap) (hlo : w.heap.size ≤ lo) : Lie Any w.heap.size No w' (.mk k n s A cap cur) :=
  fun W _ hW => (At_iff _ _).2 ⟨hp, h W fun b h1 h2 h3 => hW b (by omega) h2 h3⟩

end Go.Proofs.Ytdjbigfobodecaa
namespace Go.Proofs.Ytdjbigfobodecaa
open Go.RowKit

/-- What add answers: the term's node; G grows by nodes whose arguments are entered. -/
def AddR (lo : Nat) (Y : Nat → Prop) (p mb : Nat) (z : Value) (G : List Nd) (t : Tm) (w : World) (e : Ending) (w' : World) : Prop :=
  ∃ (z' : Value) (G' : List Nd) (i : Nat), e = .returned (.int .i64 (i : Nat)) ∧ Gadd lo Y w' p mb z' G' ∧ (∃ N, G' = G ++ N) ∧ (∀ j, G.length ≤ j → j < G'.length → OkAt G' j ∧ (nd G' j).next = j) ∧ i < G'.length ∧ (nd G' i).tm.strip = t.strip ∧ G'.length ≤ G.length + t.nodes ∧
    AddFr p mb z w w' ∧ (z'.ownBlock = z.ownBlock ∨ ∀ b, z'.ownBlock = some b → w.heap.size ≤ b)
/-- While the arguments are entered: j of them are; g: the row for their nodes. -/
def AddLoop (lo : Nat) (Y : Nat → Prop) (p mb : Nat) (z : Value) (G : List Nd) (a : List Tm) (g : Nat) (w : World) (j : Nat) (wr : World) : Prop :=
  ∃ (z' : Value) (G' : List Nd) (ks : List Nat), Gadd lo (fun k => Y k ∨ k = g) wr p mb z' G' ∧ (∃ N, G' = G ++ N) ∧ (∀ m, G.length ≤ m → m < G'.length → OkAt G' m ∧ (nd G' m).next = m) ∧ ks.length = j ∧
    (∀ m, m < j → ks.getD m 0 < G'.length ∧ (nd G' (ks.getD m 0)).tm.strip = (a.getD m default).strip) ∧ G'.length ≤ G.length + nodesL (a.take j) ∧
    wr.ownsRow lo 3 1 (.slice (some ⟨g, 0, none⟩) a.length a.length) a.length ((ks.map fun i => Value.int .i64 (i : Nat)) ++ List.replicate (a.length - j) (Value.int .i64 0)) ∧
    AddFr p mb z w wr ∧ (z'.ownBlock = z.ownBlock ∨ ∀ b, z'.ownBlock = some b → w.heap.size ≤ b) ∧ z'.ownBlock ≠ some g
theorem nodesL_next {l : List Tm} {j : Nat} (h : j < l.length) : nodesL (l.take (j + 1)) = nodesL (l.take j) + (l.getD j default).nodes := by
  rw [ttake_next h, nodesL_append]; simp [nodesL]
theorem nodesL_take (l : List Tm) (k : Nat) : nodesL (l.take k) ≤ nodesL l := by
  have := nodesL_append (l.take k) (l.drop k)
  rw [List.take_append_drop] at this
  omega
theorem addloop_next {lo : Nat} {Y : Nat → Prop} {p mb : Nat} {z z' z2 : Value} {G G' G2 : List Nd} {a : List Tm} {g j i : Nat} {ks : List Nat} {w wr wb w2 : World} (hj : j < a.length) (hgp : g ≠ p) (hgm : g ≠ mb) (hgw0 : w.heap.size ≤ g)
    (h2 : ∃ N, G' = G ++ N) (h3 : ∀ m, G.length ≤ m → m < G'.length → OkAt G' m ∧ (nd G' m).next = m) (h4 : ks.length = j)
    (h5 : ∀ m, m < j → ks.getD m 0 < G'.length ∧ (nd G' (ks.getD m 0)).tm.strip = (a.getD m default).strip) (h6 : G'.length ≤ G.length + nodesL (a.take j))
    (h7 : wr.ownsRow lo 3 1 (.slice (some ⟨g, 0, none⟩) a.length a.length) a.length ((ks.map fun i => Value.int .i64 (i : Nat)) ++ List.replicate (a.length - j) (Value.int .i64 0)))
    (h8 : AddFr p mb z w wr) (h9 : z'.ownBlock = z.ownBlock ∨ ∀ b, z'.ownBlock = some b → w.heap.size ≤ b) (h10 : z'.ownBlock ≠ some g) (hb : Below wr.heap.size wr wb)
    (k1 : Gadd lo (fun k => Y k ∨ k = g) w2 p mb z2 G2) (k2 : ∃ N, G2 = G' ++ N) (k3 : ∀ m, G'.length ≤ m → m < G2.length → OkAt G2 m ∧ (nd G2 m).next = m) (k4 : i < G2.length) (k5 : (nd G2 i).tm.strip = (a.getD j default).strip) (k6 : G2.length ≤ G'.length + (a.getD j default).nodes)
    (k7 : AddFr p mb z' wb w2) (k8 : z2.ownBlock = z'.ownBlock ∨ ∀ b, z2.ownBlock = some b → wb.heap.size ≤ b) : AddLoop lo Y p mb z G a g w (j + 1) (w2.setCell ⟨g, j, none⟩ (.int .i64 (i : Nat))) := by
  obtain ⟨N, rfl⟩ := h2
  obtain ⟨M, rfl⟩ := k2
  have hgw : g < wr.heap.size := own_block_lt h7
  have hg2 : z2.ownBlock ≠ some g := by
    rcases k8 with k8 | k8
    · rw [k8]; exact h10
    · intro e; have := k8 g e; have := hb.size; omega
  have hrow2 : w2.ownsRow lo 3 1 (.slice (some ⟨g, 0, none⟩) a.length a.length) a.length ((ks.map fun i => Value.int .i64 (i : Nat)) ++ List.replicate (a.length - j) (Value.int .i64 0)) :=
    k7.row (own_below h7 hb) fun b e => by
      have : g = b := by simpa [Value.ownBlock] using e
      subst this
      exact ⟨hgp, hgm, h10⟩
  have hs := (World.ownsRow.stored hrow2 j (.int .i64 (i : Nat))).1
  have hset : ((ks.map fun i => Value.int .i64 (i : Nat)) ++ List.replicate (a.length - j) (Value.int .i64 0)).set j (.int .i64 (i : Nat)) = (((ks ++ [i]).map fun i => Value.int .i64 (i : Nat)) ++ List.replicate (a.length - (j + 1)) (Value.int .i64 0)) := by
    rw [List.set_append_right _ _ (by simp [h4]), List.length_map, h4, Nat.sub_self, show a.length - j = (a.length - (j + 1)) + 1 by omega, List.replicate_succ, List.set_cons_zero, List.map_append, List.append_assoc]
    rfl
  rw [hset] at hs
  have hfr : AddFr p mb z w w2 := by
    refine (h8.trans (AddFr.of (z := z') hb) h9).trans k7 h9
  have hzz : z2.ownBlock = z.ownBlock ∨ ∀ b, z2.ownBlock = some b → w.heap.size ≤ b := by
    rcases k8 with k8 | k8
    · rw [k8]; exact h9
    · exact .inr fun b e => by have := k8 b e; have := hb.size; have := h8.size; omega
  refine ⟨z2, (G ++ N) ++ M, ks ++ [i], k1.fill (.inr rfl) hgp hgm hg2 _, ⟨N ++ M, by simp⟩, fun m m1 m2 => ?_, by simp [h4], fun m hm => ?_, ?_, hs, ?_, hzz, hg2⟩
  · by_cases hm : m < (G ++ N).length
    · have := h3 m m1 hm
      exact ⟨this.1.left hm, by rw [nd_left hm]; exact this.2⟩
    · exact k3 m (by omega) m2
  · by_cases h : m < j
    · have e : (ks ++ [i]).getD m 0 = ks.getD m 0 := by simp [List.getD, List.getElem?_append_left (show m < ks.length by omega)]
      have := h5 m h
      rw [e, nd_left this.1]
      exact ⟨by rw [List.length_append]; omega, this.2⟩
    · obtain rfl : m = j := by omega
      have e : (ks ++ [i]).getD m 0 = i := by simp [List.getD, ← h4]
      rw [e]
      exact ⟨k4, k5⟩
  · rw [nodesL_next hj]
    omega
  · exact ⟨hfr.os, hfr.tape, hfr.output, by simpa [World.setCell] using hfr.size, fun b q1 q2 q3 q4 => (Below.heap_setCell _ _ _ _ (fun e => by have : b = g := e; omega)).trans (hfr.block b q1 q2 q3 q4)⟩
theorem zero_int (w : World) : (zeroValue 3).run Try.prog w = .ok (.int .i64 0) w := by kernel_rfl
theorem look_var {w : World} {mb c : Nat} {D : DataW Unit} {G : List Nd} (h : w.ownsMap Try.prog 3 (plainElem Try.prog 3) mb c D) (hv : VMap D G) {n : Int} (hf : Fits n) :
    (∃ i, i < G.length ∧ (nd G i).tm.kind = 1 ∧ (nd G i).tm.num = n ∧ (Instr.lookup 46 (.map (some mb)) (.int .i64 n) true).run Try.prog w = .ok (.tuple #[.int .i64 (i : Nat), .bool true]) w) ∨
    (Maps.has D (KL n) = false ∧ ∃ v, (Instr.lookup 46 (.map (some mb)) (.int .i64 n) true).run Try.prog w = .ok (.tuple #[.int .i64 v, .bool false]) w) := by
  have hw0 : (Lit.int .i64 0).wf = true := by decide
  obtain ⟨v, ps, hrun, hR⟩ := World.ownsMap.look_ok h keyed Try.underlying46 (zero_int w) (plainElem_int Try.underlying3 hw0) (Maps.keyOf_int_mk Try.underlying3 (fits_wf hf))
  obtain ⟨x, rfl, hx, _⟩ := plainElem_int_inv Try.underlying3 hR
  cases hh : Maps.has D (KL n)
  · rw [show Maps.has D (.int .i64 n) = false from hh] at hrun
    exact .inr ⟨rfl, x, hrun⟩
  · rw [show Maps.has D (.int .i64 n) = true from hh] at hrun
    obtain ⟨i, h1, h2, h3⟩ := hv.2.1 n hh
    have h4 := (hv.2.2 i h1 h2).2 (.lit (KL 0))
    rw [h3] at h4
    have hx1 : D.atKey (.int .i64 n) (.lit (.int .i64 0)) = .lit (.int .i64 x) := congrArg Prod.fst hx
    rw [show D.atKey (.int .i64 n) (.lit (.int .i64 0)) = .lit (KL (i : Nat)) from h4] at hx1
    have hxi : x = (i : Int) := by
      simp only [DataW.lit.injEq, Lit.int.injEq, true_and] at hx1
      exact hx1.symm
    subst hxi
    exact .inl ⟨i, h1, h2, h3, hrun⟩

theorem add_done {lo : Nat} {Y : Nat → Prop} {p mb g : Nat} {z z1 : Value} {G : List Nd} {x : Nd} {w w4 wr : World} (h : AddLoop lo Y p mb z1 (G ++ [x]) x.tm.args g w4 x.tm.args.length wr) (hform : x.tm.form = true) (hnx : x.next = G.length)
    (hfr : AddFr p mb z w w4) (hz1 : z1.ownBlock = z.ownBlock ∨ ∀ b, z1.ownBlock = some b → w.heap.size ≤ b) (hgp : g ≠ p) (hgm : g ≠ mb) (hgl : lo ≤ g) (hgY : ¬ Y g) (hsz : G.length + x.tm.nodes ≤ 1000000) :
    ∃ q n cap, wr.cell? ⟨p, 0, none⟩ = some (.slice (some ⟨q, 0, none⟩) n cap) ∧ G.length < n ∧ n ≤ 1000000 ∧ (∃ v, wr.cell? ⟨q, G.length * 6 + 4, none⟩ = some v) ∧ wr.frozen? ⟨q, G.length * 6 + 4, none⟩ = false ∧
      AddR lo Y p mb z G x.tm w (.returned (.int .i64 (G.length : Nat))) (wr.setCell ⟨q, G.length * 6 + 4, none⟩ (.slice (some ⟨g, 0, none⟩) x.tm.args.length x.tm.args.length)) := by
  obtain ⟨z', G', ks, k1, ⟨N, rfl⟩, k3, k4, k5, k6, k7, k8, k9, k10⟩ := h
  have hlen : G.length < ((G ++ [x]) ++ N).length := by simp
  obtain ⟨q, cap, rfl, hq1, hq2, _⟩ := k1.g.form (by omega)
  have hn : nd ((G ++ [x]) ++ N) G.length = x := by rw [nd_left (by simp), nd_new]
  have hx4 := (k1.g.cells hlen).2.2.2.2.1
  have hgq : q ≠ g := fun e => k10 (by rw [e]; rfl)
  have hnod : x.tm.nodes = 1 + nodesL x.tm.args := by cases x.tm; rfl
  have hall : x.tm.args.take x.tm.args.length = x.tm.args := List.take_length
  have hkl : ks.length ≤ 1000000 := by have := length_le_nodes x.tm.args; omega
  rw [k4.symm, Nat.sub_self] at k7
  simp only [List.replicate_zero, List.append_nil] at k7
  have hga := gadd_args (i := G.length) k1.less hlen k7 rfl hkl hgl hgY hgp hgm hgq
  rw [hn, k4] at hga
  rw [hall] at k6
  refine ⟨q, _, cap, k1.g.hdr, hlen, k1.g.small, ⟨_, hx4⟩, k1.g.free _, _, _, G.length, rfl, hga, ⟨{ x with A := some ⟨g, 0, none⟩, cap := x.tm.args.length, kids := ks } :: N, ?_⟩, fun j h1 h2 => ?_, by simp, ?_, ?_, ?_, ?_⟩
  · rw [List.append_assoc, List.set_append_right _ _ (Nat.le_refl _), Nat.sub_self]
    rfl
  · rw [List.length_set] at h2
    by_cases hj : j = G.length
    · subst hj
      have e : nd (((G ++ [x]) ++ N).set G.length { x with A := some ⟨g, 0, none⟩, cap := x.tm.args.length, kids := ks }) G.length = { x with A := some ⟨g, 0, none⟩, cap := x.tm.args.length, kids := ks } := by rw [nd_set _ _ _ _ hlen, if_pos rfl]
      refine ⟨⟨by rw [e]; exact hform, by rw [e]; exact k4, fun m hm => ?_⟩, by rw [e]; exact hnx⟩
      rw [e] at hm ⊢
      have hk := k5 m (by rw [← k4]; exact hm)
      rw [List.length_set, nd_set _ _ _ _ hlen]
      refine ⟨hk.1, ?_⟩
      split
      · rename_i e2
        have := hk.2
        rw [e2, hn] at this
        exact this
      · exact hk.2
    · have := k3 j (by simp; omega) h2
      refine ⟨this.1.set hlen hj (by rw [hn]), ?_⟩
      rw [nd_set _ _ _ _ hlen, if_neg hj]
      exact this.2
  · rw [nd_set _ _ _ _ hlen, if_pos rfl]
  · rw [List.length_set, hnod]
    simp only [List.length_append, List.length_cons, List.length_nil] at k6 ⊢
    omega
  · have := hfr.trans k8 hz1
    refine ⟨this.os, this.tape, this.output, by simpa [World.setCell] using this.size, fun b q1 q2 q3 q4 => (Below.heap_setCell _ _ _ _ (fun e => ?_)).trans (this.block b q1 q2 q3 q4)⟩
    have e' : b = q := e
    rcases k9 with k9 | k9
    · rcases hz1 with hz1 | hz1
      · exact q4 (by rw [← hz1, ← k9, e']; rfl)
      · have := hz1 q (by rw [← k9]; rfl); omega
    · have := k9 q rfl
      have := hfr.size
      omega
  · rcases k9 with k9 | k9
    · rw [k9]; exact hz1
    · exact .inr fun b e => by have := k9 b e; have := hfr.size; omega
end Go.Proofs.Ytdjbigfobodecaa
