/-
  Contracts of lists, Compare, Same and SameTerms of the reference.
-/
import Derived.Test.YtpnjjahimhhjkaaTmOrd
namespace Go.Proofs.Ytpnjjahimhhjkaa
open Go.RowKit Go.Sort

def RefCmpAt (x : Tm) : Prop := ∀ (u : Tm) (w : World), x.At w → u.At w → Calls Try.prog 36 #[x.val, u.val] w fun e w' => e = .returned (.int .i64 (cmpT x u)) ∧ Below w.heap.size w w'

set_option maxHeartbeats 1000000 in
theorem ref_lists_at (l m : List Tm) (ih : ∀ x ∈ l, RefCmpAt x) (A B : Option Addr) (c d : Nat) (w : World) (hl : Lst w A l c) (hm : Lst w B m d) :
    Calls Try.prog 54 #[.slice A l.length c, .slice B m.length d] w fun e w' => e = .returned (.int .i64 (cmpL l m)) ∧ Below w.heap.size w w' := by
  have hlen : l.length ≤ 9223372036854775807 := by have := hl.1; have := hl.2.1; unfold maxLen at *; omega
  have hlen' : m.length ≤ 9223372036854775807 := by have := hm.1; have := hm.2.1; unfold maxLen at *; omega
  have QI := Lib.hid ih
  obtain ⟨zl, hzl⟩ : ∃ z, ints l.length m.length = z := ⟨_, rfl⟩
  have ql := Lib.hid (fun W => ref_ints_at (l.length : Int) (m.length : Int) W hzl)
  have HZL := Lib.hid hzl
  clear ih hzl
  go_enter Try.func54, Try.ntmps54
  go_wp2_with fail
  go_loopw [5] (fun i wr => ∃ j : Nat, j ≤ l.length ∧ j ≤ m.length ∧ i = .int .i64 j ∧ Hid (cmpL (l.take j) (m.take j) = 0) ∧ Below w.heap.size w wr) (fun i _ => l.length - (intOf i).toNat)
  case atStart => exact ⟨0, Nat.zero_le _, Nat.zero_le _, rfl, Lib.hid rfl, Below.refl _ _⟩
  case round =>
    obtain ⟨j, hj, hjm, rfl, HF, hb⟩ := hrel
    by_cases hlt : j < l.length
    · by_cases hlt' : j < m.length
      · obtain ⟨b, o, rfl, ⟨c0, c1, c2, c3⟩, hx⟩ := (hl.below hb).get hlt
        obtain ⟨b', o', rfl, ⟨g0, g1, g2, g3⟩, hy⟩ := (hm.below hb).get hlt'
        have hmem := getD_mem hlt
        have HN := Lib.hid (cmpL_next hlt hlt' HF.out)
        have HS := Lib.hid (fun h => cmpL_stop hlt hlt' HF.out h)
        generalize l.getD j default = x at *
        generalize m.getD j default = y at *
        have Q1 := Lib.hid (fun W (h : Below wr.heap.size wr W) => QI.out x hmem y W (hx.below h) (hy.below h))
        clear hx hy QI hmem
        obtain ⟨z, hz⟩ : ∃ z, cmpT x y = z := ⟨_, rfl⟩
        rw [hz] at HN HS Q1
        clear hz
        obtain ⟨k1, n1, s1, A1, p1, a1⟩ := x
        obtain ⟨k2, n2, s2, A2, p2, a2⟩ := y
        simp only [Tm.kind, Tm.num, Tm.name, Tm.at_, Tm.args, Tm.cap] at c0 c1 c2 c3 g0 g1 g2 g3
        have kc0 := cell_regrown c0
        have kc1 := cell_regrown c1
        have kc2 := cell_regrown c2
        have kc3 := cell_regrown c3
        have kg0 := cell_regrown g0
        have kg1 := cell_regrown g1
        have kg2 := cell_regrown g2
        have kg3 := cell_regrown g3
        go_wp2_with fail
        refine wp_region_quiet_below (by kernel_rfl) (by kernel_rfl) ?_
        repeat (go_big_quiet_step ((go_at_call 36; exact Calls.regrown_of (Q1.out _ (below_regrown _ _ _)))))
        refine wpQuiet_nil ?_
        intro w1 hw'
        have hb4 := hb.trans ((regrown_below hw').mono hb.size)
        clear kc0 kc1 kc2 kc3 kg0 kg1 kg2 kg3 hw'
        by_cases hz : z = 0
        · subst hz
          go_wp2_with fail
          go_roundw
          case rel => exact ⟨j + 1, by omega, by omega, by go_num, HN, hb4⟩
          case measure => simp [intOf]; omega
        · have hz' : (z != 0) = true := by simpa using hz
          have HE := Lib.hid (HS.out hz)
          clear HS HN
          go_wp2_with fail
          go_ret
          exact ⟨by rw [HE.out]; rfl, hb4⟩
      · have HE := Lib.hid (show cmpL l m = zl by rw [cmpL_end (.inr (by omega)) hj hjm HF.out, HZL.out])
        go_wp2_with fail
        refine (ql.out _).mono ?_
        rintro e w' ⟨rfl, rfl⟩
        go_wp2_with fail
        go_ret
        exact ⟨by rw [HE.out]; rfl, hb⟩
    · have HE := Lib.hid (show cmpL l m = zl by rw [cmpL_end (.inl (by omega)) hj hjm HF.out, HZL.out])
      go_wp2_with fail
      refine (ql.out _).mono ?_
      rintro e w' ⟨rfl, rfl⟩
      go_wp2_with fail
      go_ret
      exact ⟨by rw [HE.out]; rfl, hb⟩

set_option maxHeartbeats 2000000 in
theorem ref_compare_at (t : Tm) : RefCmpAt t := by
  induction t using Tm.induct with
  | h k n s A c a ih =>
    intro u w ht hu
    have hl : Lst w A a c := ht.lst
    have hm := hu.lst
    obtain ⟨k', n', s', A', c', a'⟩ := u
    simp only [Tm.args, Tm.at_, Tm.cap] at hm
    have hlen : a.length ≤ 9223372036854775807 := by have := hl.1; have := hl.2.1; unfold maxLen at *; omega
    have hlen' : a'.length ≤ 9223372036854775807 := by have := hm.1; have := hm.2.1; unfold maxLen at *; omega
    have q5 := Lib.hid (fun W (h : Below w.heap.size w W) => ref_lists_at a a' ih A A' c c' W (hl.below h) (hm.below h))
    clear ih ht hu hl hm
    show Calls Try.prog 36 #[.agg #[.int .i64 k, .int .i64 n, .string s, .slice A a.length c], .agg #[.int .i64 k', .int .i64 n', .string s', .slice A' a'.length c']] w _
    obtain ⟨j, hj⟩ : ∃ z, cls k = z := ⟨_, rfl⟩
    obtain ⟨j', hj'⟩ : ∃ z, cls k' = z := ⟨_, rfl⟩
    obtain ⟨z0, h0⟩ : ∃ z, ints j j' = z := ⟨_, rfl⟩
    obtain ⟨z1, h1⟩ : ∃ z, ints n n' = z := ⟨_, rfl⟩
    obtain ⟨z2, h2⟩ : ∃ z, ints k k' = z := ⟨_, rfl⟩
    obtain ⟨z3, h3⟩ : ∃ z, texts s.data.toList s'.data.toList = z := ⟨_, rfl⟩
    obtain ⟨z4, h4⟩ : ∃ z, ints a.length a'.length = z := ⟨_, rfl⟩
    obtain ⟨z5, h5⟩ : ∃ z, cmpL a a' = z := ⟨_, rfl⟩
    have r1 := Lib.hid (show ∀ W, Calls Try.prog 63 #[.agg #[.int .i64 k, .int .i64 n, .string s, .slice A a.length c]] W fun e w' => e = .returned (.int .i64 j) ∧ Below W.heap.size W w' from fun W => class_at (.mk k n s A c a) W hj)
    have r2 := Lib.hid (show ∀ W, Calls Try.prog 63 #[.agg #[.int .i64 k', .int .i64 n', .string s', .slice A' a'.length c']] W fun e w' => e = .returned (.int .i64 j') ∧ Below W.heap.size W w' from fun W => class_at (.mk k' n' s' A' c' a') W hj')
    have q0 := Lib.hid (fun W => ref_ints_at j j' W h0)
    have q1 := Lib.hid (fun W => ref_ints_at n n' W h1)
    have q2 := Lib.hid (fun W => ref_ints_at k k' W h2)
    have q3 := Lib.hid (fun W => ref_texts_at s s' W h3)
    have q4 := Lib.hid (fun W => ref_ints_at (a.length : Int) (a'.length : Int) W h4)
    rw [h5] at q5
    obtain ⟨R, hR⟩ : ∃ z, cmpT (.mk k n s A c a) (.mk k' n' s' A' c' a') = z := ⟨_, rfl⟩
    have HR := hR
    simp only [cmpT, Tm.kind, Tm.num, Tm.name, Tm.args] at HR
    rw [hj, hj', h0, h1, h2, h3, h4, h5] at HR
    rw [hR]
    clear hR h0 h1 h2 h3 h4 h5 hj'
    by_cases e0 : z0 = 0
    · subst e0
      rw [lex_zero] at HR
      by_cases k1 : k = 1
      · subst k1
        obtain rfl : j = 0 := by rw [← hj]; simp [cls]
        rw [if_pos (.inl rfl)] at HR
        subst HR
        clear hj q2 q3 q4 q5
        obtain ⟨kb0, kb1, kb2, kb3, kc0, kc1, kc2, kc3⟩ := boxed8 w (.int .i64 1) (.int .i64 n) (.string s) (.slice A a.length c) (.int .i64 k') (.int .i64 n') (.string s') (.slice A' a'.length c') 24
        go_enter Try.func36, Try.ntmps36
        go_wp2_with fail
        refine wp_region_quiet_below (by kernel_rfl) (by kernel_rfl) ?_
        repeat (go_big_quiet_step (first | (go_at_call 63; first | (with_reducible exact Calls.regrown_of (r1.out _)) | (with_reducible exact Calls.regrown_of (r2.out _))) | (go_at_call 62; exact Calls.regrown_of (withBelow (q0.out _)))))
        refine wpQuiet_nil ?_
        intro w1 hw'
        obtain ⟨⟨d0, d1, d2, d3⟩, ⟨g0, g1, g2, g3⟩, hb1⟩ := box8 (regrown_below hw')
        clear kb0 kb1 kb2 kb3 kc0 kc1 kc2 kc3 hw'
        go_wp2_with fail
        refine (r1.out _).mono ?_
        rintro e w2 ⟨rfl, hb2⟩
        have d0' := (hb2.cell (World.block_lt_of_cell? _ _ d0)).trans d0
        have d1' := (hb2.cell (World.block_lt_of_cell? _ _ d1)).trans d1
        have d2' := (hb2.cell (World.block_lt_of_cell? _ _ d2)).trans d2
        have d3' := (hb2.cell (World.block_lt_of_cell? _ _ d3)).trans d3
        have g0' := (hb2.cell (World.block_lt_of_cell? _ _ g0)).trans g0
        have g1' := (hb2.cell (World.block_lt_of_cell? _ _ g1)).trans g1
        have g2' := (hb2.cell (World.block_lt_of_cell? _ _ g2)).trans g2
        have g3' := (hb2.cell (World.block_lt_of_cell? _ _ g3)).trans g3
        have hb3 := hb1.trans (hb2.mono hb1.size)
        clear d0 d1 d2 d3 g0 g1 g2 g3
        go_wp2_with fail
        refine (q1.out _).mono ?_
        rintro e w' ⟨rfl, rfl⟩
        go_wp2_with fail
        go_ret
        exact ⟨rfl, hb3⟩
      · by_cases k0 : k = 0
        · subst k0
          obtain rfl : j = 1 := by rw [← hj]; simp [cls]
          rw [if_pos (.inr rfl)] at HR
          subst HR
          clear hj q2 q3 q4 q5
          obtain ⟨kb0, kb1, kb2, kb3, kc0, kc1, kc2, kc3⟩ := boxed8 w (.int .i64 0) (.int .i64 n) (.string s) (.slice A a.length c) (.int .i64 k') (.int .i64 n') (.string s') (.slice A' a'.length c') 24
          go_enter Try.func36, Try.ntmps36
          go_wp2_with fail
          refine wp_region_quiet_below (by kernel_rfl) (by kernel_rfl) ?_
          repeat (go_big_quiet_step (first | (go_at_call 63; first | (with_reducible exact Calls.regrown_of (r1.out _)) | (with_reducible exact Calls.regrown_of (r2.out _))) | (go_at_call 62; exact Calls.regrown_of (withBelow (q0.out _)))))
          refine wpQuiet_nil ?_
          intro w1 hw'
          obtain ⟨⟨d0, d1, d2, d3⟩, ⟨g0, g1, g2, g3⟩, hb1⟩ := box8 (regrown_below hw')
          clear kb0 kb1 kb2 kb3 kc0 kc1 kc2 kc3 hw'
          go_wp2_with fail
          refine (r1.out _).mono ?_
          rintro e w2 ⟨rfl, hb2⟩
          have d0' := (hb2.cell (World.block_lt_of_cell? _ _ d0)).trans d0
          have d1' := (hb2.cell (World.block_lt_of_cell? _ _ d1)).trans d1
          have d2' := (hb2.cell (World.block_lt_of_cell? _ _ d2)).trans d2
          have d3' := (hb2.cell (World.block_lt_of_cell? _ _ d3)).trans d3
          have g0' := (hb2.cell (World.block_lt_of_cell? _ _ g0)).trans g0
          have g1' := (hb2.cell (World.block_lt_of_cell? _ _ g1)).trans g1
          have g2' := (hb2.cell (World.block_lt_of_cell? _ _ g2)).trans g2
          have g3' := (hb2.cell (World.block_lt_of_cell? _ _ g3)).trans g3
          have hb3 := hb1.trans (hb2.mono hb1.size)
          clear d0 d1 d2 d3 g0 g1 g2 g3
          go_wp2_with fail
          refine (q1.out _).mono ?_
          rintro e w' ⟨rfl, rfl⟩
          go_wp2_with fail
          go_ret
          exact ⟨rfl, hb3⟩
        · rw [if_neg (by omega)] at HR
          by_cases k2 : k = 2
          · subst k2
            obtain rfl : j = 2 := by rw [← hj]; simp [cls]
            rw [if_pos rfl] at HR
            clear hj q1 q2 k1 k0
            by_cases e1 : z4 = 0
            · subst e1
              rw [lex_zero] at HR
              by_cases e2 : z3 = 0
              · subst e2
                rw [lex_zero] at HR
                subst HR
                obtain ⟨kb0, kb1, kb2, kb3, kc0, kc1, kc2, kc3⟩ := boxed8 w (.int .i64 2) (.int .i64 n) (.string s) (.slice A a.length c) (.int .i64 k') (.int .i64 n') (.string s') (.slice A' a'.length c') 24
                go_enter Try.func36, Try.ntmps36
                go_wp2_with fail
                refine wp_region_quiet_below (by kernel_rfl) (by kernel_rfl) ?_
                repeat (go_big_quiet_step (first | (go_at_call 63; first | (with_reducible exact Calls.regrown_of (r1.out _)) | (with_reducible exact Calls.regrown_of (r2.out _))) | (go_at_call 62; exact Calls.regrown_of (withBelow (q0.out _)))))
                refine wpQuiet_nil ?_
                intro w1 hw'
                obtain ⟨⟨d0, d1, d2, d3⟩, ⟨g0, g1, g2, g3⟩, hb1⟩ := box8 (regrown_below hw')
                clear kb0 kb1 kb2 kb3 kc0 kc1 kc2 kc3 hw'
                go_wp2_with fail
                refine (r1.out _).mono ?_
                rintro e w2 ⟨rfl, hb2⟩
                have d0' := (hb2.cell (World.block_lt_of_cell? _ _ d0)).trans d0
                have d1' := (hb2.cell (World.block_lt_of_cell? _ _ d1)).trans d1
                have d2' := (hb2.cell (World.block_lt_of_cell? _ _ d2)).trans d2
                have d3' := (hb2.cell (World.block_lt_of_cell? _ _ d3)).trans d3
                have g0' := (hb2.cell (World.block_lt_of_cell? _ _ g0)).trans g0
                have g1' := (hb2.cell (World.block_lt_of_cell? _ _ g1)).trans g1
                have g2' := (hb2.cell (World.block_lt_of_cell? _ _ g2)).trans g2
                have g3' := (hb2.cell (World.block_lt_of_cell? _ _ g3)).trans g3
                have hb3 := hb1.trans (hb2.mono hb1.size)
                clear d0 d1 d2 d3 g0 g1 g2 g3
                go_wp2_with fail
                refine (q4.out _).mono ?_
                rintro e w' ⟨rfl, rfl⟩
                go_wp2_with fail
                refine (q3.out _).mono ?_
                rintro e w' ⟨rfl, rfl⟩
                go_wp2_with fail
                refine (q5.out _ hb3).mono ?_
                rintro e w' ⟨rfl, hb⟩
                go_wp2_with fail
                go_ret
                exact ⟨rfl, hb3.trans (hb.mono hb3.size)⟩
              · rw [lex_ne e2] at HR
                subst HR
                have e2' : (z3 == 0) = false := by simpa using e2
                clear q5
                obtain ⟨kb0, kb1, kb2, kb3, kc0, kc1, kc2, kc3⟩ := boxed8 w (.int .i64 2) (.int .i64 n) (.string s) (.slice A a.length c) (.int .i64 k') (.int .i64 n') (.string s') (.slice A' a'.length c') 24
                go_enter Try.func36, Try.ntmps36
                go_wp2_with fail
                refine wp_region_quiet_below (by kernel_rfl) (by kernel_rfl) ?_
                repeat (go_big_quiet_step (first | (go_at_call 63; first | (with_reducible exact Calls.regrown_of (r1.out _)) | (with_reducible exact Calls.regrown_of (r2.out _))) | (go_at_call 62; exact Calls.regrown_of (withBelow (q0.out _)))))
                refine wpQuiet_nil ?_
                intro w1 hw'
                obtain ⟨⟨d0, d1, d2, d3⟩, ⟨g0, g1, g2, g3⟩, hb1⟩ := box8 (regrown_below hw')
                clear kb0 kb1 kb2 kb3 kc0 kc1 kc2 kc3 hw'
                go_wp2_with fail
                refine (r1.out _).mono ?_
                rintro e w2 ⟨rfl, hb2⟩
                have d0' := (hb2.cell (World.block_lt_of_cell? _ _ d0)).trans d0
                have d1' := (hb2.cell (World.block_lt_of_cell? _ _ d1)).trans d1
                have d2' := (hb2.cell (World.block_lt_of_cell? _ _ d2)).trans d2
                have d3' := (hb2.cell (World.block_lt_of_cell? _ _ d3)).trans d3
                have g0' := (hb2.cell (World.block_lt_of_cell? _ _ g0)).trans g0
                have g1' := (hb2.cell (World.block_lt_of_cell? _ _ g1)).trans g1
                have g2' := (hb2.cell (World.block_lt_of_cell? _ _ g2)).trans g2
                have g3' := (hb2.cell (World.block_lt_of_cell? _ _ g3)).trans g3
                have hb3 := hb1.trans (hb2.mono hb1.size)
                clear d0 d1 d2 d3 g0 g1 g2 g3
                go_wp2_with fail
                refine (q4.out _).mono ?_
                rintro e w' ⟨rfl, rfl⟩
                go_wp2_with fail
                refine (q3.out _).mono ?_
                rintro e w' ⟨rfl, rfl⟩
                go_wp2_with fail
                go_ret
                exact ⟨rfl, hb3⟩
            · rw [lex_ne e1] at HR
              subst HR
              have e1' : (z4 == 0) = false := by simpa using e1
              clear q5 q3
              obtain ⟨kb0, kb1, kb2, kb3, kc0, kc1, kc2, kc3⟩ := boxed8 w (.int .i64 2) (.int .i64 n) (.string s) (.slice A a.length c) (.int .i64 k') (.int .i64 n') (.string s') (.slice A' a'.length c') 24
              go_enter Try.func36, Try.ntmps36
              go_wp2_with fail
              refine wp_region_quiet_below (by kernel_rfl) (by kernel_rfl) ?_
              repeat (go_big_quiet_step (first | (go_at_call 63; first | (with_reducible exact Calls.regrown_of (r1.out _)) | (with_reducible exact Calls.regrown_of (r2.out _))) | (go_at_call 62; exact Calls.regrown_of (withBelow (q0.out _)))))
              refine wpQuiet_nil ?_
              intro w1 hw'
              obtain ⟨⟨d0, d1, d2, d3⟩, ⟨g0, g1, g2, g3⟩, hb1⟩ := box8 (regrown_below hw')
              clear kb0 kb1 kb2 kb3 kc0 kc1 kc2 kc3 hw'
              go_wp2_with fail
              refine (r1.out _).mono ?_
              rintro e w2 ⟨rfl, hb2⟩
              have d0' := (hb2.cell (World.block_lt_of_cell? _ _ d0)).trans d0
              have d1' := (hb2.cell (World.block_lt_of_cell? _ _ d1)).trans d1
              have d2' := (hb2.cell (World.block_lt_of_cell? _ _ d2)).trans d2
              have d3' := (hb2.cell (World.block_lt_of_cell? _ _ d3)).trans d3
              have g0' := (hb2.cell (World.block_lt_of_cell? _ _ g0)).trans g0
              have g1' := (hb2.cell (World.block_lt_of_cell? _ _ g1)).trans g1
              have g2' := (hb2.cell (World.block_lt_of_cell? _ _ g2)).trans g2
              have g3' := (hb2.cell (World.block_lt_of_cell? _ _ g3)).trans g3
              have hb3 := hb1.trans (hb2.mono hb1.size)
              clear d0 d1 d2 d3 g0 g1 g2 g3
              go_wp2_with fail
              refine (q4.out _).mono ?_
              rintro e w' ⟨rfl, rfl⟩
              go_wp2_with fail
              go_ret
              exact ⟨rfl, hb3⟩
          · rw [if_neg k2] at HR
            obtain rfl : j = 3 := by rw [← hj]; simp [cls, k1, k0, k2]
            clear hj q4 q5 k1 k0 k2
            by_cases e1 : z2 = 0
            · subst e1
              rw [lex_zero] at HR
              by_cases e2 : z1 = 0
              · subst e2
                rw [lex_zero] at HR
                subst HR
                obtain ⟨kb0, kb1, kb2, kb3, kc0, kc1, kc2, kc3⟩ := boxed8 w (.int .i64 k) (.int .i64 n) (.string s) (.slice A a.length c) (.int .i64 k') (.int .i64 n') (.string s') (.slice A' a'.length c') 24
                go_enter Try.func36, Try.ntmps36
                go_wp2_with fail
                refine wp_region_quiet_below (by kernel_rfl) (by kernel_rfl) ?_
                repeat (go_big_quiet_step (first | (go_at_call 63; first | (with_reducible exact Calls.regrown_of (r1.out _)) | (with_reducible exact Calls.regrown_of (r2.out _))) | (go_at_call 62; exact Calls.regrown_of (withBelow (q0.out _)))))
                refine wpQuiet_nil ?_
                intro w1 hw'
                obtain ⟨⟨d0, d1, d2, d3⟩, ⟨g0, g1, g2, g3⟩, hb1⟩ := box8 (regrown_below hw')
                clear kb0 kb1 kb2 kb3 kc0 kc1 kc2 kc3 hw'
                go_wp2_with fail
                refine (r1.out _).mono ?_
                rintro e w2 ⟨rfl, hb2⟩
                have d0' := (hb2.cell (World.block_lt_of_cell? _ _ d0)).trans d0
                have d1' := (hb2.cell (World.block_lt_of_cell? _ _ d1)).trans d1
                have d2' := (hb2.cell (World.block_lt_of_cell? _ _ d2)).trans d2
                have d3' := (hb2.cell (World.block_lt_of_cell? _ _ d3)).trans d3
                have g0' := (hb2.cell (World.block_lt_of_cell? _ _ g0)).trans g0
                have g1' := (hb2.cell (World.block_lt_of_cell? _ _ g1)).trans g1
                have g2' := (hb2.cell (World.block_lt_of_cell? _ _ g2)).trans g2
                have g3' := (hb2.cell (World.block_lt_of_cell? _ _ g3)).trans g3
                have hb3 := hb1.trans (hb2.mono hb1.size)
                clear d0 d1 d2 d3 g0 g1 g2 g3
                go_wp2_with fail
                refine (q2.out _).mono ?_
                rintro e w' ⟨rfl, rfl⟩
                go_wp2_with fail
                refine (q1.out _).mono ?_
                rintro e w' ⟨rfl, rfl⟩
                go_wp2_with fail
                refine (q3.out _).mono ?_
                rintro e w' ⟨rfl, rfl⟩
                go_wp2_with fail
                go_ret
                exact ⟨rfl, hb3⟩
              · rw [lex_ne e2] at HR
                subst HR
                have e2' : (z1 == 0) = false := by simpa using e2
                clear q3
                obtain ⟨kb0, kb1, kb2, kb3, kc0, kc1, kc2, kc3⟩ := boxed8 w (.int .i64 k) (.int .i64 n) (.string s) (.slice A a.length c) (.int .i64 k') (.int .i64 n') (.string s') (.slice A' a'.length c') 24
                go_enter Try.func36, Try.ntmps36
                go_wp2_with fail
                refine wp_region_quiet_below (by kernel_rfl) (by kernel_rfl) ?_
                repeat (go_big_quiet_step (first | (go_at_call 63; first | (with_reducible exact Calls.regrown_of (r1.out _)) | (with_reducible exact Calls.regrown_of (r2.out _))) | (go_at_call 62; exact Calls.regrown_of (withBelow (q0.out _)))))
                refine wpQuiet_nil ?_
                intro w1 hw'
                obtain ⟨⟨d0, d1, d2, d3⟩, ⟨g0, g1, g2, g3⟩, hb1⟩ := box8 (regrown_below hw')
                clear kb0 kb1 kb2 kb3 kc0 kc1 kc2 kc3 hw'
                go_wp2_with fail
                refine (r1.out _).mono ?_
                rintro e w2 ⟨rfl, hb2⟩
                have d0' := (hb2.cell (World.block_lt_of_cell? _ _ d0)).trans d0
                have d1' := (hb2.cell (World.block_lt_of_cell? _ _ d1)).trans d1
                have d2' := (hb2.cell (World.block_lt_of_cell? _ _ d2)).trans d2
                have d3' := (hb2.cell (World.block_lt_of_cell? _ _ d3)).trans d3
                have g0' := (hb2.cell (World.block_lt_of_cell? _ _ g0)).trans g0
                have g1' := (hb2.cell (World.block_lt_of_cell? _ _ g1)).trans g1
                have g2' := (hb2.cell (World.block_lt_of_cell? _ _ g2)).trans g2
                have g3' := (hb2.cell (World.block_lt_of_cell? _ _ g3)).trans g3
                have hb3 := hb1.trans (hb2.mono hb1.size)
                clear d0 d1 d2 d3 g0 g1 g2 g3
                go_wp2_with fail
                refine (q2.out _).mono ?_
                rintro e w' ⟨rfl, rfl⟩
                go_wp2_with fail
                refine (q1.out _).mono ?_
                rintro e w' ⟨rfl, rfl⟩
                go_wp2_with fail
                go_ret
                exact ⟨rfl, hb3⟩
            · rw [lex_ne e1] at HR
              subst HR
              have e1' : (z2 == 0) = false := by simpa using e1
              clear q3 q1
              obtain ⟨kb0, kb1, kb2, kb3, kc0, kc1, kc2, kc3⟩ := boxed8 w (.int .i64 k) (.int .i64 n) (.string s) (.slice A a.length c) (.int .i64 k') (.int .i64 n') (.string s') (.slice A' a'.length c') 24
              go_enter Try.func36, Try.ntmps36
              go_wp2_with fail
              refine wp_region_quiet_below (by kernel_rfl) (by kernel_rfl) ?_
              repeat (go_big_quiet_step (first | (go_at_call 63; first | (with_reducible exact Calls.regrown_of (r1.out _)) | (with_reducible exact Calls.regrown_of (r2.out _))) | (go_at_call 62; exact Calls.regrown_of (withBelow (q0.out _)))))
              refine wpQuiet_nil ?_
              intro w1 hw'
              obtain ⟨⟨d0, d1, d2, d3⟩, ⟨g0, g1, g2, g3⟩, hb1⟩ := box8 (regrown_below hw')
              clear kb0 kb1 kb2 kb3 kc0 kc1 kc2 kc3 hw'
              go_wp2_with fail
              refine (r1.out _).mono ?_
              rintro e w2 ⟨rfl, hb2⟩
              have d0' := (hb2.cell (World.block_lt_of_cell? _ _ d0)).trans d0
              have d1' := (hb2.cell (World.block_lt_of_cell? _ _ d1)).trans d1
              have d2' := (hb2.cell (World.block_lt_of_cell? _ _ d2)).trans d2
              have d3' := (hb2.cell (World.block_lt_of_cell? _ _ d3)).trans d3
              have g0' := (hb2.cell (World.block_lt_of_cell? _ _ g0)).trans g0
              have g1' := (hb2.cell (World.block_lt_of_cell? _ _ g1)).trans g1
              have g2' := (hb2.cell (World.block_lt_of_cell? _ _ g2)).trans g2
              have g3' := (hb2.cell (World.block_lt_of_cell? _ _ g3)).trans g3
              have hb3 := hb1.trans (hb2.mono hb1.size)
              clear d0 d1 d2 d3 g0 g1 g2 g3
              go_wp2_with fail
              refine (q2.out _).mono ?_
              rintro e w' ⟨rfl, rfl⟩
              go_wp2_with fail
              go_ret
              exact ⟨rfl, hb3⟩
    · rw [lex_ne e0] at HR
      subst HR
      have e0' : (z0 != 0) = true := by simpa using e0
      clear hj q1 q2 q3 q4 q5
      obtain ⟨kb0, kb1, kb2, kb3, kc0, kc1, kc2, kc3⟩ := boxed8 w (.int .i64 k) (.int .i64 n) (.string s) (.slice A a.length c) (.int .i64 k') (.int .i64 n') (.string s') (.slice A' a'.length c') 24
      go_enter Try.func36, Try.ntmps36
      go_wp2_with fail
      refine wp_region_quiet_below (by kernel_rfl) (by kernel_rfl) ?_
      repeat (go_big_quiet_step (first | (go_at_call 63; first | (with_reducible exact Calls.regrown_of (r1.out _)) | (with_reducible exact Calls.regrown_of (r2.out _))) | (go_at_call 62; exact Calls.regrown_of (withBelow (q0.out _)))))
      refine wpQuiet_nil ?_
      intro w1 hw'
      obtain ⟨⟨d0, d1, d2, d3⟩, ⟨g0, g1, g2, g3⟩, hb1⟩ := box8 (regrown_below hw')
      clear kb0 kb1 kb2 kb3 kc0 kc1 kc2 kc3 hw'
      go_wp2_with fail
      go_ret
      exact ⟨rfl, hb1⟩

theorem ref_same_at (t u : Tm) (w : World) (ht : t.At w) (hu : u.At w) {r : Bool} (hr : (cmpT t u == 0) = r) :
    Calls Try.prog 11 #[t.val, u.val] w fun e w' => e = .returned (.bool r) ∧ Below w.heap.size w w' := by
  have Q := Lib.hid (fun W (h : Below w.heap.size w W) => ref_compare_at t u W (ht.below h) (hu.below h))
  generalize cmpT t u = z at *
  obtain ⟨k, n, s, A, c, a⟩ := t
  obtain ⟨k', n', s', A', c', a'⟩ := u
  show Calls Try.prog 11 #[.agg #[.int .i64 k, .int .i64 n, .string s, .slice A a.length c], .agg #[.int .i64 k', .int .i64 n', .string s', .slice A' a'.length c']] w _
  have HR := Lib.hid hr
  clear hr ht hu
  go_enter Try.func11, Try.ntmps11
  go_wp2_with fail
  refine (Q.out _ (below2 _ _ _)).mono ?_
  rintro e w' ⟨rfl, hb⟩
  go_wp2_with fail
  go_ret
  exact ⟨by rw [← HR.out]; rfl, (below2 _ _ _).trans (hb.mono (by simp; omega))⟩
theorem same_terms_at (l m : List Tm) (A B : Option Addr) (c d : Nat) (w : World) (hl : Lst w A l c) (hm : Lst w B m d) {r : Bool} (hr : (cmpL l m == 0) = r) :
    Calls Try.prog 21 #[.slice A l.length c, .slice B m.length d] w fun e w' => e = .returned (.bool r) ∧ Below w.heap.size w w' := by
  have Q := Lib.hid (ref_lists_at l m (fun x _ => ref_compare_at x) A B c d w hl hm)
  generalize cmpL l m = z at *
  have HR := Lib.hid hr
  clear hr
  go_enter Try.func21, Try.ntmps21
  go_wp2_with fail
  refine (Q.out).mono ?_
  rintro e w' ⟨rfl, hb⟩
  go_wp2_with fail
  go_ret
  exact ⟨by rw [← HR.out]; rfl, hb⟩
end Go.Proofs.Ytpnjjahimhhjkaa
