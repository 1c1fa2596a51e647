/-
  TmRefOrd.
  TmOpen.
  TmStrip.
  SuPlain.
  TmKeep.
  SuMem.
-/
import Derived.Test.YtgpglgehlnfggaaGreatMe4
import Derived.Test.YtgpglgehlnfggaaGreatMe1
import Derived.Test.YtgpglgehlnfggaaGreatMe3
import Derived.Test.YtgpglgehlnfggaaGreatMe2
import Derived.Test.YtgpglgehlnfggaaGreatProg
namespace Go.Proofs.YtgpglgehlnfggaaGreat
open Go.RowKit Go.Sort
def RefCmpAt (x : Tm) : Prop := ∀ (u : Tm) (w : World), x.At w → u.At w → Calls Tryz.prog 69 #[x.val, u.val] w fun e w' => e = .returned (.int .i64 (cmpT x u)) ∧ Below w.heap.size w w'
set_option maxHeartbeats 1000000 in
theorem ref_lists_at (l m : List Tm) (ih : ∀ x ∈ l, RefCmpAt x) (A B : Option Addr) (c d : Nat) (w : World) (hl : Lst w A l c) (hm : Lst w B m d) :
    Calls Tryz.prog 105 #[.slice A l.length c, .slice B m.length d] w fun e w' => e = .returned (.int .i64 (cmpL l m)) ∧ Below w.heap.size w w' := by
  have hlen : l.length ≤ 9223372036854775807 := by have := hl.1; have := hl.2.1; unfold maxLen at *; omega
  have hlen' : m.length ≤ 9223372036854775807 := by have := hm.1; have := hm.2.1; unfold maxLen at *; omega
  have QI := Lib.hid ih
  obtain ⟨zl, hzl⟩ : ∃ z, ints l.length m.length = z := ⟨_, rfl⟩
  have ql := Lib.hid (fun W => ref_ints_at (l.length : Int) (m.length : Int) W hzl)
  have HZL := Lib.hid hzl
  clear ih hzl
  go_enter Tryz.func105, Tryz.ntmps105
  go_wp2_with fail
  go_loopw [5] (fun i wr => ∃ j : Nat, j ≤ l.length ∧ j ≤ m.length ∧ i = .int .i64 j ∧ Hid (cmpL (l.take j) (m.take j) = 0) ∧ Below w.heap.size w wr) (fun i _ => l.length - (intOf i).toNat)
  case atStart => exact ⟨0, Nat.zero_le _, Nat.zero_le _, rfl, Lib.hid rfl, Below.refl _ _⟩
  case round =>
    obtain ⟨j, hj, hjm, rfl, HF, hb⟩ := hrel
    by_cases hlt : j < l.length
    · by_cases hlt' : j < m.length
      · obtain ⟨b, o, rfl, ⟨c0, c1, c2, c3⟩, hx⟩ := (hl.below hb).get hlt
        obtain ⟨b', o', rfl, ⟨g0, g1, g2, g3⟩, hy⟩ := (hm.below hb).get hlt'
        have hmem := getD_mem hlt
        have HN := Lib.hid (cmpL_next hlt hlt' HF.out)
        have HS := Lib.hid (fun h => cmpL_stop hlt hlt' HF.out h)
        generalize l.getD j default = x at *
        generalize m.getD j default = y at *
        have Q1 := Lib.hid (fun W (h : Below wr.heap.size wr W) => QI.out x hmem y W (hx.below h) (hy.below h))
        clear hx hy QI hmem
        obtain ⟨z, hz⟩ : ∃ z, cmpT x y = z := ⟨_, rfl⟩
        rw [hz] at HN HS Q1
        clear hz
        obtain ⟨k1, n1, s1, A1, p1, a1⟩ := x
        obtain ⟨k2, n2, s2, A2, p2, a2⟩ := y
        simp only [Tm.kind, Tm.num, Tm.name, Tm.at_, Tm.args, Tm.cap] at c0 c1 c2 c3 g0 g1 g2 g3
        have kc0 := cell_regrown c0
        have kc1 := cell_regrown c1
        have kc2 := cell_regrown c2
        have kc3 := cell_regrown c3
        have kg0 := cell_regrown g0
        have kg1 := cell_regrown g1
        have kg2 := cell_regrown g2
        have kg3 := cell_regrown g3
        go_wp2_with fail
        refine wp_region_quiet_below (by kernel_rfl) (by kernel_rfl) ?_
        repeat (go_big_quiet_step ((go_at_call 69; exact Calls.regrown_of (Q1.out _ (below_regrown _ _ _)))))
        refine wpQuiet_nil ?_
        intro w1 hw'
        have hb4 := hb.trans ((regrown_below hw').mono hb.size)
        clear kc0 kc1 kc2 kc3 kg0 kg1 kg2 kg3 hw'
        by_cases hz : z = 0
        · subst hz
          go_wp2_with fail
          go_roundw
          case rel => exact ⟨j + 1, by omega, by omega, by go_num, HN, hb4⟩
          case measure => simp [intOf]; omega
        · have hz' : (z != 0) = true := by simpa using hz
          have HE := Lib.hid (HS.out hz)
          clear HS HN
          go_wp2_with fail
          go_ret
          exact ⟨by rw [HE.out]; rfl, hb4⟩
      · have HE := Lib.hid (show cmpL l m = zl by rw [cmpL_end (.inr (by omega)) hj hjm HF.out, HZL.out])
        go_wp2_with fail
        refine (ql.out _).mono ?_
        rintro e w' ⟨rfl, rfl⟩
        go_wp2_with fail
        go_ret
        exact ⟨by rw [HE.out]; rfl, hb⟩
    · have HE := Lib.hid (show cmpL l m = zl by rw [cmpL_end (.inl (by omega)) hj hjm HF.out, HZL.out])
      go_wp2_with fail
      refine (ql.out _).mono ?_
      rintro e w' ⟨rfl, rfl⟩
      go_wp2_with fail
      go_ret
      exact ⟨by rw [HE.out]; rfl, hb⟩
set_option maxHeartbeats 2000000 in
theorem ref_compare_at (t : Tm) : RefCmpAt t := by
  induction t using Tm.induct with
  | h k n s A c a ih =>
    intro u w ht hu
    have hl : Lst w A a c := ht.lst
    have hm := hu.lst
    obtain ⟨k', n', s', A', c', a'⟩ := u
    simp only [Tm.args, Tm.at_, Tm.cap] at hm
    have hlen : a.length ≤ 9223372036854775807 := by have := hl.1; have := hl.2.1; unfold maxLen at *; omega
    have hlen' : a'.length ≤ 9223372036854775807 := by have := hm.1; have := hm.2.1; unfold maxLen at *; omega
    have q5 := Lib.hid (fun W (h : Below w.heap.size w W) => ref_lists_at a a' ih A A' c c' W (hl.below h) (hm.below h))
    clear ih ht hu hl hm
    show Calls Tryz.prog 69 #[.agg #[.int .i64 k, .int .i64 n, .string s, .slice A a.length c], .agg #[.int .i64 k', .int .i64 n', .string s', .slice A' a'.length c']] w _
    obtain ⟨j, hj⟩ : ∃ z, cls k = z := ⟨_, rfl⟩
    obtain ⟨j', hj'⟩ : ∃ z, cls k' = z := ⟨_, rfl⟩
    obtain ⟨z0, h0⟩ : ∃ z, ints j j' = z := ⟨_, rfl⟩
    obtain ⟨z1, h1⟩ : ∃ z, ints n n' = z := ⟨_, rfl⟩
    obtain ⟨z2, h2⟩ : ∃ z, ints k k' = z := ⟨_, rfl⟩
    obtain ⟨z3, h3⟩ : ∃ z, texts s.data.toList s'.data.toList = z := ⟨_, rfl⟩
    obtain ⟨z4, h4⟩ : ∃ z, ints a.length a'.length = z := ⟨_, rfl⟩
    obtain ⟨z5, h5⟩ : ∃ z, cmpL a a' = z := ⟨_, rfl⟩
    have r1 := Lib.hid (show ∀ W, Calls Tryz.prog 103 #[.agg #[.int .i64 k, .int .i64 n, .string s, .slice A a.length c]] W fun e w' => e = .returned (.int .i64 j) ∧ Below W.heap.size W w' from fun W => class_at (.mk k n s A c a) W hj)
    have r2 := Lib.hid (show ∀ W, Calls Tryz.prog 103 #[.agg #[.int .i64 k', .int .i64 n', .string s', .slice A' a'.length c']] W fun e w' => e = .returned (.int .i64 j') ∧ Below W.heap.size W w' from fun W => class_at (.mk k' n' s' A' c' a') W hj')
    have q0 := Lib.hid (fun W => ref_ints_at j j' W h0)
    have q1 := Lib.hid (fun W => ref_ints_at n n' W h1)
    have q2 := Lib.hid (fun W => ref_ints_at k k' W h2)
    have q3 := Lib.hid (fun W => ref_texts_at s s' W h3)
    have q4 := Lib.hid (fun W => ref_ints_at (a.length : Int) (a'.length : Int) W h4)
    rw [h5] at q5
    obtain ⟨R, hR⟩ : ∃ z, cmpT (.mk k n s A c a) (.mk k' n' s' A' c' a') = z := ⟨_, rfl⟩
    have HR := hR
    simp only [cmpT, Tm.kind, Tm.num, Tm.name, Tm.args] at HR
    rw [hj, hj', h0, h1, h2, h3, h4, h5] at HR
    rw [hR]
    clear hR h0 h1 h2 h3 h4 h5 hj'
    by_cases e0 : z0 = 0
    · subst e0
      rw [lex_zero] at HR
      by_cases k1 : k = 1
      · subst k1
        obtain rfl : j = 0 := by rw [← hj]; simp [cls]
        rw [if_pos (.inl rfl)] at HR
        subst HR
        clear hj q2 q3 q4 q5
        obtain ⟨kb0, kb1, kb2, kb3, kc0, kc1, kc2, kc3⟩ := boxed8 w (.int .i64 1) (.int .i64 n) (.string s) (.slice A a.length c) (.int .i64 k') (.int .i64 n') (.string s') (.slice A' a'.length c') 40
        go_enter Tryz.func69, Tryz.ntmps69
        go_wp2_with fail
        refine wp_region_quiet_below (by kernel_rfl) (by kernel_rfl) ?_
        repeat (go_big_quiet_step (first | (go_at_call 103; first | (with_reducible exact Calls.regrown_of (r1.out _)) | (with_reducible exact Calls.regrown_of (r2.out _))) | (go_at_call 102; exact Calls.regrown_of (withBelow (q0.out _)))))
        refine wpQuiet_nil ?_
        intro w1 hw'
        obtain ⟨⟨d0, d1, d2, d3⟩, ⟨g0, g1, g2, g3⟩, hb1⟩ := box8 (regrown_below hw')
        clear kb0 kb1 kb2 kb3 kc0 kc1 kc2 kc3 hw'
        go_wp2_with fail
        refine (r1.out _).mono ?_
        rintro e w2 ⟨rfl, hb2⟩
        have d0' := (hb2.cell (World.block_lt_of_cell? _ _ d0)).trans d0
        have d1' := (hb2.cell (World.block_lt_of_cell? _ _ d1)).trans d1
        have d2' := (hb2.cell (World.block_lt_of_cell? _ _ d2)).trans d2
        have d3' := (hb2.cell (World.block_lt_of_cell? _ _ d3)).trans d3
        have g0' := (hb2.cell (World.block_lt_of_cell? _ _ g0)).trans g0
        have g1' := (hb2.cell (World.block_lt_of_cell? _ _ g1)).trans g1
        have g2' := (hb2.cell (World.block_lt_of_cell? _ _ g2)).trans g2
        have g3' := (hb2.cell (World.block_lt_of_cell? _ _ g3)).trans g3
        have hb3 := hb1.trans (hb2.mono hb1.size)
        clear d0 d1 d2 d3 g0 g1 g2 g3
        go_wp2_with fail
        refine (q1.out _).mono ?_
        rintro e w' ⟨rfl, rfl⟩
        go_wp2_with fail
        go_ret
        exact ⟨rfl, hb3⟩
      · by_cases k0 : k = 0
        · subst k0
          obtain rfl : j = 1 := by rw [← hj]; simp [cls]
          rw [if_pos (.inr rfl)] at HR
          subst HR
          clear hj q2 q3 q4 q5
          obtain ⟨kb0, kb1, kb2, kb3, kc0, kc1, kc2, kc3⟩ := boxed8 w (.int .i64 0) (.int .i64 n) (.string s) (.slice A a.length c) (.int .i64 k') (.int .i64 n') (.string s') (.slice A' a'.length c') 40
          go_enter Tryz.func69, Tryz.ntmps69
          go_wp2_with fail
          refine wp_region_quiet_below (by kernel_rfl) (by kernel_rfl) ?_
          repeat (go_big_quiet_step (first | (go_at_call 103; first | (with_reducible exact Calls.regrown_of (r1.out _)) | (with_reducible exact Calls.regrown_of (r2.out _))) | (go_at_call 102; exact Calls.regrown_of (withBelow (q0.out _)))))
          refine wpQuiet_nil ?_
          intro w1 hw'
          obtain ⟨⟨d0, d1, d2, d3⟩, ⟨g0, g1, g2, g3⟩, hb1⟩ := box8 (regrown_below hw')
          clear kb0 kb1 kb2 kb3 kc0 kc1 kc2 kc3 hw'
          go_wp2_with fail
          refine (r1.out _).mono ?_
          rintro e w2 ⟨rfl, hb2⟩
          have d0' := (hb2.cell (World.block_lt_of_cell? _ _ d0)).trans d0
          have d1' := (hb2.cell (World.block_lt_of_cell? _ _ d1)).trans d1
          have d2' := (hb2.cell (World.block_lt_of_cell? _ _ d2)).trans d2
          have d3' := (hb2.cell (World.block_lt_of_cell? _ _ d3)).trans d3
          have g0' := (hb2.cell (World.block_lt_of_cell? _ _ g0)).trans g0
          have g1' := (hb2.cell (World.block_lt_of_cell? _ _ g1)).trans g1
          have g2' := (hb2.cell (World.block_lt_of_cell? _ _ g2)).trans g2
          have g3' := (hb2.cell (World.block_lt_of_cell? _ _ g3)).trans g3
          have hb3 := hb1.trans (hb2.mono hb1.size)
          clear d0 d1 d2 d3 g0 g1 g2 g3
          go_wp2_with fail
          refine (q1.out _).mono ?_
          rintro e w' ⟨rfl, rfl⟩
          go_wp2_with fail
          go_ret
          exact ⟨rfl, hb3⟩
        · rw [if_neg (by omega)] at HR
          by_cases k2 : k = 2
          · subst k2
            obtain rfl : j = 2 := by rw [← hj]; simp [cls]
            rw [if_pos rfl] at HR
            clear hj q1 q2 k1 k0
            by_cases e1 : z4 = 0
            · subst e1
              rw [lex_zero] at HR
              by_cases e2 : z3 = 0
              · subst e2
                rw [lex_zero] at HR
                subst HR
                obtain ⟨kb0, kb1, kb2, kb3, kc0, kc1, kc2, kc3⟩ := boxed8 w (.int .i64 2) (.int .i64 n) (.string s) (.slice A a.length c) (.int .i64 k') (.int .i64 n') (.string s') (.slice A' a'.length c') 40
                go_enter Tryz.func69, Tryz.ntmps69
                go_wp2_with fail
                refine wp_region_quiet_below (by kernel_rfl) (by kernel_rfl) ?_
                repeat (go_big_quiet_step (first | (go_at_call 103; first | (with_reducible exact Calls.regrown_of (r1.out _)) | (with_reducible exact Calls.regrown_of (r2.out _))) | (go_at_call 102; exact Calls.regrown_of (withBelow (q0.out _)))))
                refine wpQuiet_nil ?_
                intro w1 hw'
                obtain ⟨⟨d0, d1, d2, d3⟩, ⟨g0, g1, g2, g3⟩, hb1⟩ := box8 (regrown_below hw')
                clear kb0 kb1 kb2 kb3 kc0 kc1 kc2 kc3 hw'
                go_wp2_with fail
                refine (r1.out _).mono ?_
                rintro e w2 ⟨rfl, hb2⟩
                have d0' := (hb2.cell (World.block_lt_of_cell? _ _ d0)).trans d0
                have d1' := (hb2.cell (World.block_lt_of_cell? _ _ d1)).trans d1
                have d2' := (hb2.cell (World.block_lt_of_cell? _ _ d2)).trans d2
                have d3' := (hb2.cell (World.block_lt_of_cell? _ _ d3)).trans d3
                have g0' := (hb2.cell (World.block_lt_of_cell? _ _ g0)).trans g0
                have g1' := (hb2.cell (World.block_lt_of_cell? _ _ g1)).trans g1
                have g2' := (hb2.cell (World.block_lt_of_cell? _ _ g2)).trans g2
                have g3' := (hb2.cell (World.block_lt_of_cell? _ _ g3)).trans g3
                have hb3 := hb1.trans (hb2.mono hb1.size)
                clear d0 d1 d2 d3 g0 g1 g2 g3
                go_wp2_with fail
                refine (q4.out _).mono ?_
                rintro e w' ⟨rfl, rfl⟩
                go_wp2_with fail
                refine (q3.out _).mono ?_
                rintro e w' ⟨rfl, rfl⟩
                go_wp2_with fail
                refine (q5.out _ hb3).mono ?_
                rintro e w' ⟨rfl, hb⟩
                go_wp2_with fail
                go_ret
                exact ⟨rfl, hb3.trans (hb.mono hb3.size)⟩
              · rw [lex_ne e2] at HR
                subst HR
                have e2' : (z3 == 0) = false := by simpa using e2
                clear q5
                obtain ⟨kb0, kb1, kb2, kb3, kc0, kc1, kc2, kc3⟩ := boxed8 w (.int .i64 2) (.int .i64 n) (.string s) (.slice A a.length c) (.int .i64 k') (.int .i64 n') (.string s') (.slice A' a'.length c') 40
                go_enter Tryz.func69, Tryz.ntmps69
                go_wp2_with fail
                refine wp_region_quiet_below (by kernel_rfl) (by kernel_rfl) ?_
                repeat (go_big_quiet_step (first | (go_at_call 103; first | (with_reducible exact Calls.regrown_of (r1.out _)) | (with_reducible exact Calls.regrown_of (r2.out _))) | (go_at_call 102; exact Calls.regrown_of (withBelow (q0.out _)))))
                refine wpQuiet_nil ?_
                intro w1 hw'
                obtain ⟨⟨d0, d1, d2, d3⟩, ⟨g0, g1, g2, g3⟩, hb1⟩ := box8 (regrown_below hw')
                clear kb0 kb1 kb2 kb3 kc0 kc1 kc2 kc3 hw'
                go_wp2_with fail
                refine (r1.out _).mono ?_
                rintro e w2 ⟨rfl, hb2⟩
                have d0' := (hb2.cell (World.block_lt_of_cell? _ _ d0)).trans d0
                have d1' := (hb2.cell (World.block_lt_of_cell? _ _ d1)).trans d1
                have d2' := (hb2.cell (World.block_lt_of_cell? _ _ d2)).trans d2
                have d3' := (hb2.cell (World.block_lt_of_cell? _ _ d3)).trans d3
                have g0' := (hb2.cell (World.block_lt_of_cell? _ _ g0)).trans g0
                have g1' := (hb2.cell (World.block_lt_of_cell? _ _ g1)).trans g1
                have g2' := (hb2.cell (World.block_lt_of_cell? _ _ g2)).trans g2
                have g3' := (hb2.cell (World.block_lt_of_cell? _ _ g3)).trans g3
                have hb3 := hb1.trans (hb2.mono hb1.size)
                clear d0 d1 d2 d3 g0 g1 g2 g3
                go_wp2_with fail
                refine (q4.out _).mono ?_
                rintro e w' ⟨rfl, rfl⟩
                go_wp2_with fail
                refine (q3.out _).mono ?_
                rintro e w' ⟨rfl, rfl⟩
                go_wp2_with fail
                go_ret
                exact ⟨rfl, hb3⟩
            · rw [lex_ne e1] at HR
              subst HR
              have e1' : (z4 == 0) = false := by simpa using e1
              clear q5 q3
              obtain ⟨kb0, kb1, kb2, kb3, kc0, kc1, kc2, kc3⟩ := boxed8 w (.int .i64 2) (.int .i64 n) (.string s) (.slice A a.length c) (.int .i64 k') (.int .i64 n') (.string s') (.slice A' a'.length c') 40
              go_enter Tryz.func69, Tryz.ntmps69
              go_wp2_with fail
              refine wp_region_quiet_below (by kernel_rfl) (by kernel_rfl) ?_
              repeat (go_big_quiet_step (first | (go_at_call 103; first | (with_reducible exact Calls.regrown_of (r1.out _)) | (with_reducible exact Calls.regrown_of (r2.out _))) | (go_at_call 102; exact Calls.regrown_of (withBelow (q0.out _)))))
              refine wpQuiet_nil ?_
              intro w1 hw'
              obtain ⟨⟨d0, d1, d2, d3⟩, ⟨g0, g1, g2, g3⟩, hb1⟩ := box8 (regrown_below hw')
              clear kb0 kb1 kb2 kb3 kc0 kc1 kc2 kc3 hw'
              go_wp2_with fail
              refine (r1.out _).mono ?_
              rintro e w2 ⟨rfl, hb2⟩
              have d0' := (hb2.cell (World.block_lt_of_cell? _ _ d0)).trans d0
              have d1' := (hb2.cell (World.block_lt_of_cell? _ _ d1)).trans d1
              have d2' := (hb2.cell (World.block_lt_of_cell? _ _ d2)).trans d2
              have d3' := (hb2.cell (World.block_lt_of_cell? _ _ d3)).trans d3
              have g0' := (hb2.cell (World.block_lt_of_cell? _ _ g0)).trans g0
              have g1' := (hb2.cell (World.block_lt_of_cell? _ _ g1)).trans g1
              have g2' := (hb2.cell (World.block_lt_of_cell? _ _ g2)).trans g2
              have g3' := (hb2.cell (World.block_lt_of_cell? _ _ g3)).trans g3
              have hb3 := hb1.trans (hb2.mono hb1.size)
              clear d0 d1 d2 d3 g0 g1 g2 g3
              go_wp2_with fail
              refine (q4.out _).mono ?_
              rintro e w' ⟨rfl, rfl⟩
              go_wp2_with fail
              go_ret
              exact ⟨rfl, hb3⟩
          · rw [if_neg k2] at HR
            obtain rfl : j = 3 := by rw [← hj]; simp [cls, k1, k0, k2]
            clear hj q4 q5 k1 k0 k2
            by_cases e1 : z2 = 0
            · subst e1
              rw [lex_zero] at HR
              by_cases e2 : z1 = 0
              · subst e2
                rw [lex_zero] at HR
                subst HR
                obtain ⟨kb0, kb1, kb2, kb3, kc0, kc1, kc2, kc3⟩ := boxed8 w (.int .i64 k) (.int .i64 n) (.string s) (.slice A a.length c) (.int .i64 k') (.int .i64 n') (.string s') (.slice A' a'.length c') 40
                go_enter Tryz.func69, Tryz.ntmps69
                go_wp2_with fail
                refine wp_region_quiet_below (by kernel_rfl) (by kernel_rfl) ?_
                repeat (go_big_quiet_step (first | (go_at_call 103; first | (with_reducible exact Calls.regrown_of (r1.out _)) | (with_reducible exact Calls.regrown_of (r2.out _))) | (go_at_call 102; exact Calls.regrown_of (withBelow (q0.out _)))))
                refine wpQuiet_nil ?_
                intro w1 hw'
                obtain ⟨⟨d0, d1, d2, d3⟩, ⟨g0, g1, g2, g3⟩, hb1⟩ := box8 (regrown_below hw')
                clear kb0 kb1 kb2 kb3 kc0 kc1 kc2 kc3 hw'
                go_wp2_with fail
                refine (r1.out _).mono ?_
                rintro e w2 ⟨rfl, hb2⟩
                have d0' := (hb2.cell (World.block_lt_of_cell? _ _ d0)).trans d0
                have d1' := (hb2.cell (World.block_lt_of_cell? _ _ d1)).trans d1
                have d2' := (hb2.cell (World.block_lt_of_cell? _ _ d2)).trans d2
                have d3' := (hb2.cell (World.block_lt_of_cell? _ _ d3)).trans d3
                have g0' := (hb2.cell (World.block_lt_of_cell? _ _ g0)).trans g0
                have g1' := (hb2.cell (World.block_lt_of_cell? _ _ g1)).trans g1
                have g2' := (hb2.cell (World.block_lt_of_cell? _ _ g2)).trans g2
                have g3' := (hb2.cell (World.block_lt_of_cell? _ _ g3)).trans g3
                have hb3 := hb1.trans (hb2.mono hb1.size)
                clear d0 d1 d2 d3 g0 g1 g2 g3
                go_wp2_with fail
                refine (q2.out _).mono ?_
                rintro e w' ⟨rfl, rfl⟩
                go_wp2_with fail
                refine (q1.out _).mono ?_
                rintro e w' ⟨rfl, rfl⟩
                go_wp2_with fail
                refine (q3.out _).mono ?_
                rintro e w' ⟨rfl, rfl⟩
                go_wp2_with fail
                go_ret
                exact ⟨rfl, hb3⟩
              · rw [lex_ne e2] at HR
                subst HR
                have e2' : (z1 == 0) = false := by simpa using e2
                clear q3
                obtain ⟨kb0, kb1, kb2, kb3, kc0, kc1, kc2, kc3⟩ := boxed8 w (.int .i64 k) (.int .i64 n) (.string s) (.slice A a.length c) (.int .i64 k') (.int .i64 n') (.string s') (.slice A' a'.length c') 40
                go_enter Tryz.func69, Tryz.ntmps69
                go_wp2_with fail
                refine wp_region_quiet_below (by kernel_rfl) (by kernel_rfl) ?_
                repeat (go_big_quiet_step (first | (go_at_call 103; first | (with_reducible exact Calls.regrown_of (r1.out _)) | (with_reducible exact Calls.regrown_of (r2.out _))) | (go_at_call 102; exact Calls.regrown_of (withBelow (q0.out _)))))
                refine wpQuiet_nil ?_
                intro w1 hw'
                obtain ⟨⟨d0, d1, d2, d3⟩, ⟨g0, g1, g2, g3⟩, hb1⟩ := box8 (regrown_below hw')
                clear kb0 kb1 kb2 kb3 kc0 kc1 kc2 kc3 hw'
                go_wp2_with fail
                refine (r1.out _).mono ?_
                rintro e w2 ⟨rfl, hb2⟩
                have d0' := (hb2.cell (World.block_lt_of_cell? _ _ d0)).trans d0
                have d1' := (hb2.cell (World.block_lt_of_cell? _ _ d1)).trans d1
                have d2' := (hb2.cell (World.block_lt_of_cell? _ _ d2)).trans d2
                have d3' := (hb2.cell (World.block_lt_of_cell? _ _ d3)).trans d3
                have g0' := (hb2.cell (World.block_lt_of_cell? _ _ g0)).trans g0
                have g1' := (hb2.cell (World.block_lt_of_cell? _ _ g1)).trans g1
                have g2' := (hb2.cell (World.block_lt_of_cell? _ _ g2)).trans g2
                have g3' := (hb2.cell (World.block_lt_of_cell? _ _ g3)).trans g3
                have hb3 := hb1.trans (hb2.mono hb1.size)
                clear d0 d1 d2 d3 g0 g1 g2 g3
                go_wp2_with fail
                refine (q2.out _).mono ?_
                rintro e w' ⟨rfl, rfl⟩
                go_wp2_with fail
                refine (q1.out _).mono ?_
                rintro e w' ⟨rfl, rfl⟩
                go_wp2_with fail
                go_ret
                exact ⟨rfl, hb3⟩
            · rw [lex_ne e1] at HR
              subst HR
              have e1' : (z2 == 0) = false := by simpa using e1
              clear q3 q1
              obtain ⟨kb0, kb1, kb2, kb3, kc0, kc1, kc2, kc3⟩ := boxed8 w (.int .i64 k) (.int .i64 n) (.string s) (.slice A a.length c) (.int .i64 k') (.int .i64 n') (.string s') (.slice A' a'.length c') 40
              go_enter Tryz.func69, Tryz.ntmps69
              go_wp2_with fail
              refine wp_region_quiet_below (by kernel_rfl) (by kernel_rfl) ?_
              repeat (go_big_quiet_step (first | (go_at_call 103; first | (with_reducible exact Calls.regrown_of (r1.out _)) | (with_reducible exact Calls.regrown_of (r2.out _))) | (go_at_call 102; exact Calls.regrown_of (withBelow (q0.out _)))))
              refine wpQuiet_nil ?_
              intro w1 hw'
              obtain ⟨⟨d0, d1, d2, d3⟩, ⟨g0, g1, g2, g3⟩, hb1⟩ := box8 (regrown_below hw')
              clear kb0 kb1 kb2 kb3 kc0 kc1 kc2 kc3 hw'
              go_wp2_with fail
              refine (r1.out _).mono ?_
              rintro e w2 ⟨rfl, hb2⟩
              have d0' := (hb2.cell (World.block_lt_of_cell? _ _ d0)).trans d0
              have d1' := (hb2.cell (World.block_lt_of_cell? _ _ d1)).trans d1
              have d2' := (hb2.cell (World.block_lt_of_cell? _ _ d2)).trans d2
              have d3' := (hb2.cell (World.block_lt_of_cell? _ _ d3)).trans d3
              have g0' := (hb2.cell (World.block_lt_of_cell? _ _ g0)).trans g0
              have g1' := (hb2.cell (World.block_lt_of_cell? _ _ g1)).trans g1
              have g2' := (hb2.cell (World.block_lt_of_cell? _ _ g2)).trans g2
              have g3' := (hb2.cell (World.block_lt_of_cell? _ _ g3)).trans g3
              have hb3 := hb1.trans (hb2.mono hb1.size)
              clear d0 d1 d2 d3 g0 g1 g2 g3
              go_wp2_with fail
              refine (q2.out _).mono ?_
              rintro e w' ⟨rfl, rfl⟩
              go_wp2_with fail
              go_ret
              exact ⟨rfl, hb3⟩
    · rw [lex_ne e0] at HR
      subst HR
      have e0' : (z0 != 0) = true := by simpa using e0
      clear hj q1 q2 q3 q4 q5
      obtain ⟨kb0, kb1, kb2, kb3, kc0, kc1, kc2, kc3⟩ := boxed8 w (.int .i64 k) (.int .i64 n) (.string s) (.slice A a.length c) (.int .i64 k') (.int .i64 n') (.string s') (.slice A' a'.length c') 40
      go_enter Tryz.func69, Tryz.ntmps69
      go_wp2_with fail
      refine wp_region_quiet_below (by kernel_rfl) (by kernel_rfl) ?_
      repeat (go_big_quiet_step (first | (go_at_call 103; first | (with_reducible exact Calls.regrown_of (r1.out _)) | (with_reducible exact Calls.regrown_of (r2.out _))) | (go_at_call 102; exact Calls.regrown_of (withBelow (q0.out _)))))
      refine wpQuiet_nil ?_
      intro w1 hw'
      obtain ⟨⟨d0, d1, d2, d3⟩, ⟨g0, g1, g2, g3⟩, hb1⟩ := box8 (regrown_below hw')
      clear kb0 kb1 kb2 kb3 kc0 kc1 kc2 kc3 hw'
      go_wp2_with fail
      go_ret
      exact ⟨rfl, hb1⟩
theorem ref_same_at (t u : Tm) (w : World) (ht : t.At w) (hu : u.At w) {r : Bool} (hr : (cmpT t u == 0) = r) :
    Calls Tryz.prog 38 #[t.val, u.val] w fun e w' => e = .returned (.bool r) ∧ Below w.heap.size w w' := by
  have Q := Lib.hid (fun W (h : Below w.heap.size w W) => ref_compare_at t u W (ht.below h) (hu.below h))
  generalize cmpT t u = z at *
  obtain ⟨k, n, s, A, c, a⟩ := t
  obtain ⟨k', n', s', A', c', a'⟩ := u
  show Calls Tryz.prog 38 #[.agg #[.int .i64 k, .int .i64 n, .string s, .slice A a.length c], .agg #[.int .i64 k', .int .i64 n', .string s', .slice A' a'.length c']] w _
  have HR := Lib.hid hr
  clear hr ht hu
  go_enter Tryz.func38, Tryz.ntmps38
  go_wp2_with fail
  refine (Q.out _ (below2 _ _ _)).mono ?_
  rintro e w' ⟨rfl, hb⟩
  go_wp2_with fail
  go_ret
  exact ⟨by rw [← HR.out]; rfl, (below2 _ _ _).trans (hb.mono (by simp; omega))⟩
theorem same_terms_at (l m : List Tm) (A B : Option Addr) (c d : Nat) (w : World) (hl : Lst w A l c) (hm : Lst w B m d) {r : Bool} (hr : (cmpL l m == 0) = r) :
    Calls Tryz.prog 71 #[.slice A l.length c, .slice B m.length d] w fun e w' => e = .returned (.bool r) ∧ Below w.heap.size w w' := by
  have Q := Lib.hid (ref_lists_at l m (fun x _ => ref_compare_at x) A B c d w hl hm)
  generalize cmpL l m = z at *
  have HR := Lib.hid hr
  clear hr
  go_enter Tryz.func71, Tryz.ntmps71
  go_wp2_with fail
  refine (Q.out).mono ?_
  rintro e w' ⟨rfl, hb⟩
  go_wp2_with fail
  go_ret
  exact ⟨by rw [← HR.out]; rfl, hb⟩
end Go.Proofs.YtgpglgehlnfggaaGreat
namespace Go.Proofs.YtgpglgehlnfggaaGreat
open Go.ChangeShapes Go.WideShapes Go.ChangeAt Go.RowKit
theorem types : Types Tryz.prog 3 9 22 40 :=
  ⟨Tryz.underlying3, Tryz.underlying9, Tryz.underlying22, ⟨_, _, _, _, Tryz.underlying40, ⟨rfl, rfl⟩, ⟨rfl, rfl⟩, ⟨rfl, rfl⟩, ⟨rfl, rfl⟩⟩, by kernel_rfl, by kernel_rfl, by kernel_rfl, by kernel_rfl⟩
section
variable {H : Type} {enc : TypeId × Value → H} {W : World} {base : Nat} {spare : Nat → Bool} {held : Bool}
set_option maxRecDepth 100000 in
theorem open_gl {r : Reach} {b0 : Nat} {v : Value} {d : DataW H} {p : List MemPlace} (hv : Value.okWide Tryz.prog W r b0 24 v) (h : DataW.Trod enc Tryz.prog W base spare held 24 v d p) :
    ∃ g : Gl, v = g.val ∧ g.At W := by
  obtain ⟨cs, rfl, hsz⟩ := okWide_struct Tryz.underlying24 hv
  obtain ⟨fuel, hf⟩ := h
  obtain ⟨xs, m, _, _, hcl, hxl, hg⟩ := DataW.trod_struct Tryz.underlying24 hf
  have hcl' : cs.toList.length = 3 := hcl.trans (by kernel_rfl)
  have hcs : (Value.agg cs).cells.toList = cs.toList := rfl
  rw [hcs] at hg
  match hl : cs.toList, hcl' with
  | [c0, c1, c2], _ =>
    rw [hl] at hg
    have hxs : xs.length = 3 := hxl
    have g0 := hg 0 _ rfl
    have g1 := hg 1 _ rfl
    have g2 := hg 2 _ rfl
    rw [List.getElem?_eq_getElem (by omega)] at g0 g1 g2
    have e0 : (Tryz.prog.cellsOf 9) = 1 := by kernel_rfl
    have e1 : (Tryz.prog.cellsOf 22) = 1 := by kernel_rfl
    have e2 : (Tryz.prog.cellsOf 3) = 1 := by kernel_rfl
    simp only [List.getElem_toArray, List.getElem_cons_zero, List.getElem_cons_succ] at g0 g1 g2
    obtain ⟨k, hk, _, wk⟩ := DataW.trod_int (cs := [c0]) Tryz.underlying3 (by simpa [e2] using g0)
    obtain ⟨s, hs, _, ws⟩ := DataW.trod_string (cs := [c1]) Tryz.underlying9 (by simpa [e0] using g1)
    obtain ⟨A, l, c, hv', hl'⟩ := open_lst types (v := c2) (by simpa [e1] using g2)
    obtain rfl : c0 = .int .i64 k := by simpa using hk
    obtain rfl : c1 = .string s := by simpa using hs
    subst hv'
    refine ⟨⟨k, s, A, c, l⟩, ?_, int_fits wk, ws, hl'⟩
    rw [← Array.toArray_toList (xs := cs), hl]
end
theorem row_one {w : World} (t : Tm) (h : t.At w) : RowAt (w.alloc (.cells #[.int .i64 t.kind, .int .i64 t.num, .string t.name, .slice t.at_ t.args.length t.cap] 40)) [t] w.heap.size 0 := by
  have hc : ∀ j v, (#[.int .i64 t.kind, .int .i64 t.num, .string t.name, .slice t.at_ t.args.length t.cap] : Array Value)[j]? = some v →
      (w.alloc (.cells #[.int .i64 t.kind, .int .i64 t.num, .string t.name, .slice t.at_ t.args.length t.cap] 40)).cell? ⟨w.heap.size, j, none⟩ = some v := fun j v hv => by
    rw [World.cell?_alloc_at _ _ _ _ rfl, hv]
  simp only [RowAt]
  exact ⟨⟨hc 0 _ rfl, hc 1 _ rfl, hc 2 _ rfl, hc 3 _ rfl⟩, h.alloc _, trivial⟩
theorem Lst.of_row {w : World} {l : List Tm} {b o : Nat} (h : RowAt w l b o) (hl : l.length ≤ 1000000) : Lst w (some ⟨b, o, none⟩) l l.length := ⟨Nat.le_refl _, by unfold maxLen; omega, fun _ => ⟨b, o, rfl, h⟩⟩
theorem great_below (l : List Tm) (A : Option Addr) (c : Nat) (most : Int) (w : World) (hl : Lst w A l c) (h1 : 0 ≤ most) (h2 : most ≤ 1000000) {r : Bool} (hr : decide (weigh l most 64 < 0) = r) :
    Calls Tryz.prog 22 #[.slice A l.length c, .int .i64 most] w fun e w' => e = .returned (.bool r) ∧ Below w.heap.size w w' :=
  (great_at l A c most w hl h1 h2 hr).mono fun _ _ ⟨he, n, hw⟩ => ⟨he, by rw [hw]; exact below_drewN (Below.refl _ _) n⟩
theorem great_one (t : Tm) (most : Int) (W W' : World) (g : Nat) (hg : g = W.heap.size) (ht : t.At W) (hb : Below (W.alloc (.cells #[.int .i64 t.kind, .int .i64 t.num, .string t.name, .slice t.at_ t.args.length t.cap] 40)).heap.size (W.alloc (.cells #[.int .i64 t.kind, .int .i64 t.num, .string t.name, .slice t.at_ t.args.length t.cap] 40)) W')
    (h1 : 0 ≤ most) (h2 : most ≤ 1000000) {r : Bool} (hr : decide (weigh [t] most 64 < 0) = r) :
    Calls Tryz.prog 22 #[.slice (some ⟨g, 0, none⟩) 1 1, .int .i64 most] W' fun e w' => e = .returned (.bool r) ∧ Below W'.heap.size W' w' := by
  subst hg
  exact great_below [t] _ 1 most W' (Lst.of_row ((At_keep hb).2 _ _ _ (row_one t ht)) (by simp)) h1 h2 hr
theorem not_great {l : List Tm} {most : Int} (h : decide (weigh l most 64 < 0) = false) : (nodesL l : Int) ≤ most := weigh_nodes (deep := 64) (Int.not_lt.1 (by simpa using h))
end Go.Proofs.YtgpglgehlnfggaaGreat
namespace Go.Proofs.YtgpglgehlnfggaaGreat
open Go
mutual
def Tm.strip : Tm → Tm
  | .mk k n s _ _ a => .mk k n s none 0 (stripL a)
def stripL : List Tm → List Tm
  | [] => []
  | t :: r => t.strip :: stripL r
end
theorem stripL_map (l : List Tm) : stripL l = l.map Tm.strip := by
  induction l with
  | nil => rfl
  | cons t r ih => simp [stripL, ih]
theorem stripL_len (l : List Tm) : (stripL l).length = l.length := by rw [stripL_map, List.length_map]
theorem stripL_append (l m : List Tm) : stripL (l ++ m) = stripL l ++ stripL m := by simp [stripL_map]
theorem form_strip : (∀ t : Tm, t.strip.form = t.form) ∧ (∀ l, formL (stripL l) = formL l) := by
  refine Tm.induct2 (fun k n s A c a ih => ?_) rfl (fun t r h1 h2 => ?_)
  · simp only [Tm.strip, Tm.form, ih, stripL_len]
  · simp only [stripL, formL, h1, h2]
theorem cmp_strip : (∀ t u : Tm, cmpT t.strip u.strip = cmpT t u) ∧ (∀ l m, cmpL (stripL l) (stripL m) = cmpL l m) := by
  suffices H : (∀ t : Tm, ∀ u : Tm, cmpT t.strip u.strip = cmpT t u) ∧ (∀ l, ∀ m, cmpL (stripL l) (stripL m) = cmpL l m) from ⟨H.1, H.2⟩
  refine Tm.induct2 (fun k n s A c a ih u => ?_) (fun m => ?_) (fun t r h1 h2 m => ?_)
  · obtain ⟨k', n', s', A', c', a'⟩ := u
    simp only [Tm.strip, cmpT, Tm.kind, Tm.num, Tm.name, Tm.args, ih, stripL_len]
  · cases m <;> simp [stripL, cmpL]
  · cases m with
    | nil => simp [stripL, cmpL]
    | cons u q => simp only [stripL, cmpL, h1, h2]
theorem same_strip {t u : Tm} (h : t.strip = u.strip) : (cmpT t u == 0) = true := by
  rw [← cmp_strip.1, h, cmp_self.1]; rfl
end Go.Proofs.YtgpglgehlnfggaaGreat
namespace Go.Proofs.YtgpglgehlnfggaaGreat
open Go
structure Bd where
  var : Int
  tm : Tm
instance : Inhabited Bd := ⟨⟨0, default⟩⟩
def Bd.strip (x : Bd) : Bd := ⟨x.var, x.tm.strip⟩
def stripB (b : List Bd) : List Bd := b.map Bd.strip
theorem stripB_len (b : List Bd) : (stripB b).length = b.length := by simp [stripB]
theorem stripB_append (a b : List Bd) : stripB (a ++ b) = stripB a ++ stripB b := by simp [stripB]
def look : List Bd → Int → Option Tm
  | [], _ => none
  | x :: r, v => if x.var = v then some x.tm else look r v
theorem look_strip (b : List Bd) (v : Int) : look (stripB b) v = (look b v).map Tm.strip := by
  induction b with
  | nil => rfl
  | cons x r ih =>
    simp only [stripB, List.map_cons, look, Bd.strip] at ih ⊢
    split
    · rfl
    · exact ih
theorem look_none {b : List Bd} {v : Int} : look b v = none ↔ ∀ x ∈ b, x.var ≠ v := by
  induction b with
  | nil => simp [look]
  | cons x r ih =>
    simp only [look, List.mem_cons, forall_eq_or_imp]
    split
    · rename_i h; simp [h]
    · rename_i h; rw [ih]; simp [h]
theorem look_some {b : List Bd} {v : Int} {t : Tm} (h : look b v = some t) : ∃ x ∈ b, x.var = v ∧ x.tm = t := by
  induction b with
  | nil => simp [look] at h
  | cons x r ih =>
    simp only [look] at h
    split at h
    · rename_i hv; injection h with h; exact ⟨x, by simp, hv, h⟩
    · obtain ⟨y, hy, h1, h2⟩ := ih h
      exact ⟨y, by simp [hy], h1, h2⟩
theorem look_append (a b : List Bd) (v : Int) : look (a ++ b) v = (look a v).or (look b v) := by
  induction a with
  | nil => simp [look]
  | cons x r ih =>
    simp only [List.cons_append, look]
    split
    · rfl
    · exact ih
theorem look_next {b : List Bd} {j : Nat} {v : Int} (hj : j < b.length) (h : look (b.take j) v = none) : look (b.take (j + 1)) v = if (b.getD j default).var = v then some (b.getD j default).tm else none := by
  rw [List.take_succ_eq_append_getElem hj, look_append, h]
  simp [look, List.getD, List.getElem?_eq_getElem hj]
theorem look_take {b : List Bd} {j : Nat} {v : Int} {t : Tm} (h : look (b.take j) v = some t) : look b v = some t := by
  have := look_append (b.take j) (b.drop j) v
  rw [List.take_append_drop, h] at this
  simpa using this
theorem bgetD_mem {l : List Bd} {k : Nat} (h : k < l.length) : l.getD k default ∈ l := by
  simp only [List.getD, List.getElem?_eq_getElem h, Option.getD_some]
  exact List.getElem_mem h
theorem btake_next {l : List Bd} {k : Nat} (h : k < l.length) : l.take (k + 1) = l.take k ++ [l.getD k default] := by
  rw [List.take_succ_eq_append_getElem h]
  simp [List.getD, List.getElem?_eq_getElem h]
theorem bdrop_next {l : List Bd} {k : Nat} (h : k < l.length) : l.drop k = l.getD k default :: l.drop (k + 1) := by
  rw [List.drop_eq_getElem_cons h]
  simp [List.getD, List.getElem?_eq_getElem h]
mutual
def Tm.app (b : List Bd) : Tm → Tm
  | .mk k n s A c a => if k = 1 then (look b n).getD (.mk k n s A c a) else if k = 2 then .mk k n s A c (appL b a) else .mk k n s A c a
def appL (b : List Bd) : List Tm → List Tm
  | [] => []
  | t :: r => t.app b :: appL b r
end
theorem appL_map (b : List Bd) (l : List Tm) : appL b l = l.map (Tm.app b) := by
  induction l with
  | nil => rfl
  | cons t r ih => simp [appL, ih]
theorem appL_len (b : List Bd) (l : List Tm) : (appL b l).length = l.length := by rw [appL_map, List.length_map]
theorem app_strip (b : List Bd) : (∀ t : Tm, t.strip.app (stripB b) = (t.app b).strip) ∧ (∀ l, appL (stripB b) (stripL l) = stripL (appL b l)) := by
  refine Tm.induct2 (fun k n s A c a ih => ?_) rfl (fun t r h1 h2 => ?_)
  · simp only [Tm.strip, Tm.app]
    split
    · rw [look_strip]
      cases look b n <;> simp [Tm.strip]
    · split
      · rw [ih]; rfl
      · rfl
  · simp only [stripL, appL, h1, h2]
theorem app_like {b b' : List Bd} {t t' : Tm} (hb : stripB b = stripB b') (ht : t.strip = t'.strip) : (t.app b).strip = (t'.app b').strip := by rw [← (app_strip b).1, hb, ht, (app_strip b').1]
theorem app_of_look {b b' : List Bd} (h : ∀ v, look b v = look b' v) : (∀ t : Tm, t.app b = t.app b') ∧ (∀ l, appL b l = appL b' l) := by
  refine Tm.induct2 (fun k n s A c a ih => ?_) rfl (fun t r h1 h2 => ?_)
  · simp only [Tm.app, h, ih]
  · simp only [appL, h1, h2]
theorem app_id (b : List Bd) : (∀ t : Tm, (∀ v ∈ t.occ, look b v = none) → t.app b = t) ∧ (∀ l, (∀ v ∈ occL l, look b v = none) → appL b l = l) := by
  refine Tm.induct2 (fun k n s A c a ih h => ?_) (fun _ => rfl) (fun t r h1 h2 h => ?_)
  · simp only [Tm.occ] at h
    simp only [Tm.app]
    split
    · rename_i hk
      rw [if_pos hk] at h
      rw [h n (by simp)]; rfl
    · rename_i hk
      rw [if_neg hk] at h
      split
      · rename_i h2
        rw [if_pos h2] at h
        rw [ih h]
      · rfl
  · simp only [occL, List.mem_append] at h
    simp only [appL]
    rw [h1 fun v hv => h v (.inl hv), h2 fun v hv => h v (.inr hv)]
def okAt (b : List Bd) (i : Nat) : Bool := (decide (0 ≤ (b.getD i default).var) && decide ((b.getD i default).var ≤ 1048576)) && ((b.getD i default).tm.right && (decide (i = 0) || decide ((b.getD (i - 1) default).var < (b.getD i default).var)))
def okUp (b : List Bd) (j : Nat) : Bool := (List.range j).all (okAt b)
theorem okUp_next (b : List Bd) (j : Nat) : okUp b (j + 1) = (okUp b j && okAt b j) := by simp [okUp, List.range_succ]
theorem okUp_stop {b : List Bd} {j n : Nat} (hj : j < n) (h : okAt b j = false) : okUp b n = false := by
  unfold okUp
  rw [List.all_eq_false]
  exact ⟨j, by simpa using hj, by simp [h]⟩
def apartB (b : List Bd) : Bool := b.all fun x => x.tm.occ.all fun v => (look b v).isNone
def rightS (b : List Bd) : Bool := okUp b b.length && apartB b
def Asc (b : List Bd) : Prop := b.Pairwise fun x y => x.var < y.var
theorem asc_iff (b : List Bd) : Asc b ↔ ∀ i, i + 1 < b.length → (b.getD i default).var < (b.getD (i + 1) default).var := by
  induction b with
  | nil => simp [Asc]
  | cons x r ih =>
    constructor
    · intro h i hi
      cases i with
      | zero =>
        have := (List.pairwise_cons.1 h).1 (r.getD 0 default) (bgetD_mem (by simpa using hi))
        simpa using this
      | succ i => simpa using (ih.1 (List.pairwise_cons.1 h).2) i (by simpa using hi)
    · intro h
      have hr : Asc r := ih.2 fun i hi => by simpa using h (i + 1) (by simpa using hi)
      refine List.pairwise_cons.2 ⟨fun y hy => ?_, hr⟩
      cases r with
      | nil => simp at hy
      | cons z q =>
        have h0 : x.var < z.var := by simpa using h 0 (by simp)
        rcases List.mem_cons.1 hy with rfl | hy
        · exact h0
        · exact Int.lt_trans h0 ((List.pairwise_cons.1 hr).1 y hy)
theorem okUp_iff (b : List Bd) : okUp b b.length = true ↔ (∀ x ∈ b, 0 ≤ x.var ∧ x.var ≤ 1048576 ∧ x.tm.right = true) ∧ Asc b := by
  rw [asc_iff]
  simp only [okUp, List.all_eq_true, List.mem_range, okAt, Bool.and_eq_true, Bool.or_eq_true, decide_eq_true_eq]
  constructor
  · intro h
    refine ⟨fun x hx => ?_, fun i hi => ?_⟩
    · obtain ⟨i, hi, e⟩ := List.mem_iff_getElem.1 hx
      have := h i hi
      simp only [List.getD, List.getElem?_eq_getElem hi, Option.getD_some, e] at this
      exact ⟨this.1.1, this.1.2, this.2.1⟩
    · rcases (h (i + 1) hi).2.2 with h' | h'
      · omega
      · simpa using h'
  · rintro ⟨h1, h2⟩ i hi
    have := h1 _ (bgetD_mem hi)
    refine ⟨⟨this.1, this.2.1⟩, this.2.2, ?_⟩
    cases i with
    | zero => exact .inl rfl
    | succ i => exact .inr (by simpa using h2 i hi)
theorem apart_iff (b : List Bd) : apartB b = true ↔ ∀ x ∈ b, ∀ v ∈ x.tm.occ, look b v = none := by
  simp only [apartB, List.all_eq_true, Option.isNone_iff_eq_none]
theorem rightS_iff (b : List Bd) : rightS b = true ↔ ((∀ x ∈ b, 0 ≤ x.var ∧ x.var ≤ 1048576 ∧ x.tm.right = true) ∧ Asc b) ∧ ∀ x ∈ b, ∀ v ∈ x.tm.occ, look b v = none := by
  rw [rightS, Bool.and_eq_true, okUp_iff, apart_iff]
theorem occ_strip : (∀ t : Tm, t.strip.occ = t.occ) ∧ (∀ l, occL (stripL l) = occL l) := by
  refine Tm.induct2 (fun k n s A c a ih => ?_) rfl (fun t r h1 h2 => ?_)
  · simp only [Tm.strip, Tm.occ, ih]
  · simp only [stripL, occL, h1, h2]
theorem stripB_getD (b : List Bd) {i : Nat} (hi : i < b.length) : (stripB b).getD i default = (b.getD i default).strip := by
  simp [stripB, List.getD, hi]
def Dis (b : List Bd) : Prop := b.Pairwise fun x y => x.var ≠ y.var
theorem Asc.dis {b : List Bd} (h : Asc b) : Dis b := h.imp fun h => by omega
theorem look_mem {b : List Bd} (h : Dis b) {x : Bd} (hx : x ∈ b) : look b x.var = some x.tm := by
  induction b with
  | nil => cases hx
  | cons y r ih =>
    have hp := List.pairwise_cons.1 h
    simp only [look]
    rcases List.mem_cons.1 hx with rfl | hx
    · simp
    · rw [if_neg (hp.1 x hx)]; exact ih hp.2 hx
theorem Dis.perm {a b : List Bd} (h : Dis a) (p : a.Perm b) : Dis b := (p.pairwise_iff (fun h => Ne.symm h)).1 h
def insB (x : Bd) : List Bd → List Bd
  | [] => [x]
  | y :: r => if y.var < x.var then y :: insB x r else x :: y :: r
def sortB (l : List Bd) : List Bd := l.foldl (fun acc x => insB x acc) []
def isV (t : Tm) (v : Int) : Bool := decide (t.kind = 1) && decide (t.num = v)
def keepA (c : List Bd) (x : Bd) : Option Bd := if isV (x.tm.app c) x.var then none else some ⟨x.var, x.tm.app c⟩
def compA (a c : List Bd) : List Bd := a.filterMap (keepA c)
def compC (a c : List Bd) : List Bd := c.filter fun x => (look a x.var).isNone
def compL (a c : List Bd) : List Bd := compA a c ++ compC a c
def allRight (b : List Bd) : Bool := b.all fun x => x.tm.right
def comp (a c : List Bd) : List Bd × Int :=
  if (rightS a && rightS c) = false then ([], 2)
  else if allRight (sortB (compL a c)) = false then ([], 6)
  else if rightS (sortB (compL a c)) = false then ([], 2)
  else (sortB (compL a c), 0)
end Go.Proofs.YtgpglgehlnfggaaGreat
namespace Go.Proofs.YtgpglgehlnfggaaGreat
open Go.RowKit
def Agree (lo : Nat) (X : Nat → Prop) (w W : World) : Prop := ∀ b, lo ≤ b → b < w.heap.size → ¬ X b → W.heap[b]? = w.heap[b]?
theorem Agree.refl (lo : Nat) (X : Nat → Prop) (w : World) : Agree lo X w w := fun _ _ _ _ => rfl
theorem Agree.cell {lo : Nat} {X : Nat → Prop} {w W : World} (h : Agree lo X w W) {p : Addr} (h1 : lo ≤ p.block) (h2 : p.block < w.heap.size) (h3 : ¬ X p.block) : W.cell? p = w.cell? p := by
  have := h p.block h1 h2 h3
  simp only [World.cell?, this]
abbrev No : Nat → Prop := fun _ => False
abbrev Is (b : Nat) : Nat → Prop := fun k => k = b
def Lie (B : World → Prop) (lo : Nat) (X : Nat → Prop) (w : World) (t : Tm) : Prop := ∀ W, B W → Agree lo X w W → t.At W
abbrev Any : World → Prop := fun _ => True
section
variable {B : World → Prop} {lo : Nat} {X : Nat → Prop} {w w' : World} {t : Tm}
theorem Lie.at (h : Lie B lo X w t) (hB : B w) : t.At w := h w hB (Agree.refl _ _ _)
theorem Agree.less {W : World} (h : Agree lo X w' W) {lo' : Nat} {Y : Nat → Prop} (hs : w.heap.size ≤ w'.heap.size) (hc : ∀ b, lo' ≤ b → b < w.heap.size → ¬ Y b → lo ≤ b ∧ ¬ X b ∧ w'.heap[b]? = w.heap[b]?) : Agree lo' Y w W := fun b h1 h2 h3 =>
  (h b (hc b h1 h2 h3).1 (Nat.lt_of_lt_of_le h2 hs) (hc b h1 h2 h3).2.1).trans (hc b h1 h2 h3).2.2
theorem Lie.less {lo' : Nat} {Y : Nat → Prop} (h : Lie B lo' Y w t) (hs : w.heap.size ≤ w'.heap.size) (hc : ∀ b, lo' ≤ b → b < w.heap.size → ¬ Y b → lo ≤ b ∧ ¬ X b ∧ w'.heap[b]? = w.heap[b]?) : Lie B lo X w' t := fun W hB hW => h W hB (hW.less hs hc)
theorem Lie.below (h : Lie B lo X w t) (k : Below w.heap.size w w') : Lie B lo X w' t := h.less k.size fun b h1 h2 h3 => ⟨h1, h3, k.block b h2⟩
theorem Lie.low (h : Lie B lo X w t) {lo' : Nat} (hl : lo' ≤ lo) : Lie B lo' X w t := h.less (Nat.le_refl _) fun b h1 _ h3 => ⟨by omega, h3, rfl⟩
theorem Lie.out {Y : Nat → Prop} (h : Lie B lo Y w t) (hY : ∀ b, lo ≤ b → b < w.heap.size → X b → Y b) : Lie B lo X w t := h.less (Nat.le_refl _) fun b h1 h2 h3 => ⟨h1, fun hx => h3 (hY b h1 h2 hx), rfl⟩
theorem Lie.set (h : Lie B lo X w t) {p : Addr} (hp : p.block < lo ∨ X p.block) (v : Value) : Lie B lo X (w.setCell p v) t := h.less (by simp [World.setCell]) fun b h1 _ h3 => ⟨h1, h3, Below.heap_setCell _ _ _ _ (fun e => hp.elim (fun h => by omega) (fun h => h3 (e ▸ h)))⟩
theorem Lie.alloc (h : Lie B lo X w t) (o : Obj) : Lie B lo X (w.alloc o) t := h.below ((Below.refl _ _).alloc (Nat.le_refl _) o)
theorem Lie.new (h : Lie B lo X w t) (o : Obj) : Lie B lo (fun k => X k ∨ k = w.heap.size) (w.alloc o) t := h.less (by simp) fun b h1 h2 h3 => ⟨h1, fun hx => hx.elim h3 (by omega), Below.heap_alloc _ _ _ h2⟩
theorem Lie.any (ht : ∀ W, B W → t.At W) : Lie B lo X w t := fun W hB _ => ht W hB
theorem Lie.of (h : Lie Any lo X w t) : Lie B lo X w t := fun W _ hW => h W trivial hW
theorem Lie.new_is {T : Nat} (h : Lie B lo No w t) (hT : T < lo) : Lie B lo (Is T) w t := h.out fun b h1 _ h3 => by have : b = T := h3; omega
end
structure Keeps (R : Nat) (w w' : World) : Prop where
  os : w'.os = w.os
  tape : w'.tape = w.tape
  output : w'.output = w.output
  size : w.heap.size ≤ w'.heap.size
  block : ∀ k, k < w.heap.size → k ≠ R → w'.heap[k]? = w.heap[k]?
theorem Keeps.refl (R : Nat) (w : World) : Keeps R w w := ⟨rfl, rfl, rfl, Nat.le_refl _, fun _ _ _ => rfl⟩
theorem Keeps.trans {R : Nat} {a b c : World} (h : Keeps R a b) (k : Keeps R b c) : Keeps R a c :=
  ⟨k.os.trans h.os, k.tape.trans h.tape, k.output.trans h.output, Nat.le_trans h.size k.size, fun i hi hr => (k.block i (Nat.lt_of_lt_of_le hi h.size) hr).trans (h.block i hi hr)⟩
theorem Below.keeps {w w' : World} (h : Below w.heap.size w w') (R : Nat) : Keeps R w w' := ⟨h.os, h.tape, h.output, h.size, fun k hk _ => h.block k hk⟩
theorem Keeps.drew {R : Nat} {a w : World} (h : Keeps R a w) : Keeps R a w.drew := ⟨h.os, h.tape, h.output, h.size, h.block⟩
theorem Keeps.drewN {R : Nat} {a w : World} (h : Keeps R a w) (n : Nat) : Keeps R a (w.drewN n) := ⟨h.os, h.tape, h.output, h.size, h.block⟩
theorem Keeps.alloc {R : Nat} {a w : World} (h : Keeps R a w) (o : Obj) : Keeps R a (w.alloc o) := h.trans (Below.keeps ((Below.refl _ _).alloc (Nat.le_refl _) o) R)
theorem Keeps.set {R : Nat} {a w : World} (h : Keeps R a w) (q : Nat) (sp : Option Nat) (v : Value) : Keeps R a (w.setCell ⟨R, q, sp⟩ v) :=
  h.trans ⟨rfl, rfl, rfl, by simp [World.setCell], fun k _ hr => Below.heap_setCell _ _ _ _ hr⟩
theorem Keeps.own {R : Nat} {a w : World} (h : Keeps R a w) {p : Addr} (hp : a.heap.size ≤ p.block) (v : Value) : Keeps R a (w.setCell p v) :=
  ⟨h.os, h.tape, h.output, by simpa [World.setCell] using h.size, fun k hk hr => (Below.heap_setCell _ _ _ _ (by omega)).trans (h.block k hk hr)⟩
theorem Keeps.cell {R : Nat} {w w' : World} (h : Keeps R w w') {p : Addr} (hp : p.block < w.heap.size) (hr : p.block ≠ R) : w'.cell? p = w.cell? p := by
  have := h.block p.block hp hr
  simp only [World.cell?, this]
theorem Keeps.frozen {R : Nat} {w w' : World} (h : Keeps R w w') {p : Addr} (hp : p.block < w.heap.size) (hr : p.block ≠ R) : w'.frozen? p = w.frozen? p := by
  have := h.block p.block hp hr
  simp only [World.frozen?, this]
theorem Keeps.below {R : Nat} {a w w' : World} (hb : Below a.heap.size a w) (h : Keeps R w w') (hR : a.heap.size ≤ R) : Below a.heap.size a w' :=
  hb.trans ⟨h.os, h.tape, h.output, h.size, fun k hk => h.block k (Nat.lt_of_lt_of_le hk hb.size) (by omega)⟩
theorem Keeps.grown {R : Nat} {a w w' : World} {row : Option Nat} (h : Keeps R a w) (hg : w.grownBy w' row) (hr : ∀ k, row = some k → a.heap.size ≤ k) : Keeps R a w' :=
  ⟨hg.os.trans h.os, hg.tape.trans h.tape, hg.output.trans h.output, Nat.le_trans h.size hg.size, fun k hk hR =>
    (hg.block k (Nat.lt_of_lt_of_le hk h.size) (fun e => by have := hr k e.symm; omega)).trans (h.block k hk hR)⟩
theorem Lie.keeps {B : World → Prop} {lo R : Nat} {X : Nat → Prop} {w w' : World} {t : Tm} (h : Lie B lo X w t) (k : Keeps R w w') (hR : R < lo ∨ X R) : Lie B lo X w' t := h.less k.size fun b h1 h2 h3 => ⟨h1, h3, k.block b h2 (fun e => hR.elim (fun h => by omega) (fun h => h3 (e ▸ h)))⟩
theorem keepv {w w' : World} (hb : Below w.heap.size w w') {p : Addr} {v : Value} (h : w.cell? p = some v) : w'.cell? p = some v := by
  rw [hb.cell (World.block_lt_of_cell? w _ h)]; exact h
end Go.Proofs.YtgpglgehlnfggaaGreat
namespace Go.Proofs.YtgpglgehlnfggaaGreat
open Go.ChangeShapes Go.WideShapes Go.ChangeAt Go.RowKit
abbrev Bd.val (x : Bd) : Value := .agg #[.int .i64 x.var, .int .i64 x.tm.kind, .int .i64 x.tm.num, .string x.tm.name, .slice x.tm.at_ x.tm.args.length x.tm.cap]
def Bd.cells (x : Bd) : List Value := [.int .i64 x.var, .int .i64 x.tm.kind, .int .i64 x.tm.num, .string x.tm.name, .slice x.tm.at_ x.tm.args.length x.tm.cap]
def BRow (w : World) (l : List Bd) (b o : Nat) : Prop := ∀ i, i < l.length → (∀ j u, (l.getD i default).cells[j]? = some u → w.cell? ⟨b, o + i * 5 + j, none⟩ = some u) ∧ Fits (l.getD i default).var ∧ (l.getD i default).tm.At w
def BLst (w : World) (A : Option Addr) (l : List Bd) (c : Nat) : Prop := l.length ≤ c ∧ c ≤ maxLen ∧ (0 < l.length → ∃ b o, A = some ⟨b, o, none⟩ ∧ BRow w l b o)
section
variable {w w' : World} {A : Option Addr} {l : List Bd} {c b o : Nat}
theorem BRow.below (h : BRow w l b o) (hb : Below w.heap.size w w') : BRow w' l b o := fun i hi => ⟨fun j u hu => keepv hb ((h i hi).1 j u hu), (h i hi).2.1, (h i hi).2.2.below hb⟩
theorem BLst.below (h : BLst w A l c) (hb : Below w.heap.size w w') : BLst w' A l c := ⟨h.1, h.2.1, fun hn => by
  obtain ⟨b, o, e, hr⟩ := h.2.2 hn
  exact ⟨b, o, e, hr.below hb⟩⟩
theorem BRow.get (h : BRow w l b o) {i : Nat} (hi : i < l.length) :
    (w.cell? ⟨b, o + i * 5, none⟩ = some (.int .i64 (l.getD i default).var) ∧ w.cell? ⟨b, o + i * 5 + 1, none⟩ = some (.int .i64 (l.getD i default).tm.kind) ∧ w.cell? ⟨b, o + i * 5 + 2, none⟩ = some (.int .i64 (l.getD i default).tm.num) ∧ w.cell? ⟨b, o + i * 5 + 3, none⟩ = some (.string (l.getD i default).tm.name) ∧
      w.cell? ⟨b, o + i * 5 + 4, none⟩ = some (.slice (l.getD i default).tm.at_ (l.getD i default).tm.args.length (l.getD i default).tm.cap)) ∧ Fits (l.getD i default).var ∧ (l.getD i default).tm.At w := by
  have h1 := h i hi
  exact ⟨⟨h1.1 0 _ rfl, h1.1 1 _ rfl, h1.1 2 _ rfl, h1.1 3 _ rfl, h1.1 4 _ rfl⟩, h1.2⟩
theorem BLst.get (h : BLst w A l c) {i : Nat} (hi : i < l.length) : ∃ b o, A = some ⟨b, o, none⟩ ∧
    (w.cell? ⟨b, o + i * 5, none⟩ = some (.int .i64 (l.getD i default).var) ∧ w.cell? ⟨b, o + i * 5 + 1, none⟩ = some (.int .i64 (l.getD i default).tm.kind) ∧ w.cell? ⟨b, o + i * 5 + 2, none⟩ = some (.int .i64 (l.getD i default).tm.num) ∧ w.cell? ⟨b, o + i * 5 + 3, none⟩ = some (.string (l.getD i default).tm.name) ∧
      w.cell? ⟨b, o + i * 5 + 4, none⟩ = some (.slice (l.getD i default).tm.at_ (l.getD i default).tm.args.length (l.getD i default).tm.cap)) ∧ Fits (l.getD i default).var ∧ (l.getD i default).tm.At w := by
  obtain ⟨b, o, e, hr⟩ := h.2.2 (by omega)
  exact ⟨b, o, e, hr.get hi⟩
theorem BLst.mem (h : BLst w A l c) {x : Bd} (hx : x ∈ l) : Fits x.var ∧ x.tm.At w := by
  obtain ⟨i, hi, e⟩ := List.mem_iff_getElem.1 hx
  obtain ⟨_, _, _, _, h2⟩ := h.get hi
  simpa [List.getD, List.getElem?_eq_getElem hi, e] using h2
theorem BLst.len (h : BLst w A l c) : l.length ≤ 9223372036854775807 := by have := h.1; have := h.2.1; unfold maxLen at *; omega
theorem BLst.nil (w : World) : BLst w none [] 0 := ⟨Nat.le_refl _, Nat.zero_le _, fun h => absurd h (by simp)⟩
theorem BLst.look (h : BLst w A l c) {v : Int} {t : Tm} (ht : look l v = some t) : t.At w := by
  obtain ⟨x, hx, _, rfl⟩ := look_some ht
  exact (h.mem hx).2
end
structure TypesB (P : Program) (I S L T B BL : TypeId) : Prop where
  tms : Types P I S L T
  lst : P.underlying BL = some (.slice B)
  bd : ∃ f0 f1 : Field, P.underlying B = some (.struct #[f0, f1]) ∧ (f0.type = I ∧ f0.offset = 0) ∧ (f1.type = T ∧ f1.offset = 1)
  cB : P.cellsOf B = 5
  cBL : P.cellsOf BL = 1
section
variable {H : Type} {enc : TypeId × Value → H} {P : Program} {W : World} {base : Nat} {spare : Nat → Bool} {held : Bool} {I S L T B BL : TypeId}
theorem bd_of (hy : TypesB P I S L T B BL) (n : Nat) (cs : List Value) (x : DataW H × List MemPlace) (h : DataW.trod enc P W base spare held n B cs = some x) : ∃ y : Bd, cs = y.cells ∧ Fits y.var ∧ y.tm.At W := by
  obtain ⟨f0, f1, hT, ⟨t0, o0⟩, ⟨t1, o1⟩⟩ := hy.bd
  obtain ⟨xs, m, hn, _, hcl, hxl, hg⟩ := DataW.trod_struct hT h
  rw [hy.cB] at hcl
  match cs, hcl with
  | [c0, c1, c2, c3, c4], _ =>
    have hxs : xs.length = 2 := hxl
    have g0 := hg 0 f0 rfl
    have g1 := hg 1 f1 rfl
    rw [t0, o0, hy.tms.cI] at g0
    rw [t1, o1, hy.tms.cT] at g1
    rw [List.getElem?_eq_getElem (by omega)] at g0 g1
    obtain ⟨k, hk, _, wk⟩ := DataW.trod_int hy.tms.int g0
    obtain ⟨t, ht, hat⟩ := tm_of hy.tms _ _ _ g1
    obtain rfl : c0 = .int .i64 k := by simpa using hk
    have ht' : [c1, c2, c3, c4] = t.cells := by simpa using ht
    exact ⟨⟨k, t⟩, by rw [ht']; rfl, int_fits wk, hat⟩
theorem bds_of (hy : TypesB P I S L T B BL) {n : Nat} {v : Value} {x : DataW H × List MemPlace} (h : DataW.trod enc P W base spare held n BL [v] = some x) :
    ∃ (A : Option Addr) (l : List Bd) (c : Nat), v = .slice A l.length c ∧ BLst W A l c := by
  rcases DataW.trod_slice hy.lst h with ⟨hcs, _⟩ | ⟨a, len, cap, elems, rest, n', hn, hcs, _, _, hl, hm, hlen, hel, _⟩
  · obtain rfl : v = .slice none 0 0 := by simpa using hcs
    exact ⟨none, [], 0, rfl, BLst.nil W⟩
  · obtain rfl : v = .slice (some a) len cap := by simpa using hcs
    obtain ⟨f, hf⟩ := Deep.choose_lt (α := Bd) (p := fun i y => W.cells? base (a.add (i * 5)) 5 = some y.cells ∧ Fits y.var ∧ y.tm.At W) (n := len) (fun i hi => by
      have h1 := hel i hi
      rw [hy.cB, List.getElem?_eq_getElem (by omega)] at h1
      obtain ⟨cs', h2, h3⟩ := Option.bind_eq_some_iff.1 h1
      obtain ⟨y, rfl, hy'⟩ := bd_of hy _ _ _ h3
      exact ⟨y, h2, hy'⟩)
    have hll : ((List.range len).map f).length = len := by simp
    refine ⟨some a, (List.range len).map f, cap, by rw [hll], by rw [hll]; exact hl, hm, fun h0 => ?_⟩
    rw [hll] at h0
    obtain ⟨b, o, sp⟩ := a
    have c0 := (World.cells?_some (hf 0 h0).1).2.2 0 (by omega)
    obtain rfl : sp = none := by
      rw [show (f 0).cells[0]? = some (.int .i64 (f 0).var) from rfl] at c0
      simpa [Addr.add] using World.cell?_spot c0
    refine ⟨b, o, rfl, fun i hi => ?_⟩
    rw [hll] at hi
    have e : ((List.range len).map f).getD i default = f i := by simp [List.getD, hi]
    rw [e]
    refine ⟨fun j u hu => ?_, (hf i hi).2⟩
    have hj : j < 5 := by
      have := (List.getElem?_eq_some_iff.1 hu).1
      simpa [Bd.cells] using this
    have := (World.cells?_some (hf i hi).1).2.2 j hj
    rw [add_plain, add_plain, hu] at this
    exact this
end
theorem typesB : TypesB Tryz.prog 3 9 22 40 47 31 :=
  ⟨⟨Tryz.underlying3, Tryz.underlying9, Tryz.underlying22, ⟨_, _, _, _, Tryz.underlying40, ⟨rfl, rfl⟩, ⟨rfl, rfl⟩, ⟨rfl, rfl⟩, ⟨rfl, rfl⟩⟩, by kernel_rfl, by kernel_rfl, by kernel_rfl, by kernel_rfl⟩,
    Tryz.underlying31, ⟨_, _, Tryz.underlying47, ⟨rfl, rfl⟩, ⟨rfl, rfl⟩⟩, by kernel_rfl, by kernel_rfl⟩
end Go.Proofs.YtgpglgehlnfggaaGreat
