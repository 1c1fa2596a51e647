/-
  SuRefRt.
-/
import Derived.Test.YtgpglgehlnfggaaGreatMe9
namespace Go.Proofs.YtgpglgehlnfggaaGreat
open Go.RowKit Go.Sort
set_option maxHeartbeats 4000000 in
set_option maxRecDepth 100000 in
theorem ref_right_s_at (l : List Bd) (A : Option Addr) (c : Nat) (w : World) (hl : BLst w A l c) (hz : ∀ x ∈ l, x.tm.size ≤ 1000000) :
    Calls Tryz.prog 19 #[.slice A l.length c] w fun e w' => e = .returned (.bool (rightS l)) ∧ Below w.heap.size w w' := by
  have hlen := hl.len
  have HL := Lib.hid hl
  have HZ := Lib.hid hz
  clear hl hz
  go_enter Tryz.func19, Tryz.ntmps19
  go_wp2_with fail
  go_loopw [3] (fun i wr => ∃ j : Nat, j ≤ l.length ∧ i = .int .i64 j ∧ Hid (okUp l j = true) ∧ Below w.heap.size w wr) (fun i _ => l.length - (intOf i).toNat)
  case atStart => exact ⟨0, Nat.zero_le _, rfl, Lib.hid rfl, Below.refl _ _⟩
  case round =>
    obtain ⟨j, hj, rfl, HF, hbw⟩ := hrel
    by_cases hlt : j < l.length
    · obtain ⟨b, o, rfl, ⟨c0, c1, c2, c3, c4⟩, _, ht⟩ := (HL.out.below hbw).get hlt
      have hsz := HZ.out _ (bgetD_mem hlt)
      have HO := Lib.hid (okUp_next l j)
      have HS := Lib.hid (fun h => show rightS l = false by unfold rightS; rw [okUp_stop hlt h]; rfl)
      have HP := Lib.hid (okAt_parts l j)
      obtain ⟨x, hx⟩ : ∃ x, l.getD j default = x := ⟨_, rfl⟩
      rw [hx] at c0 c1 c2 c3 c4 ht HP hsz
      clear hx
      obtain ⟨r, hr⟩ : ∃ r, x.tm.right = r := ⟨_, rfl⟩
      rw [hr] at HP
      have Q1 := Lib.hid (fun W (h : Below wr.heap.size wr W) => ref_right_tm_at x.tm W (ht.below h) hsz hr)
      clear ht hr hsz
      obtain ⟨v', k', n', s', A', c', a'⟩ := x
      simp only [Tm.kind, Tm.num, Tm.name, Tm.at_, Tm.args, Tm.cap] at c0 c1 c2 c3 c4
      simp only at HP
      have c0' := cell_regrown c0
      have c1' := cell_regrown c1
      have c2' := cell_regrown c2
      have c3' := cell_regrown c3
      have c4' := cell_regrown c4
      have jlt : decide ((j : Int) < (l.length : Int)) = true := decide_eq_true (by omega)
      by_cases h0 : v' < 0
      · have HE := Lib.hid (HS.out (by rw [HP.out]; simp; omega))
        have h0' : decide (v' < 0) = true := decide_eq_true h0
        clear h0
        go_wp2_with fail
        refine wp_region_quiet_below (by kernel_rfl) (by kernel_rfl) ?_
        repeat (go_big_quiet_step (fail))
        refine wpQuiet_nil ?_
        intro w1 hw'
        have hb1 := regrown_below hw'
        go_wp2_with fail
        go_ret
        exact ⟨by rw [HE.out]; rfl, hbw.trans (hb1.mono hbw.size)⟩
      · by_cases h1 : v' > 1048576
        · have HE := Lib.hid (HS.out (by rw [HP.out]; simp; omega))
          have h0' : decide (v' < 0) = false := decide_eq_false h0
          have h1' : decide (v' > 1048576) = true := decide_eq_true h1
          clear h0 h1
          go_wp2_with fail
          refine wp_region_quiet_below (by kernel_rfl) (by kernel_rfl) ?_
          repeat (go_big_quiet_step (fail))
          refine wpQuiet_nil ?_
          intro w1 hw'
          have hb1 := regrown_below hw'
          go_wp2_with fail
          go_ret
          exact ⟨by rw [HE.out]; rfl, hbw.trans (hb1.mono hbw.size)⟩
        · have h0' : decide (v' < 0) = false := decide_eq_false h0
          have h1' : decide (v' > 1048576) = false := decide_eq_false h1
          by_cases hj0 : j = 0
          · have HPz := Lib.hid (show okAt l j = r by rw [HP.out]; simp [show (0 : Int) ≤ v' by omega, show v' ≤ 1048576 by omega, hj0])
            have hj' : decide (0 < j) = false := decide_eq_false (by omega)
            clear h0 h1 HP hj0
            cases r
            · have HE := Lib.hid (HS.out HPz.out)
              go_wp2_with fail
              refine wp_region_quiet_below (by kernel_rfl) (by kernel_rfl) ?_
              repeat (go_big_quiet_step (first | (go_at_call 53; exact Calls.regrown_of (Q1.out _ (below_regrown _ _ _)))))
              refine wpQuiet_nil ?_
              intro w1 hw'
              have hb1 := regrown_below hw'
              go_wp2_with fail
              go_ret
              exact ⟨by rw [HE.out]; rfl, hbw.trans (hb1.mono hbw.size)⟩
            · have HN := Lib.hid (show okUp l (j + 1) = true by rw [HO.out, HPz.out, HF.out]; rfl)
              go_wp2_with fail
              refine wp_region_quiet_below (by kernel_rfl) (by kernel_rfl) ?_
              repeat (go_big_quiet_step (first | (go_at_call 53; exact Calls.regrown_of (Q1.out _ (below_regrown _ _ _)))))
              refine wpQuiet_nil ?_
              intro w1 hw'
              have hb1 := regrown_below hw'
              go_wp2_with fail
              go_roundw
              case rel => exact ⟨j + 1, by omega, by go_num, HN, hbw.trans (hb1.mono hbw.size)⟩
              case measure => simp [intOf]; omega
          · obtain ⟨jp, rfl⟩ : ∃ jp, j = jp + 1 := ⟨j - 1, by omega⟩
            obtain ⟨b', o', e', ⟨p0, _⟩, _⟩ := (HL.out.below hbw).get (show jp < l.length by omega)
            injection e' with e'
            injection e' with e1 e2 _
            subst e1 e2
            have HP3 := Lib.hid (show okAt l (jp + 1) = (r && decide ((l.getD jp default).var < v')) by rw [HP.out]; simp [show (0 : Int) ≤ v' by omega, show v' ≤ 1048576 by omega])
            generalize (l.getD jp default).var = u at *
            have p0' := cell_regrown p0
            have hj' : decide ((jp : Int) + 1 > 0) = true := decide_eq_true (by omega)
            clear h0 h1 HP
            by_cases hu : u < v'
            · have hu' : decide (v' ≤ u) = false := decide_eq_false (by omega)
              have HP4 := Lib.hid (show okAt l (jp + 1) = r by rw [HP3.out, decide_eq_true hu, Bool.and_true])
              clear hu HP3
              cases r
              · have HE := Lib.hid (HS.out HP4.out)
                go_wp2_with fail
                refine wp_region_quiet_below (by kernel_rfl) (by kernel_rfl) ?_
                repeat (go_big_quiet_step (first | (go_at_call 53; exact Calls.regrown_of (Q1.out _ (below_regrown _ _ _)))))
                refine wpQuiet_nil ?_
                intro w1 hw'
                have hb1 := regrown_below hw'
                go_wp2_with fail
                go_ret
                exact ⟨by rw [HE.out]; rfl, hbw.trans (hb1.mono hbw.size)⟩
              · have HN := Lib.hid (show okUp l (jp + 1 + 1) = true by rw [HO.out, HP4.out, HF.out]; rfl)
                go_wp2_with fail
                refine wp_region_quiet_below (by kernel_rfl) (by kernel_rfl) ?_
                repeat (go_big_quiet_step (first | (go_at_call 53; exact Calls.regrown_of (Q1.out _ (below_regrown _ _ _)))))
                refine wpQuiet_nil ?_
                intro w1 hw'
                have hb1 := regrown_below hw'
                go_wp2_with fail
                go_roundw
                case rel => exact ⟨jp + 1 + 1, by omega, by go_num, HN, hbw.trans (hb1.mono hbw.size)⟩
                case measure => simp [intOf]; omega
            · have HE := Lib.hid (HS.out (by rw [HP3.out, decide_eq_false hu, Bool.and_false]))
              have hu' : decide (v' ≤ u) = true := decide_eq_true (by omega)
              clear hu
              go_wp2_with fail
              refine wp_region_quiet_below (by kernel_rfl) (by kernel_rfl) ?_
              repeat (go_big_quiet_step (fail))
              refine wpQuiet_nil ?_
              intro w1 hw'
              have hb1 := regrown_below hw'
              go_wp2_with fail
              go_ret
              exact ⟨by rw [HE.out]; rfl, hbw.trans (hb1.mono hbw.size)⟩
    · obtain rfl : j = l.length := by omega
      have Q2 := Lib.hid (apart_at l A c wr (HL.out.below hbw) HZ.out)
      have HE := Lib.hid (show apartB l = rightS l by unfold rightS; rw [HF.out]; rfl)
      have jlt : decide ((l.length : Int) < (l.length : Int)) = false := decide_eq_false (by omega)
      go_wp2_with fail
      refine (Q2.out).mono ?_
      rintro e w2 ⟨rfl, hb2⟩
      go_wp2_with fail
      go_ret
      exact ⟨by rw [← HE.out]; rfl, hbw.trans (hb2.mono hbw.size)⟩
end Go.Proofs.YtgpglgehlnfggaaGreat
