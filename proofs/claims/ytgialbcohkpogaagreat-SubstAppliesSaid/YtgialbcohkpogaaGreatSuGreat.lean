/-
  Contracts of Great, Restrict and Same of the reference.
-/
import Derived.Test.YtgialbcohkpogaaGreatSuRow
import Derived.Test.YtgialbcohkpogaaGreatTmGreat
import Derived.Test.YtgialbcohkpogaaGreatTmOpen
import Derived.Test.YtgialbcohkpogaaGreatSuMath
import Derived.Test.YtgialbcohkpogaaGreatTmOrder
namespace Go.Proofs.YtgialbcohkpogaaGreat
open Go.RowKit Go.Sort

def greatB (b : List Bd) (most : Int) : Bool := decide (weigh (b.map Bd.tm) most 64 < 0)
theorem great_long {b : List Bd} {most : Int} (h : most < b.length) : greatB b most = true := by
  unfold greatB weigh
  rw [if_pos (.inr (by simpa using h))]
  rfl
theorem great_nodes {b : List Bd} {most : Int} (h : greatB b most = false) : (nodesL (b.map Bd.tm) : Int) ≤ most := by
  unfold greatB at h
  exact weigh_nodes (deep := 64) (Int.not_lt.1 (by simpa using h))
theorem map_next {b : List Bd} {j : Nat} (hj : j < b.length) : (b.take (j + 1)).map Bd.tm = (b.take j).map Bd.tm ++ [(b.getD j default).tm] := by
  rw [btake_next hj, List.map_append]; rfl

set_option maxHeartbeats 4000000 in
set_option maxRecDepth 100000 in
theorem great_s_at (b : List Bd) (A : Option Addr) (c : Nat) (most : Int) (w : World) (hb : BLst w A b c) (h1 : 0 ≤ most) (h2 : most ≤ 1000000) {r : Bool} (hr : greatB b most = r) :
    Calls Tryz.prog 6 #[.slice A b.length c, .int .i64 most] w fun e w' => e = .returned (.bool r) ∧ Below w.heap.size w w' := by
  obtain ⟨i0, hi, hz0, hz1, hz2⟩ := info_parts term_info
  have hlen := hb.len
  have HB := Lib.hid hb
  have HR := Lib.hid hr
  clear hb hr
  by_cases hm : most < b.length
  · have HE := Lib.hid (show true = r by rw [← HR.out, great_long hm])
    have hm' : decide ((b.length : Int) > most) = true := decide_eq_true hm
    clear hm
    go_enter Tryz.func6, Tryz.ntmps6
    go_wp2_with fail
    go_ret
    exact ⟨by rw [← HE.out]; rfl, Below.refl _ _⟩
  · have hm' : decide ((b.length : Int) > most) = false := decide_eq_false (by omega)
    have hl6 : b.length ≤ 1000000 := by omega
    have HR2 := Lib.hid (show decide (weigh (b.map Bd.tm) most 64 < 0) = r from HR.out)
    clear hm
    go_enter Tryz.func6, Tryz.ntmps6
    go_wp2_with fail
    go_loopw [5, 6] (fun z i wr => ∃ (j : Nat) (x : Value), j ≤ b.length ∧ i = .int .i64 j ∧ z = x ∧ Hid (RowT (Below w.heap.size w) w.heap.size wr x ((b.take j).map Bd.tm)) ∧ Below w.heap.size w wr) (fun _ i _ => b.length - (intOf i).toNat)
    case atStart => exact ⟨0, _, Nat.zero_le _, rfl, rfl, Lib.hid (RowT.nil _ _ _), Below.refl _ _⟩
    case round =>
      obtain ⟨j, z, hj, rfl, rfl, HK, hbw⟩ := hrel
      by_cases hlt : j < b.length
      · obtain ⟨b0, o, rfl, ⟨c0, c1, c2, c3, c4⟩, _, _⟩ := (HB.out.below hbw).get hlt
        have HX := Lib.hid (HB.out.mem (bgetD_mem hlt)).2
        have HT := Lib.hid (map_next hlt)
        have hal : ((b.take j).map Bd.tm).length ≤ 1000000 := by simp; omega
        have HOwn := Lib.hid (own_lt HK.out.1)
        generalize hacc : (b.take j).map Bd.tm = acc at *
        generalize (b.getD j default).tm = x at *
        have hlo : w.heap.size ≤ wr.heap.size := hbw.size
        clear hacc c0
        obtain ⟨k', n', s', A', c', a'⟩ := x
        simp only [Tm.kind, Tm.num, Tm.name, Tm.at_, Tm.args, Tm.cap] at c1 c2 c3 c4
        go_wp2_with (at_builtin; refine wpList_append_lies _ rfl _ _ 27 rfl w.heap.size 29 i0 _ 4 56 Tryz.underlying27 hi hz0 hz1 hz2 rfl (by decide) _ acc.length (tcells acc) rfl (HK.out.1.alloc _) ⟨wr.heap.size, 0, none⟩ 1 1 (Tm.cells (.mk k' n' s' A' c' a')) rfl rfl (tnews1 wr (.mk k' n' s' A' c' a') _) (cells_one _) (by decide) (by unfold maxLen; omega) (by omega) (by simp; omega) _ rfl ?_; intro g cap w5 hown hg hat hglt)
        have HR5 := Lib.hid (HK.out.next (u := .mk k' n' s' A' c' a') (Lie.any fun W hW => HX.out.below hW) (below1 wr _) hown hg hat)
        rw [← HT.out] at HR5
        have HB5 : Below w.heap.size w w5 := (hbw.alloc hbw.size _).grown hg (by simp; omega) (fun k hk => (HOwn.out k hk).1)
        clear hown hg hat hglt
        go_wp2_with fail
        go_roundw
        case rel => exact ⟨j + 1, _, by omega, by go_num, rfl, HR5, HB5⟩
        case measure => simp [intOf]; omega
      · obtain rfl : j = b.length := by omega
        have hK := HK.out
        rw [List.take_length] at hK
        obtain ⟨A', cz, hz, hcz⟩ := hK.form
        subst hz
        have QG0 := great_below _ A' cz most wr (hK.lies wr hbw (Agree.refl _ _ _)) h1 h2 HR2.out
        rw [List.length_map] at QG0
        have QG := Lib.hid QG0
        clear QG0
        clear hK HK hlt
        go_wp2_with fail
        refine QG.out.mono ?_
        rintro e w2 ⟨rfl, hb2⟩
        go_wp2_with fail
        go_ret
        exact ⟨rfl, hbw.trans (hb2.mono hbw.size)⟩

set_option maxHeartbeats 4000000 in
set_option maxRecDepth 100000 in
theorem ref_same_s_at (a c : List Bd) (A C : Option Addr) (p q : Nat) (w : World) (ha : BLst w A a p) (hc : BLst w C c q) :
    Calls Tryz.prog 26 #[.slice A a.length p, .slice C c.length q] w fun e w' => e = .returned (.bool (sameB a c)) ∧ Below w.heap.size w w' := by
  have hla := ha.len
  have hlc := hc.len
  have HA := Lib.hid ha
  have HC := Lib.hid hc
  clear ha hc
  by_cases hl : a.length = c.length
  · have hne : ((a.length : Int) != (c.length : Int)) = false := by simp [hl]
    have HL := Lib.hid hl
    go_enter Tryz.func26, Tryz.ntmps26
    clear hl
    go_wp2_with fail
    go_loopw [5] (fun i wr => ∃ j : Nat, j ≤ a.length ∧ i = .int .i64 j ∧ Hid (sameUp a c j = true) ∧ Below w.heap.size w wr) (fun i _ => a.length - (intOf i).toNat)
    case atStart => exact ⟨0, Nat.zero_le _, rfl, Lib.hid rfl, Below.refl _ _⟩
    case round =>
      obtain ⟨j, hj, rfl, HF, hbw⟩ := hrel
      by_cases hlt : j < a.length
      · have hltc : j < c.length := by rw [← HL.out]; exact hlt
        obtain ⟨b, o, rfl, ⟨c0, c1, c2, c3, c4⟩, _, hx⟩ := (HA.out.below hbw).get hlt
        obtain ⟨b', o', rfl, ⟨p0, p1, p2, p3, p4⟩, _, hy⟩ := (HC.out.below hbw).get hltc
        have HN := Lib.hid (sameUp_next a c j)
        have HS := Lib.hid (fun h => show sameB a c = false by unfold sameB; rw [sameUp_stop hlt h, Bool.and_false])
        have HP : sameAt a c j = (decide ((a.getD j default).var = (c.getD j default).var) && (cmpT (a.getD j default).tm (c.getD j default).tm == 0)) := rfl
        generalize a.getD j default = x at *
        generalize c.getD j default = y at *
        obtain ⟨r, hr⟩ : ∃ r, (cmpT x.tm y.tm == 0) = r := ⟨_, rfl⟩
        have Q := Lib.hid (fun W (h : Below wr.heap.size wr W) => ref_same_at x.tm y.tm W (hx.below h) (hy.below h) hr)
        rw [hr] at HP
        have HPH := Lib.hid HP
        clear hr HP hx hy
        have d1 : decide ((j : Int) < (a.length : Int)) = true := decide_eq_true (by omega)
        have d2 : decide ((j : Int) < (c.length : Int)) = true := decide_eq_true (by omega)
        obtain ⟨v, k, n, s, A', c', l⟩ := x
        obtain ⟨v', k', n', s', A2, c2', l2⟩ := y
        simp only [Tm.kind, Tm.num, Tm.name, Tm.at_, Tm.args, Tm.cap] at c0 c1 c2 c3 c4 p0 p1 p2 p3 p4
        simp only at HPH
        have c0' := cell_regrown c0
        have c1' := cell_regrown c1
        have c2' := cell_regrown c2
        have c3' := cell_regrown c3
        have c4' := cell_regrown c4
        have p0' := cell_regrown p0
        have p1' := cell_regrown p1
        have p2' := cell_regrown p2
        have p3' := cell_regrown p3
        have p4' := cell_regrown p4
        by_cases hv : v = v'
        · subst hv
          have hv' : (v != v) = false := by simp
          cases r
          · have HE := Lib.hid (HS.out (by rw [HPH.out]; simp))
            go_wp2_with fail
            refine wp_region_quiet_below (by kernel_rfl) (by kernel_rfl) ?_
            repeat (go_big_quiet_step (first | (go_at_call 15; exact Calls.regrown_of (Q.out _ (below_regrown _ _ _)))))
            refine wpQuiet_nil ?_
            intro w1 hw'
            have hb1 := regrown_below hw'
            go_wp2_with fail
            go_ret
            exact ⟨by rw [HE.out]; rfl, hbw.trans (hb1.mono hbw.size)⟩
          · have HE := Lib.hid (show sameUp a c (j + 1) = true by rw [HN.out, HF.out, HPH.out]; simp)
            go_wp2_with fail
            refine wp_region_quiet_below (by kernel_rfl) (by kernel_rfl) ?_
            repeat (go_big_quiet_step (first | (go_at_call 15; exact Calls.regrown_of (Q.out _ (below_regrown _ _ _)))))
            refine wpQuiet_nil ?_
            intro w1 hw'
            have hb1 := regrown_below hw'
            go_wp2_with fail
            go_roundw
            case rel => exact ⟨j + 1, by omega, by go_num, HE, hbw.trans (hb1.mono hbw.size)⟩
            case measure => simp [intOf]; omega
        · have hv' : (v != v') = true := by simpa using hv
          have HE := Lib.hid (HS.out (by rw [HPH.out]; simp [hv]))
          clear hv
          go_wp2_with fail
          refine wp_region_quiet_below (by kernel_rfl) (by kernel_rfl) ?_
          repeat (go_big_quiet_step (fail))
          refine wpQuiet_nil ?_
          intro w1 hw'
          have hb1 := regrown_below hw'
          go_wp2_with fail
          go_ret
          exact ⟨by rw [HE.out]; rfl, hbw.trans (hb1.mono hbw.size)⟩
      · obtain rfl : j = a.length := by omega
        have d1 : decide ((a.length : Int) < (a.length : Int)) = false := decide_eq_false (by omega)
        have HE := Lib.hid (show sameB a c = true by unfold sameB; rw [HF.out, HL.out]; simp)
        go_wp2_with fail
        go_ret
        exact ⟨by rw [HE.out]; rfl, hbw⟩
  · have hne : ((a.length : Int) != (c.length : Int)) = true := by simp; omega
    have HE := Lib.hid (show sameB a c = false by unfold sameB; simp [hl])
    clear hl
    go_enter Tryz.func26, Tryz.ntmps26
    go_wp2_with fail
    go_ret
    exact ⟨by rw [HE.out]; rfl, Below.refl _ _⟩
end Go.Proofs.YtgialbcohkpogaaGreat
