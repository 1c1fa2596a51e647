/-
  Contracts of Lookup, apart and Right of the reference.
  Contract of Right of the reference.
-/
import Derived.Test.YtgialbcohkpogaaGreatSuRow
import Derived.Test.YtgialbcohkpogaaGreatSuDoing
import Derived.Test.YtgialbcohkpogaaGreatSuVarIn
import Derived.Test.YtgialbcohkpogaaGreatSuRight
import Derived.Test.YtgialbcohkpogaaGreatTmVarAll
import Derived.Test.YtgialbcohkpogaaGreatTmValid
import Derived.BigQuiet
import Derived.Deep.QuietTactic
namespace Go.Proofs.YtgialbcohkpogaaGreat
open Go.RowKit Go.Sort

set_option maxHeartbeats 2000000 in
theorem ref_lookup_at (l : List Bd) (A : Option Addr) (c : Nat) (v : Int) (w : World) (hl : BLst w A l c) :
    Calls Tryz.prog 14 #[.slice A l.length c, .int .i64 v] w fun e w' => e = .returned (.tuple #[(optT (look l v)).val, .bool (look l v).isSome]) ∧ Below w.heap.size w w' := by
  have hlen := hl.len
  have HL := Lib.hid hl
  have H0 := Lib.hid (held_new (v0 := .int .i64 0) (v1 := .int .i64 0) (v2 := .string ⟨#[]⟩) (v3 := .slice none 0 0) w 29)
  clear hl
  go_enter Tryz.func14, Tryz.ntmps14
  go_wp2_with fail
  go_loopw [6] (fun i wr => ∃ j : Nat, j ≤ l.length ∧ i = .int .i64 j ∧ Hid (look (l.take j) v = none) ∧ wr = w.alloc zeroBox) (fun i _ => l.length - (intOf i).toNat)
  case atStart => exact ⟨0, Nat.zero_le _, rfl, Lib.hid rfl, rfl⟩
  case round =>
    obtain ⟨j, hj, rfl, HF, rfl⟩ := hrel
    obtain ⟨hz, e0, e1, e2, e3, f⟩ := H0.out
    have f0 := f 0
    have f1 := f 1
    have f2 := f 2
    have f3 := f 3
    clear f
    by_cases hlt : j < l.length
    · obtain ⟨b, o, rfl, ⟨c0, c1, c2, c3, c4⟩, _, _⟩ := (HL.out.below (below1 w zeroBox)).get hlt
      have HN := Lib.hid (look_next hlt HF.out)
      have HT := Lib.hid (fun t (h : look (l.take (j + 1)) v = some t) => look_take h)
      generalize l.getD j default = x at *
      obtain ⟨xv, k', n', s', A', c', a'⟩ := x
      simp only [Tm.kind, Tm.num, Tm.name, Tm.at_, Tm.args, Tm.cap] at c0 c1 c2 c3 c4
      by_cases hv : xv = v
      · subst hv
        have hq : (xv == xv) = true := by simp
        have HE := Lib.hid (HT.out _ (by rw [HN.out, if_pos rfl]))
        go_wp2_with fail
        refine bodyPost_ret (v := .tuple #[.agg #[.int .i64 k', .int .i64 n', .string s', .slice A' a'.length c'], .bool true]) (by simp [results, Tryz.results14, go_sem]) rfl ⟨by rw [HE.out]; rfl, below1 _ _⟩
      · have hq : (xv == v) = false := by simpa using hv
        have HE := Lib.hid (show look (l.take (j + 1)) v = none by rw [HN.out, if_neg hv])
        clear hv
        go_wp2_with fail
        go_roundw
        case rel => exact ⟨j + 1, by omega, by go_num, HE, trivial⟩
        case measure => simp [intOf]; omega
    · obtain rfl : j = l.length := by omega
      have hE := HF.out
      rw [List.take_length] at hE
      have HE := Lib.hid hE
      clear hE HF
      go_wp2_with fail
      refine bodyPost_ret (v := .tuple #[.agg #[.int .i64 0, .int .i64 0, .string ⟨#[]⟩, .slice none 0 0], .bool false]) (by simp [results, Tryz.results14, go_sem, e0, e1, e2, e3]) rfl ⟨by rw [HE.out]; rfl, below1 _ _⟩

/-- Whether none of a term's variables is bound. -/
def freeB (b : List Bd) (t : Tm) : Bool := t.occ.all fun v => (look b v).isNone
theorem free_vars (b : List Bd) (t : Tm) : ((addAll [] t.occ).all fun v => (look b v).isNone) = freeB b t := by
  unfold freeB
  rw [Bool.eq_iff_iff, List.all_eq_true, List.all_eq_true]
  simp only [mem_addAll, List.not_mem_nil, false_or]
theorem ball_next {l : List Bd} {k : Nat} (p : Bd → Bool) (h : k < l.length) : (l.take (k + 1)).all p = ((l.take k).all p && p (l.getD k default)) := by
  rw [btake_next h]; simp
theorem iall_next {l : List Int} {k : Nat} (p : Int → Bool) (h : k < l.length) : (l.take (k + 1)).all p = ((l.take k).all p && p (l.getD k 0)) := by
  rw [take_int h]; simp
theorem iall_stop {l : List Int} {k : Nat} {p : Int → Bool} (h : k < l.length) (hv : p (l.getD k 0) = false) : l.all p = false := by
  rw [List.all_eq_false]
  exact ⟨_, getD_int h, by rw [hv]; simp⟩
theorem ball_stop {l : List Bd} {x : Bd} {p : Bd → Bool} (h : x ∈ l) (hv : p x = false) : l.all p = false := by
  rw [List.all_eq_false]
  exact ⟨x, h, by simp [hv]⟩

set_option maxHeartbeats 4000000 in
theorem apart_at (b : List Bd) (A : Option Addr) (c : Nat) (w : World) (hb : BLst w A b c) (hz : ∀ x ∈ b, x.tm.size ≤ 1000000) :
    Calls Tryz.prog 31 #[.slice A b.length c] w fun e w' => e = .returned (.bool (apartB b)) ∧ Below w.heap.size w w' := by
  have hlen := hb.len
  have HB := Lib.hid hb
  have HZ := Lib.hid hz
  clear hb hz
  go_enter Tryz.func31, Tryz.ntmps31
  go_wp2_with fail
  go_loopw [3] (fun i wr => ∃ j : Nat, j ≤ b.length ∧ i = .int .i64 j ∧ Hid ((b.take j).all (fun x => freeB b x.tm) = true) ∧ Below w.heap.size w wr) (fun i _ => b.length - (intOf i).toNat)
  case atStart => exact ⟨0, Nat.zero_le _, rfl, Lib.hid rfl, Below.refl _ _⟩
  case round =>
    obtain ⟨j, hj, rfl, HF, hbw⟩ := hrel
    by_cases hlt : j < b.length
    · obtain ⟨b0, o, rfl, ⟨c0, c1, c2, c3, c4⟩, _, hx⟩ := (HB.out.below hbw).get hlt
      have HN := Lib.hid (ball_next (fun x => freeB b x.tm) hlt)
      have HM := Lib.hid (fun h => show apartB b = false from ball_stop (p := fun x => freeB b x.tm) (bgetD_mem hlt) h)
      have hsz := HZ.out _ (bgetD_mem hlt)
      generalize b.getD j default = x at *
      have QV := Lib.hid (ref_vars_at x.tm wr hx hsz)
      have HV := Lib.hid (free_vars b x.tm)
      have HAl := Lib.hid (Nat.le_trans (addAll_length [] x.tm.occ) (show _ ≤ 9223372036854775807 by have := occ_length.1 x.tm; simp; omega))
      generalize addAll [] x.tm.occ = os at *
      generalize hfr : freeB b x.tm = fr at *
      have HM2 := Lib.hid (show fr = false → apartB b = false from HM.out)
      have HN2 := Lib.hid (show ((b.take (j + 1)).all fun x => freeB b x.tm) = ((b.take j).all (fun x => freeB b x.tm) && fr) from HN.out)
      clear hx hsz HM HN hfr
      obtain ⟨v, k', n', s', A', c', a'⟩ := x
      simp only [Tm.kind, Tm.num, Tm.name, Tm.at_, Tm.args, Tm.cap] at c0 c1 c2 c3 c4
      go_wp2_with fail
      refine (QV.out).mono ?_
      rintro e w2 ⟨v2, rfl, hown, hb2⟩
      obtain ⟨V, q, rfl, hI, _⟩ := hown.form
      have HI := Lib.hid hI
      have HW := Lib.hid (hbw.trans (hb2.mono hbw.size))
      have hos := HAl.out
      clear hown hI hb2 c0 c1 c2 c3 c4 hbw QV
      go_wp2_with fail
      go_loopw [5] (fun i2 wr2 => ∃ k : Nat, k ≤ os.length ∧ i2 = .int .i64 k ∧ Hid ((os.take k).all (fun v => (look b v).isNone) = true) ∧ Below w2.heap.size w2 wr2) (fun i2 _ => os.length - (intOf i2).toNat)
      case atStart => exact ⟨0, Nat.zero_le _, rfl, Lib.hid rfl, Below.refl _ _⟩
      case round =>
        obtain ⟨k, hk, rfl, HG, hbw2⟩ := hrel
        by_cases hlk : k < os.length
        · obtain ⟨b1, o1, rfl, v0⟩ := (HI.out.below hbw2).get hlk
          have HN3 := Lib.hid (iall_next (fun v => (look b v).isNone) hlk)
          have HS3 := Lib.hid (iall_stop (p := fun v => (look b v).isNone) hlk)
          generalize os.getD k 0 = u at *
          have QL := Lib.hid (fun (W : World) (h : Below w2.heap.size w2 W) => ref_lookup_at b (some ⟨b0, o, none⟩) c u W (HB.out.below (HW.out.trans (h.mono HW.out.size))))
          obtain ⟨t, ht⟩ : ∃ t, optT (look b u) = t := ⟨_, rfl⟩
          rw [ht] at QL
          clear ht
          obtain ⟨tk, tn, ts, tA, tc, ta⟩ := t
          cases hlu : look b u with
          | none =>
            rw [hlu] at QL
            simp only [Option.isSome_none] at QL
            have HE := Lib.hid (show ((os.take (k + 1)).all fun v => (look b v).isNone) = true by rw [HN3.out, HG.out, hlu]; rfl)
            clear hlu
            go_wp2_with fail
            refine (QL.out _ hbw2).mono ?_
            rintro e w3 ⟨rfl, hb3⟩
            have hb4 := hbw2.trans (hb3.mono hbw2.size)
            go_wp2_with fail
            go_roundw
            case rel => exact ⟨k + 1, by omega, by go_num, HE, hb4.alloc hb4.size _⟩
            case measure => simp [intOf]; omega
          | some y =>
            rw [hlu] at QL
            simp only [Option.isSome_some] at QL
            have HE := Lib.hid (HM2.out (by rw [← HV.out]; exact HS3.out (by rw [hlu]; rfl)))
            clear hlu
            go_wp2_with fail
            refine (QL.out _ hbw2).mono ?_
            rintro e w3 ⟨rfl, hb3⟩
            have hb4 := HW.out.trans ((hbw2.trans (hb3.mono hbw2.size)).mono HW.out.size)
            go_wp2_with fail
            go_ret
            exact ⟨by rw [HE.out]; rfl, hb4.alloc hb4.size _⟩
        · obtain rfl : k = os.length := by omega
          have hG := HG.out
          rw [List.take_length, HV.out] at hG
          have HE := Lib.hid (show ((b.take (j + 1)).all fun x => freeB b x.tm) = true by rw [HN2.out, HF.out, hG]; rfl)
          clear hG HG
          go_wp2_with fail
          go_roundw
          case rel => exact ⟨j + 1, by omega, by go_num, HE, HW.out.trans (hbw2.mono HW.out.size)⟩
          case measure => simp [intOf]; omega
    · obtain rfl : j = b.length := by omega
      have hF := HF.out
      rw [List.take_length] at hF
      have HE := Lib.hid (show apartB b = true from hF)
      clear hF HF
      go_wp2_with fail
      go_ret
      exact ⟨by rw [HE.out]; rfl, hbw⟩
end Go.Proofs.YtgialbcohkpogaaGreat
namespace Go.Proofs.YtgialbcohkpogaaGreat
open Go.RowKit Go.Sort

set_option maxHeartbeats 4000000 in
set_option maxRecDepth 100000 in
theorem ref_right_s_at (l : List Bd) (A : Option Addr) (c : Nat) (w : World) (hl : BLst w A l c) (hz : ∀ x ∈ l, x.tm.size ≤ 1000000) :
    Calls Tryz.prog 8 #[.slice A l.length c] w fun e w' => e = .returned (.bool (rightS l)) ∧ Below w.heap.size w w' := by
  have hlen := hl.len
  have HL := Lib.hid hl
  have HZ := Lib.hid hz
  clear hl hz
  go_enter Tryz.func8, Tryz.ntmps8
  go_wp2_with fail
  go_loopw [3] (fun i wr => ∃ j : Nat, j ≤ l.length ∧ i = .int .i64 j ∧ Hid (okUp l j = true) ∧ Below w.heap.size w wr) (fun i _ => l.length - (intOf i).toNat)
  case atStart => exact ⟨0, Nat.zero_le _, rfl, Lib.hid rfl, Below.refl _ _⟩
  case round =>
    obtain ⟨j, hj, rfl, HF, hbw⟩ := hrel
    by_cases hlt : j < l.length
    · obtain ⟨b, o, rfl, ⟨c0, c1, c2, c3, c4⟩, _, ht⟩ := (HL.out.below hbw).get hlt
      have hsz := HZ.out _ (bgetD_mem hlt)
      have HO := Lib.hid (okUp_next l j)
      have HS := Lib.hid (fun h => show rightS l = false by unfold rightS; rw [okUp_stop hlt h]; rfl)
      have HP := Lib.hid (okAt_parts l j)
      obtain ⟨x, hx⟩ : ∃ x, l.getD j default = x := ⟨_, rfl⟩
      rw [hx] at c0 c1 c2 c3 c4 ht HP hsz
      clear hx
      obtain ⟨r, hr⟩ : ∃ r, x.tm.right = r := ⟨_, rfl⟩
      rw [hr] at HP
      have Q1 := Lib.hid (fun W (h : Below wr.heap.size wr W) => ref_right_tm_at x.tm W (ht.below h) hsz hr)
      clear ht hr hsz
      obtain ⟨v', k', n', s', A', c', a'⟩ := x
      simp only [Tm.kind, Tm.num, Tm.name, Tm.at_, Tm.args, Tm.cap] at c0 c1 c2 c3 c4
      simp only at HP
      have c0' := cell_regrown c0
      have c1' := cell_regrown c1
      have c2' := cell_regrown c2
      have c3' := cell_regrown c3
      have c4' := cell_regrown c4
      have jlt : decide ((j : Int) < (l.length : Int)) = true := decide_eq_true (by omega)
      by_cases h0 : v' < 0
      · have HE := Lib.hid (HS.out (by rw [HP.out]; simp; omega))
        have h0' : decide (v' < 0) = true := decide_eq_true h0
        clear h0
        go_wp2_with fail
        refine wp_region_quiet_below (by kernel_rfl) (by kernel_rfl) ?_
        repeat (go_big_quiet_step (fail))
        refine wpQuiet_nil ?_
        intro w1 hw'
        have hb1 := regrown_below hw'
        go_wp2_with fail
        go_ret
        exact ⟨by rw [HE.out]; rfl, hbw.trans (hb1.mono hbw.size)⟩
      · by_cases h1 : v' > 1048576
        · have HE := Lib.hid (HS.out (by rw [HP.out]; simp; omega))
          have h0' : decide (v' < 0) = false := decide_eq_false h0
          have h1' : decide (v' > 1048576) = true := decide_eq_true h1
          clear h0 h1
          go_wp2_with fail
          refine wp_region_quiet_below (by kernel_rfl) (by kernel_rfl) ?_
          repeat (go_big_quiet_step (fail))
          refine wpQuiet_nil ?_
          intro w1 hw'
          have hb1 := regrown_below hw'
          go_wp2_with fail
          go_ret
          exact ⟨by rw [HE.out]; rfl, hbw.trans (hb1.mono hbw.size)⟩
        · have h0' : decide (v' < 0) = false := decide_eq_false h0
          have h1' : decide (v' > 1048576) = false := decide_eq_false h1
          by_cases hj0 : j = 0
          · have HPz := Lib.hid (show okAt l j = r by rw [HP.out]; simp [show (0 : Int) ≤ v' by omega, show v' ≤ 1048576 by omega, hj0])
            have hj' : decide (0 < j) = false := decide_eq_false (by omega)
            clear h0 h1 HP hj0
            cases r
            · have HE := Lib.hid (HS.out HPz.out)
              go_wp2_with fail
              refine wp_region_quiet_below (by kernel_rfl) (by kernel_rfl) ?_
              repeat (go_big_quiet_step (first | (go_at_call 30; exact Calls.regrown_of (Q1.out _ (below_regrown _ _ _)))))
              refine wpQuiet_nil ?_
              intro w1 hw'
              have hb1 := regrown_below hw'
              go_wp2_with fail
              go_ret
              exact ⟨by rw [HE.out]; rfl, hbw.trans (hb1.mono hbw.size)⟩
            · have HN := Lib.hid (show okUp l (j + 1) = true by rw [HO.out, HPz.out, HF.out]; rfl)
              go_wp2_with fail
              refine wp_region_quiet_below (by kernel_rfl) (by kernel_rfl) ?_
              repeat (go_big_quiet_step (first | (go_at_call 30; exact Calls.regrown_of (Q1.out _ (below_regrown _ _ _)))))
              refine wpQuiet_nil ?_
              intro w1 hw'
              have hb1 := regrown_below hw'
              go_wp2_with fail
              go_roundw
              case rel => exact ⟨j + 1, by omega, by go_num, HN, hbw.trans (hb1.mono hbw.size)⟩
              case measure => simp [intOf]; omega
          · obtain ⟨jp, rfl⟩ : ∃ jp, j = jp + 1 := ⟨j - 1, by omega⟩
            obtain ⟨b', o', e', ⟨p0, _⟩, _⟩ := (HL.out.below hbw).get (show jp < l.length by omega)
            injection e' with e'
            injection e' with e1 e2 _
            subst e1 e2
            have HP3 := Lib.hid (show okAt l (jp + 1) = (r && decide ((l.getD jp default).var < v')) by rw [HP.out]; simp [show (0 : Int) ≤ v' by omega, show v' ≤ 1048576 by omega])
            generalize (l.getD jp default).var = u at *
            have p0' := cell_regrown p0
            have hj' : decide ((jp : Int) + 1 > 0) = true := decide_eq_true (by omega)
            clear h0 h1 HP
            by_cases hu : u < v'
            · have hu' : decide (v' ≤ u) = false := decide_eq_false (by omega)
              have HP4 := Lib.hid (show okAt l (jp + 1) = r by rw [HP3.out, decide_eq_true hu, Bool.and_true])
              clear hu HP3
              cases r
              · have HE := Lib.hid (HS.out HP4.out)
                go_wp2_with fail
                refine wp_region_quiet_below (by kernel_rfl) (by kernel_rfl) ?_
                repeat (go_big_quiet_step (first | (go_at_call 30; exact Calls.regrown_of (Q1.out _ (below_regrown _ _ _)))))
                refine wpQuiet_nil ?_
                intro w1 hw'
                have hb1 := regrown_below hw'
                go_wp2_with fail
                go_ret
                exact ⟨by rw [HE.out]; rfl, hbw.trans (hb1.mono hbw.size)⟩
              · have HN := Lib.hid (show okUp l (jp + 1 + 1) = true by rw [HO.out, HP4.out, HF.out]; rfl)
                go_wp2_with fail
                refine wp_region_quiet_below (by kernel_rfl) (by kernel_rfl) ?_
                repeat (go_big_quiet_step (first | (go_at_call 30; exact Calls.regrown_of (Q1.out _ (below_regrown _ _ _)))))
                refine wpQuiet_nil ?_
                intro w1 hw'
                have hb1 := regrown_below hw'
                go_wp2_with fail
                go_roundw
                case rel => exact ⟨jp + 1 + 1, by omega, by go_num, HN, hbw.trans (hb1.mono hbw.size)⟩
                case measure => simp [intOf]; omega
            · have HE := Lib.hid (HS.out (by rw [HP3.out, decide_eq_false hu, Bool.and_false]))
              have hu' : decide (v' ≤ u) = true := decide_eq_true (by omega)
              clear hu
              go_wp2_with fail
              refine wp_region_quiet_below (by kernel_rfl) (by kernel_rfl) ?_
              repeat (go_big_quiet_step (fail))
              refine wpQuiet_nil ?_
              intro w1 hw'
              have hb1 := regrown_below hw'
              go_wp2_with fail
              go_ret
              exact ⟨by rw [HE.out]; rfl, hbw.trans (hb1.mono hbw.size)⟩
    · obtain rfl : j = l.length := by omega
      have Q2 := Lib.hid (apart_at l A c wr (HL.out.below hbw) HZ.out)
      have HE := Lib.hid (show apartB l = rightS l by unfold rightS; rw [HF.out]; rfl)
      have jlt : decide ((l.length : Int) < (l.length : Int)) = false := decide_eq_false (by omega)
      go_wp2_with fail
      refine (Q2.out).mono ?_
      rintro e w2 ⟨rfl, hb2⟩
      go_wp2_with fail
      go_ret
      exact ⟨by rw [← HE.out]; rfl, hbw.trans (hb2.mono hbw.size)⟩
end Go.Proofs.YtgialbcohkpogaaGreat
