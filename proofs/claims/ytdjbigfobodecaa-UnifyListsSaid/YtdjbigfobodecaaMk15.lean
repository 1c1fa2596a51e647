/-
  Contracts of Vars, VarsOf, Ground and Occurs of the reference.
  Contracts of Lookup, apart and Right of the reference.
  Contract of Right of the reference.
  Contracts of Apply and ApplyTerms of the reference.
  The reference's classes, plainly: numbers of classes, two classes made one, the node that stands for a class. No program.
-/
import Derived.Test.YtdjbigfobodecaaMk4
import Derived.Test.YtdjbigfobodecaaMk5
import Derived.Test.YtdjbigfobodecaaMk6
import Derived.Test.YtdjbigfobodecaaMk8
import Derived.Test.YtdjbigfobodecaaMk14
import Derived.Test.YtdjbigfobodecaaMk7
import Derived.BigQuiet
import Derived.Deep.QuietTactic
import Derived.Test.YtdjbigfobodecaaMk11
import Derived.Test.YtdjbigfobodecaaMk10
namespace Go.Proofs.Ytdjbigfobodecaa
open Go.RowKit

theorem ref_vars_at (t : Tm) (w : World) (ht : t.At w) (hs : t.size ≤ 1000000) : Calls Try.prog 58 #[t.val] w (Grows w (addAll [] t.occ)) := by
  have Q := Lib.hid (fun W (h : Below w.heap.size w W) => vars_at t (.slice none 0 0) [] w W ht h (OwnI.nil _ _) (by simpa using hs))
  obtain ⟨k, n, s, A, c, a⟩ := t
  show Calls Try.prog 58 #[.agg #[.int .i64 k, .int .i64 n, .string s, .slice A a.length c]] w _
  generalize (Tm.mk k n s A c a).occ = oc at *
  clear ht hs
  go_enter Try.func58, Try.ntmps58
  go_wp2_with fail
  refine (Q.out _ ((Below.refl _ _).alloc (Nat.le_refl _) _)).mono ?_
  rintro e w1 ⟨v, rfl, hown, hb⟩
  go_wp2_with fail
  go_ret
  exact Grows.mk rfl hown hb

end Go.Proofs.Ytdjbigfobodecaa
namespace Go.Proofs.Ytdjbigfobodecaa
open Go.RowKit Go.Sort

set_option maxHeartbeats 2000000 in
theorem ref_lookup_at (l : List Bd) (A : Option Addr) (c : Nat) (v : Int) (w : World) (hl : BLst w A l c) :
    Calls Try.prog 34 #[.slice A l.length c, .int .i64 v] w fun e w' => e = .returned (.tuple #[(optT (look l v)).val, .bool (look l v).isSome]) ∧ Below w.heap.size w w' := by
  have hlen := hl.len
  have HL := Lib.hid hl
  have H0 := Lib.hid (held_new (v0 := .int .i64 0) (v1 := .int .i64 0) (v2 := .string ⟨#[]⟩) (v3 := .slice none 0 0) w 24)
  clear hl
  go_enter Try.func34, Try.ntmps34
  go_wp2_with fail
  go_loopw [6] (fun i wr => ∃ j : Nat, j ≤ l.length ∧ i = .int .i64 j ∧ Hid (look (l.take j) v = none) ∧ wr = w.alloc zeroBox) (fun i _ => l.length - (intOf i).toNat)
  case atStart => exact ⟨0, Nat.zero_le _, rfl, Lib.hid rfl, rfl⟩
  case round =>
    obtain ⟨j, hj, rfl, HF, rfl⟩ := hrel
    obtain ⟨hz, e0, e1, e2, e3, f⟩ := H0.out
    have f0 := f 0
    have f1 := f 1
    have f2 := f 2
    have f3 := f 3
    clear f
    by_cases hlt : j < l.length
    · obtain ⟨b, o, rfl, ⟨c0, c1, c2, c3, c4⟩, _, _⟩ := (HL.out.below (below1 w zeroBox)).get hlt
      have HN := Lib.hid (look_next hlt HF.out)
      have HT := Lib.hid (fun t (h : look (l.take (j + 1)) v = some t) => look_take h)
      generalize l.getD j default = x at *
      obtain ⟨xv, k', n', s', A', c', a'⟩ := x
      simp only [Tm.kind, Tm.num, Tm.name, Tm.at_, Tm.args, Tm.cap] at c0 c1 c2 c3 c4
      by_cases hv : xv = v
      · subst hv
        have hq : (xv == xv) = true := by simp
        have HE := Lib.hid (HT.out _ (by rw [HN.out, if_pos rfl]))
        go_wp2_with fail
        refine bodyPost_ret (v := .tuple #[.agg #[.int .i64 k', .int .i64 n', .string s', .slice A' a'.length c'], .bool true]) (by simp [results, Try.results34, go_sem]) rfl ⟨by rw [HE.out]; rfl, below1 _ _⟩
      · have hq : (xv == v) = false := by simpa using hv
        have HE := Lib.hid (show look (l.take (j + 1)) v = none by rw [HN.out, if_neg hv])
        clear hv
        go_wp2_with fail
        go_roundw
        case rel => exact ⟨j + 1, by omega, by go_num, HE, trivial⟩
        case measure => simp [intOf]; omega
    · obtain rfl : j = l.length := by omega
      have hE := HF.out
      rw [List.take_length] at hE
      have HE := Lib.hid hE
      clear hE HF
      go_wp2_with fail
      refine bodyPost_ret (v := .tuple #[.agg #[.int .i64 0, .int .i64 0, .string ⟨#[]⟩, .slice none 0 0], .bool false]) (by simp [results, Try.results34, go_sem, e0, e1, e2, e3]) rfl ⟨by rw [HE.out]; rfl, below1 _ _⟩

/-- Whether none of a term's variables is bound. -/
def freeB (b : List Bd) (t : Tm) : Bool := t.occ.all fun v => (look b v).isNone
theorem free_vars (b : List Bd) (t : Tm) : ((addAll [] t.occ).all fun v => (look b v).isNone) = freeB b t := by
  unfold freeB
  rw [Bool.eq_iff_iff, List.all_eq_true, List.all_eq_true]
  simp only [mem_addAll, List.not_mem_nil, false_or]
theorem ball_next {l : List Bd} {k : Nat} (p : Bd → Bool) (h : k < l.length) : (l.take (k + 1)).all p = ((l.take k).all p && p (l.getD k default)) := by
  rw [btake_next h]; simp
theorem iall_next {l : List Int} {k : Nat} (p : Int → Bool) (h : k < l.length) : (l.take (k + 1)).all p = ((l.take k).all p && p (l.getD k 0)) := by
  rw [take_int h]; simp
theorem iall_stop {l : List Int} {k : Nat} {p : Int → Bool} (h : k < l.length) (hv : p (l.getD k 0) = false) : l.all p = false := by
  rw [List.all_eq_false]
  exact ⟨_, getD_int h, by rw [hv]; simp⟩
theorem ball_stop {l : List Bd} {x : Bd} {p : Bd → Bool} (h : x ∈ l) (hv : p x = false) : l.all p = false := by
  rw [List.all_eq_false]
  exact ⟨x, h, by simp [hv]⟩

set_option maxHeartbeats 4000000 in
theorem apart_at (b : List Bd) (A : Option Addr) (c : Nat) (w : World) (hb : BLst w A b c) (hz : ∀ x ∈ b, x.tm.size ≤ 1000000) :
    Calls Try.prog 32 #[.slice A b.length c] w fun e w' => e = .returned (.bool (apartB b)) ∧ Below w.heap.size w w' := by
  have hlen := hb.len
  have HB := Lib.hid hb
  have HZ := Lib.hid hz
  clear hb hz
  go_enter Try.func32, Try.ntmps32
  go_wp2_with fail
  go_loopw [3] (fun i wr => ∃ j : Nat, j ≤ b.length ∧ i = .int .i64 j ∧ Hid ((b.take j).all (fun x => freeB b x.tm) = true) ∧ Below w.heap.size w wr) (fun i _ => b.length - (intOf i).toNat)
  case atStart => exact ⟨0, Nat.zero_le _, rfl, Lib.hid rfl, Below.refl _ _⟩
  case round =>
    obtain ⟨j, hj, rfl, HF, hbw⟩ := hrel
    by_cases hlt : j < b.length
    · obtain ⟨b0, o, rfl, ⟨c0, c1, c2, c3, c4⟩, _, hx⟩ := (HB.out.below hbw).get hlt
      have HN := Lib.hid (ball_next (fun x => freeB b x.tm) hlt)
      have HM := Lib.hid (fun h => show apartB b = false from ball_stop (p := fun x => freeB b x.tm) (bgetD_mem hlt) h)
      have hsz := HZ.out _ (bgetD_mem hlt)
      generalize b.getD j default = x at *
      have QV := Lib.hid (ref_vars_at x.tm wr hx hsz)
      have HV := Lib.hid (free_vars b x.tm)
      have HAl := Lib.hid (Nat.le_trans (addAll_length [] x.tm.occ) (show _ ≤ 9223372036854775807 by have := occ_length.1 x.tm; simp; omega))
      generalize addAll [] x.tm.occ = os at *
      generalize hfr : freeB b x.tm = fr at *
      have HM2 := Lib.hid (show fr = false → apartB b = false from HM.out)
      have HN2 := Lib.hid (show ((b.take (j + 1)).all fun x => freeB b x.tm) = ((b.take j).all (fun x => freeB b x.tm) && fr) from HN.out)
      clear hx hsz HM HN hfr
      obtain ⟨v, k', n', s', A', c', a'⟩ := x
      simp only [Tm.kind, Tm.num, Tm.name, Tm.at_, Tm.args, Tm.cap] at c0 c1 c2 c3 c4
      go_wp2_with fail
      refine (QV.out).mono ?_
      rintro e w2 ⟨v2, rfl, hown, hb2⟩
      obtain ⟨V, q, rfl, hI, _⟩ := hown.form
      have HI := Lib.hid hI
      have HW := Lib.hid (hbw.trans (hb2.mono hbw.size))
      have hos := HAl.out
      clear hown hI hb2 c0 c1 c2 c3 c4 hbw QV
      go_wp2_with fail
      go_loopw [5] (fun i2 wr2 => ∃ k : Nat, k ≤ os.length ∧ i2 = .int .i64 k ∧ Hid ((os.take k).all (fun v => (look b v).isNone) = true) ∧ Below w2.heap.size w2 wr2) (fun i2 _ => os.length - (intOf i2).toNat)
      case atStart => exact ⟨0, Nat.zero_le _, rfl, Lib.hid rfl, Below.refl _ _⟩
      case round =>
        obtain ⟨k, hk, rfl, HG, hbw2⟩ := hrel
        by_cases hlk : k < os.length
        · obtain ⟨b1, o1, rfl, v0⟩ := (HI.out.below hbw2).get hlk
          have HN3 := Lib.hid (iall_next (fun v => (look b v).isNone) hlk)
          have HS3 := Lib.hid (iall_stop (p := fun v => (look b v).isNone) hlk)
          generalize os.getD k 0 = u at *
          have QL := Lib.hid (fun (W : World) (h : Below w2.heap.size w2 W) => ref_lookup_at b (some ⟨b0, o, none⟩) c u W (HB.out.below (HW.out.trans (h.mono HW.out.size))))
          obtain ⟨t, ht⟩ : ∃ t, optT (look b u) = t := ⟨_, rfl⟩
          rw [ht] at QL
          clear ht
          obtain ⟨tk, tn, ts, tA, tc, ta⟩ := t
          cases hlu : look b u with
          | none =>
            rw [hlu] at QL
            simp only [Option.isSome_none] at QL
            have HE := Lib.hid (show ((os.take (k + 1)).all fun v => (look b v).isNone) = true by rw [HN3.out, HG.out, hlu]; rfl)
            clear hlu
            go_wp2_with fail
            refine (QL.out _ hbw2).mono ?_
            rintro e w3 ⟨rfl, hb3⟩
            have hb4 := hbw2.trans (hb3.mono hbw2.size)
            go_wp2_with fail
            go_roundw
            case rel => exact ⟨k + 1, by omega, by go_num, HE, hb4.alloc hb4.size _⟩
            case measure => simp [intOf]; omega
          | some y =>
            rw [hlu] at QL
            simp only [Option.isSome_some] at QL
            have HE := Lib.hid (HM2.out (by rw [← HV.out]; exact HS3.out (by rw [hlu]; rfl)))
            clear hlu
            go_wp2_with fail
            refine (QL.out _ hbw2).mono ?_
            rintro e w3 ⟨rfl, hb3⟩
            have hb4 := HW.out.trans ((hbw2.trans (hb3.mono hbw2.size)).mono HW.out.size)
            go_wp2_with fail
            go_ret
            exact ⟨by rw [HE.out]; rfl, hb4.alloc hb4.size _⟩
        · obtain rfl : k = os.length := by omega
          have hG := HG.out
          rw [List.take_length, HV.out] at hG
          have HE := Lib.hid (show ((b.take (j + 1)).all fun x => freeB b x.tm) = true by rw [HN2.out, HF.out, hG]; rfl)
          clear hG HG
          go_wp2_with fail
          go_roundw
          case rel => exact ⟨j + 1, by omega, by go_num, HE, HW.out.trans (hbw2.mono HW.out.size)⟩
          case measure => simp [intOf]; omega
    · obtain rfl : j = b.length := by omega
      have hF := HF.out
      rw [List.take_length] at hF
      have HE := Lib.hid (show apartB b = true from hF)
      clear hF HF
      go_wp2_with fail
      go_ret
      exact ⟨by rw [HE.out]; rfl, hbw⟩
end Go.Proofs.Ytdjbigfobodecaa
namespace Go.Proofs.Ytdjbigfobodecaa
open Go.RowKit Go.Sort

set_option maxHeartbeats 4000000 in
set_option maxRecDepth 100000 in
theorem ref_right_s_at (l : List Bd) (A : Option Addr) (c : Nat) (w : World) (hl : BLst w A l c) (hz : ∀ x ∈ l, x.tm.size ≤ 1000000) :
    Calls Try.prog 18 #[.slice A l.length c] w fun e w' => e = .returned (.bool (rightS l)) ∧ Below w.heap.size w w' := by
  have hlen := hl.len
  have HL := Lib.hid hl
  have HZ := Lib.hid hz
  clear hl hz
  go_enter Try.func18, Try.ntmps18
  go_wp2_with fail
  go_loopw [3] (fun i wr => ∃ j : Nat, j ≤ l.length ∧ i = .int .i64 j ∧ Hid (okUp l j = true) ∧ Below w.heap.size w wr) (fun i _ => l.length - (intOf i).toNat)
  case atStart => exact ⟨0, Nat.zero_le _, rfl, Lib.hid rfl, Below.refl _ _⟩
  case round =>
    obtain ⟨j, hj, rfl, HF, hbw⟩ := hrel
    by_cases hlt : j < l.length
    · obtain ⟨b, o, rfl, ⟨c0, c1, c2, c3, c4⟩, _, ht⟩ := (HL.out.below hbw).get hlt
      have hsz := HZ.out _ (bgetD_mem hlt)
      have HO := Lib.hid (okUp_next l j)
      have HS := Lib.hid (fun h => show rightS l = false by unfold rightS; rw [okUp_stop hlt h]; rfl)
      have HP := Lib.hid (okAt_parts l j)
      obtain ⟨x, hx⟩ : ∃ x, l.getD j default = x := ⟨_, rfl⟩
      rw [hx] at c0 c1 c2 c3 c4 ht HP hsz
      clear hx
      obtain ⟨r, hr⟩ : ∃ r, x.tm.right = r := ⟨_, rfl⟩
      rw [hr] at HP
      have Q1 := Lib.hid (fun W (h : Below wr.heap.size wr W) => ref_right_tm_at x.tm W (ht.below h) hsz hr)
      clear ht hr hsz
      obtain ⟨v', k', n', s', A', c', a'⟩ := x
      simp only [Tm.kind, Tm.num, Tm.name, Tm.at_, Tm.args, Tm.cap] at c0 c1 c2 c3 c4
      simp only at HP
      have c0' := cell_regrown c0
      have c1' := cell_regrown c1
      have c2' := cell_regrown c2
      have c3' := cell_regrown c3
      have c4' := cell_regrown c4
      have jlt : decide ((j : Int) < (l.length : Int)) = true := decide_eq_true (by omega)
      by_cases h0 : v' < 0
      · have HE := Lib.hid (HS.out (by rw [HP.out]; simp; omega))
        have h0' : decide (v' < 0) = true := decide_eq_true h0
        clear h0
        go_wp2_with fail
        refine wp_region_quiet_below (by kernel_rfl) (by kernel_rfl) ?_
        repeat (go_big_quiet_step (fail))
        refine wpQuiet_nil ?_
        intro w1 hw'
        have hb1 := regrown_below hw'
        go_wp2_with fail
        go_ret
        exact ⟨by rw [HE.out]; rfl, hbw.trans (hb1.mono hbw.size)⟩
      · by_cases h1 : v' > 1048576
        · have HE := Lib.hid (HS.out (by rw [HP.out]; simp; omega))
          have h0' : decide (v' < 0) = false := decide_eq_false h0
          have h1' : decide (v' > 1048576) = true := decide_eq_true h1
          clear h0 h1
          go_wp2_with fail
          refine wp_region_quiet_below (by kernel_rfl) (by kernel_rfl) ?_
          repeat (go_big_quiet_step (fail))
          refine wpQuiet_nil ?_
          intro w1 hw'
          have hb1 := regrown_below hw'
          go_wp2_with fail
          go_ret
          exact ⟨by rw [HE.out]; rfl, hbw.trans (hb1.mono hbw.size)⟩
        · have h0' : decide (v' < 0) = false := decide_eq_false h0
          have h1' : decide (v' > 1048576) = false := decide_eq_false h1
          by_cases hj0 : j = 0
          · have HPz := Lib.hid (show okAt l j = r by rw [HP.out]; simp [show (0 : Int) ≤ v' by omega, show v' ≤ 1048576 by omega, hj0])
            have hj' : decide (0 < j) = false := decide_eq_false (by omega)
            clear h0 h1 HP hj0
            cases r
            · have HE := Lib.hid (HS.out HPz.out)
              go_wp2_with fail
              refine wp_region_quiet_below (by kernel_rfl) (by kernel_rfl) ?_
              repeat (go_big_quiet_step (first | (go_at_call 21; exact Calls.regrown_of (Q1.out _ (below_regrown _ _ _)))))
              refine wpQuiet_nil ?_
              intro w1 hw'
              have hb1 := regrown_below hw'
              go_wp2_with fail
              go_ret
              exact ⟨by rw [HE.out]; rfl, hbw.trans (hb1.mono hbw.size)⟩
            · have HN := Lib.hid (show okUp l (j + 1) = true by rw [HO.out, HPz.out, HF.out]; rfl)
              go_wp2_with fail
              refine wp_region_quiet_below (by kernel_rfl) (by kernel_rfl) ?_
              repeat (go_big_quiet_step (first | (go_at_call 21; exact Calls.regrown_of (Q1.out _ (below_regrown _ _ _)))))
              refine wpQuiet_nil ?_
              intro w1 hw'
              have hb1 := regrown_below hw'
              go_wp2_with fail
              go_roundw
              case rel => exact ⟨j + 1, by omega, by go_num, HN, hbw.trans (hb1.mono hbw.size)⟩
              case measure => simp [intOf]; omega
          · obtain ⟨jp, rfl⟩ : ∃ jp, j = jp + 1 := ⟨j - 1, by omega⟩
            obtain ⟨b', o', e', ⟨p0, _⟩, _⟩ := (HL.out.below hbw).get (show jp < l.length by omega)
            injection e' with e'
            injection e' with e1 e2 _
            subst e1 e2
            have HP3 := Lib.hid (show okAt l (jp + 1) = (r && decide ((l.getD jp default).var < v')) by rw [HP.out]; simp [show (0 : Int) ≤ v' by omega, show v' ≤ 1048576 by omega])
            generalize (l.getD jp default).var = u at *
            have p0' := cell_regrown p0
            have hj' : decide ((jp : Int) + 1 > 0) = true := decide_eq_true (by omega)
            clear h0 h1 HP
            by_cases hu : u < v'
            · have hu' : decide (v' ≤ u) = false := decide_eq_false (by omega)
              have HP4 := Lib.hid (show okAt l (jp + 1) = r by rw [HP3.out, decide_eq_true hu, Bool.and_true])
              clear hu HP3
              cases r
              · have HE := Lib.hid (HS.out HP4.out)
                go_wp2_with fail
                refine wp_region_quiet_below (by kernel_rfl) (by kernel_rfl) ?_
                repeat (go_big_quiet_step (first | (go_at_call 21; exact Calls.regrown_of (Q1.out _ (below_regrown _ _ _)))))
                refine wpQuiet_nil ?_
                intro w1 hw'
                have hb1 := regrown_below hw'
                go_wp2_with fail
                go_ret
                exact ⟨by rw [HE.out]; rfl, hbw.trans (hb1.mono hbw.size)⟩
              · have HN := Lib.hid (show okUp l (jp + 1 + 1) = true by rw [HO.out, HP4.out, HF.out]; rfl)
                go_wp2_with fail
                refine wp_region_quiet_below (by kernel_rfl) (by kernel_rfl) ?_
                repeat (go_big_quiet_step (first | (go_at_call 21; exact Calls.regrown_of (Q1.out _ (below_regrown _ _ _)))))
                refine wpQuiet_nil ?_
                intro w1 hw'
                have hb1 := regrown_below hw'
                go_wp2_with fail
                go_roundw
                case rel => exact ⟨jp + 1 + 1, by omega, by go_num, HN, hbw.trans (hb1.mono hbw.size)⟩
                case measure => simp [intOf]; omega
            · have HE := Lib.hid (HS.out (by rw [HP3.out, decide_eq_false hu, Bool.and_false]))
              have hu' : decide (v' ≤ u) = true := decide_eq_true (by omega)
              clear hu
              go_wp2_with fail
              refine wp_region_quiet_below (by kernel_rfl) (by kernel_rfl) ?_
              repeat (go_big_quiet_step (fail))
              refine wpQuiet_nil ?_
              intro w1 hw'
              have hb1 := regrown_below hw'
              go_wp2_with fail
              go_ret
              exact ⟨by rw [HE.out]; rfl, hbw.trans (hb1.mono hbw.size)⟩
    · obtain rfl : j = l.length := by omega
      have Q2 := Lib.hid (apart_at l A c wr (HL.out.below hbw) HZ.out)
      have HE := Lib.hid (show apartB l = rightS l by unfold rightS; rw [HF.out]; rfl)
      have jlt : decide ((l.length : Int) < (l.length : Int)) = false := decide_eq_false (by omega)
      go_wp2_with fail
      refine (Q2.out).mono ?_
      rintro e w2 ⟨rfl, hb2⟩
      go_wp2_with fail
      go_ret
      exact ⟨by rw [← HE.out]; rfl, hbw.trans (hb2.mono hbw.size)⟩
end Go.Proofs.Ytdjbigfobodecaa
namespace Go.Proofs.Ytdjbigfobodecaa
open Go.RowKit

/-- The worlds behind w0. -/
abbrev From (w0 : World) : World → Prop := fun W => Below w0.heap.size w0 W
/-- A term like t: its parts lie where the caller's do, or in blocks of the call's own. -/
def RMade (w0 : World) (t : Tm) (w : World) (e : Ending) (w' : World) : Prop := ∃ u : Tm, e = .returned u.val ∧ u.strip = t.strip ∧ Lie (From w0) w.heap.size No w' u ∧ Below w.heap.size w w'
def RMadeN (w0 : World) (n : Nat) (m : List Tm) (w : World) (e : Ending) (w' : World) : Prop :=
  ∃ A cap, ∃ cur : List Tm, e = .returned (.slice A n cap) ∧ cur.length = n ∧ stripL cur = stripL m ∧ (∀ W, From w0 W → Agree w.heap.size No w' W → Lst W A cur cap) ∧ Below w.heap.size w w'
theorem rlie_row {B : World → Prop} {w w' : World} {k n : Int} {s : ByteArray} {A : Option Addr} {cap lo : Nat} {cur : List Tm} (hp : Fits k ∧ Fits n ∧ s.size ≤ maxLen) (h : ∀ W, B W → Agree lo No w' W → Lst W A cur cap) (hlo : w.heap.size ≤ lo) : Lie B w.heap.size No w' (.mk k n s A cap cur) :=
  fun W hB hW => (At_iff _ _).2 ⟨hp, h W hB fun b h1 h2 h3 => hW b (by omega) h2 h3⟩
theorem take_tm {l : List Tm} {k : Nat} (h : k < l.length) : l.take (k + 1) = l.take k ++ [l.getD k default] := by
  rw [List.take_add_one, List.getElem?_eq_getElem h]
  simp [List.getD, List.getElem?_eq_getElem h]

set_option maxHeartbeats 4000000 in
set_option maxRecDepth 100000 in
theorem ref_apply_terms_at (w0 : World) (b : List Bd) (D : Option Addr) (q : Nat) (l : List Tm) (A : Option Addr) (c : Nat) (w : World) (hl : Lst w A l c) (hsz : l.length ≤ 1000000)
    (ih : ∀ x ∈ l, ∀ W : World, Below w.heap.size w W → Calls Try.prog 20 #[.slice D b.length q, x.val] W (RMade w0 (x.app b) W)) :
    Calls Try.prog 35 #[.slice D b.length q, .slice A l.length c] w (RMadeN w0 l.length (appL b l) w) := by
  obtain ⟨i0, hi, hz0, hz1, hz2⟩ := info_parts term_info
  have HL := Lib.hid hl
  have HI := Lib.hid ih
  have HA := Lib.hid (fun l => appL_map b l)
  clear hl ih
  go_enter Try.func35, Try.ntmps35
  go_wp2_with fail
  go_loopw [5, 6] (fun z i wr => ∃ (j : Nat) (acc : List Tm) (x : Value), j ≤ l.length ∧ i = .int .i64 j ∧ z = x ∧ Hid (RowT (From w0) w.heap.size wr x acc) ∧ Hid (stripL acc = stripL (appL b (l.take j))) ∧ Hid (acc.length = j) ∧ Below w.heap.size w wr) (fun _ i _ => l.length - (intOf i).toNat)
  case atStart => exact ⟨0, [], _, Nat.zero_le _, rfl, rfl, Lib.hid (RowT.nil _ _ _), Lib.hid rfl, Lib.hid rfl, Below.refl _ _⟩
  case round =>
    obtain ⟨j, acc, z, hj, rfl, hz, HK, HS, HAc, hbw⟩ := hrel
    have hz' := hz.symm
    subst hz'
    clear hz
    by_cases hlt : j < l.length
    · obtain ⟨b0, o, rfl, ⟨c0, c1, c2, c3⟩, _⟩ := (HL.out.below hbw).get hlt
      have HT := Lib.hid (take_tm hlt)
      have Q := Lib.hid (fun W (h : Below w.heap.size w W) => HI.out _ (getD_mem hlt) W h)
      have hal : acc.length ≤ 1000000 := by rw [HAc.out]; omega
      generalize l.getD j default = x at *
      obtain ⟨k', n', s', A', c', a'⟩ := x
      simp only [Tm.kind, Tm.num, Tm.name, Tm.at_, Tm.args, Tm.cap] at c0 c1 c2 c3
      go_wp2_with fail
      refine (Q.out _ hbw).mono ?_
      rintro e w2 ⟨u, rfl, hu, hlie, hb2⟩
      have HU := Lib.hid (lie_apart HK.out.1 hlie hbw.size (Nat.le_refl _))
      have HK2 := Lib.hid (HK.out.below hb2)
      have HS2 := Lib.hid (show stripL (acc ++ [u]) = stripL (appL b (l.take (j + 1))) by
        rw [HT.out, HA.out, List.map_append, stripL_append, stripL_append, HS.out, HA.out]
        simp only [stripL, List.map_cons, List.map_nil, hu])
      have hbw2 := hbw.trans (hb2.mono hbw.size)
      have HOwn := Lib.hid (own_lt HK2.out.1)
      have hlo := hbw2.size
      clear hu hlie hb2 hbw c0 c1 c2 c3 HK HS Q
      obtain ⟨k2, n2, s2, A2, p2, a2⟩ := u
      go_wp2_with (at_builtin; refine wpList_append_lies _ rfl _ _ 22 rfl w.heap.size 24 i0 _ 4 56 Try.underlying22 hi hz0 hz1 hz2 rfl (by decide) _ acc.length (tcells acc) rfl (HK2.out.1.alloc _) ⟨w2.heap.size, 0, none⟩ 1 1 (Tm.cells (.mk k2 n2 s2 A2 p2 a2)) rfl rfl (tnews1 w2 (.mk k2 n2 s2 A2 p2 a2) _) (cells_one _) (by decide) (by unfold maxLen; omega) (by omega) (by simp; omega) _ rfl ?_; intro g cap w5 hown hg hat hglt)
      have HR5 := Lib.hid (HK2.out.next (u := .mk k2 n2 s2 A2 p2 a2) HU.out (below1 w2 _) hown hg hat)
      have HB5 : Below w.heap.size w w5 := (hbw2.alloc hbw2.size _).grown hg (by simp; omega) (fun k hk => (HOwn.out k hk).1)
      clear hown hg hat hglt
      go_wp2_with fail
      go_roundw
      case rel => exact ⟨j + 1, acc ++ [.mk k2 n2 s2 A2 p2 a2], _, by omega, by go_num, rfl, HR5, HS2, Lib.hid (by rw [List.length_append, HAc.out]; rfl), HB5⟩
      case measure => simp [intOf]; omega
    · obtain rfl : j = l.length := by omega
      have hK := HK.out
      obtain ⟨A', cz, hz, hcz⟩ := hK.form
      subst hz
      have HF := Lib.hid hK.lies
      have HE := Lib.hid (show stripL acc = stripL (appL b l) by rw [HS.out, List.take_length])
      rw [HAc.out]
      clear hK HK hlt HS hcz
      go_wp2_with fail
      go_ret
      exact ⟨A', cz, acc, rfl, HAc.out, HE.out, HF.out, hbw⟩

set_option maxHeartbeats 4000000 in
theorem ref_apply_at (w0 : World) (b : List Bd) (D : Option Addr) (q : Nat) (hb : BLst w0 D b q) (t : Tm) : t.At w0 → t.nodes ≤ 1000000 → ∀ w : World, Below w0.heap.size w0 w → Calls Try.prog 20 #[.slice D b.length q, t.val] w (RMade w0 (t.app b) w) := by
  induction t using Tm.induct with
  | h k n s A c a ih =>
    intro hat hnodes w hw
    show Calls Try.prog 20 #[.slice D b.length q, .agg #[.int .i64 k, .int .i64 n, .string s, .slice A a.length c]] w _
    have HT := Lib.hid hat
    have HP := Lib.hid ((At_iff _ _).1 hat).1
    simp only [Tm.kind, Tm.num, Tm.name] at HP
    obtain ⟨HB0, HB1⟩ := two_boxes w (.int .i64 k) (.int .i64 n) (.string s) (.slice A a.length c) (.int .i64 0) (.int .i64 0) (.string ⟨#[]⟩) (.slice none 0 0) 24
    have H0 := Lib.hid HB0
    have H1 := Lib.hid HB1
    clear HB0 HB1
    by_cases k2 : k = 2
    · subst k2
      have hl : Lst w0 A a c := hat.lst
      have hna : nodesL a ≤ 1000000 := by simp only [Tm.nodes] at hnodes; omega
      have hln : a.length ≤ 1000000 := by have := length_le_nodes a; omega
      have Q1 := Lib.hid (fun W (h : Below w.heap.size w W) => ref_apply_terms_at w0 b D q a A c W ((hl.below hw).below h) hln (fun x hx W' h' => ih x hx (hl.mem hx) (by have := nodes_mem hx; omega) W' (hw.trans ((h.trans (h'.mono h.size)).mono hw.size))))
      have HV := Lib.hid (show (Tm.mk 2 n s A c a).app b = .mk 2 n s A c (appL b a) by simp [Tm.app])
      clear hat ih hl hna hnodes hln hb hw HT
      go_enter Try.func20, Try.ntmps20
      go_wp2_with fail
      refine (Q1.out _ (below2 _ _ _)).mono ?_
      rintro e w1 ⟨A', cap, cur, rfl, hcl, hst, hL, hb2⟩
      have HK := Lib.hid (H0.out.below hb2)
      have HM := Lib.hid (H1.out.below hb2)
      have hb1 := (below2 w (.cells #[.int .i64 2, .int .i64 n, .string s, .slice A a.length c] 24) zeroBox).trans (hb2.mono (by simp; omega))
      obtain ⟨hz0, d0, d1, d2, d3, f⟩ := HK.out
      obtain ⟨hz, e0, e1, e2, e3, f'⟩ := HM.out
      have f3 := f 3
      have f0' := f' 0
      have f1' := f' 1
      have f2' := f' 2
      have f3' := f' 3
      have HB := Lib.hid hb1
      have HL := Lib.hid hL
      have HS := Lib.hid hst
      have HC := Lib.hid hcl
      clear f f' hb1 hL hst hcl hb2 Q1
      go_wp2_with fail
      refine bodyPost_ret (v := .agg #[.int .i64 2, .int .i64 n, .string s, .slice A' a.length cap]) (by simp [results, Try.results20, go_sem, e0, e1, e2, e3]) rfl ?_
      have hsz : ((w.alloc (.cells #[.int .i64 2, .int .i64 n, .string s, .slice A a.length c] 24)).alloc zeroBox).heap.size = w.heap.size + 2 := by simp
      refine ⟨.mk 2 n s A' cap cur, by rw [← HC.out]; rfl, ?_, rlie_row (lo := w.heap.size + 2) HP.out (fun W hBW hW => HL.out W hBW fun b' h1 h2 h3 => ?_) (by omega), set4c (HB.out.setCell (Nat.le_refl _) _) (Nat.le_succ _)⟩
      · rw [HV.out]
        simp only [Tm.strip, HS.out]
      · rw [hsz] at h1
        rw [hW b' h1 (by rw [size_set4]; simpa [World.setCell] using h2) h3, heap_set4 _ (by omega), Below.heap_setCell _ _ _ _ (by show b' ≠ w.heap.size; omega)]
    · have k2' : (k == 2) = false := by simpa using k2
      by_cases k1 : k = 1
      · subst k1
        have hF := Lib.hid (fun W (h : Below w.heap.size w W) => ref_lookup_at b D q n W ((hb.below hw).below h))
        have HLk := Lib.hid (fun (x : Tm) (hx : look b n = some x) => show x.At w0 from hb.look hx)
        have HV := Lib.hid (show (Tm.mk 1 n s A c a).app b = (look b n).getD (.mk 1 n s A c a) by simp [Tm.app])
        clear hat ih hnodes hb k2 k2' hw
        generalize look b n = lk at *
        cases lk with
        | none =>
          simp only [Option.getD_none] at HV
          obtain ⟨z0, hz0⟩ : ∃ z, optT none = z := ⟨_, rfl⟩
          rw [hz0] at hF
          clear hz0 HLk
          obtain ⟨zk, zn, zs, zA, zc, za⟩ := z0
          have QF := Lib.hid (fun W (h : Below w.heap.size w W) => show Calls Try.prog 34 #[.slice D b.length q, .int .i64 n] W fun e w' => e = .returned (.tuple #[.agg #[.int .i64 zk, .int .i64 zn, .string zs, .slice zA za.length zc], .bool false]) ∧ Below W.heap.size W w' from hF.out W h)
          clear hF
          go_enter Try.func20, Try.ntmps20
          go_wp2_with fail
          refine (QF.out _ (below2 _ _ _)).mono ?_
          rintro e w1 ⟨rfl, hb2⟩
          have HK := Lib.hid ((H0.out.below hb2).alloc (.cells #[.int .i64 zk, .int .i64 zn, .string zs, .slice zA za.length zc] 24))
          have HM := Lib.hid ((H1.out.below hb2).alloc (.cells #[.int .i64 zk, .int .i64 zn, .string zs, .slice zA za.length zc] 24))
          have HB := Lib.hid (((below2 w (.cells #[.int .i64 1, .int .i64 n, .string s, .slice A a.length c] 24) zeroBox).trans (hb2.mono (by simp; omega))).alloc (by have := hb2.size; simp at this; omega) (.cells #[.int .i64 zk, .int .i64 zn, .string zs, .slice zA za.length zc] 24))
          obtain ⟨hz0, d0, d1, d2, d3, _⟩ := HK.out
          obtain ⟨hz, e0, e1, e2, e3, f'⟩ := HM.out
          have f0' := f' 0
          have f1' := f' 1
          have f2' := f' 2
          have f3' := f' 3
          clear hb2 QF f'
          go_wp2_with fail
          refine bodyPost_ret (v := .agg #[.int .i64 1, .int .i64 n, .string s, .slice A a.length c]) (by simp [results, Try.results20, go_sem, e0, e1, e2, e3]) rfl ?_
          exact ⟨.mk 1 n s A c a, rfl, by rw [HV.out], Lie.any fun W hW => HT.out.below hW, set4c HB.out (Nat.le_succ _)⟩
        | some x =>
          simp only [Option.getD_some] at HV
          have HX := Lib.hid (HLk.out x rfl)
          rw [HV.out]
          clear HV HT
          obtain ⟨xk, xn, xs, xA, xc, xa⟩ := x
          have QF := Lib.hid (fun W (h : Below w.heap.size w W) => show Calls Try.prog 34 #[.slice D b.length q, .int .i64 n] W fun e w' => e = .returned (.tuple #[.agg #[.int .i64 xk, .int .i64 xn, .string xs, .slice xA xa.length xc], .bool true]) ∧ Below W.heap.size W w' from hF.out W h)
          clear hF HLk
          go_enter Try.func20, Try.ntmps20
          go_wp2_with fail
          refine (QF.out _ (below2 _ _ _)).mono ?_
          rintro e w1 ⟨rfl, hb2⟩
          have HM := Lib.hid ((H1.out.below hb2).alloc (.cells #[.int .i64 xk, .int .i64 xn, .string xs, .slice xA xa.length xc] 24))
          have HB := Lib.hid (((below2 w (.cells #[.int .i64 1, .int .i64 n, .string s, .slice A a.length c] 24) zeroBox).trans (hb2.mono (by simp; omega))).alloc (by have := hb2.size; simp at this; omega) (.cells #[.int .i64 xk, .int .i64 xn, .string xs, .slice xA xa.length xc] 24))
          obtain ⟨hz, e0, e1, e2, e3, f'⟩ := HM.out
          have f0' := f' 0
          have f1' := f' 1
          have f2' := f' 2
          have f3' := f' 3
          clear hb2 QF f'
          go_wp2_with fail
          refine bodyPost_ret (v := .agg #[.int .i64 xk, .int .i64 xn, .string xs, .slice xA xa.length xc]) (by simp [results, Try.results20, go_sem, e0, e1, e2, e3]) rfl ?_
          exact ⟨.mk xk xn xs xA xc xa, rfl, rfl, Lie.any fun W hW => HX.out.below hW, set4c HB.out (Nat.le_succ _)⟩
      · have k1' : (k == 1) = false := by simpa using k1
        have HV := Lib.hid (show (Tm.mk k n s A c a).app b = .mk k n s A c a by simp [Tm.app, k1, k2])
        clear hat ih hnodes hb k1 k2 hw
        go_enter Try.func20, Try.ntmps20
        go_wp2_with fail
        refine bodyPost_ret (v := .agg #[.int .i64 k, .int .i64 n, .string s, .slice A a.length c]) (by simp [results, Try.results20, go_sem]) rfl ?_
        exact ⟨.mk k n s A c a, rfl, by rw [HV.out], Lie.any fun W hW => HT.out.below hW, below2 _ _ _⟩
end Go.Proofs.Ytdjbigfobodecaa
namespace Go.Proofs.Ytdjbigfobodecaa
open Go

/-- The class of each node. -/
def clsR (cls : List Nat) (j : Nat) : Nat := cls.getD j j
theorem clsR_get {cls : List Nat} {j : Nat} (h : j < cls.length) : clsR cls j = cls.getD j 0 := by simp [clsR, List.getD, h]
theorem clsR_out {cls : List Nat} {j : Nat} (h : cls.length ≤ j) : clsR cls j = j := by simp [clsR, List.getD, h]
theorem clsR_more (cls : List Nat) : clsR (cls ++ [cls.length]) = clsR cls := by
  funext j
  by_cases h : j < cls.length
  · simp [clsR, List.getD, List.getElem?_append_left h]
  · rw [clsR_out (cls := cls) (by omega)]
    by_cases e : j = cls.length
    · subst e; simp [clsR, List.getD]
    · exact clsR_out (by simp; omega)
theorem clsR_ext {cls : List Nat} : extR cls.length (clsR cls) = clsR cls := by
  funext j
  unfold extR
  split
  · rfl
  · rw [clsR_out (by omega)]
theorem clsR_map {cls : List Nat} {x y : Nat} (hy : y < cls.length) : clsR (cls.map fun c => if c = y then x else c) = mergeR (clsR cls) x y := by
  funext j
  unfold mergeR
  by_cases h : j < cls.length
  · simp [clsR, List.getD, h]
  · rw [clsR_out (cls := cls) (by omega), clsR_out (by simp; omega), if_neg (by omega)]
def Roots (G : List Nd) (root : Nat → Nat) : Prop := ∀ j, j < G.length → root j < G.length ∧ root (root j) = root j
section
variable {G N : List Nd} {root : Nat → Nat} {op op' E : List (Nat × Nat)} {a b x y : Nat}
theorem Roots.merge (rl : Roots G root) (hx : x < G.length) (rx : root x = x) (hne : x ≠ y) : Roots G (mergeR root x y) := fun j hj => by
  have h1 := rl j hj
  unfold mergeR
  by_cases e : root j = y
  · rw [if_pos e, rx, if_neg hne]; exact ⟨hx, rfl⟩
  · rw [if_neg e, h1.2, if_neg e]; exact ⟨h1.1, rfl⟩
theorem Mid.merge (h : Mid G root op E) (hok : Ok G) (hab : (a, b) ∈ op) (hx : x = root a) (hy : y = root b) (hne : x ≠ y)
    (h1 : ∀ p ∈ op, p = (a, b) ∨ p ∈ op') (h2 : ∀ p ∈ op', p ∈ op ∨ ∃ m n, m < G.length ∧ n < G.length ∧ (nd G m).tm.kind ≠ 1 ∧ (nd G n).tm.kind ≠ 1 ∧ root m = x ∧ root n = y ∧ p ∈ (nd G m).kids.zip (nd G n).kids)
    (h3 : ∀ m n, m < G.length → n < G.length → (nd G m).tm.kind ≠ 1 → (nd G n).tm.kind ≠ 1 → root m = x → root n = y → ∃ m' n', m' < G.length ∧ n' < G.length ∧ (nd G m').tm.kind ≠ 1 ∧ (nd G n').tm.kind ≠ 1 ∧ root m' = x ∧ root n' = y ∧ SameLab G m' n' ∧ ∀ p ∈ (nd G m').kids.zip (nd G n').kids, p ∈ op') :
    Mid G (mergeR root x y) op' E := by
  obtain ⟨ha, hb⟩ := h.bd _ hab
  have hmono : ∀ i j, root i = root j → mergeR root x y i = mergeR root x y j := fun i j e => by unfold mergeR; rw [e]
  have hmab : mergeR root x y a = mergeR root x y b := by
    unfold mergeR
    rw [← hx, ← hy, if_neg hne, if_pos rfl]
  have hc : ∀ q, Coarse G (mergeR root x y) op' q → Coarse G root op q := fun q hq => ⟨fun i j hi hj e => hq.1 i j hi hj (hmono i j e), fun p hp => by
    rcases h1 p hp with rfl | hp
    · exact hq.1 a b ha hb hmab
    · exact hq.2 p hp⟩
  -- two nodes of one class of the new ones
  have hsplit : ∀ i j, mergeR root x y i = mergeR root x y j → root i = root j ∨ (root i = x ∧ root j = y) ∨ (root i = y ∧ root j = x) := fun i j e => by
    unfold mergeR at e
    split at e <;> split at e <;> omega
  have hcross : ∀ i j, i < G.length → j < G.length → (nd G i).tm.kind ≠ 1 → (nd G j).tm.kind ≠ 1 → root i = x → root j = y → SameLab G i j ∧ ∀ q, Coarse G (mergeR root x y) op' q → (nd G i).kids.map q = (nd G j).kids.map q := fun i j hi hj hki hkj ei ej => by
    obtain ⟨m, n, hm, hn, hkm, hkn, em, en, hl, hz⟩ := h3 i j hi hj hki hkj ei ej
    have l1 := h.lab i m hi hm hki hkm (ei.trans em.symm)
    have l2 := h.lab n j hn hj hkn hkj (en.trans ej.symm)
    refine ⟨⟨⟨l1.1.1.trans (hl.1.1.trans l2.1.1), l1.1.2.1.trans (hl.1.2.1.trans l2.1.2.1), l1.1.2.2.trans (hl.1.2.2.trans l2.1.2.2)⟩, l1.2.trans (hl.2.trans l2.2)⟩, fun q hq => ?_⟩
    rw [h.cong q (hc q hq) i m hi hm hki hkm (ei.trans em.symm), ← h.cong q (hc q hq) n j hn hj hkn hkj (en.trans ej.symm)]
    exact zip_map_eq hl.2 fun p hp => hq.2 p (hz p hp)
  have hval : ∀ f, (∀ p ∈ E, ndv f G p.1 = ndv f G p.2) → ndv f G a = ndv f G b := fun f hf => (h.sound f hf).2 _ hab
  have hswap : ∀ i j, SameLab G i j → SameLab G j i := fun i j l => ⟨⟨l.1.1.symm, l.1.2.1.symm, l.1.2.2.symm⟩, l.2.symm⟩
  have hxy : ∀ f, (∀ p ∈ E, ndv f G p.1 = ndv f G p.2) → ∀ i j, i < G.length → j < G.length → root i = x → root j = y → ndv f G i = ndv f G j := fun f hf i j hi hj ei ej => by
    have hs := (h.sound f hf).1
    rw [hs i a hi ha (ei.trans hx), hval f hf]
    exact hs b j hb hj (hy.symm.trans ej.symm)
  refine ⟨fun p hp => ?_, h.ebd, fun f hf => ⟨fun i j hi hj e => ?_, fun p hp => ?_⟩, fun i j hi hj hki hkj e => ?_, fun q hq i j hi hj hki hkj e => ?_, fun q hq => h.eqs q (hc q hq)⟩
  · rcases h2 p hp with hp | ⟨m, n, hm, hn, _, _, _, _, hz⟩
    · exact h.bd p hp
    · exact ⟨(hok m hm).mem (List.of_mem_zip hz).1, (hok n hn).mem (List.of_mem_zip hz).2⟩
  · rcases hsplit i j e with e | ⟨e1, e2⟩ | ⟨e1, e2⟩
    · exact (h.sound f hf).1 i j hi hj e
    · exact hxy f hf i j hi hj e1 e2
    · exact (hxy f hf j i hj hi e2 e1).symm
  · rcases h2 p hp with hp | ⟨m, n, hm, hn, hkm, hkn, em, en, hz⟩
    · exact (h.sound f hf).2 p hp
    · exact map_zip_eq (kids_eq (hok m hm) (hok n hn) hkm hkn (hxy f hf m n hm hn em en)) p hz
  · rcases hsplit i j e with e | ⟨e1, e2⟩ | ⟨e1, e2⟩
    · exact h.lab i j hi hj hki hkj e
    · exact (hcross i j hi hj hki hkj e1 e2).1
    · exact hswap _ _ (hcross j i hj hi hkj hki e2 e1).1
  · rcases hsplit i j e with e | ⟨e1, e2⟩ | ⟨e1, e2⟩
    · exact h.cong q (hc q hq) i j hi hj hki hkj e
    · exact (hcross i j hi hj hki hkj e1 e2).2 q hq
    · exact ((hcross j i hj hi hkj hki e2 e1).2 q hq).symm
/-- Different nodes that are no variables: no unifier. -/
theorem Mid.apart (h : Mid G root op E) (hok : Ok G) (hab : (a, b) ∈ op) {m n : Nat} (hm : m < G.length) (hn : n < G.length) (hkm : (nd G m).tm.kind ≠ 1) (hkn : (nd G n).tm.kind ≠ 1) (em : root m = root a) (en : root n = root b) (hl : ¬ SameLab G m n) :
    ∀ f, ¬ ∀ p ∈ E, ndv f G p.1 = ndv f G p.2 := fun f hf => by
  obtain ⟨ha, hb⟩ := h.bd _ hab
  have hs := h.sound f hf
  refine Go.Proofs.Ytdjbigfobodecaa.clash (hok m hm) (hok n hn) hkm hkn hl (f := f) ?_
  rw [hs.1 m a hm ha em, hs.2 _ hab]
  exact hs.1 b n hb hn en.symm
theorem wt_merge (hy : y < G.length) (ry : root y = y) (rx : root x = x) (hne : x ≠ y) : wtOf G (mergeR root x y) G.length < wtOf G root G.length := by
  have := wt_union (G := G) rx ry hne G.length
  rw [if_pos hy] at this
  omega
end

/-! ### The node that stands for a class -/
def shapeP (G : List Nd) (root : Nat → Nat) (c i : Nat) : Bool := decide (root i = c) && decide ((nd G i).tm.kind ≠ 1)
def varP (G : List Nd) (root : Nat → Nat) (c i : Nat) : Bool := decide (root i = c) && decide ((nd G i).tm.kind = 1)
def leastP (G : List Nd) (root : Nat → Nat) (c i : Nat) : Bool := varP G root c i && (List.range G.length).all fun j => !(varP G root c j) || decide ((nd G i).tm.num ≤ (nd G j).tm.num)
def shapeOf (G : List Nd) (root : Nat → Nat) (c : Nat) : Option Nat := (List.range G.length).find? (shapeP G root c)
def leastOf (G : List Nd) (root : Nat → Nat) (c : Nat) : Option Nat := (List.range G.length).find? (leastP G root c)
def topC (G : List Nd) (root : Nat → Nat) (c : Nat) : Nat := (shapeOf G root c).getD ((leastOf G root c).getD 0)
section
variable {G : List Nd} {root : Nat → Nat} {E : List (Nat × Nat)} {c i : Nat}
theorem shapeOf_some {m : Nat} (h : shapeOf G root c = some m) : m < G.length ∧ root m = c ∧ (nd G m).tm.kind ≠ 1 := by
  unfold shapeOf at h
  have h1 := List.mem_of_find?_eq_some h
  have h2 := List.find?_some h
  simp only [shapeP, Bool.and_eq_true, decide_eq_true_eq] at h2
  exact ⟨by simpa using h1, h2⟩
theorem shapeOf_none (h : shapeOf G root c = none) : ∀ m, m < G.length → root m = c → (nd G m).tm.kind = 1 := fun m hm e => by
  unfold shapeOf at h
  rw [List.find?_eq_none] at h
  have := h m (by simpa using hm)
  apply Classical.byContradiction
  intro hk
  exact this (by simp [shapeP, e, hk])
theorem min_exists {P : Nat → Prop} (f : Nat → Int) : ∀ n, (∃ i, i < n ∧ P i) → ∃ i, i < n ∧ P i ∧ ∀ j, j < n → P j → f i ≤ f j := by
  intro n
  induction n with
  | zero => rintro ⟨i, h, _⟩; omega
  | succ n ih =>
    rintro ⟨i, hi, hp⟩
    by_cases h : ∃ i, i < n ∧ P i
    · obtain ⟨k, h1, h2, h3⟩ := ih h
      by_cases hn : P n ∧ f n < f k
      · refine ⟨n, by omega, hn.1, fun j hj hpj => ?_⟩
        by_cases e : j = n
        · subst e; omega
        · have := h3 j (by omega) hpj; omega
      · refine ⟨k, by omega, h2, fun j hj hpj => ?_⟩
        by_cases e : j = n
        · subst e
          have : ¬ f j < f k := fun h => hn ⟨hpj, h⟩
          omega
        · exact h3 j (by omega) hpj
    · have e : i = n := by
        apply Classical.byContradiction
        intro e
        exact h ⟨i, by omega, hp⟩
      subst e
      refine ⟨i, by omega, hp, fun j hj hpj => ?_⟩
      by_cases e : j = i
      · subst e; omega
      · exact absurd ⟨j, by omega, hpj⟩ h
theorem leastOf_some {v : Nat} (h : leastOf G root c = some v) : v < G.length ∧ root v = c ∧ (nd G v).tm.kind = 1 ∧ ∀ j, j < G.length → root j = c → (nd G j).tm.kind = 1 → (nd G v).tm.num ≤ (nd G j).tm.num := by
  unfold leastOf at h
  have h1 := List.mem_of_find?_eq_some h
  have h2 := List.find?_some h
  simp only [leastP, varP, Bool.and_eq_true, decide_eq_true_eq, List.all_eq_true, List.mem_range, Bool.or_eq_true] at h2
  refine ⟨by simpa using h1, h2.1.1, h2.1.2, fun j hj e hk => ?_⟩
  have := h2.2 j hj
  simpa [e, hk] using this
theorem leastOf_is (h : ∃ i, i < G.length ∧ root i = c ∧ (nd G i).tm.kind = 1) : ∃ v, leastOf G root c = some v := by
  obtain ⟨i, hi, e, hk⟩ := h
  obtain ⟨v, h1, ⟨h2, h2'⟩, h3⟩ := min_exists (P := fun i => root i = c ∧ (nd G i).tm.kind = 1) (fun i => (nd G i).tm.num) G.length ⟨i, hi, e, hk⟩
  have : (leastOf G root c).isSome := by
    unfold leastOf
    rw [List.find?_isSome]
    refine ⟨v, by simpa using h1, ?_⟩
    simp only [leastP, varP, Bool.and_eq_true, decide_eq_true_eq, List.all_eq_true, List.mem_range, Bool.or_eq_true]
    refine ⟨⟨h2, h2'⟩, fun j hj => ?_⟩
    by_cases hj2 : root j = c ∧ (nd G j).tm.kind = 1
    · exact .inr (h3 j hj hj2)
    · left
      by_cases e1 : root j = c
      · have : ¬ (nd G j).tm.kind = 1 := fun h => hj2 ⟨e1, h⟩
        simp [this]
      · simp [e1]
  exact Option.isSome_iff_exists.1 this
theorem topC_shape {m : Nat} (h : shapeOf G root c = some m) : topC G root c = m := by simp [topC, h]
theorem topC_spec (hi : i < G.length) (hc : root i = c) : topC G root c < G.length ∧ root (topC G root c) = c ∧ (shapeOf G root c = none → (nd G (topC G root c)).tm.kind = 1 ∧ leastOf G root c = some (topC G root c)) := by
  cases h : shapeOf G root c with
  | some m =>
    have := shapeOf_some h
    rw [topC_shape h]
    exact ⟨this.1, this.2.1, fun h => by cases h⟩
  | none =>
    obtain ⟨v, hv⟩ := leastOf_is (G := G) (root := root) (c := c) ⟨i, hi, hc, shapeOf_none h i hi hc⟩
    have e : topC G root c = v := by simp [topC, h, hv]
    have := leastOf_some hv
    rw [e]
    exact ⟨this.1, this.2.1, fun _ => ⟨this.2.2.1, hv⟩⟩
def topF (G : List Nd) (root : Nat → Nat) (i : Nat) : Nat := topC G root (root i)
theorem closed_of_mid (h : Mid G root [] E) (hok : Ok G) (hv : VarU G) : Closed G E (topF G root) := by
  have hs : ∀ i, i < G.length → topF G root i < G.length ∧ root (topF G root i) = root i := fun i hi => by
    have := topC_spec (G := G) (root := root) hi rfl
    exact ⟨this.1, this.2.1⟩
  have hcl : ∀ i j, i < G.length → j < G.length → topF G root i = topF G root j → root i = root j := fun i j hi hj e => by rw [← (hs i hi).2, e, (hs j hj).2]
  have hc : Coarse G root [] root := ⟨fun _ _ _ _ e => e, fun p hp => by cases hp⟩
  have hf : ∀ l m : List Nat, l.map root = m.map root → l.map (topF G root) = m.map (topF G root) := fun l m e => by
    have : ∀ l : List Nat, l.map (topF G root) = (l.map root).map (topC G root) := fun l => by rw [List.map_map]; rfl
    rw [this, this, e]
  have hn : ∀ i, i < G.length → (nd G i).tm.kind ≠ 1 → (nd G (topF G root i)).tm.kind ≠ 1 := fun i hi hk => by
    cases h : shapeOf G root (root i) with
    | some m =>
      have := shapeOf_some h
      unfold topF
      rw [topC_shape h]
      exact this.2.2
    | none => exact absurd (shapeOf_none h i hi rfl) hk
  refine ⟨hok, hv, fun i hi => (hs i hi).1, fun i hi => by unfold topF at hs ⊢; rw [(hs i hi).2], fun f hE i j hi hj e => (h.sound f hE).1 i j hi hj (hcl i j hi hj e), fun i j hi hj hki hkj e => ?_, fun p hp => ⟨(h.ebd p hp).1, (h.ebd p hp).2, ?_⟩, hn, fun i hi hk => ?_⟩
  · have e' := hcl i j hi hj e
    exact ⟨(h.lab i j hi hj hki hkj e').1, hf _ _ (h.cong root hc i j hi hj hki hkj e')⟩
  · have := h.eqs root hc p hp
    unfold topF
    rw [this]
  · cases h : shapeOf G root (root i) with
    | some m =>
      have := shapeOf_some h
      unfold topF at hk
      rw [topC_shape h] at hk
      exact absurd hk this.2.2
    | none =>
      have h1 := (topC_spec (G := G) (root := root) hi rfl).2.2 h
      exact (leastOf_some h1.2).2.2.2 i hi rfl (shapeOf_none h i hi rfl)
end
end Go.Proofs.Ytdjbigfobodecaa
