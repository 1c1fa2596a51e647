/-
  Contracts of Lookup, apart and Right of the reference.
  Contract of Right of the reference.
  Contracts of Apply and ApplyTerms of the reference.
-/
import Derived.Test.YtdjbigfobodecaaMh5
import Derived.Test.YtdjbigfobodecaaMh6
import Derived.Test.YtdjbigfobodecaaMh8
import Derived.Test.YtdjbigfobodecaaMh14
import Derived.Test.YtdjbigfobodecaaMh7
import Derived.BigQuiet
import Derived.Deep.QuietTactic
import Derived.Test.YtdjbigfobodecaaMh11
namespace Go.Proofs.Ytdjbigfobodecaa
open Go.RowKit Go.Sort

set_option maxHeartbeats 2000000 in
theorem ref_lookup_at (l : List Bd) (A : Option Addr) (c : Nat) (v : Int) (w : World) (hl : BLst w A l c) :
    Calls Try.prog 34 #[.slice A l.length c, .int .i64 v] w fun e w' => e = .returned (.tuple #[(optT (look l v)).val, .bool (look l v).isSome]) ∧ Below w.heap.size w w' := by
  have hlen := hl.len
  have HL := Lib.hid hl
  have H0 := Lib.hid (held_new (v0 := .int .i64 0) (v1 := .int .i64 0) (v2 := .string ⟨#[]⟩) (v3 := .slice none 0 0) w 24)
  clear hl
  go_enter Try.func34, Try.ntmps34
  go_wp2_with fail
  go_loopw [6] (fun i wr => ∃ j : Nat, j ≤ l.length ∧ i = .int .i64 j ∧ Hid (look (l.take j) v = none) ∧ wr = w.alloc zeroBox) (fun i _ => l.length - (intOf i).toNat)
  case atStart => exact ⟨0, Nat.zero_le _, rfl, Lib.hid rfl, rfl⟩
  case round =>
    obtain ⟨j, hj, rfl, HF, rfl⟩ := hrel
    obtain ⟨hz, e0, e1, e2, e3, f⟩ := H0.out
    have f0 := f 0
    have f1 := f 1
    have f2 := f 2
    have f3 := f 3
    clear f
    by_cases hlt : j < l.length
    · obtain ⟨b, o, rfl, ⟨c0, c1, c2, c3, c4⟩, _, _⟩ := (HL.out.below (below1 w zeroBox)).get hlt
      have HN := Lib.hid (look_next hlt HF.out)
      have HT := Lib.hid (fun t (h : look (l.take (j + 1)) v = some t) => look_take h)
      generalize l.getD j default = x at *
      obtain ⟨xv, k', n', s', A', c', a'⟩ := x
      simp only [Tm.kind, Tm.num, Tm.name, Tm.at_, Tm.args, Tm.cap] at c0 c1 c2 c3 c4
      by_cases hv : xv = v
      · subst hv
        have hq : (xv == xv) = true := by simp
        have HE := Lib.hid (HT.out _ (by rw [HN.out, if_pos rfl]))
        go_wp2_with fail
        refine bodyPost_ret (v := .tuple #[.agg #[.int .i64 k', .int .i64 n', .string s', .slice A' a'.length c'], .bool true]) (by simp [results, Try.results34, go_sem]) rfl ⟨by rw [HE.out]; rfl, below1 _ _⟩
      · have hq : (xv == v) = false := by simpa using hv
        have HE := Lib.hid (show look (l.take (j + 1)) v = none by rw [HN.out, if_neg hv])
        clear hv
        go_wp2_with fail
        go_roundw
        case rel => exact ⟨j + 1, by omega, by go_num, HE, trivial⟩
        case measure => simp [intOf]; omega
    · obtain rfl : j = l.length := by omega
      have hE := HF.out
      rw [List.take_length] at hE
      have HE := Lib.hid hE
      clear hE HF
      go_wp2_with fail
      refine bodyPost_ret (v := .tuple #[.agg #[.int .i64 0, .int .i64 0, .string ⟨#[]⟩, .slice none 0 0], .bool false]) (by simp [results, Try.results34, go_sem, e0, e1, e2, e3]) rfl ⟨by rw [HE.out]; rfl, below1 _ _⟩

/-- Whether none of a term's variables is bound. -/
def freeB (b : List Bd) (t : Tm) : Bool := t.occ.all fun v => (look b v).isNone
theorem free_vars (b : List Bd) (t : Tm) : ((addAll [] t.occ).all fun v => (look b v).isNone) = freeB b t := by
  unfold freeB
  rw [Bool.eq_iff_iff, List.all_eq_true, List.all_eq_true]
  simp only [mem_addAll, List.not_mem_nil, false_or]
theorem ball_next {l : List Bd} {k : Nat} (p : Bd → Bool) (h : k < l.length) : (l.take (k + 1)).all p = ((l.take k).all p && p (l.getD k default)) := by
  rw [btake_next h]; simp
theorem iall_next {l : List Int} {k : Nat} (p : Int → Bool) (h : k < l.length) : (l.take (k + 1)).all p = ((l.take k).all p && p (l.getD k 0)) := by
  rw [take_int h]; simp
theorem iall_stop {l : List Int} {k : Nat} {p : Int → Bool} (h : k < l.length) (hv : p (l.getD k 0) = false) : l.all p = false := by
  rw [List.all_eq_false]
  exact ⟨_, getD_int h, by rw [hv]; simp⟩
theorem ball_stop {l : List Bd} {x : Bd} {p : Bd → Bool} (h : x ∈ l) (hv : p x = false) : l.all p = false := by
  rw [List.all_eq_false]
  exact ⟨x, h, by simp [hv]⟩

set_option maxHeartbeats 4000000 in
theorem apart_at (b : List Bd) (A : Option Addr) (c : Nat) (w : World) (hb : BLst w A b c) (hz : ∀ x ∈ b, x.tm.size ≤ 1000000) :
    Calls Try.prog 32 #[.slice A b.length c] w fun e w' => e = .returned (.bool (apartB b)) ∧ Below w.heap.size w w' := by
  have hlen := hb.len
  have HB := Lib.hid hb
  have HZ := Lib.hid hz
  clear hb hz
  go_enter Try.func32, Try.ntmps32
  go_wp2_with fail
  go_loopw [3] (fun i wr => ∃ j : Nat, j ≤ b.length ∧ i = .int .i64 j ∧ Hid ((b.take j).all (fun x => freeB b x.tm) = true) ∧ Below w.heap.size w wr) (fun i _ => b.length - (intOf i).toNat)
  case atStart => exact ⟨0, Nat.zero_le _, rfl, Lib.hid rfl, Below.refl _ _⟩
  case round =>
    obtain ⟨j, hj, rfl, HF, hbw⟩ := hrel
    by_cases hlt : j < b.length
    · obtain ⟨b0, o, rfl, ⟨c0, c1, c2, c3, c4⟩, _, hx⟩ := (HB.out.below hbw).get hlt
      have HN := Lib.hid (ball_next (fun x => freeB b x.tm) hlt)
      have HM := Lib.hid (fun h => show apartB b = false from ball_stop (p := fun x => freeB b x.tm) (bgetD_mem hlt) h)
      have hsz := HZ.out _ (bgetD_mem hlt)
      generalize b.getD j default = x at *
      have QV := Lib.hid (ref_vars_at x.tm wr hx hsz)
      have HV := Lib.hid (free_vars b x.tm)
      have HAl := Lib.hid (Nat.le_trans (addAll_length [] x.tm.occ) (show _ ≤ 9223372036854775807 by have := occ_length.1 x.tm; simp; omega))
      generalize addAll [] x.tm.occ = os at *
      generalize hfr : freeB b x.tm = fr at *
      have HM2 := Lib.hid (show fr = false → apartB b = false from HM.out)
      have HN2 := Lib.hid (show ((b.take (j + 1)).all fun x => freeB b x.tm) = ((b.take j).all (fun x => freeB b x.tm) && fr) from HN.out)
      clear hx hsz HM HN hfr
      obtain ⟨v, k', n', s', A', c', a'⟩ := x
      simp only [Tm.kind, Tm.num, Tm.name, Tm.at_, Tm.args, Tm.cap] at c0 c1 c2 c3 c4
      go_wp2_with fail
      refine (QV.out).mono ?_
      rintro e w2 ⟨v2, rfl, hown, hb2⟩
      obtain ⟨V, q, rfl, hI, _⟩ := hown.form
      have HI := Lib.hid hI
      have HW := Lib.hid (hbw.trans (hb2.mono hbw.size))
      have hos := HAl.out
      clear hown hI hb2 c0 c1 c2 c3 c4 hbw QV
      go_wp2_with fail
      go_loopw [5] (fun i2 wr2 => ∃ k : Nat, k ≤ os.length ∧ i2 = .int .i64 k ∧ Hid ((os.take k).all (fun v => (look b v).isNone) = true) ∧ Below w2.heap.size w2 wr2) (fun i2 _ => os.length - (intOf i2).toNat)
      case atStart => exact ⟨0, Nat.zero_le _, rfl, Lib.hid rfl, Below.refl _ _⟩
      case round =>
        obtain ⟨k, hk, rfl, HG, hbw2⟩ := hrel
        by_cases hlk : k < os.length
        · obtain ⟨b1, o1, rfl, v0⟩ := (HI.out.below hbw2).get hlk
          have HN3 := Lib.hid (iall_next (fun v => (look b v).isNone) hlk)
          have HS3 := Lib.hid (iall_stop (p := fun v => (look b v).isNone) hlk)
          generalize os.getD k 0 = u at *
          have QL := Lib.hid (fun (W : World) (h : Below w2.heap.size w2 W) => ref_lookup_at b (some ⟨b0, o, none⟩) c u W (HB.out.below (HW.out.trans (h.mono HW.out.size))))
          obtain ⟨t, ht⟩ : ∃ t, optT (look b u) = t := ⟨_, rfl⟩
          rw [ht] at QL
          clear ht
          obtain ⟨tk, tn, ts, tA, tc, ta⟩ := t
          cases hlu : look b u with
          | none =>
            rw [hlu] at QL
            simp only [Option.isSome_none] at QL
            have HE := Lib.hid (show ((os.take (k + 1)).all fun v => (look b v).isNone) = true by rw [HN3.out, HG.out, hlu]; rfl)
            clear hlu
            go_wp2_with fail
            refine (QL.out _ hbw2).mono ?_
            rintro e w3 ⟨rfl, hb3⟩
            have hb4 := hbw2.trans (hb3.mono hbw2.size)
            go_wp2_with fail
            go_roundw
            case rel => exact ⟨k + 1, by omega, by go_num, HE, hb4.alloc hb4.size _⟩
            case measure => simp [intOf]; omega
          | some y =>
            rw [hlu] at QL
            simp only [Option.isSome_some] at QL
            have HE := Lib.hid (HM2.out (by rw [← HV.out]; exact HS3.out (by rw [hlu]; rfl)))
            clear hlu
            go_wp2_with fail
            refine (QL.out _ hbw2).mono ?_
            rintro e w3 ⟨rfl, hb3⟩
            have hb4 := HW.out.trans ((hbw2.trans (hb3.mono hbw2.size)).mono HW.out.size)
            go_wp2_with fail
            go_ret
            exact ⟨by rw [HE.out]; rfl, hb4.alloc hb4.size _⟩
        · obtain rfl : k = os.length := by omega
          have hG := HG.out
          rw [List.take_length, HV.out] at hG
          have HE := Lib.hid (show ((b.take (j + 1)).all fun x => freeB b x.tm) = true by rw [HN2.out, HF.out, hG]; rfl)
          clear hG HG
          go_wp2_with fail
          go_roundw
          case rel => exact ⟨j + 1, by omega, by go_num, HE, HW.out.trans (hbw2.mono HW.out.size)⟩
          case measure => simp [intOf]; omega
    · obtain rfl : j = b.length := by omega
      have hF := HF.out
      rw [List.take_length] at hF
      have HE := Lib.hid (show apartB b = true from hF)
      clear hF HF
      go_wp2_with fail
      go_ret
      exact ⟨by rw [HE.out]; rfl, hbw⟩
end Go.Proofs.Ytdjbigfobodecaa
namespace Go.Proofs.Ytdjbigfobodecaa
open Go.RowKit Go.Sort

set_option maxHeartbeats 4000000 in
set_option maxRecDepth 100000 in
theorem ref_right_s_at (l : List Bd) (A : Option Addr) (c : Nat) (w : World) (hl : BLst w A l c) (hz : ∀ x ∈ l, x.tm.size ≤ 1000000) :
    Calls Try.prog 18 #[.slice A l.length c] w fun e w' => e = .returned (.bool (rightS l)) ∧ Below w.heap.size w w' := by
  have hlen := hl.len
  have HL := Lib.hid hl
  have HZ := Lib.hid hz
  clear hl hz
  go_enter Try.func18, Try.ntmps18
  go_wp2_with fail
  go_loopw [3] (fun i wr => ∃ j : Nat, j ≤ l.length ∧ i = .int .i64 j ∧ Hid (okUp l j = true) ∧ Below w.heap.size w wr) (fun i _ => l.length - (intOf i).toNat)
  case atStart => exact ⟨0, Nat.zero_le _, rfl, Lib.hid rfl, Below.refl _ _⟩
  case round =>
    obtain ⟨j, hj, rfl, HF, hbw⟩ := hrel
    by_cases hlt : j < l.length
    · obtain ⟨b, o, rfl, ⟨c0, c1, c2, c3, c4⟩, _, ht⟩ := (HL.out.below hbw).get hlt
      have hsz := HZ.out _ (bgetD_mem hlt)
      have HO := Lib.hid (okUp_next l j)
      have HS := Lib.hid (fun h => show rightS l = false by unfold rightS; rw [okUp_stop hlt h]; rfl)
      have HP := Lib.hid (okAt_parts l j)
      obtain ⟨x, hx⟩ : ∃ x, l.getD j default = x := ⟨_, rfl⟩
      rw [hx] at c0 c1 c2 c3 c4 ht HP hsz
      clear hx
      obtain ⟨r, hr⟩ : ∃ r, x.tm.right = r := ⟨_, rfl⟩
      rw [hr] at HP
      have Q1 := Lib.hid (fun W (h : Below wr.heap.size wr W) => ref_right_tm_at x.tm W (ht.below h) hsz hr)
      clear ht hr hsz
      obtain ⟨v', k', n', s', A', c', a'⟩ := x
      simp only [Tm.kind, Tm.num, Tm.name, Tm.at_, Tm.args, Tm.cap] at c0 c1 c2 c3 c4
      simp only at HP
      have c0' := cell_regrown c0
      have c1' := cell_regrown c1
      have c2' := cell_regrown c2
      have c3' := cell_regrown c3
      have c4' := cell_regrown c4
      have jlt : decide ((j : Int) < (l.length : Int)) = true := decide_eq_true (by omega)
      by_cases h0 : v' < 0
      · have HE := Lib.hid (HS.out (by rw [HP.out]; simp; omega))
        have h0' : decide (v' < 0) = true := decide_eq_true h0
        clear h0
        go_wp2_with fail
        refine wp_region_quiet_below (by kernel_rfl) (by kernel_rfl) ?_
        repeat (go_big_quiet_step (fail))
        refine wpQuiet_nil ?_
        intro w1 hw'
        have hb1 := regrown_below hw'
        go_wp2_with fail
        go_ret
        exact ⟨by rw [HE.out]; rfl, hbw.trans (hb1.mono hbw.size)⟩
      · by_cases h1 : v' > 1048576
        · have HE := Lib.hid (HS.out (by rw [HP.out]; simp; omega))
          have h0' : decide (v' < 0) = false := decide_eq_false h0
          have h1' : decide (v' > 1048576) = true := decide_eq_true h1
          clear h0 h1
          go_wp2_with fail
          refine wp_region_quiet_below (by kernel_rfl) (by kernel_rfl) ?_
          repeat (go_big_quiet_step (fail))
          refine wpQuiet_nil ?_
          intro w1 hw'
          have hb1 := regrown_below hw'
          go_wp2_with fail
          go_ret
          exact ⟨by rw [HE.out]; rfl, hbw.trans (hb1.mono hbw.size)⟩
        · have h0' : decide (v' < 0) = false := decide_eq_false h0
          have h1' : decide (v' > 1048576) = false := decide_eq_false h1
          by_cases hj0 : j = 0
          · have HPz := Lib.hid (show okAt l j = r by rw [HP.out]; simp [show (0 : Int) ≤ v' by omega, show v' ≤ 1048576 by omega, hj0])
            have hj' : decide (0 < j) = false := decide_eq_false (by omega)
            clear h0 h1 HP hj0
            cases r
            · have HE := Lib.hid (HS.out HPz.out)
              go_wp2_with fail
              refine wp_region_quiet_below (by kernel_rfl) (by kernel_rfl) ?_
              repeat (go_big_quiet_step (first | (go_at_call 21; exact Calls.regrown_of (Q1.out _ (below_regrown _ _ _)))))
              refine wpQuiet_nil ?_
              intro w1 hw'
              have hb1 := regrown_below hw'
              go_wp2_with fail
              go_ret
              exact ⟨by rw [HE.out]; rfl, hbw.trans (hb1.mono hbw.size)⟩
            · have HN := Lib.hid (show okUp l (j + 1) = true by rw [HO.out, HPz.out, HF.out]; rfl)
              go_wp2_with fail
              refine wp_region_quiet_below (by kernel_rfl) (by kernel_rfl) ?_
              repeat (go_big_quiet_step (first | (go_at_call 21; exact Calls.regrown_of (Q1.out _ (below_regrown _ _ _)))))
              refine wpQuiet_nil ?_
              intro w1 hw'
              have hb1 := regrown_below hw'
              go_wp2_with fail
              go_roundw
              case rel => exact ⟨j + 1, by omega, by go_num, HN, hbw.trans (hb1.mono hbw.size)⟩
              case measure => simp [intOf]; omega
          · obtain ⟨jp, rfl⟩ : ∃ jp, j = jp + 1 := ⟨j - 1, by omega⟩
            obtain ⟨b', o', e', ⟨p0, _⟩, _⟩ := (HL.out.below hbw).get (show jp < l.length by omega)
            injection e' with e'
            injection e' with e1 e2 _
            subst e1 e2
            have HP3 := Lib.hid (show okAt l (jp + 1) = (r && decide ((l.getD jp default).var < v')) by rw [HP.out]; simp [show (0 : Int) ≤ v' by omega, show v' ≤ 1048576 by omega])
            generalize (l.getD jp default).var = u at *
            have p0' := cell_regrown p0
            have hj' : decide ((jp : Int) + 1 > 0) = true := decide_eq_true (by omega)
            clear h0 h1 HP
            by_cases hu : u < v'
            · have hu' : decide (v' ≤ u) = false := decide_eq_false (by omega)
              have HP4 := Lib.hid (show okAt l (jp + 1) = r by rw [HP3.out, decide_eq_true hu, Bool.and_true])
              clear hu HP3
              cases r
              · have HE := Lib.hid (HS.out HP4.out)
                go_wp2_with fail
                refine wp_region_quiet_below (by kernel_rfl) (by kernel_rfl) ?_
                repeat (go_big_quiet_step (first | (go_at_call 21; exact Calls.regrown_of (Q1.out _ (below_regrown _ _ _)))))
                refine wpQuiet_nil ?_
                intro w1 hw'
                have hb1 := regrown_below hw'
                go_wp2_with fail
                go_ret
                exact ⟨by rw [HE.out]; rfl, hbw.trans (hb1.mono hbw.size)⟩
              · have HN := Lib.hid (show okUp l (jp + 1 + 1) = true by rw [HO.out, HP4.out, HF.out]; rfl)
                go_wp2_with fail
                refine wp_region_quiet_below (by kernel_rfl) (by kernel_rfl) ?_
                repeat (go_big_quiet_step (first | (go_at_call 21; exact Calls.regrown_of (Q1.out _ (below_regrown _ _ _)))))
                refine wpQuiet_nil ?_
                intro w1 hw'
                have hb1 := regrown_below hw'
                go_wp2_with fail
                go_roundw
                case rel => exact ⟨jp + 1 + 1, by omega, by go_num, HN, hbw.trans (hb1.mono hbw.size)⟩
                case measure => simp [intOf]; omega
            · have HE := Lib.hid (HS.out (by rw [HP3.out, decide_eq_false hu, Bool.and_false]))
              have hu' : decide (v' ≤ u) = true := decide_eq_true (by omega)
              clear hu
              go_wp2_with fail
              refine wp_region_quiet_below (by kernel_rfl) (by kernel_rfl) ?_
              repeat (go_big_quiet_step (fail))
              refine wpQuiet_nil ?_
              intro w1 hw'
              have hb1 := regrown_below hw'
              go_wp2_with fail
              go_ret
              exact ⟨by rw [HE.out]; rfl, hbw.trans (hb1.mono hbw.size)⟩
    · obtain rfl : j = l.length := by omega
      have Q2 := Lib.hid (apart_at l A c wr (HL.out.below hbw) HZ.out)
      have HE := Lib.hid (show apartB l = rightS l by unfold rightS; rw [HF.out]; rfl)
      have jlt : decide ((l.length : Int) < (l.length : Int)) = false := decide_eq_false (by omega)
      go_wp2_with fail
      refine (Q2.out).mono ?_
      rintro e w2 ⟨rfl, hb2⟩
      go_wp2_with fail
      go_ret
      exact ⟨by rw [← HE.out]; rfl, hbw.trans (hb2.mono hbw.size)⟩
end Go.Proofs.Ytdjbigfobodecaa
namespace Go.Proofs.Ytdjbigfobodecaa
open Go.RowKit

/-- The worlds behind w0. -/
abbrev From (w0 : World) : World → Prop := fun W => Below w0.heap.size w0 W
/-- A term like t: its parts lie where the caller's do, or in blocks of the call's own. -/
def RMade (w0 : World) (t : Tm) (w : World) (e : Ending) (w' : World) : Prop := ∃ u : Tm, e = .returned u.val ∧ u.strip = t.strip ∧ Lie (From w0) w.heap.size No w' u ∧ Below w.heap.size w w'
def RMadeN (w0 : World) (n : Nat) (m : List Tm) (w : World) (e : Ending) (w' : World) : Prop :=
  ∃ A cap, ∃ cur : List Tm, e = .returned (.slice A n cap) ∧ cur.length = n ∧ stripL cur = stripL m ∧ (∀ W, From w0 W → Agree w.heap.size No w' W → Lst W A cur cap) ∧ Below w.heap.size w w'
theorem rlie_row {B : World → Prop} {w w' : World} {k n : Int} {s : ByteArray} {A : Option Addr} {cap lo : Nat} {cur : List Tm} (hp : Fits k ∧ Fits n ∧ s.size ≤ maxLen) (h : ∀ W, B W → Agree lo No w' W → Lst W A cur cap) (hlo : w.heap.size ≤ lo) : Lie B w.heap.size No w' (.mk k n s A cap cur) :=
  fun W hB hW => (At_iff _ _).2 ⟨hp, h W hB fun b h1 h2 h3 => hW b (by omega) h2 h3⟩
theorem take_tm {l : List Tm} {k : Nat} (h : k < l.length) : l.take (k + 1) = l.take k ++ [l.getD k default] := by
  rw [List.take_add_one, List.getElem?_eq_getElem h]
  simp [List.getD, List.getElem?_eq_getElem h]

set_option maxHeartbeats 4000000 in
set_option maxRecDepth 100000 in
theorem ref_apply_terms_at (w0 : World) (b : List Bd) (D : Option Addr) (q : Nat) (l : List Tm) (A : Option Addr) (c : Nat) (w : World) (hl : Lst w A l c) (hsz : l.length ≤ 1000000)
    (ih : ∀ x ∈ l, ∀ W : World, Below w.heap.size w W → Calls Try.prog 20 #[.slice D b.length q, x.val] W (RMade w0 (x.app b) W)) :
    Calls Try.prog 35 #[.slice D b.length q, .slice A l.length c] w (RMadeN w0 l.length (appL b l) w) := by
  obtain ⟨i0, hi, hz0, hz1, hz2⟩ := info_parts term_info
  have HL := Lib.hid hl
  have HI := Lib.hid ih
  have HA := Lib.hid (fun l => appL_map b l)
  clear hl ih
  go_enter Try.func35, Try.ntmps35
  go_wp2_with fail
  go_loopw [5, 6] (fun z i wr => ∃ (j : Nat) (acc : List Tm) (x : Value), j ≤ l.length ∧ i = .int .i64 j ∧ z = x ∧ Hid (RowT (From w0) w.heap.size wr x acc) ∧ Hid (stripL acc = stripL (appL b (l.take j))) ∧ Hid (acc.length = j) ∧ Below w.heap.size w wr) (fun _ i _ => l.length - (intOf i).toNat)
  case atStart => exact ⟨0, [], _, Nat.zero_le _, rfl, rfl, Lib.hid (RowT.nil _ _ _), Lib.hid rfl, Lib.hid rfl, Below.refl _ _⟩
  case round =>
    obtain ⟨j, acc, z, hj, rfl, hz, HK, HS, HAc, hbw⟩ := hrel
    have hz' := hz.symm
    subst hz'
    clear hz
    by_cases hlt : j < l.length
    · obtain ⟨b0, o, rfl, ⟨c0, c1, c2, c3⟩, _⟩ := (HL.out.below hbw).get hlt
      have HT := Lib.hid (take_tm hlt)
      have Q := Lib.hid (fun W (h : Below w.heap.size w W) => HI.out _ (getD_mem hlt) W h)
      have hal : acc.length ≤ 1000000 := by rw [HAc.out]; omega
      generalize l.getD j default = x at *
      obtain ⟨k', n', s', A', c', a'⟩ := x
      simp only [Tm.kind, Tm.num, Tm.name, Tm.at_, Tm.args, Tm.cap] at c0 c1 c2 c3
      go_wp2_with fail
      refine (Q.out _ hbw).mono ?_
      rintro e w2 ⟨u, rfl, hu, hlie, hb2⟩
      have HU := Lib.hid (lie_apart HK.out.1 hlie hbw.size (Nat.le_refl _))
      have HK2 := Lib.hid (HK.out.below hb2)
      have HS2 := Lib.hid (show stripL (acc ++ [u]) = stripL (appL b (l.take (j + 1))) by
        rw [HT.out, HA.out, List.map_append, stripL_append, stripL_append, HS.out, HA.out]
        simp only [stripL, List.map_cons, List.map_nil, hu])
      have hbw2 := hbw.trans (hb2.mono hbw.size)
      have HOwn := Lib.hid (own_lt HK2.out.1)
      have hlo := hbw2.size
      clear hu hlie hb2 hbw c0 c1 c2 c3 HK HS Q
      obtain ⟨k2, n2, s2, A2, p2, a2⟩ := u
      go_wp2_with (at_builtin; refine wpList_append_lies _ rfl _ _ 22 rfl w.heap.size 24 i0 _ 4 56 Try.underlying22 hi hz0 hz1 hz2 rfl (by decide) _ acc.length (tcells acc) rfl (HK2.out.1.alloc _) ⟨w2.heap.size, 0, none⟩ 1 1 (Tm.cells (.mk k2 n2 s2 A2 p2 a2)) rfl rfl (tnews1 w2 (.mk k2 n2 s2 A2 p2 a2) _) (cells_one _) (by decide) (by unfold maxLen; omega) (by omega) (by simp; omega) _ rfl ?_; intro g cap w5 hown hg hat hglt)
      have HR5 := Lib.hid (HK2.out.next (u := .mk k2 n2 s2 A2 p2 a2) HU.out (below1 w2 _) hown hg hat)
      have HB5 : Below w.heap.size w w5 := (hbw2.alloc hbw2.size _).grown hg (by simp; omega) (fun k hk => (HOwn.out k hk).1)
      clear hown hg hat hglt
      go_wp2_with fail
      go_roundw
      case rel => exact ⟨j + 1, acc ++ [.mk k2 n2 s2 A2 p2 a2], _, by omega, by go_num, rfl, HR5, HS2, Lib.hid (by rw [List.length_append, HAc.out]; rfl), HB5⟩
      case measure => simp [intOf]; omega
    · obtain rfl : j = l.length := by omega
      have hK := HK.out
      obtain ⟨A', cz, hz, hcz⟩ := hK.form
      subst hz
      have HF := Lib.hid hK.lies
      have HE := Lib.hid (show stripL acc = stripL (appL b l) by rw [HS.out, List.take_length])
      rw [HAc.out]
      clear hK HK hlt HS hcz
      go_wp2_with fail
      go_ret
      exact ⟨A', cz, acc, rfl, HAc.out, HE.out, HF.out, hbw⟩

set_option maxHeartbeats 4000000 in
theorem ref_apply_at (w0 : World) (b : List Bd) (D : Option Addr) (q : Nat) (hb : BLst w0 D b q) (t : Tm) : t.At w0 → t.nodes ≤ 1000000 → ∀ w : World, Below w0.heap.size w0 w → Calls Try.prog 20 #[.slice D b.length q, t.val] w (RMade w0 (t.app b) w) := by
  induction t using Tm.induct with
  | h k n s A c a ih =>
    intro hat hnodes w hw
    show Calls Try.prog 20 #[.slice D b.length q, .agg #[.int .i64 k, .int .i64 n, .string s, .slice A a.length c]] w _
    have HT := Lib.hid hat
    have HP := Lib.hid ((At_iff _ _).1 hat).1
    simp only [Tm.kind, Tm.num, Tm.name] at HP
    obtain ⟨HB0, HB1⟩ := two_boxes w (.int .i64 k) (.int .i64 n) (.string s) (.slice A a.length c) (.int .i64 0) (.int .i64 0) (.string ⟨#[]⟩) (.slice none 0 0) 24
    have H0 := Lib.hid HB0
    have H1 := Lib.hid HB1
    clear HB0 HB1
    by_cases k2 : k = 2
    · subst k2
      have hl : Lst w0 A a c := hat.lst
      have hna : nodesL a ≤ 1000000 := by simp only [Tm.nodes] at hnodes; omega
      have hln : a.length ≤ 1000000 := by have := length_le_nodes a; omega
      have Q1 := Lib.hid (fun W (h : Below w.heap.size w W) => ref_apply_terms_at w0 b D q a A c W ((hl.below hw).below h) hln (fun x hx W' h' => ih x hx (hl.mem hx) (by have := nodes_mem hx; omega) W' (hw.trans ((h.trans (h'.mono h.size)).mono hw.size))))
      have HV := Lib.hid (show (Tm.mk 2 n s A c a).app b = .mk 2 n s A c (appL b a) by simp [Tm.app])
      clear hat ih hl hna hnodes hln hb hw HT
      go_enter Try.func20, Try.ntmps20
      go_wp2_with fail
      refine (Q1.out _ (below2 _ _ _)).mono ?_
      rintro e w1 ⟨A', cap, cur, rfl, hcl, hst, hL, hb2⟩
      have HK := Lib.hid (H0.out.below hb2)
      have HM := Lib.hid (H1.out.below hb2)
      have hb1 := (below2 w (.cells #[.int .i64 2, .int .i64 n, .string s, .slice A a.length c] 24) zeroBox).trans (hb2.mono (by simp; omega))
      obtain ⟨hz0, d0, d1, d2, d3, f⟩ := HK.out
      obtain ⟨hz, e0, e1, e2, e3, f'⟩ := HM.out
      have f3 := f 3
      have f0' := f' 0
      have f1' := f' 1
      have f2' := f' 2
      have f3' := f' 3
      have HB := Lib.hid hb1
      have HL := Lib.hid hL
      have HS := Lib.hid hst
      have HC := Lib.hid hcl
      clear f f' hb1 hL hst hcl hb2 Q1
      go_wp2_with fail
      refine bodyPost_ret (v := .agg #[.int .i64 2, .int .i64 n, .string s, .slice A' a.length cap]) (by simp [results, Try.results20, go_sem, e0, e1, e2, e3]) rfl ?_
      have hsz : ((w.alloc (.cells #[.int .i64 2, .int .i64 n, .string s, .slice A a.length c] 24)).alloc zeroBox).heap.size = w.heap.size + 2 := by simp
      refine ⟨.mk 2 n s A' cap cur, by rw [← HC.out]; rfl, ?_, rlie_row (lo := w.heap.size + 2) HP.out (fun W hBW hW => HL.out W hBW fun b' h1 h2 h3 => ?_) (by omega), set4c (HB.out.setCell (Nat.le_refl _) _) (Nat.le_succ _)⟩
      · rw [HV.out]
        simp only [Tm.strip, HS.out]
      · rw [hsz] at h1
        rw [hW b' h1 (by rw [size_set4]; simpa [World.setCell] using h2) h3, heap_set4 _ (by omega), Below.heap_setCell _ _ _ _ (by show b' ≠ w.heap.size; omega)]
    · have k2' : (k == 2) = false := by simpa using k2
      by_cases k1 : k = 1
      · subst k1
        have hF := Lib.hid (fun W (h : Below w.heap.size w W) => ref_lookup_at b D q n W ((hb.below hw).below h))
        have HLk := Lib.hid (fun (x : Tm) (hx : look b n = some x) => show x.At w0 from hb.look hx)
        have HV := Lib.hid (show (Tm.mk 1 n s A c a).app b = (look b n).getD (.mk 1 n s A c a) by simp [Tm.app])
        clear hat ih hnodes hb k2 k2' hw
        generalize look b n = lk at *
        cases lk with
        | none =>
          simp only [Option.getD_none] at HV
          obtain ⟨z0, hz0⟩ : ∃ z, optT none = z := ⟨_, rfl⟩
          rw [hz0] at hF
          clear hz0 HLk
          obtain ⟨zk, zn, zs, zA, zc, za⟩ := z0
          have QF := Lib.hid (fun W (h : Below w.heap.size w W) => show Calls Try.prog 34 #[.slice D b.length q, .int .i64 n] W fun e w' => e = .returned (.tuple #[.agg #[.int .i64 zk, .int .i64 zn, .string zs, .slice zA za.length zc], .bool false]) ∧ Below W.heap.size W w' from hF.out W h)
          clear hF
          go_enter Try.func20, Try.ntmps20
          go_wp2_with fail
          refine (QF.out _ (below2 _ _ _)).mono ?_
          rintro e w1 ⟨rfl, hb2⟩
          have HK := Lib.hid ((H0.out.below hb2).alloc (.cells #[.int .i64 zk, .int .i64 zn, .string zs, .slice zA za.length zc] 24))
          have HM := Lib.hid ((H1.out.below hb2).alloc (.cells #[.int .i64 zk, .int .i64 zn, .string zs, .slice zA za.length zc] 24))
          have HB := Lib.hid (((below2 w (.cells #[.int .i64 1, .int .i64 n, .string s, .slice A a.length c] 24) zeroBox).trans (hb2.mono (by simp; omega))).alloc (by have := hb2.size; simp at this; omega) (.cells #[.int .i64 zk, .int .i64 zn, .string zs, .slice zA za.length zc] 24))
          obtain ⟨hz0, d0, d1, d2, d3, _⟩ := HK.out
          obtain ⟨hz, e0, e1, e2, e3, f'⟩ := HM.out
          have f0' := f' 0
          have f1' := f' 1
          have f2' := f' 2
          have f3' := f' 3
          clear hb2 QF f'
          go_wp2_with fail
          refine bodyPost_ret (v := .agg #[.int .i64 1, .int .i64 n, .string s, .slice A a.length c]) (by simp [results, Try.results20, go_sem, e0, e1, e2, e3]) rfl ?_
          exact ⟨.mk 1 n s A c a, rfl, by rw [HV.out], Lie.any fun W hW => HT.out.below hW, set4c HB.out (Nat.le_succ _)⟩
        | some x =>
          simp only [Option.getD_some] at HV
          have HX := Lib.hid (HLk.out x rfl)
          rw [HV.out]
          clear HV HT
          obtain ⟨xk, xn, xs, xA, xc, xa⟩ := x
          have QF := Lib.hid (fun W (h : Below w.heap.size w W) => show Calls Try.prog 34 #[.slice D b.length q, .int .i64 n] W fun e w' => e = .returned (.tuple #[.agg #[.int .i64 xk, .int .i64 xn, .string xs, .slice xA xa.length xc], .bool true]) ∧ Below W.heap.size W w' from hF.out W h)
          clear hF HLk
          go_enter Try.func20, Try.ntmps20
          go_wp2_with fail
          refine (QF.out _ (below2 _ _ _)).mono ?_
          rintro e w1 ⟨rfl, hb2⟩
          have HM := Lib.hid ((H1.out.below hb2).alloc (.cells #[.int .i64 xk, .int .i64 xn, .string xs, .slice xA xa.length xc] 24))
          have HB := Lib.hid (((below2 w (.cells #[.int .i64 1, .int .i64 n, .string s, .slice A a.length c] 24) zeroBox).trans (hb2.mono (by simp; omega))).alloc (by have := hb2.size; simp at this; omega) (.cells #[.int .i64 xk, .int .i64 xn, .string xs, .slice xA xa.length xc] 24))
          obtain ⟨hz, e0, e1, e2, e3, f'⟩ := HM.out
          have f0' := f' 0
          have f1' := f' 1
          have f2' := f' 2
          have f3' := f' 3
          clear hb2 QF f'
          go_wp2_with fail
          refine bodyPost_ret (v := .agg #[.int .i64 xk, .int .i64 xn, .string xs, .slice xA xa.length xc]) (by simp [results, Try.results20, go_sem, e0, e1, e2, e3]) rfl ?_
          exact ⟨.mk xk xn xs xA xc xa, rfl, rfl, Lie.any fun W hW => HX.out.below hW, set4c HB.out (Nat.le_succ _)⟩
      · have k1' : (k == 1) = false := by simpa using k1
        have HV := Lib.hid (show (Tm.mk k n s A c a).app b = .mk k n s A c a by simp [Tm.app, k1, k2])
        clear hat ih hnodes hb k1 k2 hw
        go_enter Try.func20, Try.ntmps20
        go_wp2_with fail
        refine bodyPost_ret (v := .agg #[.int .i64 k, .int .i64 n, .string s, .slice A a.length c]) (by simp [results, Try.results20, go_sem]) rfl ?_
        exact ⟨.mk k n s A c a, rfl, by rw [HV.out], Lie.any fun W hW => HT.out.below hW, below2 _ _ _⟩
end Go.Proofs.Ytdjbigfobodecaa
