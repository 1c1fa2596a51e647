/-
  Contract of Restrict of the program: a map of the variables, and copies of bindings that are appended.
  Contract of Restrict of the reference.
-/
import Derived.Test.YtgialbcohkpogaaSuRow
import Derived.Test.YtgialbcohkpogaaSuLookup
import Derived.Test.YtgialbcohkpogaaTmVarsP
import Derived.Test.YtgialbcohkpogaaSuMath
import Derived.Test.YtgialbcohkpogaaTmInts
import Derived.Test.YtgialbcohkpogaaSuVarIn
import Derived.BigQuiet
import Derived.Deep.QuietTactic
namespace Go.Proofs.Ytgialbcohkpogaa
open Go.RowKit Go.Maps

/-- A list of bindings like m. -/
def MadeBs (m : List Bd) (w : World) (e : Ending) (w' : World) : Prop :=
  ∃ A c, ∃ l : List Bd, e = .returned (.slice A l.length c) ∧ stripB l = stripB m ∧ BLst w' A l c ∧ Below w.heap.size w w'
theorem seen_new (w : World) : Seen (w.alloc (.map #[] 0)) w.heap.size [] := ⟨by simp, World.ownsMap_made w Try.prog 3 (plainElem (H := Unit) Try.prog 4)⟩
theorem Seen.lt {w : World} {b : Nat} {l : List Int} (h : Seen w b l) : b < w.heap.size := by
  obtain ⟨es, clock, hh, _⟩ := h.2
  rcases Nat.lt_or_ge b w.heap.size with h | h
  · exact h
  · rw [Array.getElem?_eq_none h] at hh; cases hh
theorem Seen.grown {w w' : World} {b : Nat} {l : List Int} {row : Option Nat} (h : Seen w b l) (hg : w.grownBy w' row) (hr : row ≠ some b) : Seen w' b l := ⟨h.1, h.2.kept hg (fun e => hr e.symm)⟩
theorem fits_mem {w : World} {A : Option Addr} {c : Nat} {l : List Bd} (h : BLst w A l c) {i : Nat} (hi : i < l.length) : Fits (l.getD i default).var := (h.mem (bgetD_mem hi)).1

/-- The first j bindings are looked at, and copies of those to be kept are appended. -/
structure Keeping (b : List Bd) (vars : List Int) (w : World) (j : Nat) (z : Value) (wr : World) (acc : List Bd) : Prop where
  seen : Seen wr w.heap.size vars
  row : RowB Any (w.heap.size + 1) wr z acc
  same : stripB acc = stripB (restr (b.take j) vars)
  below : Below w.heap.size w wr
theorem Keeping.len {b : List Bd} {vars : List Int} {w wr : World} {j : Nat} {z : Value} {acc : List Bd} (h : Keeping b vars w j z wr acc) : acc.length ≤ b.length := by
  rw [← stripB_len acc, h.same, stripB_len]
  exact Nat.le_trans (List.length_filter_le _ _) (by simp; omega)

set_option maxHeartbeats 4000000 in
set_option maxRecDepth 100000 in
theorem restrict_at (b : List Bd) (A : Option Addr) (c : Nat) (vars : List Int) (V : Option Addr) (q : Nat) (w : World) (hb : BLst w A b c) (hlen : b.length ≤ 1000000) (hn : ∀ x ∈ b, x.tm.nodes ≤ 1000000)
    (hV : Ints w V vars) (hvl : vars.length ≤ 1000000) (hvf : ∀ v ∈ vars, Fits v) :
    Calls Try.prog 16 #[.slice A b.length c, .slice V vars.length q] w (MadeBs (restr b vars) w) := by
  obtain ⟨i0, hi, hz0, hz1, hz2⟩ := info_parts bind_info
  have hmm := @run_makeMap Try.prog
  have HB := Lib.hid hb
  have HN := Lib.hid hn
  have HV := Lib.hid hV
  have HF := Lib.hid hvf
  have HS := Lib.hid (seen_new w)
  clear hb hn hV hvf
  go_enter Try.func16, Try.ntmps16
  go_wp2_with fail
  clear hmm
  go_loopw [14] (fun i wr => ∃ j : Nat, j ≤ vars.length ∧ i = .int .i64 j ∧ Hid (Seen wr w.heap.size (vars.take j)) ∧ Below w.heap.size w wr) (fun i _ => vars.length - (intOf i).toNat)
  case atStart => exact ⟨0, Nat.zero_le _, rfl, HS, below1 _ _⟩
  case round =>
    obtain ⟨j, hj, rfl, HE, hbw⟩ := hrel
    by_cases hlt : j < vars.length
    · obtain ⟨b0, o, rfl, c0⟩ := (HV.out.below hbw).get hlt
      have hmem := getD_int hlt
      have HT := Lib.hid (take_int hlt)
      have hf := HF.out _ hmem
      generalize vars.getD j 0 = v at *
      clear hmem
      go_wp2_with (at_mapUpdate; refine wpList_see _ rfl _ _ _ rfl _ (vars.take j) rfl HE.out (by simp; omega) v rfl hf rfl ?_; intro w1 hseen1 hg1)
      have HE1 := Lib.hid (show Seen w1 w.heap.size (vars.take (j + 1)) by rw [HT.out]; exact hseen1)
      have hb1 : Below w.heap.size w w1 := hbw.grown hg1 hbw.size (fun k hk => by injection hk with hk; omega)
      clear hseen1 hg1
      go_roundw
      case rel => exact ⟨j + 1, by omega, by go_num, HE1, hb1⟩
      case measure => simp [intOf]; omega
    · obtain rfl : j = vars.length := by omega
      have hE := HE.out
      rw [List.take_length] at hE
      have HK := Lib.hid (show Keeping b vars w 0 (.slice none 0 0) wr [] from ⟨hE, RowB.nil _ _ _, rfl, hbw⟩)
      clear hE HE HV hlt hbw
      go_wp2_with fail
      go_loopw [8, 23] (fun z i wr => ∃ (j : Nat) (acc : List Bd) (x : Value), j ≤ b.length ∧ i = .int .i64 j ∧ z = x ∧ Hid (Keeping b vars w j x wr acc)) (fun _ i _ => b.length - (intOf i).toNat)
      case atStart => exact ⟨0, [], _, Nat.zero_le _, rfl, rfl, HK⟩
      case round =>
        clear HK
        obtain ⟨j, acc, z, hj, rfl, rfl, HK⟩ := hrel
        by_cases hlt : j < b.length
        · have hK := HK.out
          obtain ⟨b0, o, rfl, ⟨c0, c1, c2, c3, c4⟩, hf, hx⟩ := (HB.out.below hK.below).get hlt
          have hnx := HN.out _ (bgetD_mem hlt)
          have HT := Lib.hid (restr_next hlt vars)
          have hal := hK.len
          generalize b.getD j default = x at *
          have QX := Lib.hid (fun W (h : Below wr.heap.size wr W) => copy_bind_at x W (hx.below h) hnx)
          have HX := Lib.hid hf
          clear hx hnx hK
          obtain ⟨r, hr⟩ : ∃ r, decide (x.var ∈ vars) = r := ⟨_, rfl⟩
          have HR := Lib.hid hr
          clear hr
          have HSn := Lib.hid (fun o => HK.out.seen.keep (below1 wr o))
          have HL := Lib.hid (fun (y : Bd) (h : y.strip = x.strip) (hm : x.var ∈ vars) => show stripB (acc ++ [y]) = stripB (restr (b.take (j + 1)) vars) by
            rw [HT.out, if_pos hm, stripB_append, stripB_append, HK.out.same]
            simp [stripB, h])
          have HL0 := Lib.hid (fun (hm : x.var ∉ vars) => show stripB acc = stripB (restr (b.take (j + 1)) vars) by
            rw [HT.out, if_neg hm, List.append_nil, HK.out.same])
          clear HT
          obtain ⟨v, k', n', s', A', c', a'⟩ := x
          simp only [Tm.kind, Tm.num, Tm.name, Tm.at_, Tm.args, Tm.cap] at c0 c1 c2 c3 c4
          cases r
          · go_wp2_with (at_lookup; refine wpList_seen _ rfl _ _ rfl _ vars rfl (HSn.out _) v rfl HX.out false HR.out ?_)
            go_roundw
            case rel => exact ⟨j + 1, acc, _, by omega, by go_num, rfl, Lib.hid (Keeping.mk (HSn.out _) (HK.out.row.below (below1 _ _)) (HL0.out (by simpa using HR.out)) (HK.out.below.alloc HK.out.below.size _))⟩
            case measure => simp [intOf]; omega
          · go_wp2_with (at_lookup; refine wpList_seen _ rfl _ _ rfl _ vars rfl (HSn.out _) v rfl HX.out true HR.out ?_)
            refine (QX.out _ (below1 _ _)).mono ?_
            rintro e w2 ⟨y, rfl, hy, hlie, hb2⟩
            have hw : Below wr.heap.size wr w2 := (below1 wr _).trans (hb2.mono (by simp))
            have HRow := Lib.hid (HK.out.row.below hw)
            have HSeen := Lib.hid (HK.out.seen.keep hw)
            have HBl := Lib.hid (HK.out.below.trans (hw.mono HK.out.below.size))
            have HA := Lib.hid (lie_apart HK.out.row.1 hlie (by have := HK.out.seen.lt; simp; omega) (by simp))
            have HY := Lib.hid hy
            have HOwn := Lib.hid (own_lt HRow.out.1)
            have hFy : Fits y.var := by have : y.var = v := congrArg Bd.var hy; rw [this]; exact HX.out
            clear hy hlie hb2 hw QX c0 c1 c2 c3 c4
            obtain ⟨yv, yk, yn, ys, yA, yc, ya⟩ := y
            have hlo : w.heap.size + 1 ≤ w2.heap.size := by have := HSeen.out.lt; omega
            go_wp2_with (at_builtin; refine wpList_append_lies _ rfl _ _ 23 rfl (w.heap.size + 1) 39 i0 _ 5 64 Try.underlying23 hi hz0 hz1 hz2 rfl (by decide) _ acc.length (bcells acc) rfl (HRow.out.1.alloc _) ⟨w2.heap.size, 0, none⟩ 1 1 (Bd.cells ⟨yv, .mk yk yn ys yA yc ya⟩) rfl rfl (bnews1 w2 ⟨yv, .mk yk yn ys yA yc ya⟩) (bcells_one _) (by decide) (by unfold maxLen; omega) (by omega) (by simp; omega) _ rfl ?_; intro g cap w4 hown hg hat hglt)
            have HR4 := Lib.hid (HRow.out.next hFy HA.out (below1 w2 _) hown hg hat)
            have HS4 := Lib.hid ((HSeen.out.keep (below1 w2 _)).grown hg (fun e => by have := (HOwn.out _ e).1; omega))
            have HB4 := Lib.hid ((HBl.out.alloc HBl.out.size _).grown hg (by have := HBl.out.size; simp; omega) (fun k hk => by have := (HOwn.out k hk).1; omega))
            have HN2 := Lib.hid (show Keeping b vars w (j + 1) (.slice (some ⟨g, 0, none⟩) (acc.length + 1) cap) w4 (acc ++ [⟨yv, .mk yk yn ys yA yc ya⟩]) from ⟨HS4.out, HR4.out, HL.out _ HY.out (by simpa using HR.out), HB4.out⟩)
            clear hown hg hat hglt
            go_wp2_with fail
            go_roundw
            case rel => exact ⟨j + 1, _, _, by omega, by go_num, rfl, HN2⟩
            case measure => simp [intOf]; omega
        · obtain rfl : j = b.length := by omega
          obtain ⟨A', c', hz, hc', _⟩ := HK.out.row.form
          subst hz
          have hE := HK.out.same
          rw [List.take_length] at hE
          have HE := Lib.hid hE
          have HL := Lib.hid (HK.out.row.blst trivial)
          clear hE
          go_wp2_with fail
          go_ret
          exact ⟨A', c', acc, rfl, HE.out, HL.out, HK.out.below⟩
end Go.Proofs.Ytgialbcohkpogaa
namespace Go.Proofs.Ytgialbcohkpogaa
open Go.RowKit

theorem any_mem (l : List Int) (v : Int) : (l.any fun u => decide (u = v)) = decide (v ∈ l) := by
  rw [Bool.eq_iff_iff, List.any_eq_true, decide_eq_true_eq]
  simp
theorem restr_len (b : List Bd) (vars : List Int) : (restr b vars).length ≤ b.length := List.length_filter_le _ _

set_option maxHeartbeats 4000000 in
set_option maxRecDepth 100000 in
theorem ref_restrict_at (b : List Bd) (A : Option Addr) (c : Nat) (vars : List Int) (V : Option Addr) (q : Nat) (w : World) (hb : BLst w A b c) (hlen : b.length ≤ 1000000)
    (hV : Ints w V vars) (hvl : vars.length ≤ 1000000) :
    Calls Try.prog 18 #[.slice A b.length c, .slice V vars.length q] w fun e w' => ∃ A' c', e = .returned (.slice A' (restr b vars).length c') ∧ BLst w' A' (restr b vars) c' ∧ Below w.heap.size w w' := by
  obtain ⟨i0, hi, hz0, hz1, hz2⟩ := info_parts bind_info
  have HB := Lib.hid hb
  have HV := Lib.hid hV
  clear hb hV
  go_enter Try.func18, Try.ntmps18
  go_wp2_with fail
  go_loopw [5, 6] (fun z i wr => ∃ (j : Nat) (x : Value), j ≤ b.length ∧ i = .int .i64 j ∧ z = x ∧ Hid (RowB (Below w.heap.size w) w.heap.size wr x (restr (b.take j) vars)) ∧ Hid (Below w.heap.size w wr)) (fun _ i _ => b.length - (intOf i).toNat)
  case atStart => exact ⟨0, _, Nat.zero_le _, rfl, rfl, Lib.hid (RowB.nil _ _ _), Lib.hid (Below.refl _ _)⟩
  case round =>
    obtain ⟨j, z, hj, rfl, hz, HK, HW⟩ := hrel
    have hz' := hz.symm
    subst hz'
    clear hz
    by_cases hlt : j < b.length
    · obtain ⟨b0, o, rfl, _⟩ := (HB.out.below HW.out).get hlt
      have HG := Lib.hid (fun W (h : Below w.heap.size w W) => (HB.out.below h).getA hlt)
      have HX := Lib.hid (HB.out.mem (bgetD_mem hlt))
      have HT := Lib.hid (restr_next hlt vars)
      have hal : (restr (b.take j) vars).length ≤ 1000000 := by have := restr_len (b.take j) vars; simp at this; omega
      generalize hacc : restr (b.take j) vars = acc at *
      generalize b.getD j default = x at *
      clear hacc
      go_wp2_with fail
      go_loopw [7, 8] (fun t7 i2 wr2 => ∃ k : Nat, k ≤ vars.length ∧ i2 = .int .i64 k ∧ t7 = .bool ((vars.take k).any fun u => decide (u = x.var)) ∧ Hid (RowB (Below w.heap.size w) w.heap.size wr2 z acc) ∧ Hid (Below w.heap.size w wr2)) (fun _ i2 _ => vars.length - (intOf i2).toNat)
      case atStart => exact ⟨0, Nat.zero_le _, rfl, rfl, HK, HW⟩
      case round =>
        clear HK HW
        obtain ⟨k, hk, rfl, rfl, HK, HW⟩ := hrel
        by_cases hlk : k < vars.length
        · obtain ⟨b1, o1, rfl, v0⟩ := (HV.out.below HW.out).get hlk
          obtain ⟨c0, _⟩ := HG.out _ HW.out
          have HN := Lib.hid (iany_next (fun u => decide (u = x.var)) hlk)
          generalize vars.getD k 0 = u at *
          obtain ⟨r, hr⟩ : ∃ r, ((vars.take k).any fun u => decide (u = x.var)) = r := ⟨_, rfl⟩
          rw [hr]
          have HRr := Lib.hid hr
          clear hr
          cases r
          · obtain ⟨z2, hz2⟩ : ∃ z2, decide (u = x.var) = z2 := ⟨_, rfl⟩
            have hq : (u == x.var) = z2 := by rw [← hz2, Bool.eq_iff_iff]; simp
            have HE := Lib.hid (show ((vars.take (k + 1)).any fun u => decide (u = x.var)) = z2 by rw [HN.out, HRr.out, hz2]; rfl)
            clear hz2
            go_wp2_with fail
            go_quiet (fail)
            go_wp2_with fail
            go_roundw
            case rel => exact ⟨k + 1, by omega, by go_num, by rw [HE.out], Lib.hid (HK.out.below (below_drewN (Below.refl _ _) _)), Lib.hid (below_drewN HW.out _)⟩
            case measure => simp [intOf]; omega
          · have HE := Lib.hid (show ((vars.take (k + 1)).any fun u => decide (u = x.var)) = true by rw [HN.out, HRr.out]; rfl)
            clear c0 v0
            go_wp2_with fail
            go_quiet (fail)
            go_wp2_with fail
            go_roundw
            case rel => exact ⟨k + 1, by omega, by go_num, by rw [HE.out], Lib.hid (HK.out.below (below_drewN (Below.refl _ _) _)), Lib.hid (below_drewN HW.out _)⟩
            case measure => simp [intOf]; omega
        · obtain rfl : k = vars.length := by omega
          obtain ⟨c0, c1, c2, c3, c4⟩ := HG.out _ HW.out
          obtain ⟨r, hr⟩ : ∃ r, ((vars.take vars.length).any fun u => decide (u = x.var)) = r := ⟨_, rfl⟩
          rw [hr]
          have hm : decide (x.var ∈ vars) = r := by rw [← hr, List.take_length, any_mem]
          have HOwn := Lib.hid (own_lt HK.out.1)
          have hlo := HW.out.size
          cases r
          · have HN2 := HT.out
            rw [if_neg (by simpa using hm), List.append_nil] at HN2
            have HK2 := HK.out
            rw [← HN2] at HK2
            have HK3 := Lib.hid HK2
            clear hm hr HN2 HK2
            go_wp2_with fail
            go_roundw
            case rel => exact ⟨j + 1, _, by omega, by go_num, rfl, HK3, HW⟩
            case measure => simp [intOf]; omega
          · have HN2 := Lib.hid HT.out
            have HM := Lib.hid hm
            clear hm hr
            obtain ⟨v, k', n', s', A', c', a'⟩ := x
            simp only [Tm.kind, Tm.num, Tm.name, Tm.at_, Tm.args, Tm.cap] at c0 c1 c2 c3 c4
            go_wp2_with (at_builtin; refine wpList_append_lies _ rfl _ _ 23 rfl w.heap.size 39 i0 _ 5 64 Try.underlying23 hi hz0 hz1 hz2 rfl (by decide) _ acc.length (bcells acc) rfl (HK.out.1.alloc _) ⟨_, 0, none⟩ 1 1 (Bd.cells ⟨v, .mk k' n' s' A' c' a'⟩) rfl rfl (bnews1 _ ⟨v, .mk k' n' s' A' c' a'⟩) (bcells_one _) (by decide) (by unfold maxLen; omega) (by omega) (by simp; omega) _ rfl ?_; intro g cap w5 hown hg hat hglt)
            have HR5 := HK.out.next (u := ⟨v, .mk k' n' s' A' c' a'⟩) HX.out.1 (Lie.any fun W hW => HX.out.2.below hW) (below1 _ _) hown hg hat
            rw [show acc ++ [⟨v, .mk k' n' s' A' c' a'⟩] = restr (b.take (j + 1)) vars by rw [HN2.out, if_pos (by simpa using HM.out)]] at HR5
            have HR6 := Lib.hid HR5
            have HB5 := Lib.hid ((HW.out.alloc HW.out.size _).grown hg (by simp; omega) (fun k hk => (HOwn.out k hk).1))
            clear hown hg hat hglt HR5
            go_wp2_with fail
            go_roundw
            case rel => exact ⟨j + 1, _, by omega, by go_num, rfl, HR6, HB5⟩
            case measure => simp [intOf]; omega
    · obtain rfl : j = b.length := by omega
      have hK := HK.out
      rw [List.take_length] at hK
      obtain ⟨A', cz, hz, hcz, _⟩ := hK.form
      subst hz
      have HL := Lib.hid (hK.blst HW.out)
      clear hK HK hlt
      go_wp2_with fail
      go_ret
      exact ⟨A', cz, rfl, HL.out, HW.out⟩
end Go.Proofs.Ytgialbcohkpogaa
