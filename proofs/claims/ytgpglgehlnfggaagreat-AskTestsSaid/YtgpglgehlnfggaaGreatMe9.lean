/-
  SuOrder.
  SuIdx.
  SuRight.
  TmVarsOf.
  SuRefL.
  SuRefA.
  SuInto.
  ArPlain.
  ArOps.
-/
import Derived.Test.YtgpglgehlnfggaaGreatMe8
import Derived.Test.YtgpglgehlnfggaaGreatMe3
import Derived.BigQuiet
import Derived.Deep.QuietTactic
import Derived.Test.YtgpglgehlnfggaaGreatMe6
import Derived.Test.YtgpglgehlnfggaaGreatMe7
import Derived.Maps.AppendAt
import Derived.Deep.AppendSrc
import Derived.Test.YtgpglgehlnfggaaGreatMe5
import Derived.Test.YtgpglgehlnfggaaGreatProg
import Derived.Test.YtgpglgehlnfggaaGreatMe2
import Derived.IntWalk
import Derived.Outline
import Derived.WalkLawsBesides
namespace Go.Proofs.YtgpglgehlnfggaaGreat
open Go.RowKit Go.Sort
def srtB (l : List Bd) : Bool := (List.range (l.length - 1)).all fun i => decide ((l.getD i default).var ≤ (l.getD (i + 1) default).var)
theorem srtB_iff (l : List Bd) : srtB l = true ↔ Srt l := by
  simp only [srtB, List.all_eq_true, List.mem_range, decide_eq_true_eq]
  constructor
  · intro h i j hij hj
    induction j with
    | zero => obtain rfl : i = 0 := by omega
              exact Int.le_refl _
    | succ j ih =>
      rcases Nat.lt_or_ge i (j + 1) with h1 | h1
      · exact Int.le_trans (ih (by omega) (by omega)) (h j (by omega))
      · obtain rfl : i = j + 1 := by omega
        exact Int.le_refl _
  · intro h i hi
    exact h i (i + 1) (by omega) (by omega)
theorem srtB_not {l : List Bd} {i : Nat} (hi : i + 1 < l.length) (h : (l.getD (i + 1) default).var < (l.getD i default).var) : srtB l = false := by
  unfold srtB
  rw [List.all_eq_false]
  exact ⟨i, by simp; omega, fun hc => by have := of_decide_eq_true hc; omega⟩
theorem compare_vars_below (x y : Bd) (w : World) {r : Int} (hr : ints x.var y.var = r) : Calls Tryz.prog 144 #[x.val, y.val] w fun e w' => e = .returned (.int .i64 r) ∧ Below w.heap.size w w' :=
  (compare_vars_at x y w).mono (by
    rintro e w' ⟨rfl, rfl⟩
    exact ⟨by rw [hr], below2 _ _ _⟩)
set_option maxHeartbeats 4000000 in
theorem is_sorted_at (l : List Bd) (A : Option Addr) (c : Nat) (w : World) (hl : BLst w A l c) (hlen : l.length ≤ 1000000) :
    Calls Tryz.prog 143 #[.slice A l.length c, .func (.func 144) #[] #[]] w fun e w' => e = .returned (.bool (srtB l)) ∧ Below w.heap.size w w' := by
  have HL := Lib.hid hl
  clear hl
  go_enter Tryz.func143, Tryz.ntmps143
  go_wp2_with fail
  go_loopw [5] (fun s5 wr => ∃ (k : Nat) (m : Int), k ≤ l.length ∧ m = (k : Int) - 1 ∧ s5 = .int .i64 m ∧ Hid (∀ t, k ≤ t + 1 → t + 1 < l.length → (l.getD t default).var ≤ (l.getD (t + 1) default).var) ∧ Below w.heap.size w wr) (fun s5 _ => (intOf s5).toNat)
  case atStart => exact ⟨l.length, _, Nat.le_refl _, rfl, rfl, Lib.hid (fun t h1 h2 => by omega), Below.refl _ _⟩
  case round =>
    obtain ⟨k, m, hk, hm, rfl, HF, hbw⟩ := hrel
    by_cases h2 : 2 ≤ k
    · obtain ⟨kp, rfl⟩ : ∃ kp, k = kp + 2 := ⟨k - 2, by omega⟩
      obtain rfl : m = (kp : Int) + 1 := by omega
      obtain ⟨b, o, rfl, ⟨c0, c1, c2, c3, c4⟩, _⟩ := (HL.out.below hbw).get (i := kp + 1) (by omega)
      obtain ⟨b', o', e', ⟨p0, p1, p2, p3, p4⟩, _⟩ := (HL.out.below hbw).get (i := kp) (by omega)
      injection e' with e'
      injection e' with e1 e2 _
      subst e1 e2
      have HN := Lib.hid (fun (h : (l.getD (kp + 1) default).var < (l.getD kp default).var) => srtB_not (l := l) (i := kp) (by omega) h)
      have HM := Lib.hid (fun (h : (l.getD kp default).var ≤ (l.getD (kp + 1) default).var) => (fun t h1 h2 => by
        rcases Nat.lt_or_ge t (kp + 1) with h3 | h3
        · obtain rfl : t = kp := by omega
          exact h
        · exact HF.out t (by omega) h2 : ∀ t, kp + 1 ≤ t + 1 → t + 1 < l.length → (l.getD t default).var ≤ (l.getD (t + 1) default).var))
      generalize l.getD (kp + 1) default = x at *
      generalize l.getD kp default = y at *
      obtain ⟨r, hr⟩ : ∃ r, ints x.var y.var = r := ⟨_, rfl⟩
      have Q := Lib.hid (fun W => compare_vars_below x y W hr)
      have HR := Lib.hid (show r < 0 ↔ x.var < y.var by
        rw [← hr]; unfold ints
        split
        · simp [*]
        · split <;> simp [*])
      have hm1 : (kp : Int) + 1 - 1 = (kp : Int) := by omega
      clear hr HF hm h2
      obtain ⟨v, k1, n1, s1, A1, q1, a1⟩ := x
      obtain ⟨v', k2, n2, s2, A2, q2, a2⟩ := y
      simp only [Tm.kind, Tm.num, Tm.name, Tm.at_, Tm.args, Tm.cap] at c0 c1 c2 c3 c4 p0 p1 p2 p3 p4
      have c0' := cell_regrown c0
      have c1' := cell_regrown c1
      have c2' := cell_regrown c2
      have c3' := cell_regrown c3
      have c4' := cell_regrown c4
      have p0' := cell_regrown p0
      have p1' := cell_regrown p1
      have p2' := cell_regrown p2
      have p3' := cell_regrown p3
      have p4' := cell_regrown p4
      by_cases hrn : r < 0
      · have HE := Lib.hid (HN.out (HR.out.1 hrn))
        clear HM HN HR
        go_wp2_with fail
        refine wp_region_quiet_below (by kernel_rfl) (by kernel_rfl) ?_
        repeat (go_big_quiet_step (first | (go_at_call 144; exact Calls.regrown_of (Q.out _))))
        refine wpQuiet_nil ?_
        intro w1 hw'
        have hb1 := regrown_below hw'
        go_wp2_with fail
        go_ret
        exact ⟨by rw [HE.out]; rfl, hbw.trans (hb1.mono hbw.size)⟩
      · have HE := Lib.hid (HM.out (Int.not_lt.1 (fun h => hrn (HR.out.2 h))))
        clear HM HN HR
        go_wp2_with fail
        refine wp_region_quiet_below (by kernel_rfl) (by kernel_rfl) ?_
        repeat (go_big_quiet_step (first | (go_at_call 144; exact Calls.regrown_of (Q.out _))))
        refine wpQuiet_nil ?_
        intro w1 hw'
        have hb1 := regrown_below hw'
        go_wp2_with fail
        go_roundw
        case rel => exact ⟨kp + 1, _, by omega, rfl, by go_num, HE, hbw.trans (hb1.mono hbw.size)⟩
        case measure => simp [intOf]
    · have hm0 : ¬ m > 0 := by omega
      have HE := Lib.hid (show srtB l = true by
        simp only [srtB, List.all_eq_true, List.mem_range, decide_eq_true_eq]
        exact fun t ht => HF.out t (by omega) (by omega))
      clear hm h2
      go_wp2_with fail
      go_ret
      exact ⟨by rw [HE.out]; rfl, hbw⟩
def InOrd (l : List Bd) (w : World) (e : Ending) (w' : World) : Prop :=
  ∃ A c, ∃ l' : List Bd, e = .returned (.slice A l'.length c) ∧ BLst w' A l' c ∧ Good l' ∧ (∀ v, look l' v = look l v) ∧ Below w.heap.size w w'
theorem in_order_at (l : List Bd) (A : Option Addr) (c : Nat) (w : World) (hl : BLst w A l c) (hG : Good l) : Calls Tryz.prog 107 #[.slice A l.length c] w (InOrd l w) := by
  have Q := Lib.hid (is_sorted_at l A c w hl hG.len)
  rw [(srtB_iff l).2 hG.srt] at Q
  have HL := Lib.hid hl
  clear hl
  go_enter Tryz.func107, Tryz.ntmps107
  go_wp2_with fail
  refine (Q.out).mono ?_
  rintro e w' ⟨rfl, hb⟩
  go_wp2_with fail
  go_ret
  exact ⟨A, c, l, rfl, HL.out.below hb, hG, fun _ => rfl, hb⟩
end Go.Proofs.YtgpglgehlnfggaaGreat
namespace Go.Proofs.YtgpglgehlnfggaaGreat
open Go.RowKit
def FirstIdx (l : List Bd) (p : Bd → Bool) (w : World) (e : Ending) (w' : World) : Prop :=
  ∃ m : Int, ((m = -1 ∧ l.any p = false) ∨ ∃ i : Nat, i < l.length ∧ m = i ∧ p (l.getD i default) = true ∧ (l.take i).any p = false) ∧ e = .returned (.int .i64 m) ∧ Below w.heap.size w w'
end Go.Proofs.YtgpglgehlnfggaaGreat
namespace Go.Proofs.YtgpglgehlnfggaaGreat
open Go.RowKit Go.Sort
theorem okAt_parts (l : List Bd) (i : Nat) : okAt l i = ((decide (0 ≤ (l.getD i default).var) && decide ((l.getD i default).var ≤ 1048576)) && ((l.getD i default).tm.right && (decide (i = 0) || decide ((l.getD (i - 1) default).var < (l.getD i default).var)))) := rfl
end Go.Proofs.YtgpglgehlnfggaaGreat
namespace Go.Proofs.YtgpglgehlnfggaaGreat
open Go.RowKit
theorem ref_vars_at (t : Tm) (w : World) (ht : t.At w) (hs : t.size ≤ 1000000) : Calls Tryz.prog 66 #[t.val] w (Grows w (addAll [] t.occ)) := by
  have Q := Lib.hid (fun W (h : Below w.heap.size w W) => vars_at t (.slice none 0 0) [] w W ht h (OwnI.nil _ _) (by simpa using hs))
  obtain ⟨k, n, s, A, c, a⟩ := t
  show Calls Tryz.prog 66 #[.agg #[.int .i64 k, .int .i64 n, .string s, .slice A a.length c]] w _
  generalize (Tm.mk k n s A c a).occ = oc at *
  clear ht hs
  go_enter Tryz.func66, Tryz.ntmps66
  go_wp2_with fail
  refine (Q.out _ ((Below.refl _ _).alloc (Nat.le_refl _) _)).mono ?_
  rintro e w1 ⟨v, rfl, hown, hb⟩
  go_wp2_with fail
  go_ret
  exact Grows.mk rfl hown hb
theorem ref_ground_at (t : Tm) (w : World) (ht : t.At w) (hs : t.size ≤ 1000000) {r : Bool} (hr : decide (t.occ = []) = r) :
    Calls Tryz.prog 36 #[t.val] w fun e w' => e = .returned (.bool r) ∧ Below w.heap.size w w' := by
  have Q := Lib.hid (fun W (h : Below w.heap.size w W) => ref_vars_at t W (ht.below h) hs)
  have hR : (((addAll [] t.occ).length : Int) == 0) = r := by
    rw [← hr, Bool.eq_iff_iff, decide_eq_true_eq, ← addAll_nil]
    simp
  have ho := occ_length.1 t
  have hal := addAll_length [] t.occ
  have HR := Lib.hid hR
  obtain ⟨k, n, s, A, c, a⟩ := t
  show Calls Tryz.prog 36 #[.agg #[.int .i64 k, .int .i64 n, .string s, .slice A a.length c]] w _
  have hal' : (addAll [] (Tm.mk k n s A c a).occ).length ≤ 1000000 := by simp only [List.length_nil] at hal; omega
  generalize addAll [] (Tm.mk k n s A c a).occ = l at *
  clear ht hs ho hal hR hr
  go_enter Tryz.func36, Tryz.ntmps36
  go_wp2_with fail
  refine (Q.out _ ((Below.refl _ _).alloc (Nat.le_refl _) _)).mono ?_
  rintro e w1 ⟨v, he, hown, hb⟩
  obtain ⟨A', c', hv, hI, _⟩ := hown.form
  rw [hv] at he
  subst he
  clear hv hown hI
  go_wp2_with fail
  go_ret
  exact ⟨by rw [← HR.out]; rfl, ((Below.refl _ _).alloc (Nat.le_refl _) _).trans (hb.mono (by simp))⟩
end Go.Proofs.YtgpglgehlnfggaaGreat
namespace Go.Proofs.YtgpglgehlnfggaaGreat
open Go.RowKit Go.Sort
set_option maxHeartbeats 2000000 in
theorem ref_lookup_at (l : List Bd) (A : Option Addr) (c : Nat) (v : Int) (w : World) (hl : BLst w A l c) :
    Calls Tryz.prog 84 #[.slice A l.length c, .int .i64 v] w fun e w' => e = .returned (.tuple #[(optT (look l v)).val, .bool (look l v).isSome]) ∧ Below w.heap.size w w' := by
  have hlen := hl.len
  have HL := Lib.hid hl
  have H0 := Lib.hid (held_new (v0 := .int .i64 0) (v1 := .int .i64 0) (v2 := .string ⟨#[]⟩) (v3 := .slice none 0 0) w 40)
  clear hl
  go_enter Tryz.func84, Tryz.ntmps84
  go_wp2_with fail
  go_loopw [6] (fun i wr => ∃ j : Nat, j ≤ l.length ∧ i = .int .i64 j ∧ Hid (look (l.take j) v = none) ∧ wr = w.alloc zeroBox) (fun i _ => l.length - (intOf i).toNat)
  case atStart => exact ⟨0, Nat.zero_le _, rfl, Lib.hid rfl, rfl⟩
  case round =>
    obtain ⟨j, hj, rfl, HF, rfl⟩ := hrel
    obtain ⟨hz, e0, e1, e2, e3, f⟩ := H0.out
    have f0 := f 0
    have f1 := f 1
    have f2 := f 2
    have f3 := f 3
    clear f
    by_cases hlt : j < l.length
    · obtain ⟨b, o, rfl, ⟨c0, c1, c2, c3, c4⟩, _, _⟩ := (HL.out.below (below1 w zeroBox)).get hlt
      have HN := Lib.hid (look_next hlt HF.out)
      have HT := Lib.hid (fun t (h : look (l.take (j + 1)) v = some t) => look_take h)
      generalize l.getD j default = x at *
      obtain ⟨xv, k', n', s', A', c', a'⟩ := x
      simp only [Tm.kind, Tm.num, Tm.name, Tm.at_, Tm.args, Tm.cap] at c0 c1 c2 c3 c4
      by_cases hv : xv = v
      · subst hv
        have hq : (xv == xv) = true := by simp
        have HE := Lib.hid (HT.out _ (by rw [HN.out, if_pos rfl]))
        go_wp2_with fail
        refine bodyPost_ret (v := .tuple #[.agg #[.int .i64 k', .int .i64 n', .string s', .slice A' a'.length c'], .bool true]) (by simp [results, Tryz.results84, go_sem]) rfl ⟨by rw [HE.out]; rfl, below1 _ _⟩
      · have hq : (xv == v) = false := by simpa using hv
        have HE := Lib.hid (show look (l.take (j + 1)) v = none by rw [HN.out, if_neg hv])
        clear hv
        go_wp2_with fail
        go_roundw
        case rel => exact ⟨j + 1, by omega, by go_num, HE, trivial⟩
        case measure => simp [intOf]; omega
    · obtain rfl : j = l.length := by omega
      have hE := HF.out
      rw [List.take_length] at hE
      have HE := Lib.hid hE
      clear hE HF
      go_wp2_with fail
      refine bodyPost_ret (v := .tuple #[.agg #[.int .i64 0, .int .i64 0, .string ⟨#[]⟩, .slice none 0 0], .bool false]) (by simp [results, Tryz.results84, go_sem, e0, e1, e2, e3]) rfl ⟨by rw [HE.out]; rfl, below1 _ _⟩
def freeB (b : List Bd) (t : Tm) : Bool := t.occ.all fun v => (look b v).isNone
theorem free_vars (b : List Bd) (t : Tm) : ((addAll [] t.occ).all fun v => (look b v).isNone) = freeB b t := by
  unfold freeB
  rw [Bool.eq_iff_iff, List.all_eq_true, List.all_eq_true]
  simp only [mem_addAll, List.not_mem_nil, false_or]
theorem ball_next {l : List Bd} {k : Nat} (p : Bd → Bool) (h : k < l.length) : (l.take (k + 1)).all p = ((l.take k).all p && p (l.getD k default)) := by
  rw [btake_next h]; simp
theorem iall_next {l : List Int} {k : Nat} (p : Int → Bool) (h : k < l.length) : (l.take (k + 1)).all p = ((l.take k).all p && p (l.getD k 0)) := by
  rw [take_int h]; simp
theorem iall_stop {l : List Int} {k : Nat} {p : Int → Bool} (h : k < l.length) (hv : p (l.getD k 0) = false) : l.all p = false := by
  rw [List.all_eq_false]
  exact ⟨_, getD_int h, by rw [hv]; simp⟩
theorem ball_stop {l : List Bd} {x : Bd} {p : Bd → Bool} (h : x ∈ l) (hv : p x = false) : l.all p = false := by
  rw [List.all_eq_false]
  exact ⟨x, h, by simp [hv]⟩
set_option maxHeartbeats 4000000 in
theorem apart_at (b : List Bd) (A : Option Addr) (c : Nat) (w : World) (hb : BLst w A b c) (hz : ∀ x ∈ b, x.tm.size ≤ 1000000) :
    Calls Tryz.prog 54 #[.slice A b.length c] w fun e w' => e = .returned (.bool (apartB b)) ∧ Below w.heap.size w w' := by
  have hlen := hb.len
  have HB := Lib.hid hb
  have HZ := Lib.hid hz
  clear hb hz
  go_enter Tryz.func54, Tryz.ntmps54
  go_wp2_with fail
  go_loopw [3] (fun i wr => ∃ j : Nat, j ≤ b.length ∧ i = .int .i64 j ∧ Hid ((b.take j).all (fun x => freeB b x.tm) = true) ∧ Below w.heap.size w wr) (fun i _ => b.length - (intOf i).toNat)
  case atStart => exact ⟨0, Nat.zero_le _, rfl, Lib.hid rfl, Below.refl _ _⟩
  case round =>
    obtain ⟨j, hj, rfl, HF, hbw⟩ := hrel
    by_cases hlt : j < b.length
    · obtain ⟨b0, o, rfl, ⟨c0, c1, c2, c3, c4⟩, _, hx⟩ := (HB.out.below hbw).get hlt
      have HN := Lib.hid (ball_next (fun x => freeB b x.tm) hlt)
      have HM := Lib.hid (fun h => show apartB b = false from ball_stop (p := fun x => freeB b x.tm) (bgetD_mem hlt) h)
      have hsz := HZ.out _ (bgetD_mem hlt)
      generalize b.getD j default = x at *
      have QV := Lib.hid (ref_vars_at x.tm wr hx hsz)
      have HV := Lib.hid (free_vars b x.tm)
      have HAl := Lib.hid (Nat.le_trans (addAll_length [] x.tm.occ) (show _ ≤ 9223372036854775807 by have := occ_length.1 x.tm; simp; omega))
      generalize addAll [] x.tm.occ = os at *
      generalize hfr : freeB b x.tm = fr at *
      have HM2 := Lib.hid (show fr = false → apartB b = false from HM.out)
      have HN2 := Lib.hid (show ((b.take (j + 1)).all fun x => freeB b x.tm) = ((b.take j).all (fun x => freeB b x.tm) && fr) from HN.out)
      clear hx hsz HM HN hfr
      obtain ⟨v, k', n', s', A', c', a'⟩ := x
      simp only [Tm.kind, Tm.num, Tm.name, Tm.at_, Tm.args, Tm.cap] at c0 c1 c2 c3 c4
      go_wp2_with fail
      refine (QV.out).mono ?_
      rintro e w2 ⟨v2, rfl, hown, hb2⟩
      obtain ⟨V, q, rfl, hI, _⟩ := hown.form
      have HI := Lib.hid hI
      have HW := Lib.hid (hbw.trans (hb2.mono hbw.size))
      have hos := HAl.out
      clear hown hI hb2 c0 c1 c2 c3 c4 hbw QV
      go_wp2_with fail
      go_loopw [5] (fun i2 wr2 => ∃ k : Nat, k ≤ os.length ∧ i2 = .int .i64 k ∧ Hid ((os.take k).all (fun v => (look b v).isNone) = true) ∧ Below w2.heap.size w2 wr2) (fun i2 _ => os.length - (intOf i2).toNat)
      case atStart => exact ⟨0, Nat.zero_le _, rfl, Lib.hid rfl, Below.refl _ _⟩
      case round =>
        obtain ⟨k, hk, rfl, HG, hbw2⟩ := hrel
        by_cases hlk : k < os.length
        · obtain ⟨b1, o1, rfl, v0⟩ := (HI.out.below hbw2).get hlk
          have HN3 := Lib.hid (iall_next (fun v => (look b v).isNone) hlk)
          have HS3 := Lib.hid (iall_stop (p := fun v => (look b v).isNone) hlk)
          generalize os.getD k 0 = u at *
          have QL := Lib.hid (fun (W : World) (h : Below w2.heap.size w2 W) => ref_lookup_at b (some ⟨b0, o, none⟩) c u W (HB.out.below (HW.out.trans (h.mono HW.out.size))))
          obtain ⟨t, ht⟩ : ∃ t, optT (look b u) = t := ⟨_, rfl⟩
          rw [ht] at QL
          clear ht
          obtain ⟨tk, tn, ts, tA, tc, ta⟩ := t
          cases hlu : look b u with
          | none =>
            rw [hlu] at QL
            simp only [Option.isSome_none] at QL
            have HE := Lib.hid (show ((os.take (k + 1)).all fun v => (look b v).isNone) = true by rw [HN3.out, HG.out, hlu]; rfl)
            clear hlu
            go_wp2_with fail
            refine (QL.out _ hbw2).mono ?_
            rintro e w3 ⟨rfl, hb3⟩
            have hb4 := hbw2.trans (hb3.mono hbw2.size)
            go_wp2_with fail
            go_roundw
            case rel => exact ⟨k + 1, by omega, by go_num, HE, hb4.alloc hb4.size _⟩
            case measure => simp [intOf]; omega
          | some y =>
            rw [hlu] at QL
            simp only [Option.isSome_some] at QL
            have HE := Lib.hid (HM2.out (by rw [← HV.out]; exact HS3.out (by rw [hlu]; rfl)))
            clear hlu
            go_wp2_with fail
            refine (QL.out _ hbw2).mono ?_
            rintro e w3 ⟨rfl, hb3⟩
            have hb4 := HW.out.trans ((hbw2.trans (hb3.mono hbw2.size)).mono HW.out.size)
            go_wp2_with fail
            go_ret
            exact ⟨by rw [HE.out]; rfl, hb4.alloc hb4.size _⟩
        · obtain rfl : k = os.length := by omega
          have hG := HG.out
          rw [List.take_length, HV.out] at hG
          have HE := Lib.hid (show ((b.take (j + 1)).all fun x => freeB b x.tm) = true by rw [HN2.out, HF.out, hG]; rfl)
          clear hG HG
          go_wp2_with fail
          go_roundw
          case rel => exact ⟨j + 1, by omega, by go_num, HE, HW.out.trans (hbw2.mono HW.out.size)⟩
          case measure => simp [intOf]; omega
    · obtain rfl : j = b.length := by omega
      have hF := HF.out
      rw [List.take_length] at hF
      have HE := Lib.hid (show apartB b = true from hF)
      clear hF HF
      go_wp2_with fail
      go_ret
      exact ⟨by rw [HE.out]; rfl, hbw⟩
end Go.Proofs.YtgpglgehlnfggaaGreat
namespace Go.Proofs.YtgpglgehlnfggaaGreat
open Go.RowKit
abbrev From (w0 : World) : World → Prop := fun W => Below w0.heap.size w0 W
def RMade (w0 : World) (t : Tm) (w : World) (e : Ending) (w' : World) : Prop := ∃ u : Tm, e = .returned u.val ∧ u.strip = t.strip ∧ Lie (From w0) w.heap.size No w' u ∧ Below w.heap.size w w'
def RMadeN (w0 : World) (n : Nat) (m : List Tm) (w : World) (e : Ending) (w' : World) : Prop :=
  ∃ A cap, ∃ cur : List Tm, e = .returned (.slice A n cap) ∧ cur.length = n ∧ stripL cur = stripL m ∧ (∀ W, From w0 W → Agree w.heap.size No w' W → Lst W A cur cap) ∧ Below w.heap.size w w'
theorem rlie_row {B : World → Prop} {w w' : World} {k n : Int} {s : ByteArray} {A : Option Addr} {cap lo : Nat} {cur : List Tm} (hp : Fits k ∧ Fits n ∧ s.size ≤ maxLen) (h : ∀ W, B W → Agree lo No w' W → Lst W A cur cap) (hlo : w.heap.size ≤ lo) : Lie B w.heap.size No w' (.mk k n s A cap cur) :=
  fun W hB hW => (At_iff _ _).2 ⟨hp, h W hB fun b h1 h2 h3 => hW b (by omega) h2 h3⟩
theorem take_tm {l : List Tm} {k : Nat} (h : k < l.length) : l.take (k + 1) = l.take k ++ [l.getD k default] := by
  rw [List.take_add_one, List.getElem?_eq_getElem h]
  simp [List.getD, List.getElem?_eq_getElem h]
set_option maxHeartbeats 4000000 in
set_option maxRecDepth 100000 in
theorem ref_apply_terms_at (w0 : World) (b : List Bd) (D : Option Addr) (q : Nat) (l : List Tm) (A : Option Addr) (c : Nat) (w : World) (hl : Lst w A l c) (hsz : l.length ≤ 1000000)
    (ih : ∀ x ∈ l, ∀ W : World, Below w.heap.size w W → Calls Tryz.prog 86 #[.slice D b.length q, x.val] W (RMade w0 (x.app b) W)) :
    Calls Tryz.prog 58 #[.slice D b.length q, .slice A l.length c] w (RMadeN w0 l.length (appL b l) w) := by
  obtain ⟨i0, hi, hz0, hz1, hz2⟩ := info_parts term_info
  have HL := Lib.hid hl
  have HI := Lib.hid ih
  have HA := Lib.hid (fun l => appL_map b l)
  clear hl ih
  go_enter Tryz.func58, Tryz.ntmps58
  go_wp2_with fail
  go_loopw [5, 6] (fun z i wr => ∃ (j : Nat) (acc : List Tm) (x : Value), j ≤ l.length ∧ i = .int .i64 j ∧ z = x ∧ Hid (RowT (From w0) w.heap.size wr x acc) ∧ Hid (stripL acc = stripL (appL b (l.take j))) ∧ Hid (acc.length = j) ∧ Below w.heap.size w wr) (fun _ i _ => l.length - (intOf i).toNat)
  case atStart => exact ⟨0, [], _, Nat.zero_le _, rfl, rfl, Lib.hid (RowT.nil _ _ _), Lib.hid rfl, Lib.hid rfl, Below.refl _ _⟩
  case round =>
    obtain ⟨j, acc, z, hj, rfl, hz, HK, HS, HAc, hbw⟩ := hrel
    have hz' := hz.symm
    subst hz'
    clear hz
    by_cases hlt : j < l.length
    · obtain ⟨b0, o, rfl, ⟨c0, c1, c2, c3⟩, _⟩ := (HL.out.below hbw).get hlt
      have HT := Lib.hid (take_tm hlt)
      have Q := Lib.hid (fun W (h : Below w.heap.size w W) => HI.out _ (getD_mem hlt) W h)
      have hal : acc.length ≤ 1000000 := by rw [HAc.out]; omega
      generalize l.getD j default = x at *
      obtain ⟨k', n', s', A', c', a'⟩ := x
      simp only [Tm.kind, Tm.num, Tm.name, Tm.at_, Tm.args, Tm.cap] at c0 c1 c2 c3
      go_wp2_with fail
      refine (Q.out _ hbw).mono ?_
      rintro e w2 ⟨u, rfl, hu, hlie, hb2⟩
      have HU := Lib.hid (lie_apart HK.out.1 hlie hbw.size (Nat.le_refl _))
      have HK2 := Lib.hid (HK.out.below hb2)
      have HS2 := Lib.hid (show stripL (acc ++ [u]) = stripL (appL b (l.take (j + 1))) by
        rw [HT.out, HA.out, List.map_append, stripL_append, stripL_append, HS.out, HA.out]
        simp only [stripL, List.map_cons, List.map_nil, hu])
      have hbw2 := hbw.trans (hb2.mono hbw.size)
      have HOwn := Lib.hid (own_lt HK2.out.1)
      have hlo := hbw2.size
      clear hu hlie hb2 hbw c0 c1 c2 c3 HK HS Q
      obtain ⟨k2, n2, s2, A2, p2, a2⟩ := u
      go_wp2_with (at_builtin; refine wpList_append_lies _ rfl _ _ 22 rfl w.heap.size 40 i0 _ 4 56 Tryz.underlying22 hi hz0 hz1 hz2 rfl (by decide) _ acc.length (tcells acc) rfl (HK2.out.1.alloc _) ⟨w2.heap.size, 0, none⟩ 1 1 (Tm.cells (.mk k2 n2 s2 A2 p2 a2)) rfl rfl (tnews1 w2 (.mk k2 n2 s2 A2 p2 a2) _) (cells_one _) (by decide) (by unfold maxLen; omega) (by omega) (by simp; omega) _ rfl ?_; intro g cap w5 hown hg hat hglt)
      have HR5 := Lib.hid (HK2.out.next (u := .mk k2 n2 s2 A2 p2 a2) HU.out (below1 w2 _) hown hg hat)
      have HB5 : Below w.heap.size w w5 := (hbw2.alloc hbw2.size _).grown hg (by simp; omega) (fun k hk => (HOwn.out k hk).1)
      clear hown hg hat hglt
      go_wp2_with fail
      go_roundw
      case rel => exact ⟨j + 1, acc ++ [.mk k2 n2 s2 A2 p2 a2], _, by omega, by go_num, rfl, HR5, HS2, Lib.hid (by rw [List.length_append, HAc.out]; rfl), HB5⟩
      case measure => simp [intOf]; omega
    · obtain rfl : j = l.length := by omega
      have hK := HK.out
      obtain ⟨A', cz, hz, hcz⟩ := hK.form
      subst hz
      have HF := Lib.hid hK.lies
      have HE := Lib.hid (show stripL acc = stripL (appL b l) by rw [HS.out, List.take_length])
      rw [HAc.out]
      clear hK HK hlt HS hcz
      go_wp2_with fail
      go_ret
      exact ⟨A', cz, acc, rfl, HAc.out, HE.out, HF.out, hbw⟩
set_option maxHeartbeats 4000000 in
theorem ref_apply_at (w0 : World) (b : List Bd) (D : Option Addr) (q : Nat) (hb : BLst w0 D b q) (t : Tm) : t.At w0 → t.nodes ≤ 1000000 → ∀ w : World, Below w0.heap.size w0 w → Calls Tryz.prog 86 #[.slice D b.length q, t.val] w (RMade w0 (t.app b) w) := by
  induction t using Tm.induct with
  | h k n s A c a ih =>
    intro hat hnodes w hw
    show Calls Tryz.prog 86 #[.slice D b.length q, .agg #[.int .i64 k, .int .i64 n, .string s, .slice A a.length c]] w _
    have HT := Lib.hid hat
    have HP := Lib.hid ((At_iff _ _).1 hat).1
    simp only [Tm.kind, Tm.num, Tm.name] at HP
    obtain ⟨HB0, HB1⟩ := two_boxes w (.int .i64 k) (.int .i64 n) (.string s) (.slice A a.length c) (.int .i64 0) (.int .i64 0) (.string ⟨#[]⟩) (.slice none 0 0) 40
    have H0 := Lib.hid HB0
    have H1 := Lib.hid HB1
    clear HB0 HB1
    by_cases k2 : k = 2
    · subst k2
      have hl : Lst w0 A a c := hat.lst
      have hna : nodesL a ≤ 1000000 := by simp only [Tm.nodes] at hnodes; omega
      have hln : a.length ≤ 1000000 := by have := length_le_nodes a; omega
      have Q1 := Lib.hid (fun W (h : Below w.heap.size w W) => ref_apply_terms_at w0 b D q a A c W ((hl.below hw).below h) hln (fun x hx W' h' => ih x hx (hl.mem hx) (by have := nodes_mem hx; omega) W' (hw.trans ((h.trans (h'.mono h.size)).mono hw.size))))
      have HV := Lib.hid (show (Tm.mk 2 n s A c a).app b = .mk 2 n s A c (appL b a) by simp [Tm.app])
      clear hat ih hl hna hnodes hln hb hw HT
      go_enter Tryz.func86, Tryz.ntmps86
      go_wp2_with fail
      refine (Q1.out _ (below2 _ _ _)).mono ?_
      rintro e w1 ⟨A', cap, cur, rfl, hcl, hst, hL, hb2⟩
      have HK := Lib.hid (H0.out.below hb2)
      have HM := Lib.hid (H1.out.below hb2)
      have hb1 := (below2 w (.cells #[.int .i64 2, .int .i64 n, .string s, .slice A a.length c] 40) zeroBox).trans (hb2.mono (by simp; omega))
      obtain ⟨hz0, d0, d1, d2, d3, f⟩ := HK.out
      obtain ⟨hz, e0, e1, e2, e3, f'⟩ := HM.out
      have f3 := f 3
      have f0' := f' 0
      have f1' := f' 1
      have f2' := f' 2
      have f3' := f' 3
      have HB := Lib.hid hb1
      have HL := Lib.hid hL
      have HS := Lib.hid hst
      have HC := Lib.hid hcl
      clear f f' hb1 hL hst hcl hb2 Q1
      go_wp2_with fail
      refine bodyPost_ret (v := .agg #[.int .i64 2, .int .i64 n, .string s, .slice A' a.length cap]) (by simp [results, Tryz.results86, go_sem, e0, e1, e2, e3]) rfl ?_
      have hsz : ((w.alloc (.cells #[.int .i64 2, .int .i64 n, .string s, .slice A a.length c] 40)).alloc zeroBox).heap.size = w.heap.size + 2 := by simp
      refine ⟨.mk 2 n s A' cap cur, by rw [← HC.out]; rfl, ?_, rlie_row (lo := w.heap.size + 2) HP.out (fun W hBW hW => HL.out W hBW fun b' h1 h2 h3 => ?_) (by omega), set4c (HB.out.setCell (Nat.le_refl _) _) (Nat.le_succ _)⟩
      · rw [HV.out]
        simp only [Tm.strip, HS.out]
      · rw [hsz] at h1
        rw [hW b' h1 (by rw [size_set4]; simpa [World.setCell] using h2) h3, heap_set4 _ (by omega), Below.heap_setCell _ _ _ _ (by show b' ≠ w.heap.size; omega)]
    · have k2' : (k == 2) = false := by simpa using k2
      by_cases k1 : k = 1
      · subst k1
        have hF := Lib.hid (fun W (h : Below w.heap.size w W) => ref_lookup_at b D q n W ((hb.below hw).below h))
        have HLk := Lib.hid (fun (x : Tm) (hx : look b n = some x) => show x.At w0 from hb.look hx)
        have HV := Lib.hid (show (Tm.mk 1 n s A c a).app b = (look b n).getD (.mk 1 n s A c a) by simp [Tm.app])
        clear hat ih hnodes hb k2 k2' hw
        generalize look b n = lk at *
        cases lk with
        | none =>
          simp only [Option.getD_none] at HV
          obtain ⟨z0, hz0⟩ : ∃ z, optT none = z := ⟨_, rfl⟩
          rw [hz0] at hF
          clear hz0 HLk
          obtain ⟨zk, zn, zs, zA, zc, za⟩ := z0
          have QF := Lib.hid (fun W (h : Below w.heap.size w W) => show Calls Tryz.prog 84 #[.slice D b.length q, .int .i64 n] W fun e w' => e = .returned (.tuple #[.agg #[.int .i64 zk, .int .i64 zn, .string zs, .slice zA za.length zc], .bool false]) ∧ Below W.heap.size W w' from hF.out W h)
          clear hF
          go_enter Tryz.func86, Tryz.ntmps86
          go_wp2_with fail
          refine (QF.out _ (below2 _ _ _)).mono ?_
          rintro e w1 ⟨rfl, hb2⟩
          have HK := Lib.hid ((H0.out.below hb2).alloc (.cells #[.int .i64 zk, .int .i64 zn, .string zs, .slice zA za.length zc] 40))
          have HM := Lib.hid ((H1.out.below hb2).alloc (.cells #[.int .i64 zk, .int .i64 zn, .string zs, .slice zA za.length zc] 40))
          have HB := Lib.hid (((below2 w (.cells #[.int .i64 1, .int .i64 n, .string s, .slice A a.length c] 40) zeroBox).trans (hb2.mono (by simp; omega))).alloc (by have := hb2.size; simp at this; omega) (.cells #[.int .i64 zk, .int .i64 zn, .string zs, .slice zA za.length zc] 40))
          obtain ⟨hz0, d0, d1, d2, d3, _⟩ := HK.out
          obtain ⟨hz, e0, e1, e2, e3, f'⟩ := HM.out
          have f0' := f' 0
          have f1' := f' 1
          have f2' := f' 2
          have f3' := f' 3
          clear hb2 QF f'
          go_wp2_with fail
          refine bodyPost_ret (v := .agg #[.int .i64 1, .int .i64 n, .string s, .slice A a.length c]) (by simp [results, Tryz.results86, go_sem, e0, e1, e2, e3]) rfl ?_
          exact ⟨.mk 1 n s A c a, rfl, by rw [HV.out], Lie.any fun W hW => HT.out.below hW, set4c HB.out (Nat.le_succ _)⟩
        | some x =>
          simp only [Option.getD_some] at HV
          have HX := Lib.hid (HLk.out x rfl)
          rw [HV.out]
          clear HV HT
          obtain ⟨xk, xn, xs, xA, xc, xa⟩ := x
          have QF := Lib.hid (fun W (h : Below w.heap.size w W) => show Calls Tryz.prog 84 #[.slice D b.length q, .int .i64 n] W fun e w' => e = .returned (.tuple #[.agg #[.int .i64 xk, .int .i64 xn, .string xs, .slice xA xa.length xc], .bool true]) ∧ Below W.heap.size W w' from hF.out W h)
          clear hF HLk
          go_enter Tryz.func86, Tryz.ntmps86
          go_wp2_with fail
          refine (QF.out _ (below2 _ _ _)).mono ?_
          rintro e w1 ⟨rfl, hb2⟩
          have HM := Lib.hid ((H1.out.below hb2).alloc (.cells #[.int .i64 xk, .int .i64 xn, .string xs, .slice xA xa.length xc] 40))
          have HB := Lib.hid (((below2 w (.cells #[.int .i64 1, .int .i64 n, .string s, .slice A a.length c] 40) zeroBox).trans (hb2.mono (by simp; omega))).alloc (by have := hb2.size; simp at this; omega) (.cells #[.int .i64 xk, .int .i64 xn, .string xs, .slice xA xa.length xc] 40))
          obtain ⟨hz, e0, e1, e2, e3, f'⟩ := HM.out
          have f0' := f' 0
          have f1' := f' 1
          have f2' := f' 2
          have f3' := f' 3
          clear hb2 QF f'
          go_wp2_with fail
          refine bodyPost_ret (v := .agg #[.int .i64 xk, .int .i64 xn, .string xs, .slice xA xa.length xc]) (by simp [results, Tryz.results86, go_sem, e0, e1, e2, e3]) rfl ?_
          exact ⟨.mk xk xn xs xA xc xa, rfl, rfl, Lie.any fun W hW => HX.out.below hW, set4c HB.out (Nat.le_succ _)⟩
      · have k1' : (k == 1) = false := by simpa using k1
        have HV := Lib.hid (show (Tm.mk k n s A c a).app b = .mk k n s A c a by simp [Tm.app, k1, k2])
        clear hat ih hnodes hb k1 k2 hw
        go_enter Tryz.func86, Tryz.ntmps86
        go_wp2_with fail
        refine bodyPost_ret (v := .agg #[.int .i64 k, .int .i64 n, .string s, .slice A a.length c]) (by simp [results, Tryz.results86, go_sem]) rfl ?_
        exact ⟨.mk k n s A c a, rfl, by rw [HV.out], Lie.any fun W hW => HT.out.below hW, below2 _ _ _⟩
end Go.Proofs.YtgpglgehlnfggaaGreat
namespace Go.Proofs.YtgpglgehlnfggaaGreat
open Go.RowKit
theorem BLst.part {w : World} {b o c : Nat} {l : List Bd} (h : BLst w (some ⟨b, o, none⟩) l c) (k m : Nat) (hkm : k + m ≤ l.length) : ∀ j u, (bcells ((l.drop k).take m))[j]? = some u → w.cell? ⟨b, o + k * 5 + j, none⟩ = some u := by
  intro j u hu
  have hlen : ((l.drop k).take m).length = m := by simp; omega
  have hj : j < m * 5 := by
    have := (List.getElem?_eq_some_iff.1 hu).1
    rwa [bcells_len, hlen] at this
  have h5 : j = (j / 5) * 5 + j % 5 := by omega
  have hi : j / 5 < m := by omega
  have hu' : (bcells ((l.drop k).take m))[j / 5 * 5 + j % 5]? = some u := by rw [← h5]; exact hu
  rw [bcells_get _ (by omega) (by omega)] at hu'
  have e : ((l.drop k).take m).getD (j / 5) default = l.getD (k + j / 5) default := by
    simp [List.getD, hi, List.getElem?_drop]
  rw [e] at hu'
  obtain ⟨b', o', e', hr⟩ := h.2.2 (by omega)
  injection e' with e'
  injection e' with e1 e2 _
  subst e1 e2
  have hc := (hr (k + j / 5) (by omega)).1 (j % 5) u hu'
  have e3 : o + k * 5 + j = o + (k + j / 5) * 5 + j % 5 := by omega
  rw [e3]
  exact hc
def IntoR (w0 : World) (l : List Bd) (u : Bd) (w : World) (e : Ending) (w' : World) : Prop :=
  ∃ A' c', e = .returned (.slice A' (l.length + 1) c') ∧ RowB (From w0) w0.heap.size w' (.slice A' (l.length + 1) c') (insB u l) ∧ Below w.heap.size w w'
theorem bcells_ones (l : List Bd) : ∀ v ∈ bcells l, v.oneCell' = true := by
  intro v hv
  obtain ⟨x, _, hx⟩ := List.mem_flatMap.1 hv
  exact bcells_one x v hx
theorem BLst.take_cells {w : World} {b o c : Nat} {l : List Bd} (h : BLst w (some ⟨b, o, none⟩) l c) {k : Nat} (hk : k ≤ l.length) : ∀ ad, (some ⟨b, o, none⟩ : Option Addr) = some ad → ∀ j u, (bcells (l.take k))[j]? = some u → w.cell? (ad.add j) = some u := by
  intro ad e j u hu
  injection e with e
  subst e
  have := h.part 0 k (by omega) j u (by simpa using hu)
  rw [add_plain]
  simpa using this
theorem BLst.drop_cells {w : World} {b o c : Nat} {l : List Bd} (h : BLst w (some ⟨b, o, none⟩) l c) {k : Nat} (hk : k ≤ l.length) : ∀ ad, (some ⟨b, o + k * 5, none⟩ : Option Addr) = some ad → ∀ j u, (bcells (l.drop k))[j]? = some u → w.cell? (ad.add j) = some u := by
  intro ad e j u hu
  injection e with e
  subst e
  have := h.part k (l.length - k) (by omega) j u (by rw [List.take_of_length_le (by simp)]; exact hu)
  rw [add_plain]
  exact this
end Go.Proofs.YtgpglgehlnfggaaGreat
namespace Go.Proofs.YtgpglgehlnfggaaGreat
open Go
def flr (a b : Int) : Int := if b < 0 then (-a) / (-b) else a / b
theorem neg_div {c d : Int} (hd : 0 < d) : (-c) / d = if c % d = 0 then -(c / d) else -(c / d) - 1 := by
  have h1 := Int.emod_add_mul_ediv c d
  have h2 := Int.emod_nonneg c (show d ≠ 0 by omega)
  have h3 := Int.emod_lt_of_pos c hd
  generalize hq : c / d = q at *
  generalize hr : c % d = r at *
  split
  · rename_i h0
    rw [show -c = d * (-q) by rw [Int.mul_neg]; omega]
    exact Int.mul_ediv_cancel_left _ (by omega)
  · rename_i h0
    rw [show -c = (d - r) + d * (-q - 1) by rw [Int.mul_sub, Int.mul_neg]; omega, Int.add_mul_ediv_left _ _ (by omega), Int.ediv_eq_zero_of_lt (by omega) (by omega)]
    omega
def tq (a b : Int) : Int := if a.tmod b ≠ 0 ∧ (decide (a < 0) != decide (b < 0)) = true then a.tdiv b - 1 else a.tdiv b
theorem tdivmod_pos {a b : Int} (ha : 0 ≤ a) : a.tdiv b = a / b ∧ a.tmod b = a % b := ⟨Int.tdiv_eq_ediv_of_nonneg ha, Int.tmod_eq_emod_of_nonneg ha⟩
theorem ne_t {p q : Prop} [Decidable p] [Decidable q] (hp : p) (hq : ¬ q) : (decide p != decide q) = true := by simp [hp, hq]
theorem ne_t' {p q : Prop} [Decidable p] [Decidable q] (hp : ¬ p) (hq : q) : (decide p != decide q) = true := by simp [hp, hq]
theorem ne_f {p q : Prop} [Decidable p] [Decidable q] (hp : p) (hq : q) : ¬ (decide p != decide q) = true := by simp [hp, hq]
theorem ne_f' {p q : Prop} [Decidable p] [Decidable q] (hp : ¬ p) (hq : ¬ q) : ¬ (decide p != decide q) = true := by simp [hp, hq]
theorem tq_flr {a b : Int} (hb : b ≠ 0) : tq a b = flr a b := by
  unfold tq flr
  by_cases h : b < 0
  · obtain ⟨d, rfl⟩ : ∃ d, b = -d := ⟨-b, by omega⟩
    have hd : 0 < d := by omega
    rw [if_pos h, Int.tdiv_neg, Int.tmod_neg, Int.neg_neg]
    by_cases ha : a < 0
    · obtain ⟨c, rfl⟩ : ∃ c, a = -c := ⟨-a, by omega⟩
      rw [if_neg (fun h' => ne_f ha h h'.2), Int.neg_tdiv, Int.neg_neg, Int.neg_neg, (tdivmod_pos (by omega)).1]
    · rw [(tdivmod_pos (by omega)).1, (tdivmod_pos (by omega)).2, neg_div hd]
      by_cases hz : a % d = 0
      · rw [if_neg (by simp [hz]), if_pos hz]
      · rw [if_pos ⟨hz, ne_t' ha h⟩, if_neg hz]
  · have hd : 0 < b := by omega
    rw [if_neg h]
    by_cases ha : a < 0
    · obtain ⟨c, rfl⟩ : ∃ c, a = -c := ⟨-a, by omega⟩
      rw [Int.neg_tdiv, Int.neg_tmod, (tdivmod_pos (a := c) (by omega)).1, (tdivmod_pos (a := c) (by omega)).2, neg_div hd]
      by_cases hz : c % b = 0
      · rw [if_neg (by simp [hz]), if_pos hz]
      · rw [if_pos ⟨by omega, ne_t ha h⟩, if_neg hz]
    · rw [if_neg (fun h' => ne_f' ha h h'.2), (tdivmod_pos (by omega)).1]
theorem ref_flr {a b : Int} (hb : 0 < b) : -((b - 1 - a) / b) = a / b := by
  have h1 := Int.emod_add_mul_ediv a b
  have h2 := Int.emod_nonneg a (show b ≠ 0 by omega)
  have h3 := Int.emod_lt_of_pos a hb
  generalize hq : a / b = q at *
  generalize hr : a % b = r at *
  rw [show b - 1 - a = (b - 1 - r) + b * (-q) by rw [Int.mul_neg]; omega, Int.add_mul_ediv_left _ _ (by omega), Int.ediv_eq_zero_of_lt (by omega) (by omega)]
  omega
theorem div_small {a b : Int} (hb : 0 < b) (ha : 0 ≤ a) : 0 ≤ a / b ∧ a / b ≤ a := ⟨Int.ediv_nonneg ha (by omega), Int.ediv_le_self _ ha⟩
theorem flr_rem {a b : Int} (hb : b ≠ 0) : (0 < b → 0 ≤ a - flr a b * b ∧ a - flr a b * b < b) ∧ (b < 0 → a - flr a b * b ≤ 0 ∧ b < a - flr a b * b) := by
  unfold flr
  refine ⟨fun h => ?_, fun h => ?_⟩
  · rw [if_neg (by omega)]
    have h1 := Int.emod_add_mul_ediv a b
    have h2 := Int.emod_nonneg a hb
    have h3 := Int.emod_lt_of_pos a h
    rw [Int.mul_comm] at h1
    omega
  · rw [if_pos h]
    have h1 := Int.emod_add_mul_ediv (-a) (-b)
    have h2 := Int.emod_nonneg (-a) (show -b ≠ 0 by omega)
    have h3 := Int.emod_lt_of_pos (-a) (show 0 < -b by omega)
    rw [Int.neg_mul, Int.mul_comm] at h1
    omega
def inR (n : Int) : Bool := decide (-2147483648 ≤ n) && decide (n ≤ 2147483648)
theorem inR_iff (n : Int) : inR n = true ↔ -2147483648 ≤ n ∧ n ≤ 2147483648 := by simp [inR]
def acomp (s : List UInt8) (a b : Int) : Int := if s = [43] then a + b else if s = [45] then a - b else if s = [42] then a * b else if s = [47] then flr a b else a - flr a b * b
def zeroB (s : List UInt8) (b : Int) : Bool := decide (b = 0) && (decide (s = [47]) || decide (s = [37]))
def app (s : List UInt8) (a b : Int) : Int × Int :=
  if opB s = false then (0, 7) else if (inR a && inR b) = false then (0, 5) else if zeroB s b = true then (0, 12) else if inR (acomp s a b) = true then (acomp s a b, 0) else (0, 5)
theorem op_cases {s : List UInt8} (h : opB s = true) : s = [43] ∨ s = [45] ∨ s = [42] ∨ s = [47] ∨ s = [37] := by
  simpa [opB, operators] using h
theorem flr_small {a b : Int} (hb : b ≠ 0) {m : Int} (h1 : -m ≤ a) (h2 : a ≤ m) : -m ≤ flr a b ∧ flr a b ≤ m := by
  have key : ∀ c d : Int, 0 < d → -m ≤ c → c ≤ m → -m ≤ c / d ∧ c / d ≤ m := by
    intro c d hd l1 l2
    by_cases hc : 0 ≤ c
    · have := div_small hd hc; omega
    · obtain ⟨e, rfl⟩ : ∃ e, c = -e := ⟨-c, by omega⟩
      rw [neg_div hd]
      have := div_small hd (show 0 ≤ e by omega)
      have hx := Int.emod_add_mul_ediv e d
      have h0 : 0 ≤ e / d := this.1
      split
      · omega
      · rename_i hz
        have hr1 := Int.emod_nonneg e (show d ≠ 0 by omega)
        have hle : e / d ≤ d * (e / d) := by
          have := Int.mul_le_mul_of_nonneg_right (show (1 : Int) ≤ d by omega) h0
          omega
        omega
  unfold flr
  by_cases h : b < 0
  · rw [if_pos h]; exact key _ _ (by omega) (by omega) (by omega)
  · rw [if_neg h]; exact key _ _ (by omega) h1 h2
def comb (s : List UInt8) : List (Int × Int) → Int × Int
  | [x, y] => if x.2 ≠ 0 then (0, x.2) else if y.2 ≠ 0 then (0, y.2) else app s x.1 y.1
  | _ => (0, 11)
mutual
def Tm.eval : Tm → Int × Int
  | .mk k n s _ _ a => if k = 0 then (if inR n = true then (n, 0) else (0, 5)) else if k = 1 then (0, 17) else if k = 2 ∧ opB s.data.toList = true then comb s.data.toList (evalL a) else (0, 11)
def evalL : List Tm → List (Int × Int)
  | [] => []
  | t :: r => t.eval :: evalL r
end
theorem evalL_map (l : List Tm) : evalL l = l.map Tm.eval := by
  induction l with
  | nil => rfl
  | cons t r ih => simp [evalL, ih]
theorem evalL_length (l : List Tm) : (evalL l).length = l.length := by simp [evalL_map]
theorem comb_two {s : List UInt8} {l : List (Int × Int)} (h : (comb s l).2 ≠ 11 ∨ True) (hl : l.length ≠ 2) : comb s l = (0, 11) := by
  match l, hl with
  | [], _ => rfl
  | [_], _ => rfl
  | [_, _], hl => exact absurd rfl hl
  | _ :: _ :: _ :: _, _ => rfl
theorem eval_fun {n : Int} {s : ByteArray} {A : Option Addr} {c : Nat} {x y : Tm} (h : opB s.data.toList = true) :
    (Tm.mk 2 n s A c [x, y]).eval = if x.eval.2 ≠ 0 then (0, x.eval.2) else if y.eval.2 ≠ 0 then (0, y.eval.2) else app s.data.toList x.eval.1 y.eval.1 := by
  simp [Tm.eval, h, evalL, comb]
def Codes (p : Int × Int) : Prop := (p.2 = 0 ∧ inR p.1 = true) ∨ (p.1 = 0 ∧ (p.2 = 5 ∨ p.2 = 11 ∨ p.2 = 12 ∨ p.2 = 17))
theorem eval_strip : (∀ t : Tm, t.strip.eval = t.eval) ∧ (∀ l, evalL (stripL l) = evalL l) := by
  refine Tm.induct2 (fun k n s A c a ih => ?_) rfl (fun t r h1 h2 => ?_)
  · simp only [Tm.strip, Tm.eval, ih]
  · simp only [stripL, evalL, h1, h2]
end Go.Proofs.YtgpglgehlnfggaaGreat
namespace Go.Proofs.YtgpglgehlnfggaaGreat
open Go.RowKit
theorem araw_list (s : ByteArray) : s.toList = s.data.toList := ByteArray.toList_eq s
theorem astr_of {s : ByteArray} {l : List UInt8} (h : s.data.toList = l) : s = ⟨l.toArray⟩ := by
  subst h
  rfl
theorem araw_ne {s : ByteArray} {l : List UInt8} (h : s.data.toList ≠ l) : (s.toList == l) = false := by
  rw [araw_list]
  simpa using h
set_option maxHeartbeats 1000000 in
theorem is_op_at (s : ByteArray) (w : World) {r : Bool} (hr : opB s.data.toList = r) :
    Calls Tryz.prog 138 #[.string s] w fun e w' => e = .returned (.bool r) ∧ w = w' := by
  by_cases h0 : s.data.toList = [43]
  · obtain rfl := astr_of h0
    obtain rfl : true = r := by rw [← hr]; decide
    clear h0 hr
    go_enter Tryz.func138, Tryz.ntmps138
    go_wp2
    go_ret
    exact ⟨rfl, rfl⟩
  by_cases h1 : s.data.toList = [45]
  · obtain rfl := astr_of h1
    obtain rfl : true = r := by rw [← hr]; decide
    clear h0 h1 hr
    go_enter Tryz.func138, Tryz.ntmps138
    go_wp2
    go_ret
    exact ⟨rfl, rfl⟩
  by_cases h2 : s.data.toList = [42]
  · obtain rfl := astr_of h2
    obtain rfl : true = r := by rw [← hr]; decide
    clear h0 h1 h2 hr
    go_enter Tryz.func138, Tryz.ntmps138
    go_wp2
    go_ret
    exact ⟨rfl, rfl⟩
  by_cases h3 : s.data.toList = [47]
  · obtain rfl := astr_of h3
    obtain rfl : true = r := by rw [← hr]; decide
    clear h0 h1 h2 h3 hr
    go_enter Tryz.func138, Tryz.ntmps138
    go_wp2
    go_ret
    exact ⟨rfl, rfl⟩
  by_cases h4 : s.data.toList = [37]
  · obtain rfl := astr_of h4
    obtain rfl : true = r := by rw [← hr]; decide
    clear h0 h1 h2 h3 h4 hr
    go_enter Tryz.func138, Tryz.ntmps138
    go_wp2
    go_ret
    exact ⟨rfl, rfl⟩
  obtain rfl : false = r := by
    rw [← hr]
    simp only [opB, operators, List.mem_cons, List.not_mem_nil, or_false, h0, h1, h2, h3, h4, decide_false]
  have n0 := araw_ne h0
  have n1 := araw_ne h1
  have n2 := araw_ne h2
  have n3 := araw_ne h3
  have n4 := araw_ne h4
  clear h0 h1 h2 h3 h4 hr
  go_enter Tryz.func138, Tryz.ntmps138
  go_wp2
  go_ret
  exact ⟨rfl, rfl⟩
set_option maxHeartbeats 1000000 in
theorem ref_oper_at (s : ByteArray) (w : World) {r : Bool} (hr : opB s.data.toList = r) :
    Calls Tryz.prog 100 #[.string s] w fun e w' => e = .returned (.bool r) ∧ w = w' := by
  by_cases h0 : s.data.toList = [43]
  · obtain rfl := astr_of h0
    obtain rfl : true = r := by rw [← hr]; decide
    clear h0 hr
    go_enter Tryz.func100, Tryz.ntmps100
    go_wp2
    go_ret
    exact ⟨rfl, rfl⟩
  by_cases h1 : s.data.toList = [45]
  · obtain rfl := astr_of h1
    obtain rfl : true = r := by rw [← hr]; decide
    clear h0 h1 hr
    go_enter Tryz.func100, Tryz.ntmps100
    go_wp2
    go_ret
    exact ⟨rfl, rfl⟩
  by_cases h2 : s.data.toList = [42]
  · obtain rfl := astr_of h2
    obtain rfl : true = r := by rw [← hr]; decide
    clear h0 h1 h2 hr
    go_enter Tryz.func100, Tryz.ntmps100
    go_wp2
    go_ret
    exact ⟨rfl, rfl⟩
  by_cases h3 : s.data.toList = [47]
  · obtain rfl := astr_of h3
    obtain rfl : true = r := by rw [← hr]; decide
    clear h0 h1 h2 h3 hr
    go_enter Tryz.func100, Tryz.ntmps100
    go_wp2
    go_ret
    exact ⟨rfl, rfl⟩
  by_cases h4 : s.data.toList = [37]
  · obtain rfl := astr_of h4
    obtain rfl : true = r := by rw [← hr]; decide
    clear h0 h1 h2 h3 h4 hr
    go_enter Tryz.func100, Tryz.ntmps100
    go_wp2
    go_ret
    exact ⟨rfl, rfl⟩
  obtain rfl : false = r := by
    rw [← hr]
    simp only [opB, operators, List.mem_cons, List.not_mem_nil, or_false, h0, h1, h2, h3, h4, decide_false]
  have n0 := araw_ne h0
  have n1 := araw_ne h1
  have n2 := araw_ne h2
  have n3 := araw_ne h3
  have n4 := araw_ne h4
  clear h0 h1 h2 h3 h4 hr
  go_enter Tryz.func100, Tryz.ntmps100
  go_wp2
  go_ret
  exact ⟨rfl, rfl⟩
theorem in_range_at (n : Int) (w : World) {r : Bool} (hr : inR n = r) :
    Calls Tryz.prog 94 #[.int .i64 n] w fun e w' => e = .returned (.bool r) ∧ w = w' := by
  by_cases h1 : -2147483648 ≤ n
  · obtain ⟨b, hb⟩ : ∃ b, decide (n ≤ 2147483648) = b := ⟨_, rfl⟩
    obtain rfl : b = r := by rw [← hr, ← hb]; simp [inR, h1]
    clear hr
    have HB := Lib.hid hb
    clear hb
    go_enter Tryz.func94, Tryz.ntmps94
    go_wp2
    go_ret
    exact ⟨by rw [← HB.out]; rfl, rfl⟩
  · have h2 : decide (-2147483648 ≤ n) = false := by simpa using h1
    obtain rfl : false = r := by rw [← hr]; simp [inR, h1]
    clear hr h1
    go_enter Tryz.func94, Tryz.ntmps94
    go_wp2
    go_ret
    exact ⟨rfl, rfl⟩
theorem ref_in_at (n : Int) (w : World) {r : Bool} (hr : inR n = r) :
    Calls Tryz.prog 99 #[.int .i64 n] w fun e w' => e = .returned (.bool r) ∧ w = w' := by
  by_cases h1 : -2147483648 ≤ n
  · obtain ⟨b, hb⟩ : ∃ b, decide (n ≤ 2147483648) = b := ⟨_, rfl⟩
    obtain rfl : b = r := by rw [← hr, ← hb]; simp [inR, h1]
    clear hr
    have HB := Lib.hid hb
    clear hb
    go_enter Tryz.func99, Tryz.ntmps99
    go_wp2
    go_ret
    exact ⟨by rw [← HB.out]; rfl, rfl⟩
  · have h2 : decide (-2147483648 ≤ n) = false := by simpa using h1
    obtain rfl : false = r := by rw [← hr]; simp [inR, h1]
    clear hr h1
    go_enter Tryz.func99, Tryz.ntmps99
    go_wp2
    go_ret
    exact ⟨rfl, rfl⟩
end Go.Proofs.YtgpglgehlnfggaaGreat
