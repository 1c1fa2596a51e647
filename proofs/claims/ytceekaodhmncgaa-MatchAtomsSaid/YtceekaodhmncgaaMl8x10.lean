/-
  Contract of instance of the program (at a list of bindings in ascending order).
  Contract of Equal of the reference.
  What the laws of matching say, plainly.
  Great of a slice of one term that is just laid.
  Contracts of Vars, VarsOf, Ground and Occurs of the reference.
  Contracts of large, ascending and covers of the statements.
  Contract of covers of the statements.
  Contracts of slices.IndexFunc over bindings (with the method bindsVarIn, and with the closure of Lookup), slices.ContainsFunc over bindings, the closure of Lookup.
  Contract of Right of the program.
  Contracts of Lookup, apart and Right of the reference.
  Contracts of Apply and ApplyTerms of the reference.
-/
import Derived.Test.YtceekaodhmncgaaMl8x9
import Derived.Test.YtceekaodhmncgaaMl8x3
import Derived.Test.YtceekaodhmncgaaMl8x7
import Derived.Test.YtceekaodhmncgaaMl8x4
import Derived.Test.YtceekaodhmncgaaMl8x6
import Derived.BigQuiet
import Derived.Deep.QuietTactic
import Derived.Test.YtceekaodhmncgaaMl8x5
namespace Go.Proofs.Ytceekaodhmncgaa
open Go.RowKit

set_option maxHeartbeats 4000000 in
theorem instance_at (b : List Bd) (f : Int) (hf : Fits f) (hG : Good b) (D : Option Addr) (q : Nat) (t : Tm) : ∀ w : World, BLst w D b q → t.At w → t.nodes ≤ 1000000 → Calls Try.prog 40 #[.slice D b.length q, .int .i64 f, t.val] w (Made (t.inst b f) w) := by
  induction t using Tm.induct with
  | h k n s A c a ih =>
    intro w hb hat hnodes
    show Calls Try.prog 40 #[.slice D b.length q, .int .i64 f, .agg #[.int .i64 k, .int .i64 n, .string s, .slice A a.length c]] w _
    have QC := Lib.hid (fun W (h : Below w.heap.size w W) => copy_at (.mk k n s A c a) W (hat.below h) hnodes)
    have HP := Lib.hid ((At_iff _ _).1 hat).1
    simp only [Tm.kind, Tm.num, Tm.name] at HP
    obtain ⟨HB0, HB1⟩ := two_boxes w (.int .i64 k) (.int .i64 n) (.string s) (.slice A a.length c) (.int .i64 0) (.int .i64 0) (.string ⟨#[]⟩) (.slice none 0 0) 25
    have H0 := Lib.hid HB0
    have H1 := Lib.hid HB1
    clear HB0 HB1
    by_cases k2 : k = 2
    · subst k2
      have hl : Lst w A a c := hat.lst
      have hna : nodesL a ≤ 1000000 := by simp only [Tm.nodes] at hnodes; omega
      have hln : a.length ≤ 1000000 := by have := length_le_nodes a; omega
      have Q1 := Lib.hid (fun W (h : Below w.heap.size w W) => instances_at b f D q a A c W (hl.below h) hln (fun x hx W' h' => ih x hx W' (hb.below (h.trans (h'.mono h.size))) ((hl.mem hx).below (h.trans (h'.mono h.size))) (by have := nodes_mem hx; omega)))
      have HV := Lib.hid (show stripL (instL b f a) = stripL (instL b f a) from rfl)
      rw [inst_fun]
      clear hat ih hl hna hnodes hln hb QC
      go_enter Try.func40, Try.ntmps40
      go_wp2_with fail
      go_region_with (go_at_call 45; refine (Q1.out _ (by first | exact below2 _ _ _ | exact (below2 _ _ _).drew)).mono ?_; rintro e w1 ⟨A', cap, cur, rfl, hcl, hst, hL, hb2⟩; have HM := Lib.hid (H1.out.below (undrew hb2)); have HKX := Lib.hid (H0.out.below (undrew hb2)); have hk0 := HKX.out.c2; have hb1 := (below2 w (.cells #[.int .i64 2, .int .i64 n, .string s, .slice A a.length c] 25) zeroBox).trans (undrew (hb2.mono (by simp; omega))); obtain ⟨hz, e0, e1, e2, e3, f'⟩ := HM.out; have f0' := f' 0; have f1' := f' 1; have f2' := f' 2; have f3' := f' 3; have HB := Lib.hid hb1; have HL := Lib.hid (show ∀ W, Agree (w.heap.size + 2) No w1 W → Lst W A' cur cap from fun W hW => hL W (by simpa using hW)); have HS := Lib.hid hst; have HC := Lib.hid hcl; clear f' hb1 hL hst hcl hb2)
      all_goals
        go_wp2_with fail
        refine bodyPost_ret (v := .agg #[.int .i64 2, .int .i64 0, .string s, .slice A' a.length cap]) (by simp [results, Try.results40, go_sem, e0, e1, e2, e3]) rfl ?_
        refine ⟨.mk 2 0 s A' cap cur, by rw [← HC.out]; rfl, ?_, lie_row (lo := w.heap.size + 2) ⟨HP.out.1, by unfold Fits; omega, HP.out.2.2⟩ (fun W hW => HL.out W fun b' h1 h2 h3 => ?_) (by omega), set4c HB.out (Nat.le_succ _)⟩
        · simp only [Tm.strip, HS.out]
        · rw [hW b' h1 (by rw [size_set4]; exact h2) h3, heap_set4 _ (by omega)]
    · have k2' : (k == 2) = false := by simpa using k2
      by_cases k1 : k = 1
      · subst k1
        have hF := Lib.hid (fun W (h : Below w.heap.size w W) => find_at b D q n W (hb.below h) hG.len hG.srt)
        have HLk := Lib.hid (fun (x : Tm) (hx : look b n = some x) => (⟨hb.look hx, by obtain ⟨y, hy, _, rfl⟩ := look_some hx; exact hG.nodes y hy⟩ : x.At w ∧ x.nodes ≤ 1000000))
        have HV := Lib.hid (inst_var b f n s A c a)
        clear hat ih hnodes hb k2 k2'
        generalize look b n = lk at *
        cases lk with
        | none =>
          simp only [Option.getD_none] at HV
          have QR := Lib.hid (fun W => renamed_at f n hf HP.out.2.1 W)
          have HFV := Lib.hid (shiftV_fits (f := f) HP.out.2.1)
          rw [HV.out]
          go_enter Try.func40, Try.ntmps40
          go_wp2_with fail
          refine (hF.out _ (below2 _ _ _)).mono ?_
          rintro e w1 ⟨rfl, hb2⟩
          have HK := Lib.hid (H0.out.below hb2)
          have HM := Lib.hid (H1.out.below hb2)
          have hb1 := (below2 w (.cells #[.int .i64 1, .int .i64 n, .string s, .slice A a.length c] 25) zeroBox).trans (hb2.mono (by simp; omega))
          obtain ⟨hz0, d0, d1, d2, d3, _⟩ := HK.out
          simp only [optT, Option.getD_none, Option.isSome_none]
          clear hb2 hF HLk
          go_wp2_with fail
          refine (QR.out _).mono ?_
          rintro e w2 ⟨rfl, hb3⟩
          rw [numT_val]
          have hw : Below w1.heap.size w1 w2 := (below1 w1 _).trans (hb3.mono (by simp))
          have HM2 := Lib.hid (HM.out.below hw)
          have HB := Lib.hid (hb1.trans (hw.mono hb1.size))
          obtain ⟨hz, e0, e1, e2, e3, f'⟩ := HM2.out
          have f0' := f' 0
          have f1' := f' 1
          have f2' := f' 2
          have f3' := f' 3
          generalize shiftV f n = m at *
          clear f' hb1 hb3 hw QC HK HM d0 d1 d2 d3
          go_wp2_with fail
          refine bodyPost_ret (v := .agg #[.int .i64 1, .int .i64 m, .string ⟨#[]⟩, .slice none 0 0]) (by simp [results, Try.results40, go_sem, e0, e1, e2, e3]) rfl ?_
          exact ⟨numT 1 m, rfl, rfl, numT_lie (by unfold Fits; omega) HFV.out, set4c HB.out (Nat.le_succ _)⟩
        | some x =>
          simp only [Option.getD_some] at HV
          have hx := HLk.out x rfl
          have QX := Lib.hid (fun W (h : Below w.heap.size w W) => copy_at x W (hx.1.below h) hx.2)
          rw [HV.out]
          clear hx HV
          obtain ⟨xk, xn, xs, xA, xc, xa⟩ := x
          go_enter Try.func40, Try.ntmps40
          go_wp2_with fail
          refine (hF.out _ (below2 _ _ _)).mono ?_
          rintro e w1 ⟨rfl, hb2⟩
          have HM := Lib.hid (H1.out.below hb2)
          have hb1 := (below2 w (.cells #[.int .i64 1, .int .i64 n, .string s, .slice A a.length c] 25) zeroBox).trans (hb2.mono (by simp; omega))
          simp only [optT, Option.getD_some, Option.isSome_some]
          clear hb2 hF HLk QC
          go_wp2_with fail
          refine (QX.out _ (hb1.alloc hb1.size _)).mono ?_
          rintro e w2 ⟨u, rfl, hu, hlie, hb3⟩
          have hw : Below w1.heap.size w1 w2 := (below1 w1 _).trans (hb3.mono (by simp))
          have HM2 := Lib.hid (HM.out.below hw)
          have HB := Lib.hid (hb1.trans (hw.mono hb1.size))
          have HE := Lib.hid (hlie.low (lo' := w.heap.size + 2) (by simp; have := HM.out.lt; omega))
          have HS := Lib.hid hu
          obtain ⟨hz, e0, e1, e2, e3, f'⟩ := HM2.out
          have f0' := f' 0
          have f1' := f' 1
          have f2' := f' 2
          have f3' := f' 3
          clear f' hb1 hu hlie hb3 hw QX HM
          obtain ⟨k2, n2, s2, A2, p2, a2⟩ := u
          go_wp2_with fail
          refine bodyPost_ret (v := .agg #[.int .i64 k2, .int .i64 n2, .string s2, .slice A2 a2.length p2]) (by simp [results, Try.results40, go_sem, e0, e1, e2, e3, Tm.kind, Tm.num, Tm.name, Tm.at_, Tm.args, Tm.cap]) rfl ?_
          refine ⟨.mk k2 n2 s2 A2 p2 a2, rfl, HS.out, ?_, set4c HB.out (Nat.le_succ _)⟩
          exact Lie.low ((((HE.out.set (p := ⟨w.heap.size + 1, 0, none⟩) (.inl (by show w.heap.size + 1 < _; omega)) _).set (p := ⟨w.heap.size + 1, 1, none⟩) (.inl (by show w.heap.size + 1 < _; omega)) _).set (p := ⟨w.heap.size + 1, 2, none⟩) (.inl (by show w.heap.size + 1 < _; omega)) _).set (p := ⟨w.heap.size + 1, 3, none⟩) (.inl (by show w.heap.size + 1 < _; omega)) _) (by omega)
      · have k1' : (k == 1) = false := by simpa using k1
        by_cases k0 : k = 0
        · subst k0
          have QN := Lib.hid (fun W => term_int_at n W)
          rw [inst_int]
          clear hat ih hnodes hb k1 k2 QC
          go_enter Try.func40, Try.ntmps40
          go_wp2_with fail
          refine (QN.out _).mono ?_
          rintro e w2 ⟨rfl, hb2⟩
          rw [numT_val]
          have HM := Lib.hid (H1.out.below hb2)
          have HB := Lib.hid ((below2 w (.cells #[.int .i64 0, .int .i64 n, .string s, .slice A a.length c] 25) zeroBox).trans (hb2.mono (by simp; omega)))
          obtain ⟨hz, e0, e1, e2, e3, f'⟩ := HM.out
          have f0' := f' 0
          have f1' := f' 1
          have f2' := f' 2
          have f3' := f' 3
          clear f' hb2
          go_wp2_with fail
          refine bodyPost_ret (v := .agg #[.int .i64 0, .int .i64 n, .string ⟨#[]⟩, .slice none 0 0]) (by simp [results, Try.results40, go_sem, e0, e1, e2, e3]) rfl ?_
          exact ⟨numT 0 n, rfl, rfl, numT_lie (by unfold Fits; omega) HP.out.2.1, set4c HB.out (Nat.le_succ _)⟩
        · have k0' : (k == 0) = false := by simpa using k0
          have HV := Lib.hid (inst_else b f n s A c a k2 k1 k0)
          clear hat ih hnodes hb k1 k2
          go_enter Try.func40, Try.ntmps40
          go_wp2_with fail
          refine (QC.out _ (below2 _ _ _)).mono ?_
          rintro e w2 ⟨u, rfl, hu, hlie, hb2⟩
          have HM := Lib.hid (H1.out.below hb2)
          have HB := Lib.hid ((below2 w (.cells #[.int .i64 k, .int .i64 n, .string s, .slice A a.length c] 25) zeroBox).trans (hb2.mono (by simp; omega)))
          have HE := Lib.hid (hlie.low (lo' := w.heap.size + 2) (by simp))
          have HS := Lib.hid hu
          obtain ⟨hz, e0, e1, e2, e3, f'⟩ := HM.out
          have f0' := f' 0
          have f1' := f' 1
          have f2' := f' 2
          have f3' := f' 3
          clear f' hu hlie hb2 QC
          obtain ⟨k2, n2, s2, A2, p2, a2⟩ := u
          go_wp2_with fail
          refine bodyPost_ret (v := .agg #[.int .i64 k2, .int .i64 n2, .string s2, .slice A2 a2.length p2]) (by simp [results, Try.results40, go_sem, e0, e1, e2, e3, Tm.kind, Tm.num, Tm.name, Tm.at_, Tm.args, Tm.cap]) rfl ?_
          refine ⟨.mk k2 n2 s2 A2 p2 a2, rfl, by rw [HV.out, HS.out], ?_, set4c HB.out (Nat.le_succ _)⟩
          exact Lie.low ((((HE.out.set (p := ⟨w.heap.size + 1, 0, none⟩) (.inl (by show w.heap.size + 1 < _; omega)) _).set (p := ⟨w.heap.size + 1, 1, none⟩) (.inl (by show w.heap.size + 1 < _; omega)) _).set (p := ⟨w.heap.size + 1, 2, none⟩) (.inl (by show w.heap.size + 1 < _; omega)) _).set (p := ⟨w.heap.size + 1, 3, none⟩) (.inl (by show w.heap.size + 1 < _; omega)) _) (by omega)
end Go.Proofs.Ytceekaodhmncgaa
namespace Go.Proofs.Ytceekaodhmncgaa
open Go.RowKit

theorem sameB_sameE {a b : List Bd} : sameB a b = true ↔ sameE a b := by
  unfold sameB sameUp sameAt sameE
  simp only [Bool.and_eq_true, decide_eq_true_eq, List.all_eq_true, List.mem_range, beq_iff_eq]

set_option maxHeartbeats 4000000 in
set_option maxRecDepth 100000 in
theorem ref_equal_at (a c : List Bd) (A C : Option Addr) (p q : Nat) (w : World) (ha : BLst w A a p) (hc : BLst w C c q) :
    Calls Try.prog 14 #[.slice A a.length p, .slice C c.length q] w fun e w' => e = .returned (.bool (sameB a c)) ∧ Below w.heap.size w w' := by
  have hla := ha.len
  have hlc := hc.len
  have HA := Lib.hid ha
  have HC := Lib.hid hc
  clear ha hc
  by_cases hl : a.length = c.length
  · have hne : ((a.length : Int) != (c.length : Int)) = false := by simp [hl]
    have HL := Lib.hid hl
    go_enter Try.func14, Try.ntmps14
    clear hl
    go_wp2_with fail
    go_loopw [5] (fun i wr => ∃ j : Nat, j ≤ a.length ∧ i = .int .i64 j ∧ Hid (sameUp a c j = true) ∧ Below w.heap.size w wr) (fun i _ => a.length - (intOf i).toNat)
    case atStart => exact ⟨0, Nat.zero_le _, rfl, Lib.hid rfl, Below.refl _ _⟩
    case round =>
      obtain ⟨j, hj, rfl, HF, hbw⟩ := hrel
      by_cases hlt : j < a.length
      · have hltc : j < c.length := by rw [← HL.out]; exact hlt
        obtain ⟨b, o, rfl, ⟨c0, c1, c2, c3, c4⟩, _, hx⟩ := (HA.out.below hbw).get hlt
        obtain ⟨b', o', rfl, ⟨p0, p1, p2, p3, p4⟩, _, hy⟩ := (HC.out.below hbw).get hltc
        have HN := Lib.hid (sameUp_next a c j)
        have HS := Lib.hid (fun h => show sameB a c = false by unfold sameB; rw [sameUp_stop hlt h, Bool.and_false])
        have HP : sameAt a c j = (decide ((a.getD j default).var = (c.getD j default).var) && (cmpT (a.getD j default).tm (c.getD j default).tm == 0)) := rfl
        generalize a.getD j default = x at *
        generalize c.getD j default = y at *
        obtain ⟨r, hr⟩ : ∃ r, (cmpT x.tm y.tm == 0) = r := ⟨_, rfl⟩
        have Q := Lib.hid (fun W (h : Below wr.heap.size wr W) => ref_same_at x.tm y.tm W (hx.below h) (hy.below h) hr)
        rw [hr] at HP
        have HPH := Lib.hid HP
        clear hr HP hx hy
        have d1 : decide ((j : Int) < (a.length : Int)) = true := decide_eq_true (by omega)
        have d2 : decide ((j : Int) < (c.length : Int)) = true := decide_eq_true (by omega)
        obtain ⟨v, k, n, s, A', c', l⟩ := x
        obtain ⟨v', k', n', s', A2, c2', l2⟩ := y
        simp only [Tm.kind, Tm.num, Tm.name, Tm.at_, Tm.args, Tm.cap] at c0 c1 c2 c3 c4 p0 p1 p2 p3 p4
        simp only at HPH
        have c0' := cell_regrown c0
        have c1' := cell_regrown c1
        have c2' := cell_regrown c2
        have c3' := cell_regrown c3
        have c4' := cell_regrown c4
        have p0' := cell_regrown p0
        have p1' := cell_regrown p1
        have p2' := cell_regrown p2
        have p3' := cell_regrown p3
        have p4' := cell_regrown p4
        by_cases hv : v = v'
        · subst hv
          have hv' : (v != v) = false := by simp
          cases r
          · have HE := Lib.hid (HS.out (by rw [HPH.out]; simp))
            go_wp2_with fail
            refine wp_region_quiet_below (by kernel_rfl) (by kernel_rfl) ?_
            repeat (go_big_quiet_step (first | (go_at_call 19; exact Calls.regrown_of (Q.out _ (below_regrown _ _ _)))))
            refine wpQuiet_nil ?_
            intro w1 hw'
            have hb1 := regrown_below hw'
            go_wp2_with fail
            go_ret
            exact ⟨by rw [HE.out]; rfl, hbw.trans (hb1.mono hbw.size)⟩
          · have HE := Lib.hid (show sameUp a c (j + 1) = true by rw [HN.out, HF.out, HPH.out]; simp)
            go_wp2_with fail
            refine wp_region_quiet_below (by kernel_rfl) (by kernel_rfl) ?_
            repeat (go_big_quiet_step (first | (go_at_call 19; exact Calls.regrown_of (Q.out _ (below_regrown _ _ _)))))
            refine wpQuiet_nil ?_
            intro w1 hw'
            have hb1 := regrown_below hw'
            go_wp2_with fail
            go_roundw
            case rel => exact ⟨j + 1, by omega, by go_num, HE, hbw.trans (hb1.mono hbw.size)⟩
            case measure => simp [intOf]; omega
        · have hv' : (v != v') = true := by simpa using hv
          have HE := Lib.hid (HS.out (by rw [HPH.out]; simp [hv]))
          clear hv
          go_wp2_with fail
          refine wp_region_quiet_below (by kernel_rfl) (by kernel_rfl) ?_
          repeat (go_big_quiet_step (fail))
          refine wpQuiet_nil ?_
          intro w1 hw'
          have hb1 := regrown_below hw'
          go_wp2_with fail
          go_ret
          exact ⟨by rw [HE.out]; rfl, hbw.trans (hb1.mono hbw.size)⟩
      · obtain rfl : j = a.length := by omega
        have d1 : decide ((a.length : Int) < (a.length : Int)) = false := decide_eq_false (by omega)
        have HE := Lib.hid (show sameB a c = true by unfold sameB; rw [HF.out, HL.out]; simp)
        go_wp2_with fail
        go_ret
        exact ⟨by rw [HE.out]; rfl, hbw⟩
  · have hne : ((a.length : Int) != (c.length : Int)) = true := by simp; omega
    have HE := Lib.hid (show sameB a c = false by unfold sameB; simp [hl])
    clear hl
    go_enter Try.func14, Try.ntmps14
    go_wp2_with fail
    go_ret
    exact ⟨by rw [HE.out]; rfl, Below.refl _ _⟩
end Go.Proofs.Ytceekaodhmncgaa
namespace Go.Proofs.Ytceekaodhmncgaa
open Go

/-! ### Sets of variables -/
theorem nodup_le : ∀ {l m : List Int}, l.Nodup → (∀ x ∈ l, x ∈ m) → l.length ≤ m.length
  | [], _, _, _ => Nat.zero_le _
  | x :: r, m, hn, hs => by
    rw [List.nodup_cons] at hn
    have hx := hs x (by simp)
    have h1 := nodup_le (l := r) (m := m.erase x) hn.2 fun y hy => (List.mem_erase_of_ne (fun e => hn.1 (by rw [← e]; exact hy))).2 (hs y (by simp [hy]))
    rw [List.length_erase_of_mem hx] at h1
    have := List.length_pos_of_mem hx
    simp only [List.length_cons]
    omega
theorem nodup_full : ∀ {l m : List Int}, l.Nodup → (∀ x ∈ l, x ∈ m) → m.length ≤ l.length → ∀ x ∈ m, x ∈ l
  | [], m, _, _, hl, x, hx => by
    have := List.length_pos_of_mem hx
    simp at hl
    rw [hl] at hx
    cases hx
  | x :: r, m, hn, hs, hl, y, hy => by
    rw [List.nodup_cons] at hn
    have hx := hs x (by simp)
    by_cases e : y = x
    · simp [e]
    · have h1 := nodup_full (l := r) (m := m.erase x) hn.2 (fun z hz => (List.mem_erase_of_ne (fun e => hn.1 (by rw [← e]; exact hz))).2 (hs z (by simp [hz]))) (by
        rw [List.length_erase_of_mem hx]
        simp only [List.length_cons] at hl
        omega) y ((List.mem_erase_of_ne e).2 hy)
      simp [h1]
theorem addV_nodup {l : List Int} (h : l.Nodup) (x : Int) : (addV l x).Nodup := by
  unfold addV
  split
  · exact h
  · rename_i hx
    rw [List.nodup_append]
    exact ⟨h, by simp, fun a ha b hb => by rw [List.mem_singleton.1 hb]; exact fun e => hx (e ▸ ha)⟩
theorem addAll_nodup {l : List Int} (h : l.Nodup) (xs : List Int) : (addAll l xs).Nodup := by
  induction xs generalizing l with
  | nil => exact h
  | cons x r ih => exact ih (addV_nodup h x)
def varsE (e : List Bd) : List Int := e.map Bd.var
theorem varsE_len (e : List Bd) : (varsE e).length = e.length := by simp [varsE]
theorem varsE_nodup {e : List Bd} (h : Asc e) : (varsE e).Nodup := by
  unfold varsE Asc at *
  rw [List.nodup_iff_pairwise_ne]
  exact List.Pairwise.map _ (fun a b hab => by omega) h
theorem mem_varsE {e : List Bd} {v : Int} : v ∈ varsE e ↔ ∃ u, look e v = some u := by
  unfold varsE
  rw [List.mem_map]
  constructor
  · rintro ⟨x, hx, rfl⟩
    cases h : look e x.var with
    | none => exact absurd rfl (look_none.1 h x hx)
    | some u => exact ⟨u, rfl⟩
  · rintro ⟨u, hu⟩
    obtain ⟨x, hx, h1, _⟩ := look_some hu
    exact ⟨x, hx, h1⟩
/-- Whether an environment has exactly the variables of a term. -/
def coversB (e : List Bd) (t : Tm) : Bool := decide ((addAll [] t.occ).length = e.length) && e.all fun x => decide (x.var ∈ t.occ)
theorem covers_iff {e : List Bd} (ha : Asc e) {t : Tm} : coversB e t = true ↔ ∀ v, v ∈ varsE e ↔ v ∈ t.occ := by
  have hm : ∀ v, v ∈ addAll [] t.occ ↔ v ∈ t.occ := fun v => by rw [mem_addAll]; simp
  have hn := addAll_nodup (l := []) List.nodup_nil t.occ
  unfold coversB
  rw [Bool.and_eq_true, decide_eq_true_eq, List.all_eq_true]
  constructor
  · rintro ⟨hl, hs⟩ v
    have hs' : ∀ x ∈ varsE e, x ∈ addAll [] t.occ := fun x hx => by
      unfold varsE at hx
      obtain ⟨b, hb, rfl⟩ := List.mem_map.1 hx
      exact (hm _).2 (by simpa using hs b hb)
    exact ⟨fun h => (hm v).1 (hs' v h), fun h => nodup_full (varsE_nodup ha) hs' (by rw [varsE_len, hl]; exact Nat.le_refl _) v ((hm v).2 h)⟩
  · intro h
    have h1 : ∀ x ∈ varsE e, x ∈ addAll [] t.occ := fun x hx => (hm x).2 ((h x).1 hx)
    have h2 : ∀ x ∈ addAll [] t.occ, x ∈ varsE e := fun x hx => (h x).2 ((hm x).1 hx)
    have l1 := nodup_le (varsE_nodup ha) h1
    have l2 := nodup_le hn h2
    rw [varsE_len] at l1 l2
    exact ⟨by omega, fun x hx => by simpa using (h x.var).1 (List.mem_map.2 ⟨x, hx, rfl⟩)⟩
/-! ### Environments in order -/
theorem asc_mem {e : List Bd} (ha : Asc e) {x : Bd} : x ∈ e ↔ look e x.var = some x.tm := by
  constructor
  · exact fun h => look_mem ha.dis h
  · intro h
    obtain ⟨y, hy, h1, h2⟩ := look_some h
    obtain ⟨v, t⟩ := x
    obtain ⟨v', t'⟩ := y
    simp only at h1 h2
    rw [← h1, ← h2]
    exact hy
theorem asc_nodup {m : List Bd} (h : Asc m) : m.Nodup := h.imp fun h e => by rw [e] at h; omega
/-- Environments in order with the same entries are equal. -/
theorem asc_looks {a b : List Bd} (ha : Asc a) (hb : Asc b) (h : ∀ v u, look a v = some u → look b v = some u) (hv : ∀ v, v ∈ varsE b → v ∈ varsE a) : a = b := by
  refine asc_unique ha hb ((List.perm_ext_iff_of_nodup (asc_nodup ha) (asc_nodup hb)).2 fun x => ?_)
  rw [asc_mem ha, asc_mem hb]
  refine ⟨fun hx => h _ _ hx, fun hx => ?_⟩
  obtain ⟨u, hu⟩ := mem_varsE.1 (hv x.var (mem_varsE.2 ⟨_, hx⟩))
  have := h _ _ hu
  rw [hx] at this
  injection this with this
  rw [hu, this]
theorem asc_nil : Asc [] := List.Pairwise.nil
/-- A pattern that matches: its variables in order, and the instance is the term. -/
theorem makes_law {p t : Tm} {e : List Bd} (h : matT [] p t = some e) (f : Int) : Asc e ∧ coversB e p = true ∧ cmpT (p.inst e f) t = 0 := by
  have k := mat_ext.1 p [] t e h
  have ha := k.asc asc_nil
  refine ⟨ha, (covers_iff ha).2 fun v => ⟨fun hv => ?_, fun hv => mem_varsE.2 (k.all v hv)⟩, (inst_made f).1 p [] t e e h fun _ _ h => h⟩
  obtain ⟨u, hu⟩ := mem_varsE.1 hv
  rcases k.new v u hu with h | h
  · cases h
  · exact h
/-- A pattern matches its own instance, with exactly the entries. -/
theorem inverts_law {p : Tm} {env : List Bd} (ha : Asc env) (hc : coversB env p = true) (f : Int) : matT [] p (p.inst env f) = some env := by
  have hv := (covers_iff ha).1 hc
  obtain ⟨e, h1, h2⟩ := (mat_inst f env).1 p [] (fun v hp => mem_varsE.1 ((hv v).2 hp)) (fun v u h => by cases h)
  have k := mat_ext.1 p [] _ e h1
  have he := k.asc asc_nil
  rw [h1, asc_looks he ha h2 fun v hv' => mem_varsE.2 (k.all v ((hv v).1 hv'))]
/-- Matching keeps entries and order, and a second match changes nothing. -/
theorem keeps_law {p t : Tm} {env e : List Bd} (ha : Asc env) (h : matT env p t = some e) : Asc e ∧ (∀ x ∈ env, x ∈ e) ∧ matT e p t = some e := by
  have k := mat_ext.1 p env t e h
  have he := k.asc ha
  exact ⟨he, fun x hx => (asc_mem he).2 (k.keep _ _ ((asc_mem ha).1 hx)), mat_again.1 p env t e e h fun _ _ h => h⟩
theorem sameE_asc {a b : List Bd} (h : sameE a b) (ha : Asc a) : Asc b := by
  unfold Asc at *
  rw [List.pairwise_iff_getElem] at ha ⊢
  intro i j hi hj hij
  have h1 := h.2 i (by rw [h.1]; exact hi)
  have h2 := h.2 j (by rw [h.1]; exact hj)
  have := ha i j (by rw [h.1]; exact hi) (by rw [h.1]; exact hj) hij
  simp only [List.getD, List.getElem?_eq_getElem hi, List.getElem?_eq_getElem hj, List.getElem?_eq_getElem (show i < a.length by rw [h.1]; exact hi), List.getElem?_eq_getElem (show j < a.length by rw [h.1]; exact hj), Option.getD_some] at h1 h2
  rw [← h1.1, ← h2.1]
  exact this
end Go.Proofs.Ytceekaodhmncgaa
namespace Go.Proofs.Ytceekaodhmncgaa
open Go.ChangeShapes Go.WideShapes Go.ChangeAt Go.RowKit

theorem great_single (t : Tm) (most : Int) (W : World) (b : Nat) (hb : b = W.heap.size) (ht : t.At W) (h1 : 0 ≤ most) (h2 : most ≤ 1000000) {r : Bool} (hr : decide (weigh [t] most 64 < 0) = r) :
    Calls Try.prog 10 #[.slice (some ⟨b, 0, none⟩) 1 1, .int .i64 most] (W.alloc (.cells #[.int .i64 t.kind, .int .i64 t.num, .string t.name, .slice t.at_ t.args.length t.cap] 25)) fun e w' => e = .returned (.bool r) ∧ Below W.heap.size W w' :=
  (great_one t most W _ b hb ht (Below.refl _ _) h1 h2 hr).mono fun _ _ ⟨he, h⟩ => ⟨he, (below1 _ _).trans (h.mono (below1 _ _).size)⟩
end Go.Proofs.Ytceekaodhmncgaa
namespace Go.Proofs.Ytceekaodhmncgaa
open Go.RowKit

theorem ref_vars_at (t : Tm) (w : World) (ht : t.At w) (hs : t.size ≤ 1000000) : Calls Try.prog 47 #[t.val] w (Grows w (addAll [] t.occ)) := by
  have Q := Lib.hid (fun W (h : Below w.heap.size w W) => vars_at t (.slice none 0 0) [] w W ht h (OwnI.nil _ _) (by simpa using hs))
  obtain ⟨k, n, s, A, c, a⟩ := t
  show Calls Try.prog 47 #[.agg #[.int .i64 k, .int .i64 n, .string s, .slice A a.length c]] w _
  generalize (Tm.mk k n s A c a).occ = oc at *
  clear ht hs
  go_enter Try.func47, Try.ntmps47
  go_wp2_with fail
  refine (Q.out _ ((Below.refl _ _).alloc (Nat.le_refl _) _)).mono ?_
  rintro e w1 ⟨v, rfl, hown, hb⟩
  go_wp2_with fail
  go_ret
  exact Grows.mk rfl hown hb

theorem ref_ground_at (t : Tm) (w : World) (ht : t.At w) (hs : t.size ≤ 1000000) {r : Bool} (hr : decide (t.occ = []) = r) :
    Calls Try.prog 28 #[t.val] w fun e w' => e = .returned (.bool r) ∧ Below w.heap.size w w' := by
  have Q := Lib.hid (fun W (h : Below w.heap.size w W) => ref_vars_at t W (ht.below h) hs)
  have hR : (((addAll [] t.occ).length : Int) == 0) = r := by
    rw [← hr, Bool.eq_iff_iff, decide_eq_true_eq, ← addAll_nil]
    simp
  have ho := occ_length.1 t
  have hal := addAll_length [] t.occ
  have HR := Lib.hid hR
  obtain ⟨k, n, s, A, c, a⟩ := t
  show Calls Try.prog 28 #[.agg #[.int .i64 k, .int .i64 n, .string s, .slice A a.length c]] w _
  have hal' : (addAll [] (Tm.mk k n s A c a).occ).length ≤ 1000000 := by simp only [List.length_nil] at hal; omega
  generalize addAll [] (Tm.mk k n s A c a).occ = l at *
  clear ht hs ho hal hR hr
  go_enter Try.func28, Try.ntmps28
  go_wp2_with fail
  refine (Q.out _ ((Below.refl _ _).alloc (Nat.le_refl _) _)).mono ?_
  rintro e w1 ⟨v, he, hown, hb⟩
  obtain ⟨A', c', hv, hI, _⟩ := hown.form
  rw [hv] at he
  subst he
  clear hv hown hI
  go_wp2_with fail
  go_ret
  exact ⟨by rw [← HR.out]; rfl, ((Below.refl _ _).alloc (Nat.le_refl _) _).trans (hb.mono (by simp))⟩

theorem ref_occurs_at (x : Int) (t : Tm) (w : World) (ht : t.At w) (hs : t.size ≤ 1000000) {r : Bool} (hr : decide (x ∈ t.occ) = r) :
    Calls Try.prog 48 #[.int .i64 x, t.val] w fun e w' => e = .returned (.bool r) ∧ Below w.heap.size w w' := by
  have Q := Lib.hid (fun W (h : Below w.heap.size w W) => ref_vars_at t W (ht.below h) hs)
  have hR : decide (x ∈ addAll [] t.occ) = r := by
    rw [← hr, decide_eq_decide, mem_addAll]
    simp
  have ho := occ_length.1 t
  have hal := addAll_length [] t.occ
  obtain ⟨k, n, s, A, c, a⟩ := t
  show Calls Try.prog 48 #[.int .i64 x, .agg #[.int .i64 k, .int .i64 n, .string s, .slice A a.length c]] w _
  have hal' : (addAll [] (Tm.mk k n s A c a).occ).length ≤ 9223372036854775807 := by simp only [List.length_nil] at hal; omega
  generalize addAll [] (Tm.mk k n s A c a).occ = l at *
  have Q2 := Lib.hid (fun A' c' W (h : Ints W A' l) => has_at A' l c' x W h hal' hR)
  clear ht hs ho hal hR hr
  go_enter Try.func48, Try.ntmps48
  go_wp2_with fail
  refine (Q.out _ ((Below.refl _ _).alloc (Nat.le_refl _) _)).mono ?_
  rintro e w1 ⟨v, he, hown, hb⟩
  obtain ⟨A', c', hv, hI, _⟩ := hown.form
  rw [hv] at he
  subst he
  have HI := Lib.hid hI
  clear hv hown hI
  go_wp2_with fail
  refine (Q2.out _ _ _ HI.out).mono ?_
  rintro e w2 ⟨rfl, rfl⟩
  go_wp2_with fail
  go_ret
  exact ⟨rfl, ((Below.refl _ _).alloc (Nat.le_refl _) _).trans (hb.mono (by simp))⟩

end Go.Proofs.Ytceekaodhmncgaa
namespace Go.Proofs.Ytceekaodhmncgaa
open Go.RowKit

/-- Whether an environment is too large for the statements. -/
def largeB (e : List Bd) : Bool := decide (20 < e.length) || e.any fun x => decide (weigh [x.tm] 60 64 < 0)
theorem small_env {e : List Bd} (h : largeB e = false) : e.length ≤ 20 ∧ ∀ x ∈ e, x.tm.nodes ≤ 60 := by
  unfold largeB at h
  simp only [Bool.or_eq_false_iff, decide_eq_false_iff_not, List.any_eq_false, decide_eq_true_eq] at h
  refine ⟨by omega, fun x hx => ?_⟩
  have := not_great (l := [x.tm]) (most := 60) (by simpa using h.2 x hx)
  simp only [nodesL] at this
  omega
theorem any_take_next {e : List Bd} {j : Nat} (h : j < e.length) (p : Bd → Bool) : (e.take (j + 1)).any p = ((e.take j).any p || p (e.getD j default)) := by
  rw [btake_next h, List.any_append]
  simp
theorem any_take_true {e : List Bd} {j : Nat} {p : Bd → Bool} (h : j < e.length) (hp : p (e.getD j default) = true) : e.any p = true := List.any_eq_true.2 ⟨_, bgetD_mem h, hp⟩

set_option maxHeartbeats 2000000 in
theorem large_at (e : List Bd) (A : Option Addr) (c : Nat) (w : World) (hl : BLst w A e c) :
    Calls Try.prog 9 #[.slice A e.length c] w fun x w' => x = .returned (.bool (largeB e)) ∧ Below w.heap.size w w' := by
  have hc := hl.len
  have HL := Lib.hid hl
  clear hl
  by_cases h20 : 20 < e.length
  · have d20 : decide ((e.length : Int) > 20) = true := decide_eq_true (by omega)
    have d21 : decide (20 < (e.length : Int)) = true := decide_eq_true (by omega)
    have HE := Lib.hid (show largeB e = true by unfold largeB; simp [h20])
    clear h20
    go_enter Try.func9, Try.ntmps9
    go_wp2_with fail
    go_ret
    exact ⟨by rw [HE.out]; rfl, Below.refl _ _⟩
  · have d20 : decide ((e.length : Int) > 20) = false := decide_eq_false (by omega)
    have d21 : decide (20 < (e.length : Int)) = false := decide_eq_false (by omega)
    have H20 := Lib.hid (show largeB e = e.any fun x => decide (weigh [x.tm] 60 64 < 0) by unfold largeB; simp [h20])
    have hle : e.length ≤ 20 := by omega
    clear h20
    go_enter Try.func9, Try.ntmps9
    go_wp2_with fail
    go_loopw [3] (fun i wr => ∃ j : Nat, j ≤ e.length ∧ i = .int .i64 j ∧ Hid ((e.take j).any (fun x => decide (weigh [x.tm] 60 64 < 0)) = false ∧ Below w.heap.size w wr)) (fun i _ => e.length - (intOf i).toNat)
    case atStart => exact ⟨0, Nat.zero_le _, rfl, Lib.hid ⟨rfl, Below.refl _ _⟩⟩
    case round =>
      obtain ⟨j, hj, rfl, HF⟩ := hrel
      by_cases hlt : j < e.length
      · obtain ⟨b, o, rfl, ⟨_, c1, c2, c3, c4⟩, _, hx⟩ := (HL.out.below HF.out.2).get hlt
        have jlt : decide ((j : Int) < (e.length : Int)) = true := decide_eq_true (by omega)
        have HN := Lib.hid (any_take_next hlt (fun x => decide (weigh [x.tm] 60 64 < 0)))
        have HT := Lib.hid (fun h => any_take_true (p := fun x => decide (weigh [x.tm] 60 64 < 0)) hlt h)
        have hb1 := World.block_lt_of_cell? _ _ c1
        have Q := Lib.hid (great_single (e.getD j default).tm 60 wr wr.heap.size rfl hx (by omega) (by omega) rfl)
        obtain ⟨r, hr⟩ : ∃ r, decide (weigh [(e.getD j default).tm] 60 64 < 0) = r := ⟨_, rfl⟩
        simp only [hr] at HN HT Q
        clear hr hx
        generalize (e.getD j default).tm = t at *
        obtain ⟨k, n, s, A', c', a⟩ := t
        simp only [Tm.kind, Tm.num, Tm.name, Tm.at_, Tm.args, Tm.cap] at c1 c2 c3 c4 Q
        cases r
        · have HX := Lib.hid (show (e.take (j + 1)).any (fun x => decide (weigh [x.tm] 60 64 < 0)) = false by rw [HN.out, HF.out.1]; rfl)
          go_wp2_with fail
          refine (Q.out).mono ?_
          rintro x w2 ⟨rfl, hb⟩
          have HB := Lib.hid (HF.out.2.trans (hb.mono HF.out.2.size))
          clear hb
          go_wp2_with fail
          go_roundw
          case rel => exact ⟨j + 1, by omega, by go_num, Lib.hid ⟨HX.out, HB.out⟩⟩
          case measure => simp [intOf]; omega
        · have HX := Lib.hid (show largeB e = true by rw [H20.out]; exact HT.out rfl)
          go_wp2_with fail
          refine (Q.out).mono ?_
          rintro x w2 ⟨rfl, hb⟩
          have HB := Lib.hid (HF.out.2.trans (hb.mono HF.out.2.size))
          clear hb
          go_wp2_with fail
          go_ret
          exact ⟨by rw [HX.out]; rfl, HB.out⟩
      · obtain rfl : j = e.length := by omega
        have jlt : decide ((e.length : Int) < (e.length : Int)) = false := decide_eq_false (by omega)
        have HX := Lib.hid (show largeB e = false by rw [H20.out]; have := HF.out.1; rwa [List.take_length] at this)
        go_wp2_with fail
        go_ret
        exact ⟨by rw [HX.out]; rfl, HF.out.2⟩

/-- Whether the variables are strictly ascending, up to a place. -/
def ascB (e : List Bd) : Bool := (List.range (e.length - 1)).all fun i => decide ((e.getD i default).var < (e.getD (i + 1) default).var)
theorem ascB_iff {e : List Bd} : ascB e = true ↔ Asc e := by
  unfold ascB Asc
  rw [List.all_eq_true]
  simp only [List.mem_range, decide_eq_true_eq]
  constructor
  · intro h
    rw [List.pairwise_iff_getElem]
    intro i j hi hj hij
    have step : ∀ n, i + 1 + n < e.length → (e.getD i default).var < (e.getD (i + 1 + n) default).var := by
      intro n
      induction n with
      | zero => intro hn; exact h i (by omega)
      | succ n ih => intro hn; exact Int.lt_trans (ih (by omega)) (h (i + 1 + n) (by omega))
    have := step (j - i - 1) (by omega)
    rw [show i + 1 + (j - i - 1) = j by omega] at this
    simpa [List.getD, List.getElem?_eq_getElem hi, List.getElem?_eq_getElem hj] using this
  · intro h i hi
    have := List.pairwise_iff_getElem.1 h i (i + 1) (by omega) (by omega) (by omega)
    simpa [List.getD, List.getElem?_eq_getElem (show i < e.length by omega), List.getElem?_eq_getElem (show i + 1 < e.length by omega)] using this

set_option maxHeartbeats 2000000 in
theorem ascending_at (e : List Bd) (A : Option Addr) (c : Nat) (w : World) (hl : BLst w A e c) (hlen : e.length ≤ 1000000) :
    Calls Try.prog 29 #[.slice A e.length c] w fun x w' => x = .returned (.bool (ascB e)) ∧ Below w.heap.size w w' := by
  have HL := Lib.hid hl
  clear hl
  go_enter Try.func29, Try.ntmps29
  go_wp2_with fail
  go_loopw [3] (fun i wr => ∃ j : Nat, (j ≤ e.length - 1) ∧ i = .int .i64 ((j + 1 : Nat) : Int) ∧ Hid ((∀ k, k < j → (e.getD k default).var < (e.getD (k + 1) default).var) ∧ Below w.heap.size w wr)) (fun i _ => e.length - (intOf i).toNat)
  case atStart => exact ⟨0, Nat.zero_le _, rfl, Lib.hid ⟨fun k hk => by omega, Below.refl _ _⟩⟩
  case round =>
    obtain ⟨j, hj, rfl, HF⟩ := hrel
    by_cases hlt : j + 1 < e.length
    · obtain ⟨b, o, rfl, ⟨c0, _⟩, _⟩ := (HL.out.below HF.out.2).get (i := j) (by omega)
      obtain ⟨b', o', e', ⟨g0, _⟩, _⟩ := (HL.out.below HF.out.2).get hlt
      injection e' with e'
      injection e' with e1 e2
      subst e1 e2
      have jlt : decide (((j + 1 : Nat) : Int) < (e.length : Int)) = true := decide_eq_true (by omega)
      have jl2 : decide ((j : Int) + 1 < (e.length : Int)) = true := decide_eq_true (by omega)
      have jl3 : decide (j + 1 < e.length) = true := decide_eq_true hlt
      have HS := Lib.hid (fun (h : (e.getD j default).var < (e.getD (j + 1) default).var) k (hk : k < j + 1) => show (e.getD k default).var < (e.getD (k + 1) default).var from by
        rcases Nat.lt_succ_iff_lt_or_eq.1 hk with h1 | rfl
        · exact HF.out.1 k h1
        · exact h)
      have HNo := Lib.hid (fun (h : ¬ (e.getD j default).var < (e.getD (j + 1) default).var) => show ascB e = false from by
        cases hb : ascB e with
        | false => rfl
        | true =>
          exfalso
          unfold ascB at hb
          rw [List.all_eq_true] at hb
          exact h (by simpa using hb j (by simp; omega)))
      have hbw := HF.out.2
      generalize (e.getD j default).var = x at *
      generalize (e.getD (j + 1) default).var = y at *
      have c0' := cell_regrown c0
      have g0' := cell_regrown g0
      have hj1 : ((j + 1 : Nat) : Int) - 1 = j := by omega
      by_cases h : x < y
      · have d : decide (x ≥ y) = false := decide_eq_false (by omega)
        have d2 : decide (y ≤ x) = false := decide_eq_false (by omega)
        have HX := Lib.hid (HS.out h)
        clear h HS HNo
        go_wp2_with fail
        go_quiet (fail)
        rename_i nq
        have HB := Lib.hid (below_drewN hbw nq)
        go_wp2_with fail
        go_roundw
        case rel => exact ⟨j + 1, by omega, by go_num, Lib.hid ⟨HX.out, HB.out⟩⟩
        case measure => simp [intOf]; omega
      · have d : decide (x ≥ y) = true := decide_eq_true (by omega)
        have d2 : decide (y ≤ x) = true := decide_eq_true (by omega)
        have HX := Lib.hid (HNo.out h)
        clear h HS HNo
        go_wp2_with fail
        go_quiet (fail)
        rename_i nq
        have HB := Lib.hid (below_drewN hbw nq)
        go_wp2_with fail
        go_ret
        exact ⟨by rw [HX.out]; rfl, HB.out⟩
    · have HX := Lib.hid (show ascB e = true by
        unfold ascB
        rw [List.all_eq_true]
        intro k hk
        have := HF.out.1 k (by simp at hk; omega)
        simpa using this)
      have jlt : decide (((j + 1 : Nat) : Int) < (e.length : Int)) = false := decide_eq_false (by omega)
      have jl2 : decide ((j : Int) + 1 < (e.length : Int)) = false := decide_eq_false (by omega)
      have jl3 : decide (j + 1 < e.length) = false := decide_eq_false hlt
      go_wp2_with fail
      go_ret
      exact ⟨by rw [HX.out]; rfl, HF.out.2⟩
end Go.Proofs.Ytceekaodhmncgaa
namespace Go.Proofs.Ytceekaodhmncgaa
open Go.RowKit

set_option maxHeartbeats 4000000 in
theorem covers_at (e : List Bd) (A : Option Addr) (c : Nat) (t : Tm) (w : World) (hl : BLst w A e c) (hlen : e.length ≤ 1000000) (ht : t.At w) (hs : t.size ≤ 1000000) :
    Calls Try.prog 30 #[.slice A e.length c, t.val] w fun x w' => x = .returned (.bool (coversB e t)) ∧ Below w.heap.size w w' := by
  have HL := Lib.hid hl
  have QV := Lib.hid (fun W (h : Below w.heap.size w W) => ref_vars_at t W (ht.below h) hs)
  have QO := Lib.hid (fun (x : Int) W (h : Below w.heap.size w W) => ref_occurs_at x t W (ht.below h) hs rfl)
  have HC := Lib.hid (show coversB e t = (decide ((addAll [] t.occ).length = e.length) && e.all fun x => decide (x.var ∈ t.occ)) from rfl)
  generalize addAll [] t.occ = vs at *
  generalize coversB e t = r at *
  generalize t.occ = oc at *
  clear hl ht hs
  obtain ⟨k, n, s, A', c', a⟩ := t
  have H0 := Lib.hid (held_new (v0 := .int .i64 k) (v1 := .int .i64 n) (v2 := .string s) (v3 := .slice A' a.length c') w 25)
  have HB1 := Lib.hid (below1 w (.cells #[.int .i64 k, .int .i64 n, .string s, .slice A' a.length c'] 25))
  show Calls Try.prog 30 #[.slice A e.length c, .agg #[.int .i64 k, .int .i64 n, .string s, .slice A' a.length c']] w _
  obtain ⟨_, x0, x1, x2, x3, _⟩ := H0.out
  go_enter Try.func30, Try.ntmps30
  go_wp2_with fail
  refine (QV.out _ HB1.out).mono ?_
  rintro x w1 ⟨v, rfl, hO, hb⟩
  obtain ⟨A1, c1, rfl, hI, hc1⟩ := hO.form
  have HB := Lib.hid (HB1.out.trans (hb.mono HB1.out.size))
  have H1 := Lib.hid (H0.out.below hb)
  clear x0 x1 x2 x3 hO hI hb
  by_cases hln : vs.length = e.length
  · have d : ((vs.length : Int) != (e.length : Int)) = false := by simp; omega
    have HE := Lib.hid (show r = e.all fun x => decide (x.var ∈ oc) by rw [HC.out]; simp [hln])
    clear hln HC
    go_wp2_with fail
    go_loopw [6] (fun i wr => ∃ j : Nat, j ≤ e.length ∧ i = .int .i64 j ∧ Hid ((∀ x ∈ e.take j, x.var ∈ oc) ∧ Below w1.heap.size w1 wr)) (fun i _ => e.length - (intOf i).toNat)
    case atStart => exact ⟨0, Nat.zero_le _, rfl, Lib.hid ⟨fun x hx => by simp at hx, Below.refl _ _⟩⟩
    case round =>
      obtain ⟨j, hj, rfl, HF⟩ := hrel
      have hwr := HB.out.trans (HF.out.2.mono HB.out.size)
      by_cases hlt : j < e.length
      · obtain ⟨b, o, rfl, ⟨c0, _⟩, _⟩ := (HL.out.below hwr).get hlt
        have jlt : decide ((j : Int) < (e.length : Int)) = true := decide_eq_true (by omega)
        obtain ⟨_, x0, x1, x2, x3, _⟩ := H1.out.below HF.out.2
        have HS := Lib.hid (fun (h : (e.getD j default).var ∈ oc) => show ∀ x ∈ e.take (j + 1), x.var ∈ oc from fun x hx => by
          rw [btake_next hlt] at hx
          rcases List.mem_append.1 hx with hx | hx
          · exact HF.out.1 x hx
          · rw [List.mem_singleton.1 hx]; exact h)
        have HNo := Lib.hid (fun (h : ¬ (e.getD j default).var ∈ oc) => show r = false from by
          rw [HE.out, List.all_eq_false]
          exact ⟨_, bgetD_mem hlt, by simpa using h⟩)
        generalize (e.getD j default).var = y at *
        have Q := Lib.hid (fun W (h : Below wr.heap.size wr W) => QO.out y W (hwr.trans (h.mono hwr.size)))
        by_cases hy : y ∈ oc
        · have HX := Lib.hid (HS.out hy)
          rw [show decide (y ∈ oc) = true from decide_eq_true hy] at Q
          clear hy HS HNo
          go_wp2_with fail
          go_region_with (go_at_call 48; refine (Q.out _ (by first | exact Below.refl _ _ | exact (Below.refl _ _).drew)).mono ?_; rintro x w2 ⟨rfl, h2⟩; have HY := Lib.hid (HF.out.2.trans ((undrew h2).mono HF.out.2.size)); clear h2)
          all_goals
            go_wp2_with fail
            go_roundw
            case rel => exact ⟨j + 1, by omega, by go_num, Lib.hid ⟨HX.out, HY.out⟩⟩
            case measure => simp [intOf]; omega
        · have HX := Lib.hid (HNo.out hy)
          rw [show decide (y ∈ oc) = false from decide_eq_false hy] at Q
          clear hy HS HNo
          go_wp2_with fail
          go_region_with (go_at_call 48; refine (Q.out _ (by first | exact Below.refl _ _ | exact (Below.refl _ _).drew)).mono ?_; rintro x w2 ⟨rfl, h2⟩; have HY := Lib.hid (HF.out.2.trans ((undrew h2).mono HF.out.2.size)); clear h2)
          all_goals
            go_wp2_with fail
            go_ret
            exact ⟨by rw [HX.out]; rfl, HB.out.trans (HY.out.mono HB.out.size)⟩
      · obtain rfl : j = e.length := by omega
        have jlt : decide ((e.length : Int) < (e.length : Int)) = false := decide_eq_false (by omega)
        have HX := Lib.hid (show r = true by
          rw [HE.out, List.all_eq_true]
          intro x hx
          have := HF.out.1 x (by rwa [List.take_length])
          simpa using this)
        go_wp2_with fail
        go_ret
        exact ⟨by rw [HX.out]; rfl, hwr⟩
  · have d : ((vs.length : Int) != (e.length : Int)) = true := by simp; omega
    have HE := Lib.hid (show r = false by rw [HC.out]; simp [hln])
    clear hln HC
    go_wp2_with fail
    go_ret
    exact ⟨by rw [HE.out]; rfl, HB.out⟩
end Go.Proofs.Ytceekaodhmncgaa
namespace Go.Proofs.Ytceekaodhmncgaa
open Go.RowKit

/-- Where the first binding with a property stands, or -1. -/
def FirstIdx (l : List Bd) (p : Bd → Bool) (w : World) (e : Ending) (w' : World) : Prop :=
  ∃ m : Int, ((m = -1 ∧ l.any p = false) ∨ ∃ i : Nat, i < l.length ∧ m = i ∧ p (l.getD i default) = true ∧ (l.take i).any p = false) ∧ e = .returned (.int .i64 m) ∧ Below w.heap.size w w'
theorem bany_next {l : List Bd} {k : Nat} (p : Bd → Bool) (h : k < l.length) : (l.take (k + 1)).any p = ((l.take k).any p || p (l.getD k default)) := by
  rw [btake_next h]; simp

end Go.Proofs.Ytceekaodhmncgaa
namespace Go.Proofs.Ytceekaodhmncgaa
open Go.RowKit Go.Sort

theorem apart_any (l : List Bd) : (!(l.any fun x => hasB l x.tm)) = apartB l := by
  have h1 : ∀ t : Tm, hasB l t = !(t.occ.all fun v => (look l v).isNone) := fun t => by
    unfold hasB
    rw [List.not_all_eq_any_not]
    congr 1
    funext v
    cases look l v <;> rfl
  simp only [h1, apartB, ← List.not_all_eq_any_not, Bool.not_not]
/-- A struct of five cells that was laid, behind a call. -/
theorem box5 {w w' : World} {v0 v1 v2 v3 v4 : Value} {T : TypeId} (hb : Below (w.alloc (.cells #[v0, v1, v2, v3, v4] T)).heap.size (w.alloc (.cells #[v0, v1, v2, v3, v4] T)) w') :
    w'.cell? ⟨w.heap.size, 0, none⟩ = some v0 ∧ w'.cell? ⟨w.heap.size, 1, none⟩ = some v1 ∧ w'.cell? ⟨w.heap.size, 2, none⟩ = some v2 ∧ w'.cell? ⟨w.heap.size, 3, none⟩ = some v3 ∧ w'.cell? ⟨w.heap.size, 4, none⟩ = some v4 ∧ Below w.heap.size w w' := by
  have h : ∀ j, w'.cell? ⟨w.heap.size, j, none⟩ = (#[v0, v1, v2, v3, v4] : Array Value)[j]? := fun j => by
    rw [hb.cell (p := ⟨w.heap.size, j, none⟩) (by simp), World.cell?_alloc_at _ _ _ _ rfl]
  exact ⟨h 0, h 1, h 2, h 3, h 4, ((Below.refl _ _).alloc (Nat.le_refl _) _).trans (hb.mono (by simp))⟩

theorem okAt_parts (l : List Bd) (i : Nat) : okAt l i = ((decide (0 ≤ (l.getD i default).var) && decide ((l.getD i default).var ≤ 1048576)) && ((l.getD i default).tm.right && (decide (i = 0) || decide ((l.getD (i - 1) default).var < (l.getD i default).var)))) := rfl

end Go.Proofs.Ytceekaodhmncgaa
namespace Go.Proofs.Ytceekaodhmncgaa
open Go.RowKit Go.Sort

/-- Whether none of a term's variables is bound. -/
def freeB (b : List Bd) (t : Tm) : Bool := t.occ.all fun v => (look b v).isNone
theorem free_vars (b : List Bd) (t : Tm) : ((addAll [] t.occ).all fun v => (look b v).isNone) = freeB b t := by
  unfold freeB
  rw [Bool.eq_iff_iff, List.all_eq_true, List.all_eq_true]
  simp only [mem_addAll, List.not_mem_nil, false_or]
theorem ball_next {l : List Bd} {k : Nat} (p : Bd → Bool) (h : k < l.length) : (l.take (k + 1)).all p = ((l.take k).all p && p (l.getD k default)) := by
  rw [btake_next h]; simp
theorem iall_next {l : List Int} {k : Nat} (p : Int → Bool) (h : k < l.length) : (l.take (k + 1)).all p = ((l.take k).all p && p (l.getD k 0)) := by
  rw [take_int h]; simp
theorem iall_stop {l : List Int} {k : Nat} {p : Int → Bool} (h : k < l.length) (hv : p (l.getD k 0) = false) : l.all p = false := by
  rw [List.all_eq_false]
  exact ⟨_, getD_int h, by rw [hv]; simp⟩
theorem ball_stop {l : List Bd} {x : Bd} {p : Bd → Bool} (h : x ∈ l) (hv : p x = false) : l.all p = false := by
  rw [List.all_eq_false]
  exact ⟨x, h, by simp [hv]⟩

end Go.Proofs.Ytceekaodhmncgaa
namespace Go.Proofs.Ytceekaodhmncgaa
open Go.RowKit

/-- The worlds behind w0. -/
abbrev From (w0 : World) : World → Prop := fun W => Below w0.heap.size w0 W
/-- A term like t: its parts lie where the caller's do, or in blocks of the call's own. -/
def RMade (w0 : World) (t : Tm) (w : World) (e : Ending) (w' : World) : Prop := ∃ u : Tm, e = .returned u.val ∧ u.strip = t.strip ∧ Lie (From w0) w.heap.size No w' u ∧ Below w.heap.size w w'
def RMadeN (w0 : World) (n : Nat) (m : List Tm) (w : World) (e : Ending) (w' : World) : Prop :=
  ∃ A cap, ∃ cur : List Tm, e = .returned (.slice A n cap) ∧ cur.length = n ∧ stripL cur = stripL m ∧ (∀ W, From w0 W → Agree w.heap.size No w' W → Lst W A cur cap) ∧ Below w.heap.size w w'
theorem rlie_row {B : World → Prop} {w w' : World} {k n : Int} {s : ByteArray} {A : Option Addr} {cap lo : Nat} {cur : List Tm} (hp : Fits k ∧ Fits n ∧ s.size ≤ maxLen) (h : ∀ W, B W → Agree lo No w' W → Lst W A cur cap) (hlo : w.heap.size ≤ lo) : Lie B w.heap.size No w' (.mk k n s A cap cur) :=
  fun W hB hW => (At_iff _ _).2 ⟨hp, h W hB fun b h1 h2 h3 => hW b (by omega) h2 h3⟩
theorem take_tm {l : List Tm} {k : Nat} (h : k < l.length) : l.take (k + 1) = l.take k ++ [l.getD k default] := by
  rw [List.take_add_one, List.getElem?_eq_getElem h]
  simp [List.getD, List.getElem?_eq_getElem h]

end Go.Proofs.Ytceekaodhmncgaa
