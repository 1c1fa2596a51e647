/-
  Contracts of apply and applyAll of the program (at a list of bindings in ascending order).
-/
import Derived.Test.YtpnjjahimhhjkaaSuCopy
namespace Go.Proofs.Ytpnjjahimhhjkaa
open Go.RowKit

/-- A list like m of n terms, in blocks of the call's own. -/
def MadeN (n : Nat) (m : List Tm) (w : World) (e : Ending) (w' : World) : Prop :=
  ∃ A cap, ∃ cur : List Tm, e = .returned (.slice A n cap) ∧ cur.length = n ∧ stripL cur = stripL m ∧ (∀ W, Agree w.heap.size No w' W → Lst W A cur cap) ∧ Below w.heap.size w w'
/-- A list of bindings that can be searched. -/
structure Good (b : List Bd) : Prop where
  len : b.length ≤ 1000000
  srt : Srt b
  nodes : ∀ x ∈ b, x.tm.nodes ≤ 1000000

set_option maxHeartbeats 4000000 in
theorem apply_all_at (b : List Bd) (D : Option Addr) (q : Nat) (l : List Tm) (A : Option Addr) (c : Nat) (w : World) (hl : Lst w A l c) (hsz : l.length ≤ 1000000)
    (ih : ∀ x ∈ l, ∀ W : World, Below w.heap.size w W → Calls Try.prog 57 #[.slice D b.length q, x.val] W (Made (x.app b) W)) :
    Calls Try.prog 84 #[.slice D b.length q, .slice A l.length c] w (MadeN l.length (appL b l) w) := by
  by_cases h0 : l.length = 0
  · obtain rfl : l = [] := List.length_eq_zero_iff.1 h0
    have Q := Lib.hid (clone_none_at A c w)
    clear ih hl hsz h0
    show Calls Try.prog 84 #[.slice D b.length q, .slice A 0 c] w _
    go_enter Try.func84, Try.ntmps84
    go_wp2_with fail
    refine (Q.out).mono ?_
    rintro e w1 ⟨A', cap, rfl, h1, h2, _, hb⟩
    have HC := Lib.hid (show Lst w1 A' [] cap from ⟨h1, h2, fun h => by simp at h⟩)
    clear h1 h2
    go_wp2_with fail
    go_loopw [12] (fun i wr => i = .int .i64 0 ∧ Below w.heap.size w wr) (fun _ _ => 0)
    case atStart => exact ⟨rfl, hb⟩
    case round =>
      obtain ⟨rfl, hbw⟩ := hrel
      go_wp2_with fail
      go_ret
      exact ⟨A', cap, [], rfl, rfl, rfl, fun W _ => ⟨HC.out.1, HC.out.2.1, fun h => by simp at h⟩, hbw⟩
  · have hp : 0 < l.length := by omega
    obtain ⟨b0, o, rfl, hrow⟩ := hl.2.2 hp
    have hlen : l.length ≤ 9223372036854775807 := by omega
    have Q := Lib.hid (clone_at l b0 o c w hp hrow hsz)
    have QI := Lib.hid ih
    have HA := Lib.hid (appL_map b l)
    clear ih hrow hsz h0 hl
    go_enter Try.func84, Try.ntmps84
    go_wp2_with fail
    refine (Q.out).mono ?_
    rintro e w1 ⟨A', cap, rfl, h1, h2, h3, hb⟩
    obtain ⟨g, rfl, hg, hrow⟩ := h3 hp
    have HD := Lib.hid (Putting.start (f := Tm.app b) (lo := w.heap.size) hrow)
    have hcap : l.length ≤ cap := h1
    have hcap2 : cap ≤ 9223372036854775807 := by unfold maxLen at h2; exact h2
    have HG := Lib.hid hg
    clear hrow h3 h1 h2 hg
    go_wp2_with fail
    go_loopw [12] (fun i wr => ∃ j : Nat, j ≤ l.length ∧ i = .int .i64 j ∧ Hid (Putting (Tm.app b) l g w.heap.size j wr) ∧ Below w.heap.size w wr) (fun i _ => l.length - (intOf i).toNat)
    case atStart => exact ⟨0, Nat.zero_le _, rfl, HD, hb⟩
    case round =>
      obtain ⟨j, hj, rfl, HF, hbw⟩ := hrel
      clear hb HD
      by_cases hlt : j < l.length
      · obtain ⟨x, hx⟩ : ∃ x, x = l.getD j default := ⟨_, rfl⟩
        have hcl := HF.out.cells hlt
        rw [← hx] at hcl
        have c0 := hcl 0 _ rfl
        have c1 := hcl 1 _ rfl
        have c2 := hcl 2 _ rfl
        have c3 := hcl 3 _ rfl
        simp only [Nat.add_zero] at c0
        have hmem : x ∈ l := by rw [hx]; exact getD_mem hlt
        have Q1 := Lib.hid (fun W (h : Below w.heap.size w W) => QI.out x hmem W h)
        have HX := Lib.hid hx
        have hgs : g < wr.heap.size := HF.out.lt
        clear hx hcl hmem QI
        obtain ⟨k', n', s', A', c', a'⟩ := x
        simp only [Tm.kind, Tm.num, Tm.name, Tm.at_, Tm.args, Tm.cap] at c0 c1 c2 c3
        go_wp2_with fail
        refine (Q1.out _ (hbw.alloc hbw.size _)).mono ?_
        rintro e w2 ⟨u, rfl, hu, hst, hb2⟩
        have hw : Below wr.heap.size wr w2 := (below1 wr _).trans (hb2.mono (by simp))
        have HN := Lib.hid (putting_next HF.out hlt HX.out hbw.size hu (hst.low (by simp)) hw _ rfl)
        have D2 := Lib.hid (HF.out.below hw)
        have hbx := hbw.trans (hw.mono hbw.size)
        have e0 := D2.out.cells hlt
        rw [← HX.out] at e0
        have q0 := e0 0 _ rfl
        have q1 := e0 1 _ rfl
        have q2 := e0 2 _ rfl
        have q3 := e0 3 _ rfl
        simp only [Nat.add_zero, Tm.kind, Tm.num, Tm.name, Tm.at_, Tm.args, Tm.cap] at q0 q1 q2 q3
        have f0 := D2.out.free (j * 4)
        have f1 := D2.out.free (j * 4 + 1)
        have f2 := D2.out.free (j * 4 + 2)
        have f3 := D2.out.free (j * 4 + 3)
        have hgz := D2.out.lt
        obtain ⟨k2, n2, s2, A2, p2, a2⟩ := u
        simp only [Tm.kind, Tm.num, Tm.name, Tm.at_, Tm.args, Tm.cap] at HN
        clear e0 hu hst hb2 c0 c1 c2 c3 hw
        go_wp2_with fail
        go_roundw
        case rel => exact ⟨j + 1, by omega, by go_num, HN, below4 hbx HG.out _ _ _ _⟩
        case measure => simp [intOf]; omega
      · obtain rfl : j = l.length := by omega
        clear QI
        obtain ⟨news, hn, hst, hL⟩ := HF.out.done (w' := wr) HG.out (Nat.le_refl _) (fun _ _ _ => rfl) cap hcap (by unfold maxLen; exact hcap2)
        have HL := Lib.hid hL
        have HN := Lib.hid hn
        have HS := Lib.hid (show stripL news = stripL (appL b l) by rw [HA.out]; exact hst)
        clear hn hst hL HF
        go_wp2_with fail
        go_ret
        exact ⟨_, cap, news, rfl, HN.out, HS.out, HL.out, hbw⟩

set_option maxHeartbeats 4000000 in
theorem apply_s_at (b : List Bd) (hG : Good b) (D : Option Addr) (q : Nat) (t : Tm) : ∀ w : World, BLst w D b q → t.At w → t.nodes ≤ 1000000 → Calls Try.prog 57 #[.slice D b.length q, t.val] w (Made (t.app b) w) := by
  induction t using Tm.induct with
  | h k n s A c a ih =>
    intro w hb hat hnodes
    show Calls Try.prog 57 #[.slice D b.length q, .agg #[.int .i64 k, .int .i64 n, .string s, .slice A a.length c]] w _
    have QC := Lib.hid (fun W (h : Below w.heap.size w W) => copy_at (.mk k n s A c a) W (hat.below h) hnodes)
    have HP := Lib.hid ((At_iff _ _).1 hat).1
    simp only [Tm.kind, Tm.num, Tm.name] at HP
    obtain ⟨HB0, HB1⟩ := two_boxes w (.int .i64 k) (.int .i64 n) (.string s) (.slice A a.length c) (.int .i64 0) (.int .i64 0) (.string ⟨#[]⟩) (.slice none 0 0) 24
    have H0 := Lib.hid HB0
    have H1 := Lib.hid HB1
    clear HB0 HB1
    by_cases k2 : k = 2
    · subst k2
      have hl : Lst w A a c := hat.lst
      have hna : nodesL a ≤ 1000000 := by simp only [Tm.nodes] at hnodes; omega
      have hln : a.length ≤ 1000000 := by have := length_le_nodes a; omega
      have Q1 := Lib.hid (fun W (h : Below w.heap.size w W) => apply_all_at b D q a A c W (hl.below h) hln (fun x hx W' h' => ih x hx W' (hb.below (h.trans (h'.mono h.size))) ((hl.mem hx).below (h.trans (h'.mono h.size))) (by have := nodes_mem hx; omega)))
      have HV := Lib.hid (show (Tm.mk 2 n s A c a).app b = .mk 2 n s A c (appL b a) by simp [Tm.app])
      clear hat ih hl hna hnodes hln hb QC
      go_enter Try.func57, Try.ntmps57
      go_wp2_with fail
      refine (Q1.out _ (below2 _ _ _)).mono ?_
      rintro e w1 ⟨A', cap, cur, rfl, hcl, hst, hL, hb2⟩
      have HK := Lib.hid (H0.out.below hb2)
      have HM := Lib.hid (H1.out.below hb2)
      have hb1 := (below2 w (.cells #[.int .i64 2, .int .i64 n, .string s, .slice A a.length c] 24) zeroBox).trans (hb2.mono (by simp; omega))
      obtain ⟨hz0, d0, d1, d2, d3, f⟩ := HK.out
      obtain ⟨hz, e0, e1, e2, e3, f'⟩ := HM.out
      have f3 := f 3
      have f0' := f' 0
      have f1' := f' 1
      have f2' := f' 2
      have f3' := f' 3
      have HB := Lib.hid hb1
      have HL := Lib.hid hL
      have HS := Lib.hid hst
      have HC := Lib.hid hcl
      clear f f' hb1 hL hst hcl hb2 Q1
      go_wp2_with fail
      refine bodyPost_ret (v := .agg #[.int .i64 2, .int .i64 n, .string s, .slice A' a.length cap]) (by simp [results, Try.results57, go_sem, e0, e1, e2, e3]) rfl ?_
      have hsz : ((w.alloc (.cells #[.int .i64 2, .int .i64 n, .string s, .slice A a.length c] 24)).alloc zeroBox).heap.size = w.heap.size + 2 := by simp
      refine ⟨.mk 2 n s A' cap cur, by rw [← HC.out]; rfl, ?_, lie_row (lo := w.heap.size + 2) HP.out (fun W hW => HL.out W fun b' h1 h2 h3 => ?_) (by omega), set4c (HB.out.setCell (Nat.le_refl _) _) (Nat.le_succ _)⟩
      · rw [HV.out]
        simp only [Tm.strip, HS.out]
      · rw [hsz] at h1
        rw [hW b' h1 (by rw [size_set4]; simpa [World.setCell] using h2) h3, heap_set4 _ (by omega), Below.heap_setCell _ _ _ _ (by show b' ≠ w.heap.size; omega)]
    · have k2' : (k == 2) = false := by simpa using k2
      by_cases k1 : k = 1
      · subst k1
        have hF := Lib.hid (fun W (h : Below w.heap.size w W) => find_at b D q n W (hb.below h) hG.len hG.srt)
        have HLk := Lib.hid (fun (x : Tm) (hx : look b n = some x) => (⟨hb.look hx, by obtain ⟨y, hy, _, rfl⟩ := look_some hx; exact hG.nodes y hy⟩ : x.At w ∧ x.nodes ≤ 1000000))
        have HV := Lib.hid (show (Tm.mk 1 n s A c a).app b = (look b n).getD (.mk 1 n s A c a) by simp [Tm.app])
        clear hat ih hnodes hb k2 k2'
        generalize look b n = lk at *
        cases lk with
        | none =>
          simp only [Option.getD_none] at HV
          go_enter Try.func57, Try.ntmps57
          go_wp2_with fail
          refine (hF.out _ (below2 _ _ _)).mono ?_
          rintro e w1 ⟨rfl, hb2⟩
          have HK := Lib.hid (H0.out.below hb2)
          have HM := Lib.hid (H1.out.below hb2)
          have hb1 := (below2 w (.cells #[.int .i64 1, .int .i64 n, .string s, .slice A a.length c] 24) zeroBox).trans (hb2.mono (by simp; omega))
          obtain ⟨hz0, d0, d1, d2, d3, _⟩ := HK.out
          simp only [optT, Option.getD_none, Option.isSome_none]
          clear hb2 hF HLk
          go_wp2_with fail
          refine (QC.out _ (hb1.alloc hb1.size _)).mono ?_
          rintro e w2 ⟨u, rfl, hu, hlie, hb3⟩
          have hw : Below w1.heap.size w1 w2 := (below1 w1 _).trans (hb3.mono (by simp))
          have HM2 := Lib.hid (HM.out.below hw)
          have HB := Lib.hid (hb1.trans (hw.mono hb1.size))
          have HE := Lib.hid (hlie.low (lo' := w.heap.size + 2) (by simp; have := HM.out.lt; omega))
          have HS := Lib.hid hu
          obtain ⟨hz, e0, e1, e2, e3, f'⟩ := HM2.out
          have f0' := f' 0
          have f1' := f' 1
          have f2' := f' 2
          have f3' := f' 3
          clear f' hb1 hu hlie hb3 hw QC HK HM d0 d1 d2 d3
          obtain ⟨k2, n2, s2, A2, p2, a2⟩ := u
          go_wp2_with fail
          refine bodyPost_ret (v := .agg #[.int .i64 k2, .int .i64 n2, .string s2, .slice A2 a2.length p2]) (by simp [results, Try.results57, go_sem, e0, e1, e2, e3, Tm.kind, Tm.num, Tm.name, Tm.at_, Tm.args, Tm.cap]) rfl ?_
          refine ⟨.mk k2 n2 s2 A2 p2 a2, rfl, by rw [HV.out, HS.out], ?_, set4c HB.out (Nat.le_succ _)⟩
          exact Lie.low ((((HE.out.set (p := ⟨w.heap.size + 1, 0, none⟩) (.inl (by show w.heap.size + 1 < _; omega)) _).set (p := ⟨w.heap.size + 1, 1, none⟩) (.inl (by show w.heap.size + 1 < _; omega)) _).set (p := ⟨w.heap.size + 1, 2, none⟩) (.inl (by show w.heap.size + 1 < _; omega)) _).set (p := ⟨w.heap.size + 1, 3, none⟩) (.inl (by show w.heap.size + 1 < _; omega)) _) (by omega)
        | some x =>
          simp only [Option.getD_some] at HV
          have hx := HLk.out x rfl
          have QX := Lib.hid (fun W (h : Below w.heap.size w W) => copy_at x W (hx.1.below h) hx.2)
          rw [HV.out]
          clear hx HV
          obtain ⟨xk, xn, xs, xA, xc, xa⟩ := x
          go_enter Try.func57, Try.ntmps57
          go_wp2_with fail
          refine (hF.out _ (below2 _ _ _)).mono ?_
          rintro e w1 ⟨rfl, hb2⟩
          have HM := Lib.hid (H1.out.below hb2)
          have hb1 := (below2 w (.cells #[.int .i64 1, .int .i64 n, .string s, .slice A a.length c] 24) zeroBox).trans (hb2.mono (by simp; omega))
          simp only [optT, Option.getD_some, Option.isSome_some]
          clear hb2 hF HLk QC
          go_wp2_with fail
          refine (QX.out _ (hb1.alloc hb1.size _)).mono ?_
          rintro e w2 ⟨u, rfl, hu, hlie, hb3⟩
          have hw : Below w1.heap.size w1 w2 := (below1 w1 _).trans (hb3.mono (by simp))
          have HM2 := Lib.hid (HM.out.below hw)
          have HB := Lib.hid (hb1.trans (hw.mono hb1.size))
          have HE := Lib.hid (hlie.low (lo' := w.heap.size + 2) (by simp; have := HM.out.lt; omega))
          have HS := Lib.hid hu
          obtain ⟨hz, e0, e1, e2, e3, f'⟩ := HM2.out
          have f0' := f' 0
          have f1' := f' 1
          have f2' := f' 2
          have f3' := f' 3
          clear f' hb1 hu hlie hb3 hw QX HM
          obtain ⟨k2, n2, s2, A2, p2, a2⟩ := u
          go_wp2_with fail
          refine bodyPost_ret (v := .agg #[.int .i64 k2, .int .i64 n2, .string s2, .slice A2 a2.length p2]) (by simp [results, Try.results57, go_sem, e0, e1, e2, e3, Tm.kind, Tm.num, Tm.name, Tm.at_, Tm.args, Tm.cap]) rfl ?_
          refine ⟨.mk k2 n2 s2 A2 p2 a2, rfl, HS.out, ?_, set4c HB.out (Nat.le_succ _)⟩
          exact Lie.low ((((HE.out.set (p := ⟨w.heap.size + 1, 0, none⟩) (.inl (by show w.heap.size + 1 < _; omega)) _).set (p := ⟨w.heap.size + 1, 1, none⟩) (.inl (by show w.heap.size + 1 < _; omega)) _).set (p := ⟨w.heap.size + 1, 2, none⟩) (.inl (by show w.heap.size + 1 < _; omega)) _).set (p := ⟨w.heap.size + 1, 3, none⟩) (.inl (by show w.heap.size + 1 < _; omega)) _) (by omega)
      · have k1' : (k == 1) = false := by simpa using k1
        have HV := Lib.hid (show (Tm.mk k n s A c a).app b = .mk k n s A c a by simp [Tm.app, k1, k2])
        clear hat ih hnodes hb k1 k2
        go_enter Try.func57, Try.ntmps57
        go_wp2_with fail
        refine (QC.out _ (below2 _ _ _)).mono ?_
        rintro e w2 ⟨u, rfl, hu, hlie, hb2⟩
        have HM := Lib.hid (H1.out.below hb2)
        have HB := Lib.hid ((below2 w (.cells #[.int .i64 k, .int .i64 n, .string s, .slice A a.length c] 24) zeroBox).trans (hb2.mono (by simp; omega)))
        have HE := Lib.hid (hlie.low (lo' := w.heap.size + 2) (by simp))
        have HS := Lib.hid hu
        obtain ⟨hz, e0, e1, e2, e3, f'⟩ := HM.out
        have f0' := f' 0
        have f1' := f' 1
        have f2' := f' 2
        have f3' := f' 3
        clear f' hu hlie hb2 QC
        obtain ⟨k2, n2, s2, A2, p2, a2⟩ := u
        go_wp2_with fail
        refine bodyPost_ret (v := .agg #[.int .i64 k2, .int .i64 n2, .string s2, .slice A2 a2.length p2]) (by simp [results, Try.results57, go_sem, e0, e1, e2, e3, Tm.kind, Tm.num, Tm.name, Tm.at_, Tm.args, Tm.cap]) rfl ?_
        refine ⟨.mk k2 n2 s2 A2 p2 a2, rfl, by rw [HV.out, HS.out], ?_, set4c HB.out (Nat.le_succ _)⟩
        exact Lie.low ((((HE.out.set (p := ⟨w.heap.size + 1, 0, none⟩) (.inl (by show w.heap.size + 1 < _; omega)) _).set (p := ⟨w.heap.size + 1, 1, none⟩) (.inl (by show w.heap.size + 1 < _; omega)) _).set (p := ⟨w.heap.size + 1, 2, none⟩) (.inl (by show w.heap.size + 1 < _; omega)) _).set (p := ⟨w.heap.size + 1, 3, none⟩) (.inl (by show w.heap.size + 1 < _; omega)) _) (by omega)
end Go.Proofs.Ytpnjjahimhhjkaa
