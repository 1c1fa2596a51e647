/-
  Contracts of rename, renameAll, shift, unchanged and Shift of the program.
-/
import Derived.Test.YtpnjjahimhhjkaaSuApply
import Derived.Test.YtpnjjahimhhjkaaVaPure
namespace Go.Proofs.Ytpnjjahimhhjkaa
open Go.RowKit

/-- What is known of a function value that renames: its contract at a number, in each world behind w0. -/
structure Renames (F : FuncId) (caps : Array Value) (g : Int → Int) (w0 : World) : Prop where
  enter : ∀ (args : Array Value) (W : World), (callFunc F args).run Try.prog W = .ok (.enter F args) W
  fits : ∀ v, Fits v → Fits (g v)
  call : ∀ (v : Int) (W : World), Fits v → Below w0.heap.size w0 W → Calls Try.prog F (#[.int .i64 v] ++ caps) W fun e W' => e = .returned (.int .i64 (g v)) ∧ Below W.heap.size W W'
theorem Renames.below {F : FuncId} {caps : Array Value} {g : Int → Int} {w0 w1 : World} (h : Renames F caps g w0) (hb : Below w0.heap.size w0 w1) : Renames F caps g w1 :=
  ⟨h.enter, h.fits, fun v W hv hW => h.call v W hv (hb.trans (hW.mono hb.size))⟩

theorem unchanged_at (v : Int) (w : World) : Calls Try.prog 65 #[.int .i64 v] w fun e w' => e = .returned (.int .i64 v) ∧ Below w.heap.size w w' := by
  go_enter Try.func65, Try.ntmps65
  go_wp2_with fail
  go_ret
  exact ⟨rfl, Below.refl _ _⟩
theorem unchanged_renames (w0 : World) : Renames 65 #[] (fun v => v) w0 where
  enter := enters_fn Try.func65 (by kernel_rfl) rfl
  fits := fun _ h => h
  call := fun v W _ _ => unchanged_at v W

theorem Held.set1 {B : Nat} {w : World} {v0 v1 v2 v3 : Value} (h : Held B w v0 v1 v2 v3) (v : Value) : Held B (w.setCell ⟨B, 1, none⟩ v) v0 v v2 v3 := by
  have n : ∀ j, j ≠ 1 → (⟨B, 1, none⟩ : Addr) ≠ ⟨B, j, none⟩ := fun j hj e => by injection e with _ e _; omega
  refine ⟨by simpa [World.setCell] using h.lt, ?_, ?_, ?_, ?_, fun j => by rw [World.frozen?_setCell]; exact h.free j⟩
  · rw [World.cell?_setCell_other _ _ _ _ (n 0 (by omega))]; exact h.c0
  · exact World.cell?_setCell_same' _ _ _ (by rw [h.c1]; rfl)
  · rw [World.cell?_setCell_other _ _ _ _ (n 2 (by omega))]; exact h.c2
  · rw [World.cell?_setCell_other _ _ _ _ (n 3 (by omega))]; exact h.c3

set_option maxHeartbeats 4000000 in
theorem rename_all_at (l : List Tm) (A : Option Addr) (c : Nat) (w : World) (F : FuncId) (caps : Array Value) (gg : Int → Int) (hl : Lst w A l c) (hsz : l.length ≤ 1000000)
    (ih : ∀ x ∈ l, ∀ W : World, Below w.heap.size w W → Calls Try.prog 37 #[x.val, .func (.func F) #[] caps] W (Made (x.ren gg) W)) :
    Calls Try.prog 51 #[.slice A l.length c, .func (.func F) #[] caps] w (MadeN l.length (renL l gg) w) := by
  by_cases h0 : l.length = 0
  · obtain rfl : l = [] := List.length_eq_zero_iff.1 h0
    have Q := Lib.hid (clone_none_at A c w)
    clear ih hl hsz h0
    show Calls Try.prog 51 #[.slice A 0 c, .func (.func F) #[] caps] w _
    go_enter Try.func51, Try.ntmps51
    go_wp2_with fail
    refine (Q.out).mono ?_
    rintro e w1 ⟨A', cap, rfl, h1, h2, _, hb⟩
    have HC := Lib.hid (show Lst w1 A' [] cap from ⟨h1, h2, fun h => by simp at h⟩)
    clear h1 h2
    go_wp2_with fail
    go_loopw [12] (fun i wr => i = .int .i64 0 ∧ Below w.heap.size w wr) (fun _ _ => 0)
    case atStart => exact ⟨rfl, hb⟩
    case round =>
      obtain ⟨rfl, hbw⟩ := hrel
      go_wp2_with fail
      go_ret
      exact ⟨A', cap, [], rfl, rfl, rfl, fun W _ => ⟨HC.out.1, HC.out.2.1, fun h => by simp at h⟩, hbw⟩
  · have hp : 0 < l.length := by omega
    obtain ⟨b0, o, rfl, hrow⟩ := hl.2.2 hp
    have hlen : l.length ≤ 9223372036854775807 := by omega
    have Q := Lib.hid (clone_at l b0 o c w hp hrow hsz)
    have QI := Lib.hid ih
    have HA := Lib.hid (renL_map l gg)
    have HLL := Lib.hid (fun W (h : Below w.heap.size w W) => (At_keep h).2 _ _ _ hrow)
    clear ih hrow hsz h0 hl
    go_enter Try.func51, Try.ntmps51
    go_wp2_with fail
    refine (Q.out).mono ?_
    rintro e w1 ⟨A', cap, rfl, h1, h2, h3, hb⟩
    obtain ⟨g, rfl, hg, hrow⟩ := h3 hp
    have HD := Lib.hid (Putting.start (f := (fun t => Tm.ren t gg)) (lo := w.heap.size) hrow)
    have hcap : l.length ≤ cap := h1
    have hcap2 : cap ≤ 9223372036854775807 := by unfold maxLen at h2; exact h2
    have HG := Lib.hid hg
    clear hrow h3 h1 h2 hg
    go_wp2_with fail
    go_loopw [12] (fun i wr => ∃ j : Nat, j ≤ l.length ∧ i = .int .i64 j ∧ Hid (Putting (fun t => Tm.ren t gg) l g w.heap.size j wr) ∧ Below w.heap.size w wr) (fun i _ => l.length - (intOf i).toNat)
    case atStart => exact ⟨0, Nat.zero_le _, rfl, HD, hb⟩
    case round =>
      obtain ⟨j, hj, rfl, HF, hbw⟩ := hrel
      clear hb HD
      by_cases hlt : j < l.length
      · obtain ⟨x, hx⟩ : ∃ x, x = l.getD j default := ⟨_, rfl⟩
        obtain ⟨⟨c0, c1, c2, c3⟩, _⟩ := (HLL.out _ hbw).get hlt
        rw [← hx] at c0 c1 c2 c3
        have hmem : x ∈ l := by rw [hx]; exact getD_mem hlt
        have Q1 := Lib.hid (fun W (h : Below w.heap.size w W) => QI.out x hmem W h)
        have HX := Lib.hid hx
        have hgs : g < wr.heap.size := HF.out.lt
        clear hx hmem QI
        obtain ⟨k', n', s', A', c', a'⟩ := x
        simp only [Tm.kind, Tm.num, Tm.name, Tm.at_, Tm.args, Tm.cap] at c0 c1 c2 c3
        go_wp2_with fail
        refine (Q1.out _ (hbw.alloc hbw.size _)).mono ?_
        rintro e w2 ⟨u, rfl, hu, hst, hb2⟩
        have hw : Below wr.heap.size wr w2 := (below1 wr _).trans (hb2.mono (by simp))
        have HN := Lib.hid (putting_next HF.out hlt HX.out hbw.size hu (hst.low (by simp)) hw _ rfl)
        have D2 := Lib.hid (HF.out.below hw)
        have hbx := hbw.trans (hw.mono hbw.size)
        have e0 := D2.out.cells hlt
        rw [← HX.out] at e0
        have q0 := e0 0 _ rfl
        have q1 := e0 1 _ rfl
        have q2 := e0 2 _ rfl
        have q3 := e0 3 _ rfl
        simp only [Nat.add_zero, Tm.kind, Tm.num, Tm.name, Tm.at_, Tm.args, Tm.cap] at q0 q1 q2 q3
        have f0 := D2.out.free (j * 4)
        have f1 := D2.out.free (j * 4 + 1)
        have f2 := D2.out.free (j * 4 + 2)
        have f3 := D2.out.free (j * 4 + 3)
        have hgz := D2.out.lt
        obtain ⟨k2, n2, s2, A2, p2, a2⟩ := u
        simp only [Tm.kind, Tm.num, Tm.name, Tm.at_, Tm.args, Tm.cap] at HN
        clear e0 hu hst hb2 c0 c1 c2 c3 hw
        go_wp2_with fail
        go_roundw
        case rel => exact ⟨j + 1, by omega, by go_num, HN, below4 hbx HG.out _ _ _ _⟩
        case measure => simp [intOf]; omega
      · obtain rfl : j = l.length := by omega
        clear QI
        obtain ⟨news, hn, hst, hL⟩ := HF.out.done (w' := wr) HG.out (Nat.le_refl _) (fun _ _ _ => rfl) cap hcap (by unfold maxLen; exact hcap2)
        have HL := Lib.hid hL
        have HN := Lib.hid hn
        have HS := Lib.hid (show stripL news = stripL (renL l gg) by rw [HA.out]; exact hst)
        clear hn hst hL HF
        go_wp2_with fail
        go_ret
        exact ⟨_, cap, news, rfl, HN.out, HS.out, HL.out, hbw⟩

set_option maxHeartbeats 4000000 in
theorem rename_at (t : Tm) : ∀ (F : FuncId) (caps : Array Value) (gg : Int → Int) (w0 : World), Renames F caps gg w0 → ∀ w : World, Below w0.heap.size w0 w → t.At w → t.nodes ≤ 1000000 →
    Calls Try.prog 37 #[t.val, .func (.func F) #[] caps] w (Made (t.ren gg) w) := by
  induction t using Tm.induct with
  | h k n s A c a ih =>
    intro F caps gg w0 hR w hw hat hnodes
    show Calls Try.prog 37 #[.agg #[.int .i64 k, .int .i64 n, .string s, .slice A a.length c], .func (.func F) #[] caps] w _
    have HP := Lib.hid ((At_iff _ _).1 hat).1
    simp only [Tm.kind, Tm.num, Tm.name] at HP
    obtain ⟨HB0, HB1⟩ := two_boxes w (.int .i64 k) (.int .i64 n) (.string s) (.slice A a.length c) (.int .i64 0) (.int .i64 0) (.string ⟨#[]⟩) (.slice none 0 0) 24
    have H0 := Lib.hid HB0
    have H1 := Lib.hid HB1
    clear HB0 HB1
    have hl : Lst w A a c := hat.lst
    have hna : nodesL a ≤ 1000000 := by simp only [Tm.nodes] at hnodes; omega
    have hln : a.length ≤ 1000000 := by have := length_le_nodes a; omega
    by_cases k1 : k = 1
    · subst k1
      have QB := Lib.hid (fun W (h : Below w.heap.size w W) => hR.call n W HP.out.2.1 (hw.trans (h.mono hw.size)))
      have hent := hR.enter
      have HFG := Lib.hid (hR.fits n HP.out.2.1)
      have Q1 := Lib.hid (fun W (h : Below w.heap.size w W) => rename_all_at a A c W 65 #[] (fun v => v) (hl.below h) hln (fun x hx W' h' => ih x hx _ _ _ w (unchanged_renames w) W' (h.trans (h'.mono h.size)) ((hl.mem hx).below (h.trans (h'.mono h.size))) (by have := nodes_mem hx; omega)))
      have HV := Lib.hid (show (Tm.mk 1 n s A c a).ren gg = .mk 1 (gg n) s A c (renL a fun v => v) by simp [Tm.ren])
      rw [HV.out]
      have hk1 : ((1 : Int) == 1) = true := rfl
      generalize gg n = m at *
      clear hat ih hl hna hnodes hln hw hR HV
      go_enter Try.func37, Try.ntmps37
      go_wp2_with fail
      refine (QB.out _ (below2 _ _ _)).mono ?_
      rintro e w1 ⟨rfl, hb2⟩
      have HKa := Lib.hid (H0.out.below hb2)
      have HK := Lib.hid (HKa.out.set1 (.int .i64 m))
      have HM := Lib.hid ((H1.out.below hb2).other (p := ⟨w.heap.size, 1, none⟩) (by show w.heap.size ≠ w.heap.size + 1; omega) (.int .i64 m))
      have HB := Lib.hid (((below2 w (.cells #[.int .i64 1, .int .i64 n, .string s, .slice A a.length c] 24) zeroBox).trans (hb2.mono (by simp; omega))).setCell (p := ⟨w.heap.size, 1, none⟩) (Nat.le_refl _) (.int .i64 m))
      obtain ⟨hz0, d0, d1, d2, d3, f⟩ := HKa.out
      have f1 := f 1
      clear f hb2 H0 H1
      go_wp2_with fail
      refine (Q1.out _ HB.out).mono ?_
      rintro e w3 ⟨A', cap, cur, rfl, hcl, hst, hL, hb3⟩
      have HK3 := Lib.hid (HK.out.below hb3)
      have HM3 := Lib.hid (HM.out.below hb3)
      have HB3 := Lib.hid (HB.out.trans (hb3.mono HB.out.size))
      obtain ⟨hz3, p0, p1, p2, p3, f⟩ := HK3.out
      obtain ⟨hz, e0, e1, e2, e3, f'⟩ := HM3.out
      have f3 := f 3
      have f0' := f' 0
      have f1' := f' 1
      have f2' := f' 2
      have f3' := f' 3
      have HL := Lib.hid (show ∀ W, Agree (w.heap.size + 2) No w3 W → Lst W A' cur cap from fun W hW => hL W fun b' h1 h2 h3 => hW b' (by have := HM.out.lt; omega) h2 h3)
      have HS := Lib.hid hst
      have HC := Lib.hid hcl
      clear f f' hL hst hcl hb3 Q1 QB HK HM HB HKa d0 d1 d2 d3 f1 hz0
      go_wp2_with fail
      refine bodyPost_ret (v := .agg #[.int .i64 1, .int .i64 m, .string s, .slice A' a.length cap]) (by simp [results, Try.results37, go_sem, e0, e1, e2, e3]) rfl ?_
      refine ⟨.mk 1 m s A' cap cur, by rw [← HC.out]; rfl, ?_, lie_row (lo := w.heap.size + 2) ⟨HP.out.1, HFG.out, HP.out.2.2⟩ (fun W hW => HL.out W fun b' h1 h2 h3 => ?_) (by omega), set4c (HB3.out.setCell (Nat.le_refl _) _) (Nat.le_succ _)⟩
      · simp only [Tm.strip, HS.out]
      · rw [hW b' h1 (by rw [size_set4]; simpa [World.setCell] using h2) h3, heap_set4 _ (by omega), Below.heap_setCell _ _ _ _ (by show b' ≠ w.heap.size; omega)]
    · have k1' : (k == 1) = false := by simpa using k1
      by_cases k2 : k = 2
      · subst k2
        have Q1 := Lib.hid (fun W (h : Below w.heap.size w W) => rename_all_at a A c W F caps gg (hl.below h) hln (fun x hx W' h' => ih x hx _ _ _ w0 hR W' (hw.trans ((h.trans (h'.mono h.size)).mono hw.size)) ((hl.mem hx).below (h.trans (h'.mono h.size))) (by have := nodes_mem hx; omega)))
        have HV := Lib.hid (show (Tm.mk 2 n s A c a).ren gg = .mk 2 n s A c (renL a gg) by simp [Tm.ren])
        rw [HV.out]
        clear hat ih hl hna hnodes hln hw hR HV k1 k1'
        go_enter Try.func37, Try.ntmps37
        go_wp2_with fail
        refine (Q1.out _ (below2 _ _ _)).mono ?_
        rintro e w3 ⟨A', cap, cur, rfl, hcl, hst, hL, hb3⟩
        have HK3 := Lib.hid (H0.out.below hb3)
        have HM3 := Lib.hid (H1.out.below hb3)
        have HB3 := Lib.hid ((below2 w (.cells #[.int .i64 2, .int .i64 n, .string s, .slice A a.length c] 24) zeroBox).trans (hb3.mono (by simp; omega)))
        obtain ⟨hz3, p0, p1, p2, p3, f⟩ := HK3.out
        obtain ⟨hz, e0, e1, e2, e3, f'⟩ := HM3.out
        have f3 := f 3
        have f0' := f' 0
        have f1' := f' 1
        have f2' := f' 2
        have f3' := f' 3
        have HL := Lib.hid (show ∀ W, Agree (w.heap.size + 2) No w3 W → Lst W A' cur cap from fun W hW => hL W fun b' h1 h2 h3 => hW b' (by simpa using h1) h2 h3)
        have HS := Lib.hid hst
        have HC := Lib.hid hcl
        clear f f' hL hst hcl hb3 Q1 H0 H1
        go_wp2_with fail
        refine bodyPost_ret (v := .agg #[.int .i64 2, .int .i64 n, .string s, .slice A' a.length cap]) (by simp [results, Try.results37, go_sem, e0, e1, e2, e3]) rfl ?_
        refine ⟨.mk 2 n s A' cap cur, by rw [← HC.out]; rfl, ?_, lie_row (lo := w.heap.size + 2) HP.out (fun W hW => HL.out W fun b' h1 h2 h3 => ?_) (by omega), set4c (HB3.out.setCell (Nat.le_refl _) _) (Nat.le_succ _)⟩
        · simp only [Tm.strip, HS.out]
        · rw [hW b' h1 (by rw [size_set4]; simpa [World.setCell] using h2) h3, heap_set4 _ (by omega), Below.heap_setCell _ _ _ _ (by show b' ≠ w.heap.size; omega)]
      · have k2' : (k == 2) = false := by simpa using k2
        have k2'' : (k != 2) = true := by simpa using k2
        have Q1 := Lib.hid (fun W (h : Below w.heap.size w W) => rename_all_at a A c W 65 #[] (fun v => v) (hl.below h) hln (fun x hx W' h' => ih x hx _ _ _ w (unchanged_renames w) W' (h.trans (h'.mono h.size)) ((hl.mem hx).below (h.trans (h'.mono h.size))) (by have := nodes_mem hx; omega)))
        have HV := Lib.hid (show (Tm.mk k n s A c a).ren gg = .mk k n s A c (renL a fun v => v) by simp [Tm.ren, k1, k2])
        rw [HV.out]
        clear hat ih hl hna hnodes hln hw hR HV k1 k2
        go_enter Try.func37, Try.ntmps37
        go_wp2_with fail
        refine (Q1.out _ (below2 _ _ _)).mono ?_
        rintro e w3 ⟨A', cap, cur, rfl, hcl, hst, hL, hb3⟩
        have HK3 := Lib.hid (H0.out.below hb3)
        have HM3 := Lib.hid (H1.out.below hb3)
        have HB3 := Lib.hid ((below2 w (.cells #[.int .i64 k, .int .i64 n, .string s, .slice A a.length c] 24) zeroBox).trans (hb3.mono (by simp; omega)))
        obtain ⟨hz3, p0, p1, p2, p3, f⟩ := HK3.out
        obtain ⟨hz, e0, e1, e2, e3, f'⟩ := HM3.out
        have f3 := f 3
        have f0' := f' 0
        have f1' := f' 1
        have f2' := f' 2
        have f3' := f' 3
        have HL := Lib.hid (show ∀ W, Agree (w.heap.size + 2) No w3 W → Lst W A' cur cap from fun W hW => hL W fun b' h1 h2 h3 => hW b' (by simpa using h1) h2 h3)
        have HS := Lib.hid hst
        have HC := Lib.hid hcl
        clear f f' hL hst hcl hb3 Q1 H0 H1
        go_wp2_with fail
        refine bodyPost_ret (v := .agg #[.int .i64 k, .int .i64 n, .string s, .slice A' a.length cap]) (by simp [results, Try.results37, go_sem, e0, e1, e2, e3]) rfl ?_
        refine ⟨.mk k n s A' cap cur, by rw [← HC.out]; rfl, ?_, lie_row (lo := w.heap.size + 2) HP.out (fun W hW => HL.out W fun b' h1 h2 h3 => ?_) (by omega), set4c (HB3.out.setCell (Nat.le_refl _) _) (Nat.le_succ _)⟩
        · simp only [Tm.strip, HS.out]
        · rw [hW b' h1 (by rw [size_set4]; simpa [World.setCell] using h2) h3, heap_set4 _ (by omega), Below.heap_setCell _ _ _ _ (by show b' ≠ w.heap.size; omega)]
end Go.Proofs.Ytpnjjahimhhjkaa
