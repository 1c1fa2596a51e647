/-
  Contracts of shift and Shift of the program.
-/
import Derived.Test.YtpnjjahimhhjkaaVaProg
import Derived.Test.YtpnjjahimhhjkaaMaShift
namespace Go.Proofs.Ytpnjjahimhhjkaa
open Go.RowKit

set_option maxHeartbeats 1000000 in
theorem shift_fn_at (k v : Int) (hk : Fits k) (hv : Fits v) (P : Nat) (w : World) (hc : w.cell? ⟨P, 0, none⟩ = some (.int .i64 k)) :
    Calls Try.prog 66 #[.int .i64 v, .pointer (some ⟨P, 0, none⟩)] w fun e w' => e = .returned (.int .i64 (shiftV k v)) ∧ Below w.heap.size w w' := by
  unfold Fits at hk hv
  go_enter Try.func66, Try.ntmps66
  go_wp2_with fail
  all_goals
    go_ret
    refine ⟨congrArg (fun m => Ending.returned (.int .i64 m)) ?_, Below.refl _ _⟩
    unfold shiftV
    (try unfold wrap64 at *)
    first | (rw [if_neg (by omega)]; done) | (rw [if_pos (by omega)]; try omega)

theorem shift_at (k : Int) (w : World) : Calls Try.prog 38 #[.int .i64 k] w fun e w' => e = .returned (.func (.func 66) #[] #[.pointer (some ⟨w.heap.size, 0, none⟩)]) ∧ w' = w.alloc (.cells #[.int .i64 k] 3) := by
  have hmf : ∀ (fn : Fn) (first cap : Array Value) (w : World), (Instr.makeFunc fn first cap).run Try.prog w = .ok (.func fn first cap) w := fun _ _ _ _ => rfl
  go_enter Try.func38, Try.ntmps38
  go_wp2_with fail
  go_ret
  exact ⟨rfl, rfl⟩
theorem shift_renames {k : Int} (hk : Fits k) {P : Nat} {w0 : World} (hc : w0.cell? ⟨P, 0, none⟩ = some (.int .i64 k)) : Renames 66 #[.pointer (some ⟨P, 0, none⟩)] (shiftV k) w0 where
  enter := enters_fn Try.func66 (by kernel_rfl) rfl
  fits := fun _ h => shiftV_fits h
  call := fun v W hv hb => shift_fn_at k v hk hv P W (keepv hb hc)
theorem shift_fn (k : Int) (w : World) : Calls Try.prog 38 #[.int .i64 k] w fun e w' => ∃ P, e = .returned (.func (.func 66) #[] #[.pointer (some ⟨P, 0, none⟩)]) ∧ w'.cell? ⟨P, 0, none⟩ = some (.int .i64 k) ∧ Below w.heap.size w w' :=
  (shift_at k w).mono fun _ _ ⟨he, hw⟩ => ⟨_, he, by rw [hw]; exact World.cell?_alloc_at _ _ _ _ rfl, by rw [hw]; exact below1 _ _⟩

set_option maxHeartbeats 2000000 in
theorem shift_term_at (t : Tm) (kk : Int) (hk : Fits kk) (w : World) (ht : t.At w) (hn : t.nodes ≤ 1000000) :
    Calls Try.prog 12 #[t.val, .int .i64 kk] w (Made (t.ren (shiftV kk)) w) := by
  have QS := Lib.hid (fun W => shift_fn kk W)
  have QA := Lib.hid (fun (P : Nat) (W : World) (hc : W.cell? ⟨P, 0, none⟩ = some (.int .i64 kk)) (h : Below w.heap.size w W) => rename_at t _ _ _ _ (shift_renames hk hc) W (Below.refl _ _) (ht.below h) hn)
  have HV := Lib.hid (show (t.ren (shiftV kk)).strip = (t.ren (shiftV kk)).strip from rfl)
  generalize t.ren (shiftV kk) = tr at *
  obtain ⟨k, n, s, A', c', a⟩ := t
  obtain ⟨HB0, HB1⟩ := two_boxes w (.int .i64 k) (.int .i64 n) (.string s) (.slice A' a.length c') (.int .i64 0) (.int .i64 0) (.string ⟨#[]⟩) (.slice none 0 0) 24
  have H0 := Lib.hid HB0
  have H1 := Lib.hid HB1
  clear HB0 HB1 ht hn
  show Calls Try.prog 12 #[.agg #[.int .i64 k, .int .i64 n, .string s, .slice A' a.length c'], .int .i64 kk] w _
  go_enter Try.func12, Try.ntmps12
  have HH := H0.out
  obtain ⟨_, x0, x1, x2, x3, _⟩ := HH
  go_wp2_with fail
  go_region_with (first
    | (go_at_call 38; refine (QS.out _).mono ?_; rintro e w1 ⟨P, rfl, hc, hb1⟩; have K1 := Lib.hid (H0.out.below (undrew hb1)); have M1 := Lib.hid (H1.out.below (undrew hb1)); have y0 := K1.out.c0; have y1 := K1.out.c1; have y2 := K1.out.c2; have y3 := K1.out.c3; have HB1 := Lib.hid ((below2 w _ _).trans (undrew (hb1.mono (by simp; omega)))); have HC := Lib.hid hc; clear hb1 hc)
    | (go_at_call 37; refine (QA.out _ _ HC.out HB1.out).mono ?_; rintro e w2 ⟨u, rfl, hu, hlie, hb2⟩; have M2 := Lib.hid (M1.out.below hb2); have hz2 := M2.out.lt; have e0 := M2.out.c0; have e1 := M2.out.c1; have e2 := M2.out.c2; have e3 := M2.out.c3; have f0 := M2.out.free 0; have f1 := M2.out.free 1; have f2 := M2.out.free 2; have f3 := M2.out.free 3; have HB2 := Lib.hid (HB1.out.trans (hb2.mono HB1.out.size)); have HU := Lib.hid hu; have HI := Lib.hid (hlie.low (lo' := w.heap.size + 2) (by have := M1.out.lt; omega)); obtain ⟨k2, n2, s2, A2, p2, a2⟩ := u; clear hu hlie hb2)
    | fail)
  all_goals
    go_wp2_with fail
    refine bodyPost_ret (v := .agg #[.int .i64 k2, .int .i64 n2, .string s2, .slice A2 a2.length p2]) (by simp [results, Try.results12, go_sem, e0, e1, e2, e3, Tm.kind, Tm.num, Tm.name, Tm.at_, Tm.args, Tm.cap]) rfl ?_
    refine ⟨.mk k2 n2 s2 A2 p2 a2, rfl, HU.out, ?_, set4c HB2.out (Nat.le_succ _)⟩
    exact Lie.low ((((HI.out.set (p := ⟨w.heap.size + 1, 0, none⟩) (.inl (by show w.heap.size + 1 < _; omega)) _).set (p := ⟨w.heap.size + 1, 1, none⟩) (.inl (by show w.heap.size + 1 < _; omega)) _).set (p := ⟨w.heap.size + 1, 2, none⟩) (.inl (by show w.heap.size + 1 < _; omega)) _).set (p := ⟨w.heap.size + 1, 3, none⟩) (.inl (by show w.heap.size + 1 < _; omega)) _) (by omega)
end Go.Proofs.Ytpnjjahimhhjkaa
