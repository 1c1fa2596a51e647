/-
  Contracts of TellIs and Equal of the reference.
  The fixed examples of stage 10's statements, plainly. No program.
  Contracts of Ints and v of the statements.
  What the program's calls answer, as the laws take it; the calls of the fixed examples.
  Contract of awake of the statements, over what is to be proved of the program.
-/
import Derived.Test.YtelkmnjoboekmaaGreatMb21
import Derived.BigRegionIn
import Derived.BigQuiet
import Derived.Deep.RegionHeld3
import Derived.Test.YtelkmnjoboekmaaGreatMb10
import Derived.Test.YtelkmnjoboekmaaGreatMb4
import Derived.Test.YtelkmnjoboekmaaGreatMb9
import Derived.Test.YtelkmnjoboekmaaGreatMb19
namespace Go.Proofs.YtelkmnjoboekmaaGreat
open Go.RowKit

/-- What TellIs answers. -/
def IsR (b : List Bd) (s t : Tm) (w : World) (e : Ending) (w' : World) : Prop :=
  ∃ (A : Option Addr) (c : Nat) (l : List Bd) (D : Option Addr) (q : Nat) (k : List Int) (er : Int), e = .returned (.tuple #[.slice A l.length c, .slice D k.length q, .int .i64 er]) ∧ IsOut b s t (stripB l) k er ∧ BLst w' A l c ∧ Ints w' D k ∧ Ext w w'
def numI (n : Int) : Tm := .mk 0 n ByteArray.empty none 0 []
theorem numI_at {n : Int} (w : World) (h : Fits n) : (numI n).At w := by
  refine (At_iff _ _).2 ⟨⟨⟨by simp [numI, Tm.kind], by simp [numI, Tm.kind]⟩, h, by simp [numI, Tm.name]⟩, ?_⟩
  exact Lst.nil w
theorem is_arg {b : List Bd} {s t : Tm} {w w' : World} (h : (rightS b && (s.right && t.right)) = false) (hx : Ext w w') : IsR b s t w (.returned (.tuple #[.slice none 0 0, .slice none 0 0, .int .i64 2])) w' :=
  ⟨none, 0, [], none, 0, [], 2, rfl, by unfold IsOut; rw [if_pos h]; exact ⟨rfl, rfl, rfl⟩, BLst.nil _, ints_nil _, hx⟩
theorem is_err {b : List Bd} {s t : Tm} {w w' : World} (h : (rightS b && (s.right && t.right)) = true) (he : (t.app b).eval.2 ≠ 0) (hx : Ext w w') : IsR b s t w (.returned (.tuple #[.slice none 0 0, .slice none 0 0, .int .i64 (t.app b).eval.2])) w' :=
  ⟨none, 0, [], none, 0, [], _, rfl, by unfold IsOut; rw [if_neg (by rw [h]; simp), if_pos he]; exact ⟨rfl, rfl, rfl⟩, BLst.nil _, ints_nil _, hx⟩
theorem is_ok {b : List Bd} {s t : Tm} {w W w' : World} {e : Ending} (h : (rightS b && (s.right && t.right)) = true) (he : (t.app b).eval.2 = 0) (hw : Ext w W) (hr : TellR b s (numI (t.app b).eval.1) W e w') : IsR b s t w e w' := by
  obtain ⟨A, c, l, D, q, k, er, h1, h2, h3, h4, h5⟩ := hr
  refine ⟨A, c, l, D, q, k, er, h1, ?_, h3, h4, hw.trans h5⟩
  unfold IsOut; rw [if_neg (by rw [h]; simp), if_neg (by rw [he]; simp)]; exact h2
theorem eval_fits (t : Tm) (_h : t.eval.2 = 0) : Fits t.eval.1 := by
  rcases eval_codes.1 t with ⟨_, h1⟩ | ⟨h1, h2⟩
  · rw [inR_iff] at h1
    unfold Fits; omega
  · rw [h1]; exact ⟨by decide, by decide⟩
theorem apply_like (b : List Bd) (A : Option Addr) (c : Nat) (t : Tm) (w : World) (hb : BLst w A b c) (ht : t.At w) (hn : t.nodes ≤ 1000000) : Calls Tryz.prog 29 #[.slice A b.length c, t.val] w fun e w' => ∃ u : Tm, e = .returned u.val ∧ u.strip = (t.app b).strip ∧ u.At w' ∧ Ext w w' :=
  (ref_apply_at w b A c hb t ht hn w (Below.refl _ _)).mono fun _ w' ⟨u, h1, h2, h3, h4⟩ => ⟨u, h1, h2, h3 w' h4 (fun _ _ _ _ => rfl), h4⟩
set_option maxHeartbeats 4000000 in
set_option maxRecDepth 100000 in
theorem rtellis_at (H : RSolves) (b : List Bd) (A : Option Addr) (c : Nat) (s t : Tm) (w : World) (hb : BLst w A b c) (hs : s.At w) (ht : t.At w) (hzb : ∀ x ∈ b, x.tm.size ≤ 1000000) (hzs : s.size ≤ 1000000) (hzt : t.size ≤ 1000000) (hn : t.nodes ≤ 1000000) (hlen : b.length ≤ 10000) :
    Calls Tryz.prog 16 #[.slice A b.length c, s.val, t.val] w (IsR b s t w) := by
  have B0 := Lib.hid (show ∀ o1 o2, Ext w ((w.alloc o1).alloc o2) from fun o1 o2 => (Ext.al _ _).trans (Ext.al _ _))
  have HBX := Lib.hid (fun (W : World) (v0 v1 v2 v3 u0 u1 u2 u3 : Value) (h : Below ((w.alloc (.cells #[v0, v1, v2, v3] 26)).alloc (.cells #[u0, u1, u2, u3] 26)).heap.size ((w.alloc (.cells #[v0, v1, v2, v3] 26)).alloc (.cells #[u0, u1, u2, u3] 26)) W) => boxes_two h)
  cases hr : (rightS b && (s.right && t.right)) with
  | false =>
    have QV := Lib.hid (fun W (h : Ext w W) => rvalid_at b A c s t W (hb.below h) (hs.below h) (ht.below h) hzb hzs hzt hr)
    have HE := Lib.hid (fun w' (h : Ext w w') => is_arg (w := w) (w' := w') hr h)
    generalize IsR b s t w = X at *
    clear hb hs ht hzb hzs hzt hr H HBX
    obtain ⟨k, n, s, A1, c1, a⟩ := s
    obtain ⟨k2, n2, s2, A2, c2, a2⟩ := t
    show Calls Tryz.prog 16 #[.slice A b.length c, .agg #[.int .i64 k, .int .i64 n, .string s, .slice A1 a.length c1], .agg #[.int .i64 k2, .int .i64 n2, .string s2, .slice A2 a2.length c2]] w _
    go_enter Tryz.func16, Tryz.ntmps16
    go_wp2_with fail
    refine (QV.out _ (B0.out _ _)).mono ?_
    rintro e w1 ⟨rfl, hb1⟩
    have E1 := Lib.hid ((B0.out _ _).trans hb1)
    clear hb1
    go_wp2_with fail
    go_ret3
    exact HE.out _ E1.out
  | true =>
    have QV := Lib.hid (fun W (h : Ext w W) => rvalid_at b A c s t W (hb.below h) (hs.below h) (ht.below h) hzb hzs hzt hr)
    have QA := Lib.hid (fun W (h : Ext w W) => apply_like b A c t W (hb.below h) (ht.below h) hn)
    have QE := Lib.hid (fun (u : Tm) (hu : u.strip = (t.app b).strip) W (h : u.At W) => (show Calls Tryz.prog 33 #[u.val] W fun e w' => e = .returned (pairV (t.app b).eval) ∧ Ext W w' from by rw [← eval_same hu]; exact ref_eval_at u W h))
    have QT := Lib.hid (fun W (h : Ext w W) (he : (t.app b).eval.2 = 0) => (rtell_at H b A c s (numI (t.app b).eval.1) W (hb.below h) (hs.below h) (numI_at W (eval_fits _ he)) hzb hzs (by simp [numI, Tm.size]) hlen).mono fun e w' h' => is_ok hr he h h')
    have HN := Lib.hid (fun w' he hx => is_err (b := b) (s := s) (t := t) (w := w) (w' := w') hr he hx)
    have QT2 := Lib.hid (fun W (h : Ext w W) (he : (t.app b).eval.2 = 0) => (QT.out W h he).mono fun e w' h' => (show ∃ (A : Option Addr) (c : Nat) (l : List Bd) (D : Option Addr) (q : Nat) (k : List Int) (er : Int), e = .returned (.tuple #[.slice A l.length c, .slice D k.length q, .int .i64 er]) ∧ IsR b s t w (.returned (.tuple #[.slice A l.length c, .slice D k.length q, .int .i64 er])) w' from by
      obtain ⟨A, c, l, D, q, k, er, rfl, h2⟩ := h'
      exact ⟨A, c, l, D, q, k, er, rfl, A, c, l, D, q, k, er, rfl, h2⟩))
    generalize IsR b s t w = X at *
    generalize hP : (t.app b).eval = P at *
    clear hb hs ht hzb hzs hzt hr H hn QT
    obtain ⟨pv, pe⟩ := P
    simp only at QT2 HN QE
    have HU := Lib.hid (fun (u : Tm) (h : u.strip = (t.app b).strip) => h)
    generalize (t.app b).strip = ts at *
    clear hP
    obtain ⟨k, n, s, A1, c1, a⟩ := s
    obtain ⟨k2, n2, s2, A2, c2, a2⟩ := t
    show Calls Tryz.prog 16 #[.slice A b.length c, .agg #[.int .i64 k, .int .i64 n, .string s, .slice A1 a.length c1], .agg #[.int .i64 k2, .int .i64 n2, .string s2, .slice A2 a2.length c2]] w _
    go_enter Tryz.func16, Tryz.ntmps16
    go_wp2_with fail
    refine (QV.out _ (B0.out _ _)).mono ?_
    rintro e w1 ⟨rfl, hb1⟩
    have E1 := Lib.hid ((B0.out _ _).trans hb1)
    obtain ⟨⟨d0, d1, d2, d3⟩, x0, x1, x2, x3⟩ := HBX.out _ _ _ _ _ _ _ _ _ hb1
    clear hb1
    go_wp2_with fail
    refine (QA.out _ E1.out).mono ?_
    rintro e w2 ⟨u, rfl, hu, hat, hx2⟩
    have y0 := keepv hx2 d0
    have y1 := keepv hx2 d1
    have y2 := keepv hx2 d2
    have y3 := keepv hx2 d3
    have E2 := Lib.hid (E1.out.trans hx2)
    have QE2 := Lib.hid (QE.out u hu w2 hat)
    clear hx2 hu hat d0 d1 d2 d3 x0 x1 x2 x3
    obtain ⟨k5, n5, s5, A5, c5, a5⟩ := u
    go_wp2_with fail
    refine QE2.out.mono ?_
    rintro e w3 ⟨rfl, hx3⟩
    have z0 := keepv hx3 y0
    have z1 := keepv hx3 y1
    have z2 := keepv hx3 y2
    have z3 := keepv hx3 y3
    have E3 := Lib.hid (E2.out.trans hx3)
    clear hx3 y0 y1 y2 y3
    by_cases he : pe = 0
    · subst he
      have QG := Lib.hid (QT2.out w3 E3.out rfl)
      go_wp2_with fail
      refine QG.out.mono ?_
      rintro e w4 ⟨A6, c6, l, D, q, k', er, rfl, h4⟩
      have H4 := Lib.hid h4
      clear h4
      go_wp2_with fail
      go_ret3
      exact H4.out
    · have e0 : (pe == 0) = false := by simpa using he
      have H4 := Lib.hid (HN.out w3 he E3.out)
      go_wp2_with fail
      go_ret3
      exact H4.out

/-! ### Equal -/
def EqR (b : List Bd) (s t : Tm) (w : World) (e : Ending) (w' : World) : Prop := ∃ r : Int, e = .returned (.int .i64 r) ∧ EqOut b s t r ∧ Ext w w'
theorem same_of {b : List Bd} {s t u v : Tm} (hu : u.strip = (s.app b).strip) (hv : v.strip = (t.app b).strip) : (cmpT u v == 0) = (cmpT (s.app b) (t.app b) == 0) := by rw [← cmp_strip.1, hu, hv, cmp_strip.1]
theorem eq_arg {b : List Bd} {s t : Tm} (h : (rightS b && (s.right && t.right)) = false) : EqOut b s t 0 := by unfold EqOut; rw [if_pos h]
theorem eq_same {b : List Bd} {s t : Tm} (h : (rightS b && (s.right && t.right)) = true) (hv : (cmpT (s.app b) (t.app b) == 0) = true) : EqOut b s t 1 := by unfold EqOut; rw [if_neg (by rw [h]; simp), if_pos hv]
theorem eq_other {b : List Bd} {s t : Tm} {m : List Bd} {er : Int} (h : (rightS b && (s.right && t.right)) = true) (hv : (cmpT (s.app b) (t.app b) == 0) = false) (ho : Out ((s, t) :: eqsB b) m er) : EqOut b s t (if er = 13 then 2 else 0) := by
  unfold EqOut
  rw [if_neg (by rw [h]; simp), if_neg (by rw [hv]; simp)]
  by_cases he : er = 13
  · rw [if_pos he]; exact .inl ⟨rfl, ho.refuted.1 he⟩
  · rw [if_neg he]
    refine .inr ⟨rfl, Classical.byContradiction fun hn => he (ho.refuted.2 fun f hf => hn ⟨f, hf⟩)⟩
set_option maxHeartbeats 4000000 in
set_option maxRecDepth 100000 in
theorem requal_at (H : RSolves) (b : List Bd) (A : Option Addr) (c : Nat) (s t : Tm) (w : World) (hb : BLst w A b c) (hs : s.At w) (ht : t.At w) (hzb : ∀ x ∈ b, x.tm.size ≤ 1000000) (hzs : s.size ≤ 1000000) (hzt : t.size ≤ 1000000) (hns : s.nodes ≤ 1000000) (hn : t.nodes ≤ 1000000) (hlen : b.length ≤ 10000) :
    Calls Tryz.prog 14 #[.slice A b.length c, s.val, t.val] w (EqR b s t w) := by
  have B0 := Lib.hid (show ∀ o1 o2, Ext w ((w.alloc o1).alloc o2) from fun o1 o2 => (Ext.al _ _).trans (Ext.al _ _))
  have HBX := Lib.hid (fun (W : World) (v0 v1 v2 v3 u0 u1 u2 u3 : Value) (h : Below ((w.alloc (.cells #[v0, v1, v2, v3] 26)).alloc (.cells #[u0, u1, u2, u3] 26)).heap.size ((w.alloc (.cells #[v0, v1, v2, v3] 26)).alloc (.cells #[u0, u1, u2, u3] 26)) W) => boxes_two h)
  cases hr : (rightS b && (s.right && t.right)) with
  | false =>
    have QV := Lib.hid (fun W (h : Ext w W) => rvalid_at b A c s t W (hb.below h) (hs.below h) (ht.below h) hzb hzs hzt hr)
    have HE := Lib.hid (fun w' (h : Ext w w') => (show EqR b s t w (.returned (.int .i64 0)) w' from ⟨0, rfl, eq_arg hr, h⟩))
    generalize EqR b s t w = X at *
    clear hb hs ht hzb hzs hzt hr H HBX
    obtain ⟨k, n, s, A1, c1, a⟩ := s
    obtain ⟨k2, n2, s2, A2, c2, a2⟩ := t
    show Calls Tryz.prog 14 #[.slice A b.length c, .agg #[.int .i64 k, .int .i64 n, .string s, .slice A1 a.length c1], .agg #[.int .i64 k2, .int .i64 n2, .string s2, .slice A2 a2.length c2]] w _
    go_enter Tryz.func14, Tryz.ntmps14
    go_wp2_with fail
    refine (QV.out _ (B0.out _ _)).mono ?_
    rintro e w1 ⟨rfl, hb1⟩
    have E1 := Lib.hid ((B0.out _ _).trans hb1)
    clear hb1
    go_wp2_with fail
    (try go_ret)
    exact HE.out _ E1.out
  | true =>
    have QV := Lib.hid (fun W (h : Ext w W) => rvalid_at b A c s t W (hb.below h) (hs.below h) (ht.below h) hzb hzs hzt hr)
    have QA := Lib.hid (fun W (h : Ext w W) => apply_like b A c s W (hb.below h) (hs.below h) hns)
    have QB := Lib.hid (fun W (h : Ext w W) => apply_like b A c t W (hb.below h) (ht.below h) hn)
    have QT := Lib.hid (fun W (h : Ext w W) => told_at H b A c s t W (hb.below h) (hs.below h) (ht.below h) hr hlen)
    have QS := Lib.hid (fun (u v : Tm) (hu : u.strip = (s.app b).strip) (hv : v.strip = (t.app b).strip) W (h1 : u.At W) (h2 : v.At W) => ref_same_at u v W h1 h2 (same_of hu hv))
    have HE := Lib.hid (fun w' (h : Ext w w') (hv : (cmpT (s.app b) (t.app b) == 0) = true) => (show EqR b s t w (.returned (.int .i64 1)) w' from ⟨1, rfl, eq_same hr hv, h⟩))
    have HO := Lib.hid (fun w' (m : List Bd) er (h : Ext w w') (hv : (cmpT (s.app b) (t.app b) == 0) = false) (ho : Out ((s, t) :: eqsB b) m er) => (show EqR b s t w (.returned (.int .i64 (if er = 13 then 2 else 0))) w' from ⟨_, rfl, eq_other hr hv ho, h⟩))
    generalize EqR b s t w = X at *
    generalize hY : Out ((s, t) :: eqsB b) = Y at *
    have QT2 := Lib.hid (fun (W : World) (hW : Ext w W) => (QT.out W hW).mono fun e w' h => (show ∃ (A : Option Addr) (c : Nat) (l : List Bd) (er : Int), e = .returned (.tuple #[.slice A l.length c, .int .i64 er]) ∧ Y (stripB l) er ∧ Ext W w' from by
      obtain ⟨A, c, l, er, h1, h2, _, h4⟩ := h
      exact ⟨A, c, l, er, h1, by rw [← hY]; exact h2, h4⟩))
    generalize (cmpT (s.app b) (t.app b) == 0) = same at *
    generalize (s.app b).strip = ss at *
    generalize (t.app b).strip = ts at *
    clear hb hs ht hzb hzs hzt hr H hn hns hY QT
    obtain ⟨k, n, s, A1, c1, a⟩ := s
    obtain ⟨k2, n2, s2, A2, c2, a2⟩ := t
    have QA2 := Lib.hid (fun (W : World) (h : Ext w W) => show Calls Tryz.prog 29 #[.slice A b.length c, .agg #[.int .i64 k, .int .i64 n, .string s, .slice A1 a.length c1]] W (fun e w' => ∃ u : Tm, e = .returned u.val ∧ u.strip = ss ∧ u.At w' ∧ Ext W w') from QA.out W h)
    have QB2 := Lib.hid (fun (W : World) (h : Ext w W) => show Calls Tryz.prog 29 #[.slice A b.length c, .agg #[.int .i64 k2, .int .i64 n2, .string s2, .slice A2 a2.length c2]] W (fun e w' => ∃ u : Tm, e = .returned u.val ∧ u.strip = ts ∧ u.At w' ∧ Ext W w') from QB.out W h)
    clear QA QB
    show Calls Tryz.prog 14 #[.slice A b.length c, .agg #[.int .i64 k, .int .i64 n, .string s, .slice A1 a.length c1], .agg #[.int .i64 k2, .int .i64 n2, .string s2, .slice A2 a2.length c2]] w _
    go_enter Tryz.func14, Tryz.ntmps14
    go_wp2_with fail
    refine (QV.out _ (B0.out _ _)).mono ?_
    rintro e w1 ⟨rfl, hb1⟩
    have E1 := Lib.hid ((B0.out _ _).trans hb1)
    have HC := Lib.hid (fun W (h : Ext w1 W) => HBX.out W _ _ _ _ _ _ _ _ (Below.trans hb1 (h.mono hb1.size)))
    clear hb1
    go_wp2_with fail
    go_region_held3 (fun W => (W.cell? ⟨w.heap.size, 0, none⟩ = some (.int .i64 k) ∧ W.cell? ⟨w.heap.size, 1, none⟩ = some (.int .i64 n) ∧ W.cell? ⟨w.heap.size, 2, none⟩ = some (.string s) ∧ W.cell? ⟨w.heap.size, 3, none⟩ = some (.slice A1 a.length c1)) ∧ W.cell? ⟨w.heap.size + 1, 0, none⟩ = some (.int .i64 k2) ∧ W.cell? ⟨w.heap.size + 1, 1, none⟩ = some (.int .i64 n2) ∧ W.cell? ⟨w.heap.size + 1, 2, none⟩ = some (.string s2) ∧ W.cell? ⟨w.heap.size + 1, 3, none⟩ = some (.slice A2 a2.length c2)) (first | (with_reducible exact HC.out _ (Ext.drew _)) | (with_reducible exact HC.out _ Y1.out) | (with_reducible exact HC.out _ Y2.out) | (with_reducible exact HC.out _ Y3.out) | fail) (first
      | (go_at_call 29; have hF := QA2.out w1.drew (Ext.trans E1.out (Ext.drew _)); (with_reducible refine hF.mono ?_); rintro e y1 ⟨u, rfl, hu, hat, hx⟩; have Y1 := Lib.hid (show Ext w1 y1 from Ext.trans (Ext.drew _) hx); have HU := Lib.hid (And.intro hu hat); clear hx hu hat hF)
      | (go_at_call 29; have hF := QB2.out y1 (Ext.trans E1.out Y1.out); (with_reducible refine hF.mono ?_); rintro e y2 ⟨v, rfl, hv, hat, hx⟩; have Y2 := Lib.hid (Ext.trans Y1.out hx); have QSS := Lib.hid (QS.out u v HU.out.1 hv y2 (HU.out.2.below hx) hat); clear hx hv hat hF)
      | (go_at_call 26; have hF := QSS.out; (with_reducible refine hF.mono ?_); rintro e y3 ⟨rfl, hx⟩; have Y3 := Lib.hid (Ext.trans Y2.out hx); clear hx hF)
      | fail)
    all_goals
      obtain ⟨⟨d0, d1, d2, d3⟩, x0, x1, x2, x3⟩ := HC.out _ Y3.out
      have E3 := Lib.hid (Ext.trans E1.out Y3.out)
      cases same
      · go_wp2_with fail
        refine (QT2.out _ E3.out).mono ?_
        rintro e w2 ⟨A5, c5, l, er, rfl, ho, hx2⟩
        have E2 := Lib.hid (E3.out.trans hx2)
        have HZ := Lib.hid (HO.out w2 _ er E2.out (by first | rfl | trivial) ho)
        clear ho hx2 d0 d1 d2 d3 x0 x1 x2 x3
        by_cases he : er = 13
        · subst he
          go_wp2_with fail
          (try go_ret)
          exact HZ.out
        · have e0 : (er == 13) = false := by simpa using he
          rw [if_neg he] at HZ
          go_wp2_with fail
          (try go_ret)
          exact HZ.out
      · have HZ := Lib.hid (HE.out _ E3.out (by first | rfl | trivial))
        go_wp2_with fail
        (try go_ret)
        exact HZ.out
end Go.Proofs.YtelkmnjoboekmaaGreat
namespace Go.Proofs.YtelkmnjoboekmaaGreat
open Go

def f1T (A : Option Addr) (c : Nat) : Tm := .mk 2 0 ⟨#[102]⟩ A c [vr 1]
def in2 (n : Int) : Tm := .mk 0 n ByteArray.empty none 0 []
def plT (A : Option Addr) (c : Nat) : Tm := .mk 2 0 ⟨#[43]⟩ A c [vr 0, in2 1]
def b1 (A : Option Addr) (c : Nat) : List Bd := [⟨2, f1T A c⟩]
def b2 : List Bd := [⟨0, in2 2⟩]
def o1 : List Bd := [⟨0, f1T none 0⟩, ⟨2, f1T none 0⟩]
def o2 : List Bd := [⟨0, in2 2⟩, ⟨1, in2 3⟩]
theorem b1_right (A : Option Addr) (c : Nat) : rightS (b1 A c) = true := by
  rw [← rightS_strip]
  show rightS [⟨2, f1T none 0⟩] = true
  kernel_rfl
theorem f1_right (A : Option Addr) (c : Nat) : (f1T A c).right = true := by
  rw [← right_strip]
  show (f1T none 0).right = true
  kernel_rfl
theorem pl_right (A : Option Addr) (c : Nat) : (plT A c).right = true := by
  rw [← right_strip]
  show (plT none 0).right = true
  kernel_rfl
theorem solA (A : Option Addr) (c : Nat) : Sol ((vr 2, vr 0) :: eqsB (b1 A c)) o1 := by
  refine ⟨by unfold Asc o1; simp, fun x hx => ?_, fun x hx v hv => ?_, fun p hp => ?_, fun f hf x hx => ?_, fun x hx hk => ?_⟩
  · simp only [o1, List.mem_cons, List.not_mem_nil, or_false] at hx
    rcases hx with rfl | rfl <;> exact ⟨rfl, rfl, by decide, by decide⟩
  · simp only [o1, List.mem_cons, List.not_mem_nil, or_false] at hx
    obtain rfl : v = 1 := by
      rcases hx with rfl | rfl <;> (have : v ∈ [(1 : Int)] := hv; simpa using this)
    rfl
  · simp only [eqsB, b1, List.map_cons, List.map_nil, List.mem_cons, List.not_mem_nil, or_false] at hp
    rcases hp with rfl | rfl <;> rfl
  · have h1 := hf (vr 2, vr 0) (by simp)
    have h2 := hf (vr 2, f1T A c) (by simp [eqsB, b1])
    simp only [vr, Tm.sub, if_true] at h1
    have h3 : f 2 = (f1T none 0).sub f := (show f 2 = (f1T A c).sub f from h2).trans rfl
    simp only [o1, List.mem_cons, List.not_mem_nil, or_false] at hx
    rcases hx with rfl | rfl
    · exact h1.symm.trans h3
    · exact h3
  · simp only [o1, List.mem_cons, List.not_mem_nil, or_false] at hx
    rcases hx with rfl | rfl <;> simp [f1T, Tm.kind] at hk
theorem solB : Sol ((vr 1, in2 3) :: eqsB b2) o2 := by
  refine ⟨by unfold Asc o2; simp, fun x hx => ?_, fun x hx v hv => ?_, fun p hp => ?_, fun f hf x hx => ?_, fun x hx hk => ?_⟩
  · simp only [o2, List.mem_cons, List.not_mem_nil, or_false] at hx
    rcases hx with rfl | rfl <;> exact ⟨rfl, rfl, by decide, by decide⟩
  · simp only [o2, List.mem_cons, List.not_mem_nil, or_false] at hx
    rcases hx with rfl | rfl <;> (have : v ∈ ([] : List Int) := hv; cases this)
  · simp only [eqsB, b2, List.map_cons, List.map_nil, List.mem_cons, List.not_mem_nil, or_false] at hp
    rcases hp with rfl | rfl <;> rfl
  · have h1 := hf (vr 1, in2 3) (by simp)
    have h2 := hf (vr 0, in2 2) (by simp [eqsB, b2])
    simp only [vr, Tm.sub, if_true] at h1 h2
    simp only [o2, List.mem_cons, List.not_mem_nil, or_false] at hx
    rcases hx with rfl | rfl
    · exact h2
    · exact h1
  · simp only [o2, List.mem_cons, List.not_mem_nil, or_false] at hx
    rcases hx with rfl | rfl <;> simp [in2, Tm.kind] at hk
theorem no_f1 (A : Option Addr) (c : Nat) (f : Int → Tm) : f 1 ≠ (f1T A c).sub f := by
  intro e
  have := congrArg Tm.nodes e
  simp only [vr, f1T, Tm.sub, subL, if_true, if_neg (show (2 : Int) ≠ 1 by decide), Tm.nodes, nodesL] at this
  omega
theorem tellA (A : Option Addr) (c : Nat) : TellOut (b1 A c) (vr 2) (vr 0) o1 [0] 0 := by
  have h := TellOut.of (b := b1 A c) (s := vr 2) (t := vr 0) (m := o1) (e := 0) (by rw [b1_right]; rfl) (.inr ⟨o1, solA A c, .inl ⟨rfl, rfl, rfl⟩⟩)
  exact h
theorem eqA (A : Option Addr) (c : Nat) : EqOut (b1 A c) (vr 2) (f1T A c) 1 := by
  unfold EqOut
  rw [if_neg (by rw [b1_right, f1_right, vr_right (by decide) (by decide)]; simp), if_pos]
  exact same_strip rfl
theorem eqB (A : Option Addr) (c : Nat) : EqOut (b1 A c) (vr 2) (vr 1) 2 := by
  unfold EqOut
  rw [if_neg (by rw [b1_right, vr_right (by decide) (by decide), vr_right (by decide) (by decide)]; simp), if_neg]
  · refine .inl ⟨rfl, fun f hf => ?_⟩
    have h1 := hf (vr 2, vr 1) (by simp)
    have h2 := hf (vr 2, f1T A c) (by simp [eqsB, b1])
    simp only [vr, Tm.sub, if_true] at h1
    exact no_f1 A c f (h1.symm.trans h2)
  · have e : cmpT (((vr 2).app (b1 A c))) ((vr 1).app (b1 A c)) = cmpT (f1T A c) (vr 1) := rfl
    rw [e, ← cmp_strip.1]
    show ¬ (cmpT (f1T none 0) (vr 1) == 0) = true
    decide
theorem eqC (A : Option Addr) (c : Nat) : EqOut (b1 A c) (vr 2) (vr 0) 0 := by
  unfold EqOut
  rw [if_neg (by rw [b1_right, vr_right (by decide) (by decide), vr_right (by decide) (by decide)]; simp), if_neg]
  · exact .inr ⟨rfl, _, (solA A c).unif⟩
  · have e : cmpT (((vr 2).app (b1 A c))) ((vr 0).app (b1 A c)) = cmpT (f1T A c) (vr 0) := rfl
    rw [e, ← cmp_strip.1]
    show ¬ (cmpT (f1T none 0) (vr 0) == 0) = true
    decide
theorem tellN (A : Option Addr) (c : Nat) : TellOut [] (vr 1) (f1T A c) [] [] 13 := by
  have h := TellOut.of (b := []) (s := vr 1) (t := f1T A c) (m := []) (e := 13) (by rw [f1_right]; rfl) (.inl ⟨rfl, rfl, fun f hf => no_f1 A c f (hf (vr 1, f1T A c) (by simp))⟩)
  exact h
theorem isA (A : Option Addr) (c : Nat) : IsOut b2 (vr 1) (plT A c) o2 [1] 0 := by
  have hb : rightS b2 = true := by kernel_rfl
  have hv : ((plT A c).app b2).eval = (3, 0) := by
    rw [← eval_strip.1]
    show (Tm.mk 2 0 ⟨#[43]⟩ none 0 [in2 2, in2 1]).eval = (3, 0)
    kernel_rfl
  unfold IsOut
  rw [if_neg (by rw [hb, pl_right, vr_right (by decide) (by decide)]; simp), if_neg (by rw [hv]; simp), hv]
  have h := TellOut.of (b := b2) (s := vr 1) (t := in2 3) (m := o2) (e := 0) (by rw [hb]; rfl) (.inr ⟨o2, solB, .inl ⟨rfl, rfl, rfl⟩⟩)
  exact h
end Go.Proofs.YtelkmnjoboekmaaGreat
namespace Go.Proofs.YtelkmnjoboekmaaGreat
open Go.RowKit

set_option maxHeartbeats 1000000 in
theorem v_at (n : Int) (w : World) : Calls Tryz.prog 18 #[.int .i64 n] w fun e w' => e = .returned (.agg #[.int .i64 1, .int .i64 n, .string ⟨#[]⟩, .slice none 0 0]) ∧ Ext w w' := by
  go_enter Tryz.func18, Tryz.ntmps18
  go_wp2_with fail
  refine bodyPost_ret (v := .agg #[.int .i64 1, .int .i64 n, .string ⟨#[]⟩, .slice none 0 0]) (by simp [results, Tryz.results18, go_sem]) rfl ⟨rfl, ?_⟩
  exact Ext.al _ _
set_option maxHeartbeats 2000000 in
theorem ints_law_at (A B : Option Addr) (l m : List Int) (c d : Nat) (w : World) (hI : Ints w A l) (hJ : Ints w B m) (_hlen : l.length ≤ 9223372036854775807) (hlen' : m.length ≤ 9223372036854775807) {r : Bool} (hr : decide (l = m) = r) :
    Calls Tryz.prog 12 #[.slice A l.length c, .slice B m.length d] w fun e w' => e = .returned (.bool r) ∧ Below w.heap.size w w' := by
  have HR := Lib.hid hr
  clear hr
  by_cases hlm : l.length = m.length
  · have e0 : ((l.length : Int) != (m.length : Int)) = false := by simp [hlm]
    have HL := Lib.hid hlm
    have hle : l.length ≤ m.length := by omega
    clear hlm
    go_enter Tryz.func12, Tryz.ntmps12
    go_wp2_with fail
    go_loopw [13] (fun i wr => ∃ j : Nat, j ≤ l.length ∧ i = .int .i64 j ∧ Hid (l.take j = m.take j) ∧ Below w.heap.size w wr) (fun i _ => l.length - (intOf i).toNat)
    case atStart => exact ⟨0, Nat.zero_le _, rfl, Lib.hid (by simp), Below.refl _ _⟩
    case round =>
      obtain ⟨j, hj, rfl, HN, hb⟩ := hrel
      by_cases hlt : j < l.length
      · have hlt' : j < m.length := by omega
        obtain ⟨b, o, rfl, hc⟩ := (hI.below hb).get hlt
        obtain ⟨b', o', rfl, hc'⟩ := (hJ.below hb).get hlt'
        have HT := Lib.hid (take_int hlt)
        have HT' := Lib.hid (take_int hlt')
        have HG := Lib.hid (show l.getD j 0 ≠ m.getD j 0 → l ≠ m from fun h e => h (by rw [e]))
        generalize l.getD j 0 = x at *
        generalize m.getD j 0 = y at *
        by_cases hx : x = y
        · subst hx
          have HN' := Lib.hid (show l.take (j + 1) = m.take (j + 1) by rw [HT.out, HT'.out, HN.out])
          go_wp2_with fail
          go_quiet (fail)
          go_wp2_with fail
          go_roundw
          case rel => exact ⟨j + 1, by omega, by go_num, HN', below_drewN hb nq⟩
          case measure => simp [intOf]; omega
        · have hx' : (x != y) = true := by simpa using hx
          have HE := Lib.hid (show false = r by rw [← HR.out]; simp [HG.out hx])
          clear hx
          go_wp2_with fail
          go_quiet (fail)
          go_wp2_with fail
          go_ret
          exact ⟨by rw [← HE.out]; rfl, below_drewN hb nq⟩
      · obtain rfl : j = l.length := by omega
        have HE := Lib.hid (show true = r by
          have := HN.out
          rw [List.take_length, HL.out, List.take_length] at this
          rw [← HR.out]; simp [this])
        go_wp2_with fail
        go_ret
        exact ⟨by rw [← HE.out]; rfl, hb⟩
  · have e0 : ((l.length : Int) != (m.length : Int)) = true := by simp; omega
    have HE := Lib.hid (show false = r by rw [← HR.out]; simp; intro e; exact hlm (by rw [e]))
    clear hlm
    go_enter Tryz.func12, Tryz.ntmps12
    go_wp2_with fail
    go_ret
    exact ⟨by rw [← HE.out]; rfl, Below.refl _ _⟩
end Go.Proofs.YtelkmnjoboekmaaGreat
namespace Go.Proofs.YtelkmnjoboekmaaGreat
open Go.RowKit

/-- What is to be proved of the program. -/
def PTell : Prop := ∀ (b : List Bd) (A : Option Addr) (c : Nat) (s t : Tm) (w : World), BLst w A b c → s.At w → t.At w → (∀ x ∈ b, x.tm.nodes ≤ 1000000) → s.nodes ≤ 1000000 → t.nodes ≤ 1000000 → b.length ≤ 10000 →
    Calls Tryz.prog 9 #[.slice A b.length c, s.val, t.val] w (TellR b s t w)
def PTellIs : Prop := ∀ (b : List Bd) (A : Option Addr) (c : Nat) (s t : Tm) (w : World), BLst w A b c → s.At w → t.At w → (∀ x ∈ b, x.tm.nodes ≤ 1000000) → s.nodes ≤ 1000000 → t.nodes ≤ 1000000 → b.length ≤ 10000 →
    Calls Tryz.prog 15 #[.slice A b.length c, s.val, t.val] w (IsR b s t w)
def PEqual : Prop := ∀ (b : List Bd) (A : Option Addr) (c : Nat) (s t : Tm) (w : World), BLst w A b c → s.At w → t.At w → (∀ x ∈ b, x.tm.nodes ≤ 1000000) → s.nodes ≤ 1000000 → t.nodes ≤ 1000000 → b.length ≤ 10000 →
    Calls Tryz.prog 13 #[.slice A b.length c, s.val, t.val] w (EqR b s t w)
theorem tell_unique {b : List Bd} {s t : Tm} {m : List Bd} {k : List Int} {er : Int} {w w' : World} {e : Ending} (h : TellR b s t w e w') (hu : TellOut b s t m k er) :
    ∃ (A : Option Addr) (c : Nat) (l : List Bd) (D : Option Addr) (q : Nat), e = .returned (.tuple #[.slice A l.length c, .slice D k.length q, .int .i64 er]) ∧ stripB l = m ∧ BLst w' A l c ∧ Ints w' D k ∧ Ext w w' := by
  obtain ⟨A, c, l, D, q, k', er', rfl, h1, h2, h3, h4⟩ := h
  obtain ⟨e1, rfl, rfl⟩ := h1.unique hu
  exact ⟨A, c, l, D, q, rfl, e1, h2, h3, h4⟩
theorem is_unique {b : List Bd} {s t : Tm} {m : List Bd} {k : List Int} {er : Int} {w w' : World} {e : Ending} (h : IsR b s t w e w') (hu : IsOut b s t m k er) :
    ∃ (A : Option Addr) (c : Nat) (l : List Bd) (D : Option Addr) (q : Nat), e = .returned (.tuple #[.slice A l.length c, .slice D k.length q, .int .i64 er]) ∧ stripB l = m ∧ BLst w' A l c ∧ Ints w' D k ∧ Ext w w' := by
  obtain ⟨A, c, l, D, q, k', er', rfl, h1, h2, h3, h4⟩ := h
  obtain ⟨e1, rfl, rfl⟩ := h1.unique hu
  exact ⟨A, c, l, D, q, rfl, e1, h2, h3, h4⟩
theorem eq_unique {b : List Bd} {s t : Tm} {r : Int} {w w' : World} {e : Ending} (h : EqR b s t w e w') (hu : EqOut b s t r) : e = .returned (.int .i64 r) ∧ Ext w w' := by
  obtain ⟨r', rfl, h1, h2⟩ := h
  rw [h1.unique hu]
  exact ⟨rfl, h2⟩
theorem fits_few (n : Int) (h : 0 ≤ n ∧ n ≤ 100) : Fits n := by unfold Fits; omega
theorem vr_few (n : Int) (W : World) (h : 0 ≤ n ∧ n ≤ 100) : (vr n).At W := var_at W (fits_few n h)
theorem vr_nodes (n : Int) : (vr n).nodes ≤ 1000000 := by simp [vr, Tm.nodes, nodesL]
theorem b1_nodes (A : Option Addr) (c : Nat) : ∀ x ∈ b1 A c, x.tm.nodes ≤ 1000000 := fun x hx => by
  rw [List.mem_singleton.1 hx]; simp [f1T, vr, Tm.nodes, nodesL]
theorem b2_nodes : ∀ x ∈ b2, x.tm.nodes ≤ 1000000 := fun x hx => by
  rw [List.mem_singleton.1 hx]; simp [in2, Tm.nodes, nodesL]
/-- The calls of the examples. -/
theorem tA_at (H : PTell) (W : World) (p r : Nat) (hb : BLst W (some ⟨r, 0, none⟩) (b1 (some ⟨p, 0, none⟩) 1) 1) : Calls Tryz.prog 9 #[.slice (some ⟨r, 0, none⟩) 1 1, .agg #[.int .i64 1, .int .i64 2, .string ⟨#[]⟩, .slice none 0 0], .agg #[.int .i64 1, .int .i64 0, .string ⟨#[]⟩, .slice none 0 0]] W
    fun e w' => ∃ (A : Option Addr) (c : Nat) (l : List Bd) (D : Option Addr) (q : Nat), e = .returned (.tuple #[.slice A l.length c, .slice D 1 q, .int .i64 0]) ∧ stripB l = o1 ∧ BLst w' A l c ∧ Ints w' D [0] ∧ Ext W w' :=
  (H (b1 (some ⟨p, 0, none⟩) 1) (some ⟨r, 0, none⟩) 1 (vr 2) (vr 0) W hb (vr_few _ _ (by omega)) (vr_few _ _ (by omega)) (b1_nodes _ _) (vr_nodes _) (vr_nodes _) (by simp [b1])).mono fun _ _ h => tell_unique h (tellA _ _)
theorem tN_at (H : PTell) (W : World) (p : Nat) (hg : (f1T (some ⟨p, 0, none⟩) 1).At W) : Calls Tryz.prog 9 #[.slice none 0 0, .agg #[.int .i64 1, .int .i64 1, .string ⟨#[]⟩, .slice none 0 0], .agg #[.int .i64 2, .int .i64 0, .string ⟨#[102]⟩, .slice (some ⟨p, 0, none⟩) 1 1]] W
    fun e w' => ∃ (A : Option Addr) (c : Nat) (l : List Bd) (D : Option Addr) (q : Nat), e = .returned (.tuple #[.slice A l.length c, .slice D 0 q, .int .i64 13]) ∧ stripB l = [] ∧ BLst w' A l c ∧ Ints w' D [] ∧ Ext W w' :=
  (H [] none 0 (vr 1) (f1T (some ⟨p, 0, none⟩) 1) W (BLst.nil _) (vr_few _ _ (by omega)) hg (fun x hx => by cases hx) (vr_nodes _) (by simp [f1T, vr, Tm.nodes, nodesL]) (by simp)).mono fun _ _ h => tell_unique h (tellN _ _)
theorem iA_at (H : PTellIs) (W : World) (a r : Nat) (hb : BLst W (some ⟨r, 0, none⟩) b2 1) (hp : (plT (some ⟨a, 0, none⟩) 2).At W) : Calls Tryz.prog 15 #[.slice (some ⟨r, 0, none⟩) 1 1, .agg #[.int .i64 1, .int .i64 1, .string ⟨#[]⟩, .slice none 0 0], .agg #[.int .i64 2, .int .i64 0, .string ⟨#[43]⟩, .slice (some ⟨a, 0, none⟩) 2 2]] W
    fun e w' => ∃ (A : Option Addr) (c : Nat) (l : List Bd) (D : Option Addr) (q : Nat), e = .returned (.tuple #[.slice A l.length c, .slice D 1 q, .int .i64 0]) ∧ stripB l = o2 ∧ BLst w' A l c ∧ Ints w' D [1] ∧ Ext W w' :=
  (H b2 (some ⟨r, 0, none⟩) 1 (vr 1) (plT (some ⟨a, 0, none⟩) 2) W hb (vr_few _ _ (by omega)) hp b2_nodes (vr_nodes _) (by simp [plT, vr, in2, Tm.nodes, nodesL]) (by simp [b2])).mono fun _ _ h => is_unique h (isA _ _)
theorem eA_at (H : PEqual) (W : World) (p r : Nat) (hb : BLst W (some ⟨r, 0, none⟩) (b1 (some ⟨p, 0, none⟩) 1) 1) (hg : (f1T (some ⟨p, 0, none⟩) 1).At W) : Calls Tryz.prog 13 #[.slice (some ⟨r, 0, none⟩) 1 1, .agg #[.int .i64 1, .int .i64 2, .string ⟨#[]⟩, .slice none 0 0], .agg #[.int .i64 2, .int .i64 0, .string ⟨#[102]⟩, .slice (some ⟨p, 0, none⟩) 1 1]] W fun e w' => e = .returned (.int .i64 1) ∧ Ext W w' :=
  (H (b1 (some ⟨p, 0, none⟩) 1) (some ⟨r, 0, none⟩) 1 (vr 2) (f1T (some ⟨p, 0, none⟩) 1) W hb (vr_few _ _ (by omega)) hg (b1_nodes _ _) (vr_nodes _) (by simp [f1T, vr, Tm.nodes, nodesL]) (by simp [b1])).mono fun _ _ h => eq_unique h (eqA _ _)
theorem eB_at (H : PEqual) (W : World) (p r : Nat) (hb : BLst W (some ⟨r, 0, none⟩) (b1 (some ⟨p, 0, none⟩) 1) 1) : Calls Tryz.prog 13 #[.slice (some ⟨r, 0, none⟩) 1 1, .agg #[.int .i64 1, .int .i64 2, .string ⟨#[]⟩, .slice none 0 0], .agg #[.int .i64 1, .int .i64 1, .string ⟨#[]⟩, .slice none 0 0]] W fun e w' => e = .returned (.int .i64 2) ∧ Ext W w' :=
  (H (b1 (some ⟨p, 0, none⟩) 1) (some ⟨r, 0, none⟩) 1 (vr 2) (vr 1) W hb (vr_few _ _ (by omega)) (vr_few _ _ (by omega)) (b1_nodes _ _) (vr_nodes _) (vr_nodes _) (by simp [b1])).mono fun _ _ h => eq_unique h (eqB _ _)
theorem eC_at (H : PEqual) (W : World) (p r : Nat) (hb : BLst W (some ⟨r, 0, none⟩) (b1 (some ⟨p, 0, none⟩) 1) 1) : Calls Tryz.prog 13 #[.slice (some ⟨r, 0, none⟩) 1 1, .agg #[.int .i64 1, .int .i64 2, .string ⟨#[]⟩, .slice none 0 0], .agg #[.int .i64 1, .int .i64 0, .string ⟨#[]⟩, .slice none 0 0]] W fun e w' => e = .returned (.int .i64 0) ∧ Ext W w' :=
  (H (b1 (some ⟨p, 0, none⟩) 1) (some ⟨r, 0, none⟩) 1 (vr 2) (vr 0) W hb (vr_few _ _ (by omega)) (vr_few _ _ (by omega)) (b1_nodes _ _) (vr_nodes _) (vr_nodes _) (by simp [b1])).mono fun _ _ h => eq_unique h (eqC _ _)
end Go.Proofs.YtelkmnjoboekmaaGreat
namespace Go.Proofs.YtelkmnjoboekmaaGreat
open Go.RowKit

/-- What is kept: the term g, the store b, some lists of bindings and of ints, one cell. -/
def BR (w : World) (p r : Nat) (L : List (Option Addr × List Bd × Nat)) (M : List (Option Addr × List Int)) (W : World) : Prop :=
  (f1T (some ⟨p, 0, none⟩) 1).At W ∧ BLst W (some ⟨r, 0, none⟩) (b1 (some ⟨p, 0, none⟩) 1) 1 ∧ Ext w W ∧ (∀ x ∈ L, BLst W x.1 x.2.1 x.2.2) ∧ ∀ x ∈ M, Ints W x.1 x.2
def BS (w : World) (p q r : Nat) (L : List (Option Addr × List Bd × Nat)) (M : List (Option Addr × List Int)) (W : World) : Prop :=
  (W.cell? ⟨q, 0, none⟩ = some (.int .i64 2) ∧ W.cell? ⟨q, 1, none⟩ = some (.int .i64 0) ∧ W.cell? ⟨q, 2, none⟩ = some (.string ⟨#[102]⟩) ∧ W.cell? ⟨q, 3, none⟩ = some (.slice (some ⟨p, 0, none⟩) 1 1)) ∧ BR w p r L M W
section
variable {w W W' : World} {p q r : Nat} {L : List (Option Addr × List Bd × Nat)} {M : List (Option Addr × List Int)}
theorem BS.ext (h : BS w p q r L M W) (e : Ext W W') : BS w p q r L M W' :=
  ⟨⟨keepv e h.1.1, keepv e h.1.2.1, keepv e h.1.2.2.1, keepv e h.1.2.2.2⟩, h.2.1.below e, h.2.2.1.below e, h.2.2.2.1.trans e, fun x hx => (h.2.2.2.2.1 x hx).below e, fun x hx => (h.2.2.2.2.2 x hx).below e⟩
theorem BS.drew (h : BS w p q r L M W) : BS w p q r L M W.drew := h.ext ⟨rfl, rfl, rfl, Nat.le_refl _, fun _ _ => rfl⟩
theorem BS.add {c : Nat} {A D : Option Addr} {l : List Bd} {k : List Int} (h : BS w p q r L M W) (hb : BLst W A l c) (hi : Ints W D k) : BS w p q r ((A, l, c) :: L) ((D, k) :: M) W :=
  ⟨h.1, h.2.1, h.2.2.1, h.2.2.2.1, fun x hx => by
    rcases List.mem_cons.1 hx with rfl | hx
    · exact hb
    · exact h.2.2.2.2.1 x hx, fun x hx => by
    rcases List.mem_cons.1 hx with rfl | hx
    · exact hi
    · exact h.2.2.2.2.2 x hx⟩
end
theorem bd_one {W W' : World} {T : TypeId} {u : Bd} (h : Ext (W.alloc (.cells #[.int .i64 u.var, .int .i64 u.tm.kind, .int .i64 u.tm.num, .string u.tm.name, .slice u.tm.at_ u.tm.args.length u.tm.cap] T)) W') (hf : Fits u.var) (hu : u.tm.At W') : BLst W' (some ⟨W.heap.size, 0, none⟩) [u] 1 := by
  refine ⟨Nat.le_refl _, by unfold maxLen; simp, fun _ => ⟨_, _, rfl, fun i hi => ?_⟩⟩
  obtain rfl : i = 0 := by simp at hi; omega
  refine ⟨fun j x hx => ?_, hf, hu⟩
  have hj : j < 5 := by
    apply Classical.byContradiction; intro hc
    rw [List.getElem?_eq_none (by simp [Bd.cells]; omega)] at hx; cases hx
  have e := h.row j
  rw [show 0 + 0 * 5 + j = j by omega, e, ← hx]
  match j, hj with
  | 0, _ | 1, _ | 2, _ | 3, _ | 4, _ => rfl
theorem BS.start {w w1 : World} {T T' T'' : TypeId} (h : Ext w w1) : BS w w1.heap.size (w1.heap.size + 1) (w1.heap.size + 1 + 1) [] [] (((w1.alloc (.cells #[.int .i64 1, .int .i64 1, .string ⟨#[]⟩, .slice none 0 0] T)).alloc (.cells #[.int .i64 2, .int .i64 0, .string ⟨#[102]⟩, .slice (some ⟨w1.heap.size, 0, none⟩) 1 1] T')).alloc (.cells #[.int .i64 2, .int .i64 2, .int .i64 0, .string ⟨#[102]⟩, .slice (some ⟨w1.heap.size, 0, none⟩) 1 1] T'')) := by
  have h0 := (Ext.al (w1.alloc (.cells #[.int .i64 1, .int .i64 1, .string ⟨#[]⟩, .slice none 0 0] T)) (.cells #[.int .i64 2, .int .i64 0, .string ⟨#[102]⟩, .slice (some ⟨w1.heap.size, 0, none⟩) 1 1] T'))
  have h2 := Ext.al ((w1.alloc (.cells #[.int .i64 1, .int .i64 1, .string ⟨#[]⟩, .slice none 0 0] T)).alloc (.cells #[.int .i64 2, .int .i64 0, .string ⟨#[102]⟩, .slice (some ⟨w1.heap.size, 0, none⟩) 1 1] T')) (.cells #[.int .i64 2, .int .i64 2, .int .i64 0, .string ⟨#[102]⟩, .slice (some ⟨w1.heap.size, 0, none⟩) 1 1] T'')
  have h1 := h0.trans h2
  have hg : (f1T (some ⟨w1.heap.size, 0, none⟩) 1).At (((w1.alloc (.cells #[.int .i64 1, .int .i64 1, .string ⟨#[]⟩, .slice none 0 0] T)).alloc (.cells #[.int .i64 2, .int .i64 0, .string ⟨#[102]⟩, .slice (some ⟨w1.heap.size, 0, none⟩) 1 1] T')).alloc (.cells #[.int .i64 2, .int .i64 2, .int .i64 0, .string ⟨#[102]⟩, .slice (some ⟨w1.heap.size, 0, none⟩) 1 1] T'')) := by
    refine (At_iff _ _).2 ⟨⟨by unfold Fits; simp [f1T, Tm.kind], by unfold Fits; simp [f1T, Tm.num], by simp [f1T, Tm.name, maxLen, ByteArray.size]⟩, Nat.le_refl _, by simp [f1T, Tm.cap, maxLen], fun _ => ⟨w1.heap.size, 0, rfl, ?_⟩⟩
    exact ⟨⟨h1.row 0, h1.row 1, h1.row 2, h1.row 3⟩, vr_few _ _ (by omega), trivial⟩
  refine ⟨?_, hg, ?_, (h.trans (Ext.al _ _)).trans h1, (fun x hx => by cases hx), (fun x hx => by cases hx)⟩
  · have e : ∀ j v, (#[.int .i64 2, .int .i64 0, .string ⟨#[102]⟩, .slice (some ⟨w1.heap.size, 0, none⟩) 1 1] : Array Value)[j]? = some v → (((w1.alloc (.cells #[.int .i64 1, .int .i64 1, .string ⟨#[]⟩, .slice none 0 0] T)).alloc (.cells #[.int .i64 2, .int .i64 0, .string ⟨#[102]⟩, .slice (some ⟨w1.heap.size, 0, none⟩) 1 1] T')).alloc (.cells #[.int .i64 2, .int .i64 2, .int .i64 0, .string ⟨#[102]⟩, .slice (some ⟨w1.heap.size, 0, none⟩) 1 1] T'')).cell? ⟨w1.heap.size + 1, j, none⟩ = some v := fun j v hv => by
      have := h2.row (u := w1.alloc (.cells #[.int .i64 1, .int .i64 1, .string ⟨#[]⟩, .slice none 0 0] T)) j
      rw [World.size_alloc] at this
      rw [this]; exact hv
    exact ⟨e 0 _ rfl, e 1 _ rfl, e 2 _ rfl, e 3 _ rfl⟩
  · have := bd_one (W := (w1.alloc (.cells #[.int .i64 1, .int .i64 1, .string ⟨#[]⟩, .slice none 0 0] T)).alloc (.cells #[.int .i64 2, .int .i64 0, .string ⟨#[102]⟩, .slice (some ⟨w1.heap.size, 0, none⟩) 1 1] T')) (T := T'') (u := ⟨2, f1T (some ⟨w1.heap.size, 0, none⟩) 1⟩) (Ext.refl _) (fits_few _ (by simp)) hg
    simp only [World.size_alloc] at this
    exact this
theorem pl_at {y W : World} {T : TypeId} (h : Ext (y.alloc (.cells #[.int .i64 1, .int .i64 0, .string ⟨#[]⟩, .slice none 0 0, .int .i64 0, .int .i64 1, .string ⟨#[]⟩, .slice none 0 0] T)) W) : (plT (some ⟨y.heap.size, 0, none⟩) 2).At W := by
  refine (At_iff _ _).2 ⟨⟨by unfold Fits; simp [plT, Tm.kind], by unfold Fits; simp [plT, Tm.num], by simp [plT, Tm.name, maxLen, ByteArray.size]⟩, Nat.le_refl _, by simp [plT, Tm.cap, maxLen], fun _ => ⟨y.heap.size, 0, rfl, ?_⟩⟩
  exact ⟨⟨h.row 0, h.row 1, h.row 2, h.row 3⟩, vr_few _ _ (by omega), ⟨h.row 4, h.row 5, h.row 6, h.row 7⟩, numI_at _ (fits_few _ (by omega)), trivial⟩
theorem b2_at {y W : World} {T : TypeId} (h : Ext (y.alloc (.cells #[.int .i64 0, .int .i64 0, .int .i64 2, .string ⟨#[]⟩, .slice none 0 0] T)) W) : BLst W (some ⟨y.heap.size, 0, none⟩) b2 1 :=
  bd_one (u := ⟨0, in2 2⟩) (T := T) h (fits_few _ (by simp)) (numI_at _ (fits_few _ (by omega)))

theorem bds2 {u v : World} {T : TypeId} {a b : Bd} (h : Ext (u.alloc (.cells #[.int .i64 a.var, .int .i64 a.tm.kind, .int .i64 a.tm.num, .string a.tm.name, .slice a.tm.at_ a.tm.args.length a.tm.cap, .int .i64 b.var, .int .i64 b.tm.kind, .int .i64 b.tm.num, .string b.tm.name, .slice b.tm.at_ b.tm.args.length b.tm.cap] T)) v) (fa : Fits a.var) (ha : a.tm.At v) (fb : Fits b.var) (hb : b.tm.At v) :
    BLst v (some ⟨u.heap.size, 0, none⟩) [a, b] 2 := by
  refine ⟨Nat.le_refl _, by simp [maxLen], fun _ => ⟨_, _, rfl, fun i hi => ?_⟩⟩
  have h2 : i = 0 ∨ i = 1 := by simp at hi; omega
  rcases h2 with rfl | rfl
  · refine ⟨fun j x hx => ?_, fa, ha⟩
    have hj : j < 5 := by
      apply Classical.byContradiction; intro hc
      rw [List.getElem?_eq_none (by simp [Bd.cells]; omega)] at hx; cases hx
    have e := h.row j
    rw [show 0 + 0 * 5 + j = j by omega, e, ← hx]
    match j, hj with
    | 0, _ | 1, _ | 2, _ | 3, _ | 4, _ => rfl
  · refine ⟨fun j x hx => ?_, fb, hb⟩
    have hj : j < 5 := by
      apply Classical.byContradiction; intro hc
      rw [List.getElem?_eq_none (by simp [Bd.cells]; omega)] at hx; cases hx
    have e := h.row (5 + j)
    rw [show 0 + 1 * 5 + j = 5 + j by omega, e, ← hx]
    match j, hj with
    | 0, _ | 1, _ | 2, _ | 3, _ | 4, _ => rfl
theorem sA_at {w W : World} {p q r c : Nat} {A : Option Addr} {l : List Bd} {L : List (Option Addr × List Bd × Nat)} {M : List (Option Addr × List Int)} (K : BS w p q r L M W) (hm : (A, l, c) ∈ L) (hs : stripB l = o1) :
    Calls Tryz.prog 11 #[.slice A l.length c, .slice (some ⟨W.heap.size, 0, none⟩) 2 2] (W.alloc (.cells #[.int .i64 0, .int .i64 2, .int .i64 0, .string ⟨#[102]⟩, .slice (some ⟨p, 0, none⟩) 1 1, .int .i64 2, .int .i64 2, .int .i64 0, .string ⟨#[102]⟩, .slice (some ⟨p, 0, none⟩) 1 1] 41)).drew fun e w' => e = .returned (.bool true) ∧ Ext W w' :=
  (ref_same_s_at l [⟨0, f1T (some ⟨p, 0, none⟩) 1⟩, ⟨2, f1T (some ⟨p, 0, none⟩) 1⟩] A (some ⟨W.heap.size, 0, none⟩) c 2 _ ((K.2.2.2.2.1 _ hm).below ((Ext.al _ _).trans (Ext.drew _))) (bds2 (a := ⟨0, f1T (some ⟨p, 0, none⟩) 1⟩) (b := ⟨2, f1T (some ⟨p, 0, none⟩) 1⟩) (Ext.drew _) (fits_few _ (by simp)) (K.2.1.below ((Ext.al _ _).trans (Ext.drew _))) (fits_few _ (by simp)) (K.2.1.below ((Ext.al _ _).trans (Ext.drew _))))).mono fun e w' h => ⟨by rw [h.1, sameB_strip (hs.trans rfl)], ((Ext.al _ _).trans (Ext.drew _)).trans h.2⟩
theorem nA_at {w W : World} {p q r c : Nat} {n : Int} {D : Option Addr} {L : List (Option Addr × List Bd × Nat)} {M : List (Option Addr × List Int)} (K : BS w p q r L M W) (hm : (D, [n]) ∈ M) :
    Calls Tryz.prog 12 #[.slice D 1 c, .slice (some ⟨W.heap.size, 0, none⟩) 1 1] (W.alloc (.cells #[.int .i64 n] 3)) fun e w' => e = .returned (.bool true) ∧ Ext W w' :=
  (ints_law_at D (some ⟨W.heap.size, 0, none⟩) [n] [n] c 1 _ ((K.2.2.2.2.2 _ hm).below (Ext.al _ _)) (fun _ => ⟨_, _, rfl, fun i hi => by
    obtain rfl : i = 0 := by simp at hi; omega
    exact (Ext.row (Ext.refl _) 0).trans rfl⟩) (by simp) (by simp) (r := true) (by simp)).mono fun e w' h => ⟨h.1, (Ext.al _ _).trans h.2⟩
/-- TellIs of the example, with the number that it binds. -/
theorem iB_at (H : PTellIs) (W : World) (a r : Nat) (hb : BLst W (some ⟨r, 0, none⟩) b2 1) (hp : (plT (some ⟨a, 0, none⟩) 2).At W) : Calls Tryz.prog 15 #[.slice (some ⟨r, 0, none⟩) 1 1, .agg #[.int .i64 1, .int .i64 1, .string ⟨#[]⟩, .slice none 0 0], .agg #[.int .i64 2, .int .i64 0, .string ⟨#[43]⟩, .slice (some ⟨a, 0, none⟩) 2 2]] W
    fun e w' => ∃ (g o c : Nat) (D : Option Addr) (q : Nat), e = .returned (.tuple #[.slice (some ⟨g, o, none⟩) 2 c, .slice D 1 q, .int .i64 0]) ∧ w'.cell? ⟨g, o + 5 + 1 + 1, none⟩ = some (.int .i64 3) ∧ Ints w' D [1] ∧ Ext W w' :=
  (iA_at H W a r hb hp).mono fun e w' ⟨A, c, l, D, q, he, hs, hl, hi, hx⟩ => by
    have hlen : l.length = 2 := by
      have := congrArg List.length hs
      rw [stripB_len] at this
      exact this
    obtain ⟨g, o, rfl, hc, _, _⟩ := hl.get (i := 1) (by omega)
    refine ⟨g, o, c, D, q, by rw [he, hlen], ?_, hi, hx⟩
    have hn : (l.getD 1 default).tm.num = 3 := by
      have h1 := stripB_getD l (i := 1) (by omega)
      rw [hs] at h1
      have h2 := congrArg (fun x : Bd => x.tm.num) h1
      have h3 : ((l.getD 1 default).strip).tm.num = (l.getD 1 default).tm.num := by
        generalize l.getD 1 default = x
        obtain ⟨v, k, n, s, A, c, a⟩ := x
        rfl
      exact (h3.symm.trans h2.symm).trans rfl
    have := hc.2.2.1
    rw [hn] at this
    simpa using this
set_option maxHeartbeats 16000000 in
set_option maxRecDepth 100000 in
theorem awake_at (H1 : PTell) (H2 : PTellIs) (H3 : PEqual) (w : World) : Calls Tryz.prog 8 #[] w fun e w' => e = .returned (.bool true) ∧ Ext w w' := by
  have V0 := Lib.hid (v_at 0)
  have V1 := Lib.hid (v_at 1)
  have V2 := Lib.hid (v_at 2)
  have TA := Lib.hid (tA_at H1)
  have TN := Lib.hid (tN_at H1)
  have IB := Lib.hid (iB_at H2)
  have EA := Lib.hid (eA_at H3)
  have EB := Lib.hid (eB_at H3)
  have EC := Lib.hid (eC_at H3)
  clear H1 H2 H3
  go_enter Tryz.func8, Tryz.ntmps8
  go_wp2_with (first
    | (go_at_call 18; (with_reducible refine (V1.out _).mono ?_); rintro e w1 ⟨rfl, h1⟩; have E1 := Lib.hid (show Ext w w1 from h1); clear h1)
    | (go_at_call 18; (with_reducible refine (V2.out _).mono ?_); rintro e a1 ⟨rfl, h1⟩; have K1 := Lib.hid ((BS.start (T := 26) (T' := 26) (T'' := 41) E1.out).ext h1); clear h1)
    | (go_at_call 18; (with_reducible refine (V0.out _).mono ?_); rintro e a2 ⟨rfl, h1⟩; have K2 := Lib.hid (K1.out.ext h1); clear h1)
    | (go_at_call 9; have hF := TA.out _ _ _ K2.out.2.2.1; (with_reducible refine hF.mono ?_); rintro e a3 ⟨A1, c1, l1, D1, q1, rfl, s1, r1, i1, h1⟩; have K3 := Lib.hid ((K2.out.ext h1).add r1 i1); have S1 := Lib.hid s1; clear h1 hF s1 r1 i1)
    | (go_at_call 18; (with_reducible refine (V1.out _).mono ?_); rintro e a4 ⟨rfl, h1⟩; have K4 := Lib.hid (K3.out.ext ((Ext.al _ _).trans h1)); have B4 := Lib.hid (b2_at (T := 41) h1); clear h1)
    | (go_at_call 18; (with_reducible refine (V0.out _).mono ?_); rintro e a5 ⟨rfl, h1⟩; have K5 := Lib.hid (K4.out.ext h1); have B5 := Lib.hid (B4.out.below h1); clear h1)
    | (go_at_call 15; have hF := IB.out _ _ _ (B5.out.below (Ext.al _ _)) (pl_at (T := 26) (Ext.refl _)); (with_reducible refine hF.mono ?_); rintro e a6 ⟨g2, o2, c2, D2, q2, rfl, n2, i2, h1⟩; have K6 := Lib.hid ((K5.out.ext ((Ext.al _ _).trans h1)).add (BLst.nil _) i2); have N6 := Lib.hid n2; clear h1 hF n2 i2))
  clear K1 K2 K3 K4 B4 K5 B5
  obtain ⟨⟨x0, x1, x2, x3⟩, xk⟩ := K6.out
  go_region_held3 (fun W => (W.cell? ⟨w1.heap.size + 1, 0, none⟩ = some (.int .i64 2) ∧ W.cell? ⟨w1.heap.size + 1, 1, none⟩ = some (.int .i64 0) ∧ W.cell? ⟨w1.heap.size + 1, 2, none⟩ = some (.string ⟨#[102]⟩) ∧ W.cell? ⟨w1.heap.size + 1, 3, none⟩ = some (.slice (some ⟨w1.heap.size, 0, none⟩) 1 1)) ∧ BR w w1.heap.size (w1.heap.size + 1 + 1) [(none, [], 0), (A1, l1, c1)] [(D2, [1]), (D1, [0])] W) (first | exact K6.out.drew | exact K7.out | exact K8.out | exact ⟨⟨x0, x1, x2, x3⟩, xk⟩ | fail) (first
    | (go_at_call 18; (with_reducible refine (V1.out _).mono ?_); rintro e a7 ⟨rfl, h1⟩; have K7 := Lib.hid (K6.out.ext h1.undrew); have N7 := Lib.hid (keepv h1.undrew N6.out); clear h1)
    | (go_at_call 9; have hF := TN.out _ _ K7.out.2.1; (with_reducible refine hF.mono ?_); rintro e a8 ⟨A3, c3, l3, D3, q3, rfl, s3, r3, i3, h1⟩; have K8 := Lib.hid (K7.out.ext h1); have N8 := Lib.hid (keepv h1 N7.out); clear h1 hF s3 r3 i3)
    | fail)
  all_goals
    clear K6 K7 N6 N7 x0 x1 x2 x3 xk
    go_wp2_with fail
    go_region_held3 (fun W => ((W.cell? ⟨w1.heap.size + 1, 0, none⟩ = some (.int .i64 2) ∧ W.cell? ⟨w1.heap.size + 1, 1, none⟩ = some (.int .i64 0) ∧ W.cell? ⟨w1.heap.size + 1, 2, none⟩ = some (.string ⟨#[102]⟩) ∧ W.cell? ⟨w1.heap.size + 1, 3, none⟩ = some (.slice (some ⟨w1.heap.size, 0, none⟩) 1 1)) ∧ BR w w1.heap.size (w1.heap.size + 1 + 1) [(none, [], 0), (A1, l1, c1)] [(D2, [1]), (D1, [0])] W) ∧ W.cell? ⟨g2, o2 + 5 + 1 + 1, none⟩ = some (.int .i64 3)) (first | exact And.intro (K8.out.ext (Ext.al _ _)).drew (keepv ((Ext.al _ _).trans (Ext.drew _)) N8.out) | exact And.intro K8.out.drew (keepv (Ext.drew _) N8.out) | exact And.intro (K9.out.ext (Ext.al _ _)) (keepv (Ext.al _ _) N9.out) | exact And.intro (K10.out.ext (Ext.al _ _)) (keepv (Ext.al _ _) N10.out) | exact And.intro (K8.out.ext (Ext.al _ _)) (keepv (Ext.al _ _) N8.out) | exact And.intro K9.out N9.out | exact And.intro K10.out N10.out | exact And.intro K11.out N11.out | exact And.intro K12.out N12.out | exact And.intro K13.out N13.out | exact And.intro K14.out N14.out | exact And.intro K15.out N15.out | exact And.intro K16.out N16.out | exact And.intro K17.out N17.out | exact And.intro K18.out N18.out | exact And.intro K19.out N19.out | fail) (first
      | (go_at_call 11; have hF := sA_at (A := A1) (l := l1) (c := c1) K8.out (by simp) S1.out; (with_reducible refine hF.mono ?_); rintro e a9 ⟨rfl, h1⟩; have K9 := Lib.hid (K8.out.ext (show Ext a8 a9 from h1)); have N9 := Lib.hid (keepv (show Ext a8 a9 from h1) N8.out); clear h1 hF)
      | (go_at_call 12; have hF := nA_at (n := 0) (D := D1) (c := q1) K9.out (by simp); (with_reducible refine hF.mono ?_); rintro e a10 ⟨rfl, h1⟩; have K10 := Lib.hid (K9.out.ext (show Ext a9 a10 from h1)); have N10 := Lib.hid (keepv (show Ext a9 a10 from h1) N9.out); clear h1 hF)
      | (go_at_call 12; have hF := nA_at (n := 1) (D := D2) (c := q2) K10.out (by simp); (with_reducible refine hF.mono ?_); rintro e a11 ⟨rfl, h1⟩; have K11 := Lib.hid (K10.out.ext (show Ext a10 a11 from h1)); have N11 := Lib.hid (keepv (show Ext a10 a11 from h1) N10.out); clear h1 hF)
      | (go_at_call 18; have hF := V2.out a11; (with_reducible refine hF.mono ?_); rintro e a12 ⟨rfl, h1⟩; have K12 := Lib.hid (K11.out.ext (show Ext a11 a12 from h1)); have N12 := Lib.hid (keepv (show Ext a11 a12 from h1) N11.out); clear h1 hF)
      | (go_at_call 13; have hF := EA.out _ _ _ K12.out.2.2.1 K12.out.2.1; (with_reducible refine hF.mono ?_); rintro e a13 ⟨rfl, h1⟩; have K13 := Lib.hid (K12.out.ext (show Ext a12 a13 from h1)); have N13 := Lib.hid (keepv (show Ext a12 a13 from h1) N12.out); clear h1 hF)
      | (go_at_call 18; have hF := V2.out a13; (with_reducible refine hF.mono ?_); rintro e a14 ⟨rfl, h1⟩; have K14 := Lib.hid (K13.out.ext (show Ext a13 a14 from h1)); have N14 := Lib.hid (keepv (show Ext a13 a14 from h1) N13.out); clear h1 hF)
      | (go_at_call 18; have hF := V1.out a14; (with_reducible refine hF.mono ?_); rintro e a15 ⟨rfl, h1⟩; have K15 := Lib.hid (K14.out.ext (show Ext a14 a15 from h1)); have N15 := Lib.hid (keepv (show Ext a14 a15 from h1) N14.out); clear h1 hF)
      | (go_at_call 13; have hF := EB.out _ _ _ K15.out.2.2.1; (with_reducible refine hF.mono ?_); rintro e a16 ⟨rfl, h1⟩; have K16 := Lib.hid (K15.out.ext (show Ext a15 a16 from h1)); have N16 := Lib.hid (keepv (show Ext a15 a16 from h1) N15.out); clear h1 hF)
      | (go_at_call 18; have hF := V2.out a16; (with_reducible refine hF.mono ?_); rintro e a17 ⟨rfl, h1⟩; have K17 := Lib.hid (K16.out.ext (show Ext a16 a17 from h1)); have N17 := Lib.hid (keepv (show Ext a16 a17 from h1) N16.out); clear h1 hF)
      | (go_at_call 18; have hF := V0.out a17; (with_reducible refine hF.mono ?_); rintro e a18 ⟨rfl, h1⟩; have K18 := Lib.hid (K17.out.ext (show Ext a17 a18 from h1)); have N18 := Lib.hid (keepv (show Ext a17 a18 from h1) N17.out); clear h1 hF)
      | (go_at_call 13; have hF := EC.out _ _ _ K18.out.2.2.1; (with_reducible refine hF.mono ?_); rintro e a19 ⟨rfl, h1⟩; have K19 := Lib.hid (K18.out.ext (show Ext a18 a19 from h1)); have N19 := Lib.hid (keepv (show Ext a18 a19 from h1) N18.out); clear h1 hF)
      | fail)
    all_goals
      go_wp2_with fail
      go_ret
      exact ⟨rfl, K19.out.2.2.2.1⟩
end Go.Proofs.YtelkmnjoboekmaaGreat
