/-
  Contracts of SameRule and GreatRules of the reference.
-/
import Derived.Test.YtpnjjahimhhjkaaVrRule1
namespace Go.Proofs.Ytpnjjahimhhjkaa
open Go.RowKit

/-! ### Two rules alike -/
theorem am_key_get {l m : List Am} {f : Am → Am} (h : l.map Am.key = (m.map f).map Am.key) {i : Nat} (hi : i < m.length) : (l.getD i default).key = (f (m.getD i default)).key := by
  have hl : l.length = m.length := by have := congrArg List.length h; simpa using this
  have h2 := congrArg (fun x => x[i]?) h
  simp only [List.getElem?_map, List.getElem?_eq_getElem (show i < l.length by omega), List.getElem?_eq_getElem hi, Option.map_some, Option.some.injEq] at h2
  simpa [List.getD, List.getElem?_eq_getElem (show i < l.length by omega), List.getElem?_eq_getElem hi] using h2
theorem gl_key_get {l m : List Gl} {f : Gl → Gl} (h : l.map Gl.key = (m.map f).map Gl.key) {i : Nat} (hi : i < m.length) : (l.getD i default).key = (f (m.getD i default)).key := by
  have hl : l.length = m.length := by have := congrArg List.length h; simpa using this
  have h2 := congrArg (fun x => x[i]?) h
  simp only [List.getElem?_map, List.getElem?_eq_getElem (show i < l.length by omega), List.getElem?_eq_getElem hi, Option.map_some, Option.some.injEq] at h2
  simpa [List.getD, List.getElem?_eq_getElem (show i < l.length by omega), List.getElem?_eq_getElem hi] using h2
theorem same_args {x y a : List Tm} {g : Int → Int} (hx : stripL x = stripL (renL a g)) (hy : stripL y = stripL (rrL a g)) : x.length = y.length ∧ cmpL x y = 0 := by
  have h : cmpL x y = 0 := cmpL_canon.2 (by rw [canonL_strip hx, canonL_strip hy, ren_canon.2, rr_canon.2])
  exact ⟨cmpL_len h, h⟩
theorem am_same {x y a : Am} {g : Int → Int} (hx : x.key = (a.ren g).key) (hy : y.key = (a.rr g).key) : Am.sameP x y := by
  obtain ⟨h1, h2⟩ := Prod.ext_iff.1 hx
  obtain ⟨h3, h4⟩ := Prod.ext_iff.1 hy
  obtain ⟨h5, h6⟩ := same_args (g := g) (a := a.args) h2 h4
  have hn : x.name = y.name := by
    have e1 : x.name = a.name := by simpa [Am.key, Am.hd, Am.ren] using h1
    have e2 : y.name = a.name := by simpa [Am.key, Am.hd, Am.rr] using h3
    rw [e1, e2]
  unfold Am.sameP cmpA
  rw [hn, texts_self, h5, ints_self, h6]
  rfl
theorem gl_same {x y a : Gl} {g : Int → Int} (hx : x.key = (a.ren g).key) (hy : y.key = (a.rr g).key) : Gl.sameP x y := by
  obtain ⟨h1, h2⟩ := Prod.ext_iff.1 hx
  obtain ⟨h3, h4⟩ := Prod.ext_iff.1 hy
  obtain ⟨h5, h6⟩ := same_args (g := g) (a := a.args) h2 h4
  have e1 : x.op = a.op ∧ x.name = a.name := by simpa [Gl.key, Gl.hd, Gl.ren] using h1
  have e2 : y.op = a.op ∧ y.name = a.name := by simpa [Gl.key, Gl.hd, Gl.rr] using h3
  unfold Gl.sameP sameG
  rw [e1.1, e1.2, e2.1, e2.2, h6]
  simp

set_option maxHeartbeats 8000000 in
theorem same_rule_at (u v r : Rl) (g : Int → Int) (w : World) (hs : r.Small) (hu : u.At w) (hv : v.At w) (lu : Like (fun x => x.ren g) (fun x => x.ren g) u r) (lv : Like (fun x => x.rr g) (fun x => x.rr g) v r) :
    Calls Try.prog 16 #[u.val, v.val] w fun e w' => e = .returned (.bool true) ∧ Ext w w' := by
  have Q1 := Lib.hid (fun W (h : Below w.heap.size w W) => same_ams_at u.keep v.keep u.keep.length u.kA v.kA u.kc v.kc W (hu.keep.below h) (hv.keep.below h) rfl (by rw [lu.kl, lv.kl]) (by rw [lu.kl]; exact hs.k1) (fun i hi => am_same (am_key_get lu.keep (by rw [← lu.kl]; exact hi)) (am_key_get lv.keep (by rw [← lu.kl]; exact hi))))
  have Q2 := Lib.hid (fun W (h : Below w.heap.size w W) => same_ams_at u.remove v.remove u.remove.length u.rA v.rA u.rc v.rc W (hu.remove.below h) (hv.remove.below h) rfl (by rw [lu.rl, lv.rl]) (by rw [lu.rl]; exact hs.r1) (fun i hi => am_same (am_key_get lu.remove (by rw [← lu.rl]; exact hi)) (am_key_get lv.remove (by rw [← lu.rl]; exact hi))))
  have Q3 := Lib.hid (fun W (h : Below w.heap.size w W) => same_gls_at u.guard v.guard u.guard.length u.gA v.gA u.gc v.gc W (hu.guard.below h) (hv.guard.below h) rfl (by rw [lu.gl, lv.gl]) (by rw [lu.gl]; exact hs.g1) (fun i hi => gl_same (gl_key_get lu.guard (by rw [← lu.gl]; exact hi)) (gl_key_get lv.guard (by rw [← lu.gl]; exact hi))))
  have Q4 := Lib.hid (fun W (h : Below w.heap.size w W) => same_gls_at u.body v.body u.body.length u.bA v.bA u.bc v.bc W (hu.body.below h) (hv.body.below h) rfl (by rw [lu.bl, lv.bl]) (by rw [lu.bl]; exact hs.b1) (fun i hi => gl_same (gl_key_get lu.body (by rw [← lu.bl]; exact hi)) (gl_key_get lv.body (by rw [← lu.bl]; exact hi))))
  have ev : v.val = .agg #[.string u.name, .slice v.kA u.keep.length v.kc, .slice v.rA u.remove.length v.rc, .slice v.gA u.guard.length v.gc, .slice v.bA u.body.length v.bc, .int .i64 u.vars] := by rw [lu.name, lu.vars, lu.kl, lu.rl, lu.gl, lu.bl, ← lv.name, ← lv.vars, ← lv.kl, ← lv.rl, ← lv.gl, ← lv.bl]
  rw [ev]
  clear ev lu lv hs hu hv
  obtain ⟨X, hX⟩ : ∃ X, (w.alloc (.cells #[.string u.name, .slice u.kA u.keep.length u.kc, .slice u.rA u.remove.length u.rc, .slice u.gA u.guard.length u.gc, .slice u.bA u.body.length u.bc, .int .i64 u.vars] 33)).alloc (.cells #[.string u.name, .slice v.kA u.keep.length v.kc, .slice v.rA u.remove.length v.rc, .slice v.gA u.guard.length v.gc, .slice v.bA u.body.length v.bc, .int .i64 u.vars] 33) = X := ⟨_, rfl⟩
  obtain ⟨HB0, HB1⟩ := two_boxesL w [.string u.name, .slice u.kA u.keep.length u.kc, .slice u.rA u.remove.length u.rc, .slice u.gA u.guard.length u.gc, .slice u.bA u.body.length u.bc, .int .i64 u.vars] [.string u.name, .slice v.kA u.keep.length v.kc, .slice v.rA u.remove.length v.rc, .slice v.gA u.guard.length v.gc, .slice v.bA u.body.length v.bc, .int .i64 u.vars] 33
  have H0 := Lib.hid (show HeldL w.heap.size X [.string u.name, .slice u.kA u.keep.length u.kc, .slice u.rA u.remove.length u.rc, .slice u.gA u.guard.length u.gc, .slice u.bA u.body.length u.bc, .int .i64 u.vars] from by rw [← hX]; exact HB0)
  have H1 := Lib.hid (show HeldL (w.heap.size + 1) X [.string u.name, .slice v.kA u.keep.length v.kc, .slice v.rA u.remove.length v.rc, .slice v.gA u.guard.length v.gc, .slice v.bA u.body.length v.bc, .int .i64 u.vars] from by rw [← hX]; exact HB1)
  have HX := Lib.hid (show Ext w X from by rw [← hX]; exact Ext.al2 _ _ _)
  have R1 := Lib.hid (fun W (h : Ext X W) => Q1.out W (Ext.trans HX.out h))
  have R2 := Lib.hid (fun W (h : Ext X W) => Q2.out W (Ext.trans HX.out h))
  have R3 := Lib.hid (fun W (h : Ext X W) => Q3.out W (Ext.trans HX.out h))
  have R4 := Lib.hid (fun W (h : Ext X W) => Q4.out W (Ext.trans HX.out h))
  have a00 := H0.out.cell 0 _ rfl
  have b00 := H1.out.cell 0 _ rfl
  have a05 := H0.out.cell 5 _ rfl
  have b05 := H1.out.cell 5 _ rfl
  have a01 := H0.out.cell 1 _ rfl
  have b01 := H1.out.cell 1 _ rfl
  clear HB0 HB1 Q1 Q2 Q3 Q4
  show Calls Try.prog 16 #[.agg #[.string u.name, .slice u.kA u.keep.length u.kc, .slice u.rA u.remove.length u.rc, .slice u.gA u.guard.length u.gc, .slice u.bA u.body.length u.bc, .int .i64 u.vars], .agg #[.string u.name, .slice v.kA u.keep.length v.kc, .slice v.rA u.remove.length v.rc, .slice v.gA u.guard.length v.gc, .slice v.bA u.body.length v.bc, .int .i64 u.vars]] w _
  go_enter Try.func16, Try.ntmps16
  go_wp2_with fail
  (try rw [hX])
  clear hX
  (with_reducible refine (R1.out X (Ext.refl X)).mono ?_)
  rintro e y1 ⟨rfl, h1⟩
  have E1 := Lib.hid (show Ext X y1 from Ext.trans (Ext.refl X) h1)
  have a12 := (H0.out.below E1.out).cell 2 _ rfl
  have b12 := (H1.out.below E1.out).cell 2 _ rfl
  clear h1
  go_wp2_with fail
  (with_reducible refine (R2.out y1 E1.out).mono ?_)
  rintro e y2 ⟨rfl, h1⟩
  have E2 := Lib.hid (show Ext X y2 from Ext.trans E1.out h1)
  have a23 := (H0.out.below E2.out).cell 3 _ rfl
  have b23 := (H1.out.below E2.out).cell 3 _ rfl
  clear h1
  go_wp2_with fail
  (with_reducible refine (R3.out y2 E2.out).mono ?_)
  rintro e y3 ⟨rfl, h1⟩
  have E3 := Lib.hid (show Ext X y3 from Ext.trans E2.out h1)
  have a34 := (H0.out.below E3.out).cell 4 _ rfl
  have b34 := (H1.out.below E3.out).cell 4 _ rfl
  clear h1
  go_wp2_with fail
  (with_reducible refine (R4.out y3 E3.out).mono ?_)
  rintro e y4 ⟨rfl, h1⟩
  have E4 := Lib.hid (show Ext X y4 from Ext.trans E3.out h1)
  clear h1
  go_wp2_with fail
  go_ret
  exact ⟨rfl, Ext.trans HX.out E4.out⟩

/-! ### The weight of a rule -/
/-- Whether a rule is too great for the statement. -/
def greatR (r : Rl) : Bool := decide ((300 : Int) < (r.name.size : Int) / 8 + (r.keep.length : Int) + (r.remove.length : Int)) || (decide (weighAm r.keep 300 < 0) || (decide (weighAm r.remove 300 < 0) || (decide (weighGl r.guard 300 < 0) || decide (weighGl r.body 300 < 0))))
theorem small_rule {r : Rl} (h : greatR r = false) : r.Small := by
  unfold greatR at h
  simp only [Bool.or_eq_false_iff, decide_eq_false_iff_not, Int.not_lt] at h
  obtain ⟨h0, h1, h2, h3, h4⟩ := h
  have a1 := weighAm_facts _ _ h1
  have a2 := weighAm_facts _ _ h2
  have a3 := weighGl_facts _ _ h3
  have a4 := weighGl_facts _ _ h4
  exact ⟨by omega, fun x hx => by have := a1.2 x hx; omega, by omega, fun x hx => by have := a2.2 x hx; omega, by omega, fun x hx => by have := a3.2 x hx; omega, by omega, fun x hx => by have := a4.2 x hx; omega⟩

theorem great_eq {r : Rl} {q b0 b1 b2 b3 b4 : Bool} (hq : greatR r = q) (e0 : decide ((300 : Int) < wrap64 (wrap64 ((r.name.size : Int) / 8 + (r.keep.length : Int)) + (r.remove.length : Int))) = b0) (e1 : decide (weighAm r.keep 300 < 0) = b1) (e2 : decide (weighAm r.remove 300 < 0) = b2) (e3 : decide (weighGl r.guard 300 < 0) = b3) (e4 : decide (weighGl r.body 300 < 0) = b4) (hn : r.name.size ≤ 9223372036854775807) :
    (b0 || (b1 || (b2 || (b3 || b4)))) = q := by
  by_cases hs : r.keep.length ≤ 300 ∧ r.remove.length ≤ 300
  · have e : decide ((300 : Int) < (r.name.size : Int) / 8 + (r.keep.length : Int) + (r.remove.length : Int)) = b0 := by
      rw [← e0]
      rw [decide_eq_decide]
      unfold wrap64
      omega
    rw [← hq, ← e, ← e1, ← e2, ← e3, ← e4]
    rfl
  · have h0 : decide ((300 : Int) < (r.name.size : Int) / 8 + (r.keep.length : Int) + (r.remove.length : Int)) = true := decide_eq_true (by omega)
    have hq2 : q = true := by rw [← hq]; unfold greatR; rw [h0]; rfl
    have h12 : b1 = true ∨ b2 = true := by
      by_cases hk : r.keep.length ≤ 300
      · right
        rw [← e2]
        refine decide_eq_true (Int.not_le.1 fun h => ?_)
        have := (weighAm_facts _ _ h).1
        omega
      · left
        rw [← e1]
        refine decide_eq_true (Int.not_le.1 fun h => ?_)
        have := (weighAm_facts _ _ h).1
        omega
    rw [hq2]
    rcases h12 with rfl | rfl <;> simp

set_option maxHeartbeats 8000000 in
theorem great_rules_at (r : Rl) (X : World) (h : r.At X) {q : Bool} (hq : greatR r = q) :
    Calls Try.prog 15 #[.slice (some ⟨X.heap.size, 0, none⟩) 1 1, .int .i64 300] (X.alloc (.cells #[.string r.name, .slice r.kA r.keep.length r.kc, .slice r.rA r.remove.length r.rc, .slice r.gA r.guard.length r.gc, .slice r.bA r.body.length r.bc, .int .i64 r.vars] 33)) fun e w' => e = .returned (.bool q) ∧ Ext X w' := by
  have hn := h.name
  have hn2 : r.name.size ≤ 9223372036854775807 := by unfold maxLen at hn; exact hn
  have hk2 := h.keep.len
  have hr2 := h.remove.len
  clear hn
  obtain ⟨b0, e0⟩ : ∃ b, decide ((300 : Int) < wrap64 (wrap64 ((r.name.size : Int) / 8 + (r.keep.length : Int)) + (r.remove.length : Int))) = b := ⟨_, rfl⟩
  obtain ⟨b1, e1⟩ : ∃ b, decide (weighAm r.keep 300 < 0) = b := ⟨_, rfl⟩
  obtain ⟨b2, e2⟩ : ∃ b, decide (weighAm r.remove 300 < 0) = b := ⟨_, rfl⟩
  obtain ⟨b3, e3⟩ : ∃ b, decide (weighGl r.guard 300 < 0) = b := ⟨_, rfl⟩
  obtain ⟨b4, e4⟩ : ∃ b, decide (weighGl r.body 300 < 0) = b := ⟨_, rfl⟩
  have HQ := Lib.hid (great_eq hq e0 e1 e2 e3 e4 hn2)
  have Q1 := Lib.hid (fun W (g : Ext X W) => great_ams_at r.keep r.kA r.kc 300 W (h.keep.below g) (by omega) (by omega) e1)
  have Q2 := Lib.hid (fun W (g : Ext X W) => great_ams_at r.remove r.rA r.rc 300 W (h.remove.below g) (by omega) (by omega) e2)
  have Q3 := Lib.hid (fun W (g : Ext X W) => great_gls_at r.guard r.gA r.gc 300 W (h.guard.below g) (by omega) (by omega) e3)
  have Q4 := Lib.hid (fun W (g : Ext X W) => great_gls_at r.body r.bA r.bc 300 W (h.body.below g) (by omega) (by omega) e4)
  clear hq e1 e2 e3 e4 h
  obtain ⟨Y, hY⟩ : ∃ Y, X.alloc (.cells #[.string r.name, .slice r.kA r.keep.length r.kc, .slice r.rA r.remove.length r.rc, .slice r.gA r.guard.length r.gc, .slice r.bA r.body.length r.bc, .int .i64 r.vars] 33) = Y := ⟨_, rfl⟩
  have HY := Lib.hid (show Ext (X.alloc (.cells #[.string r.name, .slice r.kA r.keep.length r.kc, .slice r.rA r.remove.length r.rc, .slice r.gA r.guard.length r.gc, .slice r.bA r.body.length r.bc, .int .i64 r.vars] 33)) Y from by rw [← hY]; exact Ext.refl _)
  rw [hY]
  clear hY
  go_enter Try.func15, Try.ntmps15
  go_wp2_with fail
  go_loopw [5] (fun i wr => (i = .int .i64 0 ∧ wr = Y) ∨ (i = .int .i64 1 ∧ Hid (Ext Y wr) ∧ Hid (false = q))) (fun i _ => 1 - (intOf i).toNat)
  case atStart => exact .inl ⟨rfl, rfl⟩
  case round =>
    rcases hrel with ⟨rfl, hwr⟩ | ⟨rfl, HF, HE⟩
    · have hwr2 := hwr.symm
      clear hwr
      subst hwr2
      have r00 := ext_row HY.out 0 rfl
      have r01 := ext_row HY.out 1 rfl
      have r02 := ext_row HY.out 2 rfl
      have r03 := ext_row HY.out 3 rfl
      have r04 := ext_row HY.out 4 rfl
      have r05 := ext_row HY.out 5 rfl
      obtain ⟨Z, hZ⟩ : ∃ Z, Y.alloc (.cells #[.string r.name, .slice r.kA r.keep.length r.kc, .slice r.rA r.remove.length r.rc, .slice r.gA r.guard.length r.gc, .slice r.bA r.body.length r.bc, .int .i64 r.vars] 33) = Z := ⟨_, rfl⟩
      have HZ := Lib.hid (show Ext (Y.alloc (.cells #[.string r.name, .slice r.kA r.keep.length r.kc, .slice r.rA r.remove.length r.rc, .slice r.gA r.guard.length r.gc, .slice r.bA r.body.length r.bc, .int .i64 r.vars] 33)) Z from by rw [← hZ]; exact Ext.refl _)
      have XZ := Lib.hid (show Ext X Z from Ext.trans (Ext.trans (Ext.al _ _) HY.out) (Ext.trans (Ext.al _ _) HZ.out))
      have YZ := Lib.hid (show Ext Y Z from Ext.trans (Ext.al _ _) HZ.out)
      have p00 := ext_row HZ.out 0 rfl
      have p01 := ext_row HZ.out 1 rfl
      have p02 := ext_row HZ.out 2 rfl
      cases b0 with
      | true =>
        clear Q1 Q2 Q3 Q4
        go_wp2_with fail
        go_ret
        exact ⟨by rw [← HQ.out]; rfl, Ext.trans XZ.out (Ext.refl Z)⟩
      | false =>
      cases b1 with
      | true =>
        clear Q2 Q3 Q4
        go_wp2_with fail
        (with_reducible refine (Q1.out Z (Ext.trans XZ.out (Ext.refl Z))).mono ?_)
        rintro e z1 ⟨rfl, h1⟩
        have E1 := Lib.hid (show Ext Z z1 from Ext.trans (Ext.refl Z) h1)
        have p12 := ext_row (HZ.out.trans E1.out) 2 rfl
        clear h1
        go_wp2_with fail
        go_ret
        exact ⟨by rw [← HQ.out]; rfl, Ext.trans XZ.out E1.out⟩
      | false =>
      cases b2 with
      | true =>
        clear Q3 Q4
        go_wp2_with fail
        (with_reducible refine (Q1.out Z (Ext.trans XZ.out (Ext.refl Z))).mono ?_)
        rintro e z1 ⟨rfl, h1⟩
        have E1 := Lib.hid (show Ext Z z1 from Ext.trans (Ext.refl Z) h1)
        have p12 := ext_row (HZ.out.trans E1.out) 2 rfl
        clear h1
        go_wp2_with fail
        (with_reducible refine (Q2.out z1 (Ext.trans XZ.out E1.out)).mono ?_)
        rintro e z2 ⟨rfl, h1⟩
        have E2 := Lib.hid (show Ext Z z2 from Ext.trans E1.out h1)
        have p23 := ext_row (HZ.out.trans E2.out) 3 rfl
        clear h1
        go_wp2_with fail
        go_ret
        exact ⟨by rw [← HQ.out]; rfl, Ext.trans XZ.out E2.out⟩
      | false =>
      cases b3 with
      | true =>
        clear Q4
        go_wp2_with fail
        (with_reducible refine (Q1.out Z (Ext.trans XZ.out (Ext.refl Z))).mono ?_)
        rintro e z1 ⟨rfl, h1⟩
        have E1 := Lib.hid (show Ext Z z1 from Ext.trans (Ext.refl Z) h1)
        have p12 := ext_row (HZ.out.trans E1.out) 2 rfl
        clear h1
        go_wp2_with fail
        (with_reducible refine (Q2.out z1 (Ext.trans XZ.out E1.out)).mono ?_)
        rintro e z2 ⟨rfl, h1⟩
        have E2 := Lib.hid (show Ext Z z2 from Ext.trans E1.out h1)
        have p23 := ext_row (HZ.out.trans E2.out) 3 rfl
        clear h1
        go_wp2_with fail
        (with_reducible refine (Q3.out z2 (Ext.trans XZ.out E2.out)).mono ?_)
        rintro e z3 ⟨rfl, h1⟩
        have E3 := Lib.hid (show Ext Z z3 from Ext.trans E2.out h1)
        have p34 := ext_row (HZ.out.trans E3.out) 4 rfl
        clear h1
        go_wp2_with fail
        go_ret
        exact ⟨by rw [← HQ.out]; rfl, Ext.trans XZ.out E3.out⟩
      | false =>
      cases b4 with
      | true =>
        skip
        go_wp2_with fail
        (with_reducible refine (Q1.out Z (Ext.trans XZ.out (Ext.refl Z))).mono ?_)
        rintro e z1 ⟨rfl, h1⟩
        have E1 := Lib.hid (show Ext Z z1 from Ext.trans (Ext.refl Z) h1)
        have p12 := ext_row (HZ.out.trans E1.out) 2 rfl
        clear h1
        go_wp2_with fail
        (with_reducible refine (Q2.out z1 (Ext.trans XZ.out E1.out)).mono ?_)
        rintro e z2 ⟨rfl, h1⟩
        have E2 := Lib.hid (show Ext Z z2 from Ext.trans E1.out h1)
        have p23 := ext_row (HZ.out.trans E2.out) 3 rfl
        clear h1
        go_wp2_with fail
        (with_reducible refine (Q3.out z2 (Ext.trans XZ.out E2.out)).mono ?_)
        rintro e z3 ⟨rfl, h1⟩
        have E3 := Lib.hid (show Ext Z z3 from Ext.trans E2.out h1)
        have p34 := ext_row (HZ.out.trans E3.out) 4 rfl
        clear h1
        go_wp2_with fail
        (with_reducible refine (Q4.out z3 (Ext.trans XZ.out E3.out)).mono ?_)
        rintro e z4 ⟨rfl, h1⟩
        have E4 := Lib.hid (show Ext Z z4 from Ext.trans E3.out h1)
        clear h1
        go_wp2_with fail
        go_ret
        exact ⟨by rw [← HQ.out]; rfl, Ext.trans XZ.out E4.out⟩
      | false =>
        go_wp2_with fail
        (with_reducible refine (Q1.out Z (Ext.trans XZ.out (Ext.refl Z))).mono ?_)
        rintro e z1 ⟨rfl, h1⟩
        have E1 := Lib.hid (show Ext Z z1 from Ext.trans (Ext.refl Z) h1)
        have p12 := ext_row (HZ.out.trans E1.out) 2 rfl
        clear h1
        go_wp2_with fail
        (with_reducible refine (Q2.out z1 (Ext.trans XZ.out E1.out)).mono ?_)
        rintro e z2 ⟨rfl, h1⟩
        have E2 := Lib.hid (show Ext Z z2 from Ext.trans E1.out h1)
        have p23 := ext_row (HZ.out.trans E2.out) 3 rfl
        clear h1
        go_wp2_with fail
        (with_reducible refine (Q3.out z2 (Ext.trans XZ.out E2.out)).mono ?_)
        rintro e z3 ⟨rfl, h1⟩
        have E3 := Lib.hid (show Ext Z z3 from Ext.trans E2.out h1)
        have p34 := ext_row (HZ.out.trans E3.out) 4 rfl
        clear h1
        go_wp2_with fail
        (with_reducible refine (Q4.out z3 (Ext.trans XZ.out E3.out)).mono ?_)
        rintro e z4 ⟨rfl, h1⟩
        have E4 := Lib.hid (show Ext Z z4 from Ext.trans E3.out h1)
        clear h1
        go_wp2_with fail
        go_roundw
        case rel => exact .inr ⟨rfl, Lib.hid (Ext.trans YZ.out E4.out), Lib.hid (by rw [← HQ.out]; rfl)⟩
        case measure => simp [intOf]
    · go_wp2_with fail
      go_ret
      exact ⟨by rw [← HE.out]; rfl, Ext.trans (Ext.trans (Ext.al _ _) HY.out) HF.out⟩
end Go.Proofs.Ytpnjjahimhhjkaa
