/-
  Contracts of whole (at terms, at constraints), Parse and ParseAtom of the program.
-/
import Derived.Test.YtlpibnbabgfiiaaGreatDoorTtChain
import Derived.Test.YtlpibnbabgfiiaaGreatDoorTmAtom
namespace Go.Proofs.YtlpibnbabgfiiaaGreatDoor
open Go.RowKit

/-- How the reading of a whole text ends: a valid term, or an error and the zero term. -/
def Outw (res : PR Tm) (u : Tm) (e : Ending) : Prop :=
  (∃ t, res = .ok t [] ∧ u.strip = t ∧ e = .returned (.tuple #[u.val, .int .i64 0])) ∨ (∃ c : Int, c ≠ 0 ∧ res = .err c ∧ u = intT 0 ∧ e = .returned (.tuple #[u.val, .int .i64 c]))
def Whole (R : Nat) (w : World) (res : PR Tm) (e : Ending) (w' : World) : Prop := ∃ u, Live w.heap.size No w' u ∧ Keeps R w w' ∧ Outw res u e
theorem rest_zero (s : ByteArray) : rest s 0 = s.data.toList := rfl
theorem size_list (s : ByteArray) : s.data.toList.length = s.size := len_str s
theorem parse_size {l : List UInt8} (h : 16384 < l.length) : parseP l = .err 6 ∧ parseA l = .err 6 := by unfold parseP parseA; rw [if_pos h]; exact ⟨rfl, if_pos h⟩
theorem parse_err {l : List UInt8} (h : ¬ 16384 < l.length) {c : Int} (h1 : exprP (l.length + 1) (skip l) = .err c) : parseP l = .err c := by unfold parseP; rw [if_neg h, h1]
theorem parse_more {l : List UInt8} (h : ¬ 16384 < l.length) {t : Tm} {r : List UInt8} (h1 : exprP (l.length + 1) (skip l) = .ok t r) (h2 : r ≠ []) : parseP l = .err 16 := by unfold parseP; rw [if_neg h, h1]; simp only [h2, ne_eq, not_false_eq_true, if_true]
theorem parse_end {l : List UInt8} (h : ¬ 16384 < l.length) {t : Tm} (h1 : exprP (l.length + 1) (skip l) = .ok t []) : parseP l = if t.right then .ok t [] else .err 6 := by unfold parseP; rw [if_neg h, h1]; simp
theorem parsea_err {l : List UInt8} (h : ¬ 16384 < l.length) {c : Int} (h1 : atomP (exprP (l.length + 1)) (skip l) = .err c) : parseA l = .err c := by unfold parseA; rw [if_neg h, h1]
theorem parsea_more {l : List UInt8} (h : ¬ 16384 < l.length) {a : List UInt8} {t : List Tm} {r : List UInt8} (h1 : atomP (exprP (l.length + 1)) (skip l) = .ok (a, t) r) (h2 : r ≠ []) : parseA l = .err 16 := by unfold parseA; rw [if_neg h, h1]; simp only [h2, ne_eq, not_false_eq_true, if_true]
theorem parsea_end {l : List UInt8} (h : ¬ 16384 < l.length) {a : List UInt8} {t : List Tm} (h1 : atomP (exprP (l.length + 1)) (skip l) = .ok (a, t) []) : parseA l = if atomR a t then .ok (a, t) [] else .err 6 := by unfold parseA; rw [if_neg h, h1]; simp
theorem empty_nil {l : List UInt8} {b : Bool} (h : l.isEmpty = b) : b = true → l = [] := by
  intro e; subst e; simpa using h
theorem empty_not {l : List UInt8} {b : Bool} (h : l.isEmpty = b) : b = false → l ≠ [] := by
  intro e h2; subst e; rw [h2] at h; cases h
/-- Two boxes, behind a call. -/
theorem boxK4' {R : Nat} {w w' : World} {o : Obj} {v0 v1 v2 v3 : Value} {T : TypeId} (hR : R < w.heap.size) (hk : Keeps R ((w.alloc o).alloc (.cells #[v0, v1, v2, v3] T)) w') :
    w'.cell? ⟨w.heap.size + 1, 0, none⟩ = some v0 ∧ w'.cell? ⟨w.heap.size + 1, 1, none⟩ = some v1 ∧ w'.cell? ⟨w.heap.size + 1, 2, none⟩ = some v2 ∧ w'.cell? ⟨w.heap.size + 1, 3, none⟩ = some v3 := by
  have h := boxK4 (w := w.alloc o) (by simp; omega) hk
  simp only [World.size_alloc] at h
  exact ⟨h.1, h.2.1, h.2.2.1, h.2.2.2.1⟩
theorem boxK2' {R : Nat} {w w' : World} {o : Obj} {v0 v1 : Value} {T : TypeId} (hR : R < w.heap.size) (hk : Keeps R ((w.alloc o).alloc (.cells #[v0, v1] T)) w') :
    w'.cell? ⟨w.heap.size + 1, 0, none⟩ = some v0 ∧ w'.cell? ⟨w.heap.size + 1, 1, none⟩ = some v1 := by
  have h := boxK2 (w := w.alloc o) (by simp; omega) hk
  simp only [World.size_alloc] at h
  exact ⟨h.1, h.2.1⟩
theorem whole_put {R : Nat} {w W : World} {o : Obj} {u : Tm} {res : PR Tm} {e : Ending} (hk : Keeps R (w.alloc o) W) (hl : Live (w.heap.size + 1) No W u) (ho : Outw res u e)
    {k n : Int} {nm : ByteArray} {A : Option Addr} {l c : Nat} (_hu : u.val = .agg #[.int .i64 k, .int .i64 n, .string nm, .slice A l c]) :
    Whole R w res e ((((W.setCell ⟨w.heap.size, 0, none⟩ (.int .i64 k)).setCell ⟨w.heap.size, 1, none⟩ (.int .i64 n)).setCell ⟨w.heap.size, 2, none⟩ (.string nm)).setCell ⟨w.heap.size, 3, none⟩ (.slice A l c)) :=
  ⟨u, (hl.put4 (b := w.heap.size) (.inl (by omega))).low (by omega), (((Keeps.refl R w).alloc o).trans hk).put4 (Nat.le_refl _), ho⟩

set_option maxHeartbeats 2000000 in
set_option maxRecDepth 10000 in
theorem whole_at (s : ByteArray) (R : Nat) (w : World) (hs : s.size ≤ maxLen) (h : Rd w R s 0) :
    Calls Tryz.prog 42 #[.pointer (some ⟨R, 0, none⟩), .func (.func 43) #[.pointer (some ⟨R, 0, none⟩)] #[], .func (.func 32) #[] #[]] w (Whole R w (parseP s.data.toList)) := by
  have hs' : s.size ≤ 9223372036854775807 := by unfold maxLen at hs; omega
  have hR := h.lt
  have H := Lib.hid h
  have ht : ∀ o o2, ((w.alloc o).alloc o2).cell? ⟨R, 0, none⟩ = some (.string s) := fun o o2 => ((h.alloc o).alloc o2).txt
  clear h
  by_cases hbig : 16384 < s.size
  · have hb : (16384 : Int) < (s.size : Int) := by omega
    have HV := Lib.hid (parse_size (l := s.data.toList) (by rw [size_list]; exact hbig)).1
    clear hbig
    go_enter Tryz.func42, Tryz.ntmps42
    go_wp2_with fail
    refine bodyPost_ret (v := .tuple #[.agg #[.int .i64 0, .int .i64 0, .string ⟨#[]⟩, .slice none 0 0], .int .i64 6]) (by simp [results, Tryz.results42, go_sem]) rfl ?_
    exact ⟨intT 0, Live.any zeroT_at, ((Keeps.refl R w).alloc _).alloc _, .inr ⟨6, by omega, HV.out, rfl, rfl⟩⟩
  · have hb : decide ((16384 : Int) < (s.size : Int)) = false := by simp; omega
    have hsz : s.size ≤ 16384 := by omega
    have HBig := Lib.hid (show ¬ 16384 < s.data.toList.length by rw [size_list]; exact hbig)
    clear hbig
    go_enter Tryz.func42, Tryz.ntmps42
    go_wp2_with fail
    refine (expr_all s hsz (s.size + 1) R 0 _ ((H.out.alloc _).alloc _) (by have := skip_len (rest s 0); rw [rest_len] at this; omega)).mono ?_
    rintro e w1 ⟨u, q, hu, hk, hr, ho⟩
    rw [rest_zero, ← size_list] at ho
    have HK := Lib.hid hk
    have HR := Lib.hid hr
    have HU := Lib.hid (hu.low (lo' := w.heap.size + 1) (by simp))
    have hR1 := hr.lt
    clear hk hr hu
    have hk3 := HK.out.alloc (.cells #[.int .i64 u.kind, .int .i64 u.num, .string u.name, .slice u.at_ u.args.length u.cap] 24)
    obtain ⟨d0, d1, d2, d3⟩ := boxK4' hR hk3
    obtain ⟨c0, c1, c2, c3, f0, f1, f2, f3, hz⟩ := boxK4 hR (((Keeps.refl R _).alloc _).trans hk3)
    rcases ho with ⟨t, ho, hst, rfl⟩ | ⟨c, hc0, ho, rfl⟩
    · have HO := Lib.hid ho
      have HS := Lib.hid hst
      clear ho hst
      clear c0 c1 c2 c3 f0 f1 f2 f3 hz d0 d1 d2 d3 hk3
      go_wp2_with fail
      refine (end_at s R q _ hs (HR.out.alloc _)).mono ?_
      rintro e w2 ⟨q2, b, hq2, hbe, rfl, hk2, hr2⟩
      have hk3 := (HK.out.alloc (.cells #[.int .i64 u.kind, .int .i64 u.num, .string u.name, .slice u.at_ u.args.length u.cap] 24)).trans hk2
      obtain ⟨d0, d1, d2, d3⟩ := boxK4' hR hk3
      obtain ⟨c0, c1, c2, c3, f0, f1, f2, f3, hz⟩ := boxK4 hR (((Keeps.refl R _).alloc _).trans hk3)
      have HBx := Lib.hid ((Box.new w1 u 24).keeps hk2 (by omega))
      have e0 := HBx.out.c0
      have e1 := HBx.out.c1
      have e2 := HBx.out.c2
      have e3 := HBx.out.c3
      rw [hq2] at hbe
      have HB := Lib.hid hbe
      have HK3 := Lib.hid hk3
      have HU2 := Lib.hid ((HU.out.alloc _).keeps hk2 (by omega))
      clear hq2 hbe hk2 hr2 hk3
      cases b
      · have HV := Lib.hid (parse_more HBig.out HO.out (empty_not HB.out rfl))
        go_wp2_with fail
        refine bodyPost_ret (v := .tuple #[.agg #[.int .i64 0, .int .i64 0, .string ⟨#[]⟩, .slice none 0 0], .int .i64 16]) (by simp [results, Tryz.results42, go_sem, c0, c1, c2, c3]) rfl ?_
        exact whole_put (((Keeps.refl R _).alloc _).trans HK3.out) (Live.any zeroT_at) (.inr ⟨16, by omega, HV.out, rfl, rfl⟩) rfl
      · have HV := Lib.hid (parse_end HBig.out (by rw [HO.out, empty_nil HB.out rfl]))
        go_wp2_with fail
        refine (right_tm_at u _ HU2.out.at rfl).mono ?_
        rintro e w3 ⟨rfl, hb3⟩
        have hk4 := HK3.out.trans (Below.keeps hb3 R)
        have hbx := boxK4' hR hk4
        have hcx := boxK4 hR (((Keeps.refl R _).alloc _).trans hk4)
        have hex := HBx.out.below hb3
        clear c0 c1 c2 c3 f0 f1 f2 f3 hz d0 d1 d2 d3 e0 e1 e2 e3
        obtain ⟨d0, d1, d2, d3⟩ := hbx
        obtain ⟨c0, c1, c2, c3, f0, f1, f2, f3, hz⟩ := hcx
        have e0 := hex.c0
        have e1 := hex.c1
        have e2 := hex.c2
        have e3 := hex.c3
        have HU3 := Lib.hid (HU2.out.below hb3)
        have HK4 := Lib.hid hk4
        have HRt := Lib.hid (show u.right = t.right by rw [← right_strip u, HS.out])
        clear hb3 hex hk4
        obtain ⟨b, hb⟩ : ∃ b, u.right = b := ⟨_, rfl⟩
        rw [hb]
        have HB2 := Lib.hid hb
        clear hb
        cases b
        · go_wp2_with fail
          refine bodyPost_ret (v := .tuple #[.agg #[.int .i64 0, .int .i64 0, .string ⟨#[]⟩, .slice none 0 0], .int .i64 6]) (by simp [results, Tryz.results42, go_sem, c0, c1, c2, c3]) rfl ?_
          exact whole_put (((Keeps.refl R _).alloc _).trans HK4.out) (Live.any zeroT_at) (.inr ⟨6, by omega, by rw [HV.out, ← HRt.out, HB2.out]; rfl, rfl, rfl⟩) rfl
        · go_wp2_with fail
          refine bodyPost_ret (v := .tuple #[u.val, .int .i64 0]) (by simp [results, Tryz.results42, go_sem, c0, c1, c2, c3]) rfl ?_
          exact whole_put (((Keeps.refl R _).alloc _).trans HK4.out) HU3.out (.inl ⟨t, by rw [HV.out, ← HRt.out, HB2.out]; rfl, HS.out, rfl⟩) rfl
    · have hc : (c != 0) = true := by simpa using hc0
      have HV := Lib.hid (parse_err HBig.out ho)
      have HC := Lib.hid hc0
      have HK3 := Lib.hid hk3
      clear ho hc0 hk3
      go_wp2_with fail
      refine bodyPost_ret (v := .tuple #[.agg #[.int .i64 0, .int .i64 0, .string ⟨#[]⟩, .slice none 0 0], .int .i64 c]) (by simp [results, Tryz.results42, go_sem, c0, c1, c2, c3]) rfl ?_
      exact whole_put (((Keeps.refl R _).alloc _).trans HK3.out) (Live.any zeroT_at) (.inr ⟨c, HC.out, HV.out, rfl, rfl⟩) rfl

/-! ### Constraints -/
theorem rightL_strip (l : List Tm) : rightL (stripL l) = rightL l := by unfold rightL; rw [form_strip.2, size_strip.2, depth_strip.2]
theorem atomR_B (s : List UInt8) (l : List Tm) : atomR s (stripL l) = atomB s l := by
  show (rightB s && (decide ((stripL l).length ≤ 6) && rightL (stripL l))) = _
  rw [rightL_strip, stripL_len]
  rfl
/-- A list that is empty, or lies in a block. -/
def Fine (l : List Tm) (A : Option Addr) (c : Nat) : Prop := (l = [] ∧ A = none ∧ c = 0) ∨ (0 < l.length ∧ ∃ g, A = some ⟨g, 0, none⟩)
def Outa (res : PR (List UInt8 × List Tm)) (W : ByteArray) (l : List Tm) (A : Option Addr) (c : Nat) (e : Ending) : Prop :=
  (res = .ok (W.data.toList, stripL l) [] ∧ e = .returned (.tuple #[.agg #[.string W, .slice A l.length c], .int .i64 0])) ∨ (∃ k : Int, k ≠ 0 ∧ res = .err k ∧ W = ⟨#[]⟩ ∧ l = [] ∧ A = none ∧ c = 0 ∧ e = .returned (.tuple #[.agg #[.string W, .slice A l.length c], .int .i64 k]))
def WholeA (R : Nat) (w : World) (res : PR (List UInt8 × List Tm)) (e : Ending) (w' : World) : Prop :=
  ∃ W l A c, W.size ≤ 16384 ∧ LiveL w.heap.size No w' A l c ∧ Keeps R w w' ∧ Outa res W l A c e
theorem wholea_put {R : Nat} {w W : World} {o : Obj} {res : PR (List UInt8 × List Tm)} {e : Ending} {S : ByteArray} {l : List Tm} {A : Option Addr} {c : Nat} (hS : S.size ≤ 16384) (hk : Keeps R (w.alloc o) W) (hL : LiveL (w.heap.size + 1) No W A l c) (ho : Outa res S l A c e) :
    WholeA R w res e ((W.setCell ⟨w.heap.size, 0, none⟩ (.string S)).setCell ⟨w.heap.size, 1, none⟩ (.slice A l.length c)) :=
  ⟨S, l, A, c, hS, ((hL.set (p := ⟨w.heap.size, 0, none⟩) (.inl (Nat.lt_succ_self _)) _).set (p := ⟨w.heap.size, 1, none⟩) (.inl (Nat.lt_succ_self _)) _).low (Nat.le_succ _),
    ((((Keeps.refl R w).alloc o).trans hk).own (p := ⟨w.heap.size, 0, none⟩) (Nat.le_refl _) _).own (p := ⟨w.heap.size, 1, none⟩) (Nat.le_refl _) _, ho⟩
theorem LiveL.below2 {lo : Nat} {X : Nat → Prop} {w w' : World} {A : Option Addr} {l : List Tm} {c : Nat} (h : LiveL lo X w A l c) (k : Below w.heap.size w w') : LiveL lo X w' A l c := h.below k

set_option maxHeartbeats 2000000 in
set_option maxRecDepth 10000 in
theorem wholea_at (s : ByteArray) (R : Nat) (w : World) (hs : s.size ≤ maxLen) (h : Rd w R s 0) :
    Calls Tryz.prog 46 #[.pointer (some ⟨R, 0, none⟩), .func (.func 47) #[.pointer (some ⟨R, 0, none⟩)] #[], .func (.func 41) #[] #[]] w (WholeA R w (parseA s.data.toList)) := by
  have hs' : s.size ≤ 9223372036854775807 := by unfold maxLen at hs; omega
  have hR := h.lt
  have H := Lib.hid h
  have ht : ∀ o o2, ((w.alloc o).alloc o2).cell? ⟨R, 0, none⟩ = some (.string s) := fun o o2 => ((h.alloc o).alloc o2).txt
  clear h
  by_cases hbig : 16384 < s.size
  · have hb : (16384 : Int) < (s.size : Int) := by omega
    have HV := Lib.hid (parse_size (l := s.data.toList) (by rw [size_list]; exact hbig)).2
    clear hbig
    go_enter Tryz.func46, Tryz.ntmps46
    go_wp2_with fail
    refine bodyPost_ret (v := .tuple #[.agg #[.string ⟨#[]⟩, .slice none 0 0], .int .i64 6]) (by simp [results, Tryz.results46, go_sem]) rfl ?_
    exact ⟨⟨#[]⟩, [], none, 0, Nat.zero_le _, liveL_nil, ((Keeps.refl R w).alloc _).alloc _, .inr ⟨6, by omega, HV.out, rfl, rfl, rfl, rfl, rfl⟩⟩
  · have hb : decide ((16384 : Int) < (s.size : Int)) = false := by simp; omega
    have hsz : s.size ≤ 16384 := by omega
    have HBig := Lib.hid (show ¬ 16384 < s.data.toList.length by rw [size_list]; exact hbig)
    clear hbig
    go_enter Tryz.func46, Tryz.ntmps46
    go_wp2_with fail
    refine (tt_atom_at s (s.size + 1) (expr_all s hsz _) R 0 _ hsz ((H.out.alloc _).alloc _) (by have := skip_len (rest s 0); rw [rest_len] at this; omega)).mono ?_
    rintro e w1 ⟨W, l, A, c, q, hk, hr, hW, hl, hA, hu, ho⟩
    rw [rest_zero, ← size_list] at ho
    have hR1 := hr.lt
    have HK := Lib.hid hk
    have HR := Lib.hid hr
    have HU := Lib.hid (hu.low (lo' := w.heap.size + 1) (by simp))
    clear hk hr hu hA
    have hk3 := HK.out.alloc (.cells #[.string W, .slice A l.length c] 34)
    obtain ⟨d0, d1⟩ := boxK2' hR hk3
    obtain ⟨c0, c1, f0, f1, hz⟩ := boxK2 hR (((Keeps.refl R _).alloc _).trans hk3)
    rcases ho with ⟨ho, rfl⟩ | ⟨k, hk0, ho, hl0, rfl⟩
    · have HO := Lib.hid ho
      clear ho
      clear c0 c1 f0 f1 hz d0 d1 hk3
      go_wp2_with fail
      refine (end_at s R q _ hs (HR.out.alloc _)).mono ?_
      rintro e w2 ⟨q2, b, hq2, hbe, rfl, hk2, hr2⟩
      have hk3 := (HK.out.alloc (.cells #[.string W, .slice A l.length c] 34)).trans hk2
      obtain ⟨d0, d1⟩ := boxK2' hR hk3
      obtain ⟨c0, c1, f0, f1, hz⟩ := boxK2 hR (((Keeps.refl R _).alloc _).trans hk3)
      obtain ⟨e0, e1, -, -, hz1⟩ := boxK2 hR1 hk2
      rw [hq2] at hbe
      have HB := Lib.hid hbe
      have HK3 := Lib.hid hk3
      have HU2 := Lib.hid ((HU.out.alloc _).keeps hk2 (by omega))
      clear hq2 hbe hk2 hr2 hk3
      cases b
      · have HV := Lib.hid (parsea_more HBig.out HO.out (empty_not HB.out rfl))
        go_wp2_with fail
        refine bodyPost_ret (v := .tuple #[.agg #[.string ⟨#[]⟩, .slice none 0 0], .int .i64 16]) (by simp [results, Tryz.results46, go_sem, c0, c1]) rfl ?_
        exact wholea_put (l := []) (Nat.zero_le _) (((Keeps.refl R _).alloc _).trans HK3.out) liveL_nil (.inr ⟨16, by omega, HV.out, rfl, rfl, rfl, rfl, rfl⟩)
      · have HV := Lib.hid (parsea_end HBig.out (by rw [HO.out, empty_nil HB.out rfl]))
        go_wp2_with fail
        refine (right_atom_at ⟨W, A, c, l⟩ _ ⟨by unfold maxLen; show W.size ≤ _; omega, HU2.out.lst⟩ rfl).mono ?_
        rintro e w3 ⟨rfl, hb3⟩
        have hk4 := HK3.out.trans (Below.keeps hb3 R)
        have hbx := boxK2' hR hk4
        have hcx := boxK2 hR (((Keeps.refl R _).alloc _).trans hk4)
        have e0' : w3.cell? ⟨w1.heap.size, 0, none⟩ = some (.string W) := by rw [hb3.cell (p := ⟨w1.heap.size, 0, none⟩) hz1]; exact e0
        have e1' : w3.cell? ⟨w1.heap.size, 1, none⟩ = some (.slice A l.length c) := by rw [hb3.cell (p := ⟨w1.heap.size, 1, none⟩) hz1]; exact e1
        clear c0 c1 f0 f1 hz d0 d1 e0 e1
        obtain ⟨d0, d1⟩ := hbx
        obtain ⟨c0, c1, f0, f1, hz⟩ := hcx
        have HU3 := Lib.hid (HU2.out.below2 hb3)
        have HK4 := Lib.hid hk4
        clear hb3 hk4
        obtain ⟨b, hb⟩ : ∃ b, atomB W.data.toList l = b := ⟨_, rfl⟩
        simp only [hb]
        have HB2 := Lib.hid (show atomR W.data.toList (stripL l) = b by rw [atomR_B]; exact hb)
        clear hb
        cases b
        · go_wp2_with fail
          refine bodyPost_ret (v := .tuple #[.agg #[.string ⟨#[]⟩, .slice none 0 0], .int .i64 6]) (by simp [results, Tryz.results46, go_sem, c0, c1]) rfl ?_
          exact wholea_put (l := []) (Nat.zero_le _) (((Keeps.refl R _).alloc _).trans HK4.out) liveL_nil (.inr ⟨6, by omega, by rw [HV.out, HB2.out]; rfl, rfl, rfl, rfl, rfl, rfl⟩)
        · go_wp2_with fail
          refine bodyPost_ret (v := .tuple #[.agg #[.string W, .slice A l.length c], .int .i64 0]) (by simp [results, Tryz.results46, go_sem, c0, c1]) rfl ?_
          exact wholea_put hW (((Keeps.refl R _).alloc _).trans HK4.out) HU3.out (.inl ⟨by rw [HV.out, HB2.out]; rfl, rfl⟩)
    · have hc : (k != 0) = true := by simpa using hk0
      have HV := Lib.hid (parsea_err HBig.out ho)
      have HC := Lib.hid hk0
      have HK3 := Lib.hid hk3
      clear ho hk0 hk3 hl0
      go_wp2_with fail
      refine bodyPost_ret (v := .tuple #[.agg #[.string ⟨#[]⟩, .slice none 0 0], .int .i64 k]) (by simp [results, Tryz.results46, go_sem, c0, c1]) rfl ?_
      exact wholea_put (l := []) (Nat.zero_le _) (((Keeps.refl R _).alloc _).trans HK3.out) liveL_nil (.inr ⟨k, HC.out, HV.out, rfl, rfl, rfl, rfl, rfl⟩)

/-! ### Parse and ParseAtom -/
theorem rd_new (s : ByteArray) (w : World) (o : Obj) (T : TypeId) (hL : Laid w) : Rd ((w.alloc o).alloc (.cells #[.string s, .int .i64 0] T)) (w.heap.size + 1) s 0 := by
  have hz : w.heap.size + 1 = (w.alloc o).heap.size := by simp
  refine ⟨by simp, ?_, ?_, ?_, Nat.zero_le _, ⟨w, hL, by omega, ((Below.refl _ _).alloc (Nat.le_refl _) _).alloc (by simp) _⟩⟩
  · rw [World.cell?_alloc_at _ _ _ _ hz]; rfl
  · rw [World.cell?_alloc_at _ _ _ _ hz]; rfl
  · rw [World.frozen?_alloc_at _ _ _ _ hz]
/-- The result's box, which lies ahead of the reader's. -/
theorem boxP {w w' : World} {cs : Array Value} {T : TypeId} {o : Obj} (hk : Keeps (w.heap.size + 1) ((w.alloc (.cells cs T)).alloc o) w') :
    (∀ j v, cs[j]? = some v → w'.cell? ⟨w.heap.size, j, none⟩ = some v) ∧ (∀ j, w'.frozen? ⟨w.heap.size, j, none⟩ = false) ∧ w.heap.size < w'.heap.size := by
  have hs := hk.size
  simp only [World.size_alloc] at hs
  have hb := below1 (w.alloc (.cells cs T)) o
  refine ⟨fun j v h => ?_, fun j => ?_, by omega⟩
  · rw [hk.cell (p := ⟨w.heap.size, j, none⟩) (by simp; omega) (by simp only; omega), hb.cell (p := ⟨w.heap.size, j, none⟩) (by simp), World.cell?_alloc_at _ _ _ _ rfl, h]
  · rw [hk.frozen (p := ⟨w.heap.size, j, none⟩) (by simp; omega) (by simp only; omega), hb.frozen (p := ⟨w.heap.size, j, none⟩) (by simp), World.frozen?_alloc_at _ _ _ _ rfl]
/-- What Parse answers. -/
def Answer (w : World) (res : PR Tm) (e : Ending) (w' : World) : Prop := ∃ u, u.At w' ∧ Below w.heap.size w w' ∧ Outw res u e
def AnswerA (w : World) (res : PR (List UInt8 × List Tm)) (e : Ending) (w' : World) : Prop := ∃ W l A c, W.size ≤ 16384 ∧ Lst w' A l c ∧ Below w.heap.size w w' ∧ Outa res W l A c e

set_option maxHeartbeats 1000000 in
theorem parse_at (s : ByteArray) (w : World) (hs : s.size ≤ maxLen) (hL : Laid w) : Calls Tryz.prog 18 #[.string s] w (Answer w (parseP s.data.toList)) := by
  have Q := Lib.hid (fun o T => whole_at s (w.heap.size + 1) _ hs (rd_new s w o T hL))
  clear hL hs
  go_enter Tryz.func18, Tryz.ntmps18
  go_wp2_with fail
  refine (Q.out _ _).mono ?_
  rintro e w2 ⟨u, hu, hk, ho⟩
  obtain ⟨hc, hf, hz⟩ := boxP hk
  have c0 := hc 0 _ rfl
  have c1 := hc 1 _ rfl
  have c2 := hc 2 _ rfl
  have c3 := hc 3 _ rfl
  have f0 := hf 0
  have f1 := hf 1
  have f2 := hf 2
  have f3 := hf 3
  have HB := Lib.hid (Keeps.below (a := w) (((Below.refl _ _).alloc (Nat.le_refl _) _).alloc (by simp) _) hk (by omega))
  have HU := Lib.hid (show Live (w.heap.size + 1) No w2 u from hu.low (by simp))
  have HO : ∃ c : Int, e = .returned (.tuple #[u.val, .int .i64 c]) := by
    rcases ho with ⟨_, _, _, he⟩ | ⟨c, _, _, _, he⟩
    · exact ⟨0, he⟩
    · exact ⟨c, he⟩
  obtain ⟨c, rfl⟩ := HO
  have HOut := Lib.hid ho
  clear hc hf hk hu ho
  go_wp2_with fail
  refine bodyPost_ret (v := .tuple #[u.val, .int .i64 c]) (by simp [results, Tryz.results18, go_sem, c0, c1, c2, c3]) rfl ?_
  exact ⟨u, (HU.out.put4 (b := w.heap.size) (.inl (Nat.lt_succ_self _))).at, (((HB.out.setCell (p := ⟨w.heap.size, 0, none⟩) (Nat.le_refl _) _).setCell (p := ⟨w.heap.size, 1, none⟩) (Nat.le_refl _) _).setCell (p := ⟨w.heap.size, 2, none⟩) (Nat.le_refl _) _).setCell (p := ⟨w.heap.size, 3, none⟩) (Nat.le_refl _) _, HOut.out⟩

set_option maxHeartbeats 1000000 in
theorem parsea_at (s : ByteArray) (w : World) (hs : s.size ≤ maxLen) (hL : Laid w) : Calls Tryz.prog 20 #[.string s] w (AnswerA w (parseA s.data.toList)) := by
  have Q := Lib.hid (fun o T => wholea_at s (w.heap.size + 1) _ hs (rd_new s w o T hL))
  clear hL hs
  go_enter Tryz.func20, Tryz.ntmps20
  go_wp2_with fail
  refine (Q.out _ _).mono ?_
  rintro e w2 ⟨W, l, A, c, hW, hu, hk, ho⟩
  obtain ⟨hc, hf, hz⟩ := boxP hk
  have c0 := hc 0 _ rfl
  have c1 := hc 1 _ rfl
  have f0 := hf 0
  have f1 := hf 1
  have HB := Lib.hid (Keeps.below (a := w) (((Below.refl _ _).alloc (Nat.le_refl _) _).alloc (by simp) _) hk (by omega))
  have HU := Lib.hid (show LiveL (w.heap.size + 1) No w2 A l c from hu.low (by simp))
  have HO : ∃ k : Int, e = .returned (.tuple #[.agg #[.string W, .slice A l.length c], .int .i64 k]) := by
    rcases ho with ⟨_, he⟩ | ⟨k, _, _, _, _, _, _, he⟩
    · exact ⟨0, he⟩
    · exact ⟨k, he⟩
  obtain ⟨k, rfl⟩ := HO
  have HOut := Lib.hid ho
  clear hc hf hk hu ho
  go_wp2_with fail
  refine bodyPost_ret (v := .tuple #[.agg #[.string W, .slice A l.length c], .int .i64 k]) (by simp [results, Tryz.results20, go_sem, c0, c1]) rfl ?_
  exact ⟨W, l, A, c, hW, ((HU.out.set (p := ⟨w.heap.size, 0, none⟩) (.inl (Nat.lt_succ_self _)) _).set (p := ⟨w.heap.size, 1, none⟩) (.inl (Nat.lt_succ_self _)) _).lst, (HB.out.setCell (p := ⟨w.heap.size, 0, none⟩) (Nat.le_refl _) _).setCell (p := ⟨w.heap.size, 1, none⟩) (Nat.le_refl _) _, HOut.out⟩
end Go.Proofs.YtlpibnbabgfiiaaGreatDoor
