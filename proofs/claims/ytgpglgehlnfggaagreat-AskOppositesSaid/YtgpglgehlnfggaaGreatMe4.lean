/-
  TmCmp.
  TmOrd.
-/
import Derived.Test.YtgpglgehlnfggaaGreatMe2
import Derived.BigQuiet
import Derived.Lib.QuietBelow
import Derived.Lib.Bytealg
namespace Go.Proofs.YtgpglgehlnfggaaGreat
open Go.RowKit Go.Sort
theorem texts_bytes (a b : List UInt8) : Lib.compareBytes a b = texts a b := by
  induction a generalizing b with
  | nil => cases b <;> simp [Lib.compareBytes, texts, Op.bytesLess]
  | cons x r ih =>
    cases b with
    | nil => simp [Lib.compareBytes, texts, Op.bytesLess]
    | cons y q =>
      rw [texts_cons, ← ih q, Lib.compareBytes]
      unfold lex
      rcases Nat.lt_trichotomy x.toNat y.toNat with h | h | h
      · rw [if_pos (UInt8.lt_iff_toNat_lt.2 h), ints_lt (by omega)]; rfl
      · rw [if_neg (fun e => by rw [UInt8.lt_iff_toNat_lt] at e; omega), if_neg (fun e => by rw [UInt8.lt_iff_toNat_lt] at e; omega), h, ints_self]; rfl
      · rw [if_neg (fun e => by rw [UInt8.lt_iff_toNat_lt] at e; omega), if_pos (UInt8.lt_iff_toNat_lt.2 h), ints_gt (by omega)]; rfl
theorem less_eq {a b : List UInt8} (h1 : Op.bytesLess a b = false) (h2 : Op.bytesLess b a = false) : a = b := by
  induction a generalizing b with
  | nil => cases b <;> simp [Op.bytesLess] at *
  | cons x r ih =>
    cases b with
    | nil => simp [Op.bytesLess] at h2
    | cons y q =>
      simp only [Op.bytesLess, Bool.or_eq_false_iff, Bool.and_eq_false_iff, decide_eq_false_iff_not, beq_eq_false_iff_ne, UInt8.lt_iff_toNat_lt] at h1 h2
      have e : x = y := UInt8.toNat_inj.1 (by omega)
      subst e
      rw [ih (h1.2.resolve_left (fun h => h rfl)) (h2.2.resolve_left (fun h => h rfl))]
theorem nan_at (x : Int) (w : World) : Calls Tryz.prog 119 #[.int .i64 x] w fun e w' => e = .returned (.bool false) ∧ w = w' := by
  go_enter Tryz.func119, Tryz.ntmps119
  go_wp2
  go_ret
  exact ⟨ret_bool (by simp), rfl⟩
theorem cmp_int_at (x y : Int) (w : World) {r : Int} (hr : ints x y = r) : Calls Tryz.prog 76 #[.int .i64 x, .int .i64 y] w fun e w' => e = .returned (.int .i64 r) ∧ w = w' := by
  have q1 := Lib.hid (nan_at x)
  have q2 := Lib.hid (nan_at y)
  have HV := Lib.hid hr
  clear hr
  by_cases h1 : x < y
  · have HE := Lib.hid (ints_lt h1)
    go_enter Tryz.func76, Tryz.ntmps76
    go_wp2_with fail
    refine (q1.out _).mono ?_
    rintro e w' ⟨rfl, rfl⟩
    go_wp2_with fail
    refine (q2.out _).mono ?_
    rintro e w' ⟨rfl, rfl⟩
    go_wp2_with fail
    go_ret
    exact ⟨by rw [← HV.out, HE.out]; rfl, rfl⟩
  · have h1' : decide (x < y) = false := by simpa using h1
    by_cases h2 : y < x
    · have HE := Lib.hid (ints_gt h2)
      clear h1
      go_enter Tryz.func76, Tryz.ntmps76
      go_wp2_with fail
      refine (q1.out _).mono ?_
      rintro e w' ⟨rfl, rfl⟩
      go_wp2_with fail
      refine (q2.out _).mono ?_
      rintro e w' ⟨rfl, rfl⟩
      go_wp2_with fail
      go_ret
      exact ⟨by rw [← HV.out, HE.out]; rfl, rfl⟩
    · have h2' : decide (y < x) = false := by simpa using h2
      have HE := Lib.hid (show ints x y = 0 by have e : x = y := by omega
                                               rw [e, ints_self])
      clear h1 h2
      go_enter Tryz.func76, Tryz.ntmps76
      go_wp2_with fail
      refine (q1.out _).mono ?_
      rintro e w' ⟨rfl, rfl⟩
      go_wp2_with fail
      refine (q2.out _).mono ?_
      rintro e w' ⟨rfl, rfl⟩
      go_wp2_with fail
      go_ret
      exact ⟨by rw [← HV.out, HE.out]; rfl, rfl⟩
theorem ref_ints_at (x y : Int) (w : World) {r : Int} (hr : ints x y = r) : Calls Tryz.prog 102 #[.int .i64 x, .int .i64 y] w fun e w' => e = .returned (.int .i64 r) ∧ w = w' := by
  have HV := Lib.hid hr
  clear hr
  by_cases h1 : x < y
  · have HE := Lib.hid (ints_lt h1)
    go_enter Tryz.func102, Tryz.ntmps102
    go_wp2_with fail
    go_ret
    exact ⟨by rw [← HV.out, HE.out]; rfl, rfl⟩
  · have h1' : decide (x < y) = false := by simpa using h1
    by_cases h2 : y < x
    · have HE := Lib.hid (ints_gt h2)
      clear h1
      go_enter Tryz.func102, Tryz.ntmps102
      go_wp2_with fail
      go_ret
      exact ⟨by rw [← HV.out, HE.out]; rfl, rfl⟩
    · have h2' : decide (y < x) = false := by simpa using h2
      have HE := Lib.hid (show ints x y = 0 by have e : x = y := by omega
                                               rw [e, ints_self])
      clear h1 h2
      go_enter Tryz.func102, Tryz.ntmps102
      go_wp2_with fail
      go_ret
      exact ⟨by rw [← HV.out, HE.out]; rfl, rfl⟩
set_option maxRecDepth 100000 in
theorem bytes_at (a b : ByteArray) (w : World) : Calls Tryz.prog 120 #[.string a, .string b] w fun e w' => e = .returned (.int .i64 (texts a.data.toList b.data.toList)) ∧ w = w' := by
  go_enter Tryz.func120, Tryz.ntmps120
  go_wp2
  rw [run_callFunc_extern Tryz.func153 (by kernel_rfl) (by kernel_rfl) (by kernel_rfl) (e := Extern.BytealgCompare.compare) (by kernel_rfl), Lib.run_compareString]
  simp only [Result.andThen]
  rw [Oper.upon_value]
  go_wp2
  go_ret
  exact ⟨ret_int (texts_bytes _ _), rfl⟩
theorem str_cmp_at (a b : ByteArray) (w : World) {r : Int} (hr : texts a.data.toList b.data.toList = r) : Calls Tryz.prog 77 #[.string a, .string b] w fun e w' => e = .returned (.int .i64 r) ∧ w = w' := by
  subst hr
  have q := Lib.hid (bytes_at a b)
  go_enter Tryz.func77, Tryz.ntmps77
  go_wp2_with fail
  refine (q.out _).mono ?_
  rintro e w' ⟨rfl, rfl⟩
  go_wp2_with fail
  go_ret
  exact ⟨rfl, rfl⟩
theorem ref_texts_at (a b : ByteArray) (w : World) {r : Int} (hr : texts a.data.toList b.data.toList = r) : Calls Tryz.prog 104 #[.string a, .string b] w fun e w' => e = .returned (.int .i64 r) ∧ w = w' := by
  have HV := Lib.hid hr
  clear hr
  have z := texts_tri a.data.toList b.data.toList a.data.toList
  rw [texts_self] at z
  obtain ⟨b1, h1⟩ : ∃ c, Op.bytesLess a.data.toList b.data.toList = c := ⟨_, rfl⟩
  obtain ⟨b2, h2⟩ : ∃ c, Op.bytesLess b.data.toList a.data.toList = c := ⟨_, rfl⟩
  have e1 : Op.bytesLess a.toList b.toList = b1 := by rw [raw_list, raw_list, h1]
  have e2 : Op.bytesLess b.toList a.toList = b2 := by rw [raw_list, raw_list, h2]
  obtain ⟨b3, e3⟩ : ∃ c, (a.toList == b.toList) = c := ⟨_, rfl⟩
  have HT := Lib.hid (show (!b1 && !b3) = (!b1 && b2) by
    cases b1
    · simp only [texts, h1, h2] at z
      cases b3
      · cases b2
        · exfalso
          have hne : a.data.toList ≠ b.data.toList := by
            intro e
            rw [raw_list, raw_list, e] at e3
            simp at e3
          exact hne (less_eq h1 h2)
        · rfl
      · have e : a.data.toList = b.data.toList := by rw [raw_list, raw_list] at e3; simpa using e3
        rw [e, bytesLess_self] at h2
        rw [← h2]; rfl
    · rfl)
  have HE := Lib.hid (show texts a.data.toList b.data.toList = if b1 then -1 else if b2 then 1 else 0 by unfold texts; rw [h1, h2])
  clear h1 h2 z
  cases b1
  · cases b3
    · obtain rfl : b2 = true := by simpa using HT.out
      clear e2
      go_enter Tryz.func104, Tryz.ntmps104
      go_wp2_with fail
      go_ret
      exact ⟨by rw [← HV.out, HE.out]; rfl, rfl⟩
    · obtain rfl : b2 = false := by simpa using HT.out
      clear e2
      go_enter Tryz.func104, Tryz.ntmps104
      go_wp2_with fail
      go_ret
      exact ⟨by rw [← HV.out, HE.out]; rfl, rfl⟩
  · clear e2 e3
    go_enter Tryz.func104, Tryz.ntmps104
    go_wp2_with fail
    go_ret
    exact ⟨by rw [← HV.out, HE.out]; rfl, rfl⟩
theorem rank_at (t : Tm) (w : World) {r : Int} (hr : cls t.kind = r) : Calls Tryz.prog 121 #[t.val] w fun e w' => e = .returned (.int .i64 r) ∧ Below w.heap.size w w' := by
  obtain ⟨k, n, s, A, c, a⟩ := t
  show Calls Tryz.prog 121 #[.agg #[.int .i64 k, .int .i64 n, .string s, .slice A a.length c]] w _
  have HV := Lib.hid (show cls k = r from hr)
  clear hr
  by_cases h1 : k = 1
  · subst h1
    have HE := Lib.hid (show cls 1 = 0 by simp [cls])
    go_enter Tryz.func121, Tryz.ntmps121
    go_wp2_with fail
    go_ret
    exact ⟨by rw [← HV.out, HE.out]; rfl, (Below.refl _ _).alloc (Nat.le_refl _) _⟩
  have e1 : (k == 1) = false := by simp [h1]
  by_cases h0 : k = 0
  · subst h0
    have HE := Lib.hid (show cls 0 = 1 by simp [cls])
    go_enter Tryz.func121, Tryz.ntmps121
    go_wp2_with fail
    go_ret
    exact ⟨by rw [← HV.out, HE.out]; rfl, (Below.refl _ _).alloc (Nat.le_refl _) _⟩
  have e0 : (k == 0) = false := by simp [h0]
  by_cases h2 : k = 2
  · subst h2
    have HE := Lib.hid (show cls 2 = 2 by simp [cls])
    go_enter Tryz.func121, Tryz.ntmps121
    go_wp2_with fail
    go_ret
    exact ⟨by rw [← HV.out, HE.out]; rfl, (Below.refl _ _).alloc (Nat.le_refl _) _⟩
  have e2 : (k == 2) = false := by simp [h2]
  have HE := Lib.hid (show cls k = 3 by simp [cls, h1, h0, h2])
  clear h0 h1 h2
  go_enter Tryz.func121, Tryz.ntmps121
  go_wp2_with fail
  go_ret
  exact ⟨by rw [← HV.out, HE.out]; rfl, (Below.refl _ _).alloc (Nat.le_refl _) _⟩
theorem class_at (t : Tm) (w : World) {r : Int} (hr : cls t.kind = r) : Calls Tryz.prog 103 #[t.val] w fun e w' => e = .returned (.int .i64 r) ∧ Below w.heap.size w w' := by
  obtain ⟨k, n, s, A, c, a⟩ := t
  show Calls Tryz.prog 103 #[.agg #[.int .i64 k, .int .i64 n, .string s, .slice A a.length c]] w _
  have HV := Lib.hid (show cls k = r from hr)
  clear hr
  by_cases h1 : k = 1
  · subst h1
    have HE := Lib.hid (show cls 1 = 0 by simp [cls])
    go_enter Tryz.func103, Tryz.ntmps103
    go_wp2_with fail
    go_ret
    exact ⟨by rw [← HV.out, HE.out]; rfl, (Below.refl _ _).alloc (Nat.le_refl _) _⟩
  have e1 : (k == 1) = false := by simp [h1]
  by_cases h0 : k = 0
  · subst h0
    have HE := Lib.hid (show cls 0 = 1 by simp [cls])
    go_enter Tryz.func103, Tryz.ntmps103
    go_wp2_with fail
    go_ret
    exact ⟨by rw [← HV.out, HE.out]; rfl, (Below.refl _ _).alloc (Nat.le_refl _) _⟩
  have e0 : (k == 0) = false := by simp [h0]
  by_cases h2 : k = 2
  · subst h2
    have HE := Lib.hid (show cls 2 = 2 by simp [cls])
    go_enter Tryz.func103, Tryz.ntmps103
    go_wp2_with fail
    go_ret
    exact ⟨by rw [← HV.out, HE.out]; rfl, (Below.refl _ _).alloc (Nat.le_refl _) _⟩
  have e2 : (k == 2) = false := by simp [h2]
  have HE := Lib.hid (show cls k = 3 by simp [cls, h1, h0, h2])
  clear h0 h1 h2
  go_enter Tryz.func103, Tryz.ntmps103
  go_wp2_with fail
  go_ret
  exact ⟨by rw [← HV.out, HE.out]; rfl, (Below.refl _ _).alloc (Nat.le_refl _) _⟩
end Go.Proofs.YtgpglgehlnfggaaGreat
namespace Go.Proofs.YtgpglgehlnfggaaGreat
open Go.RowKit Go.Sort
theorem box8 {w w' : World} {v0 v1 v2 v3 u0 u1 u2 u3 : Value} {T : TypeId}
    (hb : Below ((w.alloc (.cells #[v0, v1, v2, v3] T)).alloc (.cells #[u0, u1, u2, u3] T)).heap.size ((w.alloc (.cells #[v0, v1, v2, v3] T)).alloc (.cells #[u0, u1, u2, u3] T)) w') :
    (w'.cell? ⟨w.heap.size, 0, none⟩ = some v0 ∧ w'.cell? ⟨w.heap.size, 1, none⟩ = some v1 ∧ w'.cell? ⟨w.heap.size, 2, none⟩ = some v2 ∧ w'.cell? ⟨w.heap.size, 3, none⟩ = some v3) ∧
    (w'.cell? ⟨w.heap.size + 1, 0, none⟩ = some u0 ∧ w'.cell? ⟨w.heap.size + 1, 1, none⟩ = some u1 ∧ w'.cell? ⟨w.heap.size + 1, 2, none⟩ = some u2 ∧ w'.cell? ⟨w.heap.size + 1, 3, none⟩ = some u3) ∧ Below w.heap.size w w' := by
  have hz : (w.alloc (.cells #[v0, v1, v2, v3] T)).heap.size = w.heap.size + 1 := by simp
  have h : ∀ j, w'.cell? ⟨w.heap.size, j, none⟩ = (#[v0, v1, v2, v3] : Array Value)[j]? := fun j => by
    rw [hb.cell (p := ⟨w.heap.size, j, none⟩) (by simp; omega), World.cell?_alloc_lt _ _ _ (by simp), World.cell?_alloc_at _ _ _ _ rfl]
  have g : ∀ j, w'.cell? ⟨w.heap.size + 1, j, none⟩ = (#[u0, u1, u2, u3] : Array Value)[j]? := fun j => by
    rw [hb.cell (p := ⟨w.heap.size + 1, j, none⟩) (by simp), World.cell?_alloc_at _ _ _ _ hz.symm]
  exact ⟨⟨h 0, h 1, h 2, h 3⟩, ⟨g 0, g 1, g 2, g 3⟩, (((Below.refl _ _).alloc (Nat.le_refl _) _).alloc (by simp) _).trans (hb.mono (by simp; omega))⟩
theorem below2 (w : World) (o p : Obj) : Below w.heap.size w ((w.alloc o).alloc p) := ((Below.refl _ _).alloc (Nat.le_refl _) _).alloc (by simp) _
theorem lex_zero (y : Int) : lex 0 y = y := by simp [lex]
theorem lex_ne {x : Int} (h : x ≠ 0) (y : Int) : lex x y = x := by simp [lex, h]
set_option maxHeartbeats 1000000 in
theorem unknown_at (t u : Tm) (w : World) {r : Int} (hr : lex (ints t.kind u.kind) (lex (ints t.num u.num) (texts t.name.data.toList u.name.data.toList)) = r) :
    Calls Tryz.prog 123 #[t.val, u.val] w fun e w' => e = .returned (.int .i64 r) ∧ Below w.heap.size w w' := by
  obtain ⟨k, n, s, A, c, a⟩ := t
  obtain ⟨k', n', s', A', c', a'⟩ := u
  simp only [Tm.kind, Tm.num, Tm.name] at hr
  show Calls Tryz.prog 123 #[.agg #[.int .i64 k, .int .i64 n, .string s, .slice A a.length c], .agg #[.int .i64 k', .int .i64 n', .string s', .slice A' a'.length c']] w _
  obtain ⟨z1, h1⟩ : ∃ z, ints k k' = z := ⟨_, rfl⟩
  obtain ⟨z2, h2⟩ : ∃ z, ints n n' = z := ⟨_, rfl⟩
  obtain ⟨z3, h3⟩ : ∃ z, texts s.data.toList s'.data.toList = z := ⟨_, rfl⟩
  have q1 := Lib.hid (fun W => cmp_int_at k k' W h1)
  have q2 := Lib.hid (fun W => cmp_int_at n n' W h2)
  have q3 := Lib.hid (fun W => str_cmp_at s s' W h3)
  rw [h1, h2, h3] at hr
  clear h1 h2 h3
  by_cases e1 : z1 = 0
  · subst e1
    rw [lex_zero] at hr
    by_cases e2 : z2 = 0
    · subst e2
      rw [lex_zero] at hr
      subst hr
      go_enter Tryz.func123, Tryz.ntmps123
      go_wp2_with fail
      refine (q1.out _).mono ?_
      rintro e w' ⟨rfl, rfl⟩
      go_wp2_with fail
      refine (q2.out _).mono ?_
      rintro e w' ⟨rfl, rfl⟩
      go_wp2_with fail
      refine (q3.out _).mono ?_
      rintro e w' ⟨rfl, rfl⟩
      go_wp2_with fail
      go_ret
      exact ⟨rfl, below2 _ _ _⟩
    · rw [lex_ne e2] at hr
      subst hr
      have e2' : (z2 != 0) = true := by simpa using e2
      go_enter Tryz.func123, Tryz.ntmps123
      go_wp2_with fail
      refine (q1.out _).mono ?_
      rintro e w' ⟨rfl, rfl⟩
      go_wp2_with fail
      refine (q2.out _).mono ?_
      rintro e w' ⟨rfl, rfl⟩
      go_wp2_with fail
      go_ret
      exact ⟨rfl, below2 _ _ _⟩
  · rw [lex_ne e1] at hr
    subst hr
    have e1' : (z1 != 0) = true := by simpa using e1
    go_enter Tryz.func123, Tryz.ntmps123
    go_wp2_with fail
    refine (q1.out _).mono ?_
    rintro e w' ⟨rfl, rfl⟩
    go_wp2_with fail
    go_ret
    exact ⟨rfl, below2 _ _ _⟩
abbrev cmpFn : Value := .func (.func 79) #[] #[]
def CmpAt (x : Tm) : Prop := ∀ (u : Tm) (w : World), x.At w → u.At w → Calls Tryz.prog 79 #[x.val, u.val] w fun e w' => e = .returned (.int .i64 (cmpT x u)) ∧ Below w.heap.size w w'
theorem cmpL_next {l m : List Tm} {j : Nat} (hl : j < l.length) (hm : j < m.length) (h : cmpL (l.take j) (m.take j) = 0) : cmpL (l.take (j + 1)) (m.take (j + 1)) = cmpT (l.getD j default) (m.getD j default) := by
  induction j generalizing l m with
  | zero =>
    cases l with
    | nil => simp at hl
    | cons x r => cases m with
      | nil => simp at hm
      | cons y q => simp [cmpL, lex]; omega
  | succ j ih =>
    cases l with
    | nil => simp at hl
    | cons x r => cases m with
      | nil => simp at hm
      | cons y q =>
        simp only [List.take_succ_cons, cmpL] at h ⊢
        have hx : cmpT x y = 0 := by unfold lex at h; split at h <;> assumption
        rw [hx, lex_zero] at h ⊢
        simpa using ih (by simpa using hl) (by simpa using hm) h
theorem cmpL_stop {l m : List Tm} {j : Nat} (hl : j < l.length) (hm : j < m.length) (h : cmpL (l.take j) (m.take j) = 0) (hx : cmpT (l.getD j default) (m.getD j default) ≠ 0) : cmpL l m = cmpT (l.getD j default) (m.getD j default) := by
  induction j generalizing l m with
  | zero =>
    cases l with
    | nil => simp at hl
    | cons x r => cases m with
      | nil => simp at hm
      | cons y q =>
        simp only [List.getD_cons_zero] at hx ⊢
        simp only [cmpL]
        exact lex_ne hx _
  | succ j ih =>
    cases l with
    | nil => simp at hl
    | cons x r => cases m with
      | nil => simp at hm
      | cons y q =>
        simp only [List.take_succ_cons, cmpL] at h
        have hz : cmpT x y = 0 := by unfold lex at h; split at h <;> assumption
        rw [hz, lex_zero] at h
        simp only [List.getD_cons_succ] at hx ⊢
        simp only [cmpL]
        rw [hz, lex_zero]
        exact ih (by simpa using hl) (by simpa using hm) h hx
theorem cmpL_end {l m : List Tm} {j : Nat} (hj : j = l.length ∨ j = m.length) (hl : j ≤ l.length) (hm : j ≤ m.length) (h : cmpL (l.take j) (m.take j) = 0) : cmpL l m = ints l.length m.length := by
  induction j generalizing l m with
  | zero =>
    cases l with
    | nil => cases m with
      | nil => simp [cmpL, ints]
      | cons y q => rw [ints_lt (by simp)]; rfl
    | cons x r => cases m with
      | nil => rw [ints_gt (by simp)]; rfl
      | cons y q => simp at hj
  | succ j ih =>
    cases l with
    | nil => simp at hl
    | cons x r => cases m with
      | nil => simp at hm
      | cons y q =>
        simp only [List.take_succ_cons, cmpL] at h ⊢
        have hz : cmpT x y = 0 := by unfold lex at h; split at h <;> assumption
        rw [hz, lex_zero] at h ⊢
        rw [ih (by simpa using hj) (by simpa using hl) (by simpa using hm) h]
        unfold ints
        simp
set_option maxHeartbeats 1000000 in
theorem cmp_lists_at (l m : List Tm) (ih : ∀ x ∈ l, CmpAt x) (A B : Option Addr) (c d : Nat) (w : World) (hl : Lst w A l c) (hm : Lst w B m d) :
    Calls Tryz.prog 78 #[.slice A l.length c, .slice B m.length d, cmpFn] w fun e w' => e = .returned (.int .i64 (cmpL l m)) ∧ Below w.heap.size w w' := by
  have hlen : l.length ≤ 9223372036854775807 := by have := hl.1; have := hl.2.1; unfold maxLen at *; omega
  have hlen' : m.length ≤ 9223372036854775807 := by have := hm.1; have := hm.2.1; unfold maxLen at *; omega
  have QI := Lib.hid ih
  clear ih
  show Calls Tryz.prog _ #[.slice A l.length c, .slice B m.length d, .func (.func 79) #[] #[]] w _
  go_enter Tryz.func78, Tryz.ntmps78
  go_wp2_with fail
  go_loopw [13] (fun i wr => ∃ j : Nat, j ≤ l.length ∧ j ≤ m.length ∧ i = .int .i64 j ∧ Hid (cmpL (l.take j) (m.take j) = 0) ∧ Below w.heap.size w wr) (fun i _ => l.length - (intOf i).toNat)
  case atStart => exact ⟨0, Nat.zero_le _, Nat.zero_le _, rfl, Lib.hid rfl, Below.refl _ _⟩
  case round =>
    obtain ⟨j, hj, hjm, rfl, HF, hb⟩ := hrel
    by_cases hlt : j < l.length
    · obtain ⟨b, o, rfl, ⟨c0, c1, c2, c3⟩, hx⟩ := (hl.below hb).get hlt
      by_cases hlt' : j < m.length
      · obtain ⟨b', o', rfl, ⟨g0, g1, g2, g3⟩, hy⟩ := (hm.below hb).get hlt'
        have hmem := getD_mem hlt
        have HN := Lib.hid (cmpL_next hlt hlt' HF.out)
        have HS := Lib.hid (fun h => cmpL_stop hlt hlt' HF.out h)
        generalize l.getD j default = x at *
        generalize m.getD j default = y at *
        have Q1 := Lib.hid (fun W (h : Below wr.heap.size wr W) => QI.out x hmem y W (hx.below h) (hy.below h))
        have hb1 := ((World.block_lt_of_cell? _ _ c0 : b < wr.heap.size))
        have hb2 := ((World.block_lt_of_cell? _ _ g0 : b' < wr.heap.size))
        clear hx hy QI hmem
        obtain ⟨z, hz⟩ : ∃ z, cmpT x y = z := ⟨_, rfl⟩
        rw [hz] at HN HS Q1
        clear hz
        obtain ⟨k1, n1, s1, A1, p1, a1⟩ := x
        obtain ⟨k2, n2, s2, A2, p2, a2⟩ := y
        simp only [Tm.kind, Tm.num, Tm.name, Tm.at_, Tm.args, Tm.cap] at c0 c1 c2 c3 g0 g1 g2 g3
        go_wp2_with fail
        refine (Q1.out _ (below2 _ _ _)).mono ?_
        rintro e w2 ⟨rfl, hb3⟩
        have hb4 := hb.trans (((below2 _ _ _).trans (hb3.mono (by simp; omega))).mono hb.size)
        by_cases hz : z = 0
        · subst hz
          go_wp2_with fail
          go_roundw
          case rel => exact ⟨j + 1, by omega, by omega, by go_num, HN, hb4⟩
          case measure => simp [intOf]; omega
        · have hz' : (z != 0) = true := by simpa using hz
          have HE := Lib.hid (HS.out hz)
          clear HS HN
          go_wp2_with fail
          go_ret
          exact ⟨by rw [HE.out]; rfl, hb4⟩
      · have HE := Lib.hid (show cmpL l m = 1 by rw [cmpL_end (.inr (by omega)) hj hjm HF.out, ints_gt (by omega)])
        obtain ⟨k1, n1, s1, A1, p1, a1⟩ := l.getD j default
        simp only [Tm.kind, Tm.num, Tm.name, Tm.at_, Tm.args, Tm.cap] at c0 c1 c2 c3
        go_wp2_with fail
        go_ret
        exact ⟨by rw [HE.out]; rfl, hb.alloc hb.size _⟩
    · obtain rfl : j = l.length := by omega
      by_cases hlt' : l.length < m.length
      · have HE := Lib.hid (show cmpL l m = -1 by rw [cmpL_end (.inl rfl) hj hjm HF.out, ints_lt (by omega)])
        go_wp2_with fail
        go_ret
        exact ⟨by rw [HE.out]; rfl, hb⟩
      · have HE := Lib.hid (show cmpL l m = 0 by
          rw [cmpL_end (.inl rfl) hj hjm HF.out]
          have e : l.length = m.length := by omega
          rw [e, ints_self])
        go_wp2_with fail
        go_ret
        exact ⟨by rw [HE.out]; rfl, hb⟩
set_option maxHeartbeats 1000000 in
theorem functors_at (t u : Tm) (ih : ∀ x ∈ t.args, CmpAt x) (w : World) (ht : t.At w) (hu : u.At w) {r : Int}
    (hr : lex (ints t.args.length u.args.length) (lex (texts t.name.data.toList u.name.data.toList) (cmpL t.args u.args)) = r) :
    Calls Tryz.prog 122 #[t.val, u.val] w fun e w' => e = .returned (.int .i64 r) ∧ Below w.heap.size w w' := by
  have hl := ht.lst
  have hm := hu.lst
  obtain ⟨k, n, s, A, c, a⟩ := t
  obtain ⟨k', n', s', A', c', a'⟩ := u
  simp only [Tm.name, Tm.args, Tm.at_, Tm.cap] at hr hl hm ih
  show Calls Tryz.prog 122 #[.agg #[.int .i64 k, .int .i64 n, .string s, .slice A a.length c], .agg #[.int .i64 k', .int .i64 n', .string s', .slice A' a'.length c']] w _
  have hlen : a.length ≤ 9223372036854775807 := by have := hl.1; have := hl.2.1; unfold maxLen at *; omega
  have hlen' : a'.length ≤ 9223372036854775807 := by have := hm.1; have := hm.2.1; unfold maxLen at *; omega
  obtain ⟨z1, h1⟩ : ∃ z, ints a.length a'.length = z := ⟨_, rfl⟩
  obtain ⟨z2, h2⟩ : ∃ z, texts s.data.toList s'.data.toList = z := ⟨_, rfl⟩
  have q1 := Lib.hid (fun W => cmp_int_at (a.length : Int) (a'.length : Int) W h1)
  have q2 := Lib.hid (fun W => str_cmp_at s s' W h2)
  have q3 := Lib.hid (fun W (h : Below w.heap.size w W) => cmp_lists_at a a' ih A A' c c' W (hl.below h) (hm.below h))
  obtain ⟨z3, h3⟩ : ∃ z, cmpL a a' = z := ⟨_, rfl⟩
  rw [h3] at q3
  rw [h1, h2, h3] at hr
  clear h1 h2 h3 ih hl hm ht hu
  by_cases e1 : z1 = 0
  · subst e1
    rw [lex_zero] at hr
    by_cases e2 : z2 = 0
    · subst e2
      rw [lex_zero] at hr
      subst hr
      go_enter Tryz.func122, Tryz.ntmps122
      go_wp2_with fail
      refine (q1.out _).mono ?_
      rintro e w' ⟨rfl, rfl⟩
      go_wp2_with fail
      refine (q2.out _).mono ?_
      rintro e w' ⟨rfl, rfl⟩
      go_wp2_with fail
      refine (q3.out _ (below2 _ _ _)).mono ?_
      rintro e w' ⟨rfl, hb⟩
      go_wp2_with fail
      go_ret
      exact ⟨rfl, (below2 _ _ _).trans (hb.mono (by simp; omega))⟩
    · rw [lex_ne e2] at hr
      subst hr
      have e2' : (z2 != 0) = true := by simpa using e2
      go_enter Tryz.func122, Tryz.ntmps122
      go_wp2_with fail
      refine (q1.out _).mono ?_
      rintro e w' ⟨rfl, rfl⟩
      go_wp2_with fail
      refine (q2.out _).mono ?_
      rintro e w' ⟨rfl, rfl⟩
      go_wp2_with fail
      go_ret
      exact ⟨rfl, below2 _ _ _⟩
  · rw [lex_ne e1] at hr
    subst hr
    have e1' : (z1 != 0) = true := by simpa using e1
    go_enter Tryz.func122, Tryz.ntmps122
    go_wp2_with fail
    refine (q1.out _).mono ?_
    rintro e w' ⟨rfl, rfl⟩
    go_wp2_with fail
    go_ret
    exact ⟨rfl, below2 _ _ _⟩
theorem boxed8 (w : World) (v0 v1 v2 v3 u0 u1 u2 u3 : Value) (T : TypeId) :
    (∀ d os, (grow (redrawn ((w.alloc (.cells #[v0, v1, v2, v3] T)).alloc (.cells #[u0, u1, u2, u3] T)) d) os).cell? ⟨w.heap.size, 0, none⟩ = some v0) ∧ (∀ d os, (grow (redrawn ((w.alloc (.cells #[v0, v1, v2, v3] T)).alloc (.cells #[u0, u1, u2, u3] T)) d) os).cell? ⟨w.heap.size, 1, none⟩ = some v1) ∧
    (∀ d os, (grow (redrawn ((w.alloc (.cells #[v0, v1, v2, v3] T)).alloc (.cells #[u0, u1, u2, u3] T)) d) os).cell? ⟨w.heap.size, 2, none⟩ = some v2) ∧ (∀ d os, (grow (redrawn ((w.alloc (.cells #[v0, v1, v2, v3] T)).alloc (.cells #[u0, u1, u2, u3] T)) d) os).cell? ⟨w.heap.size, 3, none⟩ = some v3) ∧
    (∀ d os, (grow (redrawn ((w.alloc (.cells #[v0, v1, v2, v3] T)).alloc (.cells #[u0, u1, u2, u3] T)) d) os).cell? ⟨w.heap.size + 1, 0, none⟩ = some u0) ∧ (∀ d os, (grow (redrawn ((w.alloc (.cells #[v0, v1, v2, v3] T)).alloc (.cells #[u0, u1, u2, u3] T)) d) os).cell? ⟨w.heap.size + 1, 1, none⟩ = some u1) ∧
    (∀ d os, (grow (redrawn ((w.alloc (.cells #[v0, v1, v2, v3] T)).alloc (.cells #[u0, u1, u2, u3] T)) d) os).cell? ⟨w.heap.size + 1, 2, none⟩ = some u2) ∧ (∀ d os, (grow (redrawn ((w.alloc (.cells #[v0, v1, v2, v3] T)).alloc (.cells #[u0, u1, u2, u3] T)) d) os).cell? ⟨w.heap.size + 1, 3, none⟩ = some u3) :=
  ⟨fun d os => (box8 (below_regrown _ d os)).1.1, fun d os => (box8 (below_regrown _ d os)).1.2.1, fun d os => (box8 (below_regrown _ d os)).1.2.2.1, fun d os => (box8 (below_regrown _ d os)).1.2.2.2,
   fun d os => (box8 (below_regrown _ d os)).2.1.1, fun d os => (box8 (below_regrown _ d os)).2.1.2.1, fun d os => (box8 (below_regrown _ d os)).2.1.2.2.1, fun d os => (box8 (below_regrown _ d os)).2.1.2.2.2⟩
set_option maxHeartbeats 1000000 in
theorem compare_at (t : Tm) : CmpAt t := by
  induction t using Tm.induct with
  | h k n s A c a ih =>
    intro u w ht hu
    have Q2 := Lib.hid (fun W (h : Below w.heap.size w W) {r : Int} => functors_at (.mk k n s A c a) u ih W (ht.below h) (hu.below h) (r := r))
    have Q3 := Lib.hid (fun W {r : Int} => unknown_at (.mk k n s A c a) u W (r := r))
    obtain ⟨k', n', s', A', c', a'⟩ := u
    clear ih ht hu
    show Calls Tryz.prog 79 #[.agg #[.int .i64 k, .int .i64 n, .string s, .slice A a.length c], .agg #[.int .i64 k', .int .i64 n', .string s', .slice A' a'.length c']] w _
    obtain ⟨j, hj⟩ : ∃ z, cls k = z := ⟨_, rfl⟩
    obtain ⟨j', hj'⟩ : ∃ z, cls k' = z := ⟨_, rfl⟩
    obtain ⟨z0, h0⟩ : ∃ z, ints j j' = z := ⟨_, rfl⟩
    obtain ⟨z1, h1⟩ : ∃ z, ints n n' = z := ⟨_, rfl⟩
    have r1 := Lib.hid (show ∀ W, Calls Tryz.prog 121 #[.agg #[.int .i64 k, .int .i64 n, .string s, .slice A a.length c]] W fun e w' => e = .returned (.int .i64 j) ∧ Below W.heap.size W w' from fun W => rank_at (.mk k n s A c a) W hj)
    have r2 := Lib.hid (show ∀ W, Calls Tryz.prog 121 #[.agg #[.int .i64 k', .int .i64 n', .string s', .slice A' a'.length c']] W fun e w' => e = .returned (.int .i64 j') ∧ Below W.heap.size W w' from fun W => rank_at (.mk k' n' s' A' c' a') W hj')
    have q0 := Lib.hid (fun W => cmp_int_at j j' W h0)
    have q1 := Lib.hid (fun W => cmp_int_at n n' W h1)
    obtain ⟨R, hR⟩ : ∃ z, cmpT (.mk k n s A c a) (.mk k' n' s' A' c' a') = z := ⟨_, rfl⟩
    have HR := hR
    simp only [cmpT, Tm.kind, Tm.num, Tm.name, Tm.args] at HR
    rw [hj, hj', h0, h1] at HR
    rw [hR]
    clear hR
    by_cases e0 : z0 = 0
    · subst e0
      rw [lex_zero] at HR
      by_cases k1 : k = 1
      · subst k1
        rw [if_pos (.inl rfl)] at HR
        subst HR
        clear hj hj' h0 h1 Q2 Q3
        obtain ⟨kb0, kb1, kb2, kb3, kc0, kc1, kc2, kc3⟩ := boxed8 w (.int .i64 1) (.int .i64 n) (.string s) (.slice A a.length c) (.int .i64 k') (.int .i64 n') (.string s') (.slice A' a'.length c') 40
        go_enter Tryz.func79, Tryz.ntmps79
        go_wp2_with fail
        refine wp_region_quiet_below (by kernel_rfl) (by kernel_rfl) ?_
        repeat (go_big_quiet_step (first | (go_at_call 121; first | (with_reducible exact Calls.regrown_of (r1.out _)) | (with_reducible exact Calls.regrown_of (r2.out _))) | (go_at_call 76; exact Calls.regrown_of (withBelow (q0.out _)))))
        refine wpQuiet_nil ?_
        intro w1 hw'
        obtain ⟨⟨d0, d1, d2, d3⟩, ⟨g0, g1, g2, g3⟩, hb1⟩ := box8 (regrown_below hw')
        clear kb0 kb1 kb2 kb3 kc0 kc1 kc2 kc3 hw'
        go_wp2_with fail
        refine (q1.out _).mono ?_
        rintro e w' ⟨rfl, rfl⟩
        go_wp2_with fail
        go_ret
        exact ⟨rfl, hb1⟩
      · by_cases k0 : k = 0
        · subst k0
          rw [if_pos (.inr rfl)] at HR
          subst HR
          clear hj hj' h0 h1 Q2 Q3
          obtain ⟨kb0, kb1, kb2, kb3, kc0, kc1, kc2, kc3⟩ := boxed8 w (.int .i64 0) (.int .i64 n) (.string s) (.slice A a.length c) (.int .i64 k') (.int .i64 n') (.string s') (.slice A' a'.length c') 40
          go_enter Tryz.func79, Tryz.ntmps79
          go_wp2_with fail
          refine wp_region_quiet_below (by kernel_rfl) (by kernel_rfl) ?_
          repeat (go_big_quiet_step (first | (go_at_call 121; first | (with_reducible exact Calls.regrown_of (r1.out _)) | (with_reducible exact Calls.regrown_of (r2.out _))) | (go_at_call 76; exact Calls.regrown_of (withBelow (q0.out _)))))
          refine wpQuiet_nil ?_
          intro w1 hw'
          obtain ⟨⟨d0, d1, d2, d3⟩, ⟨g0, g1, g2, g3⟩, hb1⟩ := box8 (regrown_below hw')
          clear kb0 kb1 kb2 kb3 kc0 kc1 kc2 kc3 hw'
          go_wp2_with fail
          refine (q1.out _).mono ?_
          rintro e w' ⟨rfl, rfl⟩
          go_wp2_with fail
          go_ret
          exact ⟨rfl, hb1⟩
        · rw [if_neg (by omega)] at HR
          have k1' : (k == 1) = false := by simp [k1]
          have k0' : (k == 0) = false := by simp [k0]
          by_cases k2 : k = 2
          · subst k2
            rw [if_pos rfl] at HR
            have HQ := Lib.hid (fun W h => Q2.out W h HR)
            clear hj hj' h0 h1 Q2 Q3 HR
            obtain ⟨kb0, kb1, kb2, kb3, kc0, kc1, kc2, kc3⟩ := boxed8 w (.int .i64 2) (.int .i64 n) (.string s) (.slice A a.length c) (.int .i64 k') (.int .i64 n') (.string s') (.slice A' a'.length c') 40
            go_enter Tryz.func79, Tryz.ntmps79
            go_wp2_with fail
            refine wp_region_quiet_below (by kernel_rfl) (by kernel_rfl) ?_
            repeat (go_big_quiet_step (first | (go_at_call 121; first | (with_reducible exact Calls.regrown_of (r1.out _)) | (with_reducible exact Calls.regrown_of (r2.out _))) | (go_at_call 76; exact Calls.regrown_of (withBelow (q0.out _)))))
            refine wpQuiet_nil ?_
            intro w1 hw'
            obtain ⟨⟨d0, d1, d2, d3⟩, ⟨g0, g1, g2, g3⟩, hb1⟩ := box8 (regrown_below hw')
            clear kb0 kb1 kb2 kb3 kc0 kc1 kc2 kc3 hw'
            go_wp2_with fail
            refine (HQ.out _ hb1).mono ?_
            rintro e w' ⟨rfl, hb⟩
            go_wp2_with fail
            go_ret
            exact ⟨rfl, hb1.trans (hb.mono hb1.size)⟩
          · rw [if_neg k2] at HR
            have k2' : (k == 2) = false := by simp [k2]
            rw [← h1] at HR
            have HQ := Lib.hid (fun W => Q3.out W HR)
            clear hj hj' h0 h1 Q2 Q3 HR k0 k1 k2
            obtain ⟨kb0, kb1, kb2, kb3, kc0, kc1, kc2, kc3⟩ := boxed8 w (.int .i64 k) (.int .i64 n) (.string s) (.slice A a.length c) (.int .i64 k') (.int .i64 n') (.string s') (.slice A' a'.length c') 40
            go_enter Tryz.func79, Tryz.ntmps79
            go_wp2_with fail
            refine wp_region_quiet_below (by kernel_rfl) (by kernel_rfl) ?_
            repeat (go_big_quiet_step (first | (go_at_call 121; first | (with_reducible exact Calls.regrown_of (r1.out _)) | (with_reducible exact Calls.regrown_of (r2.out _))) | (go_at_call 76; exact Calls.regrown_of (withBelow (q0.out _)))))
            refine wpQuiet_nil ?_
            intro w1 hw'
            obtain ⟨⟨d0, d1, d2, d3⟩, ⟨g0, g1, g2, g3⟩, hb1⟩ := box8 (regrown_below hw')
            clear kb0 kb1 kb2 kb3 kc0 kc1 kc2 kc3 hw'
            go_wp2_with fail
            refine (HQ.out _).mono ?_
            rintro e w' ⟨rfl, hb⟩
            go_wp2_with fail
            go_ret
            exact ⟨rfl, hb1.trans (hb.mono hb1.size)⟩
    · rw [lex_ne e0] at HR
      subst HR
      have e0' : (z0 != 0) = true := by simpa using e0
      clear hj hj' h0 h1 Q2 Q3
      obtain ⟨kb0, kb1, kb2, kb3, kc0, kc1, kc2, kc3⟩ := boxed8 w (.int .i64 k) (.int .i64 n) (.string s) (.slice A a.length c) (.int .i64 k') (.int .i64 n') (.string s') (.slice A' a'.length c') 40
      go_enter Tryz.func79, Tryz.ntmps79
      go_wp2_with fail
      refine wp_region_quiet_below (by kernel_rfl) (by kernel_rfl) ?_
      repeat (go_big_quiet_step (first | (go_at_call 121; first | (with_reducible exact Calls.regrown_of (r1.out _)) | (with_reducible exact Calls.regrown_of (r2.out _))) | (go_at_call 76; exact Calls.regrown_of (withBelow (q0.out _)))))
      refine wpQuiet_nil ?_
      intro w1 hw'
      obtain ⟨⟨d0, d1, d2, d3⟩, ⟨g0, g1, g2, g3⟩, hb1⟩ := box8 (regrown_below hw')
      clear kb0 kb1 kb2 kb3 kc0 kc1 kc2 kc3 hw'
      go_wp2_with fail
      go_ret
      exact ⟨rfl, hb1⟩
theorem same_at (t u : Tm) (w : World) (ht : t.At w) (hu : u.At w) {r : Bool} (hr : (cmpT t u == 0) = r) :
    Calls Tryz.prog 50 #[t.val, u.val] w fun e w' => e = .returned (.bool r) ∧ Below w.heap.size w w' := by
  have Q := Lib.hid (fun W (h : Below w.heap.size w W) => compare_at t u W (ht.below h) (hu.below h))
  generalize cmpT t u = z at *
  obtain ⟨k, n, s, A, c, a⟩ := t
  obtain ⟨k', n', s', A', c', a'⟩ := u
  show Calls Tryz.prog 50 #[.agg #[.int .i64 k, .int .i64 n, .string s, .slice A a.length c], .agg #[.int .i64 k', .int .i64 n', .string s', .slice A' a'.length c']] w _
  have HR := Lib.hid hr
  clear hr ht hu
  go_enter Tryz.func50, Tryz.ntmps50
  go_wp2_with fail
  refine (Q.out _ (below2 _ _ _)).mono ?_
  rintro e w' ⟨rfl, hb⟩
  go_wp2_with fail
  go_ret
  exact ⟨by rw [← HR.out]; rfl, (below2 _ _ _).trans (hb.mono (by simp; omega))⟩
end Go.Proofs.YtgpglgehlnfggaaGreat
