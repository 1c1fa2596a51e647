/-
  Contracts of the comparisons of numbers, strings and kinds: cmp.Compare, strings.Compare, rank, compareUnknown of the program; ints, texts, class of the reference.
-/
import Derived.Test.YtpnjjahimhhjkaaTmValid
import Derived.Test.YtpnjjahimhhjkaaTmBase
import Derived.BigQuiet
import Derived.Lib.QuietBelow
import Derived.Lib.Bytealg
namespace Go.Proofs.Ytpnjjahimhhjkaa
open Go.RowKit Go.Sort

theorem texts_bytes (a b : List UInt8) : Lib.compareBytes a b = texts a b := by
  induction a generalizing b with
  | nil => cases b <;> simp [Lib.compareBytes, texts, Op.bytesLess]
  | cons x r ih =>
    cases b with
    | nil => simp [Lib.compareBytes, texts, Op.bytesLess]
    | cons y q =>
      rw [texts_cons, ← ih q, Lib.compareBytes]
      unfold lex
      rcases Nat.lt_trichotomy x.toNat y.toNat with h | h | h
      · rw [if_pos (UInt8.lt_iff_toNat_lt.2 h), ints_lt (by omega)]; rfl
      · rw [if_neg (fun e => by rw [UInt8.lt_iff_toNat_lt] at e; omega), if_neg (fun e => by rw [UInt8.lt_iff_toNat_lt] at e; omega), h, ints_self]; rfl
      · rw [if_neg (fun e => by rw [UInt8.lt_iff_toNat_lt] at e; omega), if_pos (UInt8.lt_iff_toNat_lt.2 h), ints_gt (by omega)]; rfl

theorem less_eq {a b : List UInt8} (h1 : Op.bytesLess a b = false) (h2 : Op.bytesLess b a = false) : a = b := by
  induction a generalizing b with
  | nil => cases b <;> simp [Op.bytesLess] at *
  | cons x r ih =>
    cases b with
    | nil => simp [Op.bytesLess] at h2
    | cons y q =>
      simp only [Op.bytesLess, Bool.or_eq_false_iff, Bool.and_eq_false_iff, decide_eq_false_iff_not, beq_eq_false_iff_ne, UInt8.lt_iff_toNat_lt] at h1 h2
      have e : x = y := UInt8.toNat_inj.1 (by omega)
      subst e
      rw [ih (h1.2.resolve_left (fun h => h rfl)) (h2.2.resolve_left (fun h => h rfl))]

theorem nan_at (x : Int) (w : World) : Calls Try.prog 90 #[.int .i64 x] w fun e w' => e = .returned (.bool false) ∧ w = w' := by
  go_enter Try.func90, Try.ntmps90
  go_wp2
  go_ret
  exact ⟨ret_bool (by simp), rfl⟩

theorem cmp_int_at (x y : Int) (w : World) {r : Int} (hr : ints x y = r) : Calls Try.prog 74 #[.int .i64 x, .int .i64 y] w fun e w' => e = .returned (.int .i64 r) ∧ w = w' := by
  have q1 := Lib.hid (nan_at x)
  have q2 := Lib.hid (nan_at y)
  have HV := Lib.hid hr
  clear hr
  by_cases h1 : x < y
  · have HE := Lib.hid (ints_lt h1)
    go_enter Try.func74, Try.ntmps74
    go_wp2_with fail
    refine (q1.out _).mono ?_
    rintro e w' ⟨rfl, rfl⟩
    go_wp2_with fail
    refine (q2.out _).mono ?_
    rintro e w' ⟨rfl, rfl⟩
    go_wp2_with fail
    go_ret
    exact ⟨by rw [← HV.out, HE.out]; rfl, rfl⟩
  · have h1' : decide (x < y) = false := by simpa using h1
    by_cases h2 : y < x
    · have HE := Lib.hid (ints_gt h2)
      clear h1
      go_enter Try.func74, Try.ntmps74
      go_wp2_with fail
      refine (q1.out _).mono ?_
      rintro e w' ⟨rfl, rfl⟩
      go_wp2_with fail
      refine (q2.out _).mono ?_
      rintro e w' ⟨rfl, rfl⟩
      go_wp2_with fail
      go_ret
      exact ⟨by rw [← HV.out, HE.out]; rfl, rfl⟩
    · have h2' : decide (y < x) = false := by simpa using h2
      have HE := Lib.hid (show ints x y = 0 by have e : x = y := by omega
                                               rw [e, ints_self])
      clear h1 h2
      go_enter Try.func74, Try.ntmps74
      go_wp2_with fail
      refine (q1.out _).mono ?_
      rintro e w' ⟨rfl, rfl⟩
      go_wp2_with fail
      refine (q2.out _).mono ?_
      rintro e w' ⟨rfl, rfl⟩
      go_wp2_with fail
      go_ret
      exact ⟨by rw [← HV.out, HE.out]; rfl, rfl⟩

theorem ref_ints_at (x y : Int) (w : World) {r : Int} (hr : ints x y = r) : Calls Try.prog 62 #[.int .i64 x, .int .i64 y] w fun e w' => e = .returned (.int .i64 r) ∧ w = w' := by
  have HV := Lib.hid hr
  clear hr
  by_cases h1 : x < y
  · have HE := Lib.hid (ints_lt h1)
    go_enter Try.func62, Try.ntmps62
    go_wp2_with fail
    go_ret
    exact ⟨by rw [← HV.out, HE.out]; rfl, rfl⟩
  · have h1' : decide (x < y) = false := by simpa using h1
    by_cases h2 : y < x
    · have HE := Lib.hid (ints_gt h2)
      clear h1
      go_enter Try.func62, Try.ntmps62
      go_wp2_with fail
      go_ret
      exact ⟨by rw [← HV.out, HE.out]; rfl, rfl⟩
    · have h2' : decide (y < x) = false := by simpa using h2
      have HE := Lib.hid (show ints x y = 0 by have e : x = y := by omega
                                               rw [e, ints_self])
      clear h1 h2
      go_enter Try.func62, Try.ntmps62
      go_wp2_with fail
      go_ret
      exact ⟨by rw [← HV.out, HE.out]; rfl, rfl⟩

set_option maxRecDepth 100000 in
theorem bytes_at (a b : ByteArray) (w : World) : Calls Try.prog 96 #[.string a, .string b] w fun e w' => e = .returned (.int .i64 (texts a.data.toList b.data.toList)) ∧ w = w' := by
  go_enter Try.func96, Try.ntmps96
  go_wp2
  rw [run_callFunc_extern Try.func99 (by kernel_rfl) (by kernel_rfl) (by kernel_rfl) (e := Extern.BytealgCompare.compare) (by kernel_rfl), Lib.run_compareString]
  simp only [Result.andThen]
  rw [Oper.upon_value]
  go_wp2
  go_ret
  exact ⟨ret_int (texts_bytes _ _), rfl⟩
theorem str_cmp_at (a b : ByteArray) (w : World) {r : Int} (hr : texts a.data.toList b.data.toList = r) : Calls Try.prog 91 #[.string a, .string b] w fun e w' => e = .returned (.int .i64 r) ∧ w = w' := by
  subst hr
  have q := Lib.hid (bytes_at a b)
  go_enter Try.func91, Try.ntmps91
  go_wp2_with fail
  refine (q.out _).mono ?_
  rintro e w' ⟨rfl, rfl⟩
  go_wp2_with fail
  go_ret
  exact ⟨rfl, rfl⟩
theorem ref_texts_at (a b : ByteArray) (w : World) {r : Int} (hr : texts a.data.toList b.data.toList = r) : Calls Try.prog 64 #[.string a, .string b] w fun e w' => e = .returned (.int .i64 r) ∧ w = w' := by
  have HV := Lib.hid hr
  clear hr
  have z := texts_tri a.data.toList b.data.toList a.data.toList
  rw [texts_self] at z
  obtain ⟨b1, h1⟩ : ∃ c, Op.bytesLess a.data.toList b.data.toList = c := ⟨_, rfl⟩
  obtain ⟨b2, h2⟩ : ∃ c, Op.bytesLess b.data.toList a.data.toList = c := ⟨_, rfl⟩
  have e1 : Op.bytesLess a.toList b.toList = b1 := by rw [raw_list, raw_list, h1]
  have e2 : Op.bytesLess b.toList a.toList = b2 := by rw [raw_list, raw_list, h2]
  obtain ⟨b3, e3⟩ : ∃ c, (a.toList == b.toList) = c := ⟨_, rfl⟩
  have HT := Lib.hid (show (!b1 && !b3) = (!b1 && b2) by
    cases b1
    · simp only [texts, h1, h2] at z
      cases b3
      · cases b2
        · exfalso
          have hne : a.data.toList ≠ b.data.toList := by
            intro e
            rw [raw_list, raw_list, e] at e3
            simp at e3
          exact hne (less_eq h1 h2)
        · rfl
      · have e : a.data.toList = b.data.toList := by rw [raw_list, raw_list] at e3; simpa using e3
        rw [e, bytesLess_self] at h2
        rw [← h2]; rfl
    · rfl)
  have HE := Lib.hid (show texts a.data.toList b.data.toList = if b1 then -1 else if b2 then 1 else 0 by unfold texts; rw [h1, h2])
  clear h1 h2 z
  cases b1
  · cases b3
    · obtain rfl : b2 = true := by simpa using HT.out
      clear e2
      go_enter Try.func64, Try.ntmps64
      go_wp2_with fail
      go_ret
      exact ⟨by rw [← HV.out, HE.out]; rfl, rfl⟩
    · obtain rfl : b2 = false := by simpa using HT.out
      clear e2
      go_enter Try.func64, Try.ntmps64
      go_wp2_with fail
      go_ret
      exact ⟨by rw [← HV.out, HE.out]; rfl, rfl⟩
  · clear e2 e3
    go_enter Try.func64, Try.ntmps64
    go_wp2_with fail
    go_ret
    exact ⟨by rw [← HV.out, HE.out]; rfl, rfl⟩

theorem rank_at (t : Tm) (w : World) {r : Int} (hr : cls t.kind = r) : Calls Try.prog 75 #[t.val] w fun e w' => e = .returned (.int .i64 r) ∧ Below w.heap.size w w' := by
  obtain ⟨k, n, s, A, c, a⟩ := t
  show Calls Try.prog 75 #[.agg #[.int .i64 k, .int .i64 n, .string s, .slice A a.length c]] w _
  have HV := Lib.hid (show cls k = r from hr)
  clear hr
  by_cases h1 : k = 1
  · subst h1
    have HE := Lib.hid (show cls 1 = 0 by simp [cls])
    go_enter Try.func75, Try.ntmps75
    go_wp2_with fail
    go_ret
    exact ⟨by rw [← HV.out, HE.out]; rfl, (Below.refl _ _).alloc (Nat.le_refl _) _⟩
  have e1 : (k == 1) = false := by simp [h1]
  by_cases h0 : k = 0
  · subst h0
    have HE := Lib.hid (show cls 0 = 1 by simp [cls])
    go_enter Try.func75, Try.ntmps75
    go_wp2_with fail
    go_ret
    exact ⟨by rw [← HV.out, HE.out]; rfl, (Below.refl _ _).alloc (Nat.le_refl _) _⟩
  have e0 : (k == 0) = false := by simp [h0]
  by_cases h2 : k = 2
  · subst h2
    have HE := Lib.hid (show cls 2 = 2 by simp [cls])
    go_enter Try.func75, Try.ntmps75
    go_wp2_with fail
    go_ret
    exact ⟨by rw [← HV.out, HE.out]; rfl, (Below.refl _ _).alloc (Nat.le_refl _) _⟩
  have e2 : (k == 2) = false := by simp [h2]
  have HE := Lib.hid (show cls k = 3 by simp [cls, h1, h0, h2])
  clear h0 h1 h2
  go_enter Try.func75, Try.ntmps75
  go_wp2_with fail
  go_ret
  exact ⟨by rw [← HV.out, HE.out]; rfl, (Below.refl _ _).alloc (Nat.le_refl _) _⟩

theorem class_at (t : Tm) (w : World) {r : Int} (hr : cls t.kind = r) : Calls Try.prog 63 #[t.val] w fun e w' => e = .returned (.int .i64 r) ∧ Below w.heap.size w w' := by
  obtain ⟨k, n, s, A, c, a⟩ := t
  show Calls Try.prog 63 #[.agg #[.int .i64 k, .int .i64 n, .string s, .slice A a.length c]] w _
  have HV := Lib.hid (show cls k = r from hr)
  clear hr
  by_cases h1 : k = 1
  · subst h1
    have HE := Lib.hid (show cls 1 = 0 by simp [cls])
    go_enter Try.func63, Try.ntmps63
    go_wp2_with fail
    go_ret
    exact ⟨by rw [← HV.out, HE.out]; rfl, (Below.refl _ _).alloc (Nat.le_refl _) _⟩
  have e1 : (k == 1) = false := by simp [h1]
  by_cases h0 : k = 0
  · subst h0
    have HE := Lib.hid (show cls 0 = 1 by simp [cls])
    go_enter Try.func63, Try.ntmps63
    go_wp2_with fail
    go_ret
    exact ⟨by rw [← HV.out, HE.out]; rfl, (Below.refl _ _).alloc (Nat.le_refl _) _⟩
  have e0 : (k == 0) = false := by simp [h0]
  by_cases h2 : k = 2
  · subst h2
    have HE := Lib.hid (show cls 2 = 2 by simp [cls])
    go_enter Try.func63, Try.ntmps63
    go_wp2_with fail
    go_ret
    exact ⟨by rw [← HV.out, HE.out]; rfl, (Below.refl _ _).alloc (Nat.le_refl _) _⟩
  have e2 : (k == 2) = false := by simp [h2]
  have HE := Lib.hid (show cls k = 3 by simp [cls, h1, h0, h2])
  clear h0 h1 h2
  go_enter Try.func63, Try.ntmps63
  go_wp2_with fail
  go_ret
  exact ⟨by rw [← HV.out, HE.out]; rfl, (Below.refl _ _).alloc (Nat.le_refl _) _⟩
end Go.Proofs.Ytpnjjahimhhjkaa
