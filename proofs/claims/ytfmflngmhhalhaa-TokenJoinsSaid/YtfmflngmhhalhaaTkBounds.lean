/-
  Contracts of bounds and check of the program.
-/
import Derived.Test.YtfmflngmhhalhaaTkSymbol
import Derived.Test.YtfmflngmhhalhaaTkSpan
namespace Go.Proofs.Ytfmflngmhhalhaa
open Go.RowKit

/-- Kind and end of the token at q. -/
def Bound (k : Int) (m : Nat) (w : World) (e : Ending) (w' : World) : Prop := e = .returned (.tuple #[.int .i64 k, .int .i64 (m : Int)]) ∧ w = w'
theorem bound_end (s : ByteArray) (w : World) : Calls Try.prog 20 #[.string s, .int .i64 (s.size : Int)] w (Bound 0 s.size w) := by
  go_enter Try.func20, Try.ntmps20
  go_wp2
  exact bodyPost_ret (v := .tuple #[.int .i64 0, .int .i64 ((s.size : Int))]) (by simp [results, Try.results20, go_sem]) rfl ⟨by first | rfl | (rw [Int.natCast_add]), rfl⟩
section
variable (s : ByteArray) (q : Nat) (w : World) (hs : s.size ≤ 100000) (hq : q < s.size)
include hs
theorem bound_low (h : lowB s[q] = true) : Calls Try.prog 20 #[.string s, .int .i64 (q : Int)] w (Bound 1 (q + runP inB s q) w) := by
  have hq' : (q : Int) < (s.size : Int) := by omega
  have he : ((q : Int) == (s.size : Int)) = false := by simp; omega
  have Q1 := Lib.hid (fun W => tk_low_at s[q] W h)
  have Q2 := Lib.hid (fun W => span_word s q W hs (by omega) rfl)
  clear h
  go_enter Try.func20, Try.ntmps20
  go_wp2_with (first | (go_at_call 31; refine (Q1.out _).mono ?_; rintro e w' ⟨rfl, rfl⟩) | (go_at_call 32; refine (Q2.out _).mono ?_; rintro e w' ⟨rfl, rfl⟩))
  exact bodyPost_ret (v := .tuple #[.int .i64 1, .int .i64 (((q + runP inB s q : Nat) : Int))]) (by simp [results, Try.results20, go_sem]) rfl ⟨by first | rfl | (rw [Int.natCast_add]), rfl⟩
theorem bound_var (h : lowB s[q] = false) (h2 : (uppB s[q] || undB s[q]) = true) : Calls Try.prog 20 #[.string s, .int .i64 (q : Int)] w (Bound 2 (q + runP inB s q) w) := by
  have hq' : (q : Int) < (s.size : Int) := by omega
  have he : ((q : Int) == (s.size : Int)) = false := by simp; omega
  have Q1 := Lib.hid (fun W => tk_low_at s[q] W h)
  have Q2 := Lib.hid (fun W => span_word s q W hs (by omega) rfl)
  obtain ⟨b, hb⟩ : ∃ b, uppB s[q] = b := ⟨_, rfl⟩
  have Q3 := Lib.hid (fun W => tk_upp_at s[q] W hb)
  cases b
  · have hu : ((s[q].toNat : Int) == 95) = true := by
      rw [hb, Bool.false_or] at h2
      have : s[q].toNat = 95 := by simpa [undB] using h2
      simp; omega
    clear h h2 hb
    go_enter Try.func20, Try.ntmps20
    go_wp2_with (first | (go_at_call 31; refine (Q1.out _).mono ?_; rintro e w' ⟨rfl, rfl⟩) | (go_at_call 34; refine (Q3.out _).mono ?_; rintro e w' ⟨rfl, rfl⟩) | (go_at_call 32; refine (Q2.out _).mono ?_; rintro e w' ⟨rfl, rfl⟩))
    exact bodyPost_ret (v := .tuple #[.int .i64 2, .int .i64 (((q + runP inB s q : Nat) : Int))]) (by simp [results, Try.results20, go_sem]) rfl ⟨by first | rfl | (rw [Int.natCast_add]), rfl⟩
  · clear h h2 hb
    go_enter Try.func20, Try.ntmps20
    go_wp2_with (first | (go_at_call 31; refine (Q1.out _).mono ?_; rintro e w' ⟨rfl, rfl⟩) | (go_at_call 34; refine (Q3.out _).mono ?_; rintro e w' ⟨rfl, rfl⟩) | (go_at_call 32; refine (Q2.out _).mono ?_; rintro e w' ⟨rfl, rfl⟩))
    exact bodyPost_ret (v := .tuple #[.int .i64 2, .int .i64 (((q + runP inB s q : Nat) : Int))]) (by simp [results, Try.results20, go_sem]) rfl ⟨by first | rfl | (rw [Int.natCast_add]), rfl⟩
theorem bound_dig (h : wordyB s[q] = false) (h2 : digB s[q] = true) : Calls Try.prog 20 #[.string s, .int .i64 (q : Int)] w (Bound 3 (q + runP digB s q) w) := by
  have hq' : (q : Int) < (s.size : Int) := by omega
  have he : ((q : Int) == (s.size : Int)) = false := by simp; omega
  simp only [wordyB, Bool.or_eq_false_iff] at h
  obtain ⟨h3, h4, h5⟩ := h
  have hu : ((s[q].toNat : Int) == 95) = false := by
    have : ¬ s[q].toNat = 95 := by simpa [undB] using h5
    simp; omega
  have Q1 := Lib.hid (fun W => tk_low_at s[q] W h3)
  have Q3 := Lib.hid (fun W => tk_upp_at s[q] W h4)
  have Q4 := Lib.hid (fun W => tk_dig_at s[q] W h2)
  have Q2 := Lib.hid (fun W => span_dig s q W hs (by omega) rfl)
  clear h2 h3 h4 h5
  go_enter Try.func20, Try.ntmps20
  go_wp2_with (first | (go_at_call 31; refine (Q1.out _).mono ?_; rintro e w' ⟨rfl, rfl⟩) | (go_at_call 34; refine (Q3.out _).mono ?_; rintro e w' ⟨rfl, rfl⟩) | (go_at_call 35; refine (Q4.out _).mono ?_; rintro e w' ⟨rfl, rfl⟩) | (go_at_call 32; refine (Q2.out _).mono ?_; rintro e w' ⟨rfl, rfl⟩))
  exact bodyPost_ret (v := .tuple #[.int .i64 3, .int .i64 (((q + runP digB s q : Nat) : Int))]) (by simp [results, Try.results20, go_sem]) rfl ⟨by first | rfl | (rw [Int.natCast_add]), rfl⟩
theorem bound_sym (h : wordyB s[q] = false) (h2 : digB s[q] = false) : Calls Try.prog 20 #[.string s, .int .i64 (q : Int)] w (Bound 4 (q + (symP (rest s q)).length) w) := by
  have hq' : (q : Int) < (s.size : Int) := by omega
  have he : ((q : Int) == (s.size : Int)) = false := by simp; omega
  simp only [wordyB, Bool.or_eq_false_iff] at h
  obtain ⟨h3, h4, h5⟩ := h
  have hu : ((s[q].toNat : Int) == 95) = false := by
    have : ¬ s[q].toNat = 95 := by simpa [undB] using h5
    simp; omega
  have Q1 := Lib.hid (fun W => tk_low_at s[q] W h3)
  have Q3 := Lib.hid (fun W => tk_upp_at s[q] W h4)
  have Q4 := Lib.hid (fun W => tk_dig_at s[q] W h2)
  have Q2 := Lib.hid (fun W => symbol_loop s q W hs (by omega))
  have hl := symP_le (s := s) (q := q) (by omega)
  obtain ⟨x, hx⟩ : ∃ x, symP (rest s q) = x := ⟨_, rfl⟩
  rw [hx] at Q2 hl ⊢
  have h63 : ¬ (9223372036854775807 < (q : Int) + (x.length : Int)) := by omega
  have hsz : (S x).size = x.length := by simp [ByteArray.size]
  clear h2 h3 h4 h5
  go_enter Try.func20, Try.ntmps20
  go_wp2_with (first | (go_at_call 31; refine (Q1.out _).mono ?_; rintro e w' ⟨rfl, rfl⟩) | (go_at_call 34; refine (Q3.out _).mono ?_; rintro e w' ⟨rfl, rfl⟩) | (go_at_call 35; refine (Q4.out _).mono ?_; rintro e w' ⟨rfl, rfl⟩) | (go_at_call 17; refine (Q2.out _).mono ?_; rintro e w' ⟨rfl, rfl⟩))
  exact bodyPost_ret (v := .tuple #[.int .i64 4, .int .i64 ((q : Int) + (x.length : Int))]) (by simp [results, Try.results20, go_sem]) rfl ⟨by first | rfl | (rw [Int.natCast_add]), rfl⟩
end

/-! ### check -/
theorem check_end (x : ByteArray) (w : World) : Calls Try.prog 21 #[.int .i64 0, .string x] w fun e w' => e = .returned (.int .i64 0) ∧ w = w' := by
  go_enter Try.func21, Try.ntmps21
  go_wp2
  go_ret
  exact ⟨rfl, rfl⟩
theorem check_name (x : ByteArray) (w : World) (hs : x.size ≤ 100000) (ha : ∀ c ∈ x.data.toList, inB c = true) (h1 : 1 ≤ x.size) (hl : lowB (x.data.toList.getD 0 0) = true) {r : Int} (hr : (if 40 < x.size then 7 else 0) = r) :
    Calls Try.prog 21 #[.int .i64 1, .string x] w fun e w' => e = .returned (.int .i64 r) ∧ w = w' := by
  subst hr
  by_cases h40 : 40 < x.size
  · rw [if_pos h40]
    have Q1 := Lib.hid (fun W => right_at x W (by omega) (r := false) (by unfold rightB; rw [word_long h40]; rfl))
    have Q2 := Lib.hid (fun W => res_at x W (r := false) (by
      simp only [resB, reserved, List.mem_cons, List.not_mem_nil, or_false, decide_eq_false_iff_not]
      rw [← len_str] at h40
      intro h
      rcases h with h | h | h | h | h | h <;> rw [h] at h40 <;> simp at h40))
    clear ha hl
    go_enter Try.func21, Try.ntmps21
    go_wp2_with (first | (go_at_call 36; refine (Q1.out _).mono ?_; rintro e w' ⟨rfl, rfl⟩) | (go_at_call 37; refine (Q2.out _).mono ?_; rintro e w' ⟨rfl, rfl⟩))
    go_ret
    exact ⟨rfl, rfl⟩
  · rw [if_neg h40]
    obtain ⟨b, hb⟩ : ∃ b, resB x.data.toList = b := ⟨_, rfl⟩
    have hw : wordB x.data.toList = true := (wordB_iff _).2 ⟨by rw [len_str]; exact h1, by rw [len_str]; omega, ha⟩
    have Q1 := Lib.hid (fun W => right_at x W (by omega) (r := !b) (by unfold rightB; rw [hw, hl, hb]; rfl))
    have Q2 := Lib.hid (fun W => res_at x W hb)
    clear ha hl hb hw
    cases b
    · go_enter Try.func21, Try.ntmps21
      go_wp2_with (first | (go_at_call 36; refine (Q1.out _).mono ?_; rintro e w' ⟨rfl, rfl⟩) | (go_at_call 37; refine (Q2.out _).mono ?_; rintro e w' ⟨rfl, rfl⟩))
      go_ret
      exact ⟨rfl, rfl⟩
    · go_enter Try.func21, Try.ntmps21
      go_wp2_with (first | (go_at_call 36; refine (Q1.out _).mono ?_; rintro e w' ⟨rfl, rfl⟩) | (go_at_call 37; refine (Q2.out _).mono ?_; rintro e w' ⟨rfl, rfl⟩))
      go_ret
      exact ⟨rfl, rfl⟩
theorem check_var (x : ByteArray) (w : World) (hs : x.size ≤ 100000) (ha : ∀ c ∈ x.data.toList, inB c = true) (h1 : 1 ≤ x.size) (hl : (uppB (x.data.toList.getD 0 0) || undB (x.data.toList.getD 0 0)) = true) {r : Int} (hr : (if 40 < x.size then 7 else 0) = r) :
    Calls Try.prog 21 #[.int .i64 2, .string x] w fun e w' => e = .returned (.int .i64 r) ∧ w = w' := by
  subst hr
  by_cases h40 : 40 < x.size
  · rw [if_pos h40]
    have Q1 := Lib.hid (fun W => var_at x W (by omega) (r := false) (by unfold varB; rw [word_long h40]; rfl))
    clear ha hl
    go_enter Try.func21, Try.ntmps21
    go_wp2_with (go_at_call 38; refine (Q1.out _).mono ?_; rintro e w' ⟨rfl, rfl⟩)
    go_ret
    exact ⟨rfl, rfl⟩
  · rw [if_neg h40]
    have hw : wordB x.data.toList = true := (wordB_iff _).2 ⟨by rw [len_str]; exact h1, by rw [len_str]; omega, ha⟩
    have Q1 := Lib.hid (fun W => var_at x W (by omega) (r := true) (by unfold varB; rw [hw, hl]; rfl))
    clear ha hl hw
    go_enter Try.func21, Try.ntmps21
    go_wp2_with (go_at_call 38; refine (Q1.out _).mono ?_; rintro e w' ⟨rfl, rfl⟩)
    go_ret
    exact ⟨rfl, rfl⟩
theorem check_int (x : ByteArray) (w : World) (hs : x.size ≤ 100000) (ha : ∀ c ∈ x.data.toList, digB c = true) {r : Int} (hr : (if 2147483648 < valD x.data.toList then 5 else 0) = r) :
    Calls Try.prog 21 #[.int .i64 3, .string x] w fun e w' => e = .returned (.int .i64 r) ∧ w = w' := by
  subst hr
  have hd : ∀ k (h : k < x.size), digB x[k] = true := fun k h => ha _ (by
    have hl : k < x.data.toList.length := by rw [len_str]; exact h
    exact List.getElem_mem hl)
  by_cases h40 : 2147483648 < valD x.data.toList
  · rw [if_pos h40]
    have Q1 := Lib.hid (fun W => range_at x W hs hd (r := false) (by simpa using h40))
    clear ha hd h40
    go_enter Try.func21, Try.ntmps21
    go_wp2_with (go_at_call 39; refine (Q1.out _).mono ?_; rintro e w' ⟨rfl, rfl⟩)
    go_ret
    exact ⟨rfl, rfl⟩
  · rw [if_neg h40]
    have Q1 := Lib.hid (fun W => range_at x W hs hd (r := true) (by simpa using h40))
    clear ha hd h40
    go_enter Try.func21, Try.ntmps21
    go_wp2_with (go_at_call 39; refine (Q1.out _).mono ?_; rintro e w' ⟨rfl, rfl⟩)
    go_ret
    exact ⟨rfl, rfl⟩
theorem check_none (w : World) : Calls Try.prog 21 #[.int .i64 4, .string ⟨#[]⟩] w fun e w' => e = .returned (.int .i64 16) ∧ w = w' := by
  go_enter Try.func21, Try.ntmps21
  go_wp2
  go_ret
  exact ⟨rfl, rfl⟩
theorem check_sym (x : ByteArray) (w : World) (h : x.data.toList ≠ []) : Calls Try.prog 21 #[.int .i64 4, .string x] w fun e w' => e = .returned (.int .i64 0) ∧ w = w' := by
  have hx : x.toList.isEmpty = false := by rw [raw_list]; simpa using h
  clear h
  go_enter Try.func21, Try.ntmps21
  go_wp2
  go_ret
  exact ⟨rfl, rfl⟩
end Go.Proofs.Ytfmflngmhhalhaa
