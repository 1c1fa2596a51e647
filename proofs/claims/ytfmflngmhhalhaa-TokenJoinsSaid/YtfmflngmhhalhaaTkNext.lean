/-
  The contract of Next of the program.
-/
import Derived.Test.YtfmflngmhhalhaaTkBounds
import Derived.Test.YtfmflngmhhalhaaTkSkip
namespace Go.Proofs.Ytfmflngmhhalhaa
open Go.RowKit

section
variable (s : ByteArray) (p q m : Nat) (k er : Int) (w : World) (hs : s.size ≤ 16384) (hp : p ≤ s.size) (hqm : q ≤ m) (hm : m ≤ s.size)
  (QS : Hid (∀ W, Calls Try.prog 19 #[.string s, .int .i64 (p : Int)] W fun e w' => e = .returned (.int .i64 (q : Int)) ∧ W = w'))
  (QB : Hid (∀ W, Calls Try.prog 20 #[.string s, .int .i64 (q : Int)] W (Bound k m W)))
include hs hp hqm hm QS QB
set_option maxHeartbeats 1000000 in
theorem next_ok (QC : Hid (∀ W, Calls Try.prog 21 #[.int .i64 k, .string (s.extract q m)] W fun e w' => e = .returned (.int .i64 0) ∧ W = w')) :
    Calls Try.prog 10 #[.string s, .int .i64 (p : Int)] w fun e w' => e = .returned (.tuple #[.agg #[.int .i64 k, .int .i64 (q : Int), .string (s.extract q m)], .int .i64 (m : Int), .int .i64 0]) ∧ Below w.heap.size w w' := by
  have h0 : decide ((p : Int) < 0) = false := by simp
  have h1 : ¬ s.size < p := by omega
  have h2 : decide ((16384 : Int) < (s.size : Int)) = false := by simp; omega
  have hqm' : (q : Int) ≤ (m : Int) := by omega
  have hm' : (m : Int) ≤ (s.size : Int) := by omega
  go_enter Try.func10, Try.ntmps10
  go_wp2_with (first | (go_at_call 19; refine (QS.out _).mono ?_; rintro e w' ⟨rfl, rfl⟩) | (go_at_call 20; refine (QB.out _).mono ?_; rintro e w' ⟨rfl, rfl⟩) | (go_at_call 21; refine (QC.out _).mono ?_; rintro e w' ⟨rfl, rfl⟩))
  exact bodyPost_ret (v := .tuple #[.agg #[.int .i64 k, .int .i64 (q : Int), .string (s.extract q m)], .int .i64 (m : Int), .int .i64 0]) (by simp [results, Try.results10, go_sem]) rfl ⟨rfl, (Below.refl _ _).alloc (Nat.le_refl _) _⟩
set_option maxHeartbeats 1000000 in
theorem next_err (her : (er == 0) = false) (QC : Hid (∀ W, Calls Try.prog 21 #[.int .i64 k, .string (s.extract q m)] W fun e w' => e = .returned (.int .i64 er) ∧ W = w')) :
    Calls Try.prog 10 #[.string s, .int .i64 (p : Int)] w fun e w' => e = .returned (.tuple #[.agg #[.int .i64 0, .int .i64 0, .string ⟨#[]⟩], .int .i64 (q : Int), .int .i64 er]) ∧ Below w.heap.size w w' := by
  have h0 : decide ((p : Int) < 0) = false := by simp
  have h1 : ¬ s.size < p := by omega
  have h2 : decide ((16384 : Int) < (s.size : Int)) = false := by simp; omega
  have hqm' : (q : Int) ≤ (m : Int) := by omega
  have hm' : (m : Int) ≤ (s.size : Int) := by omega
  have her' : (er != 0) = true := by simp [bne, her]
  go_enter Try.func10, Try.ntmps10
  go_wp2_with (first | (go_at_call 19; refine (QS.out _).mono ?_; rintro e w' ⟨rfl, rfl⟩) | (go_at_call 20; refine (QB.out _).mono ?_; rintro e w' ⟨rfl, rfl⟩) | (go_at_call 21; refine (QC.out _).mono ?_; rintro e w' ⟨rfl, rfl⟩))
  exact bodyPost_ret (v := .tuple #[.agg #[.int .i64 0, .int .i64 0, .string ⟨#[]⟩], .int .i64 (q : Int), .int .i64 er]) (by simp [results, Try.results10, go_sem]) rfl ⟨rfl, (Below.refl _ _).alloc (Nat.le_refl _) _⟩
end
theorem while_all (k : UInt8 → Bool) : ∀ (l : List UInt8), ∀ c ∈ l.takeWhile k, k c = true
  | [], c, h => by simp at h
  | x :: l, c, h => by
    cases hx : k x with
    | true =>
      rw [List.takeWhile_cons_of_pos hx] at h
      rcases List.mem_cons.1 h with rfl | h
      · exact hx
      · exact while_all k l c h
    | false => rw [List.takeWhile_cons_of_neg (by rw [hx]; decide)] at h; simp at h
theorem extract_none (s : ByteArray) (q : Nat) : s.extract q q = S [] := S_of (by rw [extract_list, Nat.sub_self, List.take_zero])
/-- The tokens' answer, case by case. -/
theorem next_in (s : ByteArray) (p : Nat) (w : World) (hs : s.size ≤ 16384) (hp : p ≤ s.size) :
    Calls Try.prog 10 #[.string s, .int .i64 (p : Int)] w fun e w' => e = .returned (nextV (tokAt s p)) ∧ Below w.heap.size w w' := by
  obtain ⟨f1, f2, f3⟩ := skipP_facts hp
  have hg := f3.symm
  generalize hqd : skipP s p = q at f1 f2 f3 hg
  have QS := Lib.hid (fun W => skip_at s p W (by omega) hp hqd)
  have hs' : s.size ≤ 100000 := by omega
  rcases Nat.lt_or_ge q s.size with hq | hq
  · have hc := rest_cons hq
    cases hwy : wordyB s[q] with
    | true =>
      have ha : ∀ c ∈ (S ((rest s q).takeWhile inB)).data.toList, inB c = true := fun c h => while_all _ _ c h
      have hin : inB s[q] = true := by
        simp only [wordyB, Bool.or_eq_true] at hwy
        simp only [inB, Bool.or_eq_true]
        rcases hwy with h | h | h
        · exact .inl (.inl (.inl h))
        · exact .inl (.inl (.inr h))
        · exact .inr h
      have hsz : (S ((rest s q).takeWhile inB)).size = runP inB s q := by simp [ByteArray.size, runP]
      have h1 : 1 ≤ runP inB s q := by rw [runP_next hq hin]; omega
      have hle := runP_le (k := inB) (s := s) (q := q) (by omega)
      have hhd : (S ((rest s q).takeWhile inB)).data.toList.getD 0 0 = s[q] := by
        show ((rest s q).takeWhile inB).getD 0 0 = s[q]
        rw [hc, List.takeWhile_cons_of_pos hin]; rfl
      have htok : tokL (gap false (rest s p)) = if 40 < runP inB s q then (0, [], 7) else (if lowB s[q] = true then 1 else 2, (rest s q).takeWhile inB, 0) := by
        rw [hg, hc, tok_word hwy, ← hc]; rfl
      cases hlo : lowB s[q] with
      | true =>
        rw [hlo, if_pos rfl] at htok
        have QB := Lib.hid (fun W => bound_low s q W hs' hq hlo)
        have QC := fun W => check_name (S ((rest s q).takeWhile inB)) W (by rw [hsz]; omega) ha (by rw [hsz]; exact h1) (by rw [hhd]; exact hlo) rfl
        rw [hsz, ← runP_text inB s q] at QC
        by_cases h40 : 40 < runP inB s q
        · rw [if_pos h40] at htok QC
          rw [tokAt_err hqd htok (by decide)]
          exact next_err s p q _ 1 7 w hs hp (by omega) hle QS QB rfl (Lib.hid QC)
        · rw [if_neg h40] at htok QC
          rw [tokAt_ok hqd htok]
          have := next_ok s p q _ 1 w hs hp (by omega) hle QS QB (Lib.hid QC)
          rw [runP_text] at this
          exact this
      | false =>
        simp only [hlo, Bool.false_eq_true, if_false] at htok
        have hup : (uppB s[q] || undB s[q]) = true := by simpa [wordyB, hlo] using hwy
        have QB := Lib.hid (fun W => bound_var s q W hs' hq hlo hup)
        have QC := fun W => check_var (S ((rest s q).takeWhile inB)) W (by rw [hsz]; omega) ha (by rw [hsz]; exact h1) (by rw [hhd]; exact hup) rfl
        rw [hsz, ← runP_text inB s q] at QC
        by_cases h40 : 40 < runP inB s q
        · rw [if_pos h40] at htok QC
          rw [tokAt_err hqd htok (by decide)]
          exact next_err s p q _ 2 7 w hs hp (by omega) hle QS QB rfl (Lib.hid QC)
        · rw [if_neg h40] at htok QC
          rw [tokAt_ok hqd htok]
          have := next_ok s p q _ 2 w hs hp (by omega) hle QS QB (Lib.hid QC)
          rw [runP_text] at this
          exact this
    | false =>
      cases hdi : digB s[q] with
      | true =>
        have hsz : (S ((rest s q).takeWhile digB)).size = runP digB s q := by simp [ByteArray.size, runP]
        have hle := runP_le (k := digB) (s := s) (q := q) (by omega)
        have htok : tokL (gap false (rest s p)) = if 2147483648 < valD ((rest s q).takeWhile digB) then (0, [], 5) else (3, (rest s q).takeWhile digB, 0) := by
          rw [hg, hc, tok_dig hwy hdi]
        have QB := Lib.hid (fun W => bound_dig s q W hs' hq hwy hdi)
        have QC := fun W => check_int (S ((rest s q).takeWhile digB)) W (by rw [hsz]; omega) (fun c h => while_all _ _ c h) rfl
        rw [← runP_text digB s q] at QC
        have hx : (s.extract q (q + runP digB s q)).data.toList = (rest s q).takeWhile digB := by rw [runP_text]
        rw [hx] at QC
        by_cases h40 : 2147483648 < valD ((rest s q).takeWhile digB)
        · rw [if_pos h40] at htok QC
          rw [tokAt_err hqd htok (by decide)]
          exact next_err s p q _ 3 5 w hs hp (by omega) hle QS QB rfl (Lib.hid QC)
        · rw [if_neg h40] at htok QC
          rw [tokAt_ok hqd htok]
          have := next_ok s p q _ 3 w hs hp (by omega) hle QS QB (Lib.hid QC)
          rw [runP_text] at this
          exact this
      | false =>
        have hle := symP_le (s := s) (q := q) (by omega)
        have htok : tokL (gap false (rest s p)) = if symP (rest s q) = [] then (0, [], 16) else (4, symP (rest s q), 0) := by
          rw [hg, hc, tok_sym hwy hdi]
        have QB := Lib.hid (fun W => bound_sym s q W hs' hq hwy hdi)
        by_cases h0 : symP (rest s q) = []
        · rw [if_pos h0] at htok
          have QC := Lib.hid check_none
          rw [show (ByteArray.mk #[]) = s.extract q (q + (symP (rest s q)).length) by rw [symP_text, h0]] at QC
          rw [tokAt_err hqd htok (by decide)]
          exact next_err s p q _ 4 16 w hs hp (by omega) hle QS QB rfl QC
        · rw [if_neg h0] at htok
          have QC := Lib.hid (fun W => check_sym (S (symP (rest s q))) W h0)
          rw [← symP_text] at QC
          rw [tokAt_ok hqd htok]
          have := next_ok s p q _ 4 w hs hp (by omega) hle QS QB QC
          rw [symP_text] at this
          exact this
  · obtain rfl : q = s.size := by omega
    have htok : tokL (gap false (rest s p)) = (0, [], 0) := by rw [hg, rest_end (Nat.le_refl _)]; rfl
    rw [tokAt_ok hqd htok]
    have := next_ok s p s.size s.size 0 w hs hp (Nat.le_refl _) (Nat.le_refl _) QS (Lib.hid (bound_end s)) (Lib.hid (check_end _))
    rw [extract_none] at this
    exact this

set_option maxHeartbeats 1000000 in
theorem next_at (s : ByteArray) (a : Int) (w : World) (hs : s.size ≤ 100000) :
    Calls Try.prog 10 #[.string s, .int .i64 a] w fun e w' => e = .returned (nextV (nextP s a)) ∧ Below w.heap.size w w' := by
  by_cases h0 : a < 0
  · have HV := Lib.hid (show nextP s a = ((0, 0, []), 0, 2) by unfold nextP; rw [if_pos (.inl h0)])
    go_enter Try.func10, Try.ntmps10
    go_wp2
    exact bodyPost_ret (v := .tuple #[.agg #[.int .i64 0, .int .i64 0, .string ⟨#[]⟩], .int .i64 0, .int .i64 2]) (by simp [results, Try.results10, go_sem]) rfl ⟨by rw [HV.out]; rfl, (Below.refl _ _).alloc (Nat.le_refl _) _⟩
  · obtain ⟨q, rfl⟩ : ∃ q : Nat, a = (q : Int) := ⟨a.toNat, by omega⟩
    by_cases h1 : (s.size : Int) < (q : Int)
    · have HV := Lib.hid (show nextP s (q : Int) = ((0, 0, []), 0, 2) by unfold nextP; rw [if_pos (.inr h1)])
      have h1' : s.size < q := by omega
      clear h0 h1
      go_enter Try.func10, Try.ntmps10
      go_wp2
      exact bodyPost_ret (v := .tuple #[.agg #[.int .i64 0, .int .i64 0, .string ⟨#[]⟩], .int .i64 0, .int .i64 2]) (by simp [results, Try.results10, go_sem]) rfl ⟨by rw [HV.out]; rfl, (Below.refl _ _).alloc (Nat.le_refl _) _⟩
    · by_cases h2 : 16384 < s.size
      · have HV := Lib.hid (show nextP s (q : Int) = ((0, 0, []), 0, 6) by unfold nextP; rw [if_neg (by omega), if_pos h2])
        have h1' : ¬ s.size < q := by omega
        have h2' : (16384 : Int) < (s.size : Int) := by omega
        clear h0 h1 h2
        go_enter Try.func10, Try.ntmps10
        go_wp2
        exact bodyPost_ret (v := .tuple #[.agg #[.int .i64 0, .int .i64 0, .string ⟨#[]⟩], .int .i64 0, .int .i64 6]) (by simp [results, Try.results10, go_sem]) rfl ⟨by rw [HV.out]; rfl, (Below.refl _ _).alloc (Nat.le_refl _) _⟩
      · have e : nextP s (q : Int) = tokAt s q := by unfold nextP; rw [if_neg (by omega), if_neg h2]; rfl
        rw [e]
        exact next_in s q w (by omega) (by omega)
end Go.Proofs.Ytfmflngmhhalhaa
