/-
  The contract of Next of the reference.
-/
import Derived.Test.YtfmflngmhhalhaaTrSymbol
import Derived.Test.YtfmflngmhhalhaaTrSkip
namespace Go.Proofs.Ytfmflngmhhalhaa
open Go.RowKit

/-- The result's cell, laid first. -/
abbrev zbox : Obj := .cells #[.int .i64 0, .int .i64 0, .string ⟨#[]⟩] 24
theorem word_in (c : UInt8) : inB c = (wordyB c || digB c) := by
  unfold inB wordyB
  cases lowB c <;> cases uppB c <;> cases digB c <;> cases undB c <;> rfl
section
variable (s : ByteArray) (p q : Nat) (w : World) (hs : s.size ≤ 16384) (hp : p ≤ s.size) (hq : q ≤ s.size)
  (QS : Hid (∀ W, Calls Try.prog 22 #[.string s, .int .i64 (p : Int)] W fun e w' => e = .returned (.int .i64 (q : Int)) ∧ W = w'))
include hs hp QS
set_option maxHeartbeats 1000000 in
theorem rn_end (h : q = s.size) :
    Calls Try.prog 11 #[.string s, .int .i64 (p : Int)] w fun e w' => e = .returned (nextV ((0, s.size, []), s.size, 0)) ∧ Below w.heap.size w w' := by
  subst h
  have h0 : decide ((p : Int) < 0) = false := by simp
  have h1 : ¬ s.size < p := by omega
  have h2 : decide ((16384 : Int) < (s.size : Int)) = false := by simp; omega
  have HX := Lib.hid (extract_none s s.size)
  go_enter Try.func11, Try.ntmps11
  go_wp2_with (go_at_call 22; refine (QS.out _).mono ?_; rintro e w' ⟨rfl, rfl⟩)
  exact bodyPost_ret (v := .tuple #[.agg #[.int .i64 0, .int .i64 (s.size : Int), .string (s.extract s.size s.size)], .int .i64 (s.size : Int), .int .i64 0]) (by simp [results, Try.results11, go_sem]) rfl ⟨by rw [HX.out], below1 _ _⟩

set_option maxHeartbeats 4000000 in
theorem rn_word (h : q < s.size) (hwy : wordyB s[q] = true) :
    Calls Try.prog 11 #[.string s, .int .i64 (p : Int)] w fun e w' => e = .returned (nextV (if 40 < runP inB s q then ((0, 0, []), q, 7) else ((if lowB s[q] = true then 1 else 2, q, (rest s q).takeWhile inB), q + runP inB s q, 0))) ∧ Below w.heap.size w w' := by
  have h0 : decide ((p : Int) < 0) = false := by simp
  have h1 : ¬ s.size < p := by omega
  have h2 : decide ((16384 : Int) < (s.size : Int)) = false := by simp; omega
  have hq' : (q : Int) < (s.size : Int) := by omega
  have he : ((q : Int) == (s.size : Int)) = false := by simp; omega
  have QL := Lib.hid tr_low_at
  have QU := Lib.hid tr_upp_at
  have QD := Lib.hid tr_dig_at
  obtain ⟨b, hb⟩ : ∃ b, lowB s[q] = b := ⟨_, rfl⟩
  have Q1 := Lib.hid (fun W => tr_low_at s[q] W hb)
  have hup : b = false → (uppB s[q] || undB s[q]) = true := fun e => by subst e; simpa [wordyB, hb] using hwy
  rw [hb]
  generalize hr : runP inB s q = n
  have HX := Lib.hid (show s.extract q (q + n) = S ((rest s q).takeWhile inB) by rw [← hr]; exact runP_text inB s q)
  have HL := Lib.hid (show q + n ≤ s.size by rw [← hr]; exact runP_le (by omega))
  have HR := Lib.hid hr
  generalize hv : (if 40 < n then (((0, 0, []), q, 7) : Tk × Nat × Int) else ((if b = true then 1 else 2, q, (rest s q).takeWhile inB), q + n, 0)) = v
  have HV1 : Hid (40 < n → v = ((0, 0, []), q, 7)) := Lib.hid (fun h => by rw [← hv, if_pos h])
  have HV2 : Hid (¬ 40 < n → v = ((if b = true then 1 else 2, q, (rest s q).takeWhile inB), q + n, 0)) := Lib.hid (fun h => by rw [← hv, if_neg h])
  clear hb hwy hr hv
  cases b
  · have Q2 := Lib.hid (fun W => tr_upp_at s[q] W (hup rfl))
    clear hup
    go_enter Try.func11, Try.ntmps11
    go_wp2_with (first | (go_at_call 22; refine (QS.out _).mono ?_; rintro e w' ⟨rfl, rfl⟩) | (go_at_call 23; refine (Q1.out _).mono ?_; rintro e w' ⟨rfl, rfl⟩) | (go_at_call 24; refine (Q2.out _).mono ?_; rintro e w' ⟨rfl, rfl⟩))
    clear Q1
    go_loop [7] (fun i => ∃ m : Nat, q ≤ m ∧ m ≤ s.size ∧ i = .int .i64 (m : Int) ∧ Hid (m + runP inB s m = q + n)) (fun i => s.size - (intOf i).toNat)
    case atStart => exact ⟨q, Nat.le_refl _, by omega, rfl, Lib.hid (by rw [HR.out])⟩
    case round =>
      obtain ⟨m, hqm, hm, rfl, hk⟩ := hrel
      by_cases hlt : m < s.size
      · have hlt' : (m : Int) < (s.size : Int) := by omega
        obtain ⟨b1, hb1⟩ : ∃ b, lowB s[m] = b := ⟨_, rfl⟩
        obtain ⟨b2, hb2⟩ : ∃ b, (uppB s[m] || undB s[m]) = b := ⟨_, rfl⟩
        obtain ⟨b3, hb3⟩ : ∃ b, digB s[m] = b := ⟨_, rfl⟩
        have HI := Lib.hid (show inB s[m] = (b1 || b2 || b3) by rw [word_in, wordyB, hb1, hb2, hb3])
        have P1 := Lib.hid (fun W => QL.out s[m] W hb1)
        have P2 := Lib.hid (fun W => QU.out s[m] W hb2)
        have P3 := Lib.hid (fun W => QD.out s[m] W hb3)
        clear hb1 hb2 hb3
        by_cases hall : (b1 || b2 || b3) = true
        · have HE := Lib.hid (show (m + 1) + runP inB s (m + 1) = q + n by have := hk.out; rw [runP_next hlt (by rw [HI.out]; exact hall)] at this; omega)
          have hq1 : ¬ (9223372036854775807 < (m : Int) + 1) := by omega
          clear HI
          cases b1
          · cases b2
            · cases b3
              · cases hall
              · clear hall
                go_wp2_with (first | (go_at_call 23; refine (P1.out _).mono ?_; rintro e w' ⟨rfl, rfl⟩) | (go_at_call 24; refine (P2.out _).mono ?_; rintro e w' ⟨rfl, rfl⟩) | (go_at_call 25; refine (P3.out _).mono ?_; rintro e w' ⟨rfl, rfl⟩))
                go_round
                case rel => exact ⟨m + 1, by omega, by omega, by go_num, HE.out⟩
                case measure => simp [intOf]; omega
            · clear hall
              go_wp2_with (first | (go_at_call 23; refine (P1.out _).mono ?_; rintro e w' ⟨rfl, rfl⟩) | (go_at_call 24; refine (P2.out _).mono ?_; rintro e w' ⟨rfl, rfl⟩) | (go_at_call 25; refine (P3.out _).mono ?_; rintro e w' ⟨rfl, rfl⟩))
              go_round
              case rel => exact ⟨m + 1, by omega, by omega, by go_num, HE.out⟩
              case measure => simp [intOf]; omega
          · clear hall
            go_wp2_with (first | (go_at_call 23; refine (P1.out _).mono ?_; rintro e w' ⟨rfl, rfl⟩) | (go_at_call 24; refine (P2.out _).mono ?_; rintro e w' ⟨rfl, rfl⟩) | (go_at_call 25; refine (P3.out _).mono ?_; rintro e w' ⟨rfl, rfl⟩))
            go_round
            case rel => exact ⟨m + 1, by omega, by omega, by go_num, HE.out⟩
            case measure => simp [intOf]; omega
        · obtain ⟨rfl, rfl, rfl⟩ : b1 = false ∧ b2 = false ∧ b3 = false := by revert hall; cases b1 <;> cases b2 <;> cases b3 <;> simp
          have HE := Lib.hid (show m = q + n by have := hk.out; rw [runP_stop (fun _ => HI.out)] at this; exact this)
          clear hall HI
          have hsub : (m : Int) - (q : Int) = (n : Int) := by have := HE.out; omega
          have hqm' : (q : Int) ≤ (m : Int) := by omega
          by_cases h40 : 40 < n
          · have h40' : (40 : Int) < (n : Int) := by omega
            have HV := Lib.hid (HV1.out h40)
            clear h40
            go_wp2_with (first | (go_at_call 23; refine (P1.out _).mono ?_; rintro e w' ⟨rfl, rfl⟩) | (go_at_call 24; refine (P2.out _).mono ?_; rintro e w' ⟨rfl, rfl⟩) | (go_at_call 25; refine (P3.out _).mono ?_; rintro e w' ⟨rfl, rfl⟩))
            exact bodyPost_ret (v := .tuple #[.agg #[.int .i64 0, .int .i64 0, .string ⟨#[]⟩], .int .i64 (q : Int), .int .i64 7]) (by simp [results, Try.results11, go_sem]) rfl ⟨by rw [HV.out]; rfl, below1 _ _⟩
          · have h40' : decide ((40 : Int) < (n : Int)) = false := by simp; omega
            have HV := Lib.hid (HV2.out h40)
            have hms : (m : Int) ≤ (s.size : Int) := by omega
            clear h40
            go_wp2_with (first | (go_at_call 23; refine (P1.out _).mono ?_; rintro e w' ⟨rfl, rfl⟩) | (go_at_call 24; refine (P2.out _).mono ?_; rintro e w' ⟨rfl, rfl⟩) | (go_at_call 25; refine (P3.out _).mono ?_; rintro e w' ⟨rfl, rfl⟩))
            exact bodyPost_ret (v := .tuple #[.agg #[.int .i64 2, .int .i64 (q : Int), .string (s.extract q m)], .int .i64 (m : Int), .int .i64 0]) (by simp [results, Try.results11, go_sem]) rfl ⟨by rw [HV.out, HE.out, HX.out]; rfl, below1 _ _⟩
      · have HE := Lib.hid (show m = q + n by have := hk.out; rw [runP_stop (fun h => absurd h hlt)] at this; exact this)
        have hsub : (m : Int) - (q : Int) = (n : Int) := by have := HE.out; omega
        have hqm' : (q : Int) ≤ (m : Int) := by omega
        have hmd : decide ((m : Int) < (s.size : Int)) = false := by simp; omega
        by_cases h40 : 40 < n
        · have h40' : (40 : Int) < (n : Int) := by omega
          have HV := Lib.hid (HV1.out h40)
          clear h40
          go_wp2_with fail
          exact bodyPost_ret (v := .tuple #[.agg #[.int .i64 0, .int .i64 0, .string ⟨#[]⟩], .int .i64 (q : Int), .int .i64 7]) (by simp [results, Try.results11, go_sem]) rfl ⟨by rw [HV.out]; rfl, below1 _ _⟩
        · have h40' : decide ((40 : Int) < (n : Int)) = false := by simp; omega
          have HV := Lib.hid (HV2.out h40)
          have hms : (m : Int) ≤ (s.size : Int) := by omega
          clear h40
          go_wp2_with fail
          exact bodyPost_ret (v := .tuple #[.agg #[.int .i64 2, .int .i64 (q : Int), .string (s.extract q m)], .int .i64 (m : Int), .int .i64 0]) (by simp [results, Try.results11, go_sem]) rfl ⟨by rw [HV.out, HE.out, HX.out]; rfl, below1 _ _⟩
  · clear hup
    go_enter Try.func11, Try.ntmps11
    go_wp2_with (first | (go_at_call 22; refine (QS.out _).mono ?_; rintro e w' ⟨rfl, rfl⟩) | (go_at_call 23; refine (Q1.out _).mono ?_; rintro e w' ⟨rfl, rfl⟩) | (go_at_call 24; refine (QU.out _).mono ?_; rintro e w' ⟨rfl, rfl⟩))
    clear Q1
    go_loop [7] (fun i => ∃ m : Nat, q ≤ m ∧ m ≤ s.size ∧ i = .int .i64 (m : Int) ∧ Hid (m + runP inB s m = q + n)) (fun i => s.size - (intOf i).toNat)
    case atStart => exact ⟨q, Nat.le_refl _, by omega, rfl, Lib.hid (by rw [HR.out])⟩
    case round =>
      obtain ⟨m, hqm, hm, rfl, hk⟩ := hrel
      by_cases hlt : m < s.size
      · have hlt' : (m : Int) < (s.size : Int) := by omega
        obtain ⟨b1, hb1⟩ : ∃ b, lowB s[m] = b := ⟨_, rfl⟩
        obtain ⟨b2, hb2⟩ : ∃ b, (uppB s[m] || undB s[m]) = b := ⟨_, rfl⟩
        obtain ⟨b3, hb3⟩ : ∃ b, digB s[m] = b := ⟨_, rfl⟩
        have HI := Lib.hid (show inB s[m] = (b1 || b2 || b3) by rw [word_in, wordyB, hb1, hb2, hb3])
        have P1 := Lib.hid (fun W => QL.out s[m] W hb1)
        have P2 := Lib.hid (fun W => QU.out s[m] W hb2)
        have P3 := Lib.hid (fun W => QD.out s[m] W hb3)
        clear hb1 hb2 hb3
        by_cases hall : (b1 || b2 || b3) = true
        · have HE := Lib.hid (show (m + 1) + runP inB s (m + 1) = q + n by have := hk.out; rw [runP_next hlt (by rw [HI.out]; exact hall)] at this; omega)
          have hq1 : ¬ (9223372036854775807 < (m : Int) + 1) := by omega
          clear HI
          cases b1
          · cases b2
            · cases b3
              · cases hall
              · clear hall
                go_wp2_with (first | (go_at_call 23; refine (P1.out _).mono ?_; rintro e w' ⟨rfl, rfl⟩) | (go_at_call 24; refine (P2.out _).mono ?_; rintro e w' ⟨rfl, rfl⟩) | (go_at_call 25; refine (P3.out _).mono ?_; rintro e w' ⟨rfl, rfl⟩))
                go_round
                case rel => exact ⟨m + 1, by omega, by omega, by go_num, HE.out⟩
                case measure => simp [intOf]; omega
            · clear hall
              go_wp2_with (first | (go_at_call 23; refine (P1.out _).mono ?_; rintro e w' ⟨rfl, rfl⟩) | (go_at_call 24; refine (P2.out _).mono ?_; rintro e w' ⟨rfl, rfl⟩) | (go_at_call 25; refine (P3.out _).mono ?_; rintro e w' ⟨rfl, rfl⟩))
              go_round
              case rel => exact ⟨m + 1, by omega, by omega, by go_num, HE.out⟩
              case measure => simp [intOf]; omega
          · clear hall
            go_wp2_with (first | (go_at_call 23; refine (P1.out _).mono ?_; rintro e w' ⟨rfl, rfl⟩) | (go_at_call 24; refine (P2.out _).mono ?_; rintro e w' ⟨rfl, rfl⟩) | (go_at_call 25; refine (P3.out _).mono ?_; rintro e w' ⟨rfl, rfl⟩))
            go_round
            case rel => exact ⟨m + 1, by omega, by omega, by go_num, HE.out⟩
            case measure => simp [intOf]; omega
        · obtain ⟨rfl, rfl, rfl⟩ : b1 = false ∧ b2 = false ∧ b3 = false := by revert hall; cases b1 <;> cases b2 <;> cases b3 <;> simp
          have HE := Lib.hid (show m = q + n by have := hk.out; rw [runP_stop (fun _ => HI.out)] at this; exact this)
          clear hall HI
          have hsub : (m : Int) - (q : Int) = (n : Int) := by have := HE.out; omega
          have hqm' : (q : Int) ≤ (m : Int) := by omega
          by_cases h40 : 40 < n
          · have h40' : (40 : Int) < (n : Int) := by omega
            have HV := Lib.hid (HV1.out h40)
            clear h40
            go_wp2_with (first | (go_at_call 23; refine (P1.out _).mono ?_; rintro e w' ⟨rfl, rfl⟩) | (go_at_call 24; refine (P2.out _).mono ?_; rintro e w' ⟨rfl, rfl⟩) | (go_at_call 25; refine (P3.out _).mono ?_; rintro e w' ⟨rfl, rfl⟩))
            exact bodyPost_ret (v := .tuple #[.agg #[.int .i64 0, .int .i64 0, .string ⟨#[]⟩], .int .i64 (q : Int), .int .i64 7]) (by simp [results, Try.results11, go_sem]) rfl ⟨by rw [HV.out]; rfl, below1 _ _⟩
          · have h40' : decide ((40 : Int) < (n : Int)) = false := by simp; omega
            have HV := Lib.hid (HV2.out h40)
            have hms : (m : Int) ≤ (s.size : Int) := by omega
            clear h40
            go_wp2_with (first | (go_at_call 23; refine (P1.out _).mono ?_; rintro e w' ⟨rfl, rfl⟩) | (go_at_call 24; refine (P2.out _).mono ?_; rintro e w' ⟨rfl, rfl⟩) | (go_at_call 25; refine (P3.out _).mono ?_; rintro e w' ⟨rfl, rfl⟩))
            exact bodyPost_ret (v := .tuple #[.agg #[.int .i64 1, .int .i64 (q : Int), .string (s.extract q m)], .int .i64 (m : Int), .int .i64 0]) (by simp [results, Try.results11, go_sem]) rfl ⟨by rw [HV.out, HE.out, HX.out]; rfl, below1 _ _⟩
      · have HE := Lib.hid (show m = q + n by have := hk.out; rw [runP_stop (fun h => absurd h hlt)] at this; exact this)
        have hsub : (m : Int) - (q : Int) = (n : Int) := by have := HE.out; omega
        have hqm' : (q : Int) ≤ (m : Int) := by omega
        have hmd : decide ((m : Int) < (s.size : Int)) = false := by simp; omega
        by_cases h40 : 40 < n
        · have h40' : (40 : Int) < (n : Int) := by omega
          have HV := Lib.hid (HV1.out h40)
          clear h40
          go_wp2_with fail
          exact bodyPost_ret (v := .tuple #[.agg #[.int .i64 0, .int .i64 0, .string ⟨#[]⟩], .int .i64 (q : Int), .int .i64 7]) (by simp [results, Try.results11, go_sem]) rfl ⟨by rw [HV.out]; rfl, below1 _ _⟩
        · have h40' : decide ((40 : Int) < (n : Int)) = false := by simp; omega
          have HV := Lib.hid (HV2.out h40)
          have hms : (m : Int) ≤ (s.size : Int) := by omega
          clear h40
          go_wp2_with fail
          exact bodyPost_ret (v := .tuple #[.agg #[.int .i64 1, .int .i64 (q : Int), .string (s.extract q m)], .int .i64 (m : Int), .int .i64 0]) (by simp [results, Try.results11, go_sem]) rfl ⟨by rw [HV.out, HE.out, HX.out]; rfl, below1 _ _⟩
end
end Go.Proofs.Ytfmflngmhhalhaa
