/-
  The walk of TokenJoins.
-/
import Derived.Lib.QuietBelow
import Derived.ProofKit
import Derived.OpenShut
import Derived.ChangeOld
import Derived.Test.YtfmflngmhhalhaaTkWords
namespace Go.Proofs.Ytfmflngmhhalhaa.tokenJoins
open Go.ChangeShapes Go.WideShapes Go.ChangeAt Go.RowKit Go.Sort
set_option linter.unusedVariables false

set_option maxHeartbeats 8000000 in
set_option maxRecDepth 40000 in
theorem walk (a0 : ByteArray) (a1 : ByteArray) (w : World) (w0 : a0.size ≤ maxLen) (w1 : a1.size ≤ maxLen) :
    Calls Try.prog 6 #[.string a0, .string a1] w fun e w' => e = .returned (.bool true) ∧ Below w.heap.size w w' := by
  by_cases hs : 2000 < a0.size
  · have hs' : (2000 : Int) < (a0.size : Int) := by omega
    go_enter Try.func6, Try.ntmps6
    go_wp2_with (go_at_call 12; refine (live_at _).mono ?_; rintro e w9 ⟨rfl, hb9⟩; have HL := Lib.hid hb9; clear hb9)
    go_ret
    exact ⟨rfl, HL.out⟩
  have hs' : decide ((2000 : Int) < (a0.size : Int)) = false := by simp; omega
  by_cases hn : 20 < a1.size
  · have hn' : (20 : Int) < (a1.size : Int) := by omega
    clear hs
    go_enter Try.func6, Try.ntmps6
    go_wp2_with (go_at_call 12; refine (live_at _).mono ?_; rintro e w9 ⟨rfl, hb9⟩; have HL := Lib.hid hb9; clear hb9)
    go_ret
    exact ⟨rfl, HL.out⟩
  have hn' : decide ((20 : Int) < (a1.size : Int)) = false := by simp; omega
  have HS := Lib.hid (show a0.size ≤ 2000 by omega)
  have HN := Lib.hid (show a1.size ≤ 20 by omega)
  have hn2 : a1.size ≤ 20 := by omega
  clear hs hn
  go_enter Try.func6, Try.ntmps6
  go_wp2_with (go_at_call 12; refine (live_at _).mono ?_; rintro e w9 ⟨rfl, hb9⟩; have HL := Lib.hid hb9; clear hb9)
  go_loop [5] (fun i => ∃ k : Nat, k ≤ a1.size ∧ i = .int .i64 (k : Int) ∧ Hid (∀ c ∈ a1.data.toList.take k, c ≠ 10)) (fun i => a1.size - (intOf i).toNat)
  case atStart => exact ⟨0, Nat.zero_le _, rfl, Lib.hid (by simp)⟩
  case round =>
    obtain ⟨k, hk, rfl, HA⟩ := hrel
    by_cases hlt : k < a1.size
    · have hlt' : (k : Int) < (a1.size : Int) := by omega
      by_cases h10 : a1[k] = 10
      · have h10' : ((a1[k].toNat : Int) == 10) = true := byte_eq (b := 10) h10
        clear h10
        go_wp2_with fail
        go_ret
        exact ⟨rfl, HL.out⟩
      · have h10' : ((a1[k].toNat : Int) == 10) = false := byte_ne (b := 10) h10
        have HN2 := Lib.hid (show ∀ c ∈ a1.data.toList.take (k + 1), c ≠ 10 by
          rw [take_next hlt]
          intro c hc
          rcases List.mem_append.1 hc with h | h
          · exact HA.out c h
          · rw [List.mem_singleton.1 h]; exact h10)
        have hk63 : ¬ (9223372036854775807 < (k : Int) + 1) := by omega
        clear h10
        go_wp2_with fail
        go_round
        case rel => exact ⟨k + 1, by omega, by go_num, HN2⟩
        case measure => simp [intOf]; omega
    · obtain rfl : k = a1.size := by omega
      have H10 := Lib.hid (show 10 ∉ a1.data.toList from fun h => HA.out 10 (by rw [take_all]; exact h) rfl)
      have Q1 := Lib.hid (fun W => scan_at a0 W (by have := HS.out; omega))
      unfold ScanR at Q1
      have hsc := scan_cases a0
      have HJ := Lib.hid (joined_of a0 a1.data.toList HS.out (by rw [len_str]; exact HN.out) H10.out)
      generalize scanP a0 = x at Q1 HJ hsc
      obtain ⟨l, n, er⟩ := x
      clear HA hlt
      rcases hsc with ⟨he, hl, hn⟩ | ⟨he, hn, hsz, M, hM, hlast, hcov⟩
      · simp only at he hl hn
        subst hl
        have her : (er != 0) = true := by simpa using he
        clear he
        go_wp2_with fail
        refine (Q1.out _).mono ?_
        rintro e w1 ⟨A, c, rfl, hl1, hb1⟩
        have HB := Lib.hid (HL.out.trans (hb1.mono HL.out.size))
        clear hb1 hl1
        simp only [List.length_nil]
        go_wp2_with fail
        go_ret
        exact ⟨rfl, HB.out⟩
      · simp only at he hn hM hlast hcov
        subst he hn
        obtain ⟨hjo, hj2, hj3⟩ := HJ.out rfl
        simp only at hjo hj2 hj3
        have HJO := Lib.hid hjo
        have HJ2 := Lib.hid hj2
        clear hjo hlast hcov hsz HJ hj2 hM M
        go_wp2_with fail
        refine (Q1.out _).mono ?_
        rintro e w1 ⟨A, c, rfl, hl1, hb1⟩
        have HB := Lib.hid (HL.out.trans (hb1.mono HL.out.size))
        have HT := Lib.hid hl1
        clear hb1 hl1 HL Q1
        simp only
        generalize hL : l.length = L at hj3
        have HLL := Lib.hid hL
        clear hL
        have HH : Hid (∀ y : ByteArray, y = { data := #[35] } ++ a1 ++ { data := #[10] } → y.data.toList = 35 :: (a1.data.toList ++ [10])) := Lib.hid (fun y e => by rw [e]; simp)
        go_wp2_with fail
        go_loop [9, 10, 11] (fun za zb iz => ∃ (i : Nat) (x y : ByteArray), i ≤ L ∧ iz = .int .i64 (i : Int) ∧ za = .string x ∧ zb = .string y ∧ Hid (x.data.toList = joinT [32] (l.take i)) ∧ Hid (y.data.toList = 35 :: (a1.data.toList ++ [10]) ++ joinT (9 :: 35 :: (a1.data.toList ++ [10])) (l.take (min i 300)))) (fun _ _ iz => L - (intOf iz).toNat)
        case atStart => exact ⟨0, ⟨#[]⟩, _, Nat.zero_le _, rfl, rfl, rfl, Lib.hid rfl, Lib.hid (by rw [HH.out _ rfl]; simp [joinT])⟩
        case round =>
          obtain ⟨i, x, y, hi, rfl, rfl, rfl, HX, HY⟩ := hrel
          obtain ⟨hxs, hys⟩ := built_small HX.out HY.out HJ2.out (by rw [HLL.out]; exact hj3) HN.out
          by_cases hil : i < L
          · have hil' : (i : Int) < (L : Int) := by omega
            obtain ⟨g, rfl, c0, c1, c2⟩ := HT.out.get (i := i) (by rw [HLL.out]; exact hil)
            have HX2 := Lib.hid (built_next (z := S (l.getD i default).2.2) HX.out (by rw [HLL.out]; exact hil) rfl)
            have HZ := text_small (l := l) (i := i) HJ2.out (by rw [HLL.out]; exact hil)
            have HY2 := Lib.hid (fun h => built_next2 (z := S (l.getD i default).2.2) (a := a1) HY.out (by rw [HLL.out]; exact hil) h rfl)
            have HY3 := Lib.hid (fun h => built_over (i := i) HY.out h)
            generalize S (l.getD i default).2.2 = z at c2 HX2 HZ HY2
            have hi63 : ¬ (9223372036854775807 < (i : Int) + 1) := by omega
            clear c0 c1
            by_cases h3 : i < 300
            · have h3' : (i : Int) < 300 := by omega
              go_wp2_with fail
              go_round
              case rel => exact ⟨i + 1, _, _, by omega, by go_num, rfl, rfl, HX2, HY2.out h3⟩
              case measure => simp [intOf]; omega
            · have h3' : decide ((i : Int) < 300) = false := by simp; omega
              go_wp2_with fail
              go_round
              case rel => exact ⟨i + 1, _, _, by omega, by go_num, rfl, rfl, HX2, HY3.out h3⟩
              case measure => simp [intOf]; omega
          · obtain rfl : i = L := by omega
            have QA := Lib.hid (fun W => scan_at x W (by omega))
            have QB := Lib.hid (fun W => scan_at y W (by omega))
            unfold ScanR at QA QB
            obtain ⟨ja1, ja2⟩ := HJO.out.one x (by rw [HX.out, List.take_of_length_le (by rw [HLL.out]; exact Nat.le_refl _)])
            obtain ⟨jb1, jb2, jb3⟩ := HJO.out.two y (by rw [HY.out, take_min_len HLL.out])
            generalize scanP x = ra at QA ja1 ja2
            generalize scanP y = rb at QB jb1 jb2 jb3
            obtain ⟨la, na, ea⟩ := ra
            obtain ⟨lb, nb, eb⟩ := rb
            simp only at ja1 ja2 jb1 jb2 jb3
            subst ja1 jb1
            have hla : la.length = i := by
              have := congrArg List.length ja2
              rw [words_len, words_len, HLL.out] at this
              exact this
            rw [HLL.out] at jb2 jb3
            have HA2 : Hid (∀ j, j < i → (la.getD j default).1 = (l.getD j default).1 ∧ (la.getD j default).2.2 = (l.getD j default).2.2) := Lib.hid (fun j hj => words_same (by rw [ja2]) (by rw [hla]; exact hj) (by rw [HLL.out]; exact hj))
            have HB3 : Hid (∀ j, j < 300 → j < i → j < lb.length ∧ (lb.getD j default).1 = (l.getD j default).1 ∧ (lb.getD j default).2.2 = (l.getD j default).2.2) := Lib.hid (fun j h3 hj => ⟨(jb3 j h3 hj).1, words_same (jb3 j h3 hj).2 (jb3 j h3 hj).1 (by rw [HLL.out]; exact hj)⟩)
            generalize hlb : lb.length = N at jb2
            have HLA := Lib.hid hla
            have HLB := Lib.hid hlb
            clear HX HY hxs hys jb3 ja2 HJO HJ2 hla hlb hil
            go_wp2_with fail
            refine (QA.out _).mono ?_
            rintro e w2 ⟨A2, d, rfl, hl2, hb2⟩
            have HT2 := Lib.hid hl2
            have HT' := Lib.hid (HT.out.below hb2)
            have HB2 := Lib.hid (HB.out.trans (hb2.mono HB.out.size))
            clear hl2 hb2 HT HB QA
            simp only
            rw [HLA.out]
            go_wp2_with fail
            refine (QB.out _).mono ?_
            rintro e w3 ⟨A3, d3, rfl, hl3, hb3⟩
            have HT3 := Lib.hid hl3
            have HTa := Lib.hid (HT2.out.below hb3)
            have HTl := Lib.hid (HT'.out.below hb3)
            have HBB := Lib.hid (HB2.out.trans (hb3.mono HB2.out.size))
            clear hl3 hb3 HT2 HT' HB2 QB
            simp only
            rw [HLB.out]
            by_cases h300 : i ≤ 300
            · have h300' : (i : Int) ≤ 300 := by omega
              have hNi := jb2 h300
              have H300 := Lib.hid h300
              have HNi := Lib.hid hNi
              clear jb2
              subst hNi
              go_wp2_with fail
              go_loopw [18] (fun jz wr => ∃ j : Nat, j ≤ N ∧ jz = .int .i64 (j : Int) ∧ Hid (TLst wr A l c) ∧ Hid (TLst wr A2 la d) ∧ Hid (TLst wr A3 lb d3) ∧ Hid (Below w.heap.size w wr)) (fun jz _ => N - (intOf jz).toNat)
              case atStart => exact ⟨0, Nat.zero_le _, rfl, HTl, HTa, HT3, HBB⟩
              case round =>
                obtain ⟨j, hj, rfl, G1, G2, G3, GB⟩ := hrel
                by_cases hji : j < N
                · have hji' : (j : Int) < (N : Int) := by omega
                  have hj63 : ¬ (9223372036854775807 < (j : Int) + 1) := by omega
                  obtain ⟨g1, rfl, c0, c1, c2⟩ := G1.out.get (i := j) (by rw [HLL.out]; exact hji)
                  obtain ⟨g2, rfl, d0, d1, d2⟩ := G2.out.get (i := j) (by rw [HLA.out]; exact hji)
                  obtain ⟨x1, x2⟩ := HA2.out j hji
                  rw [x1] at d0
                  rw [x2] at d2
                  by_cases hj3 : j < 300
                  · have hj3' : (j : Int) < 300 := by omega
                    obtain ⟨y0, y1, y2⟩ := HB3.out j hj3 hji
                    obtain ⟨g3, rfl, e0, e1, e2⟩ := G3.out.get (i := j) y0
                    rw [y1] at e0
                    rw [y2] at e2
                    rw [HLB.out] at y0
                    have y0' : (j : Int) < (N : Int) := by omega
                    clear x1 x2 y1 y2 c1 d1 e1
                    generalize l.getD j default = q at c0 c2 d0 d2 e0 e2
                    obtain ⟨k, at_, t⟩ := q
                    simp only at c0 c2 d0 d2 e0 e2
                    by_cases hk : k = 0
                    · subst hk
                      go_wp2_with fail
                      go_quiet (fail)
                      go_wp2_with fail
                      go_roundw
                      case rel => exact ⟨j + 1, by omega, by go_num, Lib.hid (G1.out.below (below_drewN (Below.refl _ _) _)), Lib.hid (G2.out.below (below_drewN (Below.refl _ _) _)), Lib.hid (G3.out.below (below_drewN (Below.refl _ _) _)), Lib.hid (below_drewN GB.out _)⟩
                      case measure => simp [intOf]; omega
                    · have HK := Lib.hid (show (k != 0) = true by simpa using hk)
                      clear hk
                      go_wp2_with fail
                      have hk' := HK.out
                      go_quiet (fail)
                      go_wp2_with fail
                      go_roundw
                      case rel => exact ⟨j + 1, by omega, by go_num, Lib.hid (G1.out.below (below_drewN (Below.refl _ _) _)), Lib.hid (G2.out.below (below_drewN (Below.refl _ _) _)), Lib.hid (G3.out.below (below_drewN (Below.refl _ _) _)), Lib.hid (below_drewN GB.out _)⟩
                      case measure => simp [intOf]; omega
                  · exact absurd (H300.out) (by omega)
                · obtain rfl : j = N := by omega
                  have hd : decide ((j : Int) < (j : Int)) = false := by simp
                  go_wp2_with fail
                  go_ret
                  exact ⟨rfl, GB.out⟩
            · have h300' : decide ((i : Int) ≤ 300) = false := by simp; omega
              clear jb2
              go_wp2_with fail
              go_loopw [18] (fun jz wr => ∃ j : Nat, j ≤ i ∧ jz = .int .i64 (j : Int) ∧ Hid (TLst wr A l c) ∧ Hid (TLst wr A2 la d) ∧ Hid (TLst wr A3 lb d3) ∧ Hid (Below w.heap.size w wr)) (fun jz _ => i - (intOf jz).toNat)
              case atStart => exact ⟨0, Nat.zero_le _, rfl, HTl, HTa, HT3, HBB⟩
              case round =>
                obtain ⟨j, hj, rfl, G1, G2, G3, GB⟩ := hrel
                by_cases hji : j < i
                · have hji' : (j : Int) < (i : Int) := by omega
                  have hj63 : ¬ (9223372036854775807 < (j : Int) + 1) := by omega
                  obtain ⟨g1, rfl, c0, c1, c2⟩ := G1.out.get (i := j) (by rw [HLL.out]; exact hji)
                  obtain ⟨g2, rfl, d0, d1, d2⟩ := G2.out.get (i := j) (by rw [HLA.out]; exact hji)
                  obtain ⟨x1, x2⟩ := HA2.out j hji
                  rw [x1] at d0
                  rw [x2] at d2
                  by_cases hj3 : j < 300
                  · have hj3' : (j : Int) < 300 := by omega
                    obtain ⟨y0, y1, y2⟩ := HB3.out j hj3 hji
                    obtain ⟨g3, rfl, e0, e1, e2⟩ := G3.out.get (i := j) y0
                    rw [y1] at e0
                    rw [y2] at e2
                    rw [HLB.out] at y0
                    have y0' : (j : Int) < (N : Int) := by omega
                    clear x1 x2 y1 y2 c1 d1 e1
                    generalize l.getD j default = q at c0 c2 d0 d2 e0 e2
                    obtain ⟨k, at_, t⟩ := q
                    simp only at c0 c2 d0 d2 e0 e2
                    by_cases hk : k = 0
                    · subst hk
                      go_wp2_with fail
                      go_quiet (fail)
                      go_wp2_with fail
                      go_roundw
                      case rel => exact ⟨j + 1, by omega, by go_num, Lib.hid (G1.out.below (below_drewN (Below.refl _ _) _)), Lib.hid (G2.out.below (below_drewN (Below.refl _ _) _)), Lib.hid (G3.out.below (below_drewN (Below.refl _ _) _)), Lib.hid (below_drewN GB.out _)⟩
                      case measure => simp [intOf]; omega
                    · have HK := Lib.hid (show (k != 0) = true by simpa using hk)
                      clear hk
                      go_wp2_with fail
                      have hk' := HK.out
                      go_quiet (fail)
                      go_wp2_with fail
                      go_roundw
                      case rel => exact ⟨j + 1, by omega, by go_num, Lib.hid (G1.out.below (below_drewN (Below.refl _ _) _)), Lib.hid (G2.out.below (below_drewN (Below.refl _ _) _)), Lib.hid (G3.out.below (below_drewN (Below.refl _ _) _)), Lib.hid (below_drewN GB.out _)⟩
                      case measure => simp [intOf]; omega
                  · have hj3' : decide ((j : Int) < 300) = false := by simp; omega
                    clear x1 x2 c1 d1
                    generalize l.getD j default = q at c0 c2 d0 d2
                    obtain ⟨k, at_, t⟩ := q
                    simp only at c0 c2 d0 d2
                    go_wp2_with fail
                    go_quiet (fail)
                    go_wp2_with fail
                    go_roundw
                    case rel => exact ⟨j + 1, by omega, by go_num, Lib.hid (G1.out.below (below_drewN (Below.refl _ _) _)), Lib.hid (G2.out.below (below_drewN (Below.refl _ _) _)), Lib.hid (G3.out.below (below_drewN (Below.refl _ _) _)), Lib.hid (below_drewN GB.out _)⟩
                    case measure => simp [intOf]; omega
                · obtain rfl : j = i := by omega
                  have hd : decide ((j : Int) < (j : Int)) = false := by simp
                  go_wp2_with fail
                  go_ret
                  exact ⟨rfl, GB.out⟩
end Go.Proofs.Ytfmflngmhhalhaa.tokenJoins
