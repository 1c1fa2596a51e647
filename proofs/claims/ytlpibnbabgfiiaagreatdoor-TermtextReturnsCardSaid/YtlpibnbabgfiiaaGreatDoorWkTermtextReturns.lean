/-
  The walk of TermtextReturns.
-/
import Derived.Test.YtlpibnbabgfiiaaGreatDoorTtExH
import Derived.Test.YtlpibnbabgfiiaaGreatDoorTtGoal
import Derived.Test.YtlpibnbabgfiiaaGreatDoorTtBack
import Derived.Test.YtlpibnbabgfiiaaGreatDoorTtSame
import Derived.Test.YtlpibnbabgfiiaaGreatDoorTmOpen
namespace Go.Proofs.YtlpibnbabgfiiaaGreatDoor.termtextReturns
open Go.ChangeShapes Go.WideShapes Go.ChangeAt Go.RowKit Go.Sort
set_option linter.unusedVariables false

theorem parse_ok (s : ByteArray) (t : Tm) (h : parseP s.data.toList = .ok t.strip []) (hs : s.size ≤ 1000000) (W : World) (hL : Laid W) :
    Calls Tryz.prog 18 #[.string s] W fun e w' => ∃ u : Tm, u.At w' ∧ Below W.heap.size W w' ∧ (cmpT t u == 0) = true ∧ e = .returned (.tuple #[u.val, .int .i64 0]) := by
  refine (parse_at s W (by unfold maxLen; omega) hL).mono ?_
  rintro e w' ⟨u, h1, h2, ho⟩
  rcases ho with ⟨v, h3, h4, h5⟩ | ⟨c, _, h3, _⟩
  · rw [h] at h3
    injection h3 with h3 _
    exact ⟨u, h1, h2, same_strip (by rw [h4, h3]), h5⟩
  · rw [h] at h3; cases h3
theorem nil_err : parseP [] = .err 16 := by kernel_rfl
theorem txt_some {t : Tm} (h : t.right = true) : t.txt plain ≠ [] := fun e => by
  have := parse_back slim_plain t h
  rw [e, nil_err] at this
  cases this

set_option maxHeartbeats 4000000 in
set_option maxRecDepth 10000 in
theorem walk (a0 : Tm) (w : World) (w0 : a0.At w) (hL : Laid w) :
    Calls Tryz.prog 6 #[a0.val] w fun e w' => e = .returned (.bool true) ∧ Below w.heap.size w w' := by
  obtain ⟨g, hg⟩ : ∃ g, decide (weigh [a0] 500 64 < 0) = g := ⟨_, rfl⟩
  have QG := Lib.hid (fun (W W' : World) (b : Nat) (hb : b = W.heap.size) (h : Below w.heap.size w W) h' => great_one a0 500 W W' b hb (w0.below h) h' (by omega) (by omega) hg)
  have QE := Lib.hid (fun W (h : Below w.heap.size w W) => example_at W (hL.below h))
  have HL := Lib.hid (fun W (h : Below w.heap.size w W) => hL.below h)
  cases g
  · have hn := not_great hg
    have hs := (size_nodes.1 a0).1
    have hsz : a0.size ≤ 1000000 := by simp only [nodesL] at hn; omega
    obtain ⟨r, hr⟩ : ∃ r, a0.right = r := ⟨_, rfl⟩
    have Q1 := Lib.hid (fun W (h : Below w.heap.size w W) => tt_text a0 W (w0.below h) (hL.below h))
    have Q2 := Lib.hid (fun W (h : Below w.heap.size w W) => ref_right_tm_at a0 W (w0.below h) hsz hr)
    obtain ⟨X, hX⟩ : ∃ X, termT a0 = X := ⟨_, rfl⟩
    rw [hX] at Q1
    cases r
    · obtain rfl : X = [] := by rw [← hX, termT, hr]; rfl
      clear hg hn hs w0 hL hX hsz hr HL
      obtain ⟨k, n, s, A, c, a⟩ := a0
      show Calls Tryz.prog 6 #[.agg #[.int .i64 k, .int .i64 n, .string s, .slice A a.length c]] w _
      go_enter Tryz.func6, Tryz.ntmps6
      go_wp2_with fail
      refine (QG.out (w.alloc (.cells #[.int .i64 k, .int .i64 n, .string s, .slice A a.length c] 24)) _ _ (by simp) (below1 _ _) (Below.refl _ _)).mono ?_
      rintro e w1 ⟨rfl, hb1⟩
      have HC := Lib.hid (((Below.refl _ _).alloc (Nat.le_refl _) (.cells #[.int .i64 k, .int .i64 n, .string s, .slice A a.length c] 24)).trans (hb1.mono (by simp)))
      have HB := Lib.hid ((below1 w (.cells #[.int .i64 k, .int .i64 n, .string s, .slice A a.length c] 24)).trans (HC.out.mono (by simp)))
      obtain ⟨c0, c1, c2, c3, _⟩ := box4 HC.out
      clear hb1
      go_wp2_with fail
      refine (Q1.out _ HB.out).mono ?_
      rintro e x1 ⟨rfl, hb⟩
      have HC1 := Lib.hid (nx HC.out hb)
      have HB1 := Lib.hid (nx HB.out hb)
      clear hb c0 c1 c2 c3
      obtain ⟨c0, c1, c2, c3, _⟩ := box4 HC1.out
      go_wp2_with fail
      refine (Q2.out _ HB1.out).mono ?_
      rintro e x2 ⟨rfl, hb⟩
      have HB2 := Lib.hid (nx HB1.out hb)
      clear hb c0 c1 c2 c3
      go_wp2_with fail
      refine (QE.out _ HB2.out).mono ?_
      rintro e x3 ⟨rfl, hb⟩
      have HB3 := Lib.hid (nx HB2.out hb)
      clear hb
      go_wp2_with fail
      go_ret
      exact ⟨rfl, HB3.out⟩
    · have hX' : X = a0.txt plain := by rw [← hX, termT, hr]; rfl
      have hform : a0.form = true := by have h := hr; simp only [Tm.right, Bool.and_eq_true] at h; exact h.1
      have hl1 : X.length ≤ 10200 := by rw [hX']; exact txt_short slim_plain hr
      have hne : X ≠ [] := by rw [hX']; exact txt_some hr
      have P1 := Lib.hid (fun W (h : Below w.heap.size w W) => parse_ok (S X) a0 (by show parseP X = _; rw [hX']; exact parse_back slim_plain a0 hr) (by rw [← len_str]; show X.length ≤ _; omega) W (hL.below h))
      have PL := Lib.hid (fun W => loose_at (S X) W (by rw [← len_str]; show X.length ≤ _; omega))
      have hlo := loose_len X
      have P2 := Lib.hid (fun W (h : Below w.heap.size w W) => parse_ok (S (looseB X)) a0 (by show parseP (looseB X) = _; rw [hX', loose_txt.1 _ hform]; exact parse_back slim_wide a0 hr) (by rw [← len_str]; show (looseB X).length ≤ _; omega) W (hL.below h))
      have P3 := Lib.hid (fun W (h : Below w.heap.size w W) => parse_ok (⟨#[40, 40]⟩ ++ S X ++ ⟨#[41, 32, 41]⟩) a0 (by
        rw [show (⟨#[40, 40]⟩ ++ S X ++ ⟨#[41, 32, 41]⟩ : ByteArray).data.toList = [40, 40] ++ X ++ [41, 32, 41] by simp, hX']
        exact parse_group a0 hr) (by rw [← len_str]; simp; omega) W (hL.below h))
      have ne : ¬ X = [] := hne
      have z1 : ¬ 9223372036854775807 < 2 + X.length := by omega
      have z2 : ¬ 9223372036854775807 < 2 + X.length + 3 := by omega
      have HT := Lib.hid (fun W (h : Below w.heap.size w W) => w0.below h)
      have QS := Lib.hid (fun (u : Tm) W (ht : a0.At W) (hu : u.At W) (h : (cmpT a0 u == 0) = true) => ref_same_at a0 u W ht hu h)
      clear hg hn hs w0 hL hX hsz hr hX' hform hl1 hne hlo
      obtain ⟨k, n, s, A, c, a⟩ := a0
      show Calls Tryz.prog 6 #[.agg #[.int .i64 k, .int .i64 n, .string s, .slice A a.length c]] w _
      go_enter Tryz.func6, Tryz.ntmps6
      go_wp2_with fail
      refine (QG.out (w.alloc (.cells #[.int .i64 k, .int .i64 n, .string s, .slice A a.length c] 24)) _ _ (by simp) (below1 _ _) (Below.refl _ _)).mono ?_
      rintro e w1 ⟨rfl, hb1⟩
      have HC := Lib.hid (((Below.refl _ _).alloc (Nat.le_refl _) (.cells #[.int .i64 k, .int .i64 n, .string s, .slice A a.length c] 24)).trans (hb1.mono (by simp)))
      have HB := Lib.hid ((below1 w (.cells #[.int .i64 k, .int .i64 n, .string s, .slice A a.length c] 24)).trans (HC.out.mono (by simp)))
      obtain ⟨c0, c1, c2, c3, _⟩ := box4 HC.out
      clear hb1
      go_wp2_with fail
      refine (Q1.out _ HB.out).mono ?_
      rintro e x1 ⟨rfl, hb⟩
      have HC1 := Lib.hid (nx HC.out hb)
      have HB1 := Lib.hid (nx HB.out hb)
      clear hb c0 c1 c2 c3 HC HB
      obtain ⟨c0, c1, c2, c3, _⟩ := box4 HC1.out
      go_wp2_with fail
      refine (Q2.out _ HB1.out).mono ?_
      rintro e x2 ⟨rfl, hb⟩
      have HC2 := Lib.hid (nx HC1.out hb)
      have HB2 := Lib.hid (nx HB1.out hb)
      clear hb c0 c1 c2 c3 HC1 HB1
      go_wp2_with fail
      refine (P1.out _ HB2.out).mono ?_
      rintro e x3 ⟨u, hu, hb, hsu, rfl⟩
      have HC3 := Lib.hid (nx HC2.out hb)
      have HB3 := Lib.hid (nx HB2.out hb)
      have HU := Lib.hid hu
      clear hb hu HC2 HB2
      go_wp2_with fail
      refine (PL.out _).mono ?_
      rintro e x4 ⟨rfl, hb⟩
      have HC4 := Lib.hid (nx (al HC3.out _) hb)
      have HB4 := Lib.hid (nx (al HB3.out (.cells #[.int .i64 u.kind, .int .i64 u.num, .string u.name, .slice u.at_ u.args.length u.cap] 24)) hb)
      have HU4 := Lib.hid hb
      clear hb HC3 HB3
      go_wp2_with fail
      refine (P2.out _ HB4.out).mono ?_
      rintro e x5 ⟨v, hv, hb, hsv, rfl⟩
      have HC5 := Lib.hid (nx HC4.out hb)
      have HB5 := Lib.hid (nx HB4.out hb)
      have HU5 := Lib.hid (nx HU4.out hb)
      have HV := Lib.hid hv
      clear hb hv HC4 HB4 HU4
      go_wp2_with fail
      have HB5' := Lib.hid (al HB5.out (.cells #[.int .i64 v.kind, .int .i64 v.num, .string v.name, .slice v.at_ v.args.length v.cap] 24))
      refine (P3.out _ HB5'.out).mono ?_
      rintro e x6 ⟨y, hy, hb, hsy, rfl⟩
      have HC6 := Lib.hid (nx (al HC5.out _) hb)
      have HB6 := Lib.hid (nx HB5'.out hb)
      have HU6 := Lib.hid (nx (al HU5.out _) hb)
      have HV6 := Lib.hid hb
      have HY := Lib.hid hy
      clear hb hy HC5 HB5 HB5' HU5
      have HC7 := Lib.hid (al HC6.out (.cells #[.int .i64 y.kind, .int .i64 y.num, .string y.name, .slice y.at_ y.args.length y.cap] 24))
      have HB7 := Lib.hid (al HB6.out (.cells #[.int .i64 y.kind, .int .i64 y.num, .string y.name, .slice y.at_ y.args.length y.cap] 24))
      have HU7 := Lib.hid (al HU6.out (.cells #[.int .i64 y.kind, .int .i64 y.num, .string y.name, .slice y.at_ y.args.length y.cap] 24))
      have HV7 := Lib.hid (al HV6.out (.cells #[.int .i64 y.kind, .int .i64 y.num, .string y.name, .slice y.at_ y.args.length y.cap] 24))
      obtain ⟨c0, c1, c2, c3, _⟩ := box4 HC7.out
      obtain ⟨u0, u1, u2, u3, _⟩ := box4 HU7.out
      clear HC6 HB6 HU6 HV6
      go_wp2_with fail
      refine (QS.out u _ (HT.out _ HB7.out) ((HU.out.alloc _).below HU7.out) hsu).mono ?_
      rintro e x7 ⟨rfl, hb⟩
      have HC8 := Lib.hid (nx HC7.out hb)
      have HB8 := Lib.hid (nx HB7.out hb)
      have HV8 := Lib.hid (nx HV7.out hb)
      have HY8 := Lib.hid hb
      clear hb c0 c1 c2 c3 u0 u1 u2 u3 HC7 HB7 HU7 HV7
      obtain ⟨c0, c1, c2, c3, _⟩ := box4 HC8.out
      obtain ⟨v0, v1, v2, v3, _⟩ := box4 HV8.out
      go_wp2_with fail
      refine (QS.out v _ (HT.out _ HB8.out) ((HV.out.alloc _).below HV8.out) hsv).mono ?_
      rintro e x8 ⟨rfl, hb⟩
      have HC9 := Lib.hid (nx HC8.out hb)
      have HB9 := Lib.hid (nx HB8.out hb)
      have HY9 := Lib.hid (nx HY8.out hb)
      clear hb c0 c1 c2 c3 v0 v1 v2 v3 HC8 HB8 HV8 HY8
      obtain ⟨c0, c1, c2, c3, _⟩ := box4 HC9.out
      obtain ⟨y0, y1, y2, y3, _⟩ := box4 HY9.out
      go_wp2_with fail
      refine (QS.out y _ (HT.out _ HB9.out) ((HY.out.alloc _).below HY9.out) hsy).mono ?_
      rintro e x9 ⟨rfl, hb⟩
      have HBa := Lib.hid (nx HB9.out hb)
      clear hb c0 c1 c2 c3 y0 y1 y2 y3 HC9 HB9 HY9
      go_wp2_with fail
      refine (QE.out _ HBa.out).mono ?_
      rintro e xa ⟨rfl, hb⟩
      have HBb := Lib.hid (nx HBa.out hb)
      clear hb
      go_wp2_with fail
      go_ret
      exact ⟨by first | rfl | simp [ne], HBb.out⟩
  · clear hg w0 hL
    obtain ⟨k, n, s, A, c, a⟩ := a0
    show Calls Tryz.prog 6 #[.agg #[.int .i64 k, .int .i64 n, .string s, .slice A a.length c]] w _
    go_enter Tryz.func6, Tryz.ntmps6
    go_wp2_with fail
    refine (QG.out (w.alloc (.cells #[.int .i64 k, .int .i64 n, .string s, .slice A a.length c] 24)) _ _ (by simp) (below1 _ _) (Below.refl _ _)).mono ?_
    rintro e w1 ⟨rfl, hb1⟩
    have hb2 := (below1 w (.cells #[.int .i64 k, .int .i64 n, .string s, .slice A a.length c] 24)).trans (((Below.refl _ _).alloc (Nat.le_refl _) (.cells #[.int .i64 k, .int .i64 n, .string s, .slice A a.length c] 24) |>.trans (hb1.mono (by simp))).mono (by simp))
    clear hb1
    go_wp2_with fail
    refine (QE.out _ hb2).mono ?_
    rintro e w2 ⟨rfl, hb3⟩
    have HB := Lib.hid (hb2.trans (hb3.mono hb2.size))
    clear hb2 hb3
    go_wp2_with fail
    go_ret
    exact ⟨rfl, HB.out⟩
end Go.Proofs.YtlpibnbabgfiiaaGreatDoor.termtextReturns
