/-
  The walk of TermtextAtoms.
-/
import Derived.Test.YtlpibnbabgfiiaaGreatDoorTtExH
import Derived.Test.YtlpibnbabgfiiaaGreatDoorTtGoal
import Derived.Test.YtlpibnbabgfiiaaGreatDoorTtBack
import Derived.Test.YtlpibnbabgfiiaaGreatDoorTtSame
import Derived.Test.YtlpibnbabgfiiaaGreatDoorTmOpen
import Derived.Test.YtlpibnbabgfiiaaGreatDoorTmGreat1
namespace Go.Proofs.YtlpibnbabgfiiaaGreatDoor.termtextAtoms
open Go.ChangeShapes Go.WideShapes Go.ChangeAt Go.RowKit Go.Sort
set_option linter.unusedVariables false

theorem parsea_ok (s n : ByteArray) (A0 : Option Addr) (c0 : Nat) (t : List Tm) (h : parseA s.data.toList = .ok (n.data.toList, stripL t) []) (hs : s.size ≤ 1000000) (W : World) (hL : Laid W) :
    Calls Tryz.prog 20 #[.string s] W fun e w' => ∃ (l : List Tm) (A : Option Addr) (c : Nat), Lst w' A l c ∧ Below W.heap.size W w' ∧ (cmpA ⟨n, A0, c0, t⟩ ⟨n, A, c, l⟩ == 0) = true ∧ e = .returned (.tuple #[.agg #[.string n, .slice A l.length c], .int .i64 0]) := by
  refine (parsea_at s W (by unfold maxLen; omega) hL).mono ?_
  rintro e w' ⟨n', l, A, c, _, h1, h2, ho⟩
  rcases ho with ⟨h3, h5⟩ | ⟨c, _, h3, _⟩
  · rw [h] at h3
    injection h3 with h3 _
    injection h3 with h3 h4
    obtain rfl : n' = n := by
      apply WideShapes.bytes_inj
      rw [h3]
    exact ⟨l, A, c, h1, h2, same_atom_strip h4, h5⟩
  · rw [h] at h3; cases h3

set_option maxHeartbeats 4000000 in
set_option maxRecDepth 10000 in
theorem walk (a0 : Am) (w : World) (w0 : a0.At w) (hL : Laid w) :
    Calls Tryz.prog 7 #[a0.val] w fun e w' => e = .returned (.bool true) ∧ Below w.heap.size w w' := by
  obtain ⟨g, hg⟩ : ∃ g, decide (weighN a0.name a0.args 500 < 0) = g := ⟨_, rfl⟩
  have QG := Lib.hid (fun (W : World) (b : Nat) (hb : b = W.heap.size) (h : Below w.heap.size w W) => great_atoms_one a0 W b hb (w0.below h) hg)
  have QE := Lib.hid (fun W (h : Below w.heap.size w W) => example_at W (hL.below h))
  have hlen := w0.2.len
  cases g
  · have hn := weighN_bound hg
    have hs := size_nodes.2 a0.args
    have hsz : sizeL a0.args ≤ 1000000 := by omega
    obtain ⟨r, hr⟩ : ∃ r, atomB a0.name.data.toList a0.args = r := ⟨_, rfl⟩
    have Q1 := Lib.hid (fun W (h : Below w.heap.size w W) => tt_atom a0 W (w0.below h) (hL.below h))
    have Q2 := Lib.hid (fun W (h : Below w.heap.size w W) => ref_right_atom_at a0 W (w0.below h) hsz hr)
    obtain ⟨X, hX⟩ : ∃ X, atomT a0.name a0.args = X := ⟨_, rfl⟩
    rw [hX] at Q1
    cases r
    · obtain rfl : X = [] := by rw [← hX, atomT, hr]; rfl
      clear hg hn hs w0 hL hX hsz hr
      obtain ⟨s, A, c, l⟩ := a0
      simp only at hlen
      show Calls Tryz.prog 7 #[.agg #[.string s, .slice A l.length c]] w _
      go_enter Tryz.func7, Tryz.ntmps7
      go_wp2_with fail
      refine (QG.out (w.alloc (.cells #[.string s, .slice A l.length c] 34)) _ (by simp) (below1 _ _)).mono ?_
      rintro e w1 ⟨rfl, n1, rfl⟩
      have HC := Lib.hid (show Below (w.alloc (.cells #[.string s, .slice A l.length c] 34)).heap.size (w.alloc (.cells #[.string s, .slice A l.length c] 34)) (((w.alloc (.cells #[.string s, .slice A l.length c] 34)).alloc (.cells #[.string s, .slice A l.length c] 34)).drewN n1) from below_drewN ((Below.refl _ _).alloc (Nat.le_refl _) (.cells #[.string s, .slice A l.length c] 34)) n1)
      generalize (((w.alloc (.cells #[.string s, .slice A l.length c] 34)).alloc (.cells #[.string s, .slice A l.length c] 34)).drewN n1) = W1 at *
      have HB := Lib.hid ((below1 w (.cells #[.string s, .slice A l.length c] 34)).trans (HC.out.mono (by simp)))
      obtain ⟨c0, c1⟩ := held2_p HC.out
      go_wp2_with fail
      refine (Q1.out _ HB.out).mono ?_
      rintro e x1 ⟨rfl, hb⟩
      have HC1 := Lib.hid (nx HC.out hb)
      have HB1 := Lib.hid (nx HB.out hb)
      clear hb c0 c1
      obtain ⟨c0, c1⟩ := held2_p HC1.out
      go_wp2_with fail
      refine (Q2.out _ HB1.out).mono ?_
      rintro e x2 ⟨rfl, hb⟩
      have HB2 := Lib.hid (nx HB1.out hb)
      clear hb c0 c1
      go_wp2_with fail
      refine (QE.out _ HB2.out).mono ?_
      rintro e x3 ⟨rfl, hb⟩
      have HB3 := Lib.hid (nx HB2.out hb)
      clear hb
      go_wp2_with fail
      go_ret
      exact ⟨rfl, HB3.out⟩
    · obtain ⟨e1, e2, e3, e4, e5⟩ := atomB_parts hr
      have hX' : X = callT plain a0.name.data.toList (txtL plain a0.args) := by rw [← hX, atomT, hr]; rfl
      have hl1 : X.length ≤ 20000 := by
        have c1 := call_len slim_plain a0.name.data.toList (txtL plain a0.args)
        have c2 := (txt_len slim_plain).2 a0.args e4
        rw [hX']; omega
      have hlo := loose_len X
      have hloo : looseB X = callT wide a0.name.data.toList (txtL wide a0.args) := by rw [hX', loose_call (tame_word e1), loose_txt.2 _ e4]
      have P1 := Lib.hid (fun W (h : Below w.heap.size w W) => parsea_ok (S X) a0.name a0.at_ a0.cap a0.args (by show parseA X = _; rw [hX']; exact parsea_back slim_plain hr false) (by rw [← len_str]; show X.length ≤ _; omega) W (hL.below h))
      have PL := Lib.hid (fun W => loose_at (S X) W (by rw [← len_str]; show X.length ≤ _; omega))
      have P2 := Lib.hid (fun W (h : Below w.heap.size w W) => parsea_ok (⟨#[32]⟩ ++ S (looseB X)) a0.name a0.at_ a0.cap a0.args (by
        rw [show (⟨#[32]⟩ ++ S (looseB X) : ByteArray).data.toList = [32] ++ looseB X by simp, hloo]
        exact parsea_back slim_wide hr true) (by rw [← len_str]; simp; omega) W (hL.below h))
      have z1 : ¬ 9223372036854775807 < 1 + (looseB X).length := by omega
      have HT := Lib.hid (fun W (h : Below w.heap.size w W) => w0.below h)
      have hsm : a0.name.size ≤ maxLen := w0.1
      have QS := Lib.hid (fun (l : List Tm) (A : Option Addr) (c : Nat) W (ht : a0.At W) (hu : Lst W A l c) (h : (cmpA a0 ⟨a0.name, A, c, l⟩ == 0) = true) => ref_same_atom_at a0 ⟨a0.name, A, c, l⟩ W ht ⟨hsm, hu⟩ h)
      obtain ⟨Y, hY⟩ : ∃ Y, looseB X = Y := ⟨_, rfl⟩
      rw [show (looseB (S X).data.toList) = Y from hY] at PL
      rw [hY] at P2 z1
      clear hg hn hs w0 hL hX hsz hr hX' hl1 hlo hloo e1 e2 e3 e4 e5 hsm hY
      obtain ⟨s, A, c, l⟩ := a0
      simp only at hlen
      show Calls Tryz.prog 7 #[.agg #[.string s, .slice A l.length c]] w _
      go_enter Tryz.func7, Tryz.ntmps7
      go_wp2_with fail
      refine (QG.out (w.alloc (.cells #[.string s, .slice A l.length c] 34)) _ (by simp) (below1 _ _)).mono ?_
      rintro e w1 ⟨rfl, n1, rfl⟩
      have HC := Lib.hid (show Below (w.alloc (.cells #[.string s, .slice A l.length c] 34)).heap.size (w.alloc (.cells #[.string s, .slice A l.length c] 34)) (((w.alloc (.cells #[.string s, .slice A l.length c] 34)).alloc (.cells #[.string s, .slice A l.length c] 34)).drewN n1) from below_drewN ((Below.refl _ _).alloc (Nat.le_refl _) (.cells #[.string s, .slice A l.length c] 34)) n1)
      generalize (((w.alloc (.cells #[.string s, .slice A l.length c] 34)).alloc (.cells #[.string s, .slice A l.length c] 34)).drewN n1) = W1 at *
      have HB := Lib.hid ((below1 w (.cells #[.string s, .slice A l.length c] 34)).trans (HC.out.mono (by simp)))
      obtain ⟨c0, c1⟩ := held2_p HC.out
      go_wp2_with fail
      refine (Q1.out _ HB.out).mono ?_
      rintro e x1 ⟨rfl, hb⟩
      have HC1 := Lib.hid (nx HC.out hb)
      have HB1 := Lib.hid (nx HB.out hb)
      clear hb c0 c1 HC HB
      obtain ⟨c0, c1⟩ := held2_p HC1.out
      go_wp2_with fail
      refine (Q2.out _ HB1.out).mono ?_
      rintro e x2 ⟨rfl, hb⟩
      have HC2 := Lib.hid (nx HC1.out hb)
      have HB2 := Lib.hid (nx HB1.out hb)
      clear hb c0 c1 HC1 HB1
      go_wp2_with fail
      refine (P1.out _ HB2.out).mono ?_
      rintro e x3 ⟨l1, A1, p1, hu, hb, hsu, rfl⟩
      have HC3 := Lib.hid (nx HC2.out hb)
      have HB3 := Lib.hid (nx HB2.out hb)
      have HU := Lib.hid hu
      have hlen1 := hu.len
      clear hb hu HC2 HB2
      go_wp2_with fail
      refine (PL.out _).mono ?_
      rintro e x4 ⟨rfl, hb⟩
      have HC4 := Lib.hid (nx (al HC3.out (.cells #[.string s, .slice A1 l1.length p1] 34)) hb)
      have HB4 := Lib.hid (nx (al HB3.out (.cells #[.string s, .slice A1 l1.length p1] 34)) hb)
      have HU4 := Lib.hid hb
      clear hb HC3 HB3
      go_wp2_with fail
      refine (P2.out _ HB4.out).mono ?_
      rintro e x5 ⟨l2, A2, p2, hv, hb, hsv, rfl⟩
      have HC5 := Lib.hid (nx HC4.out hb)
      have HB5 := Lib.hid (nx HB4.out hb)
      have HU5 := Lib.hid (nx HU4.out hb)
      have HV := Lib.hid hv
      have hlen2 := hv.len
      clear hb hv HC4 HB4 HU4
      have HC7 := Lib.hid (al HC5.out (.cells #[.string s, .slice A2 l2.length p2] 34))
      have HB7 := Lib.hid (al HB5.out (.cells #[.string s, .slice A2 l2.length p2] 34))
      have HU7 := Lib.hid (al HU5.out (.cells #[.string s, .slice A2 l2.length p2] 34))
      obtain ⟨c0, c1⟩ := held2_p HC7.out
      obtain ⟨u0, u1⟩ := held2_p HU7.out
      clear HC5 HB5 HU5
      go_wp2_with fail
      refine (QS.out l1 A1 p1 _ (HT.out _ HB7.out) ((HU.out.below (below1 _ _)).below HU7.out) hsu).mono ?_
      rintro e x7 ⟨rfl, hb⟩
      have HC8 := Lib.hid (nx HC7.out hb)
      have HB8 := Lib.hid (nx HB7.out hb)
      have HV8 := Lib.hid hb
      clear hb c0 c1 u0 u1 HC7 HB7 HU7
      obtain ⟨c0, c1⟩ := held2_p HC8.out
      obtain ⟨v0, v1⟩ := held2_p HV8.out
      go_wp2_with fail
      refine (QS.out l2 A2 p2 _ (HT.out _ HB8.out) ((HV.out.below (below1 _ _)).below HV8.out) hsv).mono ?_
      rintro e x8 ⟨rfl, hb⟩
      have HB9 := Lib.hid (nx HB8.out hb)
      clear hb c0 c1 v0 v1 HC8 HB8 HV8
      go_wp2_with fail
      refine (QE.out _ HB9.out).mono ?_
      rintro e xa ⟨rfl, hb⟩
      have HBb := Lib.hid (nx HB9.out hb)
      clear hb
      go_wp2_with fail
      go_ret
      exact ⟨by first | rfl | simp, HBb.out⟩
  · clear hg w0 hL
    obtain ⟨s, A, c, l⟩ := a0
    simp only at hlen
    show Calls Tryz.prog 7 #[.agg #[.string s, .slice A l.length c]] w _
    go_enter Tryz.func7, Tryz.ntmps7
    go_wp2_with fail
    refine (QG.out (w.alloc (.cells #[.string s, .slice A l.length c] 34)) _ (by simp) (below1 _ _)).mono ?_
    rintro e w1 ⟨rfl, n1, rfl⟩
    have hb2 : Below w.heap.size w (((w.alloc (.cells #[.string s, .slice A l.length c] 34)).alloc (.cells #[.string s, .slice A l.length c] 34)).drewN n1) := below_drewN (((Below.refl _ _).alloc (Nat.le_refl _) (.cells #[.string s, .slice A l.length c] 34)).alloc (by simp) (.cells #[.string s, .slice A l.length c] 34)) n1
    have HB2 := Lib.hid hb2
    clear hb2
    generalize (((w.alloc (.cells #[.string s, .slice A l.length c] 34)).alloc (.cells #[.string s, .slice A l.length c] 34)).drewN n1) = W1 at *
    go_wp2_with fail
    refine (QE.out _ HB2.out).mono ?_
    rintro e w2 ⟨rfl, hb3⟩
    have HB := Lib.hid (nx HB2.out hb3)
    clear hb3
    go_wp2_with fail
    go_ret
    exact ⟨rfl, HB.out⟩
end Go.Proofs.YtlpibnbabgfiiaaGreatDoor.termtextAtoms
