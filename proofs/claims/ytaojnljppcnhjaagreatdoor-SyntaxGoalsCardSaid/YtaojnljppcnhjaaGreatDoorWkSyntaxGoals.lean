/-
  WkSyntaxGoals.
-/
import Derived.Test.YtaojnljppcnhjaaGreatDoorMh32
namespace Go.Proofs.YtaojnljppcnhjaaGreatDoor.syntaxGoals
open Go.ChangeShapes Go.WideShapes Go.ChangeAt Go.RowKit Go.Sort
set_option linter.unusedVariables false
theorem goals_Q {w : World} {gA gA' zA zA' : Option Addr} {gn gc gn' gc' zn zc zn' zc' : Nat} {y : List Gs × List (List UInt8)} (hl : y.1.length ≤ 1000) (h1 : RdQ w #[.slice gA gn gc, .slice zA zn zc] y) (h2 : RdQ w #[.slice gA' gn' gc', .slice zA' zn' zc'] y) :
    Calls Tryz.prog 18 #[.slice gA gn gc, .slice gA' gn' gc'] w fun e w' => e = .returned (.bool true) ∧ RowKit.Below w.heap.size w w' := by
  obtain ⟨gs, ns, _, _, _, _, e1, e2, _, hg, _⟩ := h1
  obtain ⟨gs', ns', _, _, _, _, e3, e4, _, hg', _⟩ := h2
  simp only [Array.mk.injEq, List.cons.injEq, Value.slice.injEq, and_true] at e1 e3
  obtain ⟨⟨rfl, rfl, rfl⟩, rfl, rfl, rfl⟩ := e1
  obtain ⟨⟨rfl, rfl, rfl⟩, rfl, rfl, rfl⟩ := e3
  subst e2
  injection e4 with e5 e6
  exact lw_goals_at gs gs' _ _ _ _ w e5 (by simpa using hl) hg hg'
theorem names_Q {w : World} {gA gA' zA zA' : Option Addr} {gn gc gn' gc' zn zc zn' zc' : Nat} {y : List Gs × List (List UInt8)} (h1 : RdQ w #[.slice gA gn gc, .slice zA zn zc] y) (h2 : RdQ w #[.slice gA' gn' gc', .slice zA' zn' zc'] y) :
    Calls Tryz.prog 19 #[.slice zA zn zc, .slice zA' zn' zc'] w fun e w' => e = .returned (.bool true) ∧ RowKit.Below w.heap.size w w' := by
  obtain ⟨gs, ns, _, _, _, _, e1, e2, hl, _, hz⟩ := h1
  obtain ⟨gs', ns', _, _, _, _, e3, e4, _, _, hz'⟩ := h2
  simp only [Array.mk.injEq, List.cons.injEq, Value.slice.injEq, and_true] at e1 e3
  obtain ⟨⟨rfl, rfl, rfl⟩, rfl, rfl, rfl⟩ := e1
  obtain ⟨⟨rfl, rfl, rfl⟩, rfl, rfl, rfl⟩ := e3
  subst e2
  injection e4 with e5 e6
  subst e6
  exact lw_texts_at ns _ _ _ _ w hl hz hz'
set_option maxHeartbeats 8000000 in
set_option maxRecDepth 100000 in
theorem walk (a0 : ByteArray) (w : World) (w0 : a0.size ≤ maxLen) :
    Calls Tryz.prog 5 #[.string a0] w fun e w' => e = .returned (.bool true) ∧ Below w.heap.size w w' := by
  have QE := Lib.hid awake_at
  by_cases h1 : 4000 < a0.size
  · have h1' : (4000 : Int) < ((a0.size : Nat) : Int) := by omega
    clear h1 w0
    go_enter Tryz.func5, Tryz.ntmps5
    go_wp2_with fail
    refine (QE.out _).mono ?_
    rintro e w2 ⟨rfl, hb3⟩
    go_wp2_with fail
    go_ret
    exact ⟨rfl, hb3⟩
  have h1' : decide ((4000 : Int) < ((a0.size : Nat) : Int)) = false := by simp; omega
  have hs : a0.size ≤ 100000 := by omega
  have Q1 := Lib.hid (fun W => out_Q a0 hs W)
  have Q2 := Lib.hid (fun W => out_Qz a0 hs W)
  clear h1 hs w0
  go_enter Tryz.func5, Tryz.ntmps5
  go_wp2_with fail
  refine (Q1.out _).mono ?_
  rintro e w1 ⟨gA, zA, gn, gc, zn, zc, p, er, rfl, hb1, ho1⟩
  have HO1 := Lib.hid ho1
  have HB1 := Lib.hid hb1
  clear ho1 hb1 Q1
  go_wp2_with fail
  refine (Q2.out _).mono ?_
  rintro e w2 ⟨gA', zA', gn', gc', zn', zc', p', er', rfl, hb2, ho2⟩
  obtain ⟨rfl, rfl, y, hl, h1, h2⟩ := two_Q HO1.out ho2
  have HB3 := Lib.hid (HB1.out.trans (hb2.mono HB1.out.size))
  have QS := Lib.hid (goals_Q hl (h1.below hb2) h2)
  have QT := Lib.hid (fun W (h : RowKit.Below w2.heap.size w2 W) => names_Q ((h1.below hb2).below h) (h2.below h))
  clear hb2 ho2 HO1 h1 h2 hl Q2 HB1
  go_wp2_with (first | (go_at_call 9; (with_reducible refine (QE.out _).mono ?_); rintro e w6 ⟨rfl, hb6⟩; have HB6 := Lib.hid (HB5.out.trans (hb6.mono HB5.out.size)); clear hb6) | (go_at_call 19; (with_reducible refine (QT.out _ HBg.out).mono ?_); rintro e w5 ⟨rfl, hb5⟩; have HB5 := Lib.hid (HB4.out.trans (hb5.mono HB4.out.size)); clear hb5) | (go_at_call 18; (with_reducible refine QS.out.mono ?_); rintro e w4 ⟨rfl, hb4⟩; have HBg := Lib.hid hb4; have HB4 := Lib.hid (HB3.out.trans (hb4.mono HB3.out.size)); clear hb4) | fail)
  go_ret
  exact ⟨rfl, HB6.out⟩
end Go.Proofs.YtaojnljppcnhjaaGreatDoor.syntaxGoals
