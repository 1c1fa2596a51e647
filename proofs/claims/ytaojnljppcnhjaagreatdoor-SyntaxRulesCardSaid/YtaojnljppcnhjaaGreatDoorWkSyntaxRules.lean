/-
  WkSyntaxRules.
-/
import Derived.Test.YtaojnljppcnhjaaGreatDoorMf33
namespace Go.Proofs.YtaojnljppcnhjaaGreatDoor.syntaxRules
open Go.ChangeShapes Go.WideShapes Go.ChangeAt Go.RowKit Go.Sort
set_option linter.unusedVariables false
set_option maxHeartbeats 8000000 in
set_option maxRecDepth 100000 in
theorem walk (a0 : ByteArray) (w : World) (w0 : a0.size ≤ maxLen) :
    Calls Tryz.prog 4 #[.string a0] w fun e w' => e = .returned (.bool true) ∧ Below w.heap.size w w' := by
  have QE := Lib.hid awake_at
  by_cases h1 : 4000 < a0.size
  · have h1' : (4000 : Int) < ((a0.size : Nat) : Int) := by omega
    clear h1 w0
    go_enter Tryz.func4, Tryz.ntmps4
    go_wp2_with fail
    refine (QE.out _).mono ?_
    rintro e w2 ⟨rfl, hb3⟩
    go_wp2_with fail
    go_ret
    exact ⟨rfl, hb3⟩
  have h1' : decide ((4000 : Int) < ((a0.size : Nat) : Int)) = false := by simp; omega
  have hs : a0.size ≤ 100000 := by omega
  have Q1 := Lib.hid (fun W => out_R a0 hs W)
  have Q2 := Lib.hid (fun W => out_Rz a0 hs W)
  clear h1 hs w0
  go_enter Tryz.func4, Tryz.ntmps4
  go_wp2_with fail
  refine (Q1.out _).mono ?_
  rintro e w1 ⟨⟨t, ks, rs, gs, bs, kA, kc, rA, rc, gA, gc, bA, bc, n⟩, p, er, he, hb1, ho1⟩
  have he2 : e = .returned (.tuple #[.agg #[.string (S t), .slice kA ks.length kc, .slice rA rs.length rc, .slice gA gs.length gc, .slice bA bs.length bc, .int .i64 (n : Int)], .int .i64 (p : Int), .int .i64 er]) := he
  subst he2
  have HO1 := Lib.hid ho1
  have HB1 := Lib.hid hb1
  clear ho1 hb1 Q1 he
  go_wp2_with fail
  refine (Q2.out _).mono ?_
  rintro e w2 ⟨⟨t', ks', rs', gs', bs', kA', kc', rA', rc', gA', gc', bA', bc', n'⟩, p', er', he, hb2, ho2⟩
  have he2 : e = .returned (.tuple #[.agg #[.string (S t'), .slice kA' ks'.length kc', .slice rA' rs'.length rc', .slice gA' gs'.length gc', .slice bA' bs'.length bc', .int .i64 (n' : Int)], .int .i64 (p' : Int), .int .i64 er']) := he
  subst he2
  have HX := (BoxL.new w1 [.string (S t), .slice kA ks.length kc, .slice rA rs.length rc, .slice gA gs.length gc, .slice bA bs.length bc, .int .i64 (n : Int)] 35).below hb2
  have hb12 : RowKit.Below w1.heap.size w1 w2 := ((RowKit.Below.refl _ _).alloc (Nat.le_refl _) _).trans (hb2.mono (by simp))
  obtain ⟨rfl, rfl, hp, hok, h1, h2⟩ := two_R HO1.out ho2
  have HB2 := Lib.hid (HB1.out.trans (hb12.mono HB1.out.size))
  have HBX := Lib.hid ((RowKit.Below.refl w2.heap.size w2).alloc (Nat.le_refl _) (.cells #[.string (S t'), .slice kA' ks'.length kc', .slice rA' rs'.length rc', .slice gA' gs'.length gc', .slice bA' bs'.length bc', .int .i64 (n' : Int)] 35))
  have QS0 := lw_rule_at _ _ (w2.alloc (.cells #[.string (S t'), .slice kA' ks'.length kc', .slice rA' rs'.length rc', .slice gA' gs'.length gc', .slice bA' bs'.length bc', .int .i64 (n' : Int)] 35)) hp hok ((h1.below hb12).below HBX.out) (h2.below HBX.out)
  have QS := Lib.hid (show Calls Tryz.prog 15 #[.agg #[.string (S t), .slice kA ks.length kc, .slice rA rs.length rc, .slice gA gs.length gc, .slice bA bs.length bc, .int .i64 (n : Int)], .agg #[.string (S t'), .slice kA' ks'.length kc', .slice rA' rs'.length rc', .slice gA' gs'.length gc', .slice bA' bs'.length bc', .int .i64 (n' : Int)]] (w2.alloc (.cells #[.string (S t'), .slice kA' ks'.length kc', .slice rA' rs'.length rc', .slice gA' gs'.length gc', .slice bA' bs'.length bc', .int .i64 (n' : Int)] 35)) fun e w' => e = .returned (.bool true) ∧ RowKit.Below (w2.alloc (.cells #[.string (S t'), .slice kA' ks'.length kc', .slice rA' rs'.length rc', .slice gA' gs'.length gc', .slice bA' bs'.length bc', .int .i64 (n' : Int)] 35)).heap.size (w2.alloc (.cells #[.string (S t'), .slice kA' ks'.length kc', .slice rA' rs'.length rc', .slice gA' gs'.length gc', .slice bA' bs'.length bc', .int .i64 (n' : Int)] 35)) w' from QS0)
  clear QS0
  have HB3 := Lib.hid (HB2.out.trans (HBX.out.mono HB2.out.size))
  obtain ⟨c0, c1, c2, c3, c4, c5, _, _, _, _, _, _⟩ := (HX.below HBX.out).get6
  obtain ⟨d0, d1, d2, d3, d4, d5, _, _, _, _, _, _⟩ := (BoxL.new w2 [.string (S t'), .slice kA' ks'.length kc', .slice rA' rs'.length rc', .slice gA' gs'.length gc', .slice bA' bs'.length bc', .int .i64 (n' : Int)] 35).get6
  have hne : ¬ w1.heap.size = w2.heap.size := by have := HX.lt; omega
  clear hb2 ho2 HO1 hb12 h1 h2 hok hp Q2 HX he
  go_wp2_with (first | (go_at_call 9; (with_reducible refine (QE.out _).mono ?_); rintro e w5 ⟨rfl, hb5⟩; have HB5 := Lib.hid (HB4.out.trans (hb5.mono HB4.out.size)); clear hb5) | (go_at_call 15; (with_reducible refine QS.out.mono ?_); rintro e w4 ⟨rfl, hb4⟩; have HB4 := Lib.hid (HB3.out.trans (hb4.mono HB3.out.size)); clear hb4) | fail)
  go_ret
  exact ⟨rfl, HB5.out⟩
end Go.Proofs.YtaojnljppcnhjaaGreatDoor.syntaxRules
