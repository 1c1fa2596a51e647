/-
  WkSyntaxPrograms.
-/
import Derived.Test.YtaojnljppcnhjaaGreatDoorMf33
namespace Go.Proofs.YtaojnljppcnhjaaGreatDoor.syntaxPrograms
open Go.ChangeShapes Go.WideShapes Go.ChangeAt Go.RowKit Go.Sort
set_option linter.unusedVariables false
set_option maxHeartbeats 8000000 in
set_option maxRecDepth 100000 in
theorem walk (a0 : ByteArray) (w : World) (w0 : a0.size ≤ maxLen) :
    Calls Tryz.prog 3 #[.string a0] w fun e w' => e = .returned (.bool true) ∧ Below w.heap.size w w' := by
  have QE := Lib.hid awake_at
  by_cases h1 : 4000 < a0.size
  · have h1' : (4000 : Int) < ((a0.size : Nat) : Int) := by omega
    clear h1 w0
    go_enter Tryz.func3, Tryz.ntmps3
    go_wp2_with fail
    refine (QE.out _).mono ?_
    rintro e w2 ⟨rfl, hb3⟩
    go_wp2_with fail
    go_ret
    exact ⟨rfl, hb3⟩
  have h1' : decide ((4000 : Int) < ((a0.size : Nat) : Int)) = false := by simp; omega
  have hs : a0.size ≤ 100000 := by omega
  have Q1 := Lib.hid (fun W => out_P a0 hs W)
  have Q2 := Lib.hid (fun W => out_Pz a0 hs W)
  clear h1 hs w0
  go_enter Tryz.func3, Tryz.ntmps3
  go_wp2_with fail
  refine (Q1.out _).mono ?_
  rintro e w1 ⟨dA, rA, dn, dc, rn, rc, p, er, rfl, hb1, ho1⟩
  have HO1 := Lib.hid ho1
  have HB1 := Lib.hid hb1
  clear ho1 hb1 Q1
  go_wp2_with fail
  refine (Q2.out _).mono ?_
  rintro e w2 ⟨dA', rA', dn', dc', rn', rc', p', er', rfl, hb2, ho2⟩
  obtain ⟨c0, c1, hb12⟩ := box_two hb2
  obtain ⟨rfl, rfl, y, hok, h1, h2⟩ := two_P HO1.out ho2
  have k0 := fun o => (World.cell?_alloc_lt w2 o _ (World.block_lt_of_cell? _ _ c0)).trans c0
  have k1 := fun o => (World.cell?_alloc_lt w2 o _ (World.block_lt_of_cell? _ _ c1)).trans c1
  have HB2 := Lib.hid (HB1.out.trans (hb12.mono HB1.out.size))
  have HBX := Lib.hid ((RowKit.Below.refl w2.heap.size w2).alloc (Nat.le_refl _) (.cells #[.slice dA' dn' dc', .slice rA' rn' rc'] 26))
  have QS := Lib.hid (lw_program_at (w2.alloc (.cells #[.slice dA' dn' dc', .slice rA' rn' rc'] 26)) hok.1 hok.2.1 hok.2.2 ((h1.below hb12).below HBX.out) (h2.below HBX.out))
  have HB3 := Lib.hid (HB2.out.trans (HBX.out.mono HB2.out.size))
  obtain ⟨d0, d1⟩ := get_two (BoxL.new w2 [.slice dA' dn' dc', .slice rA' rn' rc'] 26)
  have hne : ¬ w1.heap.size = w2.heap.size := by have := World.block_lt_of_cell? _ _ c0; simp only at this; omega
  clear hb2 ho2 HO1 hb12 h1 h2 hok c0 c1 Q2
  go_wp2_with (first | (go_at_call 9; (with_reducible refine (QE.out _).mono ?_); rintro e w5 ⟨rfl, hb5⟩; have HB5 := Lib.hid (HB4.out.trans (hb5.mono HB4.out.size)); clear hb5) | (go_at_call 12; (with_reducible refine QS.out.mono ?_); rintro e w4 ⟨rfl, hb4⟩; have HB4 := Lib.hid (HB3.out.trans (hb4.mono HB3.out.size)); clear hb4) | fail)
  go_ret
  exact ⟨rfl, HB5.out⟩
end Go.Proofs.YtaojnljppcnhjaaGreatDoor.syntaxPrograms
