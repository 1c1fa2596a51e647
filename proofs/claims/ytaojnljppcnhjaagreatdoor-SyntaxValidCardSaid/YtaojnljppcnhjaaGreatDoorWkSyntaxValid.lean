/-
  WkSyntaxValid.
-/
import Derived.Test.YtaojnljppcnhjaaGreatDoorMh32
import Derived.Test.YtaojnljppcnhjaaGreatDoorMh33
namespace Go.Proofs.YtaojnljppcnhjaaGreatDoor.syntaxValid
open Go.ChangeShapes Go.WideShapes Go.ChangeAt Go.RowKit Go.Sort
set_option linter.unusedVariables false
set_option maxHeartbeats 8000000 in
set_option maxRecDepth 100000 in
theorem walk (a0 : ByteArray) (w : World) (w0 : a0.size ≤ maxLen) :
    Calls Tryz.prog 6 #[.string a0] w fun e w' => e = .returned (.bool true) ∧ Below w.heap.size w w' := by
  have QE := Lib.hid awake_at
  by_cases h1 : 4000 < a0.size
  · have h1' : (4000 : Int) < ((a0.size : Nat) : Int) := by omega
    clear h1 w0
    go_enter Tryz.func6, Tryz.ntmps6
    go_wp2_with fail
    refine (QE.out _).mono ?_
    rintro e w2 ⟨rfl, hb3⟩
    go_wp2_with fail
    go_ret
    exact ⟨rfl, hb3⟩
  have h1' : decide ((4000 : Int) < ((a0.size : Nat) : Int)) = false := by simp; omega
  have hs : a0.size ≤ 100000 := by omega
  have Q1 := Lib.hid (fun W => out_P a0 hs W)
  have hs16 : a0.size ≤ 16384 := by omega
  have HS16 := Lib.hid hs16
  clear h1 hs w0 hs16
  go_enter Tryz.func6, Tryz.ntmps6
  go_wp2_with fail
  refine (Q1.out _).mono ?_
  rintro e w1 ⟨dA, rA, dn, dc, rn, rc, p, er, rfl, hb1, ho1⟩
  have HA := Lib.hid ((RowKit.Below.refl w1.heap.size w1).alloc (Nat.le_refl _) (.cells #[.slice dA dn dc, .slice rA rn rc] 26))
  have HB3 := Lib.hid (hb1.trans (HA.out.mono hb1.size))
  have HX := Lib.hid (BoxL.new w1 [.slice dA dn dc, .slice rA rn rc] 26)
  obtain ⟨d0, d1⟩ := get_two HX.out
  clear hb1 Q1
  rcases ho1 with ⟨rfl, rfl, x, hx, hm⟩ | ⟨hne, hv, hx⟩
  · obtain ⟨k1, k2, k3⟩ := whole_P_ok hx
    obtain ⟨ds, rz, _, _, _, _, e1, rfl, hd, hr⟩ := hm
    simp only [Array.mk.injEq, List.cons.injEq, Value.slice.injEq, and_true] at e1
    obtain ⟨⟨rfl, rfl, rfl⟩, rfl, rfl, rfl⟩ := e1
    simp only [List.length_map] at k2
    have HK := Lib.hid (fun i (hi : i < rz.length) => k3 (rz.getD i default).p (List.mem_map_of_mem (getD_in hi)))
    have HR := Lib.hid hr
    have hr8 : rz.length ≤ 9223372036854775807 := by omega
    have HL40 := Lib.hid k2
    have k1' : ds.length ≤ 30 := k1
    clear hx k3 hd hr
    go_wp2_with fail
    obtain ⟨wa, hwa⟩ : ∃ wa, w1.alloc (.cells #[.slice dA ds.length dc, .slice rA rz.length rc] 26) = wa := ⟨_, rfl⟩
    rw [hwa] at HA HB3 HX
    rw [hwa]
    clear d0 d1 hwa k1 k1' k2
    go_loopw [55] (fun i wr => ∃ j : Nat, j ≤ rz.length ∧ i = .int .i64 j ∧ RowKit.Below wa.heap.size wa wr) (fun i _ => rz.length - (intOf i).toNat)
    case atStart => exact ⟨0, Nat.zero_le _, rfl, RowKit.Below.refl _ _⟩
    case round =>
      obtain ⟨j, hj, rfl, hbw⟩ := hrel
      obtain ⟨wo, hwo⟩ : ∃ wo, wo = wr := ⟨_, rfl⟩
      subst hwo
      have HBw := Lib.hid hbw
      obtain ⟨c0, c1⟩ := get_two (HX.out.below hbw)
      by_cases hlt : j < rz.length
      · obtain ⟨g, hA, hx, hc⟩ := ((HR.out.below HA.out).below hbw).get hlt
        have Q1 := Lib.hid (valid_at (rz.getD j default) wo (HK.out j hlt) (ru_blk_get ((HR.out.below HA.out).below hbw) hlt))
        subst hA
        have k0 : wo.cell? ⟨g, j * 6, none⟩ = _ := hc 0 _ rfl
        have k1 : wo.cell? ⟨g, j * 6 + 1, none⟩ = _ := hc 1 _ rfl
        have k2 : wo.cell? ⟨g, j * 6 + 2, none⟩ = _ := hc 2 _ rfl
        have k3 : wo.cell? ⟨g, j * 6 + 3, none⟩ = _ := hc 3 _ rfl
        have k4 : wo.cell? ⟨g, j * 6 + 4, none⟩ = _ := hc 4 _ rfl
        have k5 : wo.cell? ⟨g, j * 6 + 5, none⟩ = _ := hc 5 _ rfl
        clear hc hx hbw
        generalize rz.getD j default = x at *
        obtain ⟨t, ks, rs, gs, bs, kA, kc, pA, pc, gA, gc, bA, bc, n⟩ := x
        simp only at k0 k1 k2 k3 k4 k5
        have Q2 := Lib.hid (show Calls Tryz.prog 20 #[.agg #[.string (S t), .slice kA ks.length kc, .slice pA rs.length pc, .slice gA gs.length gc, .slice bA bs.length bc, .int .i64 (n : Int)]] wo fun e w' => e = .returned (.bool true) ∧ RowKit.Below wo.heap.size wo w' from Q1.out)
        clear Q1
        go_wp2_with (go_at_call 20; (with_reducible refine Q2.out.mono ?_); rintro e w6 ⟨rfl, hb6⟩; have HB6 := Lib.hid (HBw.out.trans (hb6.mono HBw.out.size)); clear hb6)
        go_roundw
        case rel => exact ⟨j + 1, by omega, by go_num, HB6.out⟩
        case measure => simp [intOf]; omega
      · obtain rfl : j = rz.length := by omega
        have HB3 := Lib.hid (HB3.out.trans (hbw.mono HB3.out.size))
        go_wp2_with (go_at_call 9; (with_reducible refine (QE.out _).mono ?_); rintro e w5 ⟨rfl, hb5⟩; have HB5 := Lib.hid (HB3.out.trans (hb5.mono HB3.out.size)); clear hb5)
        go_ret
        exact ⟨rfl, HB5.out⟩
  · have hpo := whole_off HS16.out hx
    simp only [Array.mk.injEq, List.cons.injEq, Value.slice.injEq, and_true] at hv
    obtain ⟨⟨rfl, rfl, rfl⟩, rfl, rfl, rfl⟩ := hv
    have hnb : (er != 0) = true := bne_iff_ne.2 hne
    have hp0 : (0 : Int) ≤ (p : Int) := by omega
    have hpI : (p : Int) ≤ ((a0.size : Nat) : Int) := by omega
    clear hne hx
    go_wp2_with (go_at_call 9; (with_reducible refine (QE.out _).mono ?_); rintro e w5 ⟨rfl, hb5⟩; have HB5 := Lib.hid (HB3.out.trans (hb5.mono HB3.out.size)); clear hb5)
    go_ret
    exact ⟨rfl, HB5.out⟩
end Go.Proofs.YtaojnljppcnhjaaGreatDoor.syntaxValid
