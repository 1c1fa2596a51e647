/-
  WkSyntaxSpaces.
-/
import Derived.Test.YtaojnljppcnhjaaGreatDoorMh32
import Derived.Test.YtaojnljppcnhjaaGreatDoorMh34
import Derived.Test.YtaojnljppcnhjaaGreatDoorMh15
namespace Go.Proofs.YtaojnljppcnhjaaGreatDoor.syntaxSpaces
open Go.ChangeShapes Go.WideShapes Go.ChangeAt Go.RowKit Go.Sort
set_option linter.unusedVariables false
theorem two_S {s x : ByteArray} {T : List Tok} {w1 w2 : World} {p1 p2 : Nat} {e1 e2 : Int} {V1 V2 : Array Value} (hs : s.size ≤ 16384) (hx : x.size ≤ 16384) (hT : toksOf s.data.toList = some T) (hU : toksOf x.data.toList = some T) (h1 : OutP s w1 V1 p1 e1) (h2 : OutP x w2 V2 p2 e2) : e2 = e1 ∧ ∃ y, POk y ∧ RdP w1 V1 y ∧ RdP w2 V2 y := by
  rcases whole_two PF hs hx hT hU with ⟨y, a1, a2⟩ | ⟨p, q, e, a1, a2⟩
  · rcases h1 with ⟨rfl, rfl, z, hz, hm⟩ | ⟨_, rfl, hz⟩ <;> rw [a1] at hz
    · injection hz with hz
      subst hz
      rcases h2 with ⟨rfl, rfl, z, hz, hn⟩ | ⟨_, rfl, hz⟩ <;> rw [a2] at hz
      · injection hz with hz
        subst hz
        exact ⟨rfl, y, pok_of a1, hm, hn⟩
      · cases hz
    · cases hz
  · rcases h1 with ⟨rfl, rfl, z, hz, hm⟩ | ⟨_, rfl, hz⟩ <;> rw [a1] at hz
    · cases hz
    · injection hz with hz
      injection hz with b1 b2
      rcases h2 with ⟨rfl, rfl, z, hz, hn⟩ | ⟨_, rfl, hz⟩ <;> rw [a2] at hz
      · cases hz
      · injection hz with hz
        injection hz with b3 b4
        exact ⟨by rw [← b2, ← b4], _, pok_nil, rdp_nil _, rdp_nil _⟩
set_option maxHeartbeats 8000000 in
set_option maxRecDepth 100000 in
theorem walk (a0 : ByteArray) (a1 : Int) (w : World) (w0 : a0.size ≤ maxLen) (w1 : (Lit.int .u64 a1).wf = true) :
    Calls Tryz.prog 7 #[.string a0, .int .u64 a1] w fun e w' => e = .returned (.bool true) ∧ Below w.heap.size w w' := by
  have QE := Lib.hid awake_at
  by_cases h1 : 2000 < a0.size
  · have h1' : (2000 : Int) < ((a0.size : Nat) : Int) := by omega
    clear h1 w0 w1
    go_enter Tryz.func7, Tryz.ntmps7
    go_wp2_with fail
    refine (QE.out _).mono ?_
    rintro e w2 ⟨rfl, hb3⟩
    go_wp2_with fail
    go_ret
    exact ⟨rfl, hb3⟩
  have h1' : decide ((2000 : Int) < ((a0.size : Nat) : Int)) = false := by simp; omega
  have hs : a0.size ≤ 100000 := by omega
  obtain ⟨sd, rfl, hsd⟩ : ∃ sd : Nat, a1 = (sd : Int) ∧ sd < 18446744073709551616 := by
    have hw : IntKind.min .u64 ≤ a1 ∧ a1 ≤ IntKind.max .u64 := by simpa only [Lit.wf, decide_eq_true_eq, Bool.and_eq_true] using w1
    have h1 : IntKind.min .u64 = 0 := by decide
    have h2 : IntKind.max .u64 = 18446744073709551615 := by decide
    rw [h1, h2] at hw
    exact ⟨a1.toNat, by omega, by omega⟩
  have hs2 : a0.size ≤ 2000 := by omega
  have QS := Lib.hid (fun W => tr_scan_at a0 W hs)
  have Q1 := Lib.hid (fun W => out_P a0 hs W)
  have Q2 := Lib.hid (fun x W (h : x.size ≤ 100000) => out_P x h W)
  have HS := Lib.hid (fun (h0 : (scanP a0).2.2 = 0) => spread_scan (s := a0) (by omega) h0 sd)
  have HT := Lib.hid (fun (h0 : (scanP a0).2.2 = 0) => show ∃ T, toksOf a0.data.toList = some T from ⟨_, by rw [toksOf_left a0 (by omega), if_neg (by omega)]⟩)
  have HM := Lib.hid (fun i hi => spread_small hs2 sd i hi)
  have HOf := Lib.hid (fun (h0 : (scanP a0).2.2 = 0) => good_scan (s := a0) h0)
  have HZ := Lib.hid hs2
  unfold ScanR at QS
  generalize hsc : scanP a0 = sc at QS HS HT HM HOf
  obtain ⟨l, p0, e0⟩ := sc
  simp only at QS HS HT HM HOf
  clear hsc h1 hs w0 w1
  by_cases he : e0 = 0
  · subst he
    obtain ⟨hl0, hST⟩ := HS.out rfl
    obtain ⟨T, hT⟩ := HT.out rfl
    have hg := HOf.out rfl
    rw [hT] at hST
    have HG := Lib.hid (And.intro hT hST)
    have QP := Lib.hid (fun A c W (h : TLst W A l c) => spread_at l A c W sd hsd h (HM.out 0 (Nat.zero_le _)).2.1 (fun i hi => (HM.out i hi).1) (fun j hj => ⟨(HM.out 0 (Nat.zero_le _)).2.2 j hj, by have := hg.offs j hj; omega⟩))
    have HX := Lib.hid (show ∀ x : ByteArray, x.data.toList = sprT l sd l.length → x.size ≤ 11000 from fun x hx => by
      have h1 := (HM.out l.length (Nat.le_refl _)).1
      rw [← hx] at h1
      have e : x.data.toList.length = x.size := Array.length_toList
      omega)
    clear hg hT hST HS HT HM HOf hl0 hsd
    go_enter Tryz.func7, Tryz.ntmps7
    go_wp2_with fail
    refine (QS.out _).mono ?_
    rintro e w1 ⟨A, c, rfl, hl, hb1⟩
    have HL := Lib.hid hl
    have HB1 := Lib.hid hb1
    clear hl hb1 QS
    simp only
    go_wp2_with fail
    refine (Q1.out _).mono ?_
    rintro e w2 ⟨dA, rA, dn, dc, rn, rc, p, er, rfl, hb2, ho1⟩
    have HA2 := Lib.hid ((RowKit.Below.refl w2.heap.size w2).alloc (Nat.le_refl _) (.cells #[.slice dA dn dc, .slice rA rn rc] 26))
    have HX2 := Lib.hid (BoxL.new w2 [.slice dA dn dc, .slice rA rn rc] 26)
    have QP2 := Lib.hid (QP.out A c _ ((HL.out.below hb2).below HA2.out))
    have HB2 := Lib.hid (HB1.out.trans (hb2.mono HB1.out.size))
    have HO1 := Lib.hid ho1
    clear ho1 hb2 Q1 QP HL
    go_wp2_with (go_at_call 22; (with_reducible refine QP2.out.mono ?_); rintro e w3 ⟨⟨x, rfl, hx⟩, hb3⟩; have HXt := Lib.hid hx; have HB23 := Lib.hid (HA2.out.trans (hb3.mono HA2.out.size)); have HX3 := Lib.hid (HX2.out.below hb3); have Q3 := Lib.hid (fun W => Q2.out x W (by have := HX.out x hx; omega)); clear hx hb3)
    refine (Q3.out _).mono ?_
    rintro e w4 ⟨dA', rA', dn', dc', rn', rc', p', er', rfl, hb4, ho2⟩
    obtain ⟨rfl, y, hok, h1, h2⟩ := two_S (by have := HZ.out; omega) (by have := HX.out x HXt.out; omega) HG.out.1 (by rw [HXt.out]; exact HG.out.2) HO1.out ho2
    have HBX := Lib.hid ((RowKit.Below.refl w4.heap.size w4).alloc (Nat.le_refl _) (.cells #[.slice dA' dn' dc', .slice rA' rn' rc'] 26))
    have hb24 := HB23.out.trans (hb4.mono HB23.out.size)
    have QSm := Lib.hid (lw_program_at (w4.alloc (.cells #[.slice dA' dn' dc', .slice rA' rn' rc'] 26)) hok.1 hok.2.1 hok.2.2 ((h1.below hb24).below HBX.out) (h2.below HBX.out))
    have HB3 := Lib.hid ((HB2.out.trans (hb24.mono HB2.out.size)).trans (HBX.out.mono (HB2.out.trans (hb24.mono HB2.out.size)).size))
    have HX4 := HX3.out.below hb4
    obtain ⟨c0, c1⟩ := get_two (HX4.below HBX.out)
    obtain ⟨d0, d1⟩ := get_two (BoxL.new w4 [.slice dA' dn' dc', .slice rA' rn' rc'] 26)
    have hne : ¬ w2.heap.size = w4.heap.size := by have := HX4.lt; omega
    clear hb4 ho2 HO1 hb24 h1 h2 hok Q2 Q3 HX4
    go_wp2_with (first | (go_at_call 9; (with_reducible refine (QE.out _).mono ?_); rintro e w5 ⟨rfl, hb5⟩; have HB5 := Lib.hid (HB4.out.trans (hb5.mono HB4.out.size)); clear hb5) | (go_at_call 12; (with_reducible refine QSm.out.mono ?_); rintro e w5 ⟨rfl, hb4⟩; have HB4 := Lib.hid (HB3.out.trans (hb4.mono HB3.out.size)); clear hb4) | fail)
    go_ret
    exact ⟨rfl, HB5.out⟩
  · have hne : (e0 != 0) = true := bne_iff_ne.2 he
    clear he HS HT HM HOf Q1 Q2
    go_enter Tryz.func7, Tryz.ntmps7
    go_wp2_with fail
    refine (QS.out _).mono ?_
    rintro e w1 ⟨A, c, rfl, hl, hb1⟩
    have HB3 := Lib.hid hb1
    clear hl hb1 QS
    simp only
    go_wp2_with (go_at_call 9; (with_reducible refine (QE.out _).mono ?_); rintro e w5 ⟨rfl, hb5⟩; have HB5 := Lib.hid (HB3.out.trans (hb5.mono HB3.out.size)); clear hb5)
    go_ret
    exact ⟨rfl, HB5.out⟩
end Go.Proofs.YtaojnljppcnhjaaGreatDoor.syntaxSpaces
