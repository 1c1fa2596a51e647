/-
  Contracts of the reader's integer (all cases) and label.
-/
import Derived.Test.YtlpibnbabgfiiaaGreatDoorTtRead
namespace Go.Proofs.YtlpibnbabgfiiaaGreatDoor
open Go.RowKit

theorem int_at (s : ByteArray) (R p : Nat) (w : World) (hs : s.size ≤ 16384) (h : Rd w R s p) (hp : p < s.size) :
    Calls Tryz.prog 123 #[.pointer (some ⟨R, 0, none⟩)] w (Parsed R s w (intP (rest s p))) := by
  by_cases h45 : s[p] = 45
  · by_cases hD : (rest s (p + 1)).takeWhile digB = []
    · exact int_neg_empty s R p w hs h hp h45 hD
    · by_cases hz : ((rest s (p + 1)).takeWhile digB).headD 0 = 48
      · exact int_neg_zero s R p w hs h hp h45 hD hz
      · rcases atoi_minus hD (while_all _ _) with ⟨hv, _⟩ | ⟨hv, ⟨v, ha, hb⟩ | ha⟩
        · exact int_neg_small s R p w hs h hp h45 hD hz hv
        · exact int_neg_great s R p w hs h hp h45 hD hz hv v ha hb
        · exact int_neg_fails s R p w hs h hp h45 hD hz hv ha
  · by_cases hD : (rest s p).takeWhile digB = []
    · exact int_pos_empty s R p w hs h hp h45 hD
    · by_cases hz : ((rest s p).takeWhile digB).headD 0 = 48
      · by_cases hl : 1 < ((rest s p).takeWhile digB).length
        · exact int_pos_zero s R p w hs h hp h45 hD hz hl
        · refine int_pos_one s R p w hs h hp h45 ?_
          rcases hd : (rest s p).takeWhile digB with _ | ⟨c, r⟩
          · exact absurd hd hD
          · rw [hd] at hz hl
            simp only [List.headD_cons] at hz
            simp only [List.length_cons] at hl
            obtain rfl : r = [] := List.length_eq_zero_iff.1 (by omega)
            rw [hz]
      · rcases atoi_plain hD (while_all _ _) with ⟨hv, _⟩ | ⟨hv, ⟨v, ha, hb⟩ | ha⟩
        · exact int_pos_small s R p w hs h hp h45 hD hz hv
        · exact int_pos_great s R p w hs h hp h45 hD hz hv v ha hb
        · exact int_pos_fails s R p w hs h hp h45 hD hz hv ha

theorem no_label {l : List UInt8} (h : ¬ (spell (l.drop 1) ≤ 1048576 ∧ l = label (spell (l.drop 1)))) : NoLabel l := fun n hn e => by
  have e2 : spell (l.drop 1) = n := by rw [e]; exact spell_dec n
  exact h (by rw [e2]; exact ⟨hn, e⟩)

set_option maxHeartbeats 1000000 in
theorem lab_yes (s : ByteArray) (R p : Nat) (w : World) (hs : s.size ≤ 16384) (h : Rd w R s p) (hc : (spell (((rest s p).takeWhile inB).drop 1) ≤ 1048576 ∧ (rest s p).takeWhile inB = label (spell (((rest s p).takeWhile inB).drop 1)))) :
    Calls Tryz.prog 124 #[.pointer (some ⟨R, 0, none⟩)] w (Parsed R s w (labP (rest s p))) := by
  have hsm : s.size ≤ maxLen := by unfold maxLen; omega
  have hR := h.lt
  have H := Lib.hid h
  have HC := Lib.hid hc
  obtain ⟨n, hn⟩ : ∃ n, n = spell (((rest s p).takeWhile inB).drop 1) := ⟨_, rfl⟩
  have HV := Lib.hid (show labP (rest s p) = .ok (varT n) (skip ((rest s p).dropWhile inB)) by unfold labP; rw [if_pos hc, hn])
  have HN := Lib.hid hn
  have hn1 : n ≤ 1048576 := by rw [hn]; exact hc.1
  clear hn
  clear h hc
  go_enter Tryz.func124, Tryz.ntmps124
  go_wp2_with fail
  refine (take_word s R p _ hsm (H.out.alloc _)).mono ?_
  rintro e w1 ⟨p', x, hx, hr', hp', rfl, hk, hr1⟩
  have HX := Lib.hid hx
  have HR' := Lib.hid hr'
  have HK := Lib.hid hk
  have HR := Lib.hid hr1
  have hxs : x.size ≤ 1000000000000 := by have := hr1.le; omega
  clear hx hr' hp' hk hr1
  go_wp2_with fail
  refine (number_yes x n _ ⟨hn1, by rw [HX.out, HN.out]; exact HC.out.2⟩ HR.out.laid.laid).mono ?_
  rintro e w2 ⟨rfl, hb2⟩
  have HK2 := Lib.hid (HK.out.trans (Below.keeps hb2 R))
  have HR2 := Lib.hid (HR.out.below hb2)
  clear hb2
  go_wp2_with fail
  refine (var_tm_at _ _).mono ?_
  rintro e w3 ⟨rfl, hb3⟩
  have HK3 := Lib.hid (HK2.out.trans (Below.keeps hb3 R))
  have HR3 := Lib.hid (HR2.out.below hb3)
  clear hb3
  obtain ⟨c0, c1, c2, c3, f0, f1, f2, f3, hz⟩ := boxK4 hR HK3.out
  go_wp2_with fail
  refine bodyPost_ret (v := .tuple #[.agg #[.int .i64 1, .int .i64 (n : Int), .string ⟨#[]⟩, .slice none 0 0], .int .i64 0]) (by simp [results, Tryz.results124, go_sem, c0, c1, c2, c3]) rfl ?_
  exact parsed_put (u := varT n) hR HK3.out HR3.out (Live.any (varT_at n hn1)) (.inl ⟨varT n, by rw [HV.out, HR'.out], rfl, rfl⟩) rfl

set_option maxHeartbeats 1000000 in
theorem lab_no (s : ByteArray) (R p : Nat) (w : World) (hs : s.size ≤ 16384) (h : Rd w R s p) (hc : ¬ (spell (((rest s p).takeWhile inB).drop 1) ≤ 1048576 ∧ (rest s p).takeWhile inB = label (spell (((rest s p).takeWhile inB).drop 1)))) :
    Calls Tryz.prog 124 #[.pointer (some ⟨R, 0, none⟩)] w (Parsed R s w (labP (rest s p))) := by
  have hsm : s.size ≤ maxLen := by unfold maxLen; omega
  have hR := h.lt
  have H := Lib.hid h
  have HC := Lib.hid hc
  have HV := Lib.hid (show labP (rest s p) = .err 7 by unfold labP; rw [if_neg hc])
  clear h hc
  go_enter Tryz.func124, Tryz.ntmps124
  go_wp2_with fail
  refine (take_word s R p _ hsm (H.out.alloc _)).mono ?_
  rintro e w1 ⟨p', x, hx, hr', hp', rfl, hk, hr1⟩
  have HX := Lib.hid hx
  have HR' := Lib.hid hr'
  have HK := Lib.hid hk
  have HR := Lib.hid hr1
  have hxs : x.size ≤ 1000000000000 := by have := hr1.le; omega
  clear hx hr' hp' hk hr1
  go_wp2_with fail
  refine (number_no x _ hxs (by rw [HX.out]; exact no_label HC.out) HR.out.laid.laid).mono ?_
  rintro e w2 ⟨rfl, hb2⟩
  have HK2 := Lib.hid (HK.out.trans (Below.keeps hb2 R))
  have HR2 := Lib.hid (HR.out.below hb2)
  clear hb2
  obtain ⟨c0, c1, c2, c3, f0, f1, f2, f3, hz⟩ := boxK4 hR HK2.out
  go_wp2_with fail
  refine bodyPost_ret (v := .tuple #[.agg #[.int .i64 0, .int .i64 0, .string ⟨#[]⟩, .slice none 0 0], .int .i64 7]) (by simp [results, Tryz.results124, go_sem, c0, c1, c2, c3]) rfl ?_
  exact parsed_put hR HK2.out HR2.out (Live.any zeroT_at) (.inr ⟨7, by omega, HV.out, rfl⟩) rfl

theorem lab_at (s : ByteArray) (R p : Nat) (w : World) (hs : s.size ≤ 16384) (h : Rd w R s p) :
    Calls Tryz.prog 124 #[.pointer (some ⟨R, 0, none⟩)] w (Parsed R s w (labP (rest s p))) := by
  by_cases hc : (spell (((rest s p).takeWhile inB).drop 1) ≤ 1048576 ∧ (rest s p).takeWhile inB = label (spell (((rest s p).takeWhile inB).drop 1)))
  · exact lab_yes s R p w hs h hc
  · exact lab_no s R p w hs h hc
end Go.Proofs.YtlpibnbabgfiiaaGreatDoor
