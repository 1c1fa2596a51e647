/-
  The contract of the reference's integer.
-/
import Derived.Test.YtlpibnbabgfiiaaGreatDoorTrRead
import Derived.IntWalk
namespace Go.Proofs.YtlpibnbabgfiiaaGreatDoor
open Go.RowKit

/-- A term was read, or the error is set. -/
def ParsedR (R : Nat) (s : ByteArray) (w : World) (res : PR Tm) (e : Ending) (w' : World) : Prop :=
  ∃ u p', e = .returned u.val ∧ Live w.heap.size No w' u ∧ Keeps R w w' ∧ ((∃ t, res = .ok t (skip (rest s p')) ∧ u.strip = t ∧ Rr w' R s p' 0) ∨ (∃ c : Int, c ≠ 0 ∧ res = .err c ∧ Rr w' R s p' c))
theorem parsedr_put {R : Nat} {s : ByteArray} {w W : World} {o : Obj} {u : Tm} {res : PR Tm} (hR : R < w.heap.size) (hk : Keeps R (w.alloc o) W) (hl : Live (w.heap.size + 1) No W u) {p' : Nat}
    (ho : (∃ t, res = .ok t (skip (rest s p')) ∧ u.strip = t ∧ Rr W R s p' 0) ∨ (∃ c : Int, c ≠ 0 ∧ res = .err c ∧ Rr W R s p' c))
    {k n : Int} {nm : ByteArray} {A : Option Addr} {l c : Nat} (hu : u.val = .agg #[.int .i64 k, .int .i64 n, .string nm, .slice A l c]) :
    ParsedR R s w res (.returned (.agg #[.int .i64 k, .int .i64 n, .string nm, .slice A l c])) ((((W.setCell ⟨w.heap.size, 0, none⟩ (.int .i64 k)).setCell ⟨w.heap.size, 1, none⟩ (.int .i64 n)).setCell ⟨w.heap.size, 2, none⟩ (.string nm)).setCell ⟨w.heap.size, 3, none⟩ (.slice A l c)) := by
  refine ⟨u, p', by rw [← hu], (hl.put4 (b := w.heap.size) (.inl (by omega))).low (by omega), (((Keeps.refl R w).alloc o).trans hk).put4 (Nat.le_refl _), ?_⟩
  rcases ho with ⟨t, h1, h2, h3⟩ | ⟨c, h1, h2, h3⟩
  · exact .inl ⟨t, h1, h2, h3.put4 (by omega)⟩
  · exact .inr ⟨c, h1, h2, h3.put4 (by omega)⟩

theorem quiet_more {P : Program} {f : FuncId} {args : Array Value} {w : World} {a n : Nat} {v : Value} (h : Calls P f args (w.drewN (a + n)) fun e w' => e = .returned v ∧ w.drewN (a + n) = w') :
    Calls P f args (w.drewN (a + n)) fun e w' => e = .returned v ∧ ∃ m, w' = w.drewN (a + m) := h.mono (by rintro e w' ⟨he, rfl⟩; exact ⟨he, n, rfl⟩)
theorem spell_take {s : ByteArray} {q0 q : Nat} (h0 : q0 ≤ q) (hq : q < s.size) : spell ((rest s q0).take (q + 1 - q0)) = 10 * spell ((rest s q0).take (q - q0)) + (s[q].toNat - 48) := by
  have hl : q - q0 < (rest s q0).length := by rw [rest_len]; omega
  rw [show q + 1 - q0 = (q - q0) + 1 by omega, List.take_succ_eq_append_getElem hl, spell_snoc]
  have : (rest s q0)[q - q0] = s[q] := by
    have e : (rest s q0)[q - q0] = (rest s q).headD 0 := by
      have hr := rest_drop s q0 (q - q0)
      rw [show q0 + (q - q0) = q by omega] at hr
      rw [hr]
      simp [List.headD_eq_head?_getD, List.head?_drop, hl]
    rw [e, rest_head hq]
  rw [this]

theorem takenr_next_d {R p q j n : Nat} {er : Int} {s : ByteArray} {k : UInt8 → Bool} {w wr : World} (hq : q < s.size) (h : TakingR R s p k er w j q wr) (hk : k s[q] = true) :
    TakingR R s p k er w (j - 1) (q + 1) ((wr.drewN n).setCell ⟨R, 1, none⟩ (.int .i64 ((q + 1 : Nat) : Int))) :=
  takenr_next hq ⟨h.1.drewN n, h.2.1.drewN n, h.2.2.1, h.2.2.2.1, h.2.2.2.2.1, h.2.2.2.2.2⟩ hk
set_option maxHeartbeats 2000000 in
set_option maxRecDepth 10000 in
theorem intr_neg_zero (s : ByteArray) (R p : Nat) (w : World) (hs : s.size ≤ maxLen) (h : Rr w R s p 0) (hp : p < s.size) (h45 : s[p] = 45) (hd : digB ((rest s (p + 1)).headD 0) = true) (hz : (rest s (p + 1)).headD 0 = 48) :
    Calls Tryz.prog 125 #[.pointer (some ⟨R, 0, none⟩)] w (ParsedR R s w (intP (rest s p))) := by
  have hs' : s.size ≤ 9223372036854775807 := by unfold maxLen at hs; omega
  have hR := h.lt
  have hb45 : ((s[p].toNat : Int) == 45) = true := by rw [h45]; rfl
  have hq : (p + 1) < s.size := by
    rcases Nat.lt_or_ge (p + 1) s.size with h | h
    · exact h
    · rw [rest_end h] at hd; exact absurd hd (by decide)
  have hD : ((rest s (p + 1)).takeWhile digB) = s[(p + 1)] :: (rest s ((p + 1) + 1)).takeWhile digB := (while_next hq (by rw [← rest_head hq]; exact hd)).1
  have hDh : ((rest s (p + 1)).takeWhile digB).headD 0 = (rest s (p + 1)).headD 0 := by rw [hD, rest_head hq]; rfl
  have hDne : ((rest s (p + 1)).takeWhile digB) ≠ [] := by rw [hD]; simp
  have hcons : rest s p = 45 :: rest s (p + 1) := by rw [rest_cons hp, h45]
  have HV := Lib.hid (show intP (rest s p) = .err 16 by rw [hcons, int_neg]; rw [if_pos (.inr (by rw [hDh]; exact hz))])
  have hb48 : ((s[(p + 1)].toNat : Int) == 48) = true := by rw [← rest_head hq, hz]; rfl
  have ht : ∀ o, (w.alloc o).cell? ⟨R, 0, none⟩ = some (.string s) := fun o => (h.alloc o).txt
  have hp0 : ∀ o, (w.alloc o).cell? ⟨R, 1, none⟩ = some (.int .i64 (p : Int)) := fun o => (h.alloc o).pos
  have hf : ∀ o, (w.alloc o).frozen? ⟨R, 1, none⟩ = false := fun o => (h.alloc o).free
  have hple : (p : Int) < (s.size : Int) := by omega
  have hqle : ((p : Int) + 1) < (s.size : Int) := by omega
  have hqe : ((p : Int) + 1).toNat = p + 1 := by omega
  have hq0 : (0 : Int) ≤ (p : Int) + 1 := by omega
  have H := Lib.hid h
  clear h h45 hd hD hDh hDne hz hcons
  go_enter Tryz.func125, Tryz.ntmps125
  go_wp2_with fail
  go_quiet (fail)
  go_wp2_with fail
  go_quiet (fail)
  go_wp2_with fail
  refine (fail_at s R (p + 1) 0 16 _ ((((H.out.alloc _).drewN _).set (q := p + 1) (by omega)).drewN _)).mono ?_
  rintro e w2 ⟨rfl, hk2, ho⟩
  have hk3 : Keeps R (w.alloc (.cells #[.int .i64 0, .int .i64 0, .string ⟨#[]⟩, .slice none 0 0] 24)) w2 := ((((Keeps.refl R _).drewN _).set 1 none _).drewN _).trans hk2
  obtain ⟨c0, c1, c2, c3, f0, f1, f2, f3, hz⟩ := boxK4 hR hk3
  have HK3 := Lib.hid hk3
  have HR3 := Lib.hid (fail0 ho)
  clear ho hk2 hk3
  go_wp2_with fail
  refine bodyPost_ret (v := .agg #[.int .i64 0, .int .i64 0, .string ⟨#[]⟩, .slice none 0 0]) (by simp [results, Tryz.results125, go_sem, c0, c1, c2, c3]) rfl ?_
  exact parsedr_put (u := intT 0) hR HK3.out (Live.any zeroT_at) (.inr ⟨16, by omega, HV.out, HR3.out⟩) rfl

set_option maxHeartbeats 2000000 in
set_option maxRecDepth 10000 in
theorem intr_pos_zero (s : ByteArray) (R p : Nat) (w : World) (hs : s.size ≤ maxLen) (h : Rr w R s p 0) (hp : p < s.size) (h45 : s[p] ≠ 45) (hd : digB ((rest s p).headD 0) = true) (hz : (rest s p).headD 0 = 48) (hl : digB ((rest s (p + 1)).headD 0) = true) :
    Calls Tryz.prog 125 #[.pointer (some ⟨R, 0, none⟩)] w (ParsedR R s w (intP (rest s p))) := by
  have hs' : s.size ≤ 9223372036854775807 := by unfold maxLen at hs; omega
  have hR := h.lt
  have hb45 : ((s[p].toNat : Int) == 45) = false := byte_ne (b := 45) h45
  have hq : p < s.size := by
    rcases Nat.lt_or_ge p s.size with h | h
    · exact h
    · rw [rest_end h] at hd; exact absurd hd (by decide)
  have hD : ((rest s p).takeWhile digB) = s[p] :: (rest s (p + 1)).takeWhile digB := (while_next hq (by rw [← rest_head hq]; exact hd)).1
  have hDh : ((rest s p).takeWhile digB).headD 0 = (rest s p).headD 0 := by rw [hD, rest_head hq]; rfl
  have hDne : ((rest s p).takeWhile digB) ≠ [] := by rw [hD]; simp
  have hhead : (rest s p).headD 0 ≠ 45 := by rw [rest_head hp]; exact h45
  have hlen : 1 < ((rest s p).takeWhile digB).length := by
    rw [hD, List.length_cons]
    rcases Nat.lt_or_ge (p + 1) s.size with h | h
    · rw [(while_next h (by rw [← rest_head h]; exact hl)).1, List.length_cons]; omega
    · rw [rest_end h] at hl; exact absurd hl (by decide)
  have HV := Lib.hid (show intP (rest s p) = .err 16 by rw [int_pos hhead]; rw [if_pos (.inr ⟨by rw [hDh]; exact hz, hlen⟩)])
  clear hlen
  have hb48 : ((s[p].toNat : Int) == 48) = true := by rw [← rest_head hq, hz]; rfl
  have HDg := Lib.hid hl
  have ht : ∀ o, (w.alloc o).cell? ⟨R, 0, none⟩ = some (.string s) := fun o => (h.alloc o).txt
  have hp0 : ∀ o, (w.alloc o).cell? ⟨R, 1, none⟩ = some (.int .i64 (p : Int)) := fun o => (h.alloc o).pos
  have hf : ∀ o, (w.alloc o).frozen? ⟨R, 1, none⟩ = false := fun o => (h.alloc o).free
  have hple : (p : Int) < (s.size : Int) := by omega
  have H := Lib.hid h
  clear h h45 hd hD hDh hDne hz hhead hl
  go_enter Tryz.func125, Tryz.ntmps125
  go_wp2_with fail
  go_quiet (fail)
  go_wp2_with fail
  have wr1 : IntKind.i64.wrap ((p : Int) + 1) = (p : Int) + 1 := IntWalk.i64_in _ (by omega)
  go_quiet ((go_at_call 113; exact quiet_more (digit_at s R p (p + 1) 0 _ hs ((H.out.alloc _).drewN _) HDg.out)))
  go_wp2_with fail
  refine (fail_at s R p 0 16 _ ((H.out.alloc _).drewN _)).mono ?_
  rintro e w2 ⟨rfl, hk2, ho⟩
  have hk3 : Keeps R (w.alloc (.cells #[.int .i64 0, .int .i64 0, .string ⟨#[]⟩, .slice none 0 0] 24)) w2 := ((Keeps.refl R _).drewN _).trans hk2
  obtain ⟨c0, c1, c2, c3, f0, f1, f2, f3, hz⟩ := boxK4 hR hk3
  have HK3 := Lib.hid hk3
  have HR3 := Lib.hid (fail0 ho)
  clear ho hk2 hk3
  go_wp2_with fail
  refine bodyPost_ret (v := .agg #[.int .i64 0, .int .i64 0, .string ⟨#[]⟩, .slice none 0 0]) (by simp [results, Tryz.results125, go_sem, c0, c1, c2, c3]) rfl ?_
  exact parsedr_put (u := intT 0) hR HK3.out (Live.any zeroT_at) (.inr ⟨16, by omega, HV.out, HR3.out⟩) rfl

set_option maxHeartbeats 2000000 in
set_option maxRecDepth 10000 in
theorem intr_pos_one (s : ByteArray) (R p : Nat) (w : World) (hs : s.size ≤ maxLen) (h : Rr w R s p 0) (hp : p < s.size) (h45 : s[p] ≠ 45) (hd : digB ((rest s p).headD 0) = true) (hz : (rest s p).headD 0 = 48) (hl : digB ((rest s (p + 1)).headD 0) = false) :
    Calls Tryz.prog 125 #[.pointer (some ⟨R, 0, none⟩)] w (ParsedR R s w (intP (rest s p))) := by
  have hs' : s.size ≤ 9223372036854775807 := by unfold maxLen at hs; omega
  have hR := h.lt
  have hb45 : ((s[p].toNat : Int) == 45) = false := byte_ne (b := 45) h45
  have hq : p < s.size := by
    rcases Nat.lt_or_ge p s.size with h | h
    · exact h
    · rw [rest_end h] at hd; exact absurd hd (by decide)
  have hD : ((rest s p).takeWhile digB) = s[p] :: (rest s (p + 1)).takeWhile digB := (while_next hq (by rw [← rest_head hq]; exact hd)).1
  have hDh : ((rest s p).takeWhile digB).headD 0 = (rest s p).headD 0 := by rw [hD, rest_head hq]; rfl
  have hDne : ((rest s p).takeWhile digB) ≠ [] := by rw [hD]; simp
  have hhead : (rest s p).headD 0 ≠ 45 := by rw [rest_head hp]; exact h45
  have hlen : ((rest s p).takeWhile digB).length = 1 := by
    rw [hD, List.length_cons, (while_end (k := digB) (fun h => by rw [← rest_head h]; exact hl)).1]; rfl
  have HV := Lib.hid (show intP (rest s p) = if 2147483648 < spell ((rest s p).takeWhile digB) then .err 5 else .ok (intT ((spell ((rest s p).takeWhile digB) : Int))) (skip (((rest s p).dropWhile digB))) by rw [int_pos hhead]; rw [if_neg (fun h => h.elim hDne (fun e => by have := e.2; omega))])
  clear hlen
  have hb48 : ((s[p].toNat : Int) == 48) = true := by rw [← rest_head hq, hz]; rfl
  have HDg := Lib.hid hl
  have ht : ∀ o, (w.alloc o).cell? ⟨R, 0, none⟩ = some (.string s) := fun o => (h.alloc o).txt
  have hp0 : ∀ o, (w.alloc o).cell? ⟨R, 1, none⟩ = some (.int .i64 (p : Int)) := fun o => (h.alloc o).pos
  have hf : ∀ o, (w.alloc o).frozen? ⟨R, 1, none⟩ = false := fun o => (h.alloc o).free
  have hple : (p : Int) < (s.size : Int) := by omega
  have H := Lib.hid h
  clear h h45 hd hD hDh hDne hz hhead hl
  go_enter Tryz.func125, Tryz.ntmps125
  go_wp2_with fail
  go_quiet (fail)
  go_wp2_with fail
  have wr1 : IntKind.i64.wrap ((p : Int) + 1) = (p : Int) + 1 := IntWalk.i64_in _ (by omega)
  go_quiet ((go_at_call 113; exact quiet_more (digit_at s R p (p + 1) 0 _ hs ((H.out.alloc _).drewN _) HDg.out)))
  go_wp2_with fail
  go_loopg [4] s.size (fun j z wr => ∃ (q m : Nat), z = .int .i64 (m : Int) ∧ Hid (m = min (spell ((rest s p).take (q - p))) 2147483649 ∧ TakingR R s p digB 0 (w.alloc (.cells #[.int .i64 0, .int .i64 0, .string ⟨#[]⟩, .slice none 0 0] 24)) j q wr))
  case atStart => exact ⟨p, 0, rfl, by simp [spell], (((Keeps.refl R (w.alloc _)).drewN _).drewN _), ((H.out.alloc _).drewN _).drewN _, by omega, Nat.le_refl _, by simp, rfl⟩
  case round =>
    obtain ⟨q, m, rfl, hI⟩ := hrel
    have k2 := hI.out.2.2.1
    have hpp := k2.pos
    have htt := k2.txt
    have hff := k2.free
    have HR := Lib.hid k2
    have hm : (m : Int) ≤ 2147483649 := by have := hI.out.1; omega
    clear k2 hp0 ht hf
    obtain ⟨b, hb⟩ : ∃ b, digB ((rest s q).headD 0) = b := ⟨_, rfl⟩
    have Q1 := Lib.hid (digit_at s R q q 0 wr hs HR.out hb)
    have HB := Lib.hid hb
    clear hb
    cases b
    · have HE := Lib.hid (while_end (k := digB) (s := s) (q := q) (fun h => by rw [← rest_head h]; exact HB.out))
      have HD := Lib.hid (show ((rest s p).takeWhile digB) = (rest s p).take (q - p) by rw [hI.out.2.2.2.2.2.1, HE.out.1, List.append_nil])
      have HDr := Lib.hid (show rest s q = ((rest s p).dropWhile digB) by rw [← hI.out.2.2.2.2.2.2, HE.out.2])
      have HM := Lib.hid (show m = min (spell ((rest s p).takeWhile digB)) 2147483649 by rw [HD.out]; exact hI.out.1)
      obtain ⟨c0, c1, c2, c3, f0, f1, f2, f3, hz⟩ := boxK4 hR hI.out.2.1
      by_cases hgt : 2147483648 < m
      · have hg' : (2147483648 : Int) < (m : Int) := by omega
        have HV2 := Lib.hid (show intP (rest s p) = .err 5 by rw [HV.out, if_pos (by have := HM.out; omega)])
        clear hgt
        go_wp2_with fail
        refine Q1.out.mono ?_
        rintro e w' ⟨rfl, rfl⟩
        go_wp2_with fail
        refine (fail_at s R q 0 5 _ HR.out).mono ?_
        rintro e w2 ⟨rfl, hk2, ho⟩
        have hk3 := hI.out.2.1.trans hk2
        have HK3 := Lib.hid hk3
        have HR3 := Lib.hid (fail0 ho)
        clear c0 c1 c2 c3 f0 f1 f2 f3 hz ho hk2
        obtain ⟨c0, c1, c2, c3, f0, f1, f2, f3, hz⟩ := boxK4 hR hk3
        clear hk3
        go_wp2_with fail
        refine bodyPost_ret (v := .agg #[.int .i64 0, .int .i64 0, .string ⟨#[]⟩, .slice none 0 0]) (by simp [results, Tryz.results125, go_sem, c0, c1, c2, c3]) rfl ?_
        exact parsedr_put (u := intT 0) hR HK3.out (Live.any zeroT_at) (.inr ⟨5, by omega, HV2.out, HR3.out⟩) rfl
      · have hg' : decide ((2147483648 : Int) < (m : Int)) = false := by simp; omega
        have hml : (m : Int) ≤ 2147483648 := by omega
        have HV2 := Lib.hid (show intP (rest s p) = .ok (intT ((m : Int))) (skip (rest s q)) by rw [HV.out, if_neg (by have := HM.out; omega), HDr.out, show m = spell ((rest s p).takeWhile digB) by have := HM.out; omega])
        have HF := Lib.hid (show Fits ((m : Int)) by unfold Fits; omega)
        clear hgt
        go_wp2_with fail
        refine Q1.out.mono ?_
        rintro e w' ⟨rfl, rfl⟩
        go_wp2_with fail
        refine bodyPost_ret (v := .agg #[.int .i64 0, .int .i64 ((m : Int)), .string ⟨#[]⟩, .slice none 0 0]) (by simp [results, Tryz.results125, go_sem, c0, c1, c2, c3]) rfl ?_
        exact parsedr_put (u := intT ((m : Int))) hR hI.out.2.1 (Live.any (intT_at _ HF.out)) (.inl ⟨_, HV2.out, rfl, HR.out⟩) rfl
    · have hqs : q < s.size := by
        rcases Nat.lt_or_ge q s.size with h | h
        · exact h
        · have := HB.out
          rw [rest_end h] at this
          exact absurd this (by decide)
      have hdg : digB s[q] = true := by rw [← rest_head hqs]; exact HB.out
      have hdg' := hdg
      simp only [digB, decide_eq_true_eq] at hdg'
      have x1 : (48 : Int) ≤ (s[q].toNat : Int) := by omega
      have x2 : (s[q].toNat : Int) ≤ 57 := by omega
      have hql : (q : Int) < (s.size : Int) := by omega
      have HN := Lib.hid (fun n => takenr_next_d (n := n) hqs hI.out.2 hdg)
      have HG := Lib.hid (show gk - 1 < gk by have := hI.out.2.2.2.1; omega)
      have HS := Lib.hid (spell_take (s := s) hI.out.2.2.2.2.1 hqs)
      have s1 : IntKind.i64.wrap (10 * (m : Int)) = 10 * (m : Int) := IntWalk.i64_in _ (by omega)
      have s2 : IntKind.u8.wrap ((s[q].toNat : Int) - 48) = (s[q].toNat : Int) - 48 := by rw [show IntKind.u8.wrap ((s[q].toNat : Int) - 48) = ((s[q].toNat : Int) - 48) % 256 from rfl]; omega
      have s3 : IntKind.i64.wrap ((s[q].toNat : Int) - 48) = (s[q].toNat : Int) - 48 := IntWalk.i64_in _ (by omega)
      have s4 : IntKind.i64.wrap (10 * (m : Int) + ((s[q].toNat : Int) - 48)) = 10 * (m : Int) + ((s[q].toNat : Int) - 48) := IntWalk.i64_in _ (by omega)
      have hm2 : m = min (spell ((rest s p).take (q - p))) 2147483649 := hI.out.1
      clear hdg hdg'
      have HM2 := Lib.hid hm2
      clear hm2
      go_wp2_with fail
      refine Q1.out.mono ?_
      rintro e w' ⟨rfl, rfl⟩
      go_wp2_with fail
      go_quiet (fail)
      go_wp2_with fail
      go_roundg (gk - 1)
      case measure => exact HG.out
      case rel => exact ⟨q + 1, min (10 * m + (s[q].toNat - 48)) 2147483649, congrArg (Value.int .i64) (by omega), by have := HM2.out; rw [HS.out]; omega, HN.out _⟩

set_option maxHeartbeats 2000000 in
set_option maxRecDepth 10000 in
theorem intr_neg_ok (s : ByteArray) (R p : Nat) (w : World) (hs : s.size ≤ maxLen) (h : Rr w R s p 0) (hp : p < s.size) (h45 : s[p] = 45) (hd : digB ((rest s (p + 1)).headD 0) = true) (hz : (rest s (p + 1)).headD 0 ≠ 48) :
    Calls Tryz.prog 125 #[.pointer (some ⟨R, 0, none⟩)] w (ParsedR R s w (intP (rest s p))) := by
  have hs' : s.size ≤ 9223372036854775807 := by unfold maxLen at hs; omega
  have hR := h.lt
  have hb45 : ((s[p].toNat : Int) == 45) = true := by rw [h45]; rfl
  have hq : (p + 1) < s.size := by
    rcases Nat.lt_or_ge (p + 1) s.size with h | h
    · exact h
    · rw [rest_end h] at hd; exact absurd hd (by decide)
  have hD : ((rest s (p + 1)).takeWhile digB) = s[(p + 1)] :: (rest s ((p + 1) + 1)).takeWhile digB := (while_next hq (by rw [← rest_head hq]; exact hd)).1
  have hDh : ((rest s (p + 1)).takeWhile digB).headD 0 = (rest s (p + 1)).headD 0 := by rw [hD, rest_head hq]; rfl
  have hDne : ((rest s (p + 1)).takeWhile digB) ≠ [] := by rw [hD]; simp
  have hcons : rest s p = 45 :: rest s (p + 1) := by rw [rest_cons hp, h45]
  have HV := Lib.hid (show intP (rest s p) = if 2147483648 < spell ((rest s (p + 1)).takeWhile digB) then .err 5 else .ok (intT (-(spell ((rest s (p + 1)).takeWhile digB) : Int))) (skip (((rest s (p + 1)).dropWhile digB))) by rw [hcons, int_neg]; rw [if_neg (fun h => h.elim hDne (fun e => hz (by rw [← hDh]; exact e)))])
  have hb48 : ((s[(p + 1)].toNat : Int) == 48) = false := byte_ne (b := 48) (by rw [← rest_head hq]; exact hz)
  have ht : ∀ o, (w.alloc o).cell? ⟨R, 0, none⟩ = some (.string s) := fun o => (h.alloc o).txt
  have hp0 : ∀ o, (w.alloc o).cell? ⟨R, 1, none⟩ = some (.int .i64 (p : Int)) := fun o => (h.alloc o).pos
  have hf : ∀ o, (w.alloc o).frozen? ⟨R, 1, none⟩ = false := fun o => (h.alloc o).free
  have hple : (p : Int) < (s.size : Int) := by omega
  have hqle : ((p : Int) + 1) < (s.size : Int) := by omega
  have hqe : ((p : Int) + 1).toNat = p + 1 := by omega
  have hq0 : (0 : Int) ≤ (p : Int) + 1 := by omega
  have H := Lib.hid h
  clear h h45 hd hD hDh hDne hz hcons
  go_enter Tryz.func125, Tryz.ntmps125
  go_wp2_with fail
  go_quiet (fail)
  go_wp2_with fail
  go_quiet (fail)
  go_wp2_with fail
  go_loopg [4] s.size (fun j z wr => ∃ (q m : Nat), z = .int .i64 (m : Int) ∧ Hid (m = min (spell ((rest s (p + 1)).take (q - (p + 1)))) 2147483649 ∧ TakingR R s (p + 1) digB 0 (w.alloc (.cells #[.int .i64 0, .int .i64 0, .string ⟨#[]⟩, .slice none 0 0] 24)) j q wr))
  case atStart => exact ⟨(p + 1), 0, rfl, by simp [spell], ((((Keeps.refl R (w.alloc _)).drewN _).set 1 none _).drewN _), (((H.out.alloc _).drewN _).set (q := p + 1) (by omega)).drewN _, by omega, Nat.le_refl _, by simp, rfl⟩
  case round =>
    obtain ⟨q, m, rfl, hI⟩ := hrel
    have k2 := hI.out.2.2.1
    have hpp := k2.pos
    have htt := k2.txt
    have hff := k2.free
    have HR := Lib.hid k2
    have hm : (m : Int) ≤ 2147483649 := by have := hI.out.1; omega
    clear k2 hp0 ht hf
    obtain ⟨b, hb⟩ : ∃ b, digB ((rest s q).headD 0) = b := ⟨_, rfl⟩
    have Q1 := Lib.hid (digit_at s R q q 0 wr hs HR.out hb)
    have HB := Lib.hid hb
    clear hb
    cases b
    · have HE := Lib.hid (while_end (k := digB) (s := s) (q := q) (fun h => by rw [← rest_head h]; exact HB.out))
      have HD := Lib.hid (show ((rest s (p + 1)).takeWhile digB) = (rest s (p + 1)).take (q - (p + 1)) by rw [hI.out.2.2.2.2.2.1, HE.out.1, List.append_nil])
      have HDr := Lib.hid (show rest s q = ((rest s (p + 1)).dropWhile digB) by rw [← hI.out.2.2.2.2.2.2, HE.out.2])
      have HM := Lib.hid (show m = min (spell ((rest s (p + 1)).takeWhile digB)) 2147483649 by rw [HD.out]; exact hI.out.1)
      obtain ⟨c0, c1, c2, c3, f0, f1, f2, f3, hz⟩ := boxK4 hR hI.out.2.1
      by_cases hgt : 2147483648 < m
      · have hg' : (2147483648 : Int) < (m : Int) := by omega
        have HV2 := Lib.hid (show intP (rest s p) = .err 5 by rw [HV.out, if_pos (by have := HM.out; omega)])
        clear hgt
        go_wp2_with fail
        refine Q1.out.mono ?_
        rintro e w' ⟨rfl, rfl⟩
        go_wp2_with fail
        refine (fail_at s R q 0 5 _ HR.out).mono ?_
        rintro e w2 ⟨rfl, hk2, ho⟩
        have hk3 := hI.out.2.1.trans hk2
        have HK3 := Lib.hid hk3
        have HR3 := Lib.hid (fail0 ho)
        clear c0 c1 c2 c3 f0 f1 f2 f3 hz ho hk2
        obtain ⟨c0, c1, c2, c3, f0, f1, f2, f3, hz⟩ := boxK4 hR hk3
        clear hk3
        go_wp2_with fail
        refine bodyPost_ret (v := .agg #[.int .i64 0, .int .i64 0, .string ⟨#[]⟩, .slice none 0 0]) (by simp [results, Tryz.results125, go_sem, c0, c1, c2, c3]) rfl ?_
        exact parsedr_put (u := intT 0) hR HK3.out (Live.any zeroT_at) (.inr ⟨5, by omega, HV2.out, HR3.out⟩) rfl
      · have hg' : decide ((2147483648 : Int) < (m : Int)) = false := by simp; omega
        have hml : (m : Int) ≤ 2147483648 := by omega
        have HV2 := Lib.hid (show intP (rest s p) = .ok (intT (-(m : Int))) (skip (rest s q)) by rw [HV.out, if_neg (by have := HM.out; omega), HDr.out, show m = spell ((rest s (p + 1)).takeWhile digB) by have := HM.out; omega])
        have HF := Lib.hid (show Fits (-(m : Int)) by unfold Fits; omega)
        clear hgt
        go_wp2_with fail
        refine Q1.out.mono ?_
        rintro e w' ⟨rfl, rfl⟩
        go_wp2_with fail
        refine bodyPost_ret (v := .agg #[.int .i64 0, .int .i64 (-(m : Int)), .string ⟨#[]⟩, .slice none 0 0]) (by simp [results, Tryz.results125, go_sem, c0, c1, c2, c3]) rfl ?_
        exact parsedr_put (u := intT (-(m : Int))) hR hI.out.2.1 (Live.any (intT_at _ HF.out)) (.inl ⟨_, HV2.out, rfl, HR.out⟩) rfl
    · have hqs : q < s.size := by
        rcases Nat.lt_or_ge q s.size with h | h
        · exact h
        · have := HB.out
          rw [rest_end h] at this
          exact absurd this (by decide)
      have hdg : digB s[q] = true := by rw [← rest_head hqs]; exact HB.out
      have hdg' := hdg
      simp only [digB, decide_eq_true_eq] at hdg'
      have x1 : (48 : Int) ≤ (s[q].toNat : Int) := by omega
      have x2 : (s[q].toNat : Int) ≤ 57 := by omega
      have hql : (q : Int) < (s.size : Int) := by omega
      have HN := Lib.hid (fun n => takenr_next_d (n := n) hqs hI.out.2 hdg)
      have HG := Lib.hid (show gk - 1 < gk by have := hI.out.2.2.2.1; omega)
      have HS := Lib.hid (spell_take (s := s) hI.out.2.2.2.2.1 hqs)
      have s1 : IntKind.i64.wrap (10 * (m : Int)) = 10 * (m : Int) := IntWalk.i64_in _ (by omega)
      have s2 : IntKind.u8.wrap ((s[q].toNat : Int) - 48) = (s[q].toNat : Int) - 48 := by rw [show IntKind.u8.wrap ((s[q].toNat : Int) - 48) = ((s[q].toNat : Int) - 48) % 256 from rfl]; omega
      have s3 : IntKind.i64.wrap ((s[q].toNat : Int) - 48) = (s[q].toNat : Int) - 48 := IntWalk.i64_in _ (by omega)
      have s4 : IntKind.i64.wrap (10 * (m : Int) + ((s[q].toNat : Int) - 48)) = 10 * (m : Int) + ((s[q].toNat : Int) - 48) := IntWalk.i64_in _ (by omega)
      have hm2 : m = min (spell ((rest s (p + 1)).take (q - (p + 1)))) 2147483649 := hI.out.1
      clear hdg hdg'
      have HM2 := Lib.hid hm2
      clear hm2
      go_wp2_with fail
      refine Q1.out.mono ?_
      rintro e w' ⟨rfl, rfl⟩
      go_wp2_with fail
      go_quiet (fail)
      go_wp2_with fail
      go_roundg (gk - 1)
      case measure => exact HG.out
      case rel => exact ⟨q + 1, min (10 * m + (s[q].toNat - 48)) 2147483649, congrArg (Value.int .i64) (by omega), by have := HM2.out; rw [HS.out]; omega, HN.out _⟩

set_option maxHeartbeats 2000000 in
set_option maxRecDepth 10000 in
theorem intr_pos_ok (s : ByteArray) (R p : Nat) (w : World) (hs : s.size ≤ maxLen) (h : Rr w R s p 0) (hp : p < s.size) (h45 : s[p] ≠ 45) (hd : digB ((rest s p).headD 0) = true) (hz : (rest s p).headD 0 ≠ 48) :
    Calls Tryz.prog 125 #[.pointer (some ⟨R, 0, none⟩)] w (ParsedR R s w (intP (rest s p))) := by
  have hs' : s.size ≤ 9223372036854775807 := by unfold maxLen at hs; omega
  have hR := h.lt
  have hb45 : ((s[p].toNat : Int) == 45) = false := byte_ne (b := 45) h45
  have hq : p < s.size := by
    rcases Nat.lt_or_ge p s.size with h | h
    · exact h
    · rw [rest_end h] at hd; exact absurd hd (by decide)
  have hD : ((rest s p).takeWhile digB) = s[p] :: (rest s (p + 1)).takeWhile digB := (while_next hq (by rw [← rest_head hq]; exact hd)).1
  have hDh : ((rest s p).takeWhile digB).headD 0 = (rest s p).headD 0 := by rw [hD, rest_head hq]; rfl
  have hDne : ((rest s p).takeWhile digB) ≠ [] := by rw [hD]; simp
  have hhead : (rest s p).headD 0 ≠ 45 := by rw [rest_head hp]; exact h45
  have HV := Lib.hid (show intP (rest s p) = if 2147483648 < spell ((rest s p).takeWhile digB) then .err 5 else .ok (intT ((spell ((rest s p).takeWhile digB) : Int))) (skip (((rest s p).dropWhile digB))) by rw [int_pos hhead]; rw [if_neg (fun h => h.elim hDne (fun e => hz (by rw [← hDh]; exact e.1)))])
  have hb48 : ((s[p].toNat : Int) == 48) = false := byte_ne (b := 48) (by rw [← rest_head hq]; exact hz)
  have ht : ∀ o, (w.alloc o).cell? ⟨R, 0, none⟩ = some (.string s) := fun o => (h.alloc o).txt
  have hp0 : ∀ o, (w.alloc o).cell? ⟨R, 1, none⟩ = some (.int .i64 (p : Int)) := fun o => (h.alloc o).pos
  have hf : ∀ o, (w.alloc o).frozen? ⟨R, 1, none⟩ = false := fun o => (h.alloc o).free
  have hple : (p : Int) < (s.size : Int) := by omega
  have H := Lib.hid h
  clear h h45 hd hD hDh hDne hz hhead
  go_enter Tryz.func125, Tryz.ntmps125
  go_wp2_with fail
  go_quiet (fail)
  go_wp2_with fail
  go_quiet (fail)
  go_wp2_with fail
  go_loopg [4] s.size (fun j z wr => ∃ (q m : Nat), z = .int .i64 (m : Int) ∧ Hid (m = min (spell ((rest s p).take (q - p))) 2147483649 ∧ TakingR R s p digB 0 (w.alloc (.cells #[.int .i64 0, .int .i64 0, .string ⟨#[]⟩, .slice none 0 0] 24)) j q wr))
  case atStart => exact ⟨p, 0, rfl, by simp [spell], (((Keeps.refl R (w.alloc _)).drewN _).drewN _), ((H.out.alloc _).drewN _).drewN _, by omega, Nat.le_refl _, by simp, rfl⟩
  case round =>
    obtain ⟨q, m, rfl, hI⟩ := hrel
    have k2 := hI.out.2.2.1
    have hpp := k2.pos
    have htt := k2.txt
    have hff := k2.free
    have HR := Lib.hid k2
    have hm : (m : Int) ≤ 2147483649 := by have := hI.out.1; omega
    clear k2 hp0 ht hf
    obtain ⟨b, hb⟩ : ∃ b, digB ((rest s q).headD 0) = b := ⟨_, rfl⟩
    have Q1 := Lib.hid (digit_at s R q q 0 wr hs HR.out hb)
    have HB := Lib.hid hb
    clear hb
    cases b
    · have HE := Lib.hid (while_end (k := digB) (s := s) (q := q) (fun h => by rw [← rest_head h]; exact HB.out))
      have HD := Lib.hid (show ((rest s p).takeWhile digB) = (rest s p).take (q - p) by rw [hI.out.2.2.2.2.2.1, HE.out.1, List.append_nil])
      have HDr := Lib.hid (show rest s q = ((rest s p).dropWhile digB) by rw [← hI.out.2.2.2.2.2.2, HE.out.2])
      have HM := Lib.hid (show m = min (spell ((rest s p).takeWhile digB)) 2147483649 by rw [HD.out]; exact hI.out.1)
      obtain ⟨c0, c1, c2, c3, f0, f1, f2, f3, hz⟩ := boxK4 hR hI.out.2.1
      by_cases hgt : 2147483648 < m
      · have hg' : (2147483648 : Int) < (m : Int) := by omega
        have HV2 := Lib.hid (show intP (rest s p) = .err 5 by rw [HV.out, if_pos (by have := HM.out; omega)])
        clear hgt
        go_wp2_with fail
        refine Q1.out.mono ?_
        rintro e w' ⟨rfl, rfl⟩
        go_wp2_with fail
        refine (fail_at s R q 0 5 _ HR.out).mono ?_
        rintro e w2 ⟨rfl, hk2, ho⟩
        have hk3 := hI.out.2.1.trans hk2
        have HK3 := Lib.hid hk3
        have HR3 := Lib.hid (fail0 ho)
        clear c0 c1 c2 c3 f0 f1 f2 f3 hz ho hk2
        obtain ⟨c0, c1, c2, c3, f0, f1, f2, f3, hz⟩ := boxK4 hR hk3
        clear hk3
        go_wp2_with fail
        refine bodyPost_ret (v := .agg #[.int .i64 0, .int .i64 0, .string ⟨#[]⟩, .slice none 0 0]) (by simp [results, Tryz.results125, go_sem, c0, c1, c2, c3]) rfl ?_
        exact parsedr_put (u := intT 0) hR HK3.out (Live.any zeroT_at) (.inr ⟨5, by omega, HV2.out, HR3.out⟩) rfl
      · have hg' : decide ((2147483648 : Int) < (m : Int)) = false := by simp; omega
        have hml : (m : Int) ≤ 2147483648 := by omega
        have HV2 := Lib.hid (show intP (rest s p) = .ok (intT ((m : Int))) (skip (rest s q)) by rw [HV.out, if_neg (by have := HM.out; omega), HDr.out, show m = spell ((rest s p).takeWhile digB) by have := HM.out; omega])
        have HF := Lib.hid (show Fits ((m : Int)) by unfold Fits; omega)
        clear hgt
        go_wp2_with fail
        refine Q1.out.mono ?_
        rintro e w' ⟨rfl, rfl⟩
        go_wp2_with fail
        refine bodyPost_ret (v := .agg #[.int .i64 0, .int .i64 ((m : Int)), .string ⟨#[]⟩, .slice none 0 0]) (by simp [results, Tryz.results125, go_sem, c0, c1, c2, c3]) rfl ?_
        exact parsedr_put (u := intT ((m : Int))) hR hI.out.2.1 (Live.any (intT_at _ HF.out)) (.inl ⟨_, HV2.out, rfl, HR.out⟩) rfl
    · have hqs : q < s.size := by
        rcases Nat.lt_or_ge q s.size with h | h
        · exact h
        · have := HB.out
          rw [rest_end h] at this
          exact absurd this (by decide)
      have hdg : digB s[q] = true := by rw [← rest_head hqs]; exact HB.out
      have hdg' := hdg
      simp only [digB, decide_eq_true_eq] at hdg'
      have x1 : (48 : Int) ≤ (s[q].toNat : Int) := by omega
      have x2 : (s[q].toNat : Int) ≤ 57 := by omega
      have hql : (q : Int) < (s.size : Int) := by omega
      have HN := Lib.hid (fun n => takenr_next_d (n := n) hqs hI.out.2 hdg)
      have HG := Lib.hid (show gk - 1 < gk by have := hI.out.2.2.2.1; omega)
      have HS := Lib.hid (spell_take (s := s) hI.out.2.2.2.2.1 hqs)
      have s1 : IntKind.i64.wrap (10 * (m : Int)) = 10 * (m : Int) := IntWalk.i64_in _ (by omega)
      have s2 : IntKind.u8.wrap ((s[q].toNat : Int) - 48) = (s[q].toNat : Int) - 48 := by rw [show IntKind.u8.wrap ((s[q].toNat : Int) - 48) = ((s[q].toNat : Int) - 48) % 256 from rfl]; omega
      have s3 : IntKind.i64.wrap ((s[q].toNat : Int) - 48) = (s[q].toNat : Int) - 48 := IntWalk.i64_in _ (by omega)
      have s4 : IntKind.i64.wrap (10 * (m : Int) + ((s[q].toNat : Int) - 48)) = 10 * (m : Int) + ((s[q].toNat : Int) - 48) := IntWalk.i64_in _ (by omega)
      have hm2 : m = min (spell ((rest s p).take (q - p))) 2147483649 := hI.out.1
      clear hdg hdg'
      have HM2 := Lib.hid hm2
      clear hm2
      go_wp2_with fail
      refine Q1.out.mono ?_
      rintro e w' ⟨rfl, rfl⟩
      go_wp2_with fail
      go_quiet (fail)
      go_wp2_with fail
      go_roundg (gk - 1)
      case measure => exact HG.out
      case rel => exact ⟨q + 1, min (10 * m + (s[q].toNat - 48)) 2147483649, congrArg (Value.int .i64) (by omega), by have := HM2.out; rw [HS.out]; omega, HN.out _⟩

theorem intr_at (s : ByteArray) (R p : Nat) (w : World) (hs : s.size ≤ maxLen) (h : Rr w R s p 0) (hp : p < s.size) (hd : digB ((rest s p).headD 0) = true ∨ ((rest s p).headD 0 = 45 ∧ digB ((rest s (p + 1)).headD 0) = true)) :
    Calls Tryz.prog 125 #[.pointer (some ⟨R, 0, none⟩)] w (ParsedR R s w (intP (rest s p))) := by
  rw [rest_head hp] at hd
  by_cases h45 : s[p] = 45
  · have hd' : digB ((rest s (p + 1)).headD 0) = true := by
      rcases hd with h | h
      · rw [h45] at h; exact absurd h (by decide)
      · exact h.2
    by_cases hz : (rest s (p + 1)).headD 0 = 48
    · exact intr_neg_zero s R p w hs h hp h45 hd' hz
    · exact intr_neg_ok s R p w hs h hp h45 hd' hz
  · have hd' : digB ((rest s p).headD 0) = true := by
      rcases hd with h | h
      · rw [rest_head hp]; exact h
      · exact absurd h.1 h45
    by_cases hz : (rest s p).headD 0 = 48
    · cases hl : digB ((rest s (p + 1)).headD 0)
      · exact intr_pos_one s R p w hs h hp h45 hd' hz hl
      · exact intr_pos_zero s R p w hs h hp h45 hd' hz hl
    · exact intr_pos_ok s R p w hs h hp h45 hd' hz
end Go.Proofs.YtlpibnbabgfiiaaGreatDoor
