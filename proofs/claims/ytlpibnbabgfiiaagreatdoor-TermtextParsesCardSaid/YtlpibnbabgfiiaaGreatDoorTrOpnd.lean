/-
  The contract of the reference's operand, given that of expr for shorter texts.
-/
import Derived.Test.YtlpibnbabgfiiaaGreatDoorTrArgs
import Derived.Test.YtlpibnbabgfiiaaGreatDoorTtChain
namespace Go.Proofs.YtlpibnbabgfiiaaGreatDoor
open Go.RowKit

theorem minus_alone {r1 : List UInt8} (h : digB (r1.headD 0) = false) : intP (45 :: r1) = .err 16 := by
  have hd : r1.takeWhile digB = [] := by
    rcases r1 with _ | ⟨c, q⟩
    · rfl
    · simp only [List.headD_cons] at h
      simp [h]
  rw [int_neg, if_pos (.inl hd)]
theorem live_ret {R : Nat} {s : ByteArray} {w w1 W : World} {o : Obj} {u : Tm} {res : PR Tm} {p' : Nat} (hR : R < w.heap.size) (hk1 : Keeps R (w.alloc o) w1) (hk : Keeps R w1 W) (hl : Live w1.heap.size No W u)
    (ho : (∃ t, res = .ok t (skip (rest s p')) ∧ u.strip = t ∧ Rr W R s p' 0) ∨ (∃ c : Int, c ≠ 0 ∧ res = .err c ∧ Rr W R s p' c)) :
    ParsedR R s w res (.returned u.val) ((((W.setCell ⟨w.heap.size, 0, none⟩ (.int .i64 u.kind)).setCell ⟨w.heap.size, 1, none⟩ (.int .i64 u.num)).setCell ⟨w.heap.size, 2, none⟩ (.string u.name)).setCell ⟨w.heap.size, 3, none⟩ (.slice u.at_ u.args.length u.cap)) :=
  parsedr_put hR (hk1.trans hk) (hl.low (by have := hk1.size; simpa using this)) ho rfl

set_option maxHeartbeats 2000000 in
set_option maxRecDepth 10000 in
theorem opndr_dig (s : ByteArray) (n : Nat) (hE : ExprR s n) (R p : Nat) (w : World) (hs : s.size ≤ 16384) (h : Rr w R s p 0) (hn : (skip (rest s p)).length ≤ n)
    (hx : digB ((skip (rest s p)).headD 0) = true) :
    Calls Tryz.prog 109 #[.pointer (some ⟨R, 0, none⟩)] w (ParsedR R s w (opnd (exprP n) (skip (rest s p)))) := by
  have hsm : s.size ≤ maxLen := by unfold maxLen; omega
  have hs' : s.size ≤ 9223372036854775807 := by omega
  have hR := h.lt
  have H := Lib.hid h
  have HN := Lib.hid hn
  have Q := Lib.hid hE
  obtain ⟨r, hr⟩ : ∃ r, r = skip (rest s p) := ⟨_, rfl⟩
  rw [← hr] at hx ⊢
  have HQ := Lib.hid hr
  have hb := hx
  simp only [digB, decide_eq_true_eq] at hb
  have HV := Lib.hid (show opnd (exprP n) r = intP r from opnd_int (fun e => by rw [e] at hb; exact absurd hb (by decide)) (.inr hx))
  clear hb
  have Khx := Lib.hid hx
  clear h hn hE hr hx
  go_enter Tryz.func109, Tryz.ntmps109
  go_wp2_with fail
  refine (nextr_at s R p 0 _ hsm (H.out.alloc _)).mono ?_
  rintro e w1 ⟨p1, x, hq, hx1, rfl, hk1, hr1⟩
  have hx2 : (rest s p1).headD 0 = x := hx1.elim (fun h => h.2) (fun h => absurd rfl h.1)
  have HX := Lib.hid (show r.headD 0 = x by rw [HQ.out, ← hq]; exact hx2)
  have HP := Lib.hid (show rest s p1 = r by rw [HQ.out]; exact hq)
  have hee := hr1.err
  have hpp := hr1.pos
  have htt := hr1.txt
  have hff := hr1.free
  have hp1 : p1 < s.size := by
    rcases Nat.lt_or_ge p1 s.size with h | h
    · exact h
    · have e := HP.out
      rw [rest_end h] at e
      have h2 := Khx.out
      rw [← e] at h2
      exact absurd h2 (by decide)
  have hpl : (p1 : Int) < (s.size : Int) := by omega
  have hple : p1 ≤ s.size := hr1.le
  have HK1 := Lib.hid hk1
  have HR1 := Lib.hid hr1
  clear hq hx1 hx2 hk1 hr1
  have QD := Lib.hid (digit_at s R p1 p1 0 w1 hsm HR1.out (r := true) (by rw [HP.out]; exact Khx.out))
  go_wp2_with fail
  refine QD.out.mono ?_
  rintro e w' ⟨rfl, rfl⟩
  go_wp2_with fail
  refine (intr_at s R p1 _ hsm HR1.out hp1 (.inl (by rw [HP.out]; exact Khx.out))).mono ?_
  rintro e w2 ⟨u, p2, rfl, hu, hk2, ho⟩
  rw [HP.out, ← HV.out] at ho
  obtain ⟨c0, c1, c2, c3, f0, f1, f2, f3, hz⟩ := boxK4 hR (HK1.out.trans hk2)
  have HK2 := Lib.hid hk2
  have HU := Lib.hid hu
  have HO := Lib.hid ho
  clear hk2 hu ho hee hpp htt hff
  go_wp2_with fail
  refine bodyPost_ret (v := u.val) (by simp [results, Tryz.results109, go_sem, c0, c1, c2, c3]) rfl ?_
  exact live_ret hR HK1.out HK2.out HU.out HO.out

set_option maxHeartbeats 2000000 in
set_option maxRecDepth 10000 in
theorem opndr_minus (s : ByteArray) (n : Nat) (hE : ExprR s n) (R p : Nat) (w : World) (hs : s.size ≤ 16384) (h : Rr w R s p 0) (hn : (skip (rest s p)).length ≤ n)
    (hx : ((skip (rest s p)).headD 0) = 45) (hd : digB ((skip (rest s p)).tail.headD 0) = true) :
    Calls Tryz.prog 109 #[.pointer (some ⟨R, 0, none⟩)] w (ParsedR R s w (opnd (exprP n) (skip (rest s p)))) := by
  have hsm : s.size ≤ maxLen := by unfold maxLen; omega
  have hs' : s.size ≤ 9223372036854775807 := by omega
  have hR := h.lt
  have H := Lib.hid h
  have HN := Lib.hid hn
  have Q := Lib.hid hE
  obtain ⟨r, hr⟩ : ∃ r, r = skip (rest s p) := ⟨_, rfl⟩
  rw [← hr] at hx hd ⊢
  have HQ := Lib.hid hr
  have HV := Lib.hid (show opnd (exprP n) r = intP r from opnd_int (by rw [hx]; decide) (.inl hx))
  have Khx := Lib.hid hx
  have Khd := Lib.hid hd
  clear h hn hE hr hx hd
  go_enter Tryz.func109, Tryz.ntmps109
  go_wp2_with fail
  refine (nextr_at s R p 0 _ hsm (H.out.alloc _)).mono ?_
  rintro e w1 ⟨p1, x, hq, hx1, rfl, hk1, hr1⟩
  have hx2 : (rest s p1).headD 0 = x := hx1.elim (fun h => h.2) (fun h => absurd rfl h.1)
  have HX := Lib.hid (show r.headD 0 = x by rw [HQ.out, ← hq]; exact hx2)
  have HP := Lib.hid (show rest s p1 = r by rw [HQ.out]; exact hq)
  have hee := hr1.err
  have hpp := hr1.pos
  have htt := hr1.txt
  have hff := hr1.free
  have hp1 : p1 < s.size := by
    rcases Nat.lt_or_ge p1 s.size with h | h
    · exact h
    · have e := HP.out
      rw [rest_end h] at e
      have h2 := Khx.out
      rw [← e] at h2
      exact absurd h2 (by decide)
  have hpl : (p1 : Int) < (s.size : Int) := by omega
  have hple : p1 ≤ s.size := hr1.le
  have HK1 := Lib.hid hk1
  have HR1 := Lib.hid hr1
  clear hq hx1 hx2 hk1 hr1
  have QD := Lib.hid (digit_at s R p1 p1 0 w1 hsm HR1.out (r := false) (by rw [HP.out, Khx.out]; decide))
  obtain rfl : x = 45 := by rw [← HX.out]; exact Khx.out
  have QE := Lib.hid (digit_at s R p1 (p1 + 1) 0 w1 hsm HR1.out (r := true) (by rw [← rest_tail hp1, HP.out]; exact Khd.out))
  go_wp2_with fail
  refine QD.out.mono ?_
  rintro e w' ⟨rfl, rfl⟩
  go_wp2_with fail
  refine QE.out.mono ?_
  rintro e w' ⟨rfl, rfl⟩
  go_wp2_with fail
  refine (intr_at s R p1 _ hsm HR1.out hp1 (.inr ⟨by rw [HP.out]; exact Khx.out, by rw [← rest_tail hp1, HP.out]; exact Khd.out⟩)).mono ?_
  rintro e w2 ⟨u, p2, rfl, hu, hk2, ho⟩
  rw [HP.out, ← HV.out] at ho
  obtain ⟨c0, c1, c2, c3, f0, f1, f2, f3, hz⟩ := boxK4 hR (HK1.out.trans hk2)
  have HK2 := Lib.hid hk2
  have HU := Lib.hid hu
  have HO := Lib.hid ho
  clear hk2 hu ho hee hpp htt hff
  go_wp2_with fail
  refine bodyPost_ret (v := u.val) (by simp [results, Tryz.results109, go_sem, c0, c1, c2, c3]) rfl ?_
  exact live_ret hR HK1.out HK2.out HU.out HO.out

set_option maxHeartbeats 2000000 in
set_option maxRecDepth 10000 in
theorem opndr_minusno (s : ByteArray) (n : Nat) (hE : ExprR s n) (R p : Nat) (w : World) (hs : s.size ≤ 16384) (h : Rr w R s p 0) (hn : (skip (rest s p)).length ≤ n)
    (hx : ((skip (rest s p)).headD 0) = 45) (hd : digB ((skip (rest s p)).tail.headD 0) = false) :
    Calls Tryz.prog 109 #[.pointer (some ⟨R, 0, none⟩)] w (ParsedR R s w (opnd (exprP n) (skip (rest s p)))) := by
  have hsm : s.size ≤ maxLen := by unfold maxLen; omega
  have hs' : s.size ≤ 9223372036854775807 := by omega
  have hR := h.lt
  have H := Lib.hid h
  have HN := Lib.hid hn
  have Q := Lib.hid hE
  obtain ⟨r, hr⟩ : ∃ r, r = skip (rest s p) := ⟨_, rfl⟩
  rw [← hr] at hx hd ⊢
  have HQ := Lib.hid hr
  have HV := Lib.hid (show opnd (exprP n) r = intP r from opnd_int (by rw [hx]; decide) (.inl hx))
  have Khx := Lib.hid hx
  have Khd := Lib.hid hd
  clear h hn hE hr hx hd
  go_enter Tryz.func109, Tryz.ntmps109
  go_wp2_with fail
  refine (nextr_at s R p 0 _ hsm (H.out.alloc _)).mono ?_
  rintro e w1 ⟨p1, x, hq, hx1, rfl, hk1, hr1⟩
  have hx2 : (rest s p1).headD 0 = x := hx1.elim (fun h => h.2) (fun h => absurd rfl h.1)
  have HX := Lib.hid (show r.headD 0 = x by rw [HQ.out, ← hq]; exact hx2)
  have HP := Lib.hid (show rest s p1 = r by rw [HQ.out]; exact hq)
  have hee := hr1.err
  have hpp := hr1.pos
  have htt := hr1.txt
  have hff := hr1.free
  have hp1 : p1 < s.size := by
    rcases Nat.lt_or_ge p1 s.size with h | h
    · exact h
    · have e := HP.out
      rw [rest_end h] at e
      have h2 := Khx.out
      rw [← e] at h2
      exact absurd h2 (by decide)
  have hpl : (p1 : Int) < (s.size : Int) := by omega
  have hple : p1 ≤ s.size := hr1.le
  have HK1 := Lib.hid hk1
  have HR1 := Lib.hid hr1
  clear hq hx1 hx2 hk1 hr1
  have QD := Lib.hid (digit_at s R p1 p1 0 w1 hsm HR1.out (r := false) (by rw [HP.out, Khx.out]; decide))
  obtain rfl : x = 45 := by rw [← HX.out]; exact Khx.out
  have QE := Lib.hid (digit_at s R p1 (p1 + 1) 0 w1 hsm HR1.out (r := false) (by rw [← rest_tail hp1, HP.out]; exact Khd.out))
  go_wp2_with fail
  refine QD.out.mono ?_
  rintro e w' ⟨rfl, rfl⟩
  go_wp2_with fail
  refine QE.out.mono ?_
  rintro e w' ⟨rfl, rfl⟩
  have HV2 := Lib.hid (show opnd (exprP n) r = .err 16 by
    obtain ⟨q, hq⟩ := head_cons Khx.out (by decide)
    have hd := Khd.out
    rw [hq] at hd
    rw [HV.out, hq]
    exact minus_alone hd)
  have QL := Lib.hid (letter_at s R p1 p1 0 w1 hsm HR1.out (r := false) (by rw [HP.out, Khx.out]; decide))
  go_wp2_with fail
  refine QL.out.mono ?_
  rintro e w' ⟨rfl, rfl⟩
  go_wp2_with fail
  refine (fail_at s R p1 0 16 _ HR1.out).mono ?_
  rintro e w9 ⟨rfl, hk9, ho⟩
  obtain ⟨c0, c1, c2, c3, f0, f1, f2, f3, hz⟩ := boxK4 hR ((HK1.out).trans hk9)
  have HK9 := Lib.hid ((HK1.out).trans hk9)
  have HR9 := Lib.hid (fail0 ho)
  clear hk9 ho
  go_wp2_with fail
  refine bodyPost_ret (v := .agg #[.int .i64 0, .int .i64 0, .string ⟨#[]⟩, .slice none 0 0]) (by simp [results, Tryz.results109, go_sem, c0, c1, c2, c3]) rfl ?_
  exact parsedr_put (u := intT 0) hR HK9.out (Live.any zeroT_at) (.inr ⟨16, by omega, HV2.out, HR9.out⟩) rfl

set_option maxHeartbeats 2000000 in
set_option maxRecDepth 10000 in
theorem opndr_name (s : ByteArray) (n : Nat) (hE : ExprR s n) (R p : Nat) (w : World) (hs : s.size ≤ 16384) (h : Rr w R s p 0) (hn : (skip (rest s p)).length ≤ n)
    (hx : lowB ((skip (rest s p)).headD 0) = true) :
    Calls Tryz.prog 109 #[.pointer (some ⟨R, 0, none⟩)] w (ParsedR R s w (opnd (exprP n) (skip (rest s p)))) := by
  have hsm : s.size ≤ maxLen := by unfold maxLen; omega
  have hs' : s.size ≤ 9223372036854775807 := by omega
  have hR := h.lt
  have H := Lib.hid h
  have HN := Lib.hid hn
  have Q := Lib.hid hE
  obtain ⟨r, hr⟩ : ∃ r, r = skip (rest s p) := ⟨_, rfl⟩
  rw [← hr] at hx ⊢
  have HQ := Lib.hid hr
  have hb := hx
  simp only [lowB, decide_eq_true_eq] at hb
  have HV := Lib.hid (show opnd (exprP n) r = asFun (atomP (exprP n) r) from opnd_atom (fun e => by rw [e] at hb; exact absurd hb (by decide)) (fun h => h.elim (fun e => by rw [e] at hb; exact absurd hb (by decide)) (fun e => by simp only [digB, decide_eq_true_eq] at e; omega)) (fun h => by obtain ⟨e1, e2⟩ := low_upp hx; rw [e1, e2] at h; exact h.elim (fun h => by cases h) (fun h => by cases h)))
  clear hb
  have Khx := Lib.hid hx
  clear h hn hE hr hx
  go_enter Tryz.func109, Tryz.ntmps109
  go_wp2_with fail
  refine (nextr_at s R p 0 _ hsm (H.out.alloc _)).mono ?_
  rintro e w1 ⟨p1, x, hq, hx1, rfl, hk1, hr1⟩
  have hx2 : (rest s p1).headD 0 = x := hx1.elim (fun h => h.2) (fun h => absurd rfl h.1)
  have HX := Lib.hid (show r.headD 0 = x by rw [HQ.out, ← hq]; exact hx2)
  have HP := Lib.hid (show rest s p1 = r by rw [HQ.out]; exact hq)
  have hee := hr1.err
  have hpp := hr1.pos
  have htt := hr1.txt
  have hff := hr1.free
  have hp1 : p1 < s.size := by
    rcases Nat.lt_or_ge p1 s.size with h | h
    · exact h
    · have e := HP.out
      rw [rest_end h] at e
      have h2 := Khx.out
      rw [← e] at h2
      exact absurd h2 (by decide)
  have hpl : (p1 : Int) < (s.size : Int) := by omega
  have hple : p1 ≤ s.size := hr1.le
  have HK1 := Lib.hid hk1
  have HR1 := Lib.hid hr1
  clear hq hx1 hx2 hk1 hr1
  have QD := Lib.hid (digit_at s R p1 p1 0 w1 hsm HR1.out (r := false) (by have := Khx.out; rw [HP.out]; simp only [lowB, decide_eq_true_eq] at this; simp only [digB, decide_eq_false_iff_not]; omega))
  have hb := Khx.out
  rw [HX.out] at hb
  simp only [lowB, decide_eq_true_eq] at hb
  have b1 : ((x.toNat : Int) == 45) = false := by simp; omega
  have b2 : (97 : Int) ≤ (x.toNat : Int) := by omega
  have b3 : (x.toNat : Int) ≤ 122 := by omega
  clear hb
  go_wp2_with fail
  refine QD.out.mono ?_
  rintro e w' ⟨rfl, rfl⟩
  go_wp2_with fail
  refine (namer_at s R p1 _ hsm HR1.out).mono ?_
  rintro e w2 ⟨p2, y, hy, hd2, hp2, rfl, hk2, ho⟩
  rw [HP.out] at hy hd2
  have HY := Lib.hid hy
  have HD := Lib.hid hd2
  have HK2 := Lib.hid (HK1.out.trans hk2)
  have hys : y.size ≤ maxLen := by have := (ho.elim (fun h => h.2.le) (fun h => h.2.le)); unfold maxLen; omega
  have hlow1 : w.heap.size + 1 ≤ w2.heap.size := by have := HK2.out.size; simpa using this
  clear hy hd2 hp2 hk2 hee hpp htt hff
  rcases ho with ⟨hb, hr2⟩ | ⟨hb, hr2⟩
  · have HB := Lib.hid hb
    have HR2 := Lib.hid hr2
    clear hb hr2
    by_cases h40 : (skip (rest s p2)).headD 0 = 40
    · obtain ⟨aE, aO⟩ := atom_args (ex := exprP n) (r := r) Khx.out (by rw [← HY.out]; exact HB.out) (by rw [← HD.out]; exact h40)
      rw [← HD.out] at aE aO
      have hlen : (skip (skip (rest s p2)).tail).length < n := by
        have h1 := skip_len (skip (rest s p2)).tail
        have h2 := skip_len (rest s p2)
        have h3 : (skip (rest s p2)).tail.length + 1 = (skip (rest s p2)).length := by
          obtain ⟨z, hz⟩ := head_cons h40 (by decide)
          rw [hz]; rfl
        have h4 := take_drop_while inB r
        have h5 := word_pos (r := r) (by rw [← HY.out]; exact HB.out)
        have h6 := HN.out
        rw [← HQ.out] at h6
        rw [HD.out] at h1 h2 h3 ⊢
        omega
      have QA := Lib.hid (argsr_some s n Q.out R p2 w2 hs HR2.out h40 hlen)
      have AE := Lib.hid aE
      have AO := Lib.hid aO
      clear aE aO hlen h40
      go_wp2_with fail
      refine QA.out.mono ?_
      rintro e w3 ⟨p3, hk3, ho⟩
      obtain ⟨c0, c1, c2, c3, f0, f1, f2, f3, hz⟩ := boxK4 hR (HK2.out.trans hk3)
      have HK3 := Lib.hid (HK2.out.trans hk3)
      clear hk3
      rcases ho with ⟨l, A, c, ho, hl0, hl1, hL, rfl, hr3⟩ | ⟨c, hc0, ho, rfl, hr3⟩
      · have HE := Lib.hid (show opnd (exprP n) r = .ok (funT y.data.toList (stripL l)) (skip (rest s p3)) by rw [HV.out, AO.out _ _ ho, HY.out]; rfl)
        have HR3 := Lib.hid hr3
        have HU := Lib.hid (show Live (w.heap.size + 1) No w3 (.mk 2 0 y (some ⟨A, 0, none⟩) c l) from fun W hW => (At_iff _ _).2 ⟨⟨by simp only [Tm.kind]; unfold Fits; omega, by simp only [Tm.num]; unfold Fits; omega, hys⟩, (hL.low hlow1) W hW⟩)
        clear ho hl0 hl1 hL hr3
        go_wp2_with fail
        refine bodyPost_ret (v := .agg #[.int .i64 2, .int .i64 0, .string y, .slice (some ⟨A, 0, none⟩) l.length c]) (by simp [results, Tryz.results109, go_sem, c0, c1, c2, c3]) rfl ?_
        exact parsedr_put (u := .mk 2 0 y (some ⟨A, 0, none⟩) c l) hR HK3.out HU.out (.inl ⟨_, HE.out, by simp [Tm.strip, funT], HR3.out⟩) rfl
      · have HE := Lib.hid (show opnd (exprP n) r = .err c by rw [HV.out, AE.out _ ho]; rfl)
        have HR3 := Lib.hid hr3
        have HC := Lib.hid hc0
        have HU := Lib.hid (show Live (w.heap.size + 1) No w3 (.mk 2 0 y none 0 []) from fun W hW => (At_iff _ _).2 ⟨⟨by simp only [Tm.kind]; unfold Fits; omega, by simp only [Tm.num]; unfold Fits; omega, hys⟩, Lst.nil W⟩)
        clear ho hc0 hr3
        go_wp2_with fail
        refine bodyPost_ret (v := .agg #[.int .i64 2, .int .i64 0, .string y, .slice none 0 0]) (by simp [results, Tryz.results109, go_sem, c0, c1, c2, c3]) rfl ?_
        exact parsedr_put (u := .mk 2 0 y none 0 []) hR HK3.out HU.out (.inr ⟨c, HC.out, HE.out, HR3.out⟩) rfl
    · have H40 := Lib.hid h40
      have QA := Lib.hid (argsr_none s R p2 w2 hsm HR2.out h40)
      go_wp2_with fail
      refine QA.out.mono ?_
      rintro e w3 ⟨p3, hq3, rfl, hk3, hr3⟩
      obtain ⟨c0, c1, c2, c3, f0, f1, f2, f3, hz⟩ := boxK4 hR (HK2.out.trans hk3)
      have HK3 := Lib.hid (HK2.out.trans hk3)
      have HR3 := Lib.hid hr3
      have HE := Lib.hid (show opnd (exprP n) r = .ok (funT y.data.toList []) (skip (rest s p3)) by rw [HV.out, atom_alone Khx.out (by rw [← HY.out]; exact HB.out) (by rw [← HD.out]; exact H40.out), HY.out, hq3, skip_skip, HD.out]; rfl)
      have HU := Lib.hid (show Live (w.heap.size + 1) No w3 (.mk 2 0 y none 0 []) from fun W hW => (At_iff _ _).2 ⟨⟨by simp only [Tm.kind]; unfold Fits; omega, by simp only [Tm.num]; unfold Fits; omega, hys⟩, Lst.nil W⟩)
      clear hk3 hr3 hq3
      go_wp2_with fail
      refine bodyPost_ret (v := .agg #[.int .i64 2, .int .i64 0, .string y, .slice none 0 0]) (by simp [results, Tryz.results109, go_sem, c0, c1, c2, c3]) rfl ?_
      exact parsedr_put (u := .mk 2 0 y none 0 []) hR HK3.out HU.out (.inl ⟨_, HE.out, by simp [Tm.strip, funT, stripL], HR3.out⟩) rfl
  · have HB := Lib.hid hb
    have HR2 := Lib.hid hr2
    clear hb hr2
    have QA := Lib.hid (argsr_err s R p2 7 w2 hsm HR2.out (by omega))
    go_wp2_with fail
    refine QA.out.mono ?_
    rintro e w3 ⟨p3, rfl, hk3, hr3⟩
    obtain ⟨c0, c1, c2, c3, f0, f1, f2, f3, hz⟩ := boxK4 hR (HK2.out.trans hk3)
    have HK3 := Lib.hid (HK2.out.trans hk3)
    have HR3 := Lib.hid hr3
    have HE := Lib.hid (show opnd (exprP n) r = .err 7 by rw [HV.out, atom_name Khx.out (by rw [← HY.out]; exact HB.out)]; rfl)
    have HU := Lib.hid (show Live (w.heap.size + 1) No w3 (.mk 2 0 y none 0 []) from fun W hW => (At_iff _ _).2 ⟨⟨by simp only [Tm.kind]; unfold Fits; omega, by simp only [Tm.num]; unfold Fits; omega, hys⟩, Lst.nil W⟩)
    clear hk3 hr3
    go_wp2_with fail
    refine bodyPost_ret (v := .agg #[.int .i64 2, .int .i64 0, .string y, .slice none 0 0]) (by simp [results, Tryz.results109, go_sem, c0, c1, c2, c3]) rfl ?_
    exact parsedr_put (u := .mk 2 0 y none 0 []) hR HK3.out HU.out (.inr ⟨7, by omega, HE.out, HR3.out⟩) rfl

set_option maxHeartbeats 2000000 in
set_option maxRecDepth 10000 in
theorem opndr_lab (s : ByteArray) (n : Nat) (hE : ExprR s n) (R p : Nat) (w : World) (hs : s.size ≤ 16384) (h : Rr w R s p 0) (hn : (skip (rest s p)).length ≤ n)
    (hx : letB ((skip (rest s p)).headD 0) = true) (hlow : lowB ((skip (rest s p)).headD 0) = false) :
    Calls Tryz.prog 109 #[.pointer (some ⟨R, 0, none⟩)] w (ParsedR R s w (opnd (exprP n) (skip (rest s p)))) := by
  have hsm : s.size ≤ maxLen := by unfold maxLen; omega
  have hs' : s.size ≤ 9223372036854775807 := by omega
  have hR := h.lt
  have H := Lib.hid h
  have HN := Lib.hid hn
  have Q := Lib.hid hE
  obtain ⟨r, hr⟩ : ∃ r, r = skip (rest s p) := ⟨_, rfl⟩
  rw [← hr] at hx hlow ⊢
  have HQ := Lib.hid hr
  have hup : undB (r.headD 0) = true ∨ uppB (r.headD 0) = true := by
    unfold letB at hx
    rw [hlow] at hx
    simp only [Bool.false_or, Bool.or_eq_true] at hx
    exact hx.symm
  have hb : r.headD 0 ≠ 40 ∧ r.headD 0 ≠ 45 ∧ digB (r.headD 0) = false := by
    simp only [undB, uppB, decide_eq_true_eq] at hup
    refine ⟨fun e => ?_, fun e => ?_, ?_⟩
    · rw [e] at hup; exact absurd hup (by decide)
    · rw [e] at hup; exact absurd hup (by decide)
    · simp only [digB, decide_eq_false_iff_not]; omega
  have HV := Lib.hid (show opnd (exprP n) r = labP r from opnd_lab hb.1 (fun h => h.elim hb.2.1 (fun e => by rw [hb.2.2] at e; cases e)) hup)
  have Hb := Lib.hid hb
  clear hup hb
  have Khx := Lib.hid hx
  have Khlow := Lib.hid hlow
  clear h hn hE hr hx hlow
  go_enter Tryz.func109, Tryz.ntmps109
  go_wp2_with fail
  refine (nextr_at s R p 0 _ hsm (H.out.alloc _)).mono ?_
  rintro e w1 ⟨p1, x, hq, hx1, rfl, hk1, hr1⟩
  have hx2 : (rest s p1).headD 0 = x := hx1.elim (fun h => h.2) (fun h => absurd rfl h.1)
  have HX := Lib.hid (show r.headD 0 = x by rw [HQ.out, ← hq]; exact hx2)
  have HP := Lib.hid (show rest s p1 = r by rw [HQ.out]; exact hq)
  have hee := hr1.err
  have hpp := hr1.pos
  have htt := hr1.txt
  have hff := hr1.free
  have hp1 : p1 < s.size := by
    rcases Nat.lt_or_ge p1 s.size with h | h
    · exact h
    · have e := HP.out
      rw [rest_end h] at e
      have h2 := Khx.out
      rw [← e] at h2
      exact absurd h2 (by decide)
  have hpl : (p1 : Int) < (s.size : Int) := by omega
  have hple : p1 ≤ s.size := hr1.le
  have HK1 := Lib.hid hk1
  have HR1 := Lib.hid hr1
  clear hq hx1 hx2 hk1 hr1
  have QD := Lib.hid (digit_at s R p1 p1 0 w1 hsm HR1.out (r := false) (by rw [HP.out]; exact Hb.out.2.2))
  have hb := Hb.out
  rw [HX.out] at hb
  have hl0 := Khlow.out
  rw [HX.out] at hl0
  have b1 : ((x.toNat : Int) == 45) = false := byte_ne (b := 45) hb.2.1
  have QL := Lib.hid (letter_at s R p1 p1 0 w1 hsm HR1.out (r := true) (by rw [HP.out]; exact Khx.out))
  have QN := Lib.hid (wordr_at s R p1 0 w1 hsm HR1.out)
  clear hb
  by_cases c97 : 97 ≤ x.toNat
  · have b2 : (97 : Int) ≤ (x.toNat : Int) := by omega
    have b3 : decide ((x.toNat : Int) ≤ 122) = false := by simp only [lowB, decide_eq_false_iff_not] at hl0; simp; omega
    clear c97 hl0
    go_wp2_with fail
    refine QD.out.mono ?_
    rintro e w' ⟨rfl, rfl⟩
    go_wp2_with fail
    refine QL.out.mono ?_
    rintro e w' ⟨rfl, rfl⟩
    go_wp2_with fail
    refine QN.out.mono ?_
    rintro e w2 ⟨p2, y, hy, hd2, hp2, rfl, hk2, hr2⟩
    rw [HP.out] at hy hd2
    have HY := Lib.hid hy
    have HD := Lib.hid hd2
    have HK2 := Lib.hid (HK1.out.trans hk2)
    have HR2 := Lib.hid hr2
    have hys : y.size ≤ 1000000000000 := by have := hr2.le; omega
    clear hy hd2 hp2 hk2 hr2
    go_wp2_with fail
    refine (ref_number y _ hys).mono ?_
    rintro e w3 hnb
    by_cases hc : spell ((r.takeWhile inB).drop 1) ≤ 1048576 ∧ r.takeWhile inB = label (spell ((r.takeWhile inB).drop 1))
    · obtain ⟨m, hm⟩ : ∃ m, m = spell ((r.takeWhile inB).drop 1) := ⟨_, rfl⟩
      rw [← hm] at hc
      have HM := Lib.hid hm
      obtain ⟨rfl, hb3⟩ := hnb.yes (n := m) ⟨hc.1, by rw [HY.out]; exact hc.2⟩
      have HE := Lib.hid (show opnd (exprP n) r = .ok (varT m) (skip (rest s p2)) by rw [HV.out, labP, if_pos (by rw [← HM.out]; exact hc), ← HM.out, HD.out])
      have hm1 := hc.1
      have HK3 := Lib.hid (HK2.out.trans (Below.keeps hb3 R))
      have HR3 := Lib.hid (HR2.out.below hb3)
      clear hc hm hnb hb3
      obtain ⟨c0, c1, c2, c3, f0, f1, f2, f3, hz⟩ := boxK4 hR HK3.out
      go_wp2_with fail
      refine bodyPost_ret (v := .agg #[.int .i64 1, .int .i64 (m : Int), .string ⟨#[]⟩, .slice none 0 0]) (by simp [results, Tryz.results109, go_sem, c0, c1, c2, c3]) rfl ?_
      exact parsedr_put (u := varT m) hR HK3.out (Live.any (varT_at m hm1)) (.inl ⟨_, HE.out, rfl, HR3.out⟩) rfl
    · obtain ⟨rfl, hb3⟩ := hnb.no (by rw [HY.out]; exact no_label hc)
      have HE := Lib.hid (show opnd (exprP n) r = .err 7 by rw [HV.out, labP, if_neg hc])
      have HK3 := Lib.hid (HK2.out.trans (Below.keeps hb3 R))
      have HR3 := Lib.hid (HR2.out.below hb3)
      clear hc hnb hb3
      go_wp2_with fail
      refine (fail_at s R p2 0 7 _ HR3.out).mono ?_
      rintro e w9 ⟨rfl, hk9, ho⟩
      obtain ⟨c0, c1, c2, c3, f0, f1, f2, f3, hz⟩ := boxK4 hR ((HK3.out).trans hk9)
      have HK9 := Lib.hid ((HK3.out).trans hk9)
      have HR9 := Lib.hid (fail0 ho)
      clear hk9 ho
      go_wp2_with fail
      refine bodyPost_ret (v := .agg #[.int .i64 0, .int .i64 0, .string ⟨#[]⟩, .slice none 0 0]) (by simp [results, Tryz.results109, go_sem, c0, c1, c2, c3]) rfl ?_
      exact parsedr_put (u := intT 0) hR HK9.out (Live.any zeroT_at) (.inr ⟨7, by omega, HE.out, HR9.out⟩) rfl
  · have b2 : decide ((97 : Int) ≤ (x.toNat : Int)) = false := by simp; omega
    clear c97 hl0
    go_wp2_with fail
    refine QD.out.mono ?_
    rintro e w' ⟨rfl, rfl⟩
    go_wp2_with fail
    refine QL.out.mono ?_
    rintro e w' ⟨rfl, rfl⟩
    go_wp2_with fail
    refine QN.out.mono ?_
    rintro e w2 ⟨p2, y, hy, hd2, hp2, rfl, hk2, hr2⟩
    rw [HP.out] at hy hd2
    have HY := Lib.hid hy
    have HD := Lib.hid hd2
    have HK2 := Lib.hid (HK1.out.trans hk2)
    have HR2 := Lib.hid hr2
    have hys : y.size ≤ 1000000000000 := by have := hr2.le; omega
    clear hy hd2 hp2 hk2 hr2
    go_wp2_with fail
    refine (ref_number y _ hys).mono ?_
    rintro e w3 hnb
    by_cases hc : spell ((r.takeWhile inB).drop 1) ≤ 1048576 ∧ r.takeWhile inB = label (spell ((r.takeWhile inB).drop 1))
    · obtain ⟨m, hm⟩ : ∃ m, m = spell ((r.takeWhile inB).drop 1) := ⟨_, rfl⟩
      rw [← hm] at hc
      have HM := Lib.hid hm
      obtain ⟨rfl, hb3⟩ := hnb.yes (n := m) ⟨hc.1, by rw [HY.out]; exact hc.2⟩
      have HE := Lib.hid (show opnd (exprP n) r = .ok (varT m) (skip (rest s p2)) by rw [HV.out, labP, if_pos (by rw [← HM.out]; exact hc), ← HM.out, HD.out])
      have hm1 := hc.1
      have HK3 := Lib.hid (HK2.out.trans (Below.keeps hb3 R))
      have HR3 := Lib.hid (HR2.out.below hb3)
      clear hc hm hnb hb3
      obtain ⟨c0, c1, c2, c3, f0, f1, f2, f3, hz⟩ := boxK4 hR HK3.out
      go_wp2_with fail
      refine bodyPost_ret (v := .agg #[.int .i64 1, .int .i64 (m : Int), .string ⟨#[]⟩, .slice none 0 0]) (by simp [results, Tryz.results109, go_sem, c0, c1, c2, c3]) rfl ?_
      exact parsedr_put (u := varT m) hR HK3.out (Live.any (varT_at m hm1)) (.inl ⟨_, HE.out, rfl, HR3.out⟩) rfl
    · obtain ⟨rfl, hb3⟩ := hnb.no (by rw [HY.out]; exact no_label hc)
      have HE := Lib.hid (show opnd (exprP n) r = .err 7 by rw [HV.out, labP, if_neg hc])
      have HK3 := Lib.hid (HK2.out.trans (Below.keeps hb3 R))
      have HR3 := Lib.hid (HR2.out.below hb3)
      clear hc hnb hb3
      go_wp2_with fail
      refine (fail_at s R p2 0 7 _ HR3.out).mono ?_
      rintro e w9 ⟨rfl, hk9, ho⟩
      obtain ⟨c0, c1, c2, c3, f0, f1, f2, f3, hz⟩ := boxK4 hR ((HK3.out).trans hk9)
      have HK9 := Lib.hid ((HK3.out).trans hk9)
      have HR9 := Lib.hid (fail0 ho)
      clear hk9 ho
      go_wp2_with fail
      refine bodyPost_ret (v := .agg #[.int .i64 0, .int .i64 0, .string ⟨#[]⟩, .slice none 0 0]) (by simp [results, Tryz.results109, go_sem, c0, c1, c2, c3]) rfl ?_
      exact parsedr_put (u := intT 0) hR HK9.out (Live.any zeroT_at) (.inr ⟨7, by omega, HE.out, HR9.out⟩) rfl

set_option maxHeartbeats 2000000 in
set_option maxRecDepth 10000 in
theorem opndr_group (s : ByteArray) (n : Nat) (hE : ExprR s n) (R p : Nat) (w : World) (hs : s.size ≤ 16384) (h : Rr w R s p 0) (hn : (skip (rest s p)).length ≤ n)
    (hx : ((skip (rest s p)).headD 0) = 40) :
    Calls Tryz.prog 109 #[.pointer (some ⟨R, 0, none⟩)] w (ParsedR R s w (opnd (exprP n) (skip (rest s p)))) := by
  have hsm : s.size ≤ maxLen := by unfold maxLen; omega
  have hs' : s.size ≤ 9223372036854775807 := by omega
  have hR := h.lt
  have H := Lib.hid h
  have HN := Lib.hid hn
  have Q := Lib.hid hE
  obtain ⟨r, hr⟩ : ∃ r, r = skip (rest s p) := ⟨_, rfl⟩
  rw [← hr] at hx ⊢
  have HQ := Lib.hid hr
  have HV := Lib.hid (show opnd (exprP n) r = groupP (exprP n) r from opnd_group hx)
  have Khx := Lib.hid hx
  clear h hn hE hr hx
  go_enter Tryz.func109, Tryz.ntmps109
  go_wp2_with fail
  refine (nextr_at s R p 0 _ hsm (H.out.alloc _)).mono ?_
  rintro e w1 ⟨p1, x, hq, hx1, rfl, hk1, hr1⟩
  have hx2 : (rest s p1).headD 0 = x := hx1.elim (fun h => h.2) (fun h => absurd rfl h.1)
  have HX := Lib.hid (show r.headD 0 = x by rw [HQ.out, ← hq]; exact hx2)
  have HP := Lib.hid (show rest s p1 = r by rw [HQ.out]; exact hq)
  have hee := hr1.err
  have hpp := hr1.pos
  have htt := hr1.txt
  have hff := hr1.free
  have hp1 : p1 < s.size := by
    rcases Nat.lt_or_ge p1 s.size with h | h
    · exact h
    · have e := HP.out
      rw [rest_end h] at e
      have h2 := Khx.out
      rw [← e] at h2
      exact absurd h2 (by decide)
  have hpl : (p1 : Int) < (s.size : Int) := by omega
  have hple : p1 ≤ s.size := hr1.le
  have HK1 := Lib.hid hk1
  have HR1 := Lib.hid hr1
  clear hq hx1 hx2 hk1 hr1
  have QD := Lib.hid (digit_at s R p1 p1 0 w1 hsm HR1.out (r := false) (by rw [HP.out, Khx.out]; decide))
  obtain rfl : x = 40 := by rw [← HX.out]; exact Khx.out
  have QL := Lib.hid (letter_at s R p1 p1 0 w1 hsm HR1.out (r := false) (by rw [HP.out, Khx.out]; decide))
  have hcons := rest_cons hp1
  have hlen : (skip (rest s (p1 + 1))).length < n := by
    have h1 := skip_len (rest s (p1 + 1))
    have h2 := HN.out
    rw [← HQ.out, ← HP.out, hcons, List.length_cons] at h2
    omega
  have QE := Lib.hid (Q.out R (p1 + 1) _ (HR1.out.set (q := p1 + 1) (by omega)) hlen)
  have HT := Lib.hid (show rest s (p1 + 1) = r.tail by rw [← HP.out, rest_tail hp1])
  clear hcons hlen
  go_wp2_with fail
  refine QD.out.mono ?_
  rintro e w' ⟨rfl, rfl⟩
  go_wp2_with fail
  refine QL.out.mono ?_
  rintro e w' ⟨rfl, rfl⟩
  go_wp2_with fail
  refine QE.out.mono ?_
  rintro e w2 ⟨u, p2, rfl, hu, hk2, ho⟩
  rw [HT.out] at ho
  have hR2 : R < w2.heap.size := ho.elim (fun h => by obtain ⟨_, _, _, h⟩ := h; exact h.lt) (fun h => by obtain ⟨_, _, _, h⟩ := h; exact h.lt)
  have HK2 := Lib.hid (((HK1.out.set 1 none (.int .i64 ((p1 + 1 : Nat) : Int)))).trans hk2)
  have hlow1 : w.heap.size + 1 ≤ w1.heap.size := by have := HK1.out.size; simpa using this
  have HU := Lib.hid (hu.low (lo' := w.heap.size + 1) (by simpa [World.setCell] using hlow1))
  have HO := Lib.hid ho
  clear hu hk2 ho hee hpp htt hff
  rcases HO.out with ⟨t, h1, h2, h3⟩ | ⟨c, h1, h2, h3⟩
  · have HOk := Lib.hid h1
    have HS := Lib.hid h2
    have HR2 := Lib.hid h3
    clear h1 h2 h3
    go_wp2_with fail
    refine (nextr_at s R p2 0 _ hsm (HR2.out.alloc _)).mono ?_
    rintro e w3 ⟨p3, x, hq3, hx3, rfl, hk3, hr3⟩
    have hx0 : (skip (rest s p2)).headD 0 = x := by rw [← hq3]; exact hx3.elim (fun h => h.2) (fun h => absurd rfl h.1)
    have HX3 := Lib.hid hx0
    have HQ3 := Lib.hid hq3
    have HK3 := Lib.hid ((HK2.out.alloc _).trans hk3)
    have HR3 := Lib.hid hr3
    have HU3 := Lib.hid ((HU.out.alloc (.cells #[.int .i64 u.kind, .int .i64 u.num, .string u.name, .slice u.at_ u.args.length u.cap] 24)).keeps hk3 (by omega))
    have HB3 := Lib.hid ((Box.new w2 u 24).keeps hk3 (by omega))
    have hpp := hr3.pos
    have hff := hr3.free
    clear hx0 hq3 hx3 hk3 hr3
    by_cases h41 : x = 41
    · subst h41
      have hp3 : p3 < s.size := by
        rcases Nat.lt_or_ge p3 s.size with h | h
        · exact h
        · have := HX3.out; rw [← HQ3.out, rest_end h] at this; exact absurd this (by decide)
      have hpl3 : (p3 : Int) < (s.size : Int) := by omega
      have HE := Lib.hid (show opnd (exprP n) r = .ok t (skip (rest s (p3 + 1))) by rw [HV.out, group_close HOk.out HX3.out, ← HQ3.out, rest_tail hp3])
      obtain ⟨c0, c1, c2, c3, f0, f1, f2, f3, hz⟩ := boxK4 hR HK3.out
      have e0 := HB3.out.c0
      have e1 := HB3.out.c1
      have e2 := HB3.out.c2
      have e3 := HB3.out.c3
      have hne1 : ¬ R = w.heap.size := by omega
      have hne2 : ¬ w.heap.size = R := by omega
      have hne3 : ¬ R = w2.heap.size := by omega
      have hne4 : ¬ w2.heap.size = R := by omega
      have HK4 := Lib.hid (HK3.out.set 1 none (.int .i64 ((p3 + 1 : Nat) : Int)))
      have HR4 := Lib.hid (HR3.out.set (q := p3 + 1) (by omega))
      have HU4 := Lib.hid (HU3.out.set (p := ⟨R, 1, none⟩) (.inl (by show R < _; omega)) (.int .i64 ((p3 + 1 : Nat) : Int)))
      go_wp2_with fail
      refine bodyPost_ret (v := u.val) (by simp [results, Tryz.results109, go_sem, c0, c1, c2, c3]) rfl ?_
      exact parsedr_put hR HK4.out HU4.out (.inl ⟨t, HE.out, HS.out, HR4.out⟩) rfl
    · have n41 : ((x.toNat : Int) != 41) = true := by
        have := byte_ne (a := x) (b := 41) h41
        simpa [bne] using this
      have HE := Lib.hid (show opnd (exprP n) r = .err 16 by rw [HV.out, group_other HOk.out (by rw [HX3.out]; exact h41)])
      clear h41
      go_wp2_with fail
      refine (fail_at s R p3 0 16 _ HR3.out).mono ?_
      rintro e w9 ⟨rfl, hk9, ho⟩
      obtain ⟨c0, c1, c2, c3, f0, f1, f2, f3, hz⟩ := boxK4 hR (HK3.out.trans hk9)
      have HK9 := Lib.hid (HK3.out.trans hk9)
      have HR9 := Lib.hid (fail0 ho)
      clear hk9 ho
      go_wp2_with fail
      refine bodyPost_ret (v := .agg #[.int .i64 0, .int .i64 0, .string ⟨#[]⟩, .slice none 0 0]) (by simp [results, Tryz.results109, go_sem, c0, c1, c2, c3]) rfl ?_
      exact parsedr_put (u := intT 0) hR HK9.out (Live.any zeroT_at) (.inr ⟨16, by omega, HE.out, HR9.out⟩) rfl
  · have HC := Lib.hid h1
    have HE := Lib.hid (show opnd (exprP n) r = .err c by rw [HV.out, group_err h2])
    have HR2 := Lib.hid h3
    clear h1 h2 h3
    go_wp2_with fail
    refine (nextr_at s R p2 c _ hsm (HR2.out.alloc _)).mono ?_
    rintro e w3 ⟨p3, x, hq3, hx3, rfl, hk3, hr3⟩
    have hx0 : x = 0 := hx3.elim (fun h => absurd h.1 HC.out) (fun h => h.2)
    subst hx0
    have HK3 := Lib.hid ((HK2.out.alloc _).trans hk3)
    have HR3 := Lib.hid hr3
    clear hq3 hx3 hk3 hr3
    go_wp2_with fail
    refine (fail_at s R p3 c 16 _ HR3.out).mono ?_
    rintro e w9 ⟨rfl, hk9, ho⟩
    obtain ⟨c0, c1, c2, c3, f0, f1, f2, f3, hz⟩ := boxK4 hR (HK3.out.trans hk9)
    have HK9 := Lib.hid (HK3.out.trans hk9)
    have HR9 := Lib.hid (show Rr w9 R s p3 c from ho.elim (fun h => absurd h.1 HC.out) (fun h => h.2))
    clear hk9 ho
    go_wp2_with fail
    refine bodyPost_ret (v := .agg #[.int .i64 0, .int .i64 0, .string ⟨#[]⟩, .slice none 0 0]) (by simp [results, Tryz.results109, go_sem, c0, c1, c2, c3]) rfl ?_
    exact parsedr_put (u := intT 0) hR HK9.out (Live.any zeroT_at) (.inr ⟨c, HC.out, HE.out, HR9.out⟩) rfl

set_option maxHeartbeats 2000000 in
set_option maxRecDepth 10000 in
theorem opndr_other (s : ByteArray) (n : Nat) (hE : ExprR s n) (R p : Nat) (w : World) (hs : s.size ≤ 16384) (h : Rr w R s p 0) (hn : (skip (rest s p)).length ≤ n)
    (h40 : ((skip (rest s p)).headD 0) ≠ 40) (h45 : ((skip (rest s p)).headD 0) ≠ 45) (hd : digB ((skip (rest s p)).headD 0) = false) (hx : letB ((skip (rest s p)).headD 0) = false) :
    Calls Tryz.prog 109 #[.pointer (some ⟨R, 0, none⟩)] w (ParsedR R s w (opnd (exprP n) (skip (rest s p)))) := by
  have hsm : s.size ≤ maxLen := by unfold maxLen; omega
  have hs' : s.size ≤ 9223372036854775807 := by omega
  have hR := h.lt
  have H := Lib.hid h
  have HN := Lib.hid hn
  have Q := Lib.hid hE
  obtain ⟨r, hr⟩ : ∃ r, r = skip (rest s p) := ⟨_, rfl⟩
  rw [← hr] at h40 h45 hd hx ⊢
  have HQ := Lib.hid hr
  have hlo3 : lowB (r.headD 0) = false ∧ uppB (r.headD 0) = false ∧ undB (r.headD 0) = false := by
    unfold letB at hx
    simp only [Bool.or_eq_false_iff] at hx
    exact ⟨hx.1.1, hx.1.2, hx.2⟩
  have HV := Lib.hid (show opnd (exprP n) r = .err 16 by
    rw [opnd_atom h40 (fun h => h.elim h45 (fun e => by rw [hd] at e; cases e)) (fun h => h.elim (fun e => by rw [hlo3.2.2] at e; cases e) (fun e => by rw [hlo3.2.1] at e; cases e)), atom_low hlo3.1]; rfl)
  have Hlo3 := Lib.hid hlo3
  clear hlo3
  have Kh40 := Lib.hid h40
  have Kh45 := Lib.hid h45
  have Khd := Lib.hid hd
  have Khx := Lib.hid hx
  clear h hn hE hr h40 h45 hd hx
  go_enter Tryz.func109, Tryz.ntmps109
  go_wp2_with fail
  refine (nextr_at s R p 0 _ hsm (H.out.alloc _)).mono ?_
  rintro e w1 ⟨p1, x, hq, hx1, rfl, hk1, hr1⟩
  have hx2 : (rest s p1).headD 0 = x := hx1.elim (fun h => h.2) (fun h => absurd rfl h.1)
  have HX := Lib.hid (show r.headD 0 = x by rw [HQ.out, ← hq]; exact hx2)
  have HP := Lib.hid (show rest s p1 = r by rw [HQ.out]; exact hq)
  have hee := hr1.err
  have hpp := hr1.pos
  have htt := hr1.txt
  have hff := hr1.free
  have hple : p1 ≤ s.size := hr1.le
  have HK1 := Lib.hid hk1
  have HR1 := Lib.hid hr1
  clear hq hx1 hx2 hk1 hr1
  have QD := Lib.hid (digit_at s R p1 p1 0 w1 hsm HR1.out (r := false) (by rw [HP.out]; exact Khd.out))
  have hl0 := Hlo3.out
  rw [HX.out] at hl0
  have b1 : ((x.toNat : Int) == 45) = false := byte_ne (b := 45) (by rw [← HX.out]; exact Kh45.out)
  have b4 : ((x.toNat : Int) == 40) = false := byte_ne (b := 40) (by rw [← HX.out]; exact Kh40.out)
  have QL := Lib.hid (letter_at s R p1 p1 0 w1 hsm HR1.out (r := false) (by rw [HP.out]; exact Khx.out))
  by_cases c97 : 97 ≤ x.toNat
  · have b2 : (97 : Int) ≤ (x.toNat : Int) := by omega
    have b3 : decide ((x.toNat : Int) ≤ 122) = false := by have := hl0.1; simp only [lowB, decide_eq_false_iff_not] at this; simp; omega
    clear c97 hl0
    go_wp2_with fail
    refine QD.out.mono ?_
    rintro e w' ⟨rfl, rfl⟩
    go_wp2_with fail
    refine QL.out.mono ?_
    rintro e w' ⟨rfl, rfl⟩
    go_wp2_with fail
    refine (fail_at s R p1 0 16 _ HR1.out).mono ?_
    rintro e w9 ⟨rfl, hk9, ho⟩
    obtain ⟨c0, c1, c2, c3, f0, f1, f2, f3, hz⟩ := boxK4 hR ((HK1.out).trans hk9)
    have HK9 := Lib.hid ((HK1.out).trans hk9)
    have HR9 := Lib.hid (fail0 ho)
    clear hk9 ho
    go_wp2_with fail
    refine bodyPost_ret (v := .agg #[.int .i64 0, .int .i64 0, .string ⟨#[]⟩, .slice none 0 0]) (by simp [results, Tryz.results109, go_sem, c0, c1, c2, c3]) rfl ?_
    exact parsedr_put (u := intT 0) hR HK9.out (Live.any zeroT_at) (.inr ⟨16, by omega, HV.out, HR9.out⟩) rfl
  · have b2 : decide ((97 : Int) ≤ (x.toNat : Int)) = false := by simp; omega
    clear c97 hl0
    go_wp2_with fail
    refine QD.out.mono ?_
    rintro e w' ⟨rfl, rfl⟩
    go_wp2_with fail
    refine QL.out.mono ?_
    rintro e w' ⟨rfl, rfl⟩
    go_wp2_with fail
    refine (fail_at s R p1 0 16 _ HR1.out).mono ?_
    rintro e w9 ⟨rfl, hk9, ho⟩
    obtain ⟨c0, c1, c2, c3, f0, f1, f2, f3, hz⟩ := boxK4 hR ((HK1.out).trans hk9)
    have HK9 := Lib.hid ((HK1.out).trans hk9)
    have HR9 := Lib.hid (fail0 ho)
    clear hk9 ho
    go_wp2_with fail
    refine bodyPost_ret (v := .agg #[.int .i64 0, .int .i64 0, .string ⟨#[]⟩, .slice none 0 0]) (by simp [results, Tryz.results109, go_sem, c0, c1, c2, c3]) rfl ?_
    exact parsedr_put (u := intT 0) hR HK9.out (Live.any zeroT_at) (.inr ⟨16, by omega, HV.out, HR9.out⟩) rfl

theorem opndr_at (s : ByteArray) (n : Nat) (hE : ExprR s n) (R p : Nat) (w : World) (hs : s.size ≤ 16384) (h : Rr w R s p 0) (hn : (skip (rest s p)).length ≤ n) :
    Calls Tryz.prog 109 #[.pointer (some ⟨R, 0, none⟩)] w (ParsedR R s w (opnd (exprP n) (skip (rest s p)))) := by
  cases hd : digB ((skip (rest s p)).headD 0)
  · by_cases h45 : (skip (rest s p)).headD 0 = 45
    · cases hd2 : digB ((skip (rest s p)).tail.headD 0)
      · exact opndr_minusno s n hE R p w hs h hn h45 hd2
      · exact opndr_minus s n hE R p w hs h hn h45 hd2
    · by_cases h40 : (skip (rest s p)).headD 0 = 40
      · exact opndr_group s n hE R p w hs h hn h40
      · cases hl : lowB ((skip (rest s p)).headD 0)
        · cases hx : letB ((skip (rest s p)).headD 0)
          · exact opndr_other s n hE R p w hs h hn h40 h45 hd hx
          · exact opndr_lab s n hE R p w hs h hn hx hl
        · exact opndr_name s n hE R p w hs h hn hl
  · exact opndr_dig s n hE R p w hs h hn hd
end Go.Proofs.YtlpibnbabgfiiaaGreatDoor
