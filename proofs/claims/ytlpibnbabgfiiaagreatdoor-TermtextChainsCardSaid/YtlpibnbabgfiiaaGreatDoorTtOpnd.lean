/-
  Contracts of the reader's operand, chain, product and expr.
-/
import Derived.Test.YtlpibnbabgfiiaaGreatDoorTtGroup
namespace Go.Proofs.YtlpibnbabgfiiaaGreatDoor
open Go.RowKit

/-- The result of a callee is stored: behind it. -/
theorem parsed_on {R p' : Nat} {s : ByteArray} {w w1 W : World} {o : Obj} {u : Tm} {res : PR Tm} {e : Ending} (hR : R < w.heap.size) (hk1 : Keeps R (w.alloc o) w1) (hk : Keeps R w1 W) (hr : Rd W R s p') (hl : Live w1.heap.size No W u) (ho : Outc res u (skip (rest s p')) e) :
    Parsed R s w res e ((((W.setCell ⟨w.heap.size, 0, none⟩ (.int .i64 u.kind)).setCell ⟨w.heap.size, 1, none⟩ (.int .i64 u.num)).setCell ⟨w.heap.size, 2, none⟩ (.string u.name)).setCell ⟨w.heap.size, 3, none⟩ (.slice u.at_ u.args.length u.cap)) :=
  parsed_put hR (hk1.trans hk) hr (hl.low (by have := hk1.size; simpa using this)) ho rfl

set_option maxHeartbeats 1000000 in
set_option maxRecDepth 10000 in
theorem opnd_at_group (s : ByteArray) (n : Nat) (hE : ExprAt s n) (R p : Nat) (w : World) (hs : s.size ≤ 16384) (h : Rd w R s p) (hn : (skip (rest s p)).length ≤ n)
    (hx : (skip (rest s p)).headD 0 = 40) :
    Calls Tryz.prog 108 #[.pointer (some ⟨R, 0, none⟩)] w (Parsed R s w (opnd (exprP n) (skip (rest s p)))) := by
  have hsm : s.size ≤ maxLen := by unfold maxLen; omega
  have hR := h.lt
  have H := Lib.hid h
  have HN := Lib.hid hn
  have Q := Lib.hid hE
  obtain ⟨r, hr⟩ : ∃ r, r = skip (rest s p) := ⟨_, rfl⟩
  rw [← hr] at hx ⊢
  have HQ := Lib.hid hr
  have HV := Lib.hid (show opnd (exprP n) r = groupP (exprP n) r from opnd_group hx)
  have Khx := Lib.hid hx
  clear h hn hE hr hx
  go_enter Tryz.func108, Tryz.ntmps108
  go_wp2_with fail
  refine (next_at s R p _ hsm (H.out.alloc _)).mono ?_
  rintro e w1 ⟨p1, x, hq, hx1, rfl, hk1, hr1⟩
  have HX := Lib.hid (show r.headD 0 = x by rw [HQ.out, ← hq]; exact hx1)
  have HP := Lib.hid (show rest s p1 = r by rw [HQ.out]; exact hq)
  have HK1 := Lib.hid hk1
  have HR1 := Lib.hid hr1
  clear hq hx1 hk1 hr1
  obtain rfl : x = 40 := by rw [← HX.out]; exact Khx.out
  go_wp2_with fail
  have HQ1 := Lib.hid (group_at s n Q.out R p1 _ hs HR1.out (by rw [HP.out]; exact HX.out) (by rw [HP.out, HQ.out]; exact HN.out))
  refine HQ1.out.mono ?_
  rintro e w2 ⟨u, p2, hu, hk2, hr2, ho⟩
  rw [HP.out, ← HV.out] at ho
  have hk2' := HK1.out.trans hk2
  obtain ⟨c0, c1, c2, c3, f0, f1, f2, f3, hz⟩ := boxK4 hR hk2'
  have HK2 := Lib.hid hk2
  have HR2 := Lib.hid hr2
  have HU := Lib.hid hu
  clear hk2' hk2 hr2 hu
  rcases ho with ⟨t, ho, hst, rfl⟩ | ⟨c, hc0, ho, rfl⟩
  · have HO := Lib.hid ho
    have HS := Lib.hid hst
    clear ho hst
    go_wp2_with fail
    refine bodyPost_ret (v := .tuple #[u.val, .int .i64 0]) (by simp [results, Tryz.results108, go_sem, c0, c1, c2, c3]) rfl ?_
    exact parsed_on hR HK1.out HK2.out HR2.out HU.out (.inl ⟨t, HO.out, HS.out, rfl⟩)
  · have HO := Lib.hid ho
    have HC := Lib.hid hc0
    clear ho hc0
    go_wp2_with fail
    refine bodyPost_ret (v := .tuple #[u.val, .int .i64 c]) (by simp [results, Tryz.results108, go_sem, c0, c1, c2, c3]) rfl ?_
    exact parsed_on hR HK1.out HK2.out HR2.out HU.out (.inr ⟨c, HC.out, HO.out, rfl⟩)

set_option maxHeartbeats 1000000 in
set_option maxRecDepth 10000 in
theorem opnd_at_minus (s : ByteArray) (n : Nat) (hE : ExprAt s n) (R p : Nat) (w : World) (hs : s.size ≤ 16384) (h : Rd w R s p) (hn : (skip (rest s p)).length ≤ n)
    (hx : (skip (rest s p)).headD 0 = 45) :
    Calls Tryz.prog 108 #[.pointer (some ⟨R, 0, none⟩)] w (Parsed R s w (opnd (exprP n) (skip (rest s p)))) := by
  have hsm : s.size ≤ maxLen := by unfold maxLen; omega
  have hR := h.lt
  have H := Lib.hid h
  have HN := Lib.hid hn
  have Q := Lib.hid hE
  obtain ⟨r, hr⟩ : ∃ r, r = skip (rest s p) := ⟨_, rfl⟩
  rw [← hr] at hx ⊢
  have HQ := Lib.hid hr
  have HV := Lib.hid (show opnd (exprP n) r = intP r from opnd_int (by rw [hx]; decide) (.inl hx))
  have Khx := Lib.hid hx
  clear h hn hE hr hx
  go_enter Tryz.func108, Tryz.ntmps108
  go_wp2_with fail
  refine (next_at s R p _ hsm (H.out.alloc _)).mono ?_
  rintro e w1 ⟨p1, x, hq, hx1, rfl, hk1, hr1⟩
  have HX := Lib.hid (show r.headD 0 = x by rw [HQ.out, ← hq]; exact hx1)
  have HP := Lib.hid (show rest s p1 = r by rw [HQ.out]; exact hq)
  have HK1 := Lib.hid hk1
  have HR1 := Lib.hid hr1
  clear hq hx1 hk1 hr1
  obtain rfl : x = 45 := by rw [← HX.out]; exact Khx.out
  go_wp2_with fail
  have hp1 : p1 < s.size := by
    rcases Nat.lt_or_ge p1 s.size with h | h
    · exact h
    · have e := HP.out
      rw [rest_end h] at e
      have := Khx.out
      rw [← e] at this
      exact absurd this (by decide)
  have HQ1 := Lib.hid (int_at s R p1 _ hs HR1.out hp1)
  refine HQ1.out.mono ?_
  rintro e w2 ⟨u, p2, hu, hk2, hr2, ho⟩
  rw [HP.out, ← HV.out] at ho
  have hk2' := HK1.out.trans hk2
  obtain ⟨c0, c1, c2, c3, f0, f1, f2, f3, hz⟩ := boxK4 hR hk2'
  have HK2 := Lib.hid hk2
  have HR2 := Lib.hid hr2
  have HU := Lib.hid hu
  clear hk2' hk2 hr2 hu
  rcases ho with ⟨t, ho, hst, rfl⟩ | ⟨c, hc0, ho, rfl⟩
  · have HO := Lib.hid ho
    have HS := Lib.hid hst
    clear ho hst
    go_wp2_with fail
    refine bodyPost_ret (v := .tuple #[u.val, .int .i64 0]) (by simp [results, Tryz.results108, go_sem, c0, c1, c2, c3]) rfl ?_
    exact parsed_on hR HK1.out HK2.out HR2.out HU.out (.inl ⟨t, HO.out, HS.out, rfl⟩)
  · have HO := Lib.hid ho
    have HC := Lib.hid hc0
    clear ho hc0
    go_wp2_with fail
    refine bodyPost_ret (v := .tuple #[u.val, .int .i64 c]) (by simp [results, Tryz.results108, go_sem, c0, c1, c2, c3]) rfl ?_
    exact parsed_on hR HK1.out HK2.out HR2.out HU.out (.inr ⟨c, HC.out, HO.out, rfl⟩)

set_option maxHeartbeats 1000000 in
set_option maxRecDepth 10000 in
theorem opnd_at_dig (s : ByteArray) (n : Nat) (hE : ExprAt s n) (R p : Nat) (w : World) (hs : s.size ≤ 16384) (h : Rd w R s p) (hn : (skip (rest s p)).length ≤ n)
    (h40 : (skip (rest s p)).headD 0 ≠ 40) (h45 : (skip (rest s p)).headD 0 ≠ 45) (hx : digB ((skip (rest s p)).headD 0) = true) :
    Calls Tryz.prog 108 #[.pointer (some ⟨R, 0, none⟩)] w (Parsed R s w (opnd (exprP n) (skip (rest s p)))) := by
  have hsm : s.size ≤ maxLen := by unfold maxLen; omega
  have hR := h.lt
  have H := Lib.hid h
  have HN := Lib.hid hn
  have Q := Lib.hid hE
  obtain ⟨r, hr⟩ : ∃ r, r = skip (rest s p) := ⟨_, rfl⟩
  rw [← hr] at h40 h45 hx ⊢
  have HQ := Lib.hid hr
  have HV := Lib.hid (show opnd (exprP n) r = intP r from opnd_int h40 (.inr hx))
  have Kh40 := Lib.hid h40
  have Kh45 := Lib.hid h45
  have Khx := Lib.hid hx
  clear h hn hE hr h40 h45 hx
  go_enter Tryz.func108, Tryz.ntmps108
  go_wp2_with fail
  refine (next_at s R p _ hsm (H.out.alloc _)).mono ?_
  rintro e w1 ⟨p1, x, hq, hx1, rfl, hk1, hr1⟩
  have HX := Lib.hid (show r.headD 0 = x by rw [HQ.out, ← hq]; exact hx1)
  have HP := Lib.hid (show rest s p1 = r by rw [HQ.out]; exact hq)
  have HK1 := Lib.hid hk1
  have HR1 := Lib.hid hr1
  clear hq hx1 hk1 hr1
  have b1 : ((x.toNat : Int) == 40) = false := byte_ne (b := 40) (by rw [← HX.out]; exact Kh40.out)
  have b2 : ((x.toNat : Int) == 45) = false := byte_ne (b := 45) (by rw [← HX.out]; exact Kh45.out)
  have QD := Lib.hid (fun W => tt_dig_at x W (r := true) (by rw [← HX.out]; exact Khx.out))
  go_wp2_with (first | (go_at_call 111; refine (QD.out _).mono ?_; rintro e w' ⟨rfl, rfl⟩))
  have hp1 : p1 < s.size := by
    rcases Nat.lt_or_ge p1 s.size with h | h
    · exact h
    · have e := HP.out
      rw [rest_end h] at e
      have := Khx.out
      rw [← e] at this
      exact absurd this (by decide)
  have HQ1 := Lib.hid (int_at s R p1 _ hs HR1.out hp1)
  refine HQ1.out.mono ?_
  rintro e w2 ⟨u, p2, hu, hk2, hr2, ho⟩
  rw [HP.out, ← HV.out] at ho
  have hk2' := HK1.out.trans hk2
  obtain ⟨c0, c1, c2, c3, f0, f1, f2, f3, hz⟩ := boxK4 hR hk2'
  have HK2 := Lib.hid hk2
  have HR2 := Lib.hid hr2
  have HU := Lib.hid hu
  clear hk2' hk2 hr2 hu
  rcases ho with ⟨t, ho, hst, rfl⟩ | ⟨c, hc0, ho, rfl⟩
  · have HO := Lib.hid ho
    have HS := Lib.hid hst
    clear ho hst
    go_wp2_with fail
    refine bodyPost_ret (v := .tuple #[u.val, .int .i64 0]) (by simp [results, Tryz.results108, go_sem, c0, c1, c2, c3]) rfl ?_
    exact parsed_on hR HK1.out HK2.out HR2.out HU.out (.inl ⟨t, HO.out, HS.out, rfl⟩)
  · have HO := Lib.hid ho
    have HC := Lib.hid hc0
    clear ho hc0
    go_wp2_with fail
    refine bodyPost_ret (v := .tuple #[u.val, .int .i64 c]) (by simp [results, Tryz.results108, go_sem, c0, c1, c2, c3]) rfl ?_
    exact parsed_on hR HK1.out HK2.out HR2.out HU.out (.inr ⟨c, HC.out, HO.out, rfl⟩)

set_option maxHeartbeats 1000000 in
set_option maxRecDepth 10000 in
theorem opnd_at_und (s : ByteArray) (n : Nat) (hE : ExprAt s n) (R p : Nat) (w : World) (hs : s.size ≤ 16384) (h : Rd w R s p) (hn : (skip (rest s p)).length ≤ n)
    (h40 : (skip (rest s p)).headD 0 ≠ 40) (h45 : (skip (rest s p)).headD 0 ≠ 45) (hd : digB ((skip (rest s p)).headD 0) = false) (hx : undB ((skip (rest s p)).headD 0) = true) :
    Calls Tryz.prog 108 #[.pointer (some ⟨R, 0, none⟩)] w (Parsed R s w (opnd (exprP n) (skip (rest s p)))) := by
  have hsm : s.size ≤ maxLen := by unfold maxLen; omega
  have hR := h.lt
  have H := Lib.hid h
  have HN := Lib.hid hn
  have Q := Lib.hid hE
  obtain ⟨r, hr⟩ : ∃ r, r = skip (rest s p) := ⟨_, rfl⟩
  rw [← hr] at h40 h45 hd hx ⊢
  have HQ := Lib.hid hr
  have HV := Lib.hid (show opnd (exprP n) r = labP r from opnd_lab h40 (fun h => h.elim h45 (fun e => by rw [hd] at e; cases e)) (.inl hx))
  have Kh40 := Lib.hid h40
  have Kh45 := Lib.hid h45
  have Khd := Lib.hid hd
  have Khx := Lib.hid hx
  clear h hn hE hr h40 h45 hd hx
  go_enter Tryz.func108, Tryz.ntmps108
  go_wp2_with fail
  refine (next_at s R p _ hsm (H.out.alloc _)).mono ?_
  rintro e w1 ⟨p1, x, hq, hx1, rfl, hk1, hr1⟩
  have HX := Lib.hid (show r.headD 0 = x by rw [HQ.out, ← hq]; exact hx1)
  have HP := Lib.hid (show rest s p1 = r by rw [HQ.out]; exact hq)
  have HK1 := Lib.hid hk1
  have HR1 := Lib.hid hr1
  clear hq hx1 hk1 hr1
  have b1 : ((x.toNat : Int) == 40) = false := byte_ne (b := 40) (by rw [← HX.out]; exact Kh40.out)
  have b2 : ((x.toNat : Int) == 45) = false := byte_ne (b := 45) (by rw [← HX.out]; exact Kh45.out)
  have QD := Lib.hid (fun W => tt_dig_at x W (r := false) (by rw [← HX.out]; exact Khd.out))
  have b3 : ((x.toNat : Int) == 95) = true := by have := Khx.out; rw [HX.out] at this; simp only [undB, decide_eq_true_eq] at this; rw [this]; rfl
  go_wp2_with (first | (go_at_call 111; refine (QD.out _).mono ?_; rintro e w' ⟨rfl, rfl⟩))
  have HQ1 := Lib.hid (lab_at s R p1 _ hs HR1.out)
  refine HQ1.out.mono ?_
  rintro e w2 ⟨u, p2, hu, hk2, hr2, ho⟩
  rw [HP.out, ← HV.out] at ho
  have hk2' := HK1.out.trans hk2
  obtain ⟨c0, c1, c2, c3, f0, f1, f2, f3, hz⟩ := boxK4 hR hk2'
  have HK2 := Lib.hid hk2
  have HR2 := Lib.hid hr2
  have HU := Lib.hid hu
  clear hk2' hk2 hr2 hu
  rcases ho with ⟨t, ho, hst, rfl⟩ | ⟨c, hc0, ho, rfl⟩
  · have HO := Lib.hid ho
    have HS := Lib.hid hst
    clear ho hst
    go_wp2_with fail
    refine bodyPost_ret (v := .tuple #[u.val, .int .i64 0]) (by simp [results, Tryz.results108, go_sem, c0, c1, c2, c3]) rfl ?_
    exact parsed_on hR HK1.out HK2.out HR2.out HU.out (.inl ⟨t, HO.out, HS.out, rfl⟩)
  · have HO := Lib.hid ho
    have HC := Lib.hid hc0
    clear ho hc0
    go_wp2_with fail
    refine bodyPost_ret (v := .tuple #[u.val, .int .i64 c]) (by simp [results, Tryz.results108, go_sem, c0, c1, c2, c3]) rfl ?_
    exact parsed_on hR HK1.out HK2.out HR2.out HU.out (.inr ⟨c, HC.out, HO.out, rfl⟩)

set_option maxHeartbeats 1000000 in
set_option maxRecDepth 10000 in
theorem opnd_at_upp (s : ByteArray) (n : Nat) (hE : ExprAt s n) (R p : Nat) (w : World) (hs : s.size ≤ 16384) (h : Rd w R s p) (hn : (skip (rest s p)).length ≤ n)
    (h40 : (skip (rest s p)).headD 0 ≠ 40) (h45 : (skip (rest s p)).headD 0 ≠ 45) (hd : digB ((skip (rest s p)).headD 0) = false) (hv : undB ((skip (rest s p)).headD 0) = false) (hx : uppB ((skip (rest s p)).headD 0) = true) :
    Calls Tryz.prog 108 #[.pointer (some ⟨R, 0, none⟩)] w (Parsed R s w (opnd (exprP n) (skip (rest s p)))) := by
  have hsm : s.size ≤ maxLen := by unfold maxLen; omega
  have hR := h.lt
  have H := Lib.hid h
  have HN := Lib.hid hn
  have Q := Lib.hid hE
  obtain ⟨r, hr⟩ : ∃ r, r = skip (rest s p) := ⟨_, rfl⟩
  rw [← hr] at h40 h45 hd hv hx ⊢
  have HQ := Lib.hid hr
  have HV := Lib.hid (show opnd (exprP n) r = labP r from opnd_lab h40 (fun h => h.elim h45 (fun e => by rw [hd] at e; cases e)) (.inr hx))
  have Kh40 := Lib.hid h40
  have Kh45 := Lib.hid h45
  have Khd := Lib.hid hd
  have Khv := Lib.hid hv
  have Khx := Lib.hid hx
  clear h hn hE hr h40 h45 hd hv hx
  go_enter Tryz.func108, Tryz.ntmps108
  go_wp2_with fail
  refine (next_at s R p _ hsm (H.out.alloc _)).mono ?_
  rintro e w1 ⟨p1, x, hq, hx1, rfl, hk1, hr1⟩
  have HX := Lib.hid (show r.headD 0 = x by rw [HQ.out, ← hq]; exact hx1)
  have HP := Lib.hid (show rest s p1 = r by rw [HQ.out]; exact hq)
  have HK1 := Lib.hid hk1
  have HR1 := Lib.hid hr1
  clear hq hx1 hk1 hr1
  have b1 : ((x.toNat : Int) == 40) = false := byte_ne (b := 40) (by rw [← HX.out]; exact Kh40.out)
  have b2 : ((x.toNat : Int) == 45) = false := byte_ne (b := 45) (by rw [← HX.out]; exact Kh45.out)
  have QD := Lib.hid (fun W => tt_dig_at x W (r := false) (by rw [← HX.out]; exact Khd.out))
  have b3 : ((x.toNat : Int) == 95) = false := by have := Khv.out; rw [HX.out] at this; simp only [undB, decide_eq_false_iff_not] at this; simp; omega
  have QU := Lib.hid (fun W => tt_upp_at x W (r := true) (by rw [← HX.out]; exact Khx.out))
  go_wp2_with (first | (go_at_call 111; refine (QD.out _).mono ?_; rintro e w' ⟨rfl, rfl⟩) | (go_at_call 110; refine (QU.out _).mono ?_; rintro e w' ⟨rfl, rfl⟩))
  have HQ1 := Lib.hid (lab_at s R p1 _ hs HR1.out)
  refine HQ1.out.mono ?_
  rintro e w2 ⟨u, p2, hu, hk2, hr2, ho⟩
  rw [HP.out, ← HV.out] at ho
  have hk2' := HK1.out.trans hk2
  obtain ⟨c0, c1, c2, c3, f0, f1, f2, f3, hz⟩ := boxK4 hR hk2'
  have HK2 := Lib.hid hk2
  have HR2 := Lib.hid hr2
  have HU := Lib.hid hu
  clear hk2' hk2 hr2 hu
  rcases ho with ⟨t, ho, hst, rfl⟩ | ⟨c, hc0, ho, rfl⟩
  · have HO := Lib.hid ho
    have HS := Lib.hid hst
    clear ho hst
    go_wp2_with fail
    refine bodyPost_ret (v := .tuple #[u.val, .int .i64 0]) (by simp [results, Tryz.results108, go_sem, c0, c1, c2, c3]) rfl ?_
    exact parsed_on hR HK1.out HK2.out HR2.out HU.out (.inl ⟨t, HO.out, HS.out, rfl⟩)
  · have HO := Lib.hid ho
    have HC := Lib.hid hc0
    clear ho hc0
    go_wp2_with fail
    refine bodyPost_ret (v := .tuple #[u.val, .int .i64 c]) (by simp [results, Tryz.results108, go_sem, c0, c1, c2, c3]) rfl ?_
    exact parsed_on hR HK1.out HK2.out HR2.out HU.out (.inr ⟨c, HC.out, HO.out, rfl⟩)

set_option maxHeartbeats 1000000 in
set_option maxRecDepth 10000 in
theorem opnd_at_atom (s : ByteArray) (n : Nat) (hE : ExprAt s n) (R p : Nat) (w : World) (hs : s.size ≤ 16384) (h : Rd w R s p) (hn : (skip (rest s p)).length ≤ n)
    (h40 : (skip (rest s p)).headD 0 ≠ 40) (h45 : (skip (rest s p)).headD 0 ≠ 45) (hd : digB ((skip (rest s p)).headD 0) = false) (hv : undB ((skip (rest s p)).headD 0) = false) (hx : uppB ((skip (rest s p)).headD 0) = false) :
    Calls Tryz.prog 108 #[.pointer (some ⟨R, 0, none⟩)] w (Parsed R s w (opnd (exprP n) (skip (rest s p)))) := by
  have hsm : s.size ≤ maxLen := by unfold maxLen; omega
  have hR := h.lt
  have H := Lib.hid h
  have HN := Lib.hid hn
  have Q := Lib.hid hE
  obtain ⟨r, hr⟩ : ∃ r, r = skip (rest s p) := ⟨_, rfl⟩
  rw [← hr] at h40 h45 hd hv hx ⊢
  have HQ := Lib.hid hr
  have HV := Lib.hid (show opnd (exprP n) r = asFun (atomP (exprP n) r) from opnd_atom h40 (fun h => h.elim h45 (fun e => by rw [hd] at e; cases e)) (fun h => h.elim (fun e => by rw [hv] at e; cases e) (fun e => by rw [hx] at e; cases e)))
  have Kh40 := Lib.hid h40
  have Kh45 := Lib.hid h45
  have Khd := Lib.hid hd
  have Khv := Lib.hid hv
  have Khx := Lib.hid hx
  clear h hn hE hr h40 h45 hd hv hx
  go_enter Tryz.func108, Tryz.ntmps108
  go_wp2_with fail
  refine (next_at s R p _ hsm (H.out.alloc _)).mono ?_
  rintro e w1 ⟨p1, x, hq, hx1, rfl, hk1, hr1⟩
  have HX := Lib.hid (show r.headD 0 = x by rw [HQ.out, ← hq]; exact hx1)
  have HP := Lib.hid (show rest s p1 = r by rw [HQ.out]; exact hq)
  have HK1 := Lib.hid hk1
  have HR1 := Lib.hid hr1
  clear hq hx1 hk1 hr1
  have b1 : ((x.toNat : Int) == 40) = false := byte_ne (b := 40) (by rw [← HX.out]; exact Kh40.out)
  have b2 : ((x.toNat : Int) == 45) = false := byte_ne (b := 45) (by rw [← HX.out]; exact Kh45.out)
  have QD := Lib.hid (fun W => tt_dig_at x W (r := false) (by rw [← HX.out]; exact Khd.out))
  have b3 : ((x.toNat : Int) == 95) = false := by have := Khv.out; rw [HX.out] at this; simp only [undB, decide_eq_false_iff_not] at this; simp; omega
  have QU := Lib.hid (fun W => tt_upp_at x W (r := false) (by rw [← HX.out]; exact Khx.out))
  go_wp2_with (first | (go_at_call 111; refine (QD.out _).mono ?_; rintro e w' ⟨rfl, rfl⟩) | (go_at_call 110; refine (QU.out _).mono ?_; rintro e w' ⟨rfl, rfl⟩))
  refine (tt_atom_at s n Q.out R p1 _ hs HR1.out (by rw [HP.out, HQ.out, skip_skip]; exact HN.out)).mono ?_
  rintro e w2 ⟨W, l, A, c, p2, hk2, hr2, hW, hl, hA, hL, ho⟩
  have hrr : skip (rest s p1) = r := by rw [HP.out, HQ.out, skip_skip]
  rw [hrr] at ho
  have hlo : w.heap.size + 1 ≤ w1.heap.size := by have := HK1.out.size; simpa using this
  have hWm : W.size ≤ maxLen := by unfold maxLen; omega
  have HK2 := Lib.hid (HK1.out.trans hk2)
  have HR2 := Lib.hid hr2
  have HL := Lib.hid (hL.low hlo)
  clear hrr hk2 hr2 hL
  have HF : Hid (∀ X, Below w2.heap.size w2 X → Calls Tryz.prog 107 #[.string W, .slice A l.length c] X (Built X W l)) := by
    intro X hX
    rcases hA with ⟨rfl, rfl, rfl⟩ | ⟨h0, g, rfl⟩
    · exact fun_none W X hWm
    · obtain ⟨b, o, e, hrow⟩ := (HL.out.lst.below hX).2.2 h0
      rw [e]
      exact fun_at W l b o c X h0 hrow (by omega) hWm
  clear hA
  have hend : ∀ (w3 : World) (B : Option Addr) (cc : Nat) (e : Ending) (o2 : Obj), Keeps R (w2.alloc o2) w3 → (∀ X, Agree (w2.alloc o2).heap.size No w3 X → (∀ x ∈ l, x.At X) → (Tm.mk 2 0 W B cc l).At X) → Live (w.heap.size + 1) No w3 (.mk 2 0 W B cc l) := by
    intro w3 B cc e o2 hk3 hb X hX
    have hL3 := (HL.out.alloc o2).keeps hk3 (by omega)
    have hz2 := HK2.out.size
    simp only [World.size_alloc] at hz2
    refine hb X (fun b h1 h2 h3 => hX b (by simp at h1; omega) h2 h3) (fun x hx => (hL3 X hX).mem hx)
  have HEnd := Lib.hid hend
  clear hend
  rcases ho with ⟨ho, rfl⟩ | ⟨k, hk0, ho, hl0, rfl⟩
  · have HO := Lib.hid (show opnd (exprP n) r = .ok (funT W.data.toList (stripL l)) (skip (rest s p2)) by rw [HV.out, ho]; rfl)
    clear ho
    go_wp2_with fail
    refine (HF.out _ ((Below.refl _ _).alloc (Nat.le_refl _) _)).mono ?_
    rintro e w3 ⟨B, cc, rfl, hb, hb3⟩
    have hk3 := (HK2.out.alloc (.cells #[.string W, .slice A l.length c] 34)).trans (Below.keeps hb3 R)
    obtain ⟨c0, c1, c2, c3, f0, f1, f2, f3, hz⟩ := boxK4 hR hk3
    have HU := Lib.hid (HEnd.out w3 B cc (.returned .nilIface) _ (Below.keeps hb3 R) hb)
    have HK3 := Lib.hid hk3
    have HR3 := Lib.hid ((HR2.out.alloc _).below hb3)
    clear hk3 hb hb3
    go_wp2_with fail
    refine bodyPost_ret (v := .tuple #[(Tm.mk 2 0 W B cc l).val, .int .i64 0]) (by simp [results, Tryz.results108, go_sem, c0, c1, c2, c3, Tm.kind, Tm.num, Tm.name, Tm.at_, Tm.args, Tm.cap]) rfl ?_
    exact parsed_put (u := .mk 2 0 W B cc l) hR HK3.out HR3.out HU.out (.inl ⟨_, HO.out, by simp [Tm.strip, funT], rfl⟩) rfl
  · have HO := Lib.hid (show opnd (exprP n) r = .err k by rw [HV.out, ho]; rfl)
    have HC := Lib.hid hk0
    clear ho hk0 hl0
    go_wp2_with fail
    refine (HF.out _ ((Below.refl _ _).alloc (Nat.le_refl _) _)).mono ?_
    rintro e w3 ⟨B, cc, rfl, hb, hb3⟩
    have hk3 := (HK2.out.alloc (.cells #[.string W, .slice A l.length c] 34)).trans (Below.keeps hb3 R)
    obtain ⟨c0, c1, c2, c3, f0, f1, f2, f3, hz⟩ := boxK4 hR hk3
    have HU := Lib.hid (HEnd.out w3 B cc (.returned .nilIface) _ (Below.keeps hb3 R) hb)
    have HK3 := Lib.hid hk3
    have HR3 := Lib.hid ((HR2.out.alloc _).below hb3)
    clear hk3 hb hb3
    go_wp2_with fail
    refine bodyPost_ret (v := .tuple #[(Tm.mk 2 0 W B cc l).val, .int .i64 k]) (by simp [results, Tryz.results108, go_sem, c0, c1, c2, c3, Tm.kind, Tm.num, Tm.name, Tm.at_, Tm.args, Tm.cap]) rfl ?_
    exact parsed_put (u := .mk 2 0 W B cc l) hR HK3.out HR3.out HU.out (.inr ⟨k, HC.out, HO.out, rfl⟩) rfl

theorem opnd_at (s : ByteArray) (n : Nat) (hE : ExprAt s n) (R p : Nat) (w : World) (hs : s.size ≤ 16384) (h : Rd w R s p) (hn : (skip (rest s p)).length ≤ n) :
    Calls Tryz.prog 108 #[.pointer (some ⟨R, 0, none⟩)] w (Parsed R s w (opnd (exprP n) (skip (rest s p)))) := by
  by_cases h40 : (skip (rest s p)).headD 0 = 40
  · exact opnd_at_group s n hE R p w hs h hn h40
  · by_cases h45 : (skip (rest s p)).headD 0 = 45
    · exact opnd_at_minus s n hE R p w hs h hn h45
    · cases hd : digB ((skip (rest s p)).headD 0)
      · cases hv : undB ((skip (rest s p)).headD 0)
        · cases hu : uppB ((skip (rest s p)).headD 0)
          · exact opnd_at_atom s n hE R p w hs h hn h40 h45 hd hv hu
          · exact opnd_at_upp s n hE R p w hs h hn h40 h45 hd hv hu
        · exact opnd_at_und s n hE R p w hs h hn h40 h45 hd hv
      · exact opnd_at_dig s n hE R p w hs h hn h40 h45 hd
end Go.Proofs.YtlpibnbabgfiiaaGreatDoor
