/-
  Contracts of the reader's integer and label.
-/
import Derived.Test.YtlpibnbabgfiiaaGreatDoorTtScan
import Derived.Test.YtlpibnbabgfiiaaGreatDoorTtAtoi
import Derived.Test.YtlpibnbabgfiiaaGreatDoorTmFun
import Derived.Test.YtlpibnbabgfiiaaGreatDoorNmLab
namespace Go.Proofs.YtlpibnbabgfiiaaGreatDoor
open Go.RowKit

/-- How a reading ends: a term and what is left, or an error. -/
def Outc (res : PR Tm) (u : Tm) (r : List UInt8) (e : Ending) : Prop :=
  (∃ t, res = .ok t r ∧ u.strip = t ∧ e = .returned (.tuple #[u.val, .int .i64 0])) ∨ (∃ c : Int, c ≠ 0 ∧ res = .err c ∧ e = .returned (.tuple #[u.val, .int .i64 c]))
/-- A term was read from the text. -/
def Parsed (R : Nat) (s : ByteArray) (w : World) (res : PR Tm) (e : Ending) (w' : World) : Prop :=
  ∃ u p', Live w.heap.size No w' u ∧ Keeps R w w' ∧ Rd w' R s p' ∧ Outc res u (skip (rest s p')) e

theorem boxK4 {R : Nat} {w w' : World} {v0 v1 v2 v3 : Value} {T : TypeId} (hR : R < w.heap.size) (hk : Keeps R (w.alloc (.cells #[v0, v1, v2, v3] T)) w') :
    w'.cell? ⟨w.heap.size, 0, none⟩ = some v0 ∧ w'.cell? ⟨w.heap.size, 1, none⟩ = some v1 ∧ w'.cell? ⟨w.heap.size, 2, none⟩ = some v2 ∧ w'.cell? ⟨w.heap.size, 3, none⟩ = some v3 ∧
    w'.frozen? ⟨w.heap.size, 0, none⟩ = false ∧ w'.frozen? ⟨w.heap.size, 1, none⟩ = false ∧ w'.frozen? ⟨w.heap.size, 2, none⟩ = false ∧ w'.frozen? ⟨w.heap.size, 3, none⟩ = false ∧ w.heap.size < w'.heap.size := by
  obtain ⟨h1, h2, h3⟩ := boxK hR hk
  exact ⟨h1 0 _ rfl, h1 1 _ rfl, h1 2 _ rfl, h1 3 _ rfl, h2 0, h2 1, h2 2, h2 3, h3⟩
/-- The result is stored into the call's first block. -/
theorem parsed_put {R p' : Nat} {s : ByteArray} {w W : World} {o : Obj} {u : Tm} {res : PR Tm} {e : Ending} (hR : R < w.heap.size) (hk : Keeps R (w.alloc o) W) (hr : Rd W R s p') (hl : Live (w.heap.size + 1) No W u) (ho : Outc res u (skip (rest s p')) e)
    {k n : Int} {nm : ByteArray} {A : Option Addr} {l c : Nat} (_hu : u.val = .agg #[.int .i64 k, .int .i64 n, .string nm, .slice A l c]) :
    Parsed R s w res e ((((W.setCell ⟨w.heap.size, 0, none⟩ (.int .i64 k)).setCell ⟨w.heap.size, 1, none⟩ (.int .i64 n)).setCell ⟨w.heap.size, 2, none⟩ (.string nm)).setCell ⟨w.heap.size, 3, none⟩ (.slice A l c)) :=
  ⟨u, p', (hl.put4 (b := w.heap.size) (.inl (by omega))).low (by omega), (((Keeps.refl R w).alloc o).trans hk).put4 (Nat.le_refl _), hr.put4 hR, ho⟩

theorem intT_at (n : Int) (h : Fits n) (W : World) : (intT n).At W := (At_iff _ _).2 ⟨⟨by simp only [intT, Tm.kind]; unfold Fits; omega, h, Nat.zero_le _⟩, Lst.nil W⟩
theorem varT_at (n : Nat) (h : n ≤ 1048576) (W : World) : (varT n).At W := (At_iff _ _).2 ⟨⟨by simp only [varT, Tm.kind]; unfold Fits; omega, by simp only [varT, Tm.num]; unfold Fits; omega, Nat.zero_le _⟩, Lst.nil W⟩
theorem zeroT_at (W : World) : (intT 0).At W := intT_at 0 (by unfold Fits; omega) W

theorem int_neg {r1 : List UInt8} : intP (45 :: r1) = if r1.takeWhile digB = [] ∨ (r1.takeWhile digB).headD 0 = 48 then .err 16 else if 2147483648 < spell (r1.takeWhile digB) then .err 5 else .ok (intT (-(spell (r1.takeWhile digB) : Int))) (skip (r1.dropWhile digB)) := by
  unfold intP
  simp only [List.headD_cons, if_true, List.tail_cons, true_or, and_true]
theorem int_pos {r : List UInt8} (h : r.headD 0 ≠ 45) : intP r = if r.takeWhile digB = [] ∨ ((r.takeWhile digB).headD 0 = 48 ∧ 1 < (r.takeWhile digB).length) then .err 16 else if 2147483648 < spell (r.takeWhile digB) then .err 5 else .ok (intT (spell (r.takeWhile digB) : Int)) (skip (r.dropWhile digB)) := by
  unfold intP
  simp only [h, if_false, false_or]
theorem head_at' {x : ByteArray} (h : 0 < x.size) : x.data.toList.headD 0 = x[0] := by
  have := rest_head (s := x) (p := 0) h
  simpa [rest] using this
theorem take_text {s : ByteArray} {p n : Nat} : (s.extract p (p + n)).data.toList = (rest s p).take n := by
  rw [extract_list, show p + n - p = n by omega]; rfl

set_option maxHeartbeats 1000000 in
set_option maxRecDepth 10000 in
theorem int_neg_empty (s : ByteArray) (R p : Nat) (w : World) (hs : s.size ≤ 16384) (h : Rd w R s p) (hp : p < s.size) (h45 : s[p] = 45) (hD : ((rest s (p + 1)).takeWhile digB) = []) :
    Calls Tryz.prog 123 #[.pointer (some ⟨R, 0, none⟩)] w (Parsed R s w (intP (rest s p))) := by
  have hs' : s.size ≤ 9223372036854775807 := by omega
  have hsm : s.size ≤ maxLen := by unfold maxLen; omega
  have hR := h.lt
  have hb45 : ((s[p].toNat : Int) == 45) = true := by rw [h45]; rfl
  have hcons : rest s p = 45 :: rest s (p + 1) := by rw [rest_cons hp, h45]
  have HV := Lib.hid (show intP (rest s p) = .err 16 from by rw [hcons, int_neg]; rw [if_pos (.inl hD)])
  have HD := Lib.hid hD
  have ht : ∀ o, (w.alloc o).cell? ⟨R, 0, none⟩ = some (.string s) := fun o => (h.alloc o).txt
  have hp0 : ∀ o, (w.alloc o).cell? ⟨R, 1, none⟩ = some (.int .i64 (p : Int)) := fun o => (h.alloc o).pos
  have hf : ∀ o, (w.alloc o).frozen? ⟨R, 1, none⟩ = false := fun o => (h.alloc o).free
  have H := Lib.hid h
  have HC := Lib.hid hcons
  clear hcons
  have hple : (p : Int) < (s.size : Int) := by omega
  clear h h45 hD
  go_enter Tryz.func123, Tryz.ntmps123
  go_wp2_with fail
  go_quiet (fail)
  go_wp2_with fail
  refine (take_dig s R (p + 1) _ hsm (((H.out.alloc _).drewN _).set (q := p + 1) (by omega))).mono ?_
  rintro e w1 ⟨p', x, hx, hr', hp', rfl, hk1, hr1⟩
  have hk : Keeps R (w.alloc (.cells #[.int .i64 0, .int .i64 0, .string ⟨#[]⟩, .slice none 0 0] 24)) w1 := (((Keeps.refl R _).drewN _).set _ _ _).trans hk1
  have t1 := hr1.txt
  have t2 := hr1.pos
  have t3 := hr1.le
  have t4 : (p : Int) ≤ (p' : Int) := by omega
  have t5 : (p' : Int) ≤ (s.size : Int) := by omega
  obtain ⟨S, hS⟩ : ∃ S, s.extract p p' = S := ⟨_, rfl⟩
  have hSl : S.data.toList = 45 :: x.data.toList := by
    rw [← hS, show p' = p + (x.size + 1) by omega, take_text, HC.out, List.take_succ_cons, hx, show x.size = x.data.toList.length from rfl, hx, while_take]
  have HX := Lib.hid hx
  have HR' := Lib.hid hr'
  have HK := Lib.hid hk
  have HR := Lib.hid hr1
  have HS := Lib.hid hSl
  have hxs : x.size ≤ 16384 := by omega
  clear hx hr' hp' hk1 hr1 hk hSl
  obtain rfl : x = ⟨#[]⟩ := WideShapes.bytes_inj (by rw [HX.out, HD.out])
  obtain ⟨c0, c1, c2, c3, f0, f1, f2, f3, hz⟩ := boxK4 hR HK.out
  go_wp2_with fail
  go_quiet (fail)
  go_wp2_with fail
  refine bodyPost_ret (v := .tuple #[.agg #[.int .i64 0, .int .i64 0, .string ⟨#[]⟩, .slice none 0 0], .int .i64 16]) (by simp [results, Tryz.results123, go_sem, c0, c1, c2, c3]) rfl ?_
  exact parsed_put hR (HK.out.drewN _) (HR.out.drewN _) (Live.any zeroT_at) (.inr ⟨16, by omega, HV.out, rfl⟩) rfl

set_option maxHeartbeats 1000000 in
set_option maxRecDepth 10000 in
theorem int_neg_zero (s : ByteArray) (R p : Nat) (w : World) (hs : s.size ≤ 16384) (h : Rd w R s p) (hp : p < s.size) (h45 : s[p] = 45) (hD : ((rest s (p + 1)).takeWhile digB) ≠ []) (hz : ((rest s (p + 1)).takeWhile digB).headD 0 = 48) :
    Calls Tryz.prog 123 #[.pointer (some ⟨R, 0, none⟩)] w (Parsed R s w (intP (rest s p))) := by
  have hs' : s.size ≤ 9223372036854775807 := by omega
  have hsm : s.size ≤ maxLen := by unfold maxLen; omega
  have hR := h.lt
  have hb45 : ((s[p].toNat : Int) == 45) = true := by rw [h45]; rfl
  have hcons : rest s p = 45 :: rest s (p + 1) := by rw [rest_cons hp, h45]
  have HV := Lib.hid (show intP (rest s p) = .err 16 from by rw [hcons, int_neg]; rw [if_pos (.inr hz)])
  have HD := Lib.hid hD
  have HZ := Lib.hid hz
  have ht : ∀ o, (w.alloc o).cell? ⟨R, 0, none⟩ = some (.string s) := fun o => (h.alloc o).txt
  have hp0 : ∀ o, (w.alloc o).cell? ⟨R, 1, none⟩ = some (.int .i64 (p : Int)) := fun o => (h.alloc o).pos
  have hf : ∀ o, (w.alloc o).frozen? ⟨R, 1, none⟩ = false := fun o => (h.alloc o).free
  have H := Lib.hid h
  have HC := Lib.hid hcons
  clear hcons
  have hple : (p : Int) < (s.size : Int) := by omega
  clear h h45 hD hz
  go_enter Tryz.func123, Tryz.ntmps123
  go_wp2_with fail
  go_quiet (fail)
  go_wp2_with fail
  refine (take_dig s R (p + 1) _ hsm (((H.out.alloc _).drewN _).set (q := p + 1) (by omega))).mono ?_
  rintro e w1 ⟨p', x, hx, hr', hp', rfl, hk1, hr1⟩
  have hk : Keeps R (w.alloc (.cells #[.int .i64 0, .int .i64 0, .string ⟨#[]⟩, .slice none 0 0] 24)) w1 := (((Keeps.refl R _).drewN _).set _ _ _).trans hk1
  have t1 := hr1.txt
  have t2 := hr1.pos
  have t3 := hr1.le
  have t4 : (p : Int) ≤ (p' : Int) := by omega
  have t5 : (p' : Int) ≤ (s.size : Int) := by omega
  obtain ⟨S, hS⟩ : ∃ S, s.extract p p' = S := ⟨_, rfl⟩
  have hSl : S.data.toList = 45 :: x.data.toList := by
    rw [← hS, show p' = p + (x.size + 1) by omega, take_text, HC.out, List.take_succ_cons, hx, show x.size = x.data.toList.length from rfl, hx, while_take]
  have HX := Lib.hid hx
  have HR' := Lib.hid hr'
  have HK := Lib.hid hk
  have HR := Lib.hid hr1
  have HS := Lib.hid hSl
  have hxs : x.size ≤ 16384 := by omega
  clear hx hr' hp' hk1 hr1 hk hSl
  have hx0 : 0 < x.size := by
    have e : x.data.toList ≠ [] := by rw [HX.out]; exact HD.out
    rcases Nat.eq_zero_or_pos x.size with h | h
    · exact absurd (List.length_eq_zero_iff.1 h) e
    · exact h
  have hxe : x.toList.isEmpty = false := str_full (by rw [HX.out]; exact HD.out)
  have hx1 : x[0] = x.data.toList.headD 0 := (head_at' hx0).symm
  have hx2 : ((x[0].toNat : Int) == 48) = true := by rw [hx1, HX.out, HZ.out]; rfl
  clear hx1
  have hS1 : (S.toList == [48]) = false := raw_ne (by rw [HS.out]; simp)
  have hS2 : (S.toList != [48]) = true := by simp [bne, hS1]
  have hSz : S.size ≤ 1000000000000 := by
    have e : S.size = S.data.toList.length := rfl
    have e2 : x.data.toList.length = x.size := rfl
    rw [e, HS.out]
    simp only [List.length_cons, e2]
    omega
  obtain ⟨c0, c1, c2, c3, f0, f1, f2, f3, hz⟩ := boxK4 hR HK.out
  go_wp2_with fail
  go_quiet (fail)
  go_wp2_with fail
  refine bodyPost_ret (v := .tuple #[.agg #[.int .i64 0, .int .i64 0, .string ⟨#[]⟩, .slice none 0 0], .int .i64 16]) (by simp [results, Tryz.results123, go_sem, c0, c1, c2, c3]) rfl ?_
  exact parsed_put hR (HK.out.drewN _) (HR.out.drewN _) (Live.any zeroT_at) (.inr ⟨16, by omega, HV.out, rfl⟩) rfl

set_option maxHeartbeats 1000000 in
set_option maxRecDepth 10000 in
theorem int_neg_small (s : ByteArray) (R p : Nat) (w : World) (hs : s.size ≤ 16384) (h : Rd w R s p) (hp : p < s.size) (h45 : s[p] = 45) (hD : ((rest s (p + 1)).takeWhile digB) ≠ []) (hz : ((rest s (p + 1)).takeWhile digB).headD 0 ≠ 48) (hv : spell ((rest s (p + 1)).takeWhile digB) ≤ 2147483648) :
    Calls Tryz.prog 123 #[.pointer (some ⟨R, 0, none⟩)] w (Parsed R s w (intP (rest s p))) := by
  have hs' : s.size ≤ 9223372036854775807 := by omega
  have hsm : s.size ≤ maxLen := by unfold maxLen; omega
  have hR := h.lt
  have hb45 : ((s[p].toNat : Int) == 45) = true := by rw [h45]; rfl
  have hcons : rest s p = 45 :: rest s (p + 1) := by rw [rest_cons hp, h45]
  have HV := Lib.hid (show intP (rest s p) = .ok (intT (-(spell ((rest s (p + 1)).takeWhile digB) : Int))) (skip (((rest s (p + 1)).dropWhile digB))) from by rw [hcons, int_neg]; rw [if_neg (fun h => h.elim hD (fun e => hz e)), if_neg (by omega)])
  have HD := Lib.hid hD
  have HZ := Lib.hid hz
  have HW := Lib.hid hv
  have ht : ∀ o, (w.alloc o).cell? ⟨R, 0, none⟩ = some (.string s) := fun o => (h.alloc o).txt
  have hp0 : ∀ o, (w.alloc o).cell? ⟨R, 1, none⟩ = some (.int .i64 (p : Int)) := fun o => (h.alloc o).pos
  have hf : ∀ o, (w.alloc o).frozen? ⟨R, 1, none⟩ = false := fun o => (h.alloc o).free
  have H := Lib.hid h
  have HC := Lib.hid hcons
  clear hcons
  have hple : (p : Int) < (s.size : Int) := by omega
  clear h h45 hD hz hv
  go_enter Tryz.func123, Tryz.ntmps123
  go_wp2_with fail
  go_quiet (fail)
  go_wp2_with fail
  refine (take_dig s R (p + 1) _ hsm (((H.out.alloc _).drewN _).set (q := p + 1) (by omega))).mono ?_
  rintro e w1 ⟨p', x, hx, hr', hp', rfl, hk1, hr1⟩
  have hk : Keeps R (w.alloc (.cells #[.int .i64 0, .int .i64 0, .string ⟨#[]⟩, .slice none 0 0] 24)) w1 := (((Keeps.refl R _).drewN _).set _ _ _).trans hk1
  have t1 := hr1.txt
  have t2 := hr1.pos
  have t3 := hr1.le
  have t4 : (p : Int) ≤ (p' : Int) := by omega
  have t5 : (p' : Int) ≤ (s.size : Int) := by omega
  obtain ⟨S, hS⟩ : ∃ S, s.extract p p' = S := ⟨_, rfl⟩
  have hSl : S.data.toList = 45 :: x.data.toList := by
    rw [← hS, show p' = p + (x.size + 1) by omega, take_text, HC.out, List.take_succ_cons, hx, show x.size = x.data.toList.length from rfl, hx, while_take]
  have HX := Lib.hid hx
  have HR' := Lib.hid hr'
  have HK := Lib.hid hk
  have HR := Lib.hid hr1
  have HS := Lib.hid hSl
  have hxs : x.size ≤ 16384 := by omega
  clear hx hr' hp' hk1 hr1 hk hSl
  have hx0 : 0 < x.size := by
    have e : x.data.toList ≠ [] := by rw [HX.out]; exact HD.out
    rcases Nat.eq_zero_or_pos x.size with h | h
    · exact absurd (List.length_eq_zero_iff.1 h) e
    · exact h
  have hxe : x.toList.isEmpty = false := str_full (by rw [HX.out]; exact HD.out)
  have hx1 : x[0] = x.data.toList.headD 0 := (head_at' hx0).symm
  have hx2 : ((x[0].toNat : Int) == 48) = false := byte_ne (b := 48) (by rw [hx1, HX.out]; exact HZ.out)
  clear hx1
  obtain ⟨v, hv⟩ : ∃ v : Int, v = -(spell ((rest s (p + 1)).takeWhile digB) : Int) := ⟨_, rfl⟩
  have HAt := Lib.hid (show Lib.atoiAll S.data.toList = .ok v by
    rw [HS.out, HX.out, hv]
    rcases atoi_minus HD.out (while_all _ _) with ⟨_, h⟩ | ⟨h, _⟩
    · exact h
    · exact absurd HW.out (by omega))
  have HVv := Lib.hid hv
  have hw := HW.out
  have n1 : decide (v < -2147483648) = false := by simp; omega
  have n2 : decide (2147483648 < v) = false := by simp; omega
  have HF := Lib.hid (show Fits v by unfold Fits; omega)
  clear hv hw
  have hSz : S.size ≤ 1000000000000 := by
    have e : S.size = S.data.toList.length := rfl
    have e2 : x.data.toList.length = x.size := rfl
    rw [e, HS.out]
    simp only [List.length_cons, e2]
    omega
  obtain ⟨c0, c1, c2, c3, f0, f1, f2, f3, hz⟩ := boxK4 hR HK.out
  go_wp2_with fail
  go_quiet (fail)
  go_wp2_with fail
  refine (atoi_ok S v _ hSz HAt.out).mono ?_
  rintro e w2 ⟨rfl, hb2⟩
  have HK2 := Lib.hid ((HK.out.drewN _).trans (Below.keeps hb2 R))
  have HR2 := Lib.hid ((HR.out.drewN _).below hb2)
  clear c0 c1 c2 c3 f0 f1 f2 f3 hz hb2 t1 t2
  go_wp2_with fail
  refine (int_tm_at _ _).mono ?_
  rintro e w3 ⟨rfl, hb3⟩
  have HK3 := Lib.hid (HK2.out.trans (Below.keeps hb3 R))
  have HR3 := Lib.hid (HR2.out.below hb3)
  clear hb3
  obtain ⟨c0, c1, c2, c3, f0, f1, f2, f3, hz⟩ := boxK4 hR HK3.out
  go_wp2_with fail
  refine bodyPost_ret (v := .tuple #[.agg #[.int .i64 0, .int .i64 v, .string ⟨#[]⟩, .slice none 0 0], .int .i64 0]) (by simp [results, Tryz.results123, go_sem, c0, c1, c2, c3]) rfl ?_
  refine parsed_put (u := intT v) hR HK3.out HR3.out (Live.any (intT_at v HF.out)) (.inl ⟨intT v, ?_, rfl, rfl⟩) rfl
  rw [HV.out, HR'.out, ← HVv.out]

set_option maxHeartbeats 1000000 in
set_option maxRecDepth 10000 in
theorem int_neg_great (s : ByteArray) (R p : Nat) (w : World) (hs : s.size ≤ 16384) (h : Rd w R s p) (hp : p < s.size) (h45 : s[p] = 45) (hD : ((rest s (p + 1)).takeWhile digB) ≠ []) (hz : ((rest s (p + 1)).takeWhile digB).headD 0 ≠ 48) (hv : 2147483648 < spell ((rest s (p + 1)).takeWhile digB)) (v : Int) (ha : Lib.atoiAll (45 :: ((rest s (p + 1)).takeWhile digB)) = .ok v) (hb : v < -2147483648) :
    Calls Tryz.prog 123 #[.pointer (some ⟨R, 0, none⟩)] w (Parsed R s w (intP (rest s p))) := by
  have hs' : s.size ≤ 9223372036854775807 := by omega
  have hsm : s.size ≤ maxLen := by unfold maxLen; omega
  have hR := h.lt
  have hb45 : ((s[p].toNat : Int) == 45) = true := by rw [h45]; rfl
  have hcons : rest s p = 45 :: rest s (p + 1) := by rw [rest_cons hp, h45]
  have HV := Lib.hid (show intP (rest s p) = .err 5 from by rw [hcons, int_neg]; rw [if_neg (fun h => h.elim hD (fun e => hz e)), if_pos hv])
  have HD := Lib.hid hD
  have HZ := Lib.hid hz
  have HW := Lib.hid hv
  have HA := Lib.hid ha
  have HB := Lib.hid hb
  have ht : ∀ o, (w.alloc o).cell? ⟨R, 0, none⟩ = some (.string s) := fun o => (h.alloc o).txt
  have hp0 : ∀ o, (w.alloc o).cell? ⟨R, 1, none⟩ = some (.int .i64 (p : Int)) := fun o => (h.alloc o).pos
  have hf : ∀ o, (w.alloc o).frozen? ⟨R, 1, none⟩ = false := fun o => (h.alloc o).free
  have H := Lib.hid h
  have HC := Lib.hid hcons
  clear hcons
  have hple : (p : Int) < (s.size : Int) := by omega
  clear h h45 hD hz hv ha hb
  go_enter Tryz.func123, Tryz.ntmps123
  go_wp2_with fail
  go_quiet (fail)
  go_wp2_with fail
  refine (take_dig s R (p + 1) _ hsm (((H.out.alloc _).drewN _).set (q := p + 1) (by omega))).mono ?_
  rintro e w1 ⟨p', x, hx, hr', hp', rfl, hk1, hr1⟩
  have hk : Keeps R (w.alloc (.cells #[.int .i64 0, .int .i64 0, .string ⟨#[]⟩, .slice none 0 0] 24)) w1 := (((Keeps.refl R _).drewN _).set _ _ _).trans hk1
  have t1 := hr1.txt
  have t2 := hr1.pos
  have t3 := hr1.le
  have t4 : (p : Int) ≤ (p' : Int) := by omega
  have t5 : (p' : Int) ≤ (s.size : Int) := by omega
  obtain ⟨S, hS⟩ : ∃ S, s.extract p p' = S := ⟨_, rfl⟩
  have hSl : S.data.toList = 45 :: x.data.toList := by
    rw [← hS, show p' = p + (x.size + 1) by omega, take_text, HC.out, List.take_succ_cons, hx, show x.size = x.data.toList.length from rfl, hx, while_take]
  have HX := Lib.hid hx
  have HR' := Lib.hid hr'
  have HK := Lib.hid hk
  have HR := Lib.hid hr1
  have HS := Lib.hid hSl
  have hxs : x.size ≤ 16384 := by omega
  clear hx hr' hp' hk1 hr1 hk hSl
  have hx0 : 0 < x.size := by
    have e : x.data.toList ≠ [] := by rw [HX.out]; exact HD.out
    rcases Nat.eq_zero_or_pos x.size with h | h
    · exact absurd (List.length_eq_zero_iff.1 h) e
    · exact h
  have hxe : x.toList.isEmpty = false := str_full (by rw [HX.out]; exact HD.out)
  have hx1 : x[0] = x.data.toList.headD 0 := (head_at' hx0).symm
  have hx2 : ((x[0].toNat : Int) == 48) = false := byte_ne (b := 48) (by rw [hx1, HX.out]; exact HZ.out)
  clear hx1
  have HAt := Lib.hid (show Lib.atoiAll S.data.toList = .ok v by rw [HS.out, HX.out]; exact HA.out)
  have hbb := HB.out
  have n1 : decide (v < -2147483648) = true := by simpa using hbb
  clear hbb
  have hSz : S.size ≤ 1000000000000 := by
    have e : S.size = S.data.toList.length := rfl
    have e2 : x.data.toList.length = x.size := rfl
    rw [e, HS.out]
    simp only [List.length_cons, e2]
    omega
  obtain ⟨c0, c1, c2, c3, f0, f1, f2, f3, hz⟩ := boxK4 hR HK.out
  go_wp2_with fail
  go_quiet (fail)
  go_wp2_with fail
  refine (atoi_ok S v _ hSz HAt.out).mono ?_
  rintro e w2 ⟨rfl, hb2⟩
  have HK2 := Lib.hid ((HK.out.drewN _).trans (Below.keeps hb2 R))
  have HR2 := Lib.hid ((HR.out.drewN _).below hb2)
  clear c0 c1 c2 c3 f0 f1 f2 f3 hz hb2 t1 t2
  obtain ⟨c0, c1, c2, c3, f0, f1, f2, f3, hz⟩ := boxK4 hR HK2.out
  go_wp2_with fail
  refine bodyPost_ret (v := .tuple #[.agg #[.int .i64 0, .int .i64 0, .string ⟨#[]⟩, .slice none 0 0], .int .i64 5]) (by simp [results, Tryz.results123, go_sem, c0, c1, c2, c3]) rfl ?_
  exact parsed_put hR HK2.out HR2.out (Live.any zeroT_at) (.inr ⟨5, by omega, HV.out, rfl⟩) rfl

set_option maxHeartbeats 1000000 in
set_option maxRecDepth 10000 in
theorem int_neg_fails (s : ByteArray) (R p : Nat) (w : World) (hs : s.size ≤ 16384) (h : Rd w R s p) (hp : p < s.size) (h45 : s[p] = 45) (hD : ((rest s (p + 1)).takeWhile digB) ≠ []) (hz : ((rest s (p + 1)).takeWhile digB).headD 0 ≠ 48) (hv : 2147483648 < spell ((rest s (p + 1)).takeWhile digB)) (ha : ∀ v, Lib.atoiAll (45 :: ((rest s (p + 1)).takeWhile digB)) ≠ .ok v) :
    Calls Tryz.prog 123 #[.pointer (some ⟨R, 0, none⟩)] w (Parsed R s w (intP (rest s p))) := by
  have hs' : s.size ≤ 9223372036854775807 := by omega
  have hsm : s.size ≤ maxLen := by unfold maxLen; omega
  have hR := h.lt
  have hb45 : ((s[p].toNat : Int) == 45) = true := by rw [h45]; rfl
  have hcons : rest s p = 45 :: rest s (p + 1) := by rw [rest_cons hp, h45]
  have HV := Lib.hid (show intP (rest s p) = .err 5 from by rw [hcons, int_neg]; rw [if_neg (fun h => h.elim hD (fun e => hz e)), if_pos hv])
  have HD := Lib.hid hD
  have HZ := Lib.hid hz
  have HW := Lib.hid hv
  have HA := Lib.hid ha
  have ht : ∀ o, (w.alloc o).cell? ⟨R, 0, none⟩ = some (.string s) := fun o => (h.alloc o).txt
  have hp0 : ∀ o, (w.alloc o).cell? ⟨R, 1, none⟩ = some (.int .i64 (p : Int)) := fun o => (h.alloc o).pos
  have hf : ∀ o, (w.alloc o).frozen? ⟨R, 1, none⟩ = false := fun o => (h.alloc o).free
  have H := Lib.hid h
  have HC := Lib.hid hcons
  clear hcons
  have hple : (p : Int) < (s.size : Int) := by omega
  clear h h45 hD hz hv ha
  go_enter Tryz.func123, Tryz.ntmps123
  go_wp2_with fail
  go_quiet (fail)
  go_wp2_with fail
  refine (take_dig s R (p + 1) _ hsm (((H.out.alloc _).drewN _).set (q := p + 1) (by omega))).mono ?_
  rintro e w1 ⟨p', x, hx, hr', hp', rfl, hk1, hr1⟩
  have hk : Keeps R (w.alloc (.cells #[.int .i64 0, .int .i64 0, .string ⟨#[]⟩, .slice none 0 0] 24)) w1 := (((Keeps.refl R _).drewN _).set _ _ _).trans hk1
  have t1 := hr1.txt
  have t2 := hr1.pos
  have t3 := hr1.le
  have t4 : (p : Int) ≤ (p' : Int) := by omega
  have t5 : (p' : Int) ≤ (s.size : Int) := by omega
  obtain ⟨S, hS⟩ : ∃ S, s.extract p p' = S := ⟨_, rfl⟩
  have hSl : S.data.toList = 45 :: x.data.toList := by
    rw [← hS, show p' = p + (x.size + 1) by omega, take_text, HC.out, List.take_succ_cons, hx, show x.size = x.data.toList.length from rfl, hx, while_take]
  have HX := Lib.hid hx
  have HR' := Lib.hid hr'
  have HK := Lib.hid hk
  have HR := Lib.hid hr1
  have HS := Lib.hid hSl
  have hxs : x.size ≤ 16384 := by omega
  clear hx hr' hp' hk1 hr1 hk hSl
  have hx0 : 0 < x.size := by
    have e : x.data.toList ≠ [] := by rw [HX.out]; exact HD.out
    rcases Nat.eq_zero_or_pos x.size with h | h
    · exact absurd (List.length_eq_zero_iff.1 h) e
    · exact h
  have hxe : x.toList.isEmpty = false := str_full (by rw [HX.out]; exact HD.out)
  have hx1 : x[0] = x.data.toList.headD 0 := (head_at' hx0).symm
  have hx2 : ((x[0].toNat : Int) == 48) = false := byte_ne (b := 48) (by rw [hx1, HX.out]; exact HZ.out)
  clear hx1
  have HAt := Lib.hid (show ∀ v, Lib.atoiAll S.data.toList ≠ .ok v by rw [HS.out, HX.out]; exact HA.out)
  have hSz : S.size ≤ 1000000000000 := by
    have e : S.size = S.data.toList.length := rfl
    have e2 : x.data.toList.length = x.size := rfl
    rw [e, HS.out]
    simp only [List.length_cons, e2]
    omega
  obtain ⟨c0, c1, c2, c3, f0, f1, f2, f3, hz⟩ := boxK4 hR HK.out
  go_wp2_with fail
  go_quiet (fail)
  go_wp2_with fail
  refine (atoi_fails S _ hSz (HR.out.drewN _).laid.laid HAt.out).mono ?_
  rintro e w2 ⟨n2, pv, rfl, hb2⟩
  have HK2 := Lib.hid ((HK.out.drewN _).trans (Below.keeps hb2 R))
  have HR2 := Lib.hid ((HR.out.drewN _).below hb2)
  clear c0 c1 c2 c3 f0 f1 f2 f3 hz hb2 t1 t2
  obtain ⟨c0, c1, c2, c3, f0, f1, f2, f3, hz⟩ := boxK4 hR HK2.out
  go_wp2_with fail
  refine bodyPost_ret (v := .tuple #[.agg #[.int .i64 0, .int .i64 0, .string ⟨#[]⟩, .slice none 0 0], .int .i64 5]) (by simp [results, Tryz.results123, go_sem, c0, c1, c2, c3]) rfl ?_
  exact parsed_put hR HK2.out HR2.out (Live.any zeroT_at) (.inr ⟨5, by omega, HV.out, rfl⟩) rfl

set_option maxHeartbeats 1000000 in
set_option maxRecDepth 10000 in
theorem int_pos_empty (s : ByteArray) (R p : Nat) (w : World) (hs : s.size ≤ 16384) (h : Rd w R s p) (hp : p < s.size) (h45 : s[p] ≠ 45) (hD : ((rest s p).takeWhile digB) = []) :
    Calls Tryz.prog 123 #[.pointer (some ⟨R, 0, none⟩)] w (Parsed R s w (intP (rest s p))) := by
  have hs' : s.size ≤ 9223372036854775807 := by omega
  have hsm : s.size ≤ maxLen := by unfold maxLen; omega
  have hR := h.lt
  have hb45 : ((s[p].toNat : Int) == 45) = false := by
    have : s[p].toNat ≠ 45 := fun e => h45 (UInt8.toNat_inj.1 e)
    simp; omega
  have hhead : (rest s p).headD 0 ≠ 45 := by rw [rest_head hp]; exact h45
  have HV := Lib.hid (show intP (rest s p) = .err 16 from by rw [int_pos hhead]; rw [if_pos (.inl hD)])
  have HD := Lib.hid hD
  have ht : ∀ o, (w.alloc o).cell? ⟨R, 0, none⟩ = some (.string s) := fun o => (h.alloc o).txt
  have hp0 : ∀ o, (w.alloc o).cell? ⟨R, 1, none⟩ = some (.int .i64 (p : Int)) := fun o => (h.alloc o).pos
  have hf : ∀ o, (w.alloc o).frozen? ⟨R, 1, none⟩ = false := fun o => (h.alloc o).free
  have H := Lib.hid h
  clear hhead
  have hple : (p : Int) < (s.size : Int) := by omega
  clear h h45 hD
  go_enter Tryz.func123, Tryz.ntmps123
  go_wp2_with fail
  go_quiet (fail)
  go_wp2_with fail
  refine (take_dig s R p _ hsm ((H.out.alloc _).drewN _)).mono ?_
  rintro e w1 ⟨p', x, hx, hr', hp', rfl, hk1, hr1⟩
  have hk : Keeps R (w.alloc (.cells #[.int .i64 0, .int .i64 0, .string ⟨#[]⟩, .slice none 0 0] 24)) w1 := ((Keeps.refl R _).drewN _).trans hk1
  have t1 := hr1.txt
  have t2 := hr1.pos
  have t3 := hr1.le
  have t4 : (p : Int) ≤ (p' : Int) := by omega
  have t5 : (p' : Int) ≤ (s.size : Int) := by omega
  obtain ⟨S, hS⟩ : ∃ S, s.extract p p' = S := ⟨_, rfl⟩
  have hSl : S.data.toList = x.data.toList := by
    rw [← hS, show p' = p + x.size by omega, take_text, hx, show x.size = x.data.toList.length from rfl, hx, while_take]
  have HX := Lib.hid hx
  have HR' := Lib.hid hr'
  have HK := Lib.hid hk
  have HR := Lib.hid hr1
  have HS := Lib.hid hSl
  have hxs : x.size ≤ 16384 := by omega
  clear hx hr' hp' hk1 hr1 hk hSl
  obtain rfl : x = ⟨#[]⟩ := WideShapes.bytes_inj (by rw [HX.out, HD.out])
  obtain ⟨c0, c1, c2, c3, f0, f1, f2, f3, hz⟩ := boxK4 hR HK.out
  go_wp2_with fail
  go_quiet (fail)
  go_wp2_with fail
  refine bodyPost_ret (v := .tuple #[.agg #[.int .i64 0, .int .i64 0, .string ⟨#[]⟩, .slice none 0 0], .int .i64 16]) (by simp [results, Tryz.results123, go_sem, c0, c1, c2, c3]) rfl ?_
  exact parsed_put hR (HK.out.drewN _) (HR.out.drewN _) (Live.any zeroT_at) (.inr ⟨16, by omega, HV.out, rfl⟩) rfl

set_option maxHeartbeats 1000000 in
set_option maxRecDepth 10000 in
theorem int_pos_zero (s : ByteArray) (R p : Nat) (w : World) (hs : s.size ≤ 16384) (h : Rd w R s p) (hp : p < s.size) (h45 : s[p] ≠ 45) (hD : ((rest s p).takeWhile digB) ≠ []) (hz : ((rest s p).takeWhile digB).headD 0 = 48) (hl : 1 < ((rest s p).takeWhile digB).length) :
    Calls Tryz.prog 123 #[.pointer (some ⟨R, 0, none⟩)] w (Parsed R s w (intP (rest s p))) := by
  have hs' : s.size ≤ 9223372036854775807 := by omega
  have hsm : s.size ≤ maxLen := by unfold maxLen; omega
  have hR := h.lt
  have hb45 : ((s[p].toNat : Int) == 45) = false := by
    have : s[p].toNat ≠ 45 := fun e => h45 (UInt8.toNat_inj.1 e)
    simp; omega
  have hhead : (rest s p).headD 0 ≠ 45 := by rw [rest_head hp]; exact h45
  have HV := Lib.hid (show intP (rest s p) = .err 16 from by rw [int_pos hhead]; rw [if_pos (.inr ⟨hz, hl⟩)])
  have HD := Lib.hid hD
  have HZ := Lib.hid hz
  have HL := Lib.hid hl
  have ht : ∀ o, (w.alloc o).cell? ⟨R, 0, none⟩ = some (.string s) := fun o => (h.alloc o).txt
  have hp0 : ∀ o, (w.alloc o).cell? ⟨R, 1, none⟩ = some (.int .i64 (p : Int)) := fun o => (h.alloc o).pos
  have hf : ∀ o, (w.alloc o).frozen? ⟨R, 1, none⟩ = false := fun o => (h.alloc o).free
  have H := Lib.hid h
  clear hhead
  have hple : (p : Int) < (s.size : Int) := by omega
  clear h h45 hD hz hl
  go_enter Tryz.func123, Tryz.ntmps123
  go_wp2_with fail
  go_quiet (fail)
  go_wp2_with fail
  refine (take_dig s R p _ hsm ((H.out.alloc _).drewN _)).mono ?_
  rintro e w1 ⟨p', x, hx, hr', hp', rfl, hk1, hr1⟩
  have hk : Keeps R (w.alloc (.cells #[.int .i64 0, .int .i64 0, .string ⟨#[]⟩, .slice none 0 0] 24)) w1 := ((Keeps.refl R _).drewN _).trans hk1
  have t1 := hr1.txt
  have t2 := hr1.pos
  have t3 := hr1.le
  have t4 : (p : Int) ≤ (p' : Int) := by omega
  have t5 : (p' : Int) ≤ (s.size : Int) := by omega
  obtain ⟨S, hS⟩ : ∃ S, s.extract p p' = S := ⟨_, rfl⟩
  have hSl : S.data.toList = x.data.toList := by
    rw [← hS, show p' = p + x.size by omega, take_text, hx, show x.size = x.data.toList.length from rfl, hx, while_take]
  have HX := Lib.hid hx
  have HR' := Lib.hid hr'
  have HK := Lib.hid hk
  have HR := Lib.hid hr1
  have HS := Lib.hid hSl
  have hxs : x.size ≤ 16384 := by omega
  clear hx hr' hp' hk1 hr1 hk hSl
  have hx0 : 0 < x.size := by
    have e : x.data.toList ≠ [] := by rw [HX.out]; exact HD.out
    rcases Nat.eq_zero_or_pos x.size with h | h
    · exact absurd (List.length_eq_zero_iff.1 h) e
    · exact h
  have hxe : x.toList.isEmpty = false := str_full (by rw [HX.out]; exact HD.out)
  have hx1 : x[0] = x.data.toList.headD 0 := (head_at' hx0).symm
  have hx2 : ((x[0].toNat : Int) == 48) = true := by rw [hx1, HX.out, HZ.out]; rfl
  clear hx1
  have hS1 : (S.toList == [48]) = false := raw_ne (by rw [HS.out]; intro e; have hl := HL.out; rw [← HX.out, e] at hl; simp at hl)
  have hS2 : (S.toList != [48]) = true := by simp [bne, hS1]
  have hSz : S.size ≤ 1000000000000 := by
    have e : S.size = S.data.toList.length := rfl
    have e2 : x.data.toList.length = x.size := rfl
    rw [e, HS.out, e2]
    omega
  obtain ⟨c0, c1, c2, c3, f0, f1, f2, f3, hz⟩ := boxK4 hR HK.out
  go_wp2_with fail
  go_quiet (fail)
  go_wp2_with fail
  refine bodyPost_ret (v := .tuple #[.agg #[.int .i64 0, .int .i64 0, .string ⟨#[]⟩, .slice none 0 0], .int .i64 16]) (by simp [results, Tryz.results123, go_sem, c0, c1, c2, c3]) rfl ?_
  exact parsed_put hR (HK.out.drewN _) (HR.out.drewN _) (Live.any zeroT_at) (.inr ⟨16, by omega, HV.out, rfl⟩) rfl

set_option maxHeartbeats 1000000 in
set_option maxRecDepth 10000 in
theorem int_pos_small (s : ByteArray) (R p : Nat) (w : World) (hs : s.size ≤ 16384) (h : Rd w R s p) (hp : p < s.size) (h45 : s[p] ≠ 45) (hD : ((rest s p).takeWhile digB) ≠ []) (hz : ((rest s p).takeWhile digB).headD 0 ≠ 48) (hv : spell ((rest s p).takeWhile digB) ≤ 2147483648) :
    Calls Tryz.prog 123 #[.pointer (some ⟨R, 0, none⟩)] w (Parsed R s w (intP (rest s p))) := by
  have hs' : s.size ≤ 9223372036854775807 := by omega
  have hsm : s.size ≤ maxLen := by unfold maxLen; omega
  have hR := h.lt
  have hb45 : ((s[p].toNat : Int) == 45) = false := by
    have : s[p].toNat ≠ 45 := fun e => h45 (UInt8.toNat_inj.1 e)
    simp; omega
  have hhead : (rest s p).headD 0 ≠ 45 := by rw [rest_head hp]; exact h45
  have HV := Lib.hid (show intP (rest s p) = .ok (intT ((spell ((rest s p).takeWhile digB) : Int))) (skip (((rest s p).dropWhile digB))) from by rw [int_pos hhead]; rw [if_neg (fun h => h.elim hD (fun e => hz e.1)), if_neg (by omega)])
  have HD := Lib.hid hD
  have HZ := Lib.hid hz
  have HW := Lib.hid hv
  have ht : ∀ o, (w.alloc o).cell? ⟨R, 0, none⟩ = some (.string s) := fun o => (h.alloc o).txt
  have hp0 : ∀ o, (w.alloc o).cell? ⟨R, 1, none⟩ = some (.int .i64 (p : Int)) := fun o => (h.alloc o).pos
  have hf : ∀ o, (w.alloc o).frozen? ⟨R, 1, none⟩ = false := fun o => (h.alloc o).free
  have H := Lib.hid h
  clear hhead
  have hple : (p : Int) < (s.size : Int) := by omega
  clear h h45 hD hz hv
  go_enter Tryz.func123, Tryz.ntmps123
  go_wp2_with fail
  go_quiet (fail)
  go_wp2_with fail
  refine (take_dig s R p _ hsm ((H.out.alloc _).drewN _)).mono ?_
  rintro e w1 ⟨p', x, hx, hr', hp', rfl, hk1, hr1⟩
  have hk : Keeps R (w.alloc (.cells #[.int .i64 0, .int .i64 0, .string ⟨#[]⟩, .slice none 0 0] 24)) w1 := ((Keeps.refl R _).drewN _).trans hk1
  have t1 := hr1.txt
  have t2 := hr1.pos
  have t3 := hr1.le
  have t4 : (p : Int) ≤ (p' : Int) := by omega
  have t5 : (p' : Int) ≤ (s.size : Int) := by omega
  obtain ⟨S, hS⟩ : ∃ S, s.extract p p' = S := ⟨_, rfl⟩
  have hSl : S.data.toList = x.data.toList := by
    rw [← hS, show p' = p + x.size by omega, take_text, hx, show x.size = x.data.toList.length from rfl, hx, while_take]
  have HX := Lib.hid hx
  have HR' := Lib.hid hr'
  have HK := Lib.hid hk
  have HR := Lib.hid hr1
  have HS := Lib.hid hSl
  have hxs : x.size ≤ 16384 := by omega
  clear hx hr' hp' hk1 hr1 hk hSl
  have hx0 : 0 < x.size := by
    have e : x.data.toList ≠ [] := by rw [HX.out]; exact HD.out
    rcases Nat.eq_zero_or_pos x.size with h | h
    · exact absurd (List.length_eq_zero_iff.1 h) e
    · exact h
  have hxe : x.toList.isEmpty = false := str_full (by rw [HX.out]; exact HD.out)
  have hx1 : x[0] = x.data.toList.headD 0 := (head_at' hx0).symm
  have hx2 : ((x[0].toNat : Int) == 48) = false := byte_ne (b := 48) (by rw [hx1, HX.out]; exact HZ.out)
  clear hx1
  obtain ⟨v, hv⟩ : ∃ v : Int, v = (spell ((rest s p).takeWhile digB) : Int) := ⟨_, rfl⟩
  have HAt := Lib.hid (show Lib.atoiAll S.data.toList = .ok v by
    rw [HS.out, HX.out, hv]
    rcases atoi_plain HD.out (while_all _ _) with ⟨_, h⟩ | ⟨h, _⟩
    · exact h
    · exact absurd HW.out (by omega))
  have HVv := Lib.hid hv
  have hw := HW.out
  have n1 : decide (v < -2147483648) = false := by simp; omega
  have n2 : decide (2147483648 < v) = false := by simp; omega
  have HF := Lib.hid (show Fits v by unfold Fits; omega)
  clear hv hw
  have hSz : S.size ≤ 1000000000000 := by
    have e : S.size = S.data.toList.length := rfl
    have e2 : x.data.toList.length = x.size := rfl
    rw [e, HS.out, e2]
    omega
  obtain ⟨c0, c1, c2, c3, f0, f1, f2, f3, hz⟩ := boxK4 hR HK.out
  go_wp2_with fail
  go_quiet (fail)
  go_wp2_with fail
  refine (atoi_ok S v _ hSz HAt.out).mono ?_
  rintro e w2 ⟨rfl, hb2⟩
  have HK2 := Lib.hid ((HK.out.drewN _).trans (Below.keeps hb2 R))
  have HR2 := Lib.hid ((HR.out.drewN _).below hb2)
  clear c0 c1 c2 c3 f0 f1 f2 f3 hz hb2 t1 t2
  go_wp2_with fail
  refine (int_tm_at _ _).mono ?_
  rintro e w3 ⟨rfl, hb3⟩
  have HK3 := Lib.hid (HK2.out.trans (Below.keeps hb3 R))
  have HR3 := Lib.hid (HR2.out.below hb3)
  clear hb3
  obtain ⟨c0, c1, c2, c3, f0, f1, f2, f3, hz⟩ := boxK4 hR HK3.out
  go_wp2_with fail
  refine bodyPost_ret (v := .tuple #[.agg #[.int .i64 0, .int .i64 v, .string ⟨#[]⟩, .slice none 0 0], .int .i64 0]) (by simp [results, Tryz.results123, go_sem, c0, c1, c2, c3]) rfl ?_
  refine parsed_put (u := intT v) hR HK3.out HR3.out (Live.any (intT_at v HF.out)) (.inl ⟨intT v, ?_, rfl, rfl⟩) rfl
  rw [HV.out, HR'.out, ← HVv.out]

set_option maxHeartbeats 1000000 in
set_option maxRecDepth 10000 in
theorem int_pos_one (s : ByteArray) (R p : Nat) (w : World) (hs : s.size ≤ 16384) (h : Rd w R s p) (hp : p < s.size) (h45 : s[p] ≠ 45) (hD : ((rest s p).takeWhile digB) = [48]) :
    Calls Tryz.prog 123 #[.pointer (some ⟨R, 0, none⟩)] w (Parsed R s w (intP (rest s p))) := by
  have hs' : s.size ≤ 9223372036854775807 := by omega
  have hsm : s.size ≤ maxLen := by unfold maxLen; omega
  have hR := h.lt
  have hb45 : ((s[p].toNat : Int) == 45) = false := by
    have : s[p].toNat ≠ 45 := fun e => h45 (UInt8.toNat_inj.1 e)
    simp; omega
  have hhead : (rest s p).headD 0 ≠ 45 := by rw [rest_head hp]; exact h45
  have HV := Lib.hid (show intP (rest s p) = .ok (intT 0) (skip (((rest s p).dropWhile digB))) from by rw [int_pos hhead]; rw [hD]; rfl)
  have HD := Lib.hid hD
  have ht : ∀ o, (w.alloc o).cell? ⟨R, 0, none⟩ = some (.string s) := fun o => (h.alloc o).txt
  have hp0 : ∀ o, (w.alloc o).cell? ⟨R, 1, none⟩ = some (.int .i64 (p : Int)) := fun o => (h.alloc o).pos
  have hf : ∀ o, (w.alloc o).frozen? ⟨R, 1, none⟩ = false := fun o => (h.alloc o).free
  have H := Lib.hid h
  clear hhead
  have hple : (p : Int) < (s.size : Int) := by omega
  clear h h45 hD
  go_enter Tryz.func123, Tryz.ntmps123
  go_wp2_with fail
  go_quiet (fail)
  go_wp2_with fail
  refine (take_dig s R p _ hsm ((H.out.alloc _).drewN _)).mono ?_
  rintro e w1 ⟨p', x, hx, hr', hp', rfl, hk1, hr1⟩
  have hk : Keeps R (w.alloc (.cells #[.int .i64 0, .int .i64 0, .string ⟨#[]⟩, .slice none 0 0] 24)) w1 := ((Keeps.refl R _).drewN _).trans hk1
  have t1 := hr1.txt
  have t2 := hr1.pos
  have t3 := hr1.le
  have t4 : (p : Int) ≤ (p' : Int) := by omega
  have t5 : (p' : Int) ≤ (s.size : Int) := by omega
  obtain ⟨S, hS⟩ : ∃ S, s.extract p p' = S := ⟨_, rfl⟩
  have hSl : S.data.toList = x.data.toList := by
    rw [← hS, show p' = p + x.size by omega, take_text, hx, show x.size = x.data.toList.length from rfl, hx, while_take]
  have HX := Lib.hid hx
  have HR' := Lib.hid hr'
  have HK := Lib.hid hk
  have HR := Lib.hid hr1
  have HS := Lib.hid hSl
  have hxs : x.size ≤ 16384 := by omega
  clear hx hr' hp' hk1 hr1 hk hSl
  have hx0 : 0 < x.size := by
    have e : x.data.toList ≠ [] := by rw [HX.out]; rw [HD.out]; simp
    rcases Nat.eq_zero_or_pos x.size with h | h
    · exact absurd (List.length_eq_zero_iff.1 h) e
    · exact h
  have hxe : x.toList.isEmpty = false := str_full (by rw [HX.out]; rw [HD.out]; simp)
  have hx1 : x[0] = x.data.toList.headD 0 := (head_at' hx0).symm
  have hx2 : ((x[0].toNat : Int) == 48) = true := by rw [hx1, HX.out, HD.out]; rfl
  clear hx1
  have hS1 : (S.toList == [48]) = true := str_is (by rw [HS.out, HX.out, HD.out])
  have hS2 : (S.toList != [48]) = false := by simp [bne, hS1]
  obtain ⟨v, hv⟩ : ∃ v : Int, v = 0 := ⟨_, rfl⟩
  have HAt := Lib.hid (show Lib.atoiAll S.data.toList = .ok v by
    rw [HS.out, HX.out, hv]
    rw [HD.out]; decide)
  have HVv := Lib.hid hv
  have n1 : decide (v < -2147483648) = false := by simp; omega
  have n2 : decide (2147483648 < v) = false := by simp; omega
  have HF := Lib.hid (show Fits v by unfold Fits; omega)
  clear hv
  have hSz : S.size ≤ 1000000000000 := by
    have e : S.size = S.data.toList.length := rfl
    have e2 : x.data.toList.length = x.size := rfl
    rw [e, HS.out, e2]
    omega
  obtain ⟨c0, c1, c2, c3, f0, f1, f2, f3, hz⟩ := boxK4 hR HK.out
  go_wp2_with fail
  go_quiet (fail)
  go_wp2_with fail
  refine (atoi_ok S v _ hSz HAt.out).mono ?_
  rintro e w2 ⟨rfl, hb2⟩
  have HK2 := Lib.hid ((HK.out.drewN _).trans (Below.keeps hb2 R))
  have HR2 := Lib.hid ((HR.out.drewN _).below hb2)
  clear c0 c1 c2 c3 f0 f1 f2 f3 hz hb2 t1 t2
  go_wp2_with fail
  refine (int_tm_at _ _).mono ?_
  rintro e w3 ⟨rfl, hb3⟩
  have HK3 := Lib.hid (HK2.out.trans (Below.keeps hb3 R))
  have HR3 := Lib.hid (HR2.out.below hb3)
  clear hb3
  obtain ⟨c0, c1, c2, c3, f0, f1, f2, f3, hz⟩ := boxK4 hR HK3.out
  go_wp2_with fail
  refine bodyPost_ret (v := .tuple #[.agg #[.int .i64 0, .int .i64 v, .string ⟨#[]⟩, .slice none 0 0], .int .i64 0]) (by simp [results, Tryz.results123, go_sem, c0, c1, c2, c3]) rfl ?_
  refine parsed_put (u := intT v) hR HK3.out HR3.out (Live.any (intT_at v HF.out)) (.inl ⟨intT v, ?_, rfl, rfl⟩) rfl
  rw [HV.out, HR'.out, HVv.out]

set_option maxHeartbeats 1000000 in
set_option maxRecDepth 10000 in
theorem int_pos_great (s : ByteArray) (R p : Nat) (w : World) (hs : s.size ≤ 16384) (h : Rd w R s p) (hp : p < s.size) (h45 : s[p] ≠ 45) (hD : ((rest s p).takeWhile digB) ≠ []) (hz : ((rest s p).takeWhile digB).headD 0 ≠ 48) (hv : 2147483648 < spell ((rest s p).takeWhile digB)) (v : Int) (ha : Lib.atoiAll (((rest s p).takeWhile digB)) = .ok v) (hb : 2147483648 < v) :
    Calls Tryz.prog 123 #[.pointer (some ⟨R, 0, none⟩)] w (Parsed R s w (intP (rest s p))) := by
  have hs' : s.size ≤ 9223372036854775807 := by omega
  have hsm : s.size ≤ maxLen := by unfold maxLen; omega
  have hR := h.lt
  have hb45 : ((s[p].toNat : Int) == 45) = false := by
    have : s[p].toNat ≠ 45 := fun e => h45 (UInt8.toNat_inj.1 e)
    simp; omega
  have hhead : (rest s p).headD 0 ≠ 45 := by rw [rest_head hp]; exact h45
  have HV := Lib.hid (show intP (rest s p) = .err 5 from by rw [int_pos hhead]; rw [if_neg (fun h => h.elim hD (fun e => hz e.1)), if_pos hv])
  have HD := Lib.hid hD
  have HZ := Lib.hid hz
  have HW := Lib.hid hv
  have HA := Lib.hid ha
  have HB := Lib.hid hb
  have ht : ∀ o, (w.alloc o).cell? ⟨R, 0, none⟩ = some (.string s) := fun o => (h.alloc o).txt
  have hp0 : ∀ o, (w.alloc o).cell? ⟨R, 1, none⟩ = some (.int .i64 (p : Int)) := fun o => (h.alloc o).pos
  have hf : ∀ o, (w.alloc o).frozen? ⟨R, 1, none⟩ = false := fun o => (h.alloc o).free
  have H := Lib.hid h
  clear hhead
  have hple : (p : Int) < (s.size : Int) := by omega
  clear h h45 hD hz hv ha hb
  go_enter Tryz.func123, Tryz.ntmps123
  go_wp2_with fail
  go_quiet (fail)
  go_wp2_with fail
  refine (take_dig s R p _ hsm ((H.out.alloc _).drewN _)).mono ?_
  rintro e w1 ⟨p', x, hx, hr', hp', rfl, hk1, hr1⟩
  have hk : Keeps R (w.alloc (.cells #[.int .i64 0, .int .i64 0, .string ⟨#[]⟩, .slice none 0 0] 24)) w1 := ((Keeps.refl R _).drewN _).trans hk1
  have t1 := hr1.txt
  have t2 := hr1.pos
  have t3 := hr1.le
  have t4 : (p : Int) ≤ (p' : Int) := by omega
  have t5 : (p' : Int) ≤ (s.size : Int) := by omega
  obtain ⟨S, hS⟩ : ∃ S, s.extract p p' = S := ⟨_, rfl⟩
  have hSl : S.data.toList = x.data.toList := by
    rw [← hS, show p' = p + x.size by omega, take_text, hx, show x.size = x.data.toList.length from rfl, hx, while_take]
  have HX := Lib.hid hx
  have HR' := Lib.hid hr'
  have HK := Lib.hid hk
  have HR := Lib.hid hr1
  have HS := Lib.hid hSl
  have hxs : x.size ≤ 16384 := by omega
  clear hx hr' hp' hk1 hr1 hk hSl
  have hx0 : 0 < x.size := by
    have e : x.data.toList ≠ [] := by rw [HX.out]; exact HD.out
    rcases Nat.eq_zero_or_pos x.size with h | h
    · exact absurd (List.length_eq_zero_iff.1 h) e
    · exact h
  have hxe : x.toList.isEmpty = false := str_full (by rw [HX.out]; exact HD.out)
  have hx1 : x[0] = x.data.toList.headD 0 := (head_at' hx0).symm
  have hx2 : ((x[0].toNat : Int) == 48) = false := byte_ne (b := 48) (by rw [hx1, HX.out]; exact HZ.out)
  clear hx1
  have HAt := Lib.hid (show Lib.atoiAll S.data.toList = .ok v by rw [HS.out, HX.out]; exact HA.out)
  have hbb := HB.out
  have n1 : decide (v < -2147483648) = false := by simp; omega
  have n2 : decide (2147483648 < v) = true := by simpa using hbb
  clear hbb
  have hSz : S.size ≤ 1000000000000 := by
    have e : S.size = S.data.toList.length := rfl
    have e2 : x.data.toList.length = x.size := rfl
    rw [e, HS.out, e2]
    omega
  obtain ⟨c0, c1, c2, c3, f0, f1, f2, f3, hz⟩ := boxK4 hR HK.out
  go_wp2_with fail
  go_quiet (fail)
  go_wp2_with fail
  refine (atoi_ok S v _ hSz HAt.out).mono ?_
  rintro e w2 ⟨rfl, hb2⟩
  have HK2 := Lib.hid ((HK.out.drewN _).trans (Below.keeps hb2 R))
  have HR2 := Lib.hid ((HR.out.drewN _).below hb2)
  clear c0 c1 c2 c3 f0 f1 f2 f3 hz hb2 t1 t2
  obtain ⟨c0, c1, c2, c3, f0, f1, f2, f3, hz⟩ := boxK4 hR HK2.out
  go_wp2_with fail
  refine bodyPost_ret (v := .tuple #[.agg #[.int .i64 0, .int .i64 0, .string ⟨#[]⟩, .slice none 0 0], .int .i64 5]) (by simp [results, Tryz.results123, go_sem, c0, c1, c2, c3]) rfl ?_
  exact parsed_put hR HK2.out HR2.out (Live.any zeroT_at) (.inr ⟨5, by omega, HV.out, rfl⟩) rfl

set_option maxHeartbeats 1000000 in
set_option maxRecDepth 10000 in
theorem int_pos_fails (s : ByteArray) (R p : Nat) (w : World) (hs : s.size ≤ 16384) (h : Rd w R s p) (hp : p < s.size) (h45 : s[p] ≠ 45) (hD : ((rest s p).takeWhile digB) ≠ []) (hz : ((rest s p).takeWhile digB).headD 0 ≠ 48) (hv : 2147483648 < spell ((rest s p).takeWhile digB)) (ha : ∀ v, Lib.atoiAll (((rest s p).takeWhile digB)) ≠ .ok v) :
    Calls Tryz.prog 123 #[.pointer (some ⟨R, 0, none⟩)] w (Parsed R s w (intP (rest s p))) := by
  have hs' : s.size ≤ 9223372036854775807 := by omega
  have hsm : s.size ≤ maxLen := by unfold maxLen; omega
  have hR := h.lt
  have hb45 : ((s[p].toNat : Int) == 45) = false := by
    have : s[p].toNat ≠ 45 := fun e => h45 (UInt8.toNat_inj.1 e)
    simp; omega
  have hhead : (rest s p).headD 0 ≠ 45 := by rw [rest_head hp]; exact h45
  have HV := Lib.hid (show intP (rest s p) = .err 5 from by rw [int_pos hhead]; rw [if_neg (fun h => h.elim hD (fun e => hz e.1)), if_pos hv])
  have HD := Lib.hid hD
  have HZ := Lib.hid hz
  have HW := Lib.hid hv
  have HA := Lib.hid ha
  have ht : ∀ o, (w.alloc o).cell? ⟨R, 0, none⟩ = some (.string s) := fun o => (h.alloc o).txt
  have hp0 : ∀ o, (w.alloc o).cell? ⟨R, 1, none⟩ = some (.int .i64 (p : Int)) := fun o => (h.alloc o).pos
  have hf : ∀ o, (w.alloc o).frozen? ⟨R, 1, none⟩ = false := fun o => (h.alloc o).free
  have H := Lib.hid h
  clear hhead
  have hple : (p : Int) < (s.size : Int) := by omega
  clear h h45 hD hz hv ha
  go_enter Tryz.func123, Tryz.ntmps123
  go_wp2_with fail
  go_quiet (fail)
  go_wp2_with fail
  refine (take_dig s R p _ hsm ((H.out.alloc _).drewN _)).mono ?_
  rintro e w1 ⟨p', x, hx, hr', hp', rfl, hk1, hr1⟩
  have hk : Keeps R (w.alloc (.cells #[.int .i64 0, .int .i64 0, .string ⟨#[]⟩, .slice none 0 0] 24)) w1 := ((Keeps.refl R _).drewN _).trans hk1
  have t1 := hr1.txt
  have t2 := hr1.pos
  have t3 := hr1.le
  have t4 : (p : Int) ≤ (p' : Int) := by omega
  have t5 : (p' : Int) ≤ (s.size : Int) := by omega
  obtain ⟨S, hS⟩ : ∃ S, s.extract p p' = S := ⟨_, rfl⟩
  have hSl : S.data.toList = x.data.toList := by
    rw [← hS, show p' = p + x.size by omega, take_text, hx, show x.size = x.data.toList.length from rfl, hx, while_take]
  have HX := Lib.hid hx
  have HR' := Lib.hid hr'
  have HK := Lib.hid hk
  have HR := Lib.hid hr1
  have HS := Lib.hid hSl
  have hxs : x.size ≤ 16384 := by omega
  clear hx hr' hp' hk1 hr1 hk hSl
  have hx0 : 0 < x.size := by
    have e : x.data.toList ≠ [] := by rw [HX.out]; exact HD.out
    rcases Nat.eq_zero_or_pos x.size with h | h
    · exact absurd (List.length_eq_zero_iff.1 h) e
    · exact h
  have hxe : x.toList.isEmpty = false := str_full (by rw [HX.out]; exact HD.out)
  have hx1 : x[0] = x.data.toList.headD 0 := (head_at' hx0).symm
  have hx2 : ((x[0].toNat : Int) == 48) = false := byte_ne (b := 48) (by rw [hx1, HX.out]; exact HZ.out)
  clear hx1
  have HAt := Lib.hid (show ∀ v, Lib.atoiAll S.data.toList ≠ .ok v by rw [HS.out, HX.out]; exact HA.out)
  have hSz : S.size ≤ 1000000000000 := by
    have e : S.size = S.data.toList.length := rfl
    have e2 : x.data.toList.length = x.size := rfl
    rw [e, HS.out, e2]
    omega
  obtain ⟨c0, c1, c2, c3, f0, f1, f2, f3, hz⟩ := boxK4 hR HK.out
  go_wp2_with fail
  go_quiet (fail)
  go_wp2_with fail
  refine (atoi_fails S _ hSz (HR.out.drewN _).laid.laid HAt.out).mono ?_
  rintro e w2 ⟨n2, pv, rfl, hb2⟩
  have HK2 := Lib.hid ((HK.out.drewN _).trans (Below.keeps hb2 R))
  have HR2 := Lib.hid ((HR.out.drewN _).below hb2)
  clear c0 c1 c2 c3 f0 f1 f2 f3 hz hb2 t1 t2
  obtain ⟨c0, c1, c2, c3, f0, f1, f2, f3, hz⟩ := boxK4 hR HK2.out
  go_wp2_with fail
  refine bodyPost_ret (v := .tuple #[.agg #[.int .i64 0, .int .i64 0, .string ⟨#[]⟩, .slice none 0 0], .int .i64 5]) (by simp [results, Tryz.results123, go_sem, c0, c1, c2, c3]) rfl ?_
  exact parsed_put hR HK2.out HR2.out (Live.any zeroT_at) (.inr ⟨5, by omega, HV.out, rfl⟩) rfl

end Go.Proofs.YtlpibnbabgfiiaaGreatDoor
