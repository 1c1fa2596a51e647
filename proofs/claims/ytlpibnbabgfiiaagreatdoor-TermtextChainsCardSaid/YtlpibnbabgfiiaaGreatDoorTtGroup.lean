/-
  Contracts of the reader's group, atom and operand, given that of expr for shorter texts.
-/
import Derived.Test.YtlpibnbabgfiiaaGreatDoorTtArgs
namespace Go.Proofs.YtlpibnbabgfiiaaGreatDoor
open Go.RowKit

/-! ### Plainly -/
theorem group_err {ex : List UInt8 → PR Tm} {r : List UInt8} {e : Int} (h : ex (skip r.tail) = .err e) : groupP ex r = .err e := by rw [groupP, h]
theorem group_close {ex : List UInt8 → PR Tm} {r r1 : List UInt8} {t : Tm} (h : ex (skip r.tail) = .ok t r1) (h1 : r1.headD 0 = 41) : groupP ex r = .ok t (skip r1.tail) := by
  obtain ⟨q, rfl⟩ := head_cons h1 (by decide)
  rw [groupP, h]
  simp
theorem group_other {ex : List UInt8 → PR Tm} {r r1 : List UInt8} {t : Tm} (h : ex (skip r.tail) = .ok t r1) (h1 : r1.headD 0 ≠ 41) : groupP ex r = .err 16 := by
  rw [groupP, h]
  rcases r1 with _ | ⟨c, q⟩
  · rfl
  · simp only [List.headD_cons] at h1
    simp [h1]
theorem atom_low {ex : List UInt8 → PR Tm} {r : List UInt8} (h : lowB (r.headD 0) = false) : atomP ex r = .err 16 := by
  unfold atomP
  rw [h]
  simp
theorem atom_name {ex : List UInt8 → PR Tm} {r : List UInt8} (h : lowB (r.headD 0) = true) (h1 : rightB (r.takeWhile inB) = false) : atomP ex r = .err 7 := by
  unfold atomP
  rw [if_pos h, h1]
  simp
theorem atom_alone {ex : List UInt8 → PR Tm} {r : List UInt8} (h : lowB (r.headD 0) = true) (h1 : rightB (r.takeWhile inB) = true) (h2 : (skip (r.dropWhile inB)).headD 0 ≠ 40) : atomP ex r = .ok (r.takeWhile inB, []) (skip (r.dropWhile inB)) := by
  unfold atomP
  rw [if_pos h, if_pos h1]
  rcases hs : skip (r.dropWhile inB) with _ | ⟨c, q⟩
  · rfl
  · rw [hs] at h2
    simp only [List.headD_cons] at h2
    simp [h2]
theorem atom_args {ex : List UInt8 → PR Tm} {r : List UInt8} (h : lowB (r.headD 0) = true) (h1 : rightB (r.takeWhile inB) = true) (h2 : (skip (r.dropWhile inB)).headD 0 = 40) :
    (∀ e, argsP ex [] (skip (skip (r.dropWhile inB)).tail) = .err e → atomP ex r = .err e) ∧ (∀ l r3, argsP ex [] (skip (skip (r.dropWhile inB)).tail) = .ok l r3 → atomP ex r = .ok (r.takeWhile inB, l) r3) := by
  obtain ⟨q, hq⟩ := head_cons h2 (by decide)
  rw [hq, List.tail_cons]
  unfold atomP
  rw [if_pos h, if_pos h1, hq]
  simp only [if_true]
  exact ⟨fun e he => by rw [he], fun l r3 hl => by rw [hl]⟩
theorem opnd_group {ex : List UInt8 → PR Tm} {r : List UInt8} (h : r.headD 0 = 40) : opnd ex r = groupP ex r := by unfold opnd; rw [if_pos h]
theorem opnd_int {ex : List UInt8 → PR Tm} {r : List UInt8} (h : r.headD 0 ≠ 40) (h1 : r.headD 0 = 45 ∨ digB (r.headD 0) = true) : opnd ex r = intP r := by unfold opnd; rw [if_neg h, if_pos h1]
theorem opnd_lab {ex : List UInt8 → PR Tm} {r : List UInt8} (h : r.headD 0 ≠ 40) (h1 : ¬ (r.headD 0 = 45 ∨ digB (r.headD 0) = true)) (h2 : undB (r.headD 0) = true ∨ uppB (r.headD 0) = true) : opnd ex r = labP r := by unfold opnd; rw [if_neg h, if_neg h1, if_pos h2]
theorem opnd_atom {ex : List UInt8 → PR Tm} {r : List UInt8} (h : r.headD 0 ≠ 40) (h1 : ¬ (r.headD 0 = 45 ∨ digB (r.headD 0) = true)) (h2 : ¬ (undB (r.headD 0) = true ∨ uppB (r.headD 0) = true)) : opnd ex r = asFun (atomP ex r) := by unfold opnd; rw [if_neg h, if_neg h1, if_neg h2]

theorem keeps_swap {R q : Nat} {w : World} {o : Obj} {v : Value} (_hR : R < w.heap.size) : Keeps R (w.alloc o) ((w.setCell ⟨R, q, none⟩ v).alloc o) := by
  refine ⟨rfl, rfl, rfl, by simp, fun k hk hne => ?_⟩
  simp only [World.size_alloc] at hk
  have hs : (w.setCell ⟨R, q, none⟩ v).heap.size = w.heap.size := by simp [World.setCell]
  by_cases h : k < w.heap.size
  · rw [Below.heap_alloc _ _ _ (by omega), Below.heap_alloc _ _ _ h, Below.heap_setCell _ _ _ _ hne]
  · have e : k = w.heap.size := by omega
    subst e
    show ((w.setCell ⟨R, q, none⟩ v).heap.push o)[w.heap.size]? = (w.heap.push o)[w.heap.size]?
    rw [Array.getElem?_push, Array.getElem?_push, hs, if_pos rfl, if_pos rfl]

/-! ### group -/
set_option maxHeartbeats 1000000 in
set_option maxRecDepth 10000 in
theorem group_at (s : ByteArray) (n : Nat) (hE : ExprAt s n) (R p : Nat) (w : World) (hs : s.size ≤ 16384) (h : Rd w R s p) (h40 : (rest s p).headD 0 = 40) (hn : (rest s p).length ≤ n) :
    Calls Tryz.prog 122 #[.pointer (some ⟨R, 0, none⟩)] w (Parsed R s w (groupP (exprP n) (rest s p))) := by
  have hsm : s.size ≤ maxLen := by unfold maxLen; omega
  have hR := h.lt
  have hp : p < s.size := by
    rcases Nat.lt_or_ge p s.size with h | h
    · exact h
    · rw [rest_end h] at h40; cases h40
  have hcons := rest_cons hp
  have H := Lib.hid h
  have HT := Lib.hid (rest_tail hp)
  have hlen : (skip (rest s (p + 1))).length < n := by
    have := skip_len (rest s (p + 1))
    rw [hcons, List.length_cons] at hn
    omega
  have ht : ∀ o, (w.alloc o).cell? ⟨R, 0, none⟩ = some (.string s) := fun o => (h.alloc o).txt
  have hp0 : ∀ o, (w.alloc o).cell? ⟨R, 1, none⟩ = some (.int .i64 (p : Int)) := fun o => (h.alloc o).pos
  have hf : ∀ o, (w.alloc o).frozen? ⟨R, 1, none⟩ = false := fun o => (h.alloc o).free
  have hple : (p : Int) < (s.size : Int) := by omega
  have hs' : s.size ≤ 9223372036854775807 := by omega
  have HL := Lib.hid hlen
  have Q := Lib.hid hE
  clear h h40 hn hcons hlen hE
  go_enter Tryz.func122, Tryz.ntmps122
  go_wp2_with fail
  refine (Q.out R (p + 1) _ ((H.out.set (q := p + 1) (by omega)).alloc _) HL.out).mono ?_
  rintro e w1 ⟨u, q, hu, hk1, hr1, ho⟩
  have hk : Keeps R (w.alloc (.cells #[.int .i64 0, .int .i64 0, .string ⟨#[]⟩, .slice none 0 0] 24)) w1 := (keeps_swap hR).trans hk1
  have hR1 := hr1.lt
  have hlo : w.heap.size + 1 ≤ w1.heap.size := by have := hk.size; simpa using this
  have HK := Lib.hid hk
  have HR := Lib.hid hr1
  have HU := Lib.hid (hu.low (lo' := w.heap.size + 1) (by simp))
  clear hk hk1 hr1 hu
  rcases ho with ⟨t, ho, hst, rfl⟩ | ⟨c, hc0, ho, rfl⟩
  · have HO := Lib.hid ho
    have HS := Lib.hid hst
    clear ho hst
    go_wp2_with fail
    by_cases h41 : (skip (rest s q)).headD 0 = 41
    · refine (accept_yes s R q 41 _ hsm (HR.out.alloc _) h41 (by decide)).mono ?_
      rintro e w2 ⟨q2, hq2, rfl, hk2, hr2⟩
      obtain ⟨d0, d1, d2, d3, -, -, -, -, hz2⟩ := boxK4 hR1 hk2
      have hk3 := (HK.out.alloc _).trans hk2
      obtain ⟨c0, c1, c2, c3, f0, f1, f2, f3, hz⟩ := boxK4 hR hk3
      have HE := Lib.hid (show groupP (exprP n) (rest s p) = .ok t (skip (rest s q2)) by rw [group_close (by rw [HT.out]; exact HO.out) h41, hq2])
      have HK2 := Lib.hid hk3
      have HR2 := Lib.hid hr2
      have HU2 := Lib.hid (((HU.out.alloc _).keeps hk2 (by omega)))
      clear hq2 hk2 hr2 h41 hk3
      go_wp2_with fail
      refine bodyPost_ret (v := .tuple #[u.val, .int .i64 0]) (by simp [results, Tryz.results122, go_sem, c0, c1, c2, c3]) rfl ?_
      exact parsed_put hR HK2.out HR2.out HU2.out (.inl ⟨t, HE.out, HS.out, rfl⟩) rfl
    · refine (accept_no s R q 41 _ hsm (HR.out.alloc _) h41).mono ?_
      rintro e w2 ⟨q2, hq2, rfl, hk2, hr2⟩
      obtain ⟨d0, d1, d2, d3, -, -, -, -, hz2⟩ := boxK4 hR1 hk2
      have hk3 := (HK.out.alloc _).trans hk2
      obtain ⟨c0, c1, c2, c3, f0, f1, f2, f3, hz⟩ := boxK4 hR hk3
      have HE := Lib.hid (show groupP (exprP n) (rest s p) = .err 16 from group_other (by rw [HT.out]; exact HO.out) h41)
      have HK2 := Lib.hid hk3
      have HR2 := Lib.hid hr2
      have HU2 := Lib.hid (((HU.out.alloc _).keeps hk2 (by omega)))
      clear hq2 hk2 hr2 h41 hk3
      go_wp2_with fail
      refine bodyPost_ret (v := .tuple #[u.val, .int .i64 16]) (by simp [results, Tryz.results122, go_sem, c0, c1, c2, c3]) rfl ?_
      exact parsed_put hR HK2.out HR2.out HU2.out (.inr ⟨16, by omega, HE.out, rfl⟩) rfl
  · have hc : (c == 0) = false := by simpa using hc0
    have HO := Lib.hid (show groupP (exprP n) (rest s p) = .err c from group_err (by rw [HT.out]; exact ho))
    have HC := Lib.hid hc0
    have hk3 := HK.out.alloc (.cells #[.int .i64 u.kind, .int .i64 u.num, .string u.name, .slice u.at_ u.args.length u.cap] 24)
    obtain ⟨c0, c1, c2, c3, f0, f1, f2, f3, hz⟩ := boxK4 hR hk3
    have HK2 := Lib.hid hk3
    clear ho hc0 hk3
    go_wp2_with fail
    refine bodyPost_ret (v := .tuple #[u.val, .int .i64 c]) (by simp [results, Tryz.results122, go_sem, c0, c1, c2, c3]) rfl ?_
    exact parsed_put hR HK2.out (HR.out.alloc _) (HU.out.alloc _) (.inr ⟨c, HC.out, HO.out, rfl⟩) rfl

/-! ### atom -/
/-- How the reading of a name with its arguments ends. -/
def AtomRead (R : Nat) (s : ByteArray) (w : World) (res : PR (List UInt8 × List Tm)) (e : Ending) (w' : World) : Prop :=
  ∃ (W : ByteArray) (l : List Tm) (A : Option Addr) (c p' : Nat), Keeps R w w' ∧ Rd w' R s p' ∧ W.size ≤ 16384 ∧ l.length ≤ 16384 ∧ ((l = [] ∧ A = none ∧ c = 0) ∨ (0 < l.length ∧ ∃ g, A = some ⟨g, 0, none⟩)) ∧ LiveL w.heap.size No w' A l c ∧
    ((res = .ok (W.data.toList, stripL l) (skip (rest s p')) ∧ e = .returned (.tuple #[.agg #[.string W, .slice A l.length c], .int .i64 0])) ∨ (∃ k : Int, k ≠ 0 ∧ res = .err k ∧ l = [] ∧ e = .returned (.tuple #[.agg #[.string W, .slice A l.length c], .int .i64 k])))
theorem liveL_nil {lo : Nat} {X : Nat → Prop} {w : World} : LiveL lo X w none [] 0 := fun W _ => Lst.nil W
theorem boxK2 {R : Nat} {w w' : World} {v0 v1 : Value} {T : TypeId} (hR : R < w.heap.size) (hk : Keeps R (w.alloc (.cells #[v0, v1] T)) w') :
    w'.cell? ⟨w.heap.size, 0, none⟩ = some v0 ∧ w'.cell? ⟨w.heap.size, 1, none⟩ = some v1 ∧ w'.frozen? ⟨w.heap.size, 0, none⟩ = false ∧ w'.frozen? ⟨w.heap.size, 1, none⟩ = false ∧ w.heap.size < w'.heap.size := by
  obtain ⟨h1, h2, h3⟩ := boxK hR hk
  exact ⟨h1 0 _ rfl, h1 1 _ rfl, h2 0, h2 1, h3⟩
theorem atom_put {R p' : Nat} {s : ByteArray} {w W : World} {o : Obj} {res : PR (List UInt8 × List Tm)} {e : Ending} {S : ByteArray} {l : List Tm} {A : Option Addr} {c : Nat} (hR : R < w.heap.size) (hk : Keeps R (w.alloc o) W) (hr : Rd W R s p') (hS : S.size ≤ 16384) (hl : l.length ≤ 16384)
    (hA : (l = [] ∧ A = none ∧ c = 0) ∨ (0 < l.length ∧ ∃ g, A = some ⟨g, 0, none⟩)) (hL : LiveL (w.heap.size + 1) No W A l c)
    (ho : (res = .ok (S.data.toList, stripL l) (skip (rest s p')) ∧ e = .returned (.tuple #[.agg #[.string S, .slice A l.length c], .int .i64 0])) ∨ (∃ k : Int, k ≠ 0 ∧ res = .err k ∧ l = [] ∧ e = .returned (.tuple #[.agg #[.string S, .slice A l.length c], .int .i64 k]))) :
    AtomRead R s w res e ((W.setCell ⟨w.heap.size, 0, none⟩ (.string S)).setCell ⟨w.heap.size, 1, none⟩ (.slice A l.length c)) :=
  ⟨S, l, A, c, p', ((((Keeps.refl R w).alloc o).trans hk).own (p := ⟨w.heap.size, 0, none⟩) (Nat.le_refl _) _).own (p := ⟨w.heap.size, 1, none⟩) (Nat.le_refl _) _, (hr.other (a := ⟨w.heap.size, 0, none⟩) hR _).other (a := ⟨w.heap.size, 1, none⟩) hR _, hS, hl, hA,
    ((hL.set (p := ⟨w.heap.size, 0, none⟩) (.inl (Nat.lt_succ_self _)) _).set (p := ⟨w.heap.size, 1, none⟩) (.inl (Nat.lt_succ_self _)) _).low (Nat.le_succ _), ho⟩

set_option maxHeartbeats 2000000 in
set_option maxRecDepth 10000 in
theorem tt_atom_at (s : ByteArray) (n : Nat) (hE : ExprAt s n) (R p : Nat) (w : World) (hs : s.size ≤ 16384) (h : Rd w R s p) (hn : (skip (rest s p)).length ≤ n) :
    Calls Tryz.prog 47 #[.pointer (some ⟨R, 0, none⟩)] w (AtomRead R s w (atomP (exprP n) (skip (rest s p)))) := by
  have hsm : s.size ≤ maxLen := by unfold maxLen; omega
  have hR := h.lt
  have H := Lib.hid h
  have HN := Lib.hid hn
  have Q := Lib.hid hE
  obtain ⟨r, hr⟩ : ∃ r, r = skip (rest s p) := ⟨_, rfl⟩
  rw [← hr]
  have HQ := Lib.hid hr
  clear h hn hE hr
  go_enter Tryz.func47, Tryz.ntmps47
  go_wp2_with fail
  refine (next_at s R p _ hsm (H.out.alloc _)).mono ?_
  rintro e w1 ⟨p1, x, hq, hx, rfl, hk1, hr1⟩
  have hR1 := hr1.lt
  have HX := Lib.hid (show r.headD 0 = x by rw [HQ.out, ← hq]; exact hx)
  have HP := Lib.hid (show rest s p1 = r by rw [HQ.out]; exact hq)
  have HK1 := Lib.hid hk1
  have HR1 := Lib.hid hr1
  clear hq hx hk1 hr1
  go_wp2_with fail
  obtain ⟨b, hb⟩ : ∃ b, lowB x = b := ⟨_, rfl⟩
  refine (tt_low_at x _ hb).mono ?_
  rintro e w' ⟨rfl, rfl⟩
  have HB := Lib.hid hb
  clear hb
  cases b
  · have HE := Lib.hid (show atomP (exprP n) r = .err 16 from atom_low (by rw [HX.out]; exact HB.out))
    obtain ⟨c0, c1, f0, f1, hz⟩ := boxK2 hR HK1.out
    go_wp2_with fail
    refine bodyPost_ret (v := .tuple #[.agg #[.string ⟨#[]⟩, .slice none 0 0], .int .i64 16]) (by simp [results, Tryz.results47, go_sem, c0, c1]) rfl ?_
    exact atom_put hR HK1.out HR1.out (Nat.zero_le _) (Nat.zero_le _) (.inl ⟨rfl, rfl, rfl⟩) liveL_nil (.inr ⟨16, by omega, HE.out, rfl, rfl⟩)
  · go_wp2_with fail
    refine (take_word s R p1 _ hsm HR1.out).mono ?_
    rintro e w2 ⟨p2, y, hy, hr2', hp2, rfl, hk2, hr2⟩
    have hR2 := hr2.lt
    have HY := Lib.hid (show y.data.toList = r.takeWhile inB by rw [← HP.out]; exact hy)
    have HD := Lib.hid (show rest s p2 = r.dropWhile inB by rw [← HP.out]; exact hr2')
    have HK2 := Lib.hid (HK1.out.trans hk2)
    have HR2 := Lib.hid hr2
    have hys : y.size ≤ 16384 := by have := hr2.le; omega
    clear hy hr2' hp2 hk2 hr2
    go_wp2_with fail
    obtain ⟨b, hb⟩ : ∃ b, rightB y.data.toList = b := ⟨_, rfl⟩
    refine (right_at y _ (by omega) hb).mono ?_
    rintro e w' ⟨rfl, rfl⟩
    have HB2 := Lib.hid hb
    clear hb
    cases b
    · have HE := Lib.hid (show atomP (exprP n) r = .err 7 from atom_name (by rw [HX.out]; exact HB.out) (by rw [← HY.out]; exact HB2.out))
      obtain ⟨c0, c1, f0, f1, hz⟩ := boxK2 hR HK2.out
      go_wp2_with fail
      refine bodyPost_ret (v := .tuple #[.agg #[.string ⟨#[]⟩, .slice none 0 0], .int .i64 7]) (by simp [results, Tryz.results47, go_sem, c0, c1]) rfl ?_
      exact atom_put hR HK2.out HR2.out (Nat.zero_le _) (Nat.zero_le _) (.inl ⟨rfl, rfl, rfl⟩) liveL_nil (.inr ⟨7, by omega, HE.out, rfl, rfl⟩)
    · go_wp2_with fail
      by_cases h40 : (skip (rest s p2)).headD 0 = 40
      · refine (accept_yes s R p2 40 _ hsm HR2.out h40 (by decide)).mono ?_
        rintro e w3 ⟨p3, hp3, rfl, hk3, hr3⟩
        have hR3 := hr3.lt
        obtain ⟨aE, aO⟩ := atom_args (ex := exprP n) (r := r) (by rw [HX.out]; exact HB.out) (by rw [← HY.out]; exact HB2.out) (by rw [← HD.out]; exact h40)
        rw [← HD.out, ← hp3] at aE aO
        have hlen : (skip (rest s p3)).length < n := by
          have h1 := skip_len (rest s p3)
          have h2 := skip_len (rest s p2)
          have h3 : (rest s p3).length + 1 = (skip (rest s p2)).length := by
            obtain ⟨z, hz⟩ := head_cons h40 (by decide)
            rw [hp3, hz]; rfl
          have h4 := take_drop_while inB r
          have h5 := word_pos (r := r) (by rw [← HY.out]; exact HB2.out)
          have h6 := HN.out
          rw [← HQ.out] at h6
          rw [HD.out] at h2
          rw [HD.out] at h3
          omega
        have AE := Lib.hid aE
        have AO := Lib.hid aO
        have HL := Lib.hid hlen
        have HK3 := Lib.hid (HK2.out.trans hk3)
        have HR3 := Lib.hid hr3
        clear aE aO hlen hp3 hk3 hr3 h40
        go_wp2_with fail
        refine (tt_args_at s n Q.out R p3 _ hs HR3.out HL.out).mono ?_
        rintro e w4 ⟨p4, hk4, hr4, ho⟩
        have hk4' := HK3.out.trans hk4
        have hlo : w.heap.size + 1 ≤ w3.heap.size := by have := HK3.out.size; simpa using this
        obtain ⟨c0, c1, f0, f1, hz⟩ := boxK2 hR hk4'
        have HK4 := Lib.hid hk4'
        have HR4 := Lib.hid hr4
        clear hk4' hk4 hr4
        rcases ho with ⟨l, A, c, ho, hl0, hl1, hL, rfl⟩ | ⟨c, hc0, ho, rfl⟩
        · have HE := Lib.hid (AO.out _ _ ho)
          have HLL := Lib.hid (hL.low hlo)
          have HL0 := Lib.hid hl0
          have HL1 := Lib.hid hl1
          clear ho hL hl0 hl1
          go_wp2_with fail
          refine bodyPost_ret (v := .tuple #[.agg #[.string y, .slice (some ⟨A, 0, none⟩) l.length c], .int .i64 0]) (by simp [results, Tryz.results47, go_sem, c0, c1]) rfl ?_
          exact atom_put hR HK4.out HR4.out hys HL1.out (.inr ⟨HL0.out, _, rfl⟩) HLL.out (.inl ⟨by rw [HE.out, HY.out], rfl⟩)
        · have HE := Lib.hid (AE.out _ ho)
          have HC := Lib.hid hc0
          clear ho hc0
          go_wp2_with fail
          refine bodyPost_ret (v := .tuple #[.agg #[.string y, .slice none 0 0], .int .i64 c]) (by simp [results, Tryz.results47, go_sem, c0, c1]) rfl ?_
          exact atom_put hR HK4.out HR4.out hys (Nat.zero_le _) (.inl ⟨rfl, rfl, rfl⟩) liveL_nil (.inr ⟨c, HC.out, HE.out, rfl, rfl⟩)
      · refine (accept_no s R p2 40 _ hsm HR2.out h40).mono ?_
        rintro e w3 ⟨p3, hp3, rfl, hk3, hr3⟩
        have hk3' := HK2.out.trans hk3
        obtain ⟨c0, c1, f0, f1, hz⟩ := boxK2 hR hk3'
        have HE := Lib.hid (show atomP (exprP n) r = .ok (y.data.toList, stripL []) (skip (rest s p3)) by
          rw [atom_alone (by rw [HX.out]; exact HB.out) (by rw [← HY.out]; exact HB2.out) (by rw [← HD.out]; exact h40), HY.out, hp3, HD.out, skip_skip]; rfl)
        have HK3 := Lib.hid hk3'
        have HR3 := Lib.hid hr3
        clear hp3 hk3 hr3 h40 hk3'
        go_wp2_with fail
        refine bodyPost_ret (v := .tuple #[.agg #[.string y, .slice none 0 0], .int .i64 0]) (by simp [results, Tryz.results47, go_sem, c0, c1]) rfl ?_
        exact atom_put (l := []) hR HK3.out HR3.out hys (Nat.zero_le _) (.inl ⟨rfl, rfl, rfl⟩) liveL_nil (.inl ⟨HE.out, rfl⟩)

end Go.Proofs.YtlpibnbabgfiiaaGreatDoor
