/-
  The contract of the reference's arguments, given that of expr for shorter texts.
-/
import Derived.Test.YtlpibnbabgfiiaaGreatDoorTrInt
import Derived.Test.YtlpibnbabgfiiaaGreatDoorTtGroup
namespace Go.Proofs.YtlpibnbabgfiiaaGreatDoor
open Go.RowKit

def ExprR (s : ByteArray) (n : Nat) : Prop := ∀ (R p : Nat) (w : World), Rr w R s p 0 → (skip (rest s p)).length < n →
  Calls Tryz.prog 44 #[.pointer (some ⟨R, 0, none⟩)] w (ParsedR R s w (exprP n (skip (rest s p))))

/-- After an error there are no arguments. -/
def NoArgs (R : Nat) (s : ByteArray) (er : Int) (w : World) (e : Ending) (w' : World) : Prop := ∃ p', e = .returned (.slice none 0 0) ∧ Keeps R w w' ∧ Rr w' R s p' er
theorem argsr_err (s : ByteArray) (R p : Nat) (er : Int) (w : World) (hs : s.size ≤ maxLen) (h : Rr w R s p er) (her : er ≠ 0) :
    Calls Tryz.prog 50 #[.pointer (some ⟨R, 0, none⟩)] w (NoArgs R s er w) := by
  have Q := Lib.hid (nextr_at s R p er w hs h)
  have HE := Lib.hid her
  clear h hs her
  go_enter Tryz.func50, Tryz.ntmps50
  go_wp2_with fail
  refine Q.out.mono ?_
  rintro e w1 ⟨p', x, hq, hx, rfl, hk, hr⟩
  have hx0 : x = 0 := hx.elim (fun h => absurd h.1 HE.out) (fun h => h.2)
  subst hx0
  have HK := Lib.hid hk
  have HR := Lib.hid hr
  clear hx hk hr hq
  go_wp2_with fail
  go_ret
  exact ⟨p', rfl, HK.out, HR.out⟩
/-- No parenthesis: no arguments. -/
def NoParen (R : Nat) (s : ByteArray) (p : Nat) (w : World) (e : Ending) (w' : World) : Prop := ∃ p', rest s p' = skip (rest s p) ∧ e = .returned (.slice none 0 0) ∧ Keeps R w w' ∧ Rr w' R s p' 0
theorem argsr_none (s : ByteArray) (R p : Nat) (w : World) (hs : s.size ≤ maxLen) (h : Rr w R s p 0) (h40 : (skip (rest s p)).headD 0 ≠ 40) :
    Calls Tryz.prog 50 #[.pointer (some ⟨R, 0, none⟩)] w (NoParen R s p w) := by
  have Q := Lib.hid (nextr_at s R p 0 w hs h)
  have HE := Lib.hid h40
  clear h hs h40
  go_enter Tryz.func50, Tryz.ntmps50
  go_wp2_with fail
  refine Q.out.mono ?_
  rintro e w1 ⟨p', x, hq, hx, rfl, hk, hr⟩
  have hx0 : (rest s p').headD 0 = x := hx.elim (fun h => h.2) (fun h => absurd rfl h.1)
  have hne : ((x.toNat : Int) != 40) = true := by
    have := byte_ne (a := x) (b := 40) (by rw [← hx0, hq]; exact HE.out)
    simpa [bne] using this
  have HK := Lib.hid hk
  have HR := Lib.hid hr
  have HQ := Lib.hid hq
  clear hx hk hr hq hx0
  go_wp2_with fail
  go_ret
  exact ⟨p', HQ.out, rfl, HK.out, HR.out⟩

/-- How the reading of arguments in parentheses ends. -/
def ArgsReadR (R : Nat) (s : ByteArray) (w : World) (res : PR (List Tm)) (e : Ending) (w' : World) : Prop :=
  ∃ p', Keeps R w w' ∧ ((∃ l A c, res = .ok (stripL l) (skip (rest s p')) ∧ 0 < l.length ∧ l.length ≤ 16384 ∧ LiveL w.heap.size No w' (some ⟨A, 0, none⟩) l c ∧ e = .returned (.slice (some ⟨A, 0, none⟩) l.length c) ∧ Rr w' R s p' 0) ∨
    (∃ c : Int, c ≠ 0 ∧ res = .err c ∧ e = .returned (.slice none 0 0) ∧ Rr w' R s p' c))
def ArgsLoopR (R n : Nat) (s : ByteArray) (w : World) (res : PR (List Tm)) (gk : Nat) (z : Value) (wr : World) (q : Nat) (acc : List Tm) : Prop :=
  Keeps R w wr ∧ Row w.heap.size wr z acc ∧
    ((Rr wr R s q 0 ∧ acc.length + (rest s q).length ≤ 16384 ∧ q < s.size ∧ (skip (rest s q).tail).length < n ∧ (rest s q).length ≤ gk ∧ res = argsP (exprP n) (stripL acc) (skip (rest s q).tail)) ∨ (∃ c : Int, c ≠ 0 ∧ Rr wr R s q c ∧ res = .err c))
theorem news1 (w : World) (u : Tm) (T : TypeId) : ∀ j v, u.cells[j]? = some v → (w.alloc (.cells #[.int .i64 u.kind, .int .i64 u.num, .string u.name, .slice u.at_ u.args.length u.cap] T)).cell? ((⟨w.heap.size, 0, none⟩ : Addr).add j) = some v := by
  intro j v hv
  rw [add_plain, Nat.zero_add, World.cell?_alloc_at _ _ _ _ rfl, ← hv, show (#[Value.int .i64 u.kind, .int .i64 u.num, .string u.name, .slice u.at_ u.args.length u.cap] : Array Value) = u.cells.toArray from rfl, List.getElem?_toArray]
theorem tail_skip {l : List UInt8} : (skip l).tail.length ≤ l.length := by have := skip_len l; simp; omega

set_option maxHeartbeats 4000000 in
set_option maxRecDepth 10000 in
theorem argsr_some (s : ByteArray) (n : Nat) (hE : ExprR s n) (R p : Nat) (w : World) (hs : s.size ≤ 16384) (h : Rr w R s p 0) (h40 : (skip (rest s p)).headD 0 = 40) (hn : (skip (skip (rest s p)).tail).length < n) :
    Calls Tryz.prog 50 #[.pointer (some ⟨R, 0, none⟩)] w (ArgsReadR R s w (argsP (exprP n) [] (skip (skip (rest s p)).tail))) := by
  obtain ⟨i0, hi, hz0, hz1, hz2⟩ := info_parts term_info
  obtain ⟨res, hres⟩ : ∃ res, res = argsP (exprP n) [] (skip (skip (rest s p)).tail) := ⟨_, rfl⟩
  rw [← hres]
  have hR := h.lt
  have hsm : s.size ≤ maxLen := by unfold maxLen; omega
  have Q := Lib.hid hE
  have Q0 := Lib.hid (nextr_at s R p 0 w hsm h)
  have H40 := Lib.hid h40
  have HN := Lib.hid hn
  have HRes := Lib.hid hres
  clear hE h hn hres h40
  go_enter Tryz.func50, Tryz.ntmps50
  go_wp2_with fail
  refine Q0.out.mono ?_
  rintro e w1 ⟨p1, x, hq, hx, rfl, hk, hr⟩
  have hx0 : (rest s p1).headD 0 = x := hx.elim (fun h => h.2) (fun h => absurd rfl h.1)
  have hx40 : x = 40 := by rw [← hx0, hq]; exact H40.out
  subst hx40
  have hp1 : p1 < s.size := by
    rcases Nat.lt_or_ge p1 s.size with h | h
    · exact h
    · rw [rest_end h] at hx0; exact absurd hx0 (by decide)
  have H0 := Lib.hid (show ArgsLoopR R n s w res (rest s p1).length (.slice none 0 0) w1 p1 [] from ⟨hk, ⟨⟨rfl, .inl ⟨rfl, rfl⟩⟩, fun x hx => by cases hx⟩, .inl ⟨hr, by rw [rest_len]; simp; omega, hp1, by rw [hq]; exact HN.out, Nat.le_refl _, by rw [HRes.out, hq]; rfl⟩⟩)
  clear hx hk hr hx0
  go_wp2_with fail
  go_loopg [3] (rest s p1).length (fun gk z wr => ∃ (q : Nat) (acc : List Tm) (x : Value), z = x ∧ Hid (ArgsLoopR R n s w res gk x wr q acc))
  case atStart => exact ⟨p1, [], _, rfl, H0⟩
  case round =>
    clear H0
    obtain ⟨q, acc, z, hzx, hI⟩ := hrel
    have hzx' := hzx.symm
    clear hzx
    subst hzx'
    obtain ⟨k1, k2, k4⟩ := hI.out
    rcases k4 with ⟨m1, k3, m2, m3, m4, m5⟩ | ⟨c, hc0, m1, m2⟩
    · have hee := m1.err
      have hpp := m1.pos
      have htt := m1.txt
      have hff := m1.free
      have hql : (q : Int) < (s.size : Int) := by omega
      have hs' : s.size ≤ 9223372036854775807 := by omega
      have Q1 := Lib.hid (Q.out R (q + 1) _ (m1.set (q := q + 1) (by omega)) (by rw [← rest_tail m2]; exact m3))
      have HI := Lib.hid (And.intro k1 (And.intro k2 k3))
      have HM := Lib.hid (And.intro m1 (And.intro m2 (And.intro m3 (And.intro m4 m5))))
      have HT := Lib.hid (rest_tail m2)
      clear k1 k2 k3 m1 m2 m3 m4 m5 hI
      go_wp2_with fail
      refine Q1.out.mono ?_
      rintro e w2 ⟨u, q', rfl, hu, hk, ho⟩
      have hk2 := (HI.out.1.set 1 none (.int .i64 ((q + 1 : Nat) : Int))).trans hk
      have hlow2 : w.heap.size ≤ w2.heap.size := hk2.size
      have hw5 : w.heap.size ≤ wr.heap.size := HI.out.1.size
      have HRow := Lib.hid (HI.out.2.1.keeps (((Keeps.refl R wr).set 1 none (.int .i64 ((q + 1 : Nat) : Int))).trans hk) hR)
      have HO1 := Lib.hid (own_lt HI.out.2.1.1)
      have HL := Lib.hid (hu.less (lo := w.heap.size) (X := fun k => z.ownBlock = some k) (w' := w2) (Nat.le_refl _) (fun b h1 _ _ => ⟨by simp at h1; omega, fun e => by have := (HO1.out b e).2; simp at h1; omega, rfl⟩))
      have hlen : acc.length ≤ 16384 := by have := HI.out.2.2; omega
      have HOwn := Lib.hid (own_lt HRow.out.1)
      have HK2 := Lib.hid hk2
      have HO := Lib.hid ho
      clear hu hk hk2 hw5 ho hee hpp htt hff
      go_wp2_with (at_builtin; refine wpList_append_lies _ rfl _ _ 22 rfl w.heap.size 24 i0 _ 4 56 Tryz.underlying22 hi hz0 hz1 hz2 rfl (by decide) z acc.length (tcells acc) rfl (HRow.out.1.alloc _) ⟨w2.heap.size, 0, none⟩ 1 1 u.cells rfl rfl (news1 w2 u _) (cells_one u) (by decide) (by unfold maxLen; omega) (by omega) (by simp; omega) _ rfl ?_; intro g cap w4 hown hg hat hglt)
      have HRow4 := Lib.hid (HRow.out.next HL.out ((Below.refl _ _).alloc (Nat.le_refl _) _) hown hg hat)
      have hne : ∀ k, z.ownBlock = some k → k ≠ R := fun k hk => by have := (HOwn.out k hk).1; omega
      have HG4 : Hid ((∃ t, exprP n (skip (rest s q).tail) = .ok t (skip (rest s q')) ∧ u.strip = t ∧ Rr w4 R s q' 0) ∨ (∃ c : Int, c ≠ 0 ∧ exprP n (skip (rest s q).tail) = .err c ∧ Rr w4 R s q' c)) := by
        rw [HT.out]
        rcases HO.out with ⟨t, h1, h2, h3⟩ | ⟨c, h1, h2, h3⟩
        · exact .inl ⟨t, h1, h2, (h3.alloc _).grown hg hne⟩
        · exact .inr ⟨c, h1, h2, (h3.alloc _).grown hg hne⟩
      have HK4 := Lib.hid ((HK2.out.alloc _).grown hg (fun k hk => (HOwn.out k hk).1))
      clear hg hown hat hglt hne
      go_wp2_with fail
      rcases HG4.out with ⟨t, ho, hst, hr4⟩ | ⟨c, hc0, ho, hr4⟩
      · have HOk := Lib.hid ho
        have HS := Lib.hid hst
        refine (nextr_at s R q' 0 _ hsm hr4).mono ?_
        rintro e w5 ⟨q2, x, hq2, hx, rfl, hk5, hr5⟩
        have hx0 : (skip (rest s q')).headD 0 = x := by rw [← hq2]; exact hx.elim (fun h => h.2) (fun h => absurd rfl h.1)
        have HX := Lib.hid hx0
        have HQ2 := Lib.hid hq2
        have HK5 := Lib.hid (HK4.out.trans hk5)
        have HR5 := Lib.hid hr5
        have HRow5 := Lib.hid (HRow4.out.keeps hk5 hR)
        have hpp := hr5.pos
        have hff := hr5.free
        have hsh := expr_shrinks n _ _ _ ho
        have HSh := Lib.hid hsh
        clear HG4 ho hst hr4 hx hx0 hq2 hk5 hr5 hsh
        by_cases h41 : x = 41
        · subst h41
          have hq2s : q2 < s.size := by
            rcases Nat.lt_or_ge q2 s.size with h | h
            · exact h
            · have := HX.out; rw [← HQ2.out, rest_end h] at this; exact absurd this (by decide)
          have HE := Lib.hid (show ∀ W, W = w5.setCell ⟨R, 1, none⟩ (.int .i64 ((q2 + 1 : Nat) : Int)) → ArgsReadR R s w res (.returned (.slice (some ⟨g, 0, none⟩) (acc.length + 1) cap)) W by
            rintro W rfl
            refine ⟨q2 + 1, HK5.out.set _ _ _, .inl ⟨acc ++ [u], g, cap, ?_, by simp, ?_, (HRow5.out.lst' (by simp)).set (p := ⟨R, 1, none⟩) (.inl hR) _, by simp, HR5.out.set (q := q2 + 1) (by omega)⟩⟩
            · rw [HM.out.2.2.2.2, args_close HOk.out HX.out, ← HQ2.out, rest_tail hq2s, stripL_append, ← HS.out]; rfl
            · have h1 := HI.out.2.2
              have h2 : 0 < (rest s q).length := by rw [rest_len]; have := HM.out.2.1; omega
              simp only [List.length_append, List.length_cons, List.length_nil]; omega)
          have hq2l : (q2 : Int) < (s.size : Int) := by omega
          go_wp2_with fail
          go_ret
          exact HE.out _ rfl
        · have n41 : ((x.toNat : Int) == 41) = false := byte_ne (b := 41) h41
          by_cases h44 : x = 44
          · subst h44
            have hq2s : q2 < s.size := by
              rcases Nat.lt_or_ge q2 s.size with h | h
              · exact h
              · have := HX.out; rw [← HQ2.out, rest_end h] at this; exact absurd this (by decide)
            have hl1 : (rest s q).tail.length + 1 = (rest s q).length := by rw [rest_cons HM.out.2.1]; rfl
            have hl2 := skip_len (rest s q).tail
            have hl3 := HSh.out
            have HL2 := Lib.hid (show (rest s q2).length + 1 ≤ (rest s q).length by rw [HQ2.out]; omega)
            have HN2 := Lib.hid (show ArgsLoopR R n s w res (gk - 1) (.slice (some ⟨g, 0, none⟩) (acc.length + 1) cap) w5 q2 (acc ++ [u]) from
              ⟨HK5.out, HRow5.out, .inl ⟨HR5.out, by have := HL2.out; have := HI.out.2.2; simp only [List.length_append, List.length_cons, List.length_nil]; omega, hq2s, by
                have h1 := skip_len (rest s q2).tail
                have h2 : (rest s q2).tail.length + 1 = (rest s q2).length := by rw [rest_cons hq2s]; rfl
                have h3 := HM.out.2.2.1
                rw [HQ2.out] at h1 h2
                rw [HQ2.out]
                omega, by have := HL2.out; have := HM.out.2.2.2.1; omega, by
                rw [HM.out.2.2.2.2, args_comma (expr_shrinks n) HOk.out HX.out, ← HQ2.out, stripL_append, ← HS.out]; rfl⟩⟩)
            have HGk := Lib.hid (show gk - 1 < gk by have := HL2.out; have := HM.out.2.2.2.1; omega)
            clear hl1 hl2 hl3
            go_wp2_with fail
            go_roundg (gk - 1)
            case measure => exact HGk.out
            case rel => exact ⟨q2, acc ++ [u], _, rfl, HN2.out⟩
          · have n44 : ((x.toNat : Int) != 44) = true := by
              have := byte_ne (a := x) (b := 44) h44
              simpa [bne] using this
            have H41 := Lib.hid h41
            have H44 := Lib.hid h44
            clear h41 h44
            go_wp2_with fail
            refine (fail_at s R q2 0 16 _ HR5.out).mono ?_
            rintro e w6 ⟨rfl, hk6, ho⟩
            have HR6 := Lib.hid (fail0 ho)
            have HK6 := Lib.hid (HK5.out.trans hk6)
            have HRow6 := Lib.hid (HRow5.out.keeps hk6 hR)
            have hl0 : (rest s q2).length + 1 ≤ (rest s q).length := by
              have hl1 : (rest s q).tail.length + 1 = (rest s q).length := by rw [rest_cons HM.out.2.1]; rfl
              have hl2 := skip_len (rest s q).tail
              have hl3 := HSh.out
              rw [HQ2.out]; omega
            have HN2 := Lib.hid (show ArgsLoopR R n s w res (gk - 1) (.slice (some ⟨g, 0, none⟩) (acc.length + 1) cap) w6 q2 (acc ++ [u]) from
              ⟨HK6.out, HRow6.out, .inr ⟨16, by omega, HR6.out, by
                rw [HM.out.2.2.2.2]; exact args_other HOk.out (by rw [HX.out]; exact H41.out) (by rw [HX.out]; exact H44.out)⟩⟩)
            have HGk := Lib.hid (show gk - 1 < gk by have := HM.out.2.2.2.1; omega)
            clear ho hk6 hl0
            go_wp2_with fail
            go_roundg (gk - 1)
            case measure => exact HGk.out
            case rel => exact ⟨q2, acc ++ [u], _, rfl, HN2.out⟩
      · have HOe := Lib.hid ho
        have HC := Lib.hid hc0
        refine (nextr_at s R q' c _ hsm hr4).mono ?_
        rintro e w5 ⟨q2, x, hq2, hx, rfl, hk5, hr5⟩
        have hx0 : x = 0 := hx.elim (fun h => absurd h.1 HC.out) (fun h => h.2)
        subst hx0
        have HK5 := Lib.hid (HK4.out.trans hk5)
        have HR5 := Lib.hid hr5
        have HRow5 := Lib.hid (HRow4.out.keeps hk5 hR)
        clear HG4 ho hc0 hr4 hx hq2 hk5 hr5
        go_wp2_with fail
        refine (fail_at s R q2 c 16 _ HR5.out).mono ?_
        rintro e w6 ⟨rfl, hk6, ho⟩
        have HR6 := Lib.hid (show Rr w6 R s q2 c from ho.elim (fun h => absurd h.1 HC.out) (fun h => h.2))
        have HK6 := Lib.hid (HK5.out.trans hk6)
        have HRow6 := Lib.hid (HRow5.out.keeps hk6 hR)
        have hl0 : 1 ≤ (rest s q).length := by rw [rest_len]; have := HM.out.2.1; omega
        clear ho hk6
        have HN2 := Lib.hid (show ArgsLoopR R n s w res (gk - 1) (.slice (some ⟨g, 0, none⟩) (acc.length + 1) cap) w6 q2 (acc ++ [u]) from
          ⟨HK6.out, HRow6.out, .inr ⟨c, HC.out, HR6.out, by rw [HM.out.2.2.2.2]; exact args_err HOe.out⟩⟩)
        have HGk := Lib.hid (show gk - 1 < gk by have := HM.out.2.2.2.1; omega)
        clear hl0
        go_wp2_with fail
        go_roundg (gk - 1)
        case measure => exact HGk.out
        case rel => exact ⟨q2, acc ++ [u], _, rfl, HN2.out⟩
    · have hee := m1.err
      have hcc : (c == 0) = false := by simpa using hc0
      have HE := Lib.hid (show ArgsReadR R s w res (.returned (.slice none 0 0)) wr from ⟨q, k1, .inr ⟨c, hc0, m2, rfl, m1⟩⟩)
      clear k1 k2 m1 m2 hI hc0
      go_wp2_with fail
      go_ret
      exact HE.out
end Go.Proofs.YtlpibnbabgfiiaaGreatDoor
