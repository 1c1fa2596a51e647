/-
  The contract of the reference's ParseAtom.
-/
import Derived.Test.YtlpibnbabgfiiaaGreatDoorTrParse
namespace Go.Proofs.YtlpibnbabgfiiaaGreatDoor
open Go.RowKit

theorem boxP2 {w w' : World} {v0 v1 : Value} {T : TypeId} {o : Obj} (hk : Keeps (w.heap.size + 1) ((w.alloc (.cells #[v0, v1] T)).alloc o) w') :
    w'.cell? ⟨w.heap.size, 0, none⟩ = some v0 ∧ w'.cell? ⟨w.heap.size, 1, none⟩ = some v1 ∧ w'.frozen? ⟨w.heap.size, 0, none⟩ = false ∧ w'.frozen? ⟨w.heap.size, 1, none⟩ = false ∧ w.heap.size < w'.heap.size := by
  obtain ⟨h1, h2, h3⟩ := boxP hk
  exact ⟨h1 0 _ rfl, h1 1 _ rfl, h2 0, h2 1, h3⟩
theorem answera_put {w W : World} {res : PR (List UInt8 × List Tm)} {e : Ending} {S : ByteArray} {l : List Tm} {A : Option Addr} {c : Nat} (hS : S.size ≤ 16384) (hb : Below w.heap.size w W) (hu : LiveL (w.heap.size + 1) No W A l c) (ho : Outa res S l A c e) :
    AnswerA w res e ((W.setCell ⟨w.heap.size, 0, none⟩ (.string S)).setCell ⟨w.heap.size, 1, none⟩ (.slice A l.length c)) :=
  ⟨S, l, A, c, hS, ((hu.set (p := ⟨w.heap.size, 0, none⟩) (.inl (Nat.lt_succ_self _)) _).set (p := ⟨w.heap.size, 1, none⟩) (.inl (Nat.lt_succ_self _)) _).lst, (hb.setCell (p := ⟨w.heap.size, 0, none⟩) (Nat.le_refl _) _).setCell (p := ⟨w.heap.size, 1, none⟩) (Nat.le_refl _) _, ho⟩
/-- A name and its arguments, where the name was right. -/
def ArgsMid (R : Nat) (s : ByteArray) (res : PR (List UInt8 × List Tm)) (y : ByteArray) (w : World) (e : Ending) (w' : World) : Prop :=
  ∃ l A c q er, e = .returned (.slice A l.length c) ∧ Keeps R w w' ∧ Rr w' R s q er ∧ LiveL w.heap.size No w' A l c ∧
    ((er = 0 ∧ res = .ok (y.data.toList, stripL l) (skip (rest s q))) ∨ (er ≠ 0 ∧ res = .err er))
theorem args_mid (s : ByteArray) (n : Nat) (hs : s.size ≤ 16384) (R p2 : Nat) (w : World) (y : ByteArray) (r : List UInt8) (hlow : lowB (r.headD 0) = true) (hy : y.data.toList = r.takeWhile inB) (hd : rest s p2 = r.dropWhile inB) (hn : r.length ≤ n)
    (ho : (rightB y.data.toList = true ∧ Rr w R s p2 0) ∨ (rightB y.data.toList = false ∧ Rr w R s p2 7)) :
    Calls Tryz.prog 50 #[.pointer (some ⟨R, 0, none⟩)] w (ArgsMid R s (atomP (exprP n) r) y w) := by
  have hsm : s.size ≤ maxLen := by unfold maxLen; omega
  rcases ho with ⟨hb, hr⟩ | ⟨hb, hr⟩
  · by_cases h40 : (skip (rest s p2)).headD 0 = 40
    · obtain ⟨aE, aO⟩ := atom_args (ex := exprP n) (r := r) hlow (by rw [← hy]; exact hb) (by rw [← hd]; exact h40)
      rw [← hd] at aE aO
      have hlen : (skip (skip (rest s p2)).tail).length < n := by
        have h1 := skip_len (skip (rest s p2)).tail
        have h2 := skip_len (rest s p2)
        have h3 : (skip (rest s p2)).tail.length + 1 = (skip (rest s p2)).length := by
          obtain ⟨z, hz⟩ := head_cons h40 (by decide)
          rw [hz]; rfl
        have h4 := take_drop_while inB r
        have h5 := word_pos (r := r) (by rw [← hy]; exact hb)
        rw [hd] at h1 h2 h3 ⊢
        omega
      refine (argsr_some s n (exprr_all s hs n) R p2 w hs hr h40 hlen).mono ?_
      rintro e w' ⟨p3, hk, ho⟩
      rcases ho with ⟨l, A, c, ho, hl0, hl1, hL, rfl, hr3⟩ | ⟨c, hc0, ho, rfl, hr3⟩
      · exact ⟨l, _, c, p3, 0, rfl, hk, hr3, hL, .inl ⟨rfl, by rw [aO _ _ ho, hy]⟩⟩
      · exact ⟨[], none, 0, p3, c, rfl, hk, hr3, liveL_nil, .inr ⟨hc0, aE _ ho⟩⟩
    · refine (argsr_none s R p2 w hsm hr h40).mono ?_
      rintro e w' ⟨p3, hq, rfl, hk, hr3⟩
      exact ⟨[], none, 0, p3, 0, rfl, hk, hr3, liveL_nil, .inl ⟨rfl, by rw [atom_alone hlow (by rw [← hy]; exact hb) (by rw [← hd]; exact h40), hy, hq, skip_skip, hd]; rfl⟩⟩
  · refine (argsr_err s R p2 7 w hsm hr (by omega)).mono ?_
    rintro e w' ⟨p3, rfl, hk, hr3⟩
    exact ⟨[], none, 0, p3, 7, rfl, hk, hr3, liveL_nil, .inr ⟨by omega, atom_name hlow (by rw [← hy]; exact hb)⟩⟩

set_option maxHeartbeats 4000000 in
set_option maxRecDepth 10000 in
theorem parsear_at (s : ByteArray) (w : World) (hs : s.size ≤ maxLen) : Calls Tryz.prog 21 #[.string s] w (AnswerA w (parseA s.data.toList)) := by
  have hs' : s.size ≤ 9223372036854775807 := by unfold maxLen at hs; omega
  by_cases hbig : 16384 < s.size
  · have hb : (16384 : Int) < (s.size : Int) := by omega
    have HV := Lib.hid (parse_size (l := s.data.toList) (by rw [size_list]; exact hbig)).2
    clear hbig
    go_enter Tryz.func21, Tryz.ntmps21
    go_wp2_with fail
    refine bodyPost_ret (v := .tuple #[.agg #[.string ⟨#[]⟩, .slice none 0 0], .int .i64 6]) (by simp [results, Tryz.results21, go_sem]) rfl ?_
    exact ⟨⟨#[]⟩, [], none, 0, Nat.zero_le _, Lst.nil _, (Below.refl _ _).alloc (Nat.le_refl _) _, .inr ⟨6, by omega, HV.out, rfl, rfl, rfl, rfl, rfl⟩⟩
  · have hb : decide ((16384 : Int) < (s.size : Int)) = false := by simp; omega
    have hsz : s.size ≤ 16384 := by omega
    have HBig := Lib.hid (show ¬ 16384 < s.data.toList.length by rw [size_list]; exact hbig)
    clear hbig
    go_enter Tryz.func21, Tryz.ntmps21
    go_wp2_with fail
    refine (nextr_at s (w.heap.size + 1) 0 0 _ hs (rr_new s w _ _)).mono ?_
    rintro e w1 ⟨p1, x, hq, hx, rfl, hk, hr⟩
    obtain ⟨r, hrr⟩ : ∃ r, r = skip s.data.toList := ⟨_, rfl⟩
    have hp1 : rest s p1 = r := by rw [hrr]; exact hq
    have hx0 : r.headD 0 = x := by rw [← hp1]; exact hx.elim (fun h => h.2) (fun h => absurd rfl h.1)
    have HRr := Lib.hid hrr
    have HP1 := Lib.hid hp1
    have HX := Lib.hid hx0
    have HK := Lib.hid hk
    have HR := Lib.hid hr
    clear hq hx hk hr hp1 hx0 hrr
    cases hlo : lowB x
    · have HV := Lib.hid (show parseA s.data.toList = .err 16 by rw [parsea_err HBig.out (by rw [← HRr.out]; exact atom_low (by rw [HX.out]; exact hlo))])
      simp only [lowB, decide_eq_false_iff_not] at hlo
      obtain ⟨c0, c1, f0, f1, hz⟩ := boxP2 HK.out
      have HBw := Lib.hid (Keeps.below (a := w) (((Below.refl _ _).alloc (Nat.le_refl _) _).alloc (by simp) _) HK.out (by omega))
      by_cases h97 : x.toNat < 97
      · have b1 : (x.toNat : Int) < 97 := by omega
        clear hlo h97
        go_wp2_with fail
        refine bodyPost_ret (v := .tuple #[.agg #[.string ⟨#[]⟩, .slice none 0 0], .int .i64 16]) (by simp [results, Tryz.results21, go_sem, c0, c1]) rfl ?_
        exact answera_put (l := []) (Nat.zero_le _) HBw.out liveL_nil (.inr ⟨16, by omega, HV.out, rfl, rfl, rfl, rfl, rfl⟩)
      · have b1 : decide ((x.toNat : Int) < 97) = false := by simp; omega
        have b2 : (122 : Int) < (x.toNat : Int) := by omega
        clear hlo h97
        go_wp2_with fail
        refine bodyPost_ret (v := .tuple #[.agg #[.string ⟨#[]⟩, .slice none 0 0], .int .i64 16]) (by simp [results, Tryz.results21, go_sem, c0, c1]) rfl ?_
        exact answera_put (l := []) (Nat.zero_le _) HBw.out liveL_nil (.inr ⟨16, by omega, HV.out, rfl, rfl, rfl, rfl, rfl⟩)
    · have HLo := Lib.hid hlo
      simp only [lowB, decide_eq_true_eq] at hlo
      have b1 : decide ((x.toNat : Int) < 97) = false := by simp; omega
      have b2 : decide ((122 : Int) < (x.toNat : Int)) = false := by simp; omega
      clear hlo
      go_wp2_with fail
      refine (namer_at s (w.heap.size + 1) p1 _ hs HR.out).mono ?_
      rintro e w2 ⟨p2, y, hy, hd2, hp2, rfl, hk2, ho⟩
      rw [HP1.out] at hy hd2
      have hys : y.size ≤ 16384 := by have := (ho.elim (fun h => h.2.le) (fun h => h.2.le)); omega
      have QA := Lib.hid (args_mid s (s.data.toList.length + 1) hsz (w.heap.size + 1) p2 w2 y r (by rw [HX.out]; exact HLo.out) hy hd2 (by have := skip_len s.data.toList; rw [← HRr.out] at this; omega) ho)
      have HK2 := Lib.hid (HK.out.trans hk2)
      clear hy hd2 hp2 hk2 ho
      go_wp2_with fail
      refine QA.out.mono ?_
      rintro e w3 ⟨l, A, c, q, er, rfl, hk3, hr3, hL, ho⟩
      have hR3 : w.heap.size + 1 < w3.heap.size := hr3.lt
      have HK3 := Lib.hid (HK2.out.trans hk3)
      have HR3 := Lib.hid hr3
      have hlow2 : w.heap.size + 2 ≤ w2.heap.size := by have := HK2.out.size; simpa using this
      have HL := Lib.hid (show LiveL (w.heap.size + 2) No w3 A l c from hL.low hlow2)
      have HO := Lib.hid ho
      clear hk3 hr3 hL ho
      go_wp2_with fail
      refine (endr_at s (w.heap.size + 1) q er _ hs (HR3.out.alloc _)).mono ?_
      rintro e w4 ⟨q2, er2, rfl, hk4, hr4, ho2⟩
      have HK4 := Lib.hid ((HK3.out.alloc _).trans hk4)
      have HL4 := Lib.hid ((HL.out.alloc (.cells #[.string y, .slice A l.length c] 34)).keeps hk4 (by omega))
      have HR4 := Lib.hid hr4
      have hee := hr4.err
      have hff := hr4.free2
      obtain ⟨e0, e1, -, -, hz4⟩ := boxK2 (w := w3) hR3 hk4
      clear hk4 hr4
      by_cases her : er2 = 0
      · have hok : er = 0 ∧ skip (rest s q) = [] := by
          rcases ho2 with ⟨h1, h2⟩ | ⟨h1, h2, _⟩ | ⟨h1, h2, h3⟩
          · exact absurd (h2 ▸ her) h1
          · exact ⟨h1, h2⟩
          · rw [h3] at her; exact absurd her (by decide)
        subst her
        have hex : atomP (exprP (s.data.toList.length + 1)) (skip s.data.toList) = .ok (y.data.toList, stripL l) [] := by
          rw [← HRr.out]
          rcases HO.out with ⟨_, h2⟩ | ⟨h1, _⟩
          · rw [h2, hok.2]
          · exact absurd hok.1 h1
        have hz3 := atom_sized (expr_sized _) _ hex
        have hz5 := skip_len s.data.toList
        rw [size_list] at hz5
        rw [size_strip.2] at hz3
        have hsz2 : sizeL l ≤ 1000000 := by omega
        have HV := Lib.hid (show parseA s.data.toList = if atomB y.data.toList l then .ok (y.data.toList, stripL l) [] else .err 6 by rw [parsea_end HBig.out hex, atomR_B])
        clear hok ho2 hex hz3 hz5
        obtain ⟨b, hb2⟩ : ∃ b, atomB y.data.toList l = b := ⟨_, rfl⟩
        have Q3 := Lib.hid (ref_right_atom_at ⟨y, A, c, l⟩ w4 ⟨by unfold maxLen; show y.size ≤ _; omega, HL4.out.lst⟩ hsz2 hb2)
        rw [hb2] at HV
        go_wp2_with fail
        refine Q3.out.mono ?_
        rintro e w5 ⟨rfl, hb3⟩
        have HK5 := Lib.hid (HK4.out.trans (Below.keeps hb3 _))
        have HR5 := Lib.hid (HR4.out.below hb3)
        have HL5 := Lib.hid (HL4.out.below2 hb3)
        have e0' : w5.cell? ⟨w3.heap.size, 0, none⟩ = some (.string y) := by rw [hb3.cell (p := ⟨w3.heap.size, 0, none⟩) hz4]; exact e0
        have e1' : w5.cell? ⟨w3.heap.size, 1, none⟩ = some (.slice A l.length c) := by rw [hb3.cell (p := ⟨w3.heap.size, 1, none⟩) hz4]; exact e1
        clear e0 e1 hee hff hb3 hb2
        obtain ⟨c0, c1, f0, f1, hz⟩ := boxP2 HK5.out
        have hee := HR5.out.err
        have hff := HR5.out.free2
        have HBw := Lib.hid (Keeps.below (a := w) (((Below.refl _ _).alloc (Nat.le_refl _) _).alloc (by simp) _) HK5.out (by omega))
        cases b
        · go_wp2_with fail
          go_region
          go_wp2_with fail
          refine bodyPost_ret (v := .tuple #[.agg #[.string ⟨#[]⟩, .slice none 0 0], .int .i64 6]) (by simp [results, Tryz.results21, go_sem, c0, c1]) rfl ?_
          exact answera_put (l := []) (Nat.zero_le _) (HBw.out.setCell (p := ⟨w.heap.size + 1, 2, none⟩) (by simp) _).drew liveL_nil (.inr ⟨6, by omega, HV.out, rfl, rfl, rfl, rfl, rfl⟩)
        · go_wp2_with fail
          refine bodyPost_ret (v := .tuple #[.agg #[.string y, .slice A l.length c], .int .i64 0]) (by simp [results, Tryz.results21, go_sem, c0, c1]) rfl ?_
          exact answera_put hys HBw.out (HL5.out.low (by omega)) (.inl ⟨HV.out, rfl⟩)
      · have HV := Lib.hid (show parseA s.data.toList = .err er2 by
          rcases ho2 with ⟨h1, h2⟩ | ⟨h1, h2, h3⟩ | ⟨h1, h2, h3⟩
          · rcases HO.out with ⟨h4, _⟩ | ⟨_, h4⟩
            · exact absurd h4 h1
            · rw [parsea_err HBig.out (by rw [← HRr.out]; exact h4), h2]
          · exact absurd h3 her
          · rcases HO.out with ⟨_, h4⟩ | ⟨h4, _⟩
            · rw [parsea_more HBig.out (by rw [← HRr.out]; exact h4) h2, h3]
            · exact absurd h1 h4)
        have HEr := Lib.hid her
        have b1 : (er2 == 0) = false := by simpa using her
        have b2 : (er2 != 0) = true := by simpa using her
        obtain ⟨c0, c1, f0, f1, hz⟩ := boxP2 HK4.out
        have HBw := Lib.hid (Keeps.below (a := w) (((Below.refl _ _).alloc (Nat.le_refl _) _).alloc (by simp) _) HK4.out (by omega))
        clear her ho2
        go_wp2_with fail
        go_region
        go_wp2_with fail
        refine bodyPost_ret (v := .tuple #[.agg #[.string ⟨#[]⟩, .slice none 0 0], .int .i64 er2]) (by simp [results, Tryz.results21, go_sem, c0, c1]) rfl ?_
        exact answera_put (l := []) (Nat.zero_le _) HBw.out.drew liveL_nil (.inr ⟨er2, HEr.out, HV.out, rfl, rfl, rfl, rfl, rfl⟩)
end Go.Proofs.YtlpibnbabgfiiaaGreatDoor
