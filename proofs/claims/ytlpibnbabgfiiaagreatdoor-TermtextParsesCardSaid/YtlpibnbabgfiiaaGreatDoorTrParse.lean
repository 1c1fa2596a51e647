/-
  Contracts of the reference's expr (all texts), end, Parse.
-/
import Derived.Test.YtlpibnbabgfiiaaGreatDoorTrChain0
import Derived.Test.YtlpibnbabgfiiaaGreatDoorTrChain1
import Derived.Test.YtlpibnbabgfiiaaGreatDoorTtSized
import Derived.Test.YtlpibnbabgfiiaaGreatDoorTtWhole
namespace Go.Proofs.YtlpibnbabgfiiaaGreatDoor
open Go.RowKit

theorem exprr_all (s : ByteArray) (hs : s.size ≤ 16384) : ∀ n, ExprR s n
  | 0 => fun _ _ _ _ h => absurd h (Nat.not_lt_zero _)
  | n + 1 => fun R p w h hn => rchain0_at s n (level 1 (opnd (exprP n))) (level_shrinks (opnd_shrinks (expr_shrinks n))) R
      (fun p w h hn => rchain1_at s n (opnd (exprP n)) (opnd_shrinks (expr_shrinks n)) R (fun p w h hn => opndr_at s n (exprr_all s hs n) R p w hs h hn) p w hs h hn) p w hs h (by omega)

/-- The reader is at the end, or the error is set. -/
def Ended (R : Nat) (s : ByteArray) (p : Nat) (er : Int) (w : World) (e : Ending) (w' : World) : Prop :=
  ∃ p' er', e = .returned (.tuple #[]) ∧ Keeps R w w' ∧ Rr w' R s p' er' ∧ ((er ≠ 0 ∧ er' = er) ∨ (er = 0 ∧ skip (rest s p) = [] ∧ er' = 0) ∨ (er = 0 ∧ skip (rest s p) ≠ [] ∧ er' = 16))
set_option maxHeartbeats 1000000 in
theorem endr_at (s : ByteArray) (R p : Nat) (er : Int) (w : World) (hs : s.size ≤ maxLen) (h : Rr w R s p er) :
    Calls Tryz.prog 45 #[.pointer (some ⟨R, 0, none⟩)] w (Ended R s p er w) := by
  have hs' : s.size ≤ 9223372036854775807 := by unfold maxLen at hs; omega
  have Q := Lib.hid (nextr_at s R p er w hs h)
  clear h hs
  go_enter Tryz.func45, Tryz.ntmps45
  go_wp2_with fail
  refine Q.out.mono ?_
  rintro e w1 ⟨q, x, hq, hx, rfl, hk, hr⟩
  have ht := hr.txt
  have hp := hr.pos
  have hle := hr.le
  have HK := Lib.hid hk
  have HR := Lib.hid hr
  have HQ := Lib.hid hq
  clear hk hr hq hx
  by_cases hc : q < s.size
  · have hd : (q : Int) < (s.size : Int) := by omega
    have hne : skip (rest s p) ≠ [] := by rw [← HQ.out, rest_cons hc]; simp
    have HN := Lib.hid hne
    clear hc hne
    go_wp2_with fail
    go_quiet (fail)
    go_wp2_with fail
    refine (fail_at s R q er 16 _ (HR.out.drewN _)).mono ?_
    rintro e w2 ⟨rfl, hk2, ho⟩
    have HK2 := Lib.hid ((HK.out.drewN _).trans hk2)
    have HO := Lib.hid ho
    clear hk2 ho
    go_wp2_with fail
    go_end0
    rcases HO.out with ⟨h1, h2⟩ | ⟨h1, h2⟩
    · exact ⟨q, 16, rfl, HK2.out, h2, .inr (.inr ⟨h1, HN.out, rfl⟩)⟩
    · exact ⟨q, er, rfl, HK2.out, h2, .inl ⟨h1, rfl⟩⟩
  · have hd : decide (q < s.size) = false := by simp; omega
    have hne : skip (rest s p) = [] := by rw [← HQ.out, rest_end (by omega)]
    have HN := Lib.hid hne
    clear hc hne
    go_wp2_with fail
    go_quiet (fail)
    go_wp2_with fail
    go_end0
    by_cases he : er = 0
    · exact ⟨q, er, rfl, HK.out.drewN _, HR.out.drewN _, .inr (.inl ⟨he, HN.out, he⟩)⟩
    · exact ⟨q, er, rfl, HK.out.drewN _, HR.out.drewN _, .inl ⟨he, rfl⟩⟩

theorem rr_new (s : ByteArray) (w : World) (o : Obj) (T : TypeId) : Rr ((w.alloc o).alloc (.cells #[.string s, .int .i64 0, .int .i64 0] T)) (w.heap.size + 1) s 0 0 := by
  have hz : w.heap.size + 1 = (w.alloc o).heap.size := by simp
  refine ⟨by simp, ?_, ?_, ?_, ?_, ?_, Nat.zero_le _⟩
  · rw [World.cell?_alloc_at _ _ _ _ hz]; rfl
  · rw [World.cell?_alloc_at _ _ _ _ hz]; rfl
  · rw [World.cell?_alloc_at _ _ _ _ hz]; rfl
  · rw [World.frozen?_alloc_at _ _ _ _ hz]
  · rw [World.frozen?_alloc_at _ _ _ _ hz]
theorem answer_put {w W : World} {u : Tm} {res : PR Tm} {e : Ending} (hb : Below w.heap.size w W) (hu : Live (w.heap.size + 1) No W u) (ho : Outw res u e)
    {k n : Int} {nm : ByteArray} {A : Option Addr} {l c : Nat} (_hu : u.val = .agg #[.int .i64 k, .int .i64 n, .string nm, .slice A l c]) :
    Answer w res e ((((W.setCell ⟨w.heap.size, 0, none⟩ (.int .i64 k)).setCell ⟨w.heap.size, 1, none⟩ (.int .i64 n)).setCell ⟨w.heap.size, 2, none⟩ (.string nm)).setCell ⟨w.heap.size, 3, none⟩ (.slice A l c)) :=
  ⟨u, (hu.put4 (b := w.heap.size) (.inl (Nat.lt_succ_self _))).at, (((hb.setCell (p := ⟨w.heap.size, 0, none⟩) (Nat.le_refl _) _).setCell (p := ⟨w.heap.size, 1, none⟩) (Nat.le_refl _) _).setCell (p := ⟨w.heap.size, 2, none⟩) (Nat.le_refl _) _).setCell (p := ⟨w.heap.size, 3, none⟩) (Nat.le_refl _) _, ho⟩

set_option maxHeartbeats 4000000 in
set_option maxRecDepth 10000 in
theorem parser_at (s : ByteArray) (w : World) (hs : s.size ≤ maxLen) : Calls Tryz.prog 19 #[.string s] w (Answer w (parseP s.data.toList)) := by
  have hs' : s.size ≤ 9223372036854775807 := by unfold maxLen at hs; omega
  by_cases hbig : 16384 < s.size
  · have hb : (16384 : Int) < (s.size : Int) := by omega
    have HV := Lib.hid (parse_size (l := s.data.toList) (by rw [size_list]; exact hbig)).1
    clear hbig
    go_enter Tryz.func19, Tryz.ntmps19
    go_wp2_with fail
    refine bodyPost_ret (v := .tuple #[.agg #[.int .i64 0, .int .i64 0, .string ⟨#[]⟩, .slice none 0 0], .int .i64 6]) (by simp [results, Tryz.results19, go_sem]) rfl ?_
    exact ⟨intT 0, zeroT_at _, (Below.refl _ _).alloc (Nat.le_refl _) _, .inr ⟨6, by omega, HV.out, rfl, rfl⟩⟩
  · have hb : decide ((16384 : Int) < (s.size : Int)) = false := by simp; omega
    have hsz : s.size ≤ 16384 := by omega
    have HBig := Lib.hid (show ¬ 16384 < s.data.toList.length by rw [size_list]; exact hbig)
    clear hbig
    go_enter Tryz.func19, Tryz.ntmps19
    go_wp2_with fail
    refine (exprr_all s hsz (s.size + 1) (w.heap.size + 1) 0 _ (rr_new s w _ _) (by have := skip_len (rest s 0); rw [rest_len] at this; omega)).mono ?_
    rintro e w1 ⟨u, q, rfl, hu, hk, ho⟩
    rw [rest_zero, ← size_list] at ho
    have hR1 : w.heap.size + 1 < w1.heap.size := by have := hk.size; simp at this; omega
    have HG : ∃ er : Int, Hid (Rr w1 (w.heap.size + 1) s q er ∧ ((er = 0 ∧ u.size ≤ 1000000 ∧ exprP (s.data.toList.length + 1) (skip s.data.toList) = .ok u.strip (skip (rest s q))) ∨ (er ≠ 0 ∧ exprP (s.data.toList.length + 1) (skip s.data.toList) = .err er))) := by
      rcases ho with ⟨t, h1, h2, h3⟩ | ⟨c, h1, h2, h3⟩
      · have hz := expr_sized _ _ _ _ h1
        have hz2 := skip_len s.data.toList
        rw [size_list] at hz2
        exact ⟨0, h3, .inl ⟨rfl, by rw [← size_strip.1 u, h2]; omega, by rw [h2]; exact h1⟩⟩
      · exact ⟨c, h3, .inr ⟨h1, h2⟩⟩
    obtain ⟨er, HG⟩ := HG
    have HK := Lib.hid hk
    have HU := Lib.hid (show Live (w.heap.size + 2) No w1 u from hu.low (by simp))
    have HBx := Lib.hid (Box.new w1 u 24)
    clear hk hu ho
    go_wp2_with fail
    refine (endr_at s (w.heap.size + 1) q er _ hs (HG.out.1.alloc _)).mono ?_
    rintro e w2 ⟨q2, er2, rfl, hk2, hr2, ho2⟩
    have HK2 := Lib.hid ((HK.out.alloc _).trans hk2)
    have HB2 := Lib.hid (HBx.out.keeps hk2 (by omega))
    have HU2 := Lib.hid ((HU.out.alloc (.cells #[.int .i64 u.kind, .int .i64 u.num, .string u.name, .slice u.at_ u.args.length u.cap] 24)).keeps hk2 (by omega))
    have hee := hr2.err
    have hff := hr2.free2
    have HR2 := Lib.hid hr2
    have e0 := HB2.out.c0
    have e1 := HB2.out.c1
    have e2 := HB2.out.c2
    have e3 := HB2.out.c3
    clear hk2 hr2
    -- an error from before, or from the end; or none
    by_cases her : er2 = 0
    · have hok : er = 0 ∧ skip (rest s q) = [] := by
        rcases ho2 with ⟨h1, h2⟩ | ⟨h1, h2, _⟩ | ⟨h1, h2, h3⟩
        · exact absurd (h2 ▸ her) h1
        · exact ⟨h1, h2⟩
        · rw [h3] at her; exact absurd her (by decide)
      subst her
      have hex : u.size ≤ 1000000 ∧ exprP (s.data.toList.length + 1) (skip s.data.toList) = .ok u.strip [] := by
        rcases HG.out.2 with ⟨_, h2, h3⟩ | ⟨h1, _⟩
        · exact ⟨h2, by rw [h3, hok.2]⟩
        · exact absurd hok.1 h1
      have hsz2 := hex.1
      have HV := Lib.hid (show parseP s.data.toList = if u.right then .ok u.strip [] else .err 6 by rw [parse_end HBig.out hex.2, right_strip])
      clear hok ho2 hex
      obtain ⟨b, hb2⟩ : ∃ b, u.right = b := ⟨_, rfl⟩
      have Q3 := Lib.hid (ref_right_tm_at u w2 HU2.out.at hsz2 hb2)
      rw [hb2] at HV
      go_wp2_with fail
      refine Q3.out.mono ?_
      rintro e w3 ⟨rfl, hb3⟩
      have HK3 := Lib.hid (HK2.out.trans (Below.keeps hb3 _))
      have HB3 := Lib.hid (HB2.out.below hb3)
      have HR3 := Lib.hid (HR2.out.below hb3)
      have HU3 := Lib.hid (HU2.out.below hb3)
      clear e0 e1 e2 e3 hee hff hb3 hb2
      obtain ⟨hc, hf, hz⟩ := boxP HK3.out
      have c0 := hc 0 _ rfl
      have c1 := hc 1 _ rfl
      have c2 := hc 2 _ rfl
      have c3 := hc 3 _ rfl
      have f0 := hf 0
      have f1 := hf 1
      have f2 := hf 2
      have f3 := hf 3
      clear hc hf
      have hee := HR3.out.err
      have hff := HR3.out.free2
      have e0 := HB3.out.c0
      have e1 := HB3.out.c1
      have e2 := HB3.out.c2
      have e3 := HB3.out.c3
      have HBw := Lib.hid (Keeps.below (a := w) (((Below.refl _ _).alloc (Nat.le_refl _) _).alloc (by simp) _) HK3.out (by omega))
      cases b
      · go_wp2_with fail
        go_region
        go_wp2_with fail
        refine bodyPost_ret (v := .tuple #[.agg #[.int .i64 0, .int .i64 0, .string ⟨#[]⟩, .slice none 0 0], .int .i64 6]) (by simp [results, Tryz.results19, go_sem, c0, c1, c2, c3]) rfl ?_
        exact answer_put (u := intT 0) (HBw.out.setCell (p := ⟨w.heap.size + 1, 2, none⟩) (by simp) _).drew (Live.any zeroT_at) (.inr ⟨6, by omega, HV.out, rfl, rfl⟩) rfl
      · go_wp2_with fail
        refine bodyPost_ret (v := .tuple #[u.val, .int .i64 0]) (by simp [results, Tryz.results19, go_sem, c0, c1, c2, c3]) rfl ?_
        exact answer_put HBw.out (HU3.out.low (by omega)) (.inl ⟨_, HV.out, rfl, rfl⟩) rfl
    · have HV := Lib.hid (show parseP s.data.toList = .err er2 by
        rcases ho2 with ⟨h1, h2⟩ | ⟨h1, h2, h3⟩ | ⟨h1, h2, h3⟩
        · rcases HG.out.2 with ⟨h4, _⟩ | ⟨_, h4⟩
          · exact absurd h4 h1
          · rw [parse_err HBig.out h4, h2]
        · exact absurd h3 her
        · rcases HG.out.2 with ⟨_, _, h4⟩ | ⟨h4, _⟩
          · rw [parse_more HBig.out h4 h2, h3]
          · exact absurd h1 h4)
      have HEr := Lib.hid her
      have b1 : (er2 == 0) = false := by simpa using her
      have b2 : (er2 != 0) = true := by simpa using her
      obtain ⟨hc, hf, hz⟩ := boxP HK2.out
      have c0 := hc 0 _ rfl
      have c1 := hc 1 _ rfl
      have c2 := hc 2 _ rfl
      have c3 := hc 3 _ rfl
      have f0 := hf 0
      have f1 := hf 1
      have f2 := hf 2
      have f3 := hf 3
      have HBw := Lib.hid (Keeps.below (a := w) (((Below.refl _ _).alloc (Nat.le_refl _) _).alloc (by simp) _) HK2.out (by omega))
      clear hc hf her ho2
      go_wp2_with fail
      go_region
      go_wp2_with fail
      refine bodyPost_ret (v := .tuple #[.agg #[.int .i64 0, .int .i64 0, .string ⟨#[]⟩, .slice none 0 0], .int .i64 er2]) (by simp [results, Tryz.results19, go_sem, c0, c1, c2, c3]) rfl ?_
      exact answer_put (u := intT 0) HBw.out.drew (Live.any zeroT_at) (.inr ⟨er2, HEr.out, HV.out, rfl, rfl⟩) rfl
end Go.Proofs.YtlpibnbabgfiiaaGreatDoor
