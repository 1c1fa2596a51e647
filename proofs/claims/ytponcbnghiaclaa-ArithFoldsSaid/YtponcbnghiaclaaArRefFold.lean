/-
  Contract of Fold of the reference.
-/
import Derived.Test.YtponcbnghiaclaaArRefRow
import Derived.Test.YtponcbnghiaclaaArRefEval
import Derived.Deep.RegionLaw
import Derived.Deep.AppendLies
import Derived.RegionTactic
namespace Go.Proofs.Ytponcbnghiaclaa
open Go.RowKit

theorem below3 (w : World) (o p q : Obj) : Below w.heap.size w (((w.alloc o).alloc p).alloc q) := (below2 w o p).trans ((below1 _ q).mono (below2 w o p).size)

set_option maxHeartbeats 8000000 in
theorem ref_fold_plain (k n : Int) (s : ByteArray) (A : Option Addr) (c : Nat) (a : List Tm) (w : World) (hk : k ≠ 2) (hat : (Tm.mk k n s A c a).At w) :
    Calls Try.prog 19 #[.agg #[.int .i64 k, .int .i64 n, .string s, .slice A a.length c]] w (Folded (.mk k n s A c a) w) := by
  have n2 : (k == 2) = false := by simpa using hk
  have HV := Lib.hid (show (Tm.mk k n s A c a).fold = fin (.mk k n s A c a) by simp only [Tm.fold, if_neg hk])
  have HP := Lib.hid (fin_num_of (t := .mk k n s A c a))
  have HM := Lib.hid (fin_self (t := .mk k n s A c a))
  have HI := Lib.hid (eval_in (t := .mk k n s A c a))
  have QE := Lib.hid (fun W (h : (Tm.mk k n s A c a).At W) => ref_eval_at (.mk k n s A c a) W h)
  have HA := Lib.hid hat
  clear hat hk
  go_enter Try.func19, Try.ntmps19
  go_wp2_with fail
  have B3 := Lib.hid (boxes3_laid w (.int .i64 k) (.int .i64 n) (.string s) (.slice A a.length c) (.slice A a.length c) 30)
  have W3 := Lib.hid (below3 w (.cells #[.int .i64 k, .int .i64 n, .string s, .slice A a.length c] 30) (.cells #[.int .i64 0, .int .i64 0, .string ⟨#[]⟩, .slice none 0 0] 30) (.cells #[.int .i64 k, .int .i64 n, .string s, .slice A a.length c] 30))
  go_loopw [4] (fun i wr => i = .int .i64 0 ∧ Hid (Boxes3 w wr (.int .i64 k) (.int .i64 n) (.string s) (.slice A a.length c) (.slice A a.length c)) ∧ Below w.heap.size w wr) (fun _ _ => 0)
  case atStart => exact ⟨rfl, B3, W3.out⟩
  case round =>
    obtain ⟨rfl, BZ, hbw⟩ := hrel
    have HT := Lib.hid (HA.out.below hbw)
    have HS := Lib.hid (fun (W : World) (_ : Agree (w.heap.size + 3) wr.heap.size wr W) (_ : wr.heap.size ≤ W.heap.size) => stays_self w.heap.size W (fun _ => False) (.mk k n s A c a))
    obtain ⟨⟨d0, d1, d2, d3⟩, _, ⟨g0, g1, g2, g3⟩, _, _, hz3⟩ := BZ.out
    clear B3 W3
    generalize (Tm.mk k n s A c a).eval = p at *
    obtain ⟨p1, p2⟩ := p
    go_wp2_with fail
    refine (QE.out _ HT.out).mono ?_
    rintro e w4 ⟨rfl, hb5⟩
    have BW := Lib.hid (BZ.out.below hb5)
    have AI := Lib.hid (show Agree (w.heap.size + 3) wr.heap.size wr w4 from Agree.below hb5 (Nat.le_refl _))
    have hb6 := hbw.trans (hb5.mono hbw.size)
    have hs4 : wr.heap.size ≤ w4.heap.size := hb5.size
    clear d0 d1 d2 d3 g0 g1 g2 g3 hz3 hb5 BZ hbw
    by_cases hp : p2 = 0
    · subst hp
      obtain ⟨_, ⟨e0, e1, e2, e3⟩, _, hf, _, hz3⟩ := BW.out
      have f0 := hf 0
      have f1 := hf 1
      have f2 := hf 2
      have f3 := hf 3
      clear hf
      go_wp2_with fail
      refine bodyPost_ret (v := .agg #[.int .i64 0, .int .i64 p1, .string ⟨#[]⟩, .slice none 0 0]) (by simp [results, Try.results19, go_sem, e0, e1, e2, e3]) rfl ?_
      have hi := HI.out trivial
      refine ⟨numT p1, rfl, by rw [HV.out, HP.out trivial], stays_num _ _ _ _ hi, ?_⟩
      exact (((hb6.setCell (Nat.le_succ _) _).setCell (Nat.le_succ _) _).setCell (Nat.le_succ _) _).setCell (Nat.le_succ _) _
    · have m2 : (p2 == 0) = false := by simpa using hp
      have HX := Lib.hid hp
      obtain ⟨⟨d0, d1, d2, d3⟩, ⟨e0, e1, e2, e3⟩, ⟨g0, g1, g2, g3⟩, hf, _, hz3⟩ := BW.out
      have f0 := hf 0
      have f1 := hf 1
      have f2 := hf 2
      have f3 := hf 3
      clear hf hp
      go_wp2_with fail
      refine bodyPost_ret (v := .agg #[.int .i64 k, .int .i64 n, .string s, .slice A a.length c]) (by simp [results, Try.results19, go_sem, e0, e1, e2, e3]) rfl ?_
      refine ⟨(Tm.mk k n s A c a), rfl, by rw [HV.out, HM.out HX.out], HS.out _ ?_ ?_, ?_⟩
      · exact (((AI.out.set (by show w.heap.size + 1 < _; omega) _).set (by show w.heap.size + 1 < _; omega) _).set (by show w.heap.size + 1 < _; omega) _).set (by show w.heap.size + 1 < _; omega) _
      · simpa using hs4
      · exact (((hb6.setCell (Nat.le_succ _) _).setCell (Nat.le_succ _) _).setCell (Nat.le_succ _) _).setCell (Nat.le_succ _) _

set_option maxHeartbeats 16000000 in
theorem ref_fold_at (t : Tm) : ∀ w : World, t.At w → t.nodes ≤ 1000000 → Calls Try.prog 19 #[t.val] w (Folded t w) := by
  induction t using Tm.induct with
  | h k n s A c a ih =>
    intro w hat hnodes
    show Calls Try.prog 19 #[.agg #[.int .i64 k, .int .i64 n, .string s, .slice A a.length c]] w _
    by_cases hk : k = 2
    · subst hk
      have hl : Lst w A a c := hat.lst
      have hna : nodesL a ≤ 1000000 := by simp only [Tm.nodes] at hnodes; omega
      have hln : a.length ≤ 1000000 := by have := length_le_nodes a; omega
      have hlen : a.length ≤ 9223372036854775807 := by omega
      have HA := Lib.hid hat
      have HL := Lib.hid hl
      have QI := Lib.hid (fun x (hx : x ∈ a) W' (hx' : x.At W') => ih x hx W' hx' (by have := nodes_mem hx; omega))
      have HV := Lib.hid (show (Tm.mk 2 n s A c a).fold = fin (.mk 2 n s A c (foldL a)) by simp only [Tm.fold, if_true])
      obtain ⟨i0, hi0, hz0, hz1, hz2⟩ := info_parts term_info
      clear hat ih hl hna hnodes
      go_enter Try.func19, Try.ntmps19
      go_wp2_with fail
      have B3 := Lib.hid (boxes3_laid w (.int .i64 2) (.int .i64 n) (.string s) (.slice A a.length c) (.slice none 0 0) 30)
      have W3 := Lib.hid (below3 w (.cells #[.int .i64 2, .int .i64 n, .string s, .slice A a.length c] 30) (.cells #[.int .i64 0, .int .i64 0, .string ⟨#[]⟩, .slice none 0 0] 30) (.cells #[.int .i64 2, .int .i64 n, .string s, .slice none 0 0] 30))
      go_loopw [4] (fun i wr => ∃ j : Nat, j ≤ a.length ∧ i = .int .i64 j ∧ Hid (∃ ov, RDoing a (w.heap.size + 3) j ov wr ∧ Boxes3 w wr (.int .i64 2) (.int .i64 n) (.string s) (.slice A a.length c) ov) ∧ Below w.heap.size w wr) (fun i _ => a.length - (intOf i).toNat)
      case atStart => exact ⟨0, Nat.zero_le _, rfl, Lib.hid ⟨_, ⟨[], rfl, rfl, World.ownsRow_nil _ _ _ _, fun _ h => by cases h⟩, B3.out⟩, W3.out⟩
      case round =>
        obtain ⟨j, hj, rfl, HR, hbw⟩ := hrel
        clear B3 W3
        obtain ⟨ov, hrd, BZ0⟩ := HR.out
        have BZ := Lib.hid BZ0
        clear HR BZ0
        obtain ⟨⟨d0, d1, d2, d3⟩, _, ⟨g0, g1, g2, g3⟩, _, hfz, hz3⟩ := BZ.out
        by_cases hlt : j < a.length
        · obtain ⟨news, hn, hst, hrw, hks⟩ := hrd
          have HN := Lib.hid (show _ ∧ _ ∧ _ ∧ _ from ⟨hn, hst, hrw, hks⟩)
          obtain ⟨b, o, rfl, ⟨c0, c1, c2, c3⟩, hx⟩ := (HL.out.below hbw).get hlt
          have f3 := hfz 3
          have hmem := getD_mem hlt
          obtain ⟨x, hxe⟩ : ∃ x, x = a.getD j default := ⟨_, rfl⟩
          rw [← hxe] at c0 c1 c2 c3 hx hmem
          have Q1 := Lib.hid (fun W (h : Below wr.heap.size wr W) => QI.out x hmem W (hx.below h))
          have HX := Lib.hid hxe
          clear hn hst hrw hks hfz hxe hmem hx QI
          obtain ⟨k', n', s', A', c', a'⟩ := x
          simp only [Tm.kind, Tm.num, Tm.name, Tm.at_, Tm.args, Tm.cap] at c0 c1 c2 c3
          have KO := Lib.hid (fun k h => World.ownsRow.lt HN.out.2.2.1 k h)
          go_wp2_with fail
          go_region_law (first
            | (go_simp; go_at_call 19; refine (Q1.out _ (Below.refl _ _).drew).mono ?_; rintro e w2 ⟨u, rfl, hu, hst, hb2⟩; replace hb2 := undrew hb2; have BX2 := Lib.hid (BZ.out.below hb2); have OW := Lib.hid (own_below HN.out.2.2.1 hb2); have q3 := BX2.out.2.2.1.2.2.2; have hz4 := BX2.out.2.2.2.2.2; obtain ⟨k2, n2, s2, A2, p2, a2⟩ := u; have HST := Lib.hid (show _ ∧ _ ∧ _ from ⟨hu, hst, hb2⟩); clear hu hst hb2)
            | (refine step_append_lies _ (by rfl) _ _ _ (by rfl) (w.heap.size + 3) 30 i0 _ 4 56 Try.underlying28 hi0 hz0 hz1 hz2 rfl (by omega) ov j (tcells news) (by rfl) (OW.out.alloc _) ⟨w2.heap.size, 0, none⟩ 1 1 [.int .i64 k2, .int .i64 n2, .string s2, .slice A2 a2.length p2] (by rfl) (by rfl) (World.news_of_block (cs := #[.int .i64 k2, .int .i64 n2, .string s2, .slice A2 a2.length p2]) (t := 30) (fr := (0, 0)) (heap_alloc_new w2 _)) (by simp [Value.oneCell']) (by omega) (by unfold maxLen; omega) (by omega) (by simp; omega) (w2.heap.size + 1) (by simp) ?_; intro g cap w4 hown hgrow hat hgl; have BX4 := Lib.hid ((BX2.out.below (below1 w2 _)).grown hgrow (fun k h => (KO.out k h).1)); have q4 := BX4.out.2.2.1.2.2.2; have f4 := BX4.out.2.2.2.2.1 3; have hz5 := BX4.out.2.2.2.2.2))
          all_goals
            have HD := Lib.hid (rdoing_next (u := .mk k2 n2 s2 A2 p2 a2) news HN.out.1 HN.out.2.1 HN.out.2.2.2 (fun k h => (KO.out k h).2) hlt HX.out (by omega) HST.out.1 HST.out.2.1 HST.out.2.2 (below1 w2 _) hown hgrow (by rcases hat with h | h; exact .inl h; exact .inr (by rw [h]; simp)) ⟨w.heap.size + 1 + 1, 3, none⟩ (.slice (some ⟨g, 0, none⟩) (j + 1) cap) (by show w.heap.size + 1 + 1 < _; omega) rfl)
            have HB := Lib.hid (BX4.out.set (.slice (some ⟨g, 0, none⟩) (j + 1) cap))
            have HW := Lib.hid ((((hbw.trans (HST.out.2.2.mono hbw.size)).alloc (Nat.le_trans hbw.size HST.out.2.2.size) _).grown hgrow (by have := hbw.size; have := HST.out.2.2.size; simp; omega) (fun k h => by have := (KO.out k h).1; omega)).setCell (p := ⟨w.heap.size + 1 + 1, 3, none⟩) (by show w.heap.size ≤ w.heap.size + 1 + 1; omega) (.slice (some ⟨g, 0, none⟩) (j + 1) cap))
            clear hown hgrow hat BX4 BX2 HST OW
            go_wp2_with fail
            go_roundw
            case rel => exact ⟨j + 1, by omega, by go_num, Lib.hid ⟨_, HD.out, HB.out⟩, HW.out⟩
            case measure => simp [intOf]; omega
        · obtain rfl : j = a.length := by omega
          obtain ⟨A', cap, cur, rfl, hcl, hst, hlst⟩ := hrd.done
          have HU := Lib.hid (show (Tm.mk 2 n s A' cap cur).strip = (Tm.mk 2 n s A c (foldL a)).strip by simp only [Tm.strip, hst])
          have HS := Lib.hid (fun (W : World) (h2 : Agree (w.heap.size + 3) wr.heap.size wr W) (h3 : wr.heap.size ≤ W.heap.size) => stays_row' (w := w) (k := 2) (n := n) (s := s) (A := A) (c := c) (w' := W) hlst h2 (by omega) h3)
          have HT := Lib.hid (HS.out wr (fun _ _ _ => rfl) (Nat.le_refl _) wr (fun x hx => by rw [List.mem_singleton.1 hx]; exact HA.out.below hbw) (fun _ _ _ _ => rfl))
          have QE := Lib.hid (fun W (h : (Tm.mk 2 n s A' cap cur).At W) => ref_eval_at (.mk 2 n s A' cap cur) W h)
          have hval : (Tm.mk 2 n s A' cap cur).val = .agg #[.int .i64 2, .int .i64 n, .string s, .slice A' a.length cap] := by rw [← hcl]; rfl
          rw [hval] at QE
          have HVL := Lib.hid hval
          have HP := Lib.hid (fin_num_of (t := .mk 2 n s A' cap cur))
          have HM := Lib.hid (fin_self (t := .mk 2 n s A' cap cur))
          have HI := Lib.hid (eval_in (t := .mk 2 n s A' cap cur))
          have HF := Lib.hid (fin_like HU.out)
          clear hval hrd hlst hst hcl QI hfz
          generalize (Tm.mk 2 n s A' cap cur).eval = p at *
          obtain ⟨p1, p2⟩ := p
          go_wp2_with fail
          refine (QE.out _ HT.out).mono ?_
          rintro e w4 ⟨rfl, hb5⟩
          have BW := Lib.hid (BZ.out.below hb5)
          have AI := Lib.hid (show Agree (w.heap.size + 3) wr.heap.size wr w4 from Agree.below hb5 (Nat.le_refl _))
          have hb6 := hbw.trans (hb5.mono hbw.size)
          have hs4 : wr.heap.size ≤ w4.heap.size := hb5.size
          clear d0 d1 d2 d3 g0 g1 g2 g3 hz3 hb5 BZ hbw
          by_cases hp : p2 = 0
          · subst hp
            obtain ⟨_, ⟨e0, e1, e2, e3⟩, _, hf, _, hz3⟩ := BW.out
            have f0 := hf 0
            have f1 := hf 1
            have f2 := hf 2
            have f3 := hf 3
            clear hf
            go_wp2_with fail
            refine bodyPost_ret (v := .agg #[.int .i64 0, .int .i64 p1, .string ⟨#[]⟩, .slice none 0 0]) (by simp [results, Try.results19, go_sem, e0, e1, e2, e3]) rfl ?_
            have hi := HI.out trivial
            refine ⟨numT p1, rfl, by rw [HV.out, ← HF.out, HP.out trivial], stays_num _ _ _ _ hi, ?_⟩
            exact (((hb6.setCell (Nat.le_succ _) _).setCell (Nat.le_succ _) _).setCell (Nat.le_succ _) _).setCell (Nat.le_succ _) _
          · have m2 : (p2 == 0) = false := by simpa using hp
            have HX := Lib.hid hp
            obtain ⟨⟨d0, d1, d2, d3⟩, ⟨e0, e1, e2, e3⟩, ⟨g0, g1, g2, g3⟩, hf, _, hz3⟩ := BW.out
            have f0 := hf 0
            have f1 := hf 1
            have f2 := hf 2
            have f3 := hf 3
            clear hf hp
            go_wp2_with fail
            refine bodyPost_ret (v := .agg #[.int .i64 2, .int .i64 n, .string s, .slice A' a.length cap]) (by simp [results, Try.results19, go_sem, e0, e1, e2, e3]) rfl ?_
            refine ⟨(Tm.mk 2 n s A' cap cur), by rw [HVL.out], by rw [HV.out, ← HF.out, HM.out HX.out], HS.out _ ?_ ?_, ?_⟩
            · exact (((AI.out.set (by show w.heap.size + 1 < _; omega) _).set (by show w.heap.size + 1 < _; omega) _).set (by show w.heap.size + 1 < _; omega) _).set (by show w.heap.size + 1 < _; omega) _
            · simpa using hs4
            · exact (((hb6.setCell (Nat.le_succ _) _).setCell (Nat.le_succ _) _).setCell (Nat.le_succ _) _).setCell (Nat.le_succ _) _

    · exact ref_fold_plain k n s A c a w hk hat
end Go.Proofs.Ytponcbnghiaclaa
