/-
  Contract of Tell of the program.
  Contract of TellIs of the program.
  Contract of Equal of the program.
  What the laws take of the program.
-/
import Derived.Test.YtelkmnjoboekmaaGreatMb26
import Derived.Test.YtelkmnjoboekmaaGreatMb21
import Derived.Test.YtelkmnjoboekmaaGreatMb20
import Derived.Test.YtelkmnjoboekmaaGreatMb29
import Derived.OwnWalk
import Derived.Test.YtelkmnjoboekmaaGreatMb10
import Derived.Test.YtelkmnjoboekmaaGreatMb7
import Derived.Test.YtelkmnjoboekmaaGreatMb8
import Derived.Test.YtelkmnjoboekmaaGreatMb22
namespace Go.Proofs.YtelkmnjoboekmaaGreat
open Go.RowKit

set_option maxHeartbeats 4000000 in
set_option maxRecDepth 100000 in
theorem tell_at (b : List Bd) (A : Option Addr) (c : Nat) (s t : Tm) (w : World) (hb : BLst w A b c) (hs : s.At w) (ht : t.At w) (hlen : b.length ≤ 10000) :
    Calls Tryz.prog 9 #[.slice A b.length c, s.val, t.val] w (TellR b s t w) := by
  have B0 := Lib.hid (show ∀ o1 o2, Ext w ((w.alloc o1).alloc o2) from fun o1 o2 => (Ext.al _ _).trans (Ext.al _ _))
  have QV := Lib.hid (fun W (h : Ext w W) => right_s_at b A c W (hb.below h) (by omega))
  cases hr : rightS b with
  | false =>
    rw [hr] at QV
    have HE := Lib.hid (fun w' (h : Ext w w') => tell_arg (w := w) (w' := w') (tell_arg2 (s := s) (t := t) hr) h)
    generalize TellR b s t w = X at *
    clear hb hs ht hr
    obtain ⟨k, n, s, A1, c1, a⟩ := s
    obtain ⟨k2, n2, s2, A2, c2, a2⟩ := t
    show Calls Tryz.prog 9 #[.slice A b.length c, .agg #[.int .i64 k, .int .i64 n, .string s, .slice A1 a.length c1], .agg #[.int .i64 k2, .int .i64 n2, .string s2, .slice A2 a2.length c2]] w _
    go_enter Tryz.func9, Tryz.ntmps9
    go_wp2_with fail
    refine (QV.out _ (B0.out _ _)).mono ?_
    rintro e w1 ⟨rfl, hb1⟩
    have E1 := Lib.hid ((B0.out _ _).trans hb1)
    clear hb1
    go_wp2_with fail
    go_ret3
    exact HE.out _ E1.out
  | true =>
    rw [hr] at QV
    obtain ⟨i0, hi, hz0, hz1, hz2⟩ := info_parts term_info
    have QS := Lib.hid (fun W (h : Ext w W) => sides_at b A c W (hb.below h) hlen)
    have QA := Lib.hid (fun (w1 W : World) (h : Ext w w1) (g cap g2 cap2 : Nat) (hT : TwoRow w1 W (.slice (some ⟨g, 0, none⟩) ((vrs b).length + 1) cap) (.slice (some ⟨g2, 0, none⟩) ((tms b).length + 1) cap2) (vrs b ++ [s]) (tms b ++ [t])) =>
      show Calls Tryz.prog 21 #[.slice (some ⟨g, 0, none⟩) ((vrs b).length + 1) cap, .slice (some ⟨g2, 0, none⟩) ((tms b).length + 1) cap2] W (fun e w' => ∃ (D : Option Addr) (q : Nat) (l : List Bd) (er : Int), e = .returned (.tuple #[.slice D l.length q, .int .i64 er]) ∧ (TellOut b s t (stripB l) (freshL b l) er ∧ Asc l ∧ l.length ≤ 400 + 201 * b.length) ∧ BLst w' D l q ∧ Ext W w') from by
        have e1 : (vrs b).length + 1 = (vrs b ++ [s]).length := by simp
        have e2 : (tms b).length + 1 = (tms b ++ [t]).length := by simp
        have ha := hT.a
        have hb' := hT.b
        rw [e1] at ha ⊢
        rw [e2] at hb' ⊢
        have hx := h.trans hT.ext
        refine (all_at (vrs b ++ [s]) (tms b ++ [t]) _ _ cap cap2 W (own_lst ha fun x hx1 => ?_) (own_lst hb' fun x hx1 => ?_) fun h1 _ => end_nodes h1 hr hlen).mono ?_
        · rcases List.mem_append.1 hx1 with h1 | h1
          · exact vrs_at (fun y hy => (hb.mem hy).1) x h1
          · rw [List.mem_singleton.1 h1]; exact hs.below hx
        · rcases List.mem_append.1 hx1 with h1 | h1
          · obtain ⟨y, hy, rfl⟩ := List.mem_map.1 h1
            exact (hb.mem hy).2.below hx
          · rw [List.mem_singleton.1 h1]; exact ht.below hx
        · rintro e w' ⟨l, z, er, rfl, ho, hx2, hl⟩
          obtain ⟨D, q, rfl, _, _⟩ := hl.form
          exact ⟨D, q, l, er, rfl, tell_any hr ho, hl.blst trivial, hx2⟩)
    have QN := Lib.hid (fun (W : World) (h : Ext w W) (l : List Bd) (D : Option Addr) (q : Nat) (h1 : BLst W D l q) (h2 : l.length ≤ 400 + 201 * b.length) (h3 : Asc l) => new_vars_at b l A D c q W (hb.below h) h1 (by omega) ((rightS_iff b).1 hr).1.2 h3)
    have HZ := Lib.hid (fun (l : List Bd) (D : Option Addr) (q : Nat) (D2 : Option Addr) (q2 : Nat) (er : Int) (w' : World) (h1 : TellOut b s t (stripB l) (freshL b l) er) (h2 : BLst w' D l q) (h3 : Ints w' D2 (freshL b l)) (h4 : Ext w w') =>
      (show TellR b s t w (.returned (.tuple #[.slice D l.length q, .slice D2 (freshL b l).length q2, .int .i64 er])) w' from ⟨D, q, l, D2, q2, _, er, rfl, h1, h2, h3, h4⟩))
    have hla : (vrs b).length ≤ 10000 := by rw [vrs_len]; exact hlen
    have hlb : (tms b).length ≤ 10000 := by rw [tms_len]; exact hlen
    clear hb hs ht hr
    generalize TellR b s t w = X at *
    have HSB := Lib.hid (fun (W : World) (h : Ext ((w.alloc (.cells #[.int .i64 s.kind, .int .i64 s.num, .string s.name, .slice s.at_ s.args.length s.cap] 26)).alloc (.cells #[.int .i64 t.kind, .int .i64 t.num, .string t.name, .slice t.at_ t.args.length t.cap] 26)) W) => boxes_two h)
    generalize vrs b = la at *
    generalize tms b = lb at *
    obtain ⟨k1, n1, s1, A1, c1, a1⟩ := s
    obtain ⟨k2, n2, s2, A2, c2, a2⟩ := t
    simp only [Tm.kind, Tm.num, Tm.name, Tm.at_, Tm.args, Tm.cap] at HSB
    show Calls Tryz.prog 9 #[.slice A b.length c, .agg #[.int .i64 k1, .int .i64 n1, .string s1, .slice A1 a1.length c1], .agg #[.int .i64 k2, .int .i64 n2, .string s2, .slice A2 a2.length c2]] w _
    go_enter Tryz.func9, Tryz.ntmps9
    go_wp2_with fail
    refine (QV.out _ (B0.out _ _)).mono ?_
    rintro e w1 ⟨rfl, hb1⟩
    have E1 := Lib.hid ((B0.out _ _).trans hb1)
    have HC1 := Lib.hid (fun W (h : Ext w1 W) => HSB.out W (Ext.trans hb1 h))
    clear hb1
    go_wp2_with fail
    refine (QS.out _ E1.out).mono ?_
    rintro e w2 ⟨zl, zm, rfl, hT⟩
    have HT := Lib.hid (fun W (h : Ext w2 W) => hT.below h)
    have HC := Lib.hid (fun W (h : Ext w2 W) => HC1.out W (hT.ext.trans h))
    have HR := Lib.hid (show ∀ k, zl.ownBlock = some k → k < w2.heap.size from fun k hk => (own_lt hT.a k hk).2)
    have hlo1 := hT.ext.size
    clear hT QS QV HSB
    go_wp2_with fail
    go_region_held3 (fun W => (W.cell? ⟨w.heap.size, 0, none⟩ = some (.int .i64 k1) ∧ W.cell? ⟨w.heap.size, 1, none⟩ = some (.int .i64 n1) ∧ W.cell? ⟨w.heap.size, 2, none⟩ = some (.string s1) ∧ W.cell? ⟨w.heap.size, 3, none⟩ = some (.slice A1 a1.length c1)) ∧ W.cell? ⟨w.heap.size + 1, 0, none⟩ = some (.int .i64 k2) ∧ W.cell? ⟨w.heap.size + 1, 1, none⟩ = some (.int .i64 n2) ∧ W.cell? ⟨w.heap.size + 1, 2, none⟩ = some (.string s2) ∧ W.cell? ⟨w.heap.size + 1, 3, none⟩ = some (.slice A2 a2.length c2))
      (first | (with_reducible exact HC5.out _ (by (first | exact Ext.refl _ | ((first | refine Ext.trans ?_ (Ext.al _ _) | refine Ext.trans ?_ (Ext.drew _) | refine Ext.trans ?_ Y1.out | refine Ext.trans ?_ Y3.out); (first | exact Ext.refl _ | ((first | refine Ext.trans ?_ (Ext.al _ _) | refine Ext.trans ?_ (Ext.drew _) | refine Ext.trans ?_ Y1.out | refine Ext.trans ?_ Y3.out); (first | exact Ext.refl _ | ((first | refine Ext.trans ?_ (Ext.al _ _) | refine Ext.trans ?_ (Ext.drew _) | refine Ext.trans ?_ Y1.out | refine Ext.trans ?_ Y3.out); (first | exact Ext.refl _ | ((first | refine Ext.trans ?_ (Ext.al _ _) | refine Ext.trans ?_ (Ext.drew _) | refine Ext.trans ?_ Y1.out | refine Ext.trans ?_ Y3.out); (first | exact Ext.refl _ | ((first | refine Ext.trans ?_ (Ext.al _ _) | refine Ext.trans ?_ (Ext.drew _) | refine Ext.trans ?_ Y1.out | refine Ext.trans ?_ Y3.out); (first | exact Ext.refl _ | ((first | refine Ext.trans ?_ (Ext.al _ _) | refine Ext.trans ?_ (Ext.drew _) | refine Ext.trans ?_ Y1.out | refine Ext.trans ?_ Y3.out); exact Ext.refl _)))))))))))))) | (with_reducible exact HC4.out _ (by (first | exact Ext.refl _ | ((first | refine Ext.trans ?_ (Ext.al _ _) | refine Ext.trans ?_ (Ext.drew _) | refine Ext.trans ?_ Y1.out | refine Ext.trans ?_ Y3.out); (first | exact Ext.refl _ | ((first | refine Ext.trans ?_ (Ext.al _ _) | refine Ext.trans ?_ (Ext.drew _) | refine Ext.trans ?_ Y1.out | refine Ext.trans ?_ Y3.out); (first | exact Ext.refl _ | ((first | refine Ext.trans ?_ (Ext.al _ _) | refine Ext.trans ?_ (Ext.drew _) | refine Ext.trans ?_ Y1.out | refine Ext.trans ?_ Y3.out); (first | exact Ext.refl _ | ((first | refine Ext.trans ?_ (Ext.al _ _) | refine Ext.trans ?_ (Ext.drew _) | refine Ext.trans ?_ Y1.out | refine Ext.trans ?_ Y3.out); (first | exact Ext.refl _ | ((first | refine Ext.trans ?_ (Ext.al _ _) | refine Ext.trans ?_ (Ext.drew _) | refine Ext.trans ?_ Y1.out | refine Ext.trans ?_ Y3.out); (first | exact Ext.refl _ | ((first | refine Ext.trans ?_ (Ext.al _ _) | refine Ext.trans ?_ (Ext.drew _) | refine Ext.trans ?_ Y1.out | refine Ext.trans ?_ Y3.out); exact Ext.refl _)))))))))))))) | (with_reducible exact HC2.out _ (by (first | exact Ext.refl _ | ((first | refine Ext.trans ?_ (Ext.al _ _) | refine Ext.trans ?_ (Ext.drew _) | refine Ext.trans ?_ Y1.out | refine Ext.trans ?_ Y3.out); (first | exact Ext.refl _ | ((first | refine Ext.trans ?_ (Ext.al _ _) | refine Ext.trans ?_ (Ext.drew _) | refine Ext.trans ?_ Y1.out | refine Ext.trans ?_ Y3.out); (first | exact Ext.refl _ | ((first | refine Ext.trans ?_ (Ext.al _ _) | refine Ext.trans ?_ (Ext.drew _) | refine Ext.trans ?_ Y1.out | refine Ext.trans ?_ Y3.out); (first | exact Ext.refl _ | ((first | refine Ext.trans ?_ (Ext.al _ _) | refine Ext.trans ?_ (Ext.drew _) | refine Ext.trans ?_ Y1.out | refine Ext.trans ?_ Y3.out); (first | exact Ext.refl _ | ((first | refine Ext.trans ?_ (Ext.al _ _) | refine Ext.trans ?_ (Ext.drew _) | refine Ext.trans ?_ Y1.out | refine Ext.trans ?_ Y3.out); (first | exact Ext.refl _ | ((first | refine Ext.trans ?_ (Ext.al _ _) | refine Ext.trans ?_ (Ext.drew _) | refine Ext.trans ?_ Y1.out | refine Ext.trans ?_ Y3.out); exact Ext.refl _)))))))))))))) | (with_reducible exact HC.out _ (by (first | exact Ext.refl _ | ((first | refine Ext.trans ?_ (Ext.al _ _) | refine Ext.trans ?_ (Ext.drew _) | refine Ext.trans ?_ Y1.out | refine Ext.trans ?_ Y3.out); (first | exact Ext.refl _ | ((first | refine Ext.trans ?_ (Ext.al _ _) | refine Ext.trans ?_ (Ext.drew _) | refine Ext.trans ?_ Y1.out | refine Ext.trans ?_ Y3.out); (first | exact Ext.refl _ | ((first | refine Ext.trans ?_ (Ext.al _ _) | refine Ext.trans ?_ (Ext.drew _) | refine Ext.trans ?_ Y1.out | refine Ext.trans ?_ Y3.out); (first | exact Ext.refl _ | ((first | refine Ext.trans ?_ (Ext.al _ _) | refine Ext.trans ?_ (Ext.drew _) | refine Ext.trans ?_ Y1.out | refine Ext.trans ?_ Y3.out); (first | exact Ext.refl _ | ((first | refine Ext.trans ?_ (Ext.al _ _) | refine Ext.trans ?_ (Ext.drew _) | refine Ext.trans ?_ Y1.out | refine Ext.trans ?_ Y3.out); (first | exact Ext.refl _ | ((first | refine Ext.trans ?_ (Ext.al _ _) | refine Ext.trans ?_ (Ext.drew _) | refine Ext.trans ?_ Y1.out | refine Ext.trans ?_ Y3.out); exact Ext.refl _)))))))))))))) | fail)
      (first
        | (go_at_call 21; (with_reducible refine (QA.out w1 _ E1.out _ _ _ _ (HT4.out _ (by (first | exact Ext.refl _ | ((first | refine Ext.trans ?_ (Ext.al _ _) | refine Ext.trans ?_ (Ext.drew _) | refine Ext.trans ?_ Y1.out | refine Ext.trans ?_ Y3.out); (first | exact Ext.refl _ | ((first | refine Ext.trans ?_ (Ext.al _ _) | refine Ext.trans ?_ (Ext.drew _) | refine Ext.trans ?_ Y1.out | refine Ext.trans ?_ Y3.out); (first | exact Ext.refl _ | ((first | refine Ext.trans ?_ (Ext.al _ _) | refine Ext.trans ?_ (Ext.drew _) | refine Ext.trans ?_ Y1.out | refine Ext.trans ?_ Y3.out); (first | exact Ext.refl _ | ((first | refine Ext.trans ?_ (Ext.al _ _) | refine Ext.trans ?_ (Ext.drew _) | refine Ext.trans ?_ Y1.out | refine Ext.trans ?_ Y3.out); (first | exact Ext.refl _ | ((first | refine Ext.trans ?_ (Ext.al _ _) | refine Ext.trans ?_ (Ext.drew _) | refine Ext.trans ?_ Y1.out | refine Ext.trans ?_ Y3.out); (first | exact Ext.refl _ | ((first | refine Ext.trans ?_ (Ext.al _ _) | refine Ext.trans ?_ (Ext.drew _) | refine Ext.trans ?_ Y1.out | refine Ext.trans ?_ Y3.out); exact Ext.refl _))))))))))))))).mono ?_); rintro e y5 ⟨D, q, l, er, rfl, hto, hl, hx⟩; have H5 := Lib.hid hto; have HL5 := Lib.hid hl; have E5 := Lib.hid (Ext.trans (E1.out.trans (HT4.out _ (by (first | exact Ext.refl _ | ((first | refine Ext.trans ?_ (Ext.al _ _) | refine Ext.trans ?_ (Ext.drew _) | refine Ext.trans ?_ Y1.out | refine Ext.trans ?_ Y3.out); (first | exact Ext.refl _ | ((first | refine Ext.trans ?_ (Ext.al _ _) | refine Ext.trans ?_ (Ext.drew _) | refine Ext.trans ?_ Y1.out | refine Ext.trans ?_ Y3.out); (first | exact Ext.refl _ | ((first | refine Ext.trans ?_ (Ext.al _ _) | refine Ext.trans ?_ (Ext.drew _) | refine Ext.trans ?_ Y1.out | refine Ext.trans ?_ Y3.out); (first | exact Ext.refl _ | ((first | refine Ext.trans ?_ (Ext.al _ _) | refine Ext.trans ?_ (Ext.drew _) | refine Ext.trans ?_ Y1.out | refine Ext.trans ?_ Y3.out); (first | exact Ext.refl _ | ((first | refine Ext.trans ?_ (Ext.al _ _) | refine Ext.trans ?_ (Ext.drew _) | refine Ext.trans ?_ Y1.out | refine Ext.trans ?_ Y3.out); (first | exact Ext.refl _ | ((first | refine Ext.trans ?_ (Ext.al _ _) | refine Ext.trans ?_ (Ext.drew _) | refine Ext.trans ?_ Y1.out | refine Ext.trans ?_ Y3.out); exact Ext.refl _)))))))))))))).ext) hx); have HC5 := Lib.hid (fun W (h : Ext y5 W) => HC4.out _ (Ext.trans (Ext.trans (by (first | exact Ext.refl _ | ((first | refine Ext.trans ?_ (Ext.al _ _) | refine Ext.trans ?_ (Ext.drew _) | refine Ext.trans ?_ Y1.out | refine Ext.trans ?_ Y3.out); (first | exact Ext.refl _ | ((first | refine Ext.trans ?_ (Ext.al _ _) | refine Ext.trans ?_ (Ext.drew _) | refine Ext.trans ?_ Y1.out | refine Ext.trans ?_ Y3.out); (first | exact Ext.refl _ | ((first | refine Ext.trans ?_ (Ext.al _ _) | refine Ext.trans ?_ (Ext.drew _) | refine Ext.trans ?_ Y1.out | refine Ext.trans ?_ Y3.out); (first | exact Ext.refl _ | ((first | refine Ext.trans ?_ (Ext.al _ _) | refine Ext.trans ?_ (Ext.drew _) | refine Ext.trans ?_ Y1.out | refine Ext.trans ?_ Y3.out); (first | exact Ext.refl _ | ((first | refine Ext.trans ?_ (Ext.al _ _) | refine Ext.trans ?_ (Ext.drew _) | refine Ext.trans ?_ Y1.out | refine Ext.trans ?_ Y3.out); (first | exact Ext.refl _ | ((first | refine Ext.trans ?_ (Ext.al _ _) | refine Ext.trans ?_ (Ext.drew _) | refine Ext.trans ?_ Y1.out | refine Ext.trans ?_ Y3.out); exact Ext.refl _))))))))))))) hx) h)); clear hto hl hx)
        | (refine step_append_lies _ (by rfl) _ _ _ (by rfl) w1.heap.size 26 i0 _ 4 56 Tryz.underlying24 hi hz0 hz1 hz2 rfl (by decide) zl la.length (tcells la) (by rfl) (HT.out _ (by (first | exact Ext.refl _ | ((first | refine Ext.trans ?_ (Ext.al _ _) | refine Ext.trans ?_ (Ext.drew _) | refine Ext.trans ?_ Y1.out | refine Ext.trans ?_ Y3.out); (first | exact Ext.refl _ | ((first | refine Ext.trans ?_ (Ext.al _ _) | refine Ext.trans ?_ (Ext.drew _) | refine Ext.trans ?_ Y1.out | refine Ext.trans ?_ Y3.out); (first | exact Ext.refl _ | ((first | refine Ext.trans ?_ (Ext.al _ _) | refine Ext.trans ?_ (Ext.drew _) | refine Ext.trans ?_ Y1.out | refine Ext.trans ?_ Y3.out); (first | exact Ext.refl _ | ((first | refine Ext.trans ?_ (Ext.al _ _) | refine Ext.trans ?_ (Ext.drew _) | refine Ext.trans ?_ Y1.out | refine Ext.trans ?_ Y3.out); (first | exact Ext.refl _ | ((first | refine Ext.trans ?_ (Ext.al _ _) | refine Ext.trans ?_ (Ext.drew _) | refine Ext.trans ?_ Y1.out | refine Ext.trans ?_ Y3.out); (first | exact Ext.refl _ | ((first | refine Ext.trans ?_ (Ext.al _ _) | refine Ext.trans ?_ (Ext.drew _) | refine Ext.trans ?_ Y1.out | refine Ext.trans ?_ Y3.out); exact Ext.refl _)))))))))))))).a ⟨_, 0, none⟩ 1 1 (Tm.cells (.mk k1 n1 s1 A1 c1 a1)) (by rfl) rfl (by (first | refine news_at (by simp) _ _ | ((first | refine news_up ?_ (Ext.al _ _) | refine news_up ?_ (Ext.drew _) | refine news_up ?_ Y1.out | refine news_far Y2.out HR.out (by first | omega | (simp; omega)) ?_); (first | refine news_at (by simp) _ _ | ((first | refine news_up ?_ (Ext.al _ _) | refine news_up ?_ (Ext.drew _) | refine news_up ?_ Y1.out | refine news_far Y2.out HR.out (by first | omega | (simp; omega)) ?_); (first | refine news_at (by simp) _ _ | ((first | refine news_up ?_ (Ext.al _ _) | refine news_up ?_ (Ext.drew _) | refine news_up ?_ Y1.out | refine news_far Y2.out HR.out (by first | omega | (simp; omega)) ?_); (first | refine news_at (by simp) _ _ | ((first | refine news_up ?_ (Ext.al _ _) | refine news_up ?_ (Ext.drew _) | refine news_up ?_ Y1.out | refine news_far Y2.out HR.out (by first | omega | (simp; omega)) ?_); (first | refine news_at (by simp) _ _ | ((first | refine news_up ?_ (Ext.al _ _) | refine news_up ?_ (Ext.drew _) | refine news_up ?_ Y1.out | refine news_far Y2.out HR.out (by first | omega | (simp; omega)) ?_); (first | refine news_at (by simp) _ _ | ((first | refine news_up ?_ (Ext.al _ _) | refine news_up ?_ (Ext.drew _) | refine news_up ?_ Y1.out | refine news_far Y2.out HR.out (by first | omega | (simp; omega)) ?_); refine news_at (by simp) _ _))))))))))))) (cells_one _) (by decide) (by unfold maxLen; omega) (by omega) (by first | omega | (simp; omega)) _ rfl ?_; intro g cap y2 hown hg hat hglt; have Y2 := Lib.hid hg; have HT2 := Lib.hid (fun W (h : Ext y2 W) => ((HT.out _ (by (first | exact Ext.refl _ | ((first | refine Ext.trans ?_ (Ext.al _ _) | refine Ext.trans ?_ (Ext.drew _) | refine Ext.trans ?_ Y1.out | refine Ext.trans ?_ Y3.out); (first | exact Ext.refl _ | ((first | refine Ext.trans ?_ (Ext.al _ _) | refine Ext.trans ?_ (Ext.drew _) | refine Ext.trans ?_ Y1.out | refine Ext.trans ?_ Y3.out); (first | exact Ext.refl _ | ((first | refine Ext.trans ?_ (Ext.al _ _) | refine Ext.trans ?_ (Ext.drew _) | refine Ext.trans ?_ Y1.out | refine Ext.trans ?_ Y3.out); (first | exact Ext.refl _ | ((first | refine Ext.trans ?_ (Ext.al _ _) | refine Ext.trans ?_ (Ext.drew _) | refine Ext.trans ?_ Y1.out | refine Ext.trans ?_ Y3.out); (first | exact Ext.refl _ | ((first | refine Ext.trans ?_ (Ext.al _ _) | refine Ext.trans ?_ (Ext.drew _) | refine Ext.trans ?_ Y1.out | refine Ext.trans ?_ Y3.out); (first | exact Ext.refl _ | ((first | refine Ext.trans ?_ (Ext.al _ _) | refine Ext.trans ?_ (Ext.drew _) | refine Ext.trans ?_ Y1.out | refine Ext.trans ?_ Y3.out); exact Ext.refl _)))))))))))))).nextA (u := .mk k1 n1 s1 A1 c1 a1) hown hg hat).below h); have HC2 := Lib.hid (fun W (h : Ext y2 W) => HC1.out _ (HT2.out _ h).ext); have hy2 := hg.size; (try simp only [World.size_drew, World.size_alloc] at hy2); clear hown hg hat hglt)
        | (refine step_append_lies _ (by rfl) _ _ _ (by rfl) w1.heap.size 26 i0 _ 4 56 Tryz.underlying24 hi hz0 hz1 hz2 rfl (by decide) zm lb.length (tcells lb) (by rfl) (HT2.out _ (by (first | exact Ext.refl _ | ((first | refine Ext.trans ?_ (Ext.al _ _) | refine Ext.trans ?_ (Ext.drew _) | refine Ext.trans ?_ Y1.out | refine Ext.trans ?_ Y3.out); (first | exact Ext.refl _ | ((first | refine Ext.trans ?_ (Ext.al _ _) | refine Ext.trans ?_ (Ext.drew _) | refine Ext.trans ?_ Y1.out | refine Ext.trans ?_ Y3.out); (first | exact Ext.refl _ | ((first | refine Ext.trans ?_ (Ext.al _ _) | refine Ext.trans ?_ (Ext.drew _) | refine Ext.trans ?_ Y1.out | refine Ext.trans ?_ Y3.out); (first | exact Ext.refl _ | ((first | refine Ext.trans ?_ (Ext.al _ _) | refine Ext.trans ?_ (Ext.drew _) | refine Ext.trans ?_ Y1.out | refine Ext.trans ?_ Y3.out); (first | exact Ext.refl _ | ((first | refine Ext.trans ?_ (Ext.al _ _) | refine Ext.trans ?_ (Ext.drew _) | refine Ext.trans ?_ Y1.out | refine Ext.trans ?_ Y3.out); (first | exact Ext.refl _ | ((first | refine Ext.trans ?_ (Ext.al _ _) | refine Ext.trans ?_ (Ext.drew _) | refine Ext.trans ?_ Y1.out | refine Ext.trans ?_ Y3.out); exact Ext.refl _)))))))))))))).b ⟨_, 0, none⟩ 1 1 (Tm.cells (.mk k2 n2 s2 A2 c2 a2)) (by rfl) rfl (by (first | refine news_at (by simp) _ _ | ((first | refine news_up ?_ (Ext.al _ _) | refine news_up ?_ (Ext.drew _) | refine news_up ?_ Y1.out | refine news_far Y2.out HR.out (by first | omega | (simp; omega)) ?_); (first | refine news_at (by simp) _ _ | ((first | refine news_up ?_ (Ext.al _ _) | refine news_up ?_ (Ext.drew _) | refine news_up ?_ Y1.out | refine news_far Y2.out HR.out (by first | omega | (simp; omega)) ?_); (first | refine news_at (by simp) _ _ | ((first | refine news_up ?_ (Ext.al _ _) | refine news_up ?_ (Ext.drew _) | refine news_up ?_ Y1.out | refine news_far Y2.out HR.out (by first | omega | (simp; omega)) ?_); (first | refine news_at (by simp) _ _ | ((first | refine news_up ?_ (Ext.al _ _) | refine news_up ?_ (Ext.drew _) | refine news_up ?_ Y1.out | refine news_far Y2.out HR.out (by first | omega | (simp; omega)) ?_); (first | refine news_at (by simp) _ _ | ((first | refine news_up ?_ (Ext.al _ _) | refine news_up ?_ (Ext.drew _) | refine news_up ?_ Y1.out | refine news_far Y2.out HR.out (by first | omega | (simp; omega)) ?_); (first | refine news_at (by simp) _ _ | ((first | refine news_up ?_ (Ext.al _ _) | refine news_up ?_ (Ext.drew _) | refine news_up ?_ Y1.out | refine news_far Y2.out HR.out (by first | omega | (simp; omega)) ?_); refine news_at (by simp) _ _))))))))))))) (cells_one _) (by decide) (by unfold maxLen; omega) (by omega) (by first | omega | (simp; omega)) _ rfl ?_; intro g2 cap2 y4 hown hg hat hglt; have HT4 := Lib.hid (fun W (h : Ext y4 W) => ((HT2.out _ (by (first | exact Ext.refl _ | ((first | refine Ext.trans ?_ (Ext.al _ _) | refine Ext.trans ?_ (Ext.drew _) | refine Ext.trans ?_ Y1.out | refine Ext.trans ?_ Y3.out); (first | exact Ext.refl _ | ((first | refine Ext.trans ?_ (Ext.al _ _) | refine Ext.trans ?_ (Ext.drew _) | refine Ext.trans ?_ Y1.out | refine Ext.trans ?_ Y3.out); (first | exact Ext.refl _ | ((first | refine Ext.trans ?_ (Ext.al _ _) | refine Ext.trans ?_ (Ext.drew _) | refine Ext.trans ?_ Y1.out | refine Ext.trans ?_ Y3.out); (first | exact Ext.refl _ | ((first | refine Ext.trans ?_ (Ext.al _ _) | refine Ext.trans ?_ (Ext.drew _) | refine Ext.trans ?_ Y1.out | refine Ext.trans ?_ Y3.out); (first | exact Ext.refl _ | ((first | refine Ext.trans ?_ (Ext.al _ _) | refine Ext.trans ?_ (Ext.drew _) | refine Ext.trans ?_ Y1.out | refine Ext.trans ?_ Y3.out); (first | exact Ext.refl _ | ((first | refine Ext.trans ?_ (Ext.al _ _) | refine Ext.trans ?_ (Ext.drew _) | refine Ext.trans ?_ Y1.out | refine Ext.trans ?_ Y3.out); exact Ext.refl _)))))))))))))).nextB (u := .mk k2 n2 s2 A2 c2 a2) hown hg hat).below h); have HC4 := Lib.hid (fun W (h : Ext y4 W) => HC1.out _ (HT4.out _ h).ext); clear hown hg hat hglt)
        | fail)
    all_goals
      have QN2 := Lib.hid (QN.out _ E5.out l D q HL5.out H5.out.2.2 H5.out.2.1)
      go_wp2_with fail
      refine QN2.out.mono ?_
      rintro e w6 ⟨D2, q2, rfl, hI, hx6⟩
      have HF := Lib.hid (HZ.out l D q D2 q2 er w6 H5.out.1 (HL5.out.below hx6) hI (E5.out.trans hx6))
      clear hI hx6 QN2
      go_wp2_with fail
      go_ret3
      exact HF.out
end Go.Proofs.YtelkmnjoboekmaaGreat
namespace Go.Proofs.YtelkmnjoboekmaaGreat
open Go.RowKit

theorem int_ext (n : Int) (w : World) : Calls Tryz.prog 32 #[.int .i64 n] w fun e w' => e = .returned (.agg #[.int .i64 0, .int .i64 n, .string ⟨#[]⟩, .slice none 0 0]) ∧ Ext w w' := by
  go_enter Tryz.func32, Tryz.ntmps32
  go_wp2_with fail
  exact bodyPost_ret (v := .agg #[.int .i64 0, .int .i64 n, .string ⟨#[]⟩, .slice none 0 0]) (by simp [results, Tryz.results32, go_sem]) rfl ⟨rfl, (Below.refl _ _).alloc (Nat.le_refl _) _⟩
theorem good_of {b : List Bd} (hb : rightS b = true) (hlen : b.length ≤ 1000000) : Good b :=
  ⟨hlen, ((rightS_iff b).1 hb).1.2.srt, fun x hx => Nat.le_trans (right_nodes (((rightS_iff b).1 hb).1.1 x hx).2.2) (by omega)⟩
/-- A term under a store that is valid. -/
theorem apply_ext (b : List Bd) (A : Option Addr) (c : Nat) (t : Tm) (w : World) (hb : BLst w A b c) (ht : t.At w) (hn : t.nodes ≤ 1000000) (hr : rightS b = true) (hlen : b.length ≤ 1000000) :
    Calls Tryz.prog 28 #[.slice A b.length c, t.val] w fun e w' => ∃ u : Tm, e = .returned u.val ∧ u.strip = (t.app b).strip ∧ u.At w' ∧ Ext w w' :=
  (apply_at b A c t w ht hn fun W h => in_order_at b A c W (hb.below h) (good_of hr hlen)).mono fun _ _ ⟨u, h1, h2, h3, h4⟩ => ⟨u, h1, h2, h3.at trivial, h4⟩
set_option maxHeartbeats 4000000 in
set_option maxRecDepth 100000 in
theorem tellis_at (b : List Bd) (A : Option Addr) (c : Nat) (s t : Tm) (w : World) (hb : BLst w A b c) (hs : s.At w) (ht : t.At w) (hn : t.nodes ≤ 1000000) (hlen : b.length ≤ 10000) :
    Calls Tryz.prog 15 #[.slice A b.length c, s.val, t.val] w (IsR b s t w) := by
  have B0 := Lib.hid (show ∀ o1 o2, Ext w ((w.alloc o1).alloc o2) from fun o1 o2 => (Ext.al _ _).trans (Ext.al _ _))
  have QV := Lib.hid (fun W (h : Ext w W) => right_s_at b A c W (hb.below h) (by omega))
  have QS := Lib.hid (fun W (h : Ext w W) => right_tm_at s W (hs.below h) rfl)
  have QT := Lib.hid (fun W (h : Ext w W) => right_tm_at t W (ht.below h) rfl)
  have HSB := Lib.hid (fun (W : World) (h : Ext ((w.alloc (.cells #[.int .i64 s.kind, .int .i64 s.num, .string s.name, .slice s.at_ s.args.length s.cap] 26)).alloc (.cells #[.int .i64 t.kind, .int .i64 t.num, .string t.name, .slice t.at_ t.args.length t.cap] 26)) W) => boxes_two h)
  cases hr : (rightS b && (s.right && t.right)) with
  | false =>
    have HE := Lib.hid (fun w' (h : Ext w w') => is_arg (w := w) (w' := w') hr h)
    have HF := Lib.hid (show rightS b = false ∨ (rightS b = true ∧ s.right = false) ∨ (rightS b = true ∧ s.right = true ∧ t.right = false) from by
      revert hr; cases rightS b <;> cases s.right <;> cases t.right <;> simp)
    generalize IsR b s t w = X at *
    clear hb hs ht hr
    generalize rightS b = r1 at *
    generalize s.right = r2 at *
    generalize t.right = r3 at *
    obtain ⟨k1, n1, s1, A1, c1, a1⟩ := s
    obtain ⟨k2, n2, s2, A2, c2, a2⟩ := t
    simp only [Tm.kind, Tm.num, Tm.name, Tm.at_, Tm.args, Tm.cap] at HSB
    show Calls Tryz.prog 15 #[.slice A b.length c, .agg #[.int .i64 k1, .int .i64 n1, .string s1, .slice A1 a1.length c1], .agg #[.int .i64 k2, .int .i64 n2, .string s2, .slice A2 a2.length c2]] w _
    rcases HF.out with rfl | ⟨rfl, rfl⟩ | ⟨rfl, rfl, rfl⟩
    · go_enter Tryz.func15, Tryz.ntmps15
      go_wp2_with fail
      refine (QV.out _ (B0.out _ _)).mono ?_
      rintro e w1 ⟨rfl, hb1⟩
      have E1 := Lib.hid ((B0.out _ _).trans hb1)
      obtain ⟨⟨d0, d1, d2, d3⟩, x0, x1, x2, x3⟩ := HSB.out _ hb1
      clear hb1
      go_wp2_with fail
      go_ret3
      exact HE.out _ E1.out
    · go_enter Tryz.func15, Tryz.ntmps15
      go_wp2_with fail
      refine (QV.out _ (B0.out _ _)).mono ?_
      rintro e w1 ⟨rfl, hb1⟩
      have E1 := Lib.hid ((B0.out _ _).trans hb1)
      have HC1 := Lib.hid (fun W (h : Ext w1 W) => HSB.out W (Ext.trans hb1 h))
      obtain ⟨⟨d0, d1, d2, d3⟩, x0, x1, x2, x3⟩ := HSB.out _ hb1
      clear hb1
      go_wp2_with fail
      refine (QS.out _ E1.out).mono ?_
      rintro e w2 ⟨rfl, hb2⟩
      have E2 := Lib.hid (E1.out.trans hb2)
      clear d0 d1 d2 d3 x0 x1 x2 x3
      obtain ⟨⟨d0, d1, d2, d3⟩, x0, x1, x2, x3⟩ := HC1.out _ hb2
      clear hb2
      go_wp2_with fail
      go_ret3
      exact HE.out _ E2.out
    · go_enter Tryz.func15, Tryz.ntmps15
      go_wp2_with fail
      refine (QV.out _ (B0.out _ _)).mono ?_
      rintro e w1 ⟨rfl, hb1⟩
      have E1 := Lib.hid ((B0.out _ _).trans hb1)
      have HC1 := Lib.hid (fun W (h : Ext w1 W) => HSB.out W (Ext.trans hb1 h))
      obtain ⟨⟨d0, d1, d2, d3⟩, x0, x1, x2, x3⟩ := HSB.out _ hb1
      clear hb1
      go_wp2_with fail
      refine (QS.out _ E1.out).mono ?_
      rintro e w2 ⟨rfl, hb2⟩
      have E2 := Lib.hid (E1.out.trans hb2)
      clear d0 d1 d2 d3 x0 x1 x2 x3
      obtain ⟨⟨d0, d1, d2, d3⟩, x0, x1, x2, x3⟩ := HC1.out _ hb2
      clear hb2
      go_wp2_with fail
      refine (QT.out _ E2.out).mono ?_
      rintro e w3 ⟨rfl, hb3⟩
      have E3 := Lib.hid (E2.out.trans hb3)
      clear hb3 d0 d1 d2 d3 x0 x1 x2 x3
      go_wp2_with fail
      go_ret3
      exact HE.out _ E3.out
  | true =>
    have hr' : rightS b = true ∧ s.right = true ∧ t.right = true := by simpa using hr
    rw [hr'.1] at QV
    rw [hr'.2.1] at QS
    rw [hr'.2.2] at QT
    have QA := Lib.hid (fun W (h : Ext w W) => apply_ext b A c t W (hb.below h) (ht.below h) hn hr'.1 (by omega))
    have QE := Lib.hid (fun (u : Tm) (hu : u.strip = (t.app b).strip) W (h : u.At W) => (show Calls Tryz.prog 31 #[u.val] W fun e w' => e = .returned (pairV (t.app b).eval) ∧ Ext W w' from by rw [← eval_same hu]; exact eval_at u W h))
    have QG := Lib.hid (fun W (h : Ext w W) (he : (t.app b).eval.2 = 0) => (tell_at b A c s (numI (t.app b).eval.1) W (hb.below h) (hs.below h) (numI_at W (eval_fits _ he)) hlen).mono fun e w' h' => (show ∃ (A : Option Addr) (c : Nat) (l : List Bd) (D : Option Addr) (q : Nat) (k : List Int) (er : Int), e = .returned (.tuple #[.slice A l.length c, .slice D k.length q, .int .i64 er]) ∧ IsR b s t w (.returned (.tuple #[.slice A l.length c, .slice D k.length q, .int .i64 er])) w' ∧ Ext W w' from by
      have h2 := is_ok hr he h h'
      obtain ⟨A, c, l, D, q, k, er, rfl, _, _, _, h3⟩ := h'
      exact ⟨A, c, l, D, q, k, er, rfl, h2, h3⟩))
    have HN := Lib.hid (fun w' he hx => is_err (b := b) (s := s) (t := t) (w := w) (w' := w') hr he hx)
    have HI := Lib.hid (fun n W => int_ext n W)
    generalize IsR b s t w = X at *
    generalize hP : (t.app b).eval = P at *
    clear hb hs ht hr hr' hn
    obtain ⟨pv, pe⟩ := P
    simp only at QG HN QE
    have HU := Lib.hid (fun (u : Tm) (h : u.strip = (t.app b).strip) => h)
    generalize (t.app b).strip = ts at *
    clear hP
    obtain ⟨k1, n1, s1, A1, c1, a1⟩ := s
    obtain ⟨k2, n2, s2, A2, c2, a2⟩ := t
    simp only [Tm.kind, Tm.num, Tm.name, Tm.at_, Tm.args, Tm.cap] at HSB
    have QG2 := Lib.hid (fun (W : World) (h : Ext w W) (he : pe = 0) => show Calls Tryz.prog 9 #[.slice A b.length c, .agg #[.int .i64 k1, .int .i64 n1, .string s1, .slice A1 a1.length c1], .agg #[.int .i64 0, .int .i64 pv, .string ⟨#[]⟩, .slice none 0 0]] W _ from QG.out W h he)
    clear QG
    show Calls Tryz.prog 15 #[.slice A b.length c, .agg #[.int .i64 k1, .int .i64 n1, .string s1, .slice A1 a1.length c1], .agg #[.int .i64 k2, .int .i64 n2, .string s2, .slice A2 a2.length c2]] w _
    go_enter Tryz.func15, Tryz.ntmps15
    go_wp2_with fail
    refine (QV.out _ (B0.out _ _)).mono ?_
    rintro e w1 ⟨rfl, hb1⟩
    have E1 := Lib.hid ((B0.out _ _).trans hb1)
    have HC1 := Lib.hid (fun W (h : Ext w1 W) => HSB.out W (Ext.trans hb1 h))
    obtain ⟨⟨d0, d1, d2, d3⟩, x0, x1, x2, x3⟩ := HSB.out _ hb1
    clear hb1
    go_wp2_with fail
    refine (QS.out _ E1.out).mono ?_
    rintro e w2 ⟨rfl, hb2⟩
    have E2 := Lib.hid (E1.out.trans hb2)
    have HC2 := Lib.hid (fun W (h : Ext w2 W) => HC1.out W (Ext.trans hb2 h))
    clear d0 d1 d2 d3 x0 x1 x2 x3
    obtain ⟨⟨d0, d1, d2, d3⟩, x0, x1, x2, x3⟩ := HC1.out _ hb2
    clear hb2
    go_wp2_with fail
    refine (QT.out _ E2.out).mono ?_
    rintro e w3 ⟨rfl, hb3⟩
    have E3 := Lib.hid (E2.out.trans hb3)
    have HC3 := Lib.hid (fun W (h : Ext w3 W) => HC2.out W (Ext.trans hb3 h))
    clear d0 d1 d2 d3 x0 x1 x2 x3
    obtain ⟨⟨d0, d1, d2, d3⟩, x0, x1, x2, x3⟩ := HC2.out _ hb3
    clear hb3
    go_wp2_with fail
    refine (QA.out _ E3.out).mono ?_
    rintro e w4 ⟨u, rfl, hu, hat, hx4⟩
    have E4 := Lib.hid (E3.out.trans hx4)
    have HC4 := Lib.hid (fun W (h : Ext w4 W) => HC3.out W (Ext.trans hx4 h))
    have QE2 := Lib.hid (QE.out u hu w4 hat)
    clear d0 d1 d2 d3 x0 x1 x2 x3 hx4 hu hat
    obtain ⟨k5, n5, s5, A5, c5, a5⟩ := u
    go_wp2_with fail
    refine QE2.out.mono ?_
    rintro e w5 ⟨rfl, hx5⟩
    have E5 := Lib.hid (E4.out.trans hx5)
    have HC5 := Lib.hid (fun W (h : Ext w5 W) => HC4.out W (Ext.trans hx5 h))
    clear hx5
    by_cases he : pe = 0
    · subst he
      have QG3 := Lib.hid (fun W (h : Ext w5 W) => QG2.out W (E5.out.trans h) rfl)
      go_wp2_with fail
      go_region_held3 (fun W => (W.cell? ⟨w.heap.size, 0, none⟩ = some (.int .i64 k1) ∧ W.cell? ⟨w.heap.size, 1, none⟩ = some (.int .i64 n1) ∧ W.cell? ⟨w.heap.size, 2, none⟩ = some (.string s1) ∧ W.cell? ⟨w.heap.size, 3, none⟩ = some (.slice A1 a1.length c1)) ∧ W.cell? ⟨w.heap.size + 1, 0, none⟩ = some (.int .i64 k2) ∧ W.cell? ⟨w.heap.size + 1, 1, none⟩ = some (.int .i64 n2) ∧ W.cell? ⟨w.heap.size + 1, 2, none⟩ = some (.string s2) ∧ W.cell? ⟨w.heap.size + 1, 3, none⟩ = some (.slice A2 a2.length c2))
        (first | (with_reducible exact HC5.out _ (by (first | exact Ext.refl _ | ((first | refine Ext.trans ?_ (Ext.al _ _) | refine Ext.trans ?_ (Ext.drew _) | refine Ext.trans ?_ Y1.out | refine Ext.trans ?_ Y3.out); (first | exact Ext.refl _ | ((first | refine Ext.trans ?_ (Ext.al _ _) | refine Ext.trans ?_ (Ext.drew _) | refine Ext.trans ?_ Y1.out | refine Ext.trans ?_ Y3.out); (first | exact Ext.refl _ | ((first | refine Ext.trans ?_ (Ext.al _ _) | refine Ext.trans ?_ (Ext.drew _) | refine Ext.trans ?_ Y1.out | refine Ext.trans ?_ Y3.out); (first | exact Ext.refl _ | ((first | refine Ext.trans ?_ (Ext.al _ _) | refine Ext.trans ?_ (Ext.drew _) | refine Ext.trans ?_ Y1.out | refine Ext.trans ?_ Y3.out); (first | exact Ext.refl _ | ((first | refine Ext.trans ?_ (Ext.al _ _) | refine Ext.trans ?_ (Ext.drew _) | refine Ext.trans ?_ Y1.out | refine Ext.trans ?_ Y3.out); (first | exact Ext.refl _ | ((first | refine Ext.trans ?_ (Ext.al _ _) | refine Ext.trans ?_ (Ext.drew _) | refine Ext.trans ?_ Y1.out | refine Ext.trans ?_ Y3.out); exact Ext.refl _)))))))))))))) | fail)
        (first
          | (go_at_call 32; (with_reducible refine (HI.out _ _).mono ?_); rintro e y1 ⟨rfl, hx⟩; have Y1 := Lib.hid hx; clear hx)
          | (go_at_call 9; (with_reducible refine (QG3.out _ (by (first | exact Ext.refl _ | ((first | refine Ext.trans ?_ (Ext.al _ _) | refine Ext.trans ?_ (Ext.drew _) | refine Ext.trans ?_ Y1.out | refine Ext.trans ?_ Y3.out); (first | exact Ext.refl _ | ((first | refine Ext.trans ?_ (Ext.al _ _) | refine Ext.trans ?_ (Ext.drew _) | refine Ext.trans ?_ Y1.out | refine Ext.trans ?_ Y3.out); (first | exact Ext.refl _ | ((first | refine Ext.trans ?_ (Ext.al _ _) | refine Ext.trans ?_ (Ext.drew _) | refine Ext.trans ?_ Y1.out | refine Ext.trans ?_ Y3.out); (first | exact Ext.refl _ | ((first | refine Ext.trans ?_ (Ext.al _ _) | refine Ext.trans ?_ (Ext.drew _) | refine Ext.trans ?_ Y1.out | refine Ext.trans ?_ Y3.out); (first | exact Ext.refl _ | ((first | refine Ext.trans ?_ (Ext.al _ _) | refine Ext.trans ?_ (Ext.drew _) | refine Ext.trans ?_ Y1.out | refine Ext.trans ?_ Y3.out); (first | exact Ext.refl _ | ((first | refine Ext.trans ?_ (Ext.al _ _) | refine Ext.trans ?_ (Ext.drew _) | refine Ext.trans ?_ Y1.out | refine Ext.trans ?_ Y3.out); exact Ext.refl _)))))))))))))).mono ?_); rintro e y3 ⟨A6, c6, l, D, q, k', er, rfl, h4, hx⟩; have Y3 := Lib.hid hx; have H4 := Lib.hid h4; clear hx h4)
          | fail)
      all_goals
        go_wp2_with fail
        go_ret3
        exact H4.out
    · have e0 : (pe == 0) = false := by simpa using he
      have H4 := Lib.hid (HN.out w5 he E5.out)
      go_wp2_with fail
      go_ret3
      exact H4.out
end Go.Proofs.YtelkmnjoboekmaaGreat
namespace Go.Proofs.YtelkmnjoboekmaaGreat
open Go.RowKit

set_option maxHeartbeats 4000000 in
set_option maxRecDepth 100000 in
theorem equal_at (b : List Bd) (A : Option Addr) (c : Nat) (s t : Tm) (w : World) (hb : BLst w A b c) (hs : s.At w) (ht : t.At w) (hns : s.nodes ≤ 1000000) (hn : t.nodes ≤ 1000000) (hlen : b.length ≤ 10000) :
    Calls Tryz.prog 13 #[.slice A b.length c, s.val, t.val] w (EqR b s t w) := by
  have B0 := Lib.hid (show ∀ o1 o2, Ext w ((w.alloc o1).alloc o2) from fun o1 o2 => (Ext.al _ _).trans (Ext.al _ _))
  have HSB := Lib.hid (fun (W : World) (h : Ext ((w.alloc (.cells #[.int .i64 s.kind, .int .i64 s.num, .string s.name, .slice s.at_ s.args.length s.cap] 26)).alloc (.cells #[.int .i64 t.kind, .int .i64 t.num, .string t.name, .slice t.at_ t.args.length t.cap] 26)) W) => boxes_two h)
  have QT := Lib.hid (fun W (h : Ext w W) => (tell_at b A c s t W (hb.below h) (hs.below h) (ht.below h) hlen).mono fun e w' h' => (show ∃ (A : Option Addr) (c : Nat) (n : Nat) (D : Option Addr) (q : Nat) (m : Nat) (er : Int), e = .returned (.tuple #[.slice A n c, .slice D m q, .int .i64 er]) ∧
      ((er = 13 → EqOut b s t 2) ∧ (er = 0 → (rightS b && (s.right && t.right)) = true ∧ EqOut b s t (if (cmpT (s.app b) (t.app b) == 0) = true then 1 else 0)) ∧ (er ≠ 0 → er ≠ 13 → EqOut b s t 0)) ∧ Ext W w' from by
    obtain ⟨A, c, l, D, q, k, er, rfl, h1, _, _, h3⟩ := h'
    exact ⟨A, c, l.length, D, q, k.length, er, rfl, eq_of_tell h1, h3⟩))
  have HV := Lib.hid (show (rightS b && (s.right && t.right)) = true → rightS b = true from fun h => by
    rw [Bool.and_eq_true] at h; exact h.1)
  have QA := Lib.hid (fun W (h : Ext w W) (hr : (rightS b && (s.right && t.right)) = true) => apply_ext b A c s W (hb.below h) (hs.below h) hns (HV.out hr) (by omega))
  have QB := Lib.hid (fun W (h : Ext w W) (hr : (rightS b && (s.right && t.right)) = true) => apply_ext b A c t W (hb.below h) (ht.below h) hn (HV.out hr) (by omega))
  have QS := Lib.hid (fun (u v : Tm) (hu : u.strip = (s.app b).strip) (hv : v.strip = (t.app b).strip) W (h1 : u.At W) (h2 : v.At W) => same_at u v W h1 h2 (same_of hu hv))
  have HE := Lib.hid (fun w' r (h1 : EqOut b s t r) (h : Ext w w') => (show EqR b s t w (.returned (.int .i64 r)) w' from ⟨r, rfl, h1, h⟩))
  clear hb hs ht hns hn HV
  generalize EqR b s t w = X at *
  generalize EqOut b s t = Y at *
  generalize (rightS b && (s.right && t.right)) = valid at *
  generalize (cmpT (s.app b) (t.app b) == 0) = same at *
  generalize (s.app b).strip = ss at *
  generalize (t.app b).strip = ts at *
  obtain ⟨k1, n1, s1, A1, c1, a1⟩ := s
  obtain ⟨k2, n2, s2, A2, c2, a2⟩ := t
  simp only [Tm.kind, Tm.num, Tm.name, Tm.at_, Tm.args, Tm.cap] at HSB
  have QT2 := Lib.hid (fun (W : World) (h : Ext w W) => show Calls Tryz.prog 9 #[.slice A b.length c, .agg #[.int .i64 k1, .int .i64 n1, .string s1, .slice A1 a1.length c1], .agg #[.int .i64 k2, .int .i64 n2, .string s2, .slice A2 a2.length c2]] W _ from QT.out W h)
  have QA2 := Lib.hid (fun (W : World) (h : Ext w W) (hr : valid = true) => show Calls Tryz.prog 28 #[.slice A b.length c, .agg #[.int .i64 k1, .int .i64 n1, .string s1, .slice A1 a1.length c1]] W (fun e w' => ∃ u : Tm, e = .returned u.val ∧ u.strip = ss ∧ u.At w' ∧ Ext W w') from QA.out W h hr)
  have QB2 := Lib.hid (fun (W : World) (h : Ext w W) (hr : valid = true) => show Calls Tryz.prog 28 #[.slice A b.length c, .agg #[.int .i64 k2, .int .i64 n2, .string s2, .slice A2 a2.length c2]] W (fun e w' => ∃ u : Tm, e = .returned u.val ∧ u.strip = ts ∧ u.At w' ∧ Ext W w') from QB.out W h hr)
  clear QT QA QB
  show Calls Tryz.prog 13 #[.slice A b.length c, .agg #[.int .i64 k1, .int .i64 n1, .string s1, .slice A1 a1.length c1], .agg #[.int .i64 k2, .int .i64 n2, .string s2, .slice A2 a2.length c2]] w _
  go_enter Tryz.func13, Tryz.ntmps13
  have hx0 : Ext ((w.alloc (.cells #[.int .i64 k1, .int .i64 n1, .string s1, .slice A1 a1.length c1] 26)).alloc (.cells #[.int .i64 k2, .int .i64 n2, .string s2, .slice A2 a2.length c2] 26)) ((w.alloc (.cells #[.int .i64 k1, .int .i64 n1, .string s1, .slice A1 a1.length c1] 26)).alloc (.cells #[.int .i64 k2, .int .i64 n2, .string s2, .slice A2 a2.length c2] 26)) := Ext.refl _
  obtain ⟨⟨d0, d1, d2, d3⟩, x0, x1, x2, x3⟩ := HSB.out _ hx0
  clear hx0
  go_wp2_with fail
  refine (QT2.out _ (B0.out _ _)).mono ?_
  rintro e w1 ⟨A6, c6, n6, D, q, m6, er, rfl, ⟨h13, h0, hne⟩, hx1⟩
  have E1 := Lib.hid ((B0.out _ _).trans hx1)
  have HC := Lib.hid (fun W (h : Ext w1 W) => HSB.out W (Ext.trans hx1 h))
  clear d0 d1 d2 d3 x0 x1 x2 x3 hx1
  by_cases he : er = 13
  · subst he
    have H4 := Lib.hid (HE.out w1 2 (h13 rfl) E1.out)
    clear h13 h0 hne
    go_wp2_with fail
    (try go_ret)
    exact H4.out
  · have e13 : (er == 13) = false := by simpa using he
    by_cases hz : er = 0
    · subst hz
      have HVA := Lib.hid (h0 rfl).1
      have HY := Lib.hid (h0 rfl).2
      clear h13 h0 hne he
      have QA3 := Lib.hid (fun W (h : Ext w1 W) => QA2.out W (E1.out.trans h) HVA.out)
      have QB3 := Lib.hid (fun W (h : Ext w1 W) => QB2.out W (E1.out.trans h) HVA.out)
      clear QA2 QB2
      go_wp2_with fail
      go_region_held3 (fun W => (W.cell? ⟨w.heap.size, 0, none⟩ = some (.int .i64 k1) ∧ W.cell? ⟨w.heap.size, 1, none⟩ = some (.int .i64 n1) ∧ W.cell? ⟨w.heap.size, 2, none⟩ = some (.string s1) ∧ W.cell? ⟨w.heap.size, 3, none⟩ = some (.slice A1 a1.length c1)) ∧ W.cell? ⟨w.heap.size + 1, 0, none⟩ = some (.int .i64 k2) ∧ W.cell? ⟨w.heap.size + 1, 1, none⟩ = some (.int .i64 n2) ∧ W.cell? ⟨w.heap.size + 1, 2, none⟩ = some (.string s2) ∧ W.cell? ⟨w.heap.size + 1, 3, none⟩ = some (.slice A2 a2.length c2))
        (first | (with_reducible exact HC.out _ (by (first | exact Ext.refl _ | ((first | refine Ext.trans ?_ (Ext.al _ _) | refine Ext.trans ?_ (Ext.drew _) | refine Ext.trans ?_ Y1.out | refine Ext.trans ?_ Y3.out); (first | exact Ext.refl _ | ((first | refine Ext.trans ?_ (Ext.al _ _) | refine Ext.trans ?_ (Ext.drew _) | refine Ext.trans ?_ Y1.out | refine Ext.trans ?_ Y3.out); (first | exact Ext.refl _ | ((first | refine Ext.trans ?_ (Ext.al _ _) | refine Ext.trans ?_ (Ext.drew _) | refine Ext.trans ?_ Y1.out | refine Ext.trans ?_ Y3.out); (first | exact Ext.refl _ | ((first | refine Ext.trans ?_ (Ext.al _ _) | refine Ext.trans ?_ (Ext.drew _) | refine Ext.trans ?_ Y1.out | refine Ext.trans ?_ Y3.out); (first | exact Ext.refl _ | ((first | refine Ext.trans ?_ (Ext.al _ _) | refine Ext.trans ?_ (Ext.drew _) | refine Ext.trans ?_ Y1.out | refine Ext.trans ?_ Y3.out); (first | exact Ext.refl _ | ((first | refine Ext.trans ?_ (Ext.al _ _) | refine Ext.trans ?_ (Ext.drew _) | refine Ext.trans ?_ Y1.out | refine Ext.trans ?_ Y3.out); exact Ext.refl _)))))))))))))) | (with_reducible exact HC.out _ Z3.out) | (with_reducible exact HC.out _ Z2.out) | (with_reducible exact HC.out _ Z1.out) | fail)
        (first
          | (go_at_call 28; (with_reducible refine (QA3.out _ (by (first | exact Ext.refl _ | ((first | refine Ext.trans ?_ (Ext.al _ _) | refine Ext.trans ?_ (Ext.drew _) | refine Ext.trans ?_ Y1.out | refine Ext.trans ?_ Y3.out); (first | exact Ext.refl _ | ((first | refine Ext.trans ?_ (Ext.al _ _) | refine Ext.trans ?_ (Ext.drew _) | refine Ext.trans ?_ Y1.out | refine Ext.trans ?_ Y3.out); (first | exact Ext.refl _ | ((first | refine Ext.trans ?_ (Ext.al _ _) | refine Ext.trans ?_ (Ext.drew _) | refine Ext.trans ?_ Y1.out | refine Ext.trans ?_ Y3.out); (first | exact Ext.refl _ | ((first | refine Ext.trans ?_ (Ext.al _ _) | refine Ext.trans ?_ (Ext.drew _) | refine Ext.trans ?_ Y1.out | refine Ext.trans ?_ Y3.out); (first | exact Ext.refl _ | ((first | refine Ext.trans ?_ (Ext.al _ _) | refine Ext.trans ?_ (Ext.drew _) | refine Ext.trans ?_ Y1.out | refine Ext.trans ?_ Y3.out); (first | exact Ext.refl _ | ((first | refine Ext.trans ?_ (Ext.al _ _) | refine Ext.trans ?_ (Ext.drew _) | refine Ext.trans ?_ Y1.out | refine Ext.trans ?_ Y3.out); exact Ext.refl _)))))))))))))).mono ?_); rintro e y1 ⟨u, rfl, hu, hat, hx⟩; have Z1 := Lib.hid (show Ext w1 y1 from Ext.trans (by (first | exact Ext.refl _ | ((first | refine Ext.trans ?_ (Ext.al _ _) | refine Ext.trans ?_ (Ext.drew _) | refine Ext.trans ?_ Y1.out | refine Ext.trans ?_ Y3.out); (first | exact Ext.refl _ | ((first | refine Ext.trans ?_ (Ext.al _ _) | refine Ext.trans ?_ (Ext.drew _) | refine Ext.trans ?_ Y1.out | refine Ext.trans ?_ Y3.out); (first | exact Ext.refl _ | ((first | refine Ext.trans ?_ (Ext.al _ _) | refine Ext.trans ?_ (Ext.drew _) | refine Ext.trans ?_ Y1.out | refine Ext.trans ?_ Y3.out); (first | exact Ext.refl _ | ((first | refine Ext.trans ?_ (Ext.al _ _) | refine Ext.trans ?_ (Ext.drew _) | refine Ext.trans ?_ Y1.out | refine Ext.trans ?_ Y3.out); (first | exact Ext.refl _ | ((first | refine Ext.trans ?_ (Ext.al _ _) | refine Ext.trans ?_ (Ext.drew _) | refine Ext.trans ?_ Y1.out | refine Ext.trans ?_ Y3.out); (first | exact Ext.refl _ | ((first | refine Ext.trans ?_ (Ext.al _ _) | refine Ext.trans ?_ (Ext.drew _) | refine Ext.trans ?_ Y1.out | refine Ext.trans ?_ Y3.out); exact Ext.refl _))))))))))))) hx); have HU := Lib.hid (And.intro hu hat); clear hx hu hat)
          | (go_at_call 28; (with_reducible refine (QB3.out _ Z1.out).mono ?_); rintro e y2 ⟨v, rfl, hv, hat, hx⟩; have Z2 := Lib.hid (Ext.trans Z1.out hx); have QSS := Lib.hid (QS.out u v HU.out.1 hv y2 (HU.out.2.below hx) hat); clear hx hv hat)
          | (go_at_call 27; (with_reducible refine (QSS.out).mono ?_); rintro e y3 ⟨rfl, hx⟩; have Z3 := Lib.hid (Ext.trans Z2.out hx); clear hx)
          | fail)
      all_goals
        have H4 := Lib.hid (HE.out _ _ HY.out (Ext.trans E1.out Z3.out))
        cases same
        · go_wp2_with fail
          (try go_ret)
          exact H4.out
        · go_wp2_with fail
          (try go_ret)
          exact H4.out
    · have e0 : (er == 0) = false := by simpa using hz
      have H4 := Lib.hid (fun W (h : Ext w1 W) => HE.out W 0 (hne hz he) (E1.out.trans h))
      clear h13 h0 hne he hz
      go_wp2_with fail
      go_region
      have H5 := Lib.hid (H4.out _ (Ext.drew _))
      clear H4
      go_wp2_with fail
      (try go_ret)
      exact H5.out
end Go.Proofs.YtelkmnjoboekmaaGreat
namespace Go.Proofs.YtelkmnjoboekmaaGreat

theorem ptell : PTell := fun b A c s t w hb hs ht _ _ _ hl => tell_at b A c s t w hb hs ht hl
theorem ptellis : PTellIs := fun b A c s t w hb hs ht _ _ hn hl => tellis_at b A c s t w hb hs ht hn hl
theorem pequal : PEqual := fun b A c s t w hb hs ht _ hns hn hl => equal_at b A c s t w hb hs ht hns hn hl
end Go.Proofs.YtelkmnjoboekmaaGreat
