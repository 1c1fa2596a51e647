/-
  Contract of enter of the reference: the nodes of a term.
  Contract of join of the reference.
  The measures of the reference's classes, plainly.
-/
import Derived.Test.YtdjbigfobodecaaMk16
import Derived.Test.YtdjbigfobodecaaMk10
import Derived.Test.YtdjbigfobodecaaMk12
import Derived.Deep.RegionLaw
import Derived.Deep.AppendLies
import Derived.Deep.CutRange
import Derived.Deep.RegionHeld3
import Derived.BigQuiet
import Derived.Deep.QuietTactic
import Derived.Test.YtdjbigfobodecaaMk9
namespace Go.Proofs.Ytdjbigfobodecaa
open Go.RowKit

theorem wrap_small {n : Nat} (h : n ≤ 1000000) : IntKind.i64.wrap ((n : Nat) : Int) = ((n : Nat) : Int) := by
  unfold IntKind.wrap
  simp [IntKind.bits, IntKind.signed]
  omega
/-- Ahead of the new node: the term is not there yet. -/
structure PreE (lo : Nat) (Y : Nat → Prop) (p : Nat) (zL zC : Value) (G : List Nd) (cls : List Nat) (k n : Int) (s : ByteArray) (A : Option Addr) (l c : Nat) (w wr : World) : Prop where
  g : RG lo Y wr p zL zC G cls
  b : Held w.heap.size wr (.int .i64 k) (.int .i64 n) (.string s) (.slice A l c)
  e : Ext w wr
  no : k = 1 → ∀ i, i < G.length → (nd G i).tm.kind = 1 → (nd G i).tm.num ≠ n
theorem EnterO.same {lo p i : Nat} {Y : Nat → Prop} {zL zC : Value} {G : List Nd} {cls : List Nat} {t : Tm} {w W : World} (hg : RG lo Y W p zL zC G cls) (hv : VarU G) (hW : Ext w W) (hi : i < G.length) (ht : (nd G i).tm.strip = t.strip) : EnterO lo Y p zL zC G cls t w (.returned (.int .i64 (i : Nat))) W :=
  ⟨zL, zC, G, cls, i, rfl, hg, ⟨[], by simp⟩, fun j h1 h2 => by omega, rfl, hv, hi, ht, by omega, FrX.of hW, OwnN.refl _ _, OwnN.refl _ _⟩
set_option maxHeartbeats 8000000 in
set_option maxRecDepth 100000 in
theorem enter_at (w0 : World) (p : Nat) (t : Tm) : ∀ (Y : Nat → Prop) (G : List Nd) (cls : List Nat) (zL zC : Value) (w : World), t.At w0 → t.form = true → Ext w0 w → RG w0.heap.size Y w p zL zC G cls → (∀ i, i < G.length → (nd G i).tm.form = true) → VarU G → (∀ b, Y b → b < w.heap.size) → G.length + t.nodes ≤ 1000000 →
    Calls Try.prog 52 #[.pointer (some ⟨p, 0, none⟩), t.val] w (EnterO w0.heap.size Y p zL zC G cls t w) := by
  induction t using Tm.induct with
  | h k n s A c a ih =>
    intro Y G cls zL zC w hat hform hbw hg hfm hvu hY hsz
    show Calls Try.prog 52 #[.pointer (some ⟨p, 0, none⟩), .agg #[.int .i64 k, .int .i64 n, .string s, .slice A a.length c]] w _
    obtain ⟨⟨zA, ca, rfl, _⟩, zB, cb, rfl, _⟩ := hg.slices
    have hfits := ((At_iff _ _).1 hat).1
    simp only [Tm.kind, Tm.num, Tm.name] at hfits
    have hsm := hg.small
    have hnod : (Tm.mk k n s A c a).nodes = 1 + nodesL a := rfl
    have hln : a.length ≤ 1000000 := by have := length_le_nodes a; omega
    have c0 := al1 hg.hl (.cells #[.int .i64 k, .int .i64 n, .string s, .slice A a.length c] 24)
    have HLS := Lib.hid (show Lst w0 A a c from hat.lst)
    have HF := Lib.hid hform
    have HBW := Lib.hid hbw
    have HFM := Lib.hid hfm
    have HVU := Lib.hid hvu
    have HG0 := Lib.hid hg
    have QI := Lib.hid ih
    have HSZ := Lib.hid hsz
    have HP0 := Lib.hid (show RG w0.heap.size Y (w.alloc (.cells #[.int .i64 k, .int .i64 n, .string s, .slice A a.length c] 24)) p (.slice zA G.length ca) (.slice zB G.length cb) G cls ∧ Held w.heap.size (w.alloc (.cells #[.int .i64 k, .int .i64 n, .string s, .slice A a.length c] 24)) (.int .i64 k) (.int .i64 n) (.string s) (.slice A a.length c) ∧ Ext w (w.alloc (.cells #[.int .i64 k, .int .i64 n, .string s, .slice A a.length c] 24)) from ⟨hg.alloc _, held_new w _, Ext.al _ _⟩)
    clear ih hat hform hbw hg hfm hvu hsz hnod
    by_cases hk : k = 1
    case' pos =>
      have hkb : (k == 1) = true := by simpa using hk
      have HK := Lib.hid hk
      clear hk
      have HS0 := Lib.hid (show (RG w0.heap.size Y (w.alloc (.cells #[.int .i64 k, .int .i64 n, .string s, .slice A a.length c] 24)) p (.slice zA G.length ca) (.slice zB G.length cb) G cls ∧ Held w.heap.size (w.alloc (.cells #[.int .i64 k, .int .i64 n, .string s, .slice A a.length c] 24)) (.int .i64 k) (.int .i64 n) (.string s) (.slice A a.length c) ∧ Ext w (w.alloc (.cells #[.int .i64 k, .int .i64 n, .string s, .slice A a.length c] 24))) ∧ ∀ i, i < 0 → (nd G i).tm.kind = 1 → (nd G i).tm.num ≠ n from ⟨HP0.out, fun i hi => by omega⟩)
      clear HP0
      go_enter Try.func52, Try.ntmps52
      go_wp2_with fail
      go_loopw [5] (fun s5 wr => ∃ j : Nat, j ≤ G.length ∧ s5 = .int .i64 (j : Nat) ∧ Hid ((RG w0.heap.size Y wr p (.slice zA G.length ca) (.slice zB G.length cb) G cls ∧ Held w.heap.size wr (.int .i64 k) (.int .i64 n) (.string s) (.slice A a.length c) ∧ Ext w wr) ∧ ∀ i, i < j → (nd G i).tm.kind = 1 → (nd G i).tm.num ≠ n)) (fun s5 _ => G.length - (intOf s5).toNat)
      case atStart => exact ⟨0, Nat.zero_le _, rfl, HS0⟩
      case' round =>
        clear HS0 c0
        obtain ⟨j, hj, rfl, HS⟩ := hrel
        have c0 := HS.out.1.1.hl
        have b1 := HS.out.1.2.1.c1
        by_cases hlt : j < G.length
        case pos =>
          obtain ⟨q, c1, q2, c2, e1, e2, _⟩ := HS.out.1.1.form (by omega)
          injection e1 with e1 _ e1'
          injection e2 with e2 _ e2'
          subst e1 e1' e2 e2'
          have d0 := (HS.out.1.1.cells hlt).1
          have d1 := (HS.out.1.1.cells hlt).2.1
          have HD := Lib.hid (show (RG w0.heap.size Y wr.drew p (.slice (some ⟨q, 0, none⟩) G.length ca) (.slice (some ⟨q2, 0, none⟩) G.length cb) G cls ∧ Held w.heap.size wr.drew (.int .i64 k) (.int .i64 n) (.string s) (.slice A a.length c) ∧ Ext w wr.drew) from ⟨HS.out.1.1.drew, HS.out.1.2.1.below (Below.refl _ _).drew, Below.drew HS.out.1.2.2⟩)
          have HN := Lib.hid (show ((nd G j).tm.kind = 1 → (nd G j).tm.num ≠ n) → ∀ i, i < j + 1 → (nd G i).tm.kind = 1 → (nd G i).tm.num ≠ n from fun h i hi => by
            by_cases e : i = j
            · rw [e]; exact h
            · exact HS.out.2 i (by omega))
          by_cases hkj : (nd G j).tm.kind = 1
          · have hkj' : ((nd G j).tm.kind == 1) = true := by simp [hkj]
            by_cases hnj : (nd G j).tm.num = n
            · have hnj' : ((nd G j).tm.num == n) = true := by simp [hnj]
              have HE := Lib.hid (EnterO.same (t := .mk k n s A c a) HD.out.1 HVU.out HD.out.2.2 hlt (by rw [(form_var (HFM.out j hlt) hkj).1, (form_var HF.out HK.out).1, hnj]; rfl))
              clear hkj hnj HN HS
              generalize (nd G j).tm.kind = kj at *
              generalize (nd G j).tm.num = nj at *
              go_wp2_with fail
              go_region
              go_wp2_with fail
              go_ret
              exact HE.out
            · have hnj' : ((nd G j).tm.num == n) = false := by simpa using hnj
              have HE := Lib.hid (And.intro HD.out (HN.out fun _ => hnj))
              clear hkj hnj HN HS HD
              generalize (nd G j).tm.kind = kj at *
              generalize (nd G j).tm.num = nj at *
              go_wp2_with fail
              go_region
              go_wp2_with fail
              go_roundw
              case rel => exact ⟨j + 1, by omega, by go_num, HE⟩
              case measure => simp [intOf]; omega
          · have hkj' : ((nd G j).tm.kind == 1) = false := by simpa using hkj
            have HE := Lib.hid (And.intro HD.out (HN.out fun h => absurd h hkj))
            clear hkj HN HS HD
            generalize (nd G j).tm.kind = kj at *
            go_wp2_with fail
            go_region
            go_wp2_with fail
            go_roundw
            case rel => exact ⟨j + 1, by omega, by go_num, HE⟩
            case measure => simp [intOf]; omega
        case' neg =>
          have hjj : j = G.length := by omega
          subst hjj
          have HPE := Lib.hid (show PreE w0.heap.size Y p (.slice zA G.length ca) (.slice zB G.length cb) G cls k n s A a.length c w wr from ⟨HS.out.1.1, HS.out.1.2.1, HS.out.1.2.2, fun _ => HS.out.2⟩)
          clear HS b1 hlt
          go_upto_region 7 with fail
    case' neg =>
      have hk1 : (k == 1) = false := by simpa using hk
      go_enter Try.func52, Try.ntmps52
      go_upto_region 7 with fail
      have HPE := Lib.hid (show PreE w0.heap.size Y p (.slice zA G.length ca) (.slice zB G.length cb) G cls k n s A a.length c w (w.alloc (.cells #[.int .i64 k, .int .i64 n, .string s, .slice A a.length c] 24)) from ⟨HP0.out.1, HP0.out.2.1, HP0.out.2.2, fun h => absurd h hk⟩)
      clear HP0 hk1
      generalize w.alloc (.cells #[.int .i64 k, .int .i64 n, .string s, .slice A a.length c] 24) = wr at *
    all_goals
      obtain ⟨-, b0, b1, b2, b3, -⟩ := HPE.out.b
      have c0' := HPE.out.g.hl
      have hltw : w.heap.size < wr.heap.size := HPE.out.b.lt
      have HE0 := Lib.hid (show Entering w0.heap.size Y p (.slice zA G.length ca) (.slice zB G.length cb) G cls a k n s wr wr.heap.size 0 (.slice none 0 0) (wr.alloc (.cells #[.int .i64 k, .int .i64 n, .string s, .slice none 0 0] 84)) from
        ⟨_, _, G, cls, [], (HPE.out.g.out (Y' := fun b => Y b ∨ b = wr.heap.size ∨ (Value.slice none 0 0).ownBlock = some b) (fun b hb e => by
          rcases e with e | e | e
          · exact e
          · omega
          · simp [Value.ownBlock] at e)).alloc _, ⟨[], by simp⟩, fun m h1 h2 => by omega, rfl, HVU.out, rfl, fun m hm => by omega, by simp [nodesL], held_new wr _, ⟨rfl, .inl ⟨rfl, rfl⟩⟩, FrX.of (Ext.al _ _), OwnN.refl _ _, OwnN.refl _ _, fun b e => by simp [Value.ownBlock] at e, fun e => by have := (HPE.out.g.ownlt e).2; omega⟩)
      go_wp2_with fail
      rename World => wq
      obtain ⟨i1, hi1, hy0, hy1, hy2⟩ := info_parts int_info
      obtain ⟨i0, hi0, hz0, hz1, hz2⟩ := info_parts rnode_info
      go_loopw [7] (fun s7 wz => ∃ (j : Nat) (zK : Value), j ≤ a.length ∧ s7 = .int .i64 (j : Nat) ∧ Hid (Entering w0.heap.size Y p (.slice zA G.length ca) (.slice zB G.length cb) G cls a k n s wq wq.heap.size j zK wz)) (fun s7 _ => a.length - (intOf s7).toNat)
      case atStart => exact ⟨0, _, Nat.zero_le _, rfl, HE0⟩
      case round =>
        clear HE0 b0 b1 b2 b3 c0'
        obtain ⟨j, zK, hj, rfl, HE⟩ := hrel
        have HB3 := Lib.hid (show ∀ W, FrX (Own3 p (.slice zA G.length ca) (.slice zB G.length cb)) wq W → Held w.heap.size W (.int .i64 k) (.int .i64 n) (.string s) (.slice A a.length c) from fun W hW => held_fx2 HPE.out.b hW fun e => by
          have h1 := HG0.out.ownlt e
          exact absurd h1.2 (Nat.lt_irrefl _))
        by_cases hlt : j < a.length
        · obtain ⟨zL', zC', G', cls', ks, h1, h2, h3, h4, h5, h6, h7, h8, h9, h10, h11, h12, h13, h14, h15⟩ := HE.out
          have HW := Lib.hid (show Ext w0 wr from h11.ext (HBW.out.trans HPE.out.e) fun b e => (HPE.out.g.ownlt e).1)
          obtain ⟨b, o, rfl, ⟨d0, d1, d2, d3⟩, _⟩ := (HLS.out.below HW.out).get hlt
          obtain ⟨-, -, -, -, b3, -⟩ := HB3.out wr h11
          have q3 := h9.c3
          have hzB := h9.lt
          obtain ⟨x, hx⟩ : ∃ x, x = a.getD j default := ⟨_, rfl⟩
          have hxa : x ∈ a := by rw [hx]; exact getD_mem hlt
          rw [← hx] at d0 d1 d2 d3
          have hnx := nodesL_next hlt
          have htk := nodesL_take a (j + 1)
          have hnod : (Tm.mk k n s (some ⟨b, o, none⟩) c a).nodes = 1 + nodesL a := rfl
          have HQ := Lib.hid (QI.out x hxa (fun b => Y b ∨ b = wq.heap.size ∨ zK.ownBlock = some b) G' cls' zL' zC' wr.drew (HLS.out.mem hxa) (formL_mem hxa (form_args HF.out).2) (Below.drew HW.out) h1.drew (fun i hi => by
              obtain ⟨N, rfl⟩ := h2
              by_cases h1 : i < G.length
              · rw [nd_left h1]; exact HFM.out i h1
              · exact (h3 i (by omega) hi).form) h5 (fun y hy => by
              show y < wr.heap.size
              have hs := h11.size
              rcases hy with hy | hy | hy
              · have := hY y hy; have := HPE.out.e.size; omega
              · omega
              · exact (own_lt h10 y hy).2) (by
              have := HSZ.out
              rw [← hx] at hnx
              omega))
          have HNX := Lib.hid (fun zL2 zC2 G2 cls2 i w2 w4 g cap ob k1 k2 k3 k4 k5 k6 k7 k8 k9 k10 k11 hown hgr hat => entering_next (zL2 := zL2) (zC2 := zC2) (G2 := G2) (cls2 := cls2) (i := i) (w2 := w2) (w4 := w4) (g := g) (cap := cap) (ob := ob) hlt h1 h2 h3 h4 h6 h7 h8 h9 h10 h11 h12 h13 h14 h15 k1 k2 k3 k4 k5 k6 k7 k8 k9 k10 k11 hown hgr hat (Nat.le_refl _))
          have HROW := Lib.hid (fun w2 (k9 : FrX (Own3 p zL' zC') wr w2) => show w2.ownsRow (wq.heap.size + 1) 3 1 zK ks.length (nums ks) ∧ Held wq.heap.size w2 (.int .i64 k) (.int .i64 n) (.string s) zK from ⟨k9.row h10 (fun b e => h14 b e), held_fx2 h9 k9 h15⟩)
          have HKL := Lib.hid (fun b e => own_lt h10 b e)
          have HX2 := Lib.hid hx
          have hkl : ks.length ≤ 1000000 := by omega
          clear h1 h2 h3 h4 h5 h6 h7 h8 h9 h10 h11 h12 h13 h14 h15 hxa hx hnx htk hnod HE
          obtain ⟨kx, nx, sx, Ax, cx, lx⟩ := x
          simp only [Tm.kind, Tm.num, Tm.name, Tm.at_, Tm.args, Tm.cap] at d0 d1 d2 d3
          go_wp2_with fail
          go_region_law (first
            | (go_simp; go_at_call 52; refine (HQ.out).mono ?_; rintro e w2 ⟨zL2, zC2, G2, cls2, i, rfl, m1, m2, m3, m4, m5, m6, m7, m8, m9, m10, m11⟩; have M9 := Lib.hid (FrX.undrew m9); obtain ⟨or, ox⟩ := HROW.out w2 M9.out; have q4 := ox.c3; have hz4 := ox.lt; have hs4 := M9.out.size; have OR := Lib.hid or; have OX := Lib.hid ox; have MM := Lib.hid (And.intro m1 (And.intro m2 (And.intro m3 (And.intro m4 (And.intro m5 (And.intro m6 (And.intro m7 (And.intro m8 (And.intro m10 m11))))))))); clear or ox m1 m2 m3 m4 m5 m6 m7 m8 m9 m10 m11)
            | (refine step_append_lies _ (by rfl) _ _ _ (by rfl) (wq.heap.size + 1) 3 i1 _ 1 8 Try.underlying49 hi1 hy0 hy1 hy2 rfl (by omega) zK ks.length (nums ks) (by rfl) (own_below OR.out (below1 w2 _)) ⟨w2.heap.size, 0, none⟩ 1 1 [.int .i64 (i : Nat)] (by rfl) (by rfl) (World.news_of_block (cs := #[.int .i64 (i : Nat)]) (t := 3) (fr := (0, 0)) (heap_alloc_new w2 _)) (by simp [Value.oneCell']) (by omega) (by unfold maxLen; omega) (by omega) (by simp; omega) (w2.heap.size + 1) (by simp) ?_; intro g cp w4 hown hgrow hat hgl; have B4 := Lib.hid (((OX.out).alloc (.cells #[.int .i64 (i : Nat)] 3)).fr hgrow (fun e => by have := (HKL.out _ e.symm).1; omega)); have q5 := B4.out.c3; have f5 := B4.out.free 3; have hz5 := B4.out.lt))
          all_goals
            have HD := Lib.hid (HNX.out zL2 zC2 G2 cls2 i w2 w4 g cp _ MM.out.1 MM.out.2.1 MM.out.2.2.1 MM.out.2.2.2.1 MM.out.2.2.2.2.1 MM.out.2.2.2.2.2.1 (by rw [← HX2.out]; exact MM.out.2.2.2.2.2.2.1) (by rw [← HX2.out]; exact MM.out.2.2.2.2.2.2.2.1) M9.out MM.out.2.2.2.2.2.2.2.2.1 MM.out.2.2.2.2.2.2.2.2.2 hown hgrow (by rcases hat with h | h; exact .inl h; exact .inr (by rw [h]; simp)))
            clear hown hgrow hat hgl B4 OR OX MM HNX HROW HQ
            go_wp2_with fail
            go_roundw
            case rel => exact ⟨j + 1, _, by omega, by go_num, HD⟩
            case measure => simp [intOf]; omega
        · obtain rfl : j = a.length := by omega
          obtain ⟨_, _, _, _, _, _, _, _, _, _, _, _, _, _, _, e11, _⟩ := HE.out
          obtain ⟨-, -, -, -, tb3, -⟩ := HB3.out wr e11
          clear e11
          obtain ⟨zL', zC', G', cls', A', c', ks, rfl, h1, h2, h3, h4, h5, h6⟩ := enter_done HE.out HF.out hfits HPE.out.no HPE.out.e (by have := HBW.out.size; have := HPE.out.e.size; omega) (fun b hb => by have := hY b hb; omega) HSZ.out
          obtain ⟨⟨zA', ca', rfl, _⟩, zB', cb', rfl, _⟩ := h1.slices
          have HH1 := Lib.hid h1
          have HH2 := Lib.hid h2
          have HH3 := Lib.hid h3
          have HH6 := Lib.hid h6
          have hcl' : cls'.length = G'.length := h1.cl
          have p0 := h1.hl
          have p0x := al1 p0
          obtain ⟨-, b0, b1, b2, b3, -⟩ := h5
          have b0x := al1 b0
          have b1x := al1 b1
          have b2x := al1 b2
          have b3x := al1 b3
          have fz0 := h1.fz 0
          have hpl := h1.lt
          have hw0 : w0.heap.size ≤ wr.heap.size := Nat.le_trans h1.lp (Nat.le_of_lt hpl)
          clear h1 h2 h3 h6 HE QI HB3
          go_upto_region 12 with fail
          go_cut [6] from 69 to 78 (fun s6 W => s6 = .pointer (some ⟨wq.heap.size, 0, none⟩) ∧ Hid (∃ g cp, Half w0.heap.size Y W p (.slice (some ⟨g, 0, none⟩) (G'.length + 1) cp) (.slice zB' G'.length cb') (G' ++ [⟨.mk k n s A c a, A', c', ks, 0⟩]) cls' ∧ FrX (Own3 p (.slice zA' G'.length ca') (.slice zB' G'.length cb')) wr W ∧ OwnN wr (.slice zA' G'.length ca') (.slice (some ⟨g, 0, none⟩) (G'.length + 1) cp)))
          case first =>
            go_region_law (first
              | (refine step_append_lies _ (by rfl) _ _ _ (by rfl) w0.heap.size 84 i0 _ 4 56 Try.underlying77 hi0 hz0 hz1 hz2 rfl (by omega) (.slice zA' G'.length ca') G'.length (rgcells G') (by rfl) (HH1.out.row.alloc _) ⟨wr.heap.size, 0, none⟩ 1 1 [.int .i64 k, .int .i64 n, .string s, .slice A' ks.length c'] (by rfl) (by rfl) (World.news_of_block (cs := #[.int .i64 k, .int .i64 n, .string s, .slice A' ks.length c']) (t := 84) (fr := (0, 0)) (heap_alloc_new wr _)) (by simp [Value.oneCell']) (by omega) (by unfold maxLen; omega) (by omega) (by simp; omega) (wr.heap.size + 1) (by simp) ?_; intro g cp w5 hown hgrow hat hgl; have p5 := (fr_cell (fr_trans (World.grownBy_alloc wr _ _) (undrew_gr hgrow)) (p := ⟨p, 0, none⟩) hpl (fun e => HH1.out.nl e.symm)).trans p0; have fz5 := (fr_frozen (fr_trans (World.grownBy_alloc wr _ _) (undrew_gr hgrow)) (p := ⟨p, 0, none⟩) hpl (fun e => HH1.out.nl e.symm)).trans fz0))
            all_goals
              have HHF := Lib.hid (half_of (x := ⟨.mk k n s A c a, A', c', ks, 0⟩) HH1.out HH2.out HH3.out h4 hown (undrew_gr hgrow) (by rcases hat with h | h; exact .inl h; exact .inr (by rw [h]; simp)))
              go_wp2_with fail
              go_meet
              exact ⟨rfl, Lib.hid ⟨_, _, HHF.out⟩⟩
          case rest =>
            obtain ⟨rfl, hx⟩ := hcut
            obtain ⟨g, cp, hx⟩ := hx.out
            have HHF := Lib.hid hx
            clear hx
            have l0 := HHF.out.1.hl
            have l1 := HHF.out.1.hc
            have fz1 := HHF.out.1.fz 1
            have hph := HHF.out.1.lt
            have hlh := HHF.out.1.lp
            clear p0 p0x b0 b0x b1 b1x b2 b2x b3 b3x fz0
            rename World => wh
            have hwr : IntKind.i64.wrap ((G'.length : Nat) : Int) = ((G'.length : Nat) : Int) := wrap_small (by omega)
            have l0x := al1 l0
            have l1x := al1 l1
            go_wp2_with fail
            go_region_law (first
              | (refine step_append_lies _ (by rfl) _ _ _ (by rfl) w0.heap.size 3 i1 _ 1 8 Try.underlying49 hi1 hy0 hy1 hy2 rfl (by omega) (.slice zB' G'.length cb') cls'.length (nums cls') (by rfl) ((own_below HHF.out.1.crow (below1 wh _)).drew) ⟨wh.heap.size, 0, none⟩ 1 1 [.int .i64 (G'.length : Nat)] (by rfl) (by rfl) (World.news_of_block (cs := #[.int .i64 (G'.length : Nat)]) (t := 3) (fr := (0, 0)) (by exact heap_alloc_new wh (.cells #[.int .i64 (G'.length : Nat)] 3))) (by simp [Value.oneCell']) (by omega) (by unfold maxLen; omega) (by omega) (by simp; omega) (wh.heap.size + 1) (by simp) ?_; intro g2 cp2 w6 hown hgrow hat hgl; have p6 := (fr_cell (fr_trans (World.grownBy_alloc wh _ _) (undrew_gr hgrow)) (p := ⟨p, 1, none⟩) hph (fun e => HHF.out.1.nc e.symm)).trans l1; have fz6 := (fr_frozen (fr_trans (World.grownBy_alloc wh _ _) (undrew_gr hgrow)) (p := ⟨p, 1, none⟩) hph (fun e => HHF.out.1.nc e.symm)).trans fz1))
            all_goals
              have HRG := Lib.hid (rg_of_half HHF.out.1 (by rw [hcl'] at hown ⊢; exact hown) (undrew_gr hgrow) (by rcases hat with h | h; exact .inl h; exact .inr (by rw [h]; simp)))
              rw [hcl'] at HRG
              have p60 := (fr_cell (fr_trans (World.grownBy_alloc wh _ _) (undrew_gr hgrow)) (p := ⟨p, 0, none⟩) hph (fun e => HHF.out.1.nc e.symm)).trans l0
              have HE := Lib.hid (HH6.out _ _ _ _ (by rw [hcl']; exact HRG.out.1) ((HHF.out.2.1.mono (X' := fun b => Own3 p (.slice zA' G'.length ca') (.slice zB' G'.length cb') b ∨ Own3 p (.slice (some ⟨g, 0, none⟩) (G'.length + 1) cp) (.slice zB' G'.length cb') b) (fun b _ e => .inl e)).trans HRG.out.2.1 (fun b _ e => .inr e)) HHF.out.2.2 (OwnN.refl _ _) (by
                rcases HRG.out.2.2 with e | e
                · exact .inl e
                · exact .inr fun b eb => Nat.le_trans HHF.out.2.1.size (e b eb)))
              clear hown hgrow hat hgl HRG l0x l1x l0 l1
              go_wp2_with fail
              go_ret
              exact HE.out
end Go.Proofs.Ytdjbigfobodecaa
namespace Go.Proofs.Ytdjbigfobodecaa
open Go.RowKit

/-- The two nodes in boxes. -/
def TwoN (lo : Nat) (Y : Nat → Prop) (p : Nat) (zL zC : Value) (G : List Nd) (cls : List Nat) (w : World) (m n P Q : Nat) (W : World) : Prop :=
  RG lo Y W p zL zC G cls ∧ FrX (fun b => zC.ownBlock = some b) w W ∧ w.heap.size ≤ P ∧ w.heap.size ≤ Q ∧ Held P W (.int .i64 (nd G m).tm.kind) (.int .i64 (nd G m).tm.num) (.string (nd G m).tm.name) (.slice (nd G m).A (nd G m).kids.length (nd G m).cap) ∧
    Held Q W (.int .i64 (nd G n).tm.kind) (.int .i64 (nd G n).tm.num) (.string (nd G n).tm.name) (.slice (nd G n).A (nd G n).kids.length (nd G n).cap)
theorem held_fx {X : Nat → Prop} {b : Nat} {w w' : World} {v0 v1 v2 v3 : Value} (h : Held b w v0 v1 v2 v3) (k : FrX X w w') (hX : ¬ X b) : Held b w' v0 v1 v2 v3 :=
  ⟨Nat.lt_of_lt_of_le h.lt k.size, k.cellv hX h.c0, k.cellv hX h.c1, k.cellv hX h.c2, k.cellv hX h.c3, fun j => (k.frozen (p := ⟨b, j, none⟩) h.lt hX).trans (h.free j)⟩
theorem held_drew {b : Nat} {w : World} {v0 v1 v2 v3 : Value} (h : Held b w v0 v1 v2 v3) : Held b w.drew v0 v1 v2 v3 := h.below (Below.refl _ _).drew
section
variable {lo p : Nat} {Y : Nat → Prop} {zL zC : Value} {G : List Nd} {cls : List Nat} {w wr : World} {m n : Nat}
theorem TwoN.of1 (hg : RG lo Y wr p zL zC G cls) (hf : FrX (fun b => zC.ownBlock = some b) w wr) : TwoN lo Y p zL zC G cls w m n wr.heap.size (wr.heap.size + 1) ((wr.alloc (.cells #[.int .i64 (nd G m).tm.kind, .int .i64 (nd G m).tm.num, .string (nd G m).tm.name, .slice (nd G m).A (nd G m).kids.length (nd G m).cap] 84)).alloc (.cells #[.int .i64 (nd G n).tm.kind, .int .i64 (nd G n).tm.num, .string (nd G n).tm.name, .slice (nd G n).A (nd G n).kids.length (nd G n).cap] 84)).drew := by
  obtain ⟨h1, h2⟩ := two_boxes wr (.int .i64 (nd G m).tm.kind) (.int .i64 (nd G m).tm.num) (.string (nd G m).tm.name) (.slice (nd G m).A (nd G m).kids.length (nd G m).cap) (.int .i64 (nd G n).tm.kind) (.int .i64 (nd G n).tm.num) (.string (nd G n).tm.name) (.slice (nd G n).A (nd G n).kids.length (nd G n).cap) 84
  exact ⟨((hg.alloc _).alloc _).drew, ((hf.alloc _).alloc _).drew, hf.size, Nat.le_succ_of_le hf.size, held_drew h1, held_drew h2⟩
theorem TwoN.of2 (hg : RG lo Y wr p zL zC G cls) (hf : FrX (fun b => zC.ownBlock = some b) w wr) : TwoN lo Y p zL zC G cls w m n (wr.heap.size + 1) wr.heap.size ((wr.alloc (.cells #[.int .i64 (nd G n).tm.kind, .int .i64 (nd G n).tm.num, .string (nd G n).tm.name, .slice (nd G n).A (nd G n).kids.length (nd G n).cap] 84)).alloc (.cells #[.int .i64 (nd G m).tm.kind, .int .i64 (nd G m).tm.num, .string (nd G m).tm.name, .slice (nd G m).A (nd G m).kids.length (nd G m).cap] 84)).drew := by
  obtain ⟨h1, h2⟩ := two_boxes wr (.int .i64 (nd G n).tm.kind) (.int .i64 (nd G n).tm.num) (.string (nd G n).tm.name) (.slice (nd G n).A (nd G n).kids.length (nd G n).cap) (.int .i64 (nd G m).tm.kind) (.int .i64 (nd G m).tm.num) (.string (nd G m).tm.name) (.slice (nd G m).A (nd G m).kids.length (nd G m).cap) 84
  exact ⟨((hg.alloc _).alloc _).drew, ((hf.alloc _).alloc _).drew, Nat.le_succ_of_le hf.size, hf.size, held_drew h2, held_drew h1⟩
end
/-- While the arguments are joined. -/
def Kidding (lo : Nat) (Y : Nat → Prop) (p : Nat) (zL zC : Value) (G : List Nd) (cls : List Nat) (op E : List (Nat × Nat)) (w : World) (m n P Q i : Nat) (W : World) : Prop :=
  ∃ cls', TwoN lo Y p zL zC G cls' w m n P Q W ∧ Mid G (clsR cls') (((nd G m).kids.zip (nd G n).kids).drop i ++ op) E ∧ Roots G (clsR cls') ∧ wtOf G (clsR cls') G.length ≤ wtOf G (clsR cls) G.length
/-- In the loop that renames. -/
def Renaming (lo : Nat) (Y : Nat → Prop) (p : Nat) (zL zC : Value) (G : List Nd) (cls : List Nat) (x y : Nat) (w : World) (j : Nat) (wr : World) : Prop := RG lo Y wr p zL zC G (mixed cls x y j) ∧ FrX (fun b => zC.ownBlock = some b) w wr
set_option maxHeartbeats 8000000 in
set_option maxRecDepth 100000 in
theorem rjoin_at {lo p : Nat} {Y : Nat → Prop} {zL zC : Value} {G : List Nd} (hok : Ok G) : ∀ (N : Nat) (op E : List (Nat × Nat)) (a b : Nat) (cls : List Nat) (w : World), RG lo Y w p zL zC G cls → Mid G (clsR cls) ((a, b) :: op) E → Roots G (clsR cls) → wtOf G (clsR cls) G.length < N →
    Calls Try.prog 53 #[.pointer (some ⟨p, 0, none⟩), .int .i64 (a : Nat), .int .i64 (b : Nat)] w (JoinO lo Y p zL zC G cls op E w) := by
  intro N
  induction N with
  | zero => intro op E a b cls w _ _ _ h; omega
  | succ N ih =>
    intro op E a b cls w h hm rl hN
    obtain ⟨ha, hb⟩ := hm.bd (a, b) (by simp)
    simp only at ha hb
    have hsm := h.small
    have hcl := h.cl
    obtain ⟨q, c1, q2, c2, e1, e2, n1, n2, n3, n4, n5, n6, n7⟩ := h.form (by omega)
    subst e1 e2
    have h0 := h.hl
    have h1 := h.hc
    have d0 := h.class ha
    have d1 := h.class hb
    have hpl := h.lt
    obtain ⟨x, hx⟩ : ∃ x, x = clsR cls a := ⟨_, rfl⟩
    obtain ⟨y, hy⟩ : ∃ y, y = clsR cls b := ⟨_, rfl⟩
    have hxl : x < G.length ∧ clsR cls x = x := by rw [hx]; exact rl a ha
    have hyl : y < G.length ∧ clsR cls y = y := by rw [hy]; exact rl b hb
    rw [← hx] at d0
    rw [← hy] at d1
    have HG := Lib.hid h
    have HM := Lib.hid hm
    have HRL := Lib.hid rl
    have HIH := Lib.hid ih
    have HN := Lib.hid hN
    have HX := Lib.hid (And.intro hx hy)
    have HXL := Lib.hid (And.intro hxl hyl)
    have HCL := Lib.hid hcl
    have HOK := Lib.hid hok
    clear h hm rl ih hN hx hy hcl
    by_cases hxy : x = y
    · subst hxy
      have HE := Lib.hid (fun w' (g1 : RG lo Y w' p (.slice (some ⟨q, 0, none⟩) G.length c1) (.slice (some ⟨q2, 0, none⟩) G.length c2) G cls) g2 => JoinO.yes (w := w) g1 g2 (HM.out.pop (op' := op) (fun p hp => by rcases List.mem_cons.1 hp with h | h; exact .inl h; exact .inr h) (fun p hp => List.mem_cons_of_mem _ hp) ha hb (by rw [← HX.out.1, ← HX.out.2])) HRL.out (Nat.le_refl _))
      go_enter Try.func53, Try.ntmps53
      go_wp2_with fail
      go_region
      go_wp2_with fail
      go_ret
      exact HE.out _ HG.out.drew (FrX.refl w).drew
    · have hxy' : ((x : Int) == (y : Int)) = false := by simp; omega
      have HS := Lib.hid (fun W (hW : RG lo Y W p (.slice (some ⟨q, 0, none⟩) G.length c1) (.slice (some ⟨q2, 0, none⟩) G.length c2) G cls) c => shape_at (c := c) hW)
      obtain ⟨m, hm⟩ : ∃ m, m = shapeI G (clsR cls) x := ⟨_, rfl⟩
      obtain ⟨n, hn⟩ : ∃ n, n = shapeI G (clsR cls) y := ⟨_, rfl⟩
      have S1 := Lib.hid (show ∀ W, RG lo Y W p (.slice (some ⟨q, 0, none⟩) G.length c1) (.slice (some ⟨q2, 0, none⟩) G.length c2) G cls → Calls Try.prog 55 #[.pointer (some ⟨p, 0, none⟩), .int .i64 (x : Nat)] W fun e w' => e = .returned (.int .i64 m) ∧ W = w' from fun W hW => by rw [hm]; exact HS.out W hW x)
      have S2 := Lib.hid (show ∀ W, RG lo Y W p (.slice (some ⟨q, 0, none⟩) G.length c1) (.slice (some ⟨q2, 0, none⟩) G.length c2) G cls → Calls Try.prog 55 #[.pointer (some ⟨p, 0, none⟩), .int .i64 (y : Nat)] W fun e w' => e = .returned (.int .i64 n) ∧ W = w' from fun W hW => by rw [hn]; exact HS.out W hW y)
      have HMN := Lib.hid (And.intro hm hn)
      have HNE := Lib.hid hxy
      have HD := Lib.hid HG.out.drew
      clear hm hn HS hxy
      go_enter Try.func53, Try.ntmps53
      go_wp2_with fail
      go_region
      go_wp2_with (first
        | (go_at_call 55; (with_reducible refine (S1.out _ HD.out).mono ?_); rintro e w3 ⟨rfl, rfl⟩)
        | (go_at_call 55; (with_reducible refine (S2.out _ HD.out).mono ?_); rintro e w3 ⟨rfl, rfl⟩))
      have HR0 := Lib.hid (show Renaming lo Y p (.slice (some ⟨q, 0, none⟩) G.length c1) (.slice (some ⟨q2, 0, none⟩) G.length c2) G cls x y w 0 w.drew from ⟨by rw [mixed_zero]; exact HD.out, (FrX.refl w).drew⟩)
      clear h0 h1 d0 d1 S1 S2 HD
      go_loopw [11] (fun i wr => ∃ j : Nat, j ≤ G.length ∧ i = .int .i64 (j : Nat) ∧ Hid (Renaming lo Y p (.slice (some ⟨q, 0, none⟩) G.length c1) (.slice (some ⟨q2, 0, none⟩) G.length c2) G cls x y w j wr)) (fun i _ => G.length - (intOf i).toNat)
      case atStart => exact ⟨0, Nat.zero_le _, rfl, HR0⟩
      case round =>
        clear HR0
        obtain ⟨j, hj, rfl, HR⟩ := hrel
        have h1 := HR.out.1.hc
        by_cases hlt : j < G.length
        · have d4 := HR.out.1.class hlt
          rw [mixed_at (by rw [HCL.out]; exact hlt)] at d4
          have f4 := HR.out.1.free j
          by_cases he : clsR cls j = y
          · have he' : (((clsR cls j : Nat) : Int) == ((y : Nat) : Int)) = true := by simp [he]
            have HE := Lib.hid (show Renaming lo Y p (.slice (some ⟨q, 0, none⟩) G.length c1) (.slice (some ⟨q2, 0, none⟩) G.length c2) G cls x y w (j + 1) (wr.setCell ⟨q2, j, none⟩ (.int .i64 (x : Nat))) from by
              have g1 := HR.out.1.setClass (i := j) (x := x)
              refine ⟨?_, HR.out.2.set (p := ⟨q2, j, none⟩) (fun _ => rfl) _⟩
              rw [mixed_next (by rw [HCL.out]; exact hlt), he, show remap x y y = x by simp [remap]]
              exact g1)
            clear he
            generalize clsR cls j = cj at *
            go_wp2_with fail
            go_roundw
            case rel => exact ⟨j + 1, by omega, by go_num, HE⟩
            case measure => simp [intOf]; omega
          · have HE := Lib.hid (show Renaming lo Y p (.slice (some ⟨q, 0, none⟩) G.length c1) (.slice (some ⟨q2, 0, none⟩) G.length c2) G cls x y w (j + 1) wr from ⟨by rw [mixed_same (by rw [HCL.out]; exact hlt) he]; exact HR.out.1, HR.out.2⟩)
            have he' : (((clsR cls j : Nat) : Int) == ((y : Nat) : Int)) = false := by simp; omega
            clear he
            generalize clsR cls j = cj at *
            go_wp2_with fail
            go_roundw
            case rel => exact ⟨j + 1, by omega, by go_num, HE⟩
            case measure => simp [intOf]; omega
        · obtain rfl : j = G.length := by omega
          have HG2 := Lib.hid (show RG lo Y wr p (.slice (some ⟨q, 0, none⟩) G.length c1) (.slice (some ⟨q2, 0, none⟩) G.length c2) G (cls.map (remap x y)) from by have := HR.out.1; rwa [mixed_all cls x y HCL.out] at this)
          have HF2 := Lib.hid HR.out.2
          have hroot : clsR (cls.map (remap x y)) = mergeR (clsR cls) x y := rmap_root (by rw [HCL.out]; exact hyl.1)
          have HRT := Lib.hid hroot
          have HRL2 := Lib.hid (show Roots G (clsR (cls.map (remap x y))) from by rw [hroot]; exact HRL.out.merge hxl.1 hxl.2 HNE.out)
          have HWT := Lib.hid (show wtOf G (clsR (cls.map (remap x y))) G.length < wtOf G (clsR cls) G.length from by rw [hroot]; exact wt_merge hyl.1 hyl.2 hxl.2 HNE.out)
          clear HR hroot hxl hyl
          obtain ⟨hm, hn⟩ := HMN.out
          rcases shapeI_cases G (clsR cls) x with ⟨s1, e1⟩ | ⟨m', s1, e1⟩
          · have HE := Lib.hid (JoinO.yes (w := w) HG2.out HF2.out (by rw [HRT.out]; exact merge_var HM.out HOK.out HX.out.1 HX.out.2 HNE.out (.inl s1)) HRL2.out (Nat.le_of_lt HWT.out))
            rw [e1] at hm
            subst hm
            clear s1 e1 hn
            go_wp2_with fail
            go_ret
            exact HE.out
          · rcases shapeI_cases G (clsR cls) y with ⟨s2, e2⟩ | ⟨n', s2, e2⟩
            · have HE := Lib.hid (JoinO.yes (w := w) HG2.out HF2.out (by rw [HRT.out]; exact merge_var HM.out HOK.out HX.out.1 HX.out.2 HNE.out (.inr s2)) HRL2.out (Nat.le_of_lt HWT.out))
              rw [e1] at hm
              rw [e2] at hn
              subst hm hn
              have g0 : decide ((m' : Int) < 0) = false := by simp
              clear s1 s2 e1 e2
              go_wp2_with fail
              go_ret
              exact HE.out
            · have HS := Lib.hid (And.intro s1 s2)
              rw [e1] at hm
              rw [e2] at hn
              subst hm hn
              have k1 := shapeOf_some s1
              have k2 := shapeOf_some s2
              have g0 : decide ((m' : Int) < 0) = false := by simp
              have g1 : decide ((n' : Int) < 0) = false := by simp
              have m1 := k1.1
              have m2 := k2.1
              clear s1 s2 e1 e2 k1 k2
              have p0 := HG2.out.hl
              obtain ⟨b0, b1, b2, b3⟩ := HG2.out.cells m1
              obtain ⟨b4, b5, b6, b7⟩ := HG2.out.cells m2
              have p0x := al1 p0
              have p0y := al2 p0
              have b0x := al1 b0
              have b0y := al2 b0
              have b1x := al1 b1
              have b1y := al2 b1
              have b2x := al1 b2
              have b2y := al2 b2
              have b3x := al1 b3
              have b3y := al2 b3
              have b4x := al1 b4
              have b4y := al2 b4
              have b5x := al1 b5
              have b5y := al2 b5
              have b6x := al1 b6
              have b6y := al2 b6
              have b7x := al1 b7
              have b7y := al2 b7
              go_wp2_with fail
              go_cut [12, 13] from 69 to 82 (fun s12 s13 W => Hid (∃ P Q, s12 = .pointer (some ⟨P, 0, none⟩) ∧ s13 = .pointer (some ⟨Q, 0, none⟩) ∧ TwoN lo Y p (.slice (some ⟨q, 0, none⟩) G.length c1) (.slice (some ⟨q2, 0, none⟩) G.length c2) G (cls.map (remap x y)) w m' n' P Q W))
              case first =>
                go_region
                all_goals go_wp2_with fail
                all_goals go_meet
                all_goals first | exact Lib.hid ⟨_, _, rfl, rfl, TwoN.of1 HG2.out HF2.out⟩ | exact Lib.hid ⟨_, _, rfl, rfl, TwoN.of2 HG2.out HF2.out⟩
              case rest =>
                clear p0 p0x p0y b0 b0x b0y b1 b1x b1y b2 b2x b2y b3 b3x b3y b4 b4x b4y b5 b5x b5y b6 b6x b6y b7 b7x b7y
                obtain ⟨P, Q, rfl, rfl, HT⟩ := hcut.out
                have HT := Lib.hid HT
                clear hcut
                obtain ⟨-, t0, t1, t2, t3, -⟩ := HT.out.2.2.2.2.1
                obtain ⟨-, u0', u1', u2', u3', -⟩ := HT.out.2.2.2.2.2
                by_cases hl : SameLab G m' n'
                · have HLN := Lib.hid hl.2
                  have HK0 := Lib.hid (show Kidding lo Y p (.slice (some ⟨q, 0, none⟩) G.length c1) (.slice (some ⟨q2, 0, none⟩) G.length c2) G (cls.map (remap x y)) op E w m' n' P Q 0 wc from
                    ⟨_, HT.out, by rw [List.drop_zero, HRT.out]; exact merge_fun HM.out HOK.out HX.out.1 HX.out.2 HNE.out HS.out.1 HS.out.2 hl, HRL2.out, Nat.le_refl _⟩)
                  have k0' : ((nd G m').tm.kind != (nd G n').tm.kind) = false := by simp [hl.1.1]
                  have k1' : ((nd G m').tm.num != (nd G n').tm.num) = false := by simp [hl.1.2.1]
                  have k2' : (nd G m').tm.name.toList = (nd G n').tm.name.toList := by rw [hl.1.2.2]
                  have k3' : (((nd G m').kids.length : Int) != ((nd G n').kids.length : Int)) = false := by simp [hl.2]
                  have hfk : (nd G m').kids.length ≤ 1000000 := (HT.out.1.fine m' m1).kids
                  clear hl
                  go_wp2_with fail
                  clear k0' k1' k2' k3' t0 t1 t2 t3 u0' u1' u2' u3'
                  go_loopw [14] (fun s14 wr => ∃ i : Nat, i ≤ (nd G m').kids.length ∧ s14 = .int .i64 (i : Nat) ∧ Hid (Kidding lo Y p (.slice (some ⟨q, 0, none⟩) G.length c1) (.slice (some ⟨q2, 0, none⟩) G.length c2) G (cls.map (remap x y)) op E w m' n' P Q i wr)) (fun s14 _ => (nd G m').kids.length - (intOf s14).toNat)
                  case atStart => exact ⟨0, Nat.zero_le _, rfl, HK0⟩
                  case round =>
                    clear HK0
                    obtain ⟨i, hi, rfl, HK⟩ := hrel
                    obtain ⟨cls', T, M, R, L⟩ := HK.out
                    have t3 := T.2.2.2.2.1.c3
                    have u3' := T.2.2.2.2.2.c3
                    by_cases hlt : i < (nd G m').kids.length
                    · obtain ⟨bm, em, a1, a2, a3, a4⟩ := (T.1.kids m' m1).cells (by omega)
                      obtain ⟨bn, en, d1, d2, d3, d4⟩ := (T.1.kids n' m2).cells (by have := HLN.out; omega)
                      rw [em] at t3
                      rw [en] at u3'
                      have r1 := a4 i hlt
                      have r2 := d4 i (by have := HLN.out; omega)
                      rw [zip_drop hlt (by have := HLN.out; omega)] at M
                      have hl2 : (nd G m').kids.length = (nd G n').kids.length := HLN.out
                      have HQ := Lib.hid (HIH.out _ E _ _ cls' _ T.1.drew M R (by have h1 := HWT.out; have h2 := HN.out; omega))
                      have HKK := Lib.hid (show ∀ W, FrX (fun b => b = q2) wr W → W.cell? ⟨P, 3, none⟩ = some (.slice (some ⟨bm, 0, none⟩) (nd G m').kids.length (nd G m').cap) ∧ W.cell? ⟨Q, 3, none⟩ = some (.slice (some ⟨bn, 0, none⟩) (nd G n').kids.length (nd G n').cap) ∧ W.cell? ⟨bm, i, none⟩ = some (.int .i64 ((nd G m').kids.getD i 0 : Nat)) ∧ W.cell? ⟨bn, i, none⟩ = some (.int .i64 ((nd G n').kids.getD i 0 : Nat)) from fun W k => by
                        have hP : P ≠ q2 := by have := T.2.2.1; omega
                        have hQ : Q ≠ q2 := by have := T.2.2.2.1; omega
                        exact ⟨k.cellv hP t3, k.cellv hQ u3', k.cellv (fun e => a3 (.inl (.inr (.inr (by have e' : bm = q2 := e; rw [e']; rfl))))) r1, k.cellv (fun e => d3 (.inl (.inr (.inr (by have e' : bn = q2 := e; rw [e']; rfl))))) r2⟩)
                      have HTT := Lib.hid T
                      have HLL := Lib.hid L
                      have bl : (0 : Int) ≤ (i : Int) := by omega
                      have bl1 : (i : Int) < ((nd G m').kids.length : Int) := by omega
                      have bl2 : (i : Int) < ((nd G n').kids.length : Int) := by omega
                      clear T M R L HK em en a1 a2 a3 a4 d1 d2 d3 d4 hl2
                      generalize (nd G m').kids.getD i 0 = km at *
                      generalize (nd G n').kids.getD i 0 = kn at *
                      go_wp2_with fail
                      (go_region_held3 (fun W => W.cell? ⟨P, 3, none⟩ = some (.slice (some ⟨bm, 0, none⟩) (nd G m').kids.length (nd G m').cap) ∧ W.cell? ⟨Q, 3, none⟩ = some (.slice (some ⟨bn, 0, none⟩) (nd G n').kids.length (nd G n').cap) ∧ W.cell? ⟨bm, i, none⟩ = some (.int .i64 (km : Nat)) ∧ W.cell? ⟨bn, i, none⟩ = some (.int .i64 (kn : Nat))) (first | exact ⟨t3, u3', r1, r2⟩ | exact K2 | fail) (first
                        | (go_at_call 53; refine (HQ.out).mono ?_; rintro e w4 ⟨ok, cls2, rfl, j1, j2, j3, j4⟩; have F4 := Lib.hid (FrX.undrew j2); have K2 := HKK.out _ (F4.out.mono (fun b _ e => by simpa [Value.ownBlock] using e.symm)); have J1 := Lib.hid j1; have J3 := Lib.hid j3; have J4 := Lib.hid j4; clear j1 j2 j3 j4)))
                      have HT4 := Lib.hid (show TwoN lo Y p (.slice (some ⟨q, 0, none⟩) G.length c1) (.slice (some ⟨q2, 0, none⟩) G.length c2) G cls2 w m' n' P Q w4 from by
                        have hP : P ≠ q2 := by have := HTT.out.2.2.1; omega
                        have hQ : Q ≠ q2 := by have := HTT.out.2.2.2.1; omega
                        exact ⟨J1.out, HTT.out.2.1.trans F4.out (fun _ _ h => h), HTT.out.2.2.1, HTT.out.2.2.2.1, held_fx HTT.out.2.2.2.2.1 F4.out (fun e => hP (by simpa [Value.ownBlock] using e.symm)), held_fx HTT.out.2.2.2.2.2 F4.out (fun e => hQ (by simpa [Value.ownBlock] using e.symm))⟩)
                      cases ok with
                      | true =>
                        have HE := Lib.hid (show Kidding lo Y p (.slice (some ⟨q, 0, none⟩) G.length c1) (.slice (some ⟨q2, 0, none⟩) G.length c2) G (cls.map (remap x y)) op E w m' n' P Q (i + 1) w4 from by
                          obtain ⟨g1, g2, g3⟩ := J3.out rfl
                          exact ⟨cls2, HT4.out, g1, g2, Nat.le_trans g3 HLL.out⟩)
                        clear J1 J3 J4 HQ HKK HTT HT4 F4 K2
                        go_wp2_with fail
                        go_roundw
                        case rel => exact ⟨i + 1, by omega, by go_num, HE⟩
                        case measure => simp [intOf]; omega
                      | false =>
                        have HE := Lib.hid (JoinO.no (w := w) (op := op) (cls := cls) HT4.out.1 HT4.out.2.1 (J4.out rfl))
                        clear J1 J3 J4 HQ HKK HTT HT4 F4 K2
                        go_wp2_with fail
                        go_ret
                        exact HE.out
                    · obtain rfl : i = (nd G m').kids.length := by omega
                      have hz : ((nd G m').kids.zip (nd G n').kids).drop (nd G m').kids.length = [] := List.drop_eq_nil_of_le (by rw [List.length_zip]; omega)
                      rw [hz, List.nil_append] at M
                      have HE := Lib.hid (JoinO.yes (w := w) (cls := cls) T.1 T.2.1 M R (by have := HWT.out; omega))
                      clear T M R L HK
                      go_wp2_with fail
                      go_ret
                      exact HE.out
                · have HE := Lib.hid (JoinO.no (w := w) (op := op) (cls := cls) HT.out.1 HT.out.2.1 (merge_apart HM.out HOK.out (by rw [← HX.out.1]; exact HS.out.1) (by rw [← HX.out.2]; exact HS.out.2) hl))
                  unfold SameLab at hl
                  generalize (nd G m').tm.kind = km at *
                  generalize (nd G m').tm.num = nm at *
                  generalize (nd G m').tm.name = sm at *
                  generalize (nd G m').kids.length = lm at *
                  generalize (nd G n').tm.kind = kn at *
                  generalize (nd G n').tm.num = nn at *
                  generalize (nd G n').tm.name = sn at *
                  generalize (nd G n').kids.length = ln at *
                  by_cases k0 : km = kn
                  · have k0' : (km != kn) = false := by simp [k0]
                    by_cases k1 : nm = nn
                    · have k1' : (nm != nn) = false := by simp [k1]
                      by_cases k2 : sm = sn
                      · have k2' : sm.toList = sn.toList := by rw [k2]
                        have k3' : ((lm : Int) != (ln : Int)) = true := by
                          have : lm ≠ ln := fun e => hl ⟨⟨k0, k1, k2⟩, e⟩
                          simp; omega
                        clear hl k0 k1 k2
                        go_wp2_with fail
                        go_ret
                        exact HE.out
                      · have k2' : ¬ sm.toList = sn.toList := fun e => k2 (by rw [ByteArray.toList_eq, ByteArray.toList_eq] at e; cases sm; cases sn; simpa using e)
                        clear hl k0 k1 k2
                        go_wp2_with fail
                        go_ret
                        exact HE.out
                    · have k1' : (nm != nn) = true := by simpa using k1
                      clear hl k0 k1
                      go_wp2_with fail
                      go_ret
                      exact HE.out
                  · have k0' : (km != kn) = true := by simpa using k0
                    clear hl k0
                    go_wp2_with fail
                    go_ret
                    exact HE.out
end Go.Proofs.Ytdjbigfobodecaa
namespace Go.Proofs.Ytdjbigfobodecaa
open Go.RowKit

def mget (M : List (Nat × Nat)) (c : Nat) : Nat × Nat := M.getD c (0, 0)
theorem mget_set {M : List (Nat × Nat)} {c v : Nat} {x : Nat × Nat} (h : c < M.length) : mget (M.set c x) v = if v = c then x else mget M v := by
  unfold mget
  by_cases e : v = c
  · subst e; simp [List.getD, h]
  · simp [List.getD, e, Ne.symm e]
def calcStep (root : Nat → Nat) (M : List (Nat × Nat)) (a : Nat × Nat) (k : Nat) : Nat × Nat := (min (a.1 + (mget M (root k)).1) 201, min (max a.2 ((mget M (root k)).2 + 1)) 21)
def calcS (root : Nat → Nat) (M : List (Nat × Nat)) (ks : List Nat) : Nat × Nat := ks.foldl (calcStep root M) (1, 1)
/-- The arguments of a class. -/
def kd (G : List Nd) (root : Nat → Nat) (c : Nat) : List Nat := (nd G (topC G root c)).kids
def rootsL (G : List Nd) (root : Nat → Nat) : List Nat := (List.range G.length).filter fun i => decide (root i = i)
structure MInv (G : List Nd) (root : Nat → Nat) (M : List (Nat × Nat)) (done : List Nat) (left : Nat) : Prop where
  len : M.length = G.length
  nod : done.Nodup
  rt : ∀ c ∈ done, c < G.length ∧ root c = c
  zero : ∀ c, c ∉ done → mget M c = (0, 0)
  ok : ∀ c ∈ done, mget M c = calcS root M (kd G root c) ∧ ∀ k ∈ kd G root c, root k ∈ done ∧ done.idxOf (root k) < done.idxOf c
  left : left + done.length = (rootsL G root).length
theorem calc_bounds (root : Nat → Nat) (M : List (Nat × Nat)) : ∀ (ks : List Nat) (a : Nat × Nat), 1 ≤ a.1 → a.1 ≤ 201 → a.2 ≤ 21 → 1 ≤ (ks.foldl (calcStep root M) a).1 ∧ (ks.foldl (calcStep root M) a).1 ≤ 201 ∧ (ks.foldl (calcStep root M) a).2 ≤ 21 := by
  intro ks
  induction ks with
  | nil => intro a h1 h2 h3; exact ⟨h1, h2, h3⟩
  | cons k r ih => intro a h1 h2 h3; exact ih _ (by simp only [calcStep]; omega) (by simp only [calcStep]; omega) (by simp only [calcStep]; omega)
theorem calcS_bounds (root : Nat → Nat) (M : List (Nat × Nat)) (ks : List Nat) : 1 ≤ (calcS root M ks).1 ∧ (calcS root M ks).1 ≤ 201 ∧ (calcS root M ks).2 ≤ 21 := calc_bounds root M ks (1, 1) (by decide) (by decide) (by decide)
theorem calc_same {root : Nat → Nat} {M M' : List (Nat × Nat)} : ∀ (ks : List Nat) (a : Nat × Nat), (∀ k ∈ ks, mget M' (root k) = mget M (root k)) → ks.foldl (calcStep root M') a = ks.foldl (calcStep root M) a := by
  intro ks
  induction ks with
  | nil => intro a _; rfl
  | cons k r ih =>
    intro a h
    have e : calcStep root M' a k = calcStep root M a k := by unfold calcStep; rw [h k (by simp)]
    simp only [List.foldl_cons, e]
    exact ih _ fun x hx => h x (by simp [hx])
section
variable {G : List Nd} {root : Nat → Nat} {M : List (Nat × Nat)} {done : List Nat} {left : Nat}
theorem MInv.pos (h : MInv G root M done left) {c : Nat} : 0 < (mget M c).1 ↔ c ∈ done := by
  constructor
  · intro hp
    apply Classical.byContradiction
    intro hc
    rw [h.zero c hc] at hp
    exact absurd hp (by decide)
  · intro hc
    have := (calcS_bounds root M (kd G root c)).1
    rw [← (h.ok c hc).1] at this
    omega
theorem MInv.small (h : MInv G root M done left) (c : Nat) : (mget M c).1 ≤ 201 ∧ (mget M c).2 ≤ 21 := by
  by_cases hc : c ∈ done
  · rw [(h.ok c hc).1]
    exact (calcS_bounds root M _).2
  · rw [h.zero c hc]
    decide
theorem MInv.start (G : List Nd) (root : Nat → Nat) : MInv G root (List.replicate G.length (0, 0)) [] (rootsL G root).length := by
  refine ⟨by simp, List.nodup_nil, fun c h => (by cases h), fun c _ => ?_, fun c h => (by cases h), by simp⟩
  unfold mget
  simp only [List.getD, List.getElem?_replicate]
  split <;> rfl
theorem idx_app {l : List Nat} {x c : Nat} (h : x ∈ l) : (l ++ [c]).idxOf x = l.idxOf x := by rw [List.idxOf_append, if_pos h]
/-- A class more. -/
theorem MInv.next (h : MInv G root M done left) {c : Nat} (hc : c < G.length) (rc : root c = c) (hn : c ∉ done) (hk : ∀ k ∈ kd G root c, root k ∈ done) : MInv G root (M.set c (calcS root M (kd G root c))) (done ++ [c]) (left - 1) ∧ 0 < left := by
  have hlt : done.length < (rootsL G root).length := by
    have h1 : (done ++ [c]).Nodup := by
      rw [List.nodup_append]
      refine ⟨h.nod, by simp, fun a ha b hb => ?_⟩
      rw [List.mem_singleton.1 hb]
      exact fun e => hn (e ▸ ha)
    have h2 := nodup_sub (done ++ [c]) (rootsL G root) h1 (fun x hx => by
      unfold rootsL
      rw [List.mem_filter]
      rcases List.mem_append.1 hx with hx | hx
      · exact ⟨by simpa using (h.rt x hx).1, by simpa using (h.rt x hx).2⟩
      · rw [List.mem_singleton.1 hx]
        exact ⟨by simpa using hc, by simpa using rc⟩)
    rw [List.length_append] at h2
    exact h2
  have hcM : c < M.length := by rw [h.len]; exact hc
  have hsame : ∀ ks : List Nat, (∀ k ∈ ks, root k ∈ done) → calcS root (M.set c (calcS root M (kd G root c))) ks = calcS root M ks := fun ks hks => calc_same ks _ fun k hk' => by
    rw [mget_set hcM, if_neg (show ¬ root k = c from fun e => hn (e ▸ hks k hk'))]
  refine ⟨⟨by rw [List.length_set]; exact h.len, ?_, fun x hx => ?_, fun x hx => ?_, fun x hx => ?_, ?_⟩, by have := h.left; omega⟩
  · rw [List.nodup_append]
    refine ⟨h.nod, by simp, fun a ha b hb => ?_⟩
    rw [List.mem_singleton.1 hb]
    exact fun e => hn (e ▸ ha)
  · rcases List.mem_append.1 hx with hx | hx
    · exact h.rt x hx
    · rw [List.mem_singleton.1 hx]; exact ⟨hc, rc⟩
  · rw [mget_set hcM, if_neg (show ¬ x = c from fun e => hx (by simp [e]))]
    exact h.zero x fun hd => hx (List.mem_append.2 (.inl hd))
  · rcases List.mem_append.1 hx with hx | hx
    · have h1 := h.ok x hx
      rw [mget_set hcM, if_neg (show ¬ x = c from fun e => hn (e ▸ hx)), hsame _ fun k hk' => (h1.2 k hk').1]
      refine ⟨h1.1, fun k hk' => ⟨List.mem_append.2 (.inl (h1.2 k hk').1), ?_⟩⟩
      rw [idx_app (h1.2 k hk').1, idx_app hx]
      exact (h1.2 k hk').2
    · have e := List.mem_singleton.1 hx
      subst e
      rw [mget_set hcM, if_pos rfl, hsame _ hk]
      refine ⟨rfl, fun k hk' => ⟨List.mem_append.2 (.inl (hk k hk')), ?_⟩⟩
      rw [idx_app (hk k hk'), List.idxOf_append, if_neg hn]
      have := List.idxOf_lt_length_of_mem (hk k hk')
      omega
  · have := h.left
    rw [List.length_append]
    simp only [List.length_cons, List.length_nil]
    omega
theorem MInv.all (h : MInv G root M done 0) (rl : Roots G root) : ∀ i, i < G.length → root i ∈ done := fun i hi => by
  apply Classical.byContradiction
  intro hn
  have h1 : (root i :: done).Nodup := List.nodup_cons.2 ⟨hn, h.nod⟩
  have h2 := nodup_sub (root i :: done) (rootsL G root) h1 (fun x hx => by
    unfold rootsL
    rw [List.mem_filter]
    rcases List.mem_cons.1 hx with rfl | hx
    · exact ⟨by simpa using (rl i hi).1, by simpa using (rl i hi).2⟩
    · exact ⟨by simpa using (h.rt x hx).1, by simpa using (h.rt x hx).2⟩)
  have := h.left
  simp only [List.length_cons] at h2
  omega
theorem MInv.ranked (h : MInv G root M done 0) (rl : Roots G root) (hok : Ok G) : Ranked G (topF G root) (fun x => done.idxOf (root x)) (G.length + 1) := fun i hi => by
  have ht := topC_spec (G := G) (root := root) hi rfl
  have hd := h.all rl i hi
  have hdl : done.length ≤ G.length := (pigeon G.length done h.nod fun x hx => (h.rt x hx).1).1
  refine ⟨?_, fun c hc => ?_⟩
  · show done.idxOf (root (topC G root (root i))) < _
    rw [ht.2.1]
    have := List.idxOf_lt_length_of_mem hd
    omega
  · have hcl := (hok _ ht.1).mem hc
    have ht2 := topC_spec (G := G) (root := root) hcl rfl
    show done.idxOf (root (topC G root (root c))) < done.idxOf (root (topC G root (root i)))
    rw [ht.2.1, ht2.2.1]
    exact ((h.ok _ hd).2 c hc).2
theorem calc_sizes {sz : Nat → Tm} : ∀ (ks : List Nat) (a b : Nat), (∀ k ∈ ks, mget M (root k) = (min (sz k).size 201, min (sz k).depth 21)) → ks.foldl (calcStep root M) (min a 201, min b 21) = (min (a + sizeL (ks.map sz)) 201, min (if ks = [] then b else max b (depthL (ks.map sz) + 1)) 21) := by
  intro ks
  induction ks with
  | nil => intro a b _; simp [sizeL]
  | cons k r ih =>
    intro a b h
    have hk := h k (by simp)
    have e : calcStep root M (min a 201, min b 21) k = (min (a + (sz k).size) 201, min (max b ((sz k).depth + 1)) 21) := by
      unfold calcStep
      rw [hk]
      simp only [Prod.mk.injEq]
      omega
    rw [List.foldl_cons, e, ih _ _ fun x hx => h x (by simp [hx])]
    simp only [List.map_cons, sizeL, depthL, Prod.mk.injEq, List.cons_ne_nil, if_false]
    refine ⟨by omega, ?_⟩
    split
    · rename_i e2; subst e2; simp [depthL]
    · omega
theorem MInv.sizes {E : List (Nat × Nat)} (h : MInv G root M done 0) (rl : Roots G root) (hc : Closed G E (topF G root)) : ∀ i, i < G.length → mget M (root i) = (min (sol G (topF G root) (G.length + 1) i).size 201, min (sol G (topF G root) (G.length + 1) i).depth 21) := by
  have hr := h.ranked rl hc.ok
  refine sol_induct hc hr fun i hi ih => ?_
  have hs := sol_size hc hr i hi
  rw [(h.ok _ (h.all rl i hi)).1, hs.1, hs.2]
  have := calc_sizes (root := root) (M := M) (sz := sol G (topF G root) (G.length + 1)) (kd G root (root i)) 1 1 ih
  unfold calcS
  rw [show ((1, 1) : Nat × Nat) = (min 1 201, min 1 21) by decide, this]
  show _ = (min (1 + sizeL ((kd G root (root i)).map (sol G (topF G root) (G.length + 1)))) 201, min (depthL ((kd G root (root i)).map (sol G (topF G root) (G.length + 1))) + 1) 21)
  by_cases e : kd G root (root i) = []
  · rw [e]; rfl
  · rw [if_neg e]
    simp only [Prod.mk.injEq, true_and]
    omega
/-- No class can be measured: there is a circle. -/
theorem MInv.circle {E : List (Nat × Nat)} (h : MInv G root M done left) (hp : 0 < left) (hm : Mid G root [] E) (rl : Roots G root) (hok : Ok G) (hs : ∀ i, i < G.length → root i ∈ done ∨ ∃ k ∈ kd G root (root i), root k ∉ done) : ∀ f, ¬ ∀ p ∈ E, ndv f G p.1 = ndv f G p.2 := by
  intro f hf
  have hsd := (hm.sound f hf).1
  have hne : (rootsL G root).filter (fun u => decide (u ∉ done)) ≠ [] := by
    intro e
    have h1 : ∀ x ∈ rootsL G root, x ∈ done := fun x hx => by
      apply Classical.byContradiction
      intro hn
      have : x ∈ (rootsL G root).filter (fun u => decide (u ∉ done)) := List.mem_filter.2 ⟨hx, by simpa using hn⟩
      rw [e] at this
      cases this
    have h2 := nodup_sub (rootsL G root) done (List.Pairwise.filter _ List.nodup_range) h1
    have := h.left
    omega
  refine no_infinite (fun u => (ndv f G u).nodes) hne fun u hu => ?_
  obtain ⟨hu1, hu2⟩ := List.mem_filter.1 hu
  unfold rootsL at hu1
  obtain ⟨hu3, hu4⟩ := List.mem_filter.1 hu1
  simp only [List.mem_range, decide_eq_true_eq] at hu2 hu3 hu4
  rcases hs u hu3 with h1 | ⟨k, hk, hkn⟩
  · rw [hu4] at h1; exact absurd h1 hu2
  · rw [hu4] at hk
    have ht := topC_spec (G := G) (root := root) hu3 hu4
    have hkl := (hok _ ht.1).mem hk
    have hkk : (nd G (topC G root u)).tm.kind ≠ 1 := fun e => by
      unfold kd at hk
      rw [(hok _ ht.1).var e] at hk
      cases hk
    refine ⟨root k, List.mem_filter.2 ⟨List.mem_filter.2 ⟨by simpa using (rl k hkl).1, by simpa using (rl k hkl).2⟩, by simpa using hkn⟩, ?_⟩
    show (ndv f G (root k)).nodes < (ndv f G u).nodes
    rw [hsd (root k) k (rl k hkl).1 hkl (rl k hkl).2, hsd u (topC G root u) hu3 ht.1 (hu4.trans ht.2.1.symm)]
    exact ndv_lt (hok _ ht.1) hkk hk
end
end Go.Proofs.Ytdjbigfobodecaa
