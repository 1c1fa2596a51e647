/-
  The walk of SubstApplies.
-/
import Derived.Test.YtgialbcohkpogaaGreatSuLv
import Derived.Test.YtgialbcohkpogaaGreatSuNodes
import Derived.Test.YtgialbcohkpogaaGreatSuOpen
import Derived.Test.YtgialbcohkpogaaGreatSuGreat
import Derived.Test.YtgialbcohkpogaaGreatSuAtomR
import Derived.Test.YtgialbcohkpogaaGreatTmOne
import Derived.Test.YtgialbcohkpogaaGreatTmGreat1
import Derived.Test.YtgialbcohkpogaaGreatTmVarAll
import Derived.Test.YtgialbcohkpogaaGreatSuLookup
import Derived.Deep.RegionHeld3
namespace Go.Proofs.YtgialbcohkpogaaGreat.substApplies
open Go.ChangeShapes Go.WideShapes Go.ChangeAt Go.RowKit Go.Sort
set_option linter.unusedVariables false

/-- The boxes of the term and the goal. -/
structure Boxes (a1 : Tm) (a2 : Gl) (w W : World) : Prop where
  below : Below w.heap.size w W
  tm : HeldL w.heap.size W [.int .i64 a1.kind, .int .i64 a1.num, .string a1.name, .slice a1.at_ a1.args.length a1.cap]
  gl : HeldL (w.heap.size + 1) W [.int .i64 a2.op, .string a2.name, .slice a2.at_ a2.args.length a2.cap]
theorem Boxes.keep {a1 : Tm} {a2 : Gl} {w W W' : World} (h : Boxes a1 a2 w W) (hb : Below W.heap.size W W') : Boxes a1 a2 w W' := ⟨h.below.trans (hb.mono h.below.size), h.tm.below hb, h.gl.below hb⟩
theorem own_len {w : World} {base : Nat} {v : Value} {l : List Int} (h : OwnI w base v l) : l.length ≤ 9223372036854775807 := by
  rcases h.2 with ⟨_, h1⟩ | ⟨g, cap, cur, _, _, _, hle, hcap, _⟩
  · omega
  · unfold maxLen at hcap; omega

theorem same_am {a b : Am} (h : a.name = b.name) (hl : stripL a.args = stripL b.args) : (cmpA a b == 0) = true := by
  have h1 : a.args.length = b.args.length := by rw [← stripL_len a.args, hl, stripL_len]
  have h2 : cmpL a.args b.args = 0 := by rw [← cmp_strip.2, hl, cmp_self.2]
  unfold cmpA
  rw [h, h1, h2, texts_self, ints_self]
  rfl
theorem same_gl {a b : Gl} (ho : a.op = b.op) (h : a.name = b.name) (hl : stripL a.args = stripL b.args) : sameG a b = true := by
  have h2 : cmpL a.args b.args = 0 := by rw [← cmp_strip.2, hl, cmp_self.2]
  unfold sameG
  rw [h2]
  simp [ho, h]

set_option maxHeartbeats 16000000 in
set_option maxRecDepth 100000 in
theorem walk (A0 : Option Addr) (a0 : List Bd) (c0 : Nat) (a1 : Tm) (a2 : Gl) (w : World) (w0 : BLst w A0 a0 c0) (w1 : a1.At w) (w2 : a2.At w) :
    Calls Tryz.prog 4 #[.slice A0 a0.length c0, a1.val, a2.val] w fun e w' => e = .returned (.bool true) ∧ Below w.heap.size w w' := by
  obtain ⟨g0, hg0⟩ : ∃ g, greatB a0 300 = g := ⟨_, rfl⟩
  obtain ⟨g1, hg1⟩ : ∃ g, decide (weigh [a1] 300 64 < 0) = g := ⟨_, rfl⟩
  obtain ⟨g2, hg2⟩ : ∃ g, decide (weighN a2.name a2.args 300 < 0) = g := ⟨_, rfl⟩
  have G0 := Lib.hid (fun (W : World) (h : Below w.heap.size w W) => great_s_at a0 A0 c0 300 W (w0.below h) (by omega) (by omega) hg0)
  have G1 := Lib.hid (fun (W : World) (b : Nat) (hb : b = W.heap.size) (h : Below w.heap.size w W) => great_single a1 300 W b hb (w1.below h) (by omega) (by omega) hg1)
  have G2 := Lib.hid (fun (W : World) (b : Nat) (hb : b = W.heap.size) (h : Below w.heap.size w W) => great_goals_one a2 W b hb (w2.below h) hg2)
  have W0 := Lib.hid w0
  have W1 := Lib.hid w1
  have W2 := Lib.hid w2
  have HG0 := Lib.hid hg0
  have HG1 := Lib.hid hg1
  have HG2 := Lib.hid hg2
  have hbx : Boxes a1 a2 w ((w.alloc (.cells #[.int .i64 a1.kind, .int .i64 a1.num, .string a1.name, .slice a1.at_ a1.args.length a1.cap] 29)).alloc (.cells #[.int .i64 a2.op, .string a2.name, .slice a2.at_ a2.args.length a2.cap] 31)) := by
    have h1 := heldL_new w [.int .i64 a1.kind, .int .i64 a1.num, .string a1.name, .slice a1.at_ a1.args.length a1.cap] 29
    have h2 := heldL_new (w.alloc (.cells #[.int .i64 a1.kind, .int .i64 a1.num, .string a1.name, .slice a1.at_ a1.args.length a1.cap] 29)) [.int .i64 a2.op, .string a2.name, .slice a2.at_ a2.args.length a2.cap] 31
    rw [World.size_alloc] at h2
    exact ⟨below2 _ _ _, h1.below (below1 _ _), h2⟩
  have HBX := Lib.hid hbx
  clear w0 w1 w2 hg0 hg1 hg2 hbx
  go_enter Tryz.func4, Tryz.ntmps4
  go_wp2_with fail
  refine (G0.out _ (below2 _ _ _)).mono ?_
  rintro e w4 ⟨rfl, hb4⟩
  have H4 := Lib.hid (HBX.out.keep hb4)
  clear hb4 HBX G0
  cases g0 with
  | true =>
    go_wp2_with fail
    go_ret
    exact ⟨rfl, H4.out.below⟩
  | false =>
    have hN0 := great_nodes HG0.out
    have L0 := len_nodes_b hN0
    have M0 := Lib.hid (fun x (hx : x ∈ a0) => show x.tm.nodes ≤ 1000000 by have := nodes_mem_b hN0 x hx; omega)
    clear hN0 HG0
    have d0 := H4.out.tm.cell 0 _ rfl
    have d1 := H4.out.tm.cell 1 _ rfl
    have d2 := H4.out.tm.cell 2 _ rfl
    have d3 := H4.out.tm.cell 3 _ rfl
    go_wp2_with fail
    refine (G1.out _ _ rfl H4.out.below).mono ?_
    rintro e w6 ⟨rfl, hb6⟩
    have H6 := Lib.hid (H4.out.keep hb6)
    clear hb6 H4 d0 d1 d2 d3 G1
    cases g1 with
    | true =>
      go_wp2_with fail
      go_ret
      exact ⟨rfl, H6.out.below⟩
    | false =>
      have hN1 := not_great HG1.out
      have HN1 := Lib.hid (show a1.nodes ≤ 300 by simp only [nodesL] at hN1; omega)
      clear hN1 HG1
      have d0 := H6.out.gl.cell 0 _ rfl
      have d1 := H6.out.gl.cell 1 _ rfl
      have d2 := H6.out.gl.cell 2 _ rfl
      go_wp2_with fail
      refine (G2.out _ _ rfl H6.out.below).mono ?_
      rintro e w7 ⟨rfl, nd, rfl⟩
      have H7 := Lib.hid (H6.out.keep (below_drewN (below1 w6 (.cells #[.int .i64 a2.op, .string a2.name, .slice a2.at_ a2.args.length a2.cap] 31)) nd))
      generalize ((w6.alloc (.cells #[.int .i64 a2.op, .string a2.name, .slice a2.at_ a2.args.length a2.cap] 31)).drewN nd) = w7 at *
      clear H6 d0 d1 d2 G2
      cases g2 with
      | true =>
        go_wp2_with fail
        go_ret
        exact ⟨rfl, H7.out.below⟩
      | false =>
        have HN2 := Lib.hid (show (nodesL a2.args : Int) ≤ 300 from weighN_bound HG2.out)
        clear HG2
        have QV := Lib.hid (show Calls Tryz.prog 12 #[.agg #[.int .i64 a1.kind, .int .i64 a1.num, .string a1.name, .slice a1.at_ a1.args.length a1.cap]] w7 (Grows w7 (addAll [] a1.occ)) from ref_vars_at a1 w7 (W1.out.below H7.out.below) (by have := HN1.out; have := (size_nodes.1 a1).1; omega))
        have d0 := H7.out.tm.cell 0 _ rfl
        have d1 := H7.out.tm.cell 1 _ rfl
        have d2 := H7.out.tm.cell 2 _ rfl
        have d3 := H7.out.tm.cell 3 _ rfl
        generalize addAll [] a1.occ = vs at *
        go_wp2_with fail
        refine (QV.out).mono ?_
        rintro e w8 ⟨z, rfl, hown, hb8⟩
        have H8 := Lib.hid (H7.out.keep hb8)
        have hvl := own_len hown
        obtain ⟨VA, vc, rfl, hvi, -⟩ := hown.form
        have HV := Lib.hid (fun W (h : Below w8.heap.size w8 W) => show Ints W VA vs from fun hp => by
          obtain ⟨b, o, e, hc⟩ := hvi hp
          exact ⟨b, o, e, fun i hi => keepv h (hc i hi)⟩)
        clear hb8 H7 d0 d1 d2 d3 QV hown hvi
        go_wp2_with fail
        go_loopw [8] (fun i wr => ∃ j : Nat, j ≤ vs.length ∧ i = .int .i64 j ∧ Hid (Below w8.heap.size w8 wr)) (fun i _ => vs.length - (intOf i).toNat)
        case atStart => exact ⟨0, Nat.zero_le _, rfl, Lib.hid (Below.refl _ _)⟩
        case round =>
          obtain ⟨j, hj, rfl, HB⟩ := hrel
          by_cases hlt : j < vs.length
          · obtain ⟨b0, o, rfl, hc0⟩ := (HV.out _ HB.out).get hlt
            generalize vs.getD j 0 = v at *
            have BW := Lib.hid (fun (W : World) (h : Below wr.heap.size wr W) => show Below w.heap.size w W from (H8.out.keep (HB.out.trans (h.mono HB.out.size))).below)
            have QL := Lib.hid (lookup_at a0 A0 c0 v wr (W0.out.below (BW.out _ (Below.refl _ _))) M0.out)
            have QR := Lib.hid (fun (W : World) (h : Below wr.heap.size wr W) => ref_lookup_at a0 A0 c0 v W (W0.out.below (BW.out W h)))
            have HAT := Lib.hid (fun (W : World) (h : Below wr.heap.size wr W) => show (optT (look a0 v)).At W from by
              cases hk : look a0 v with
              | none => exact (lie_zero (lo := 0) (X := No) (w := W)).at trivial
              | some t => exact (W0.out.below (BW.out W h)).look hk)
            obtain ⟨is, his⟩ : ∃ is, (look a0 v).isSome = is := ⟨_, rfl⟩
            unfold LookR at QL
            rw [his] at QL
            simp only [his] at QR
            clear his
            generalize optT (look a0 v) = y at *
            have hc0' := fun (W : World) (h : Below wr.heap.size wr W) => keepv h hc0
            have HC0 := Lib.hid hc0'
            clear hc0'
            go_wp2_with fail
            refine (QL.out).mono ?_
            rintro e w9 ⟨x, rfl, hx, hlie, hb9⟩
            have hxat := Lib.hid (fun (W : World) (h : Below w9.heap.size w9 W) => (hlie.at trivial).below h)
            have HX := Lib.hid hx
            have B9 := Lib.hid (hb9.trans ((below1 w9 (.cells #[.int .i64 x.kind, .int .i64 x.num, .string x.name, .slice x.at_ x.args.length x.cap] 29)).mono hb9.size))
            have hc1 := HC0.out _ B9.out
            clear hx hlie hb9 QL hc0
            have QS := Lib.hid (fun (W : World) (h : Below w9.heap.size w9 W) (h2 : Below wr.heap.size wr W) => show Calls Tryz.prog 15 #[x.val, y.val] W fun e w' => e = .returned (.bool true) ∧ Below W.heap.size W w' from ref_same_at x y W (hxat.out W h) (HAT.out W h2) (same_strip HX.out))
            clear HX hxat
            obtain ⟨xk, xn, xs, xA, xc, xa⟩ := x
            obtain ⟨yk, yn, ys, yA, yc, ya⟩ := y
            replace QS := Lib.hid (fun (W : World) (h : Below w9.heap.size w9 W) (h2 : Below wr.heap.size wr W) => show Calls Tryz.prog 15 #[.agg #[.int .i64 xk, .int .i64 xn, .string xs, .slice xA xa.length xc], .agg #[.int .i64 yk, .int .i64 yn, .string ys, .slice yA ya.length yc]] W fun e w' => e = .returned (.bool true) ∧ Below W.heap.size W w' from QS.out W h h2)
            replace QR := Lib.hid (fun (W : World) (h : Below wr.heap.size wr W) => show Calls Tryz.prog 14 #[.slice A0 a0.length c0, .int .i64 v] W fun e w' => e = .returned (.tuple #[.agg #[.int .i64 yk, .int .i64 yn, .string ys, .slice yA ya.length yc], .bool is]) ∧ Below W.heap.size W w' from QR.out W h)
            simp only [Tm.kind, Tm.num, Tm.name, Tm.at_, Tm.args, Tm.cap] at B9
            go_wp2_with fail
            refine (QR.out _ B9.out).mono ?_
            rintro e w10 ⟨rfl, hb10⟩
            obtain ⟨p0, p1, p2, p3, hb11⟩ := box4 hb10
            have r0 : ∀ o, (w10.alloc o).cell? ⟨w9.heap.size, 0, none⟩ = some (.int .i64 xk) := fun o => keepv (below1 _ _) p0
            have r1 : ∀ o, (w10.alloc o).cell? ⟨w9.heap.size, 1, none⟩ = some (.int .i64 xn) := fun o => keepv (below1 _ _) p1
            have r2 : ∀ o, (w10.alloc o).cell? ⟨w9.heap.size, 2, none⟩ = some (.string xs) := fun o => keepv (below1 _ _) p2
            have r3 : ∀ o, (w10.alloc o).cell? ⟨w9.heap.size, 3, none⟩ = some (.slice xA xa.length xc) := fun o => keepv (below1 _ _) p3
            have C9 := Lib.hid (show Below w9.heap.size w9 (w10.alloc (.cells #[.int .i64 yk, .int .i64 yn, .string ys, .slice yA ya.length yc] 29)) from hb11.trans ((below1 w10 _).mono hb11.size))
            have C10 := Lib.hid (show Below wr.heap.size wr (w10.alloc (.cells #[.int .i64 yk, .int .i64 yn, .string ys, .slice yA ya.length yc] 29)) from (B9.out.trans (hb10.mono B9.out.size)).trans ((below1 w10 _).mono (B9.out.trans (hb10.mono B9.out.size)).size))
            clear hb10 hb11 p0 p1 p2 p3 QR hc1 B9
            cases is with
            | true =>
              go_wp2_with fail
              refine (QS.out _ C9.out C10.out).mono ?_
              rintro e w11 ⟨rfl, hb12⟩
              have HE := Lib.hid (HB.out.trans ((C10.out.trans (hb12.mono C10.out.size)).mono HB.out.size))
              clear hb12 r0 r1 r2 r3 QS C9 C10
              go_wp2_with fail
              go_roundw
              case rel => exact ⟨j + 1, by omega, by go_num, HE⟩
              case measure => simp [intOf]; omega
            | false =>
              go_wp2_with fail
              refine (QS.out _ C9.out C10.out).mono ?_
              rintro e w11 ⟨rfl, hb12⟩
              have HE := Lib.hid (HB.out.trans ((C10.out.trans (hb12.mono C10.out.size)).mono HB.out.size))
              clear hb12 r0 r1 r2 r3 QS C9 C10
              go_wp2_with fail
              go_roundw
              case rel => exact ⟨j + 1, by omega, by go_num, HE⟩
              case measure => simp [intOf]; omega
          · obtain rfl : j = vs.length := by omega
            have H12 := Lib.hid (H8.out.keep HB.out)
            have d1 := H12.out.gl.cell 1 _ rfl
            have d2 := H12.out.gl.cell 2 _ rfl
            clear hlt H8 HB HV hvl hj
            go_upto_region 11 with (fail)
            go_cut [13] from 61 to 65 (fun z W => Hid (z = .pointer (some ⟨wr.heap.size, 0, none⟩) ∧ Below wr.heap.size wr W ∧ HeldL wr.heap.size W [.string a2.name, .slice a2.at_ a2.args.length a2.cap]))
            case first =>
              have HN := Lib.hid (show Below wr.heap.size wr (wr.alloc (.cells #[.string a2.name, .slice a2.at_ a2.args.length a2.cap] 41)) ∧ HeldL wr.heap.size (wr.alloc (.cells #[.string a2.name, .slice a2.at_ a2.args.length a2.cap] 41)) [.string a2.name, .slice a2.at_ a2.args.length a2.cap] from ⟨below1 _ _, heldL_new wr _ _⟩)
              go_wp2_with fail
              go_meet
              exact Lib.hid ⟨rfl, HN.out.1, HN.out.2⟩
            case rest =>
              obtain ⟨hz, hbc, hat⟩ := hcut.out
              subst hz
              have HBC := Lib.hid hbc
              have HAt := Lib.hid hat
              have H13 := Lib.hid (H12.out.keep hbc)
              clear hcut hbc hat H12 d1 d2
              have hr : Below wc.heap.size wc wc := Below.refl _ _
              have BB := Lib.hid (fun (W : World) (h : Below wc.heap.size wc W) => show Below w.heap.size w W from (H13.out.keep h).below)
              have LB := Lib.hid (W0.out.below H13.out.below)
              have LT := Lib.hid (W1.out.below H13.out.below)
              have LG := Lib.hid (W2.out.below H13.out.below)
              have QI := Lib.hid (fun (W : World) (h : Below wc.heap.size wc W) => in_order_any a0 A0 c0 W (LB.out.below h) (by omega) M0.out)
              have R1 := Lib.hid (fun (W : World) (h : Below wc.heap.size wc W) => show Calls Tryz.prog 16 #[.slice A0 a0.length c0, .agg #[.int .i64 a1.kind, .int .i64 a1.num, .string a1.name, .slice a1.at_ a1.args.length a1.cap]] W (Made (a1.app a0) W) from apply_at a0 A0 c0 a1 W (LT.out.below h) (by have := HN1.out; omega) (fun W' h' => QI.out W' (h.trans (h'.mono h.size))))
              have R2 := Lib.hid (fun (W : World) (h : Below wc.heap.size wc W) => show Calls Tryz.prog 17 #[.slice A0 a0.length c0, .agg #[.int .i64 a1.kind, .int .i64 a1.num, .string a1.name, .slice a1.at_ a1.args.length a1.cap]] W (RMade wc (a1.app a0) W) from ref_apply_at wc a0 A0 c0 LB.out a1 LT.out (by have := HN1.out; omega) W h)
              have R3 := Lib.hid (fun (W : World) (x y : Tm) (hx : x.strip = (a1.app a0).strip) (hy : y.strip = (a1.app a0).strip) (hxa : x.At W) (hya : y.At W) => show Calls Tryz.prog 15 #[x.val, y.val] W fun e w' => e = .returned (.bool true) ∧ Below W.heap.size W w' from ref_same_at x y W hxa hya (same_strip (hx.trans hy.symm)))
              have R4 := Lib.hid (fun (W : World) (h : Below wc.heap.size wc W) => show Calls Tryz.prog 19 #[.slice A0 a0.length c0, .agg #[.string a2.name, .slice a2.at_ a2.args.length a2.cap]] W (MadeAm a0 ⟨a2.name, a2.at_, a2.cap, a2.args⟩ W) from apply_atom_at a0 A0 c0 ⟨a2.name, a2.at_, a2.cap, a2.args⟩ W ⟨LG.out.2.1, LG.out.2.2.below h⟩ (by have := HN2.out; show nodesL a2.args ≤ _; omega) (fun W' h' => QI.out W' (h.trans (h'.mono h.size))))
              have R5 := Lib.hid (fun (W : World) (h : Below wc.heap.size wc W) => show Calls Tryz.prog 20 #[.slice A0 a0.length c0, .agg #[.string a2.name, .slice a2.at_ a2.args.length a2.cap]] W (MadeAm a0 ⟨a2.name, a2.at_, a2.cap, a2.args⟩ W) from ref_apply_atom_at wc a0 A0 c0 LB.out ⟨a2.name, a2.at_, a2.cap, a2.args⟩ ⟨LG.out.2.1, LG.out.2.2⟩ (by have := HN2.out; show nodesL a2.args ≤ _; omega) W h)
              have R6 := Lib.hid (fun (W : World) (x y : Am) (hx : x.name = a2.name) (hx2 : stripL x.args = stripL (appL a0 a2.args)) (hy : y.name = a2.name) (hy2 : stripL y.args = stripL (appL a0 a2.args)) (hxa : x.At W) (hya : y.At W) => show Calls Tryz.prog 18 #[x.val, y.val] W fun e w' => e = .returned (.bool true) ∧ Below W.heap.size W w' from ref_same_atom_at x y W hxa hya (same_am (hx.trans hy.symm) (hx2.trans hy2.symm)))
              have R7 := Lib.hid (fun (W : World) (h : Below wc.heap.size wc W) => show Calls Tryz.prog 22 #[.slice A0 a0.length c0, .agg #[.int .i64 a2.op, .string a2.name, .slice a2.at_ a2.args.length a2.cap]] W (MadeGl a0 a2 W) from apply_goal_at a0 A0 c0 a2 W (LG.out.below h) (by have := HN2.out; omega) (fun W' h' => QI.out W' (h.trans (h'.mono h.size))))
              have R8 := Lib.hid (fun (W : World) (h : Below wc.heap.size wc W) => show Calls Tryz.prog 23 #[.slice A0 a0.length c0, .agg #[.int .i64 a2.op, .string a2.name, .slice a2.at_ a2.args.length a2.cap]] W (MadeGl a0 a2 W) from ref_apply_goal_at wc a0 A0 c0 LB.out a2 LG.out (by have := HN2.out; omega) W h)
              have R9 := Lib.hid (fun (W : World) (x y : Gl) (hx : x.op = a2.op ∧ x.name = a2.name) (hx2 : stripL x.args = stripL (appL a0 a2.args)) (hy : y.op = a2.op ∧ y.name = a2.name) (hy2 : stripL y.args = stripL (appL a0 a2.args)) (hxa : x.At W) (hya : y.At W) => show Calls Tryz.prog 21 #[x.val, y.val] W fun e w' => e = .returned (.bool true) ∧ Below W.heap.size W w' from ref_same_goal_at x y W hxa hya (same_gl (hx.1.trans hy.1.symm) (hx.2.trans hy.2.symm) (hx2.trans hy2.symm)))
              have HK := Lib.hid (fun (W : World) (h : Below wc.heap.size wc W) => show Below wc.heap.size wc W ∧ W.cell? ⟨w.heap.size, 0, none⟩ = some (.int .i64 a1.kind) ∧ W.cell? ⟨w.heap.size, 1, none⟩ = some (.int .i64 a1.num) ∧ W.cell? ⟨w.heap.size, 2, none⟩ = some (.string a1.name) ∧ W.cell? ⟨w.heap.size, 3, none⟩ = some (.slice a1.at_ a1.args.length a1.cap) ∧ W.cell? ⟨w.heap.size + 1, 0, none⟩ = some (.int .i64 a2.op) ∧ W.cell? ⟨w.heap.size + 1, 1, none⟩ = some (.string a2.name) ∧ W.cell? ⟨w.heap.size + 1, 2, none⟩ = some (.slice a2.at_ a2.args.length a2.cap) ∧ W.cell? ⟨wr.heap.size, 0, none⟩ = some (.string a2.name) ∧ W.cell? ⟨wr.heap.size, 1, none⟩ = some (.slice a2.at_ a2.args.length a2.cap) from ⟨h, keepv h (H13.out.tm.cell 0 _ rfl), keepv h (H13.out.tm.cell 1 _ rfl), keepv h (H13.out.tm.cell 2 _ rfl), keepv h (H13.out.tm.cell 3 _ rfl), keepv h (H13.out.gl.cell 0 _ rfl), keepv h (H13.out.gl.cell 1 _ rfl), keepv h (H13.out.gl.cell 2 _ rfl), keepv h (HAt.out.cell 0 _ rfl), keepv h (HAt.out.cell 1 _ rfl)⟩)
              have HFr := Lib.hid (fun (W : World) (t : Tm) (h : Below wc.heap.size wc W) (hl : Lie (From wc) 0 No W t) => show t.At W from hl.at h)
              clear QI LB LT LG H13 HAt HBC W0 W1 W2 HN1 HN2 M0 L0
              go_wp2_with fail
              first | (go_region_held3 (fun W => Below wc.heap.size wc W ∧ W.cell? ⟨w.heap.size, 0, none⟩ = some (.int .i64 a1.kind) ∧ W.cell? ⟨w.heap.size, 1, none⟩ = some (.int .i64 a1.num) ∧ W.cell? ⟨w.heap.size, 2, none⟩ = some (.string a1.name) ∧ W.cell? ⟨w.heap.size, 3, none⟩ = some (.slice a1.at_ a1.args.length a1.cap) ∧ W.cell? ⟨w.heap.size + 1, 0, none⟩ = some (.int .i64 a2.op) ∧ W.cell? ⟨w.heap.size + 1, 1, none⟩ = some (.string a2.name) ∧ W.cell? ⟨w.heap.size + 1, 2, none⟩ = some (.slice a2.at_ a2.args.length a2.cap) ∧ W.cell? ⟨wr.heap.size, 0, none⟩ = some (.string a2.name) ∧ W.cell? ⟨wr.heap.size, 1, none⟩ = some (.slice a2.at_ a2.args.length a2.cap)) (exact HK.out _ (by first | assumption | exact hr.drew | exact hr)) (first
                | (go_at_call 16; have hH := (‹Below wc.heap.size wc _ ∧ _›).1; (with_reducible refine (R1.out _ hH).mono ?_); rintro e v1 ⟨x1, rfl, hx1, hl1, hb1⟩; have hxa := hl1.at trivial; have hI := hH.trans (hb1.mono hH.size); clear hb1 hH hl1)
                | (go_at_call 17; have hH := (‹Below wc.heap.size wc _ ∧ _›).1; (with_reducible refine (R2.out _ hH).mono ?_); rintro e v2 ⟨y1, rfl, hy1, hl1, hb1⟩; have hI := hH.trans (hb1.mono hH.size); have hya := hl1.at hI; replace hxa := hxa.below hb1; clear hb1 hH hl1)
                | (go_at_call 15; have hH := (‹Below wc.heap.size wc _ ∧ _›).1; (with_reducible refine (R3.out _ _ _ hx1 hy1 hxa hya).mono ?_); rintro e v3 ⟨rfl, hb1⟩; have hI := hH.trans (hb1.mono hH.size); clear hb1 hH hxa hya)
                | (go_at_call 19; have hH := (‹Below wc.heap.size wc _ ∧ _›).1; (with_reducible refine (R4.out _ hH).mono ?_); rintro e v4 ⟨x2, rfl, hx2, hx3, hxa, hb1⟩; have hI := hH.trans (hb1.mono hH.size); clear hb1 hH)
                | (go_at_call 20; have hH := (‹Below wc.heap.size wc _ ∧ _›).1; (with_reducible refine (R5.out _ hH).mono ?_); rintro e v5 ⟨y2, rfl, hy2, hy3, hya, hb1⟩; have hI := hH.trans (hb1.mono hH.size); replace hxa := hxa.below hb1; clear hb1 hH)
                | (go_at_call 18; have hH := (‹Below wc.heap.size wc _ ∧ _›).1; (with_reducible refine (R6.out _ _ _ hx2 hx3 hy2 hy3 hxa hya).mono ?_); rintro e v6 ⟨rfl, hb1⟩; have hI := hH.trans (hb1.mono hH.size); clear hb1 hH hxa hya)
                | (go_at_call 22; have hH := (‹Below wc.heap.size wc _ ∧ _›).1; (with_reducible refine (R7.out _ hH).mono ?_); rintro e v7 ⟨x4, rfl, hx4, hx5, hxa, hb1⟩; have hI := hH.trans (hb1.mono hH.size); clear hb1 hH)
                | (go_at_call 23; have hH := (‹Below wc.heap.size wc _ ∧ _›).1; (with_reducible refine (R8.out _ hH).mono ?_); rintro e v8 ⟨y4, rfl, hy4, hy5, hya, hb1⟩; have hI := hH.trans (hb1.mono hH.size); replace hxa := hxa.below hb1; clear hb1 hH)
                | (go_at_call 21; have hH := (‹Below wc.heap.size wc _ ∧ _›).1; (with_reducible refine (R9.out _ _ _ hx4 hx5 hy4 hy5 hxa hya).mono ?_); rintro e v9 ⟨rfl, hb1⟩; have hI := hH.trans (hb1.mono hH.size); clear hb1 hH hxa hya)
                | (go_at_call 9; have hH := (‹Below wc.heap.size wc _ ∧ _›).1; (with_reducible refine (live_at _).mono ?_); rintro e v10 ⟨rfl, hb1⟩; have hI := hH.trans (hb1.mono hH.size); clear hb1 hH))) | fail
              all_goals (have hS := (‹Below wc.heap.size wc _ ∧ _›).1)
              all_goals (have HE := Lib.hid (BB.out _ hS))
              all_goals go_wp2_with fail
              all_goals go_ret
              all_goals exact ⟨rfl, HE.out⟩
end Go.Proofs.YtgialbcohkpogaaGreat.substApplies
