/-
  RfJoin.
  UnFitP.
  RfMeasP.
-/
import Derived.Test.YtgpglgehlnfggaaGreatMe22
import Derived.Deep.RegionHeld3
import Derived.Deep.CutRange
import Derived.BigQuiet
import Derived.Deep.QuietTactic
import Derived.Test.YtgpglgehlnfggaaGreatMe13
import Derived.Test.YtgpglgehlnfggaaGreatMe12
namespace Go.Proofs.YtgpglgehlnfggaaGreat
open Go.RowKit
def TwoN (lo : Nat) (Y : Nat → Prop) (p : Nat) (zL zC : Value) (G : List Nd) (cls : List Nat) (w : World) (m n P Q : Nat) (W : World) : Prop :=
  RG lo Y W p zL zC G cls ∧ FrX (fun b => zC.ownBlock = some b) w W ∧ w.heap.size ≤ P ∧ w.heap.size ≤ Q ∧ Held P W (.int .i64 (nd G m).tm.kind) (.int .i64 (nd G m).tm.num) (.string (nd G m).tm.name) (.slice (nd G m).A (nd G m).kids.length (nd G m).cap) ∧
    Held Q W (.int .i64 (nd G n).tm.kind) (.int .i64 (nd G n).tm.num) (.string (nd G n).tm.name) (.slice (nd G n).A (nd G n).kids.length (nd G n).cap)
theorem held_fx {X : Nat → Prop} {b : Nat} {w w' : World} {v0 v1 v2 v3 : Value} (h : Held b w v0 v1 v2 v3) (k : FrX X w w') (hX : ¬ X b) : Held b w' v0 v1 v2 v3 :=
  ⟨Nat.lt_of_lt_of_le h.lt k.size, k.cellv hX h.c0, k.cellv hX h.c1, k.cellv hX h.c2, k.cellv hX h.c3, fun j => (k.frozen (p := ⟨b, j, none⟩) h.lt hX).trans (h.free j)⟩
theorem held_drew {b : Nat} {w : World} {v0 v1 v2 v3 : Value} (h : Held b w v0 v1 v2 v3) : Held b w.drew v0 v1 v2 v3 := h.below (Below.refl _ _).drew
section
variable {lo p : Nat} {Y : Nat → Prop} {zL zC : Value} {G : List Nd} {cls : List Nat} {w wr : World} {m n : Nat}
theorem TwoN.of1 (hg : RG lo Y wr p zL zC G cls) (hf : FrX (fun b => zC.ownBlock = some b) w wr) : TwoN lo Y p zL zC G cls w m n wr.heap.size (wr.heap.size + 1) ((wr.alloc (.cells #[.int .i64 (nd G m).tm.kind, .int .i64 (nd G m).tm.num, .string (nd G m).tm.name, .slice (nd G m).A (nd G m).kids.length (nd G m).cap] 149)).alloc (.cells #[.int .i64 (nd G n).tm.kind, .int .i64 (nd G n).tm.num, .string (nd G n).tm.name, .slice (nd G n).A (nd G n).kids.length (nd G n).cap] 149)).drew := by
  obtain ⟨h1, h2⟩ := two_boxes wr (.int .i64 (nd G m).tm.kind) (.int .i64 (nd G m).tm.num) (.string (nd G m).tm.name) (.slice (nd G m).A (nd G m).kids.length (nd G m).cap) (.int .i64 (nd G n).tm.kind) (.int .i64 (nd G n).tm.num) (.string (nd G n).tm.name) (.slice (nd G n).A (nd G n).kids.length (nd G n).cap) 149
  exact ⟨((hg.alloc _).alloc _).drew, ((hf.alloc _).alloc _).drew, hf.size, Nat.le_succ_of_le hf.size, held_drew h1, held_drew h2⟩
theorem TwoN.of2 (hg : RG lo Y wr p zL zC G cls) (hf : FrX (fun b => zC.ownBlock = some b) w wr) : TwoN lo Y p zL zC G cls w m n (wr.heap.size + 1) wr.heap.size ((wr.alloc (.cells #[.int .i64 (nd G n).tm.kind, .int .i64 (nd G n).tm.num, .string (nd G n).tm.name, .slice (nd G n).A (nd G n).kids.length (nd G n).cap] 149)).alloc (.cells #[.int .i64 (nd G m).tm.kind, .int .i64 (nd G m).tm.num, .string (nd G m).tm.name, .slice (nd G m).A (nd G m).kids.length (nd G m).cap] 149)).drew := by
  obtain ⟨h1, h2⟩ := two_boxes wr (.int .i64 (nd G n).tm.kind) (.int .i64 (nd G n).tm.num) (.string (nd G n).tm.name) (.slice (nd G n).A (nd G n).kids.length (nd G n).cap) (.int .i64 (nd G m).tm.kind) (.int .i64 (nd G m).tm.num) (.string (nd G m).tm.name) (.slice (nd G m).A (nd G m).kids.length (nd G m).cap) 149
  exact ⟨((hg.alloc _).alloc _).drew, ((hf.alloc _).alloc _).drew, Nat.le_succ_of_le hf.size, hf.size, held_drew h2, held_drew h1⟩
end
def Kidding (lo : Nat) (Y : Nat → Prop) (p : Nat) (zL zC : Value) (G : List Nd) (cls : List Nat) (op E : List (Nat × Nat)) (w : World) (m n P Q i : Nat) (W : World) : Prop :=
  ∃ cls', TwoN lo Y p zL zC G cls' w m n P Q W ∧ Mid G (clsR cls') (((nd G m).kids.zip (nd G n).kids).drop i ++ op) E ∧ Roots G (clsR cls') ∧ wtOf G (clsR cls') G.length ≤ wtOf G (clsR cls) G.length
def Renaming (lo : Nat) (Y : Nat → Prop) (p : Nat) (zL zC : Value) (G : List Nd) (cls : List Nat) (x y : Nat) (w : World) (j : Nat) (wr : World) : Prop := RG lo Y wr p zL zC G (mixed cls x y j) ∧ FrX (fun b => zC.ownBlock = some b) w wr
set_option maxHeartbeats 8000000 in
set_option maxRecDepth 100000 in
theorem rjoin_at {lo p : Nat} {Y : Nat → Prop} {zL zC : Value} {G : List Nd} (hok : Ok G) : ∀ (N : Nat) (op E : List (Nat × Nat)) (a b : Nat) (cls : List Nat) (w : World), RG lo Y w p zL zC G cls → Mid G (clsR cls) ((a, b) :: op) E → Roots G (clsR cls) → wtOf G (clsR cls) G.length < N →
    Calls Tryz.prog 164 #[.pointer (some ⟨p, 0, none⟩), .int .i64 (a : Nat), .int .i64 (b : Nat)] w (JoinO lo Y p zL zC G cls op E w) := by
  intro N
  induction N with
  | zero => intro op E a b cls w _ _ _ h; omega
  | succ N ih =>
    intro op E a b cls w h hm rl hN
    obtain ⟨ha, hb⟩ := hm.bd (a, b) (by simp)
    simp only at ha hb
    have hsm := h.small
    have hcl := h.cl
    obtain ⟨q, c1, q2, c2, e1, e2, n1, n2, n3, n4, n5, n6, n7⟩ := h.form (by omega)
    subst e1 e2
    have h0 := h.hl
    have h1 := h.hc
    have d0 := h.class ha
    have d1 := h.class hb
    have hpl := h.lt
    obtain ⟨x, hx⟩ : ∃ x, x = clsR cls a := ⟨_, rfl⟩
    obtain ⟨y, hy⟩ : ∃ y, y = clsR cls b := ⟨_, rfl⟩
    have hxl : x < G.length ∧ clsR cls x = x := by rw [hx]; exact rl a ha
    have hyl : y < G.length ∧ clsR cls y = y := by rw [hy]; exact rl b hb
    rw [← hx] at d0
    rw [← hy] at d1
    have HG := Lib.hid h
    have HM := Lib.hid hm
    have HRL := Lib.hid rl
    have HIH := Lib.hid ih
    have HN := Lib.hid hN
    have HX := Lib.hid (And.intro hx hy)
    have HXL := Lib.hid (And.intro hxl hyl)
    have HCL := Lib.hid hcl
    have HOK := Lib.hid hok
    clear h hm rl ih hN hx hy hcl
    by_cases hxy : x = y
    · subst hxy
      have HE := Lib.hid (fun w' (g1 : RG lo Y w' p (.slice (some ⟨q, 0, none⟩) G.length c1) (.slice (some ⟨q2, 0, none⟩) G.length c2) G cls) g2 => JoinO.yes (w := w) g1 g2 (HM.out.pop (op' := op) (fun p hp => by rcases List.mem_cons.1 hp with h | h; exact .inl h; exact .inr h) (fun p hp => List.mem_cons_of_mem _ hp) ha hb (by rw [← HX.out.1, ← HX.out.2])) HRL.out (Nat.le_refl _))
      go_enter Tryz.func164, Tryz.ntmps164
      go_wp2_with fail
      go_region
      go_wp2_with fail
      go_ret
      exact HE.out _ HG.out.drew (FrX.refl w).drew
    · have hxy' : ((x : Int) == (y : Int)) = false := by simp; omega
      have HS := Lib.hid (fun W (hW : RG lo Y W p (.slice (some ⟨q, 0, none⟩) G.length c1) (.slice (some ⟨q2, 0, none⟩) G.length c2) G cls) c => shape_at (c := c) hW)
      obtain ⟨m, hm⟩ : ∃ m, m = shapeI G (clsR cls) x := ⟨_, rfl⟩
      obtain ⟨n, hn⟩ : ∃ n, n = shapeI G (clsR cls) y := ⟨_, rfl⟩
      have S1 := Lib.hid (show ∀ W, RG lo Y W p (.slice (some ⟨q, 0, none⟩) G.length c1) (.slice (some ⟨q2, 0, none⟩) G.length c2) G cls → Calls Tryz.prog 166 #[.pointer (some ⟨p, 0, none⟩), .int .i64 (x : Nat)] W fun e w' => e = .returned (.int .i64 m) ∧ W = w' from fun W hW => by rw [hm]; exact HS.out W hW x)
      have S2 := Lib.hid (show ∀ W, RG lo Y W p (.slice (some ⟨q, 0, none⟩) G.length c1) (.slice (some ⟨q2, 0, none⟩) G.length c2) G cls → Calls Tryz.prog 166 #[.pointer (some ⟨p, 0, none⟩), .int .i64 (y : Nat)] W fun e w' => e = .returned (.int .i64 n) ∧ W = w' from fun W hW => by rw [hn]; exact HS.out W hW y)
      have HMN := Lib.hid (And.intro hm hn)
      have HNE := Lib.hid hxy
      have HD := Lib.hid HG.out.drew
      clear hm hn HS hxy
      go_enter Tryz.func164, Tryz.ntmps164
      go_wp2_with fail
      go_region
      go_wp2_with (first
        | (go_at_call 166; (with_reducible refine (S1.out _ HD.out).mono ?_); rintro e w3 ⟨rfl, rfl⟩)
        | (go_at_call 166; (with_reducible refine (S2.out _ HD.out).mono ?_); rintro e w3 ⟨rfl, rfl⟩))
      have HR0 := Lib.hid (show Renaming lo Y p (.slice (some ⟨q, 0, none⟩) G.length c1) (.slice (some ⟨q2, 0, none⟩) G.length c2) G cls x y w 0 w.drew from ⟨by rw [mixed_zero]; exact HD.out, (FrX.refl w).drew⟩)
      clear h0 h1 d0 d1 S1 S2 HD
      go_loopw [11] (fun i wr => ∃ j : Nat, j ≤ G.length ∧ i = .int .i64 (j : Nat) ∧ Hid (Renaming lo Y p (.slice (some ⟨q, 0, none⟩) G.length c1) (.slice (some ⟨q2, 0, none⟩) G.length c2) G cls x y w j wr)) (fun i _ => G.length - (intOf i).toNat)
      case atStart => exact ⟨0, Nat.zero_le _, rfl, HR0⟩
      case round =>
        clear HR0
        obtain ⟨j, hj, rfl, HR⟩ := hrel
        have h1 := HR.out.1.hc
        by_cases hlt : j < G.length
        · have d4 := HR.out.1.class hlt
          rw [mixed_at (by rw [HCL.out]; exact hlt)] at d4
          have f4 := HR.out.1.free j
          by_cases he : clsR cls j = y
          · have he' : (((clsR cls j : Nat) : Int) == ((y : Nat) : Int)) = true := by simp [he]
            have HE := Lib.hid (show Renaming lo Y p (.slice (some ⟨q, 0, none⟩) G.length c1) (.slice (some ⟨q2, 0, none⟩) G.length c2) G cls x y w (j + 1) (wr.setCell ⟨q2, j, none⟩ (.int .i64 (x : Nat))) from by
              have g1 := HR.out.1.setClass (i := j) (x := x)
              refine ⟨?_, HR.out.2.set (p := ⟨q2, j, none⟩) (fun _ => rfl) _⟩
              rw [mixed_next (by rw [HCL.out]; exact hlt), he, show remap x y y = x by simp [remap]]
              exact g1)
            clear he
            generalize clsR cls j = cj at *
            go_wp2_with fail
            go_roundw
            case rel => exact ⟨j + 1, by omega, by go_num, HE⟩
            case measure => simp [intOf]; omega
          · have HE := Lib.hid (show Renaming lo Y p (.slice (some ⟨q, 0, none⟩) G.length c1) (.slice (some ⟨q2, 0, none⟩) G.length c2) G cls x y w (j + 1) wr from ⟨by rw [mixed_same (by rw [HCL.out]; exact hlt) he]; exact HR.out.1, HR.out.2⟩)
            have he' : (((clsR cls j : Nat) : Int) == ((y : Nat) : Int)) = false := by simp; omega
            clear he
            generalize clsR cls j = cj at *
            go_wp2_with fail
            go_roundw
            case rel => exact ⟨j + 1, by omega, by go_num, HE⟩
            case measure => simp [intOf]; omega
        · obtain rfl : j = G.length := by omega
          have HG2 := Lib.hid (show RG lo Y wr p (.slice (some ⟨q, 0, none⟩) G.length c1) (.slice (some ⟨q2, 0, none⟩) G.length c2) G (cls.map (remap x y)) from by have := HR.out.1; rwa [mixed_all cls x y HCL.out] at this)
          have HF2 := Lib.hid HR.out.2
          have hroot : clsR (cls.map (remap x y)) = mergeR (clsR cls) x y := rmap_root (by rw [HCL.out]; exact hyl.1)
          have HRT := Lib.hid hroot
          have HRL2 := Lib.hid (show Roots G (clsR (cls.map (remap x y))) from by rw [hroot]; exact HRL.out.merge hxl.1 hxl.2 HNE.out)
          have HWT := Lib.hid (show wtOf G (clsR (cls.map (remap x y))) G.length < wtOf G (clsR cls) G.length from by rw [hroot]; exact wt_merge hyl.1 hyl.2 hxl.2 HNE.out)
          clear HR hroot hxl hyl
          obtain ⟨hm, hn⟩ := HMN.out
          rcases shapeI_cases G (clsR cls) x with ⟨s1, e1⟩ | ⟨m', s1, e1⟩
          · have HE := Lib.hid (JoinO.yes (w := w) HG2.out HF2.out (by rw [HRT.out]; exact merge_var HM.out HOK.out HX.out.1 HX.out.2 HNE.out (.inl s1)) HRL2.out (Nat.le_of_lt HWT.out))
            rw [e1] at hm
            subst hm
            clear s1 e1 hn
            go_wp2_with fail
            go_ret
            exact HE.out
          · rcases shapeI_cases G (clsR cls) y with ⟨s2, e2⟩ | ⟨n', s2, e2⟩
            · have HE := Lib.hid (JoinO.yes (w := w) HG2.out HF2.out (by rw [HRT.out]; exact merge_var HM.out HOK.out HX.out.1 HX.out.2 HNE.out (.inr s2)) HRL2.out (Nat.le_of_lt HWT.out))
              rw [e1] at hm
              rw [e2] at hn
              subst hm hn
              have g0 : decide ((m' : Int) < 0) = false := by simp
              clear s1 s2 e1 e2
              go_wp2_with fail
              go_ret
              exact HE.out
            · have HS := Lib.hid (And.intro s1 s2)
              rw [e1] at hm
              rw [e2] at hn
              subst hm hn
              have k1 := shapeOf_some s1
              have k2 := shapeOf_some s2
              have g0 : decide ((m' : Int) < 0) = false := by simp
              have g1 : decide ((n' : Int) < 0) = false := by simp
              have m1 := k1.1
              have m2 := k2.1
              clear s1 s2 e1 e2 k1 k2
              have p0 := HG2.out.hl
              obtain ⟨b0, b1, b2, b3⟩ := HG2.out.cells m1
              obtain ⟨b4, b5, b6, b7⟩ := HG2.out.cells m2
              have p0x := al1 p0
              have p0y := al2 p0
              have b0x := al1 b0
              have b0y := al2 b0
              have b1x := al1 b1
              have b1y := al2 b1
              have b2x := al1 b2
              have b2y := al2 b2
              have b3x := al1 b3
              have b3y := al2 b3
              have b4x := al1 b4
              have b4y := al2 b4
              have b5x := al1 b5
              have b5y := al2 b5
              have b6x := al1 b6
              have b6y := al2 b6
              have b7x := al1 b7
              have b7y := al2 b7
              go_wp2_with fail
              go_cut [12, 13] from 69 to 82 (fun s12 s13 W => Hid (∃ P Q, s12 = .pointer (some ⟨P, 0, none⟩) ∧ s13 = .pointer (some ⟨Q, 0, none⟩) ∧ TwoN lo Y p (.slice (some ⟨q, 0, none⟩) G.length c1) (.slice (some ⟨q2, 0, none⟩) G.length c2) G (cls.map (remap x y)) w m' n' P Q W))
              case first =>
                go_region
                all_goals go_wp2_with fail
                all_goals go_meet
                all_goals first | exact Lib.hid ⟨_, _, rfl, rfl, TwoN.of1 HG2.out HF2.out⟩ | exact Lib.hid ⟨_, _, rfl, rfl, TwoN.of2 HG2.out HF2.out⟩
              case rest =>
                clear p0 p0x p0y b0 b0x b0y b1 b1x b1y b2 b2x b2y b3 b3x b3y b4 b4x b4y b5 b5x b5y b6 b6x b6y b7 b7x b7y
                obtain ⟨P, Q, rfl, rfl, HT⟩ := hcut.out
                have HT := Lib.hid HT
                clear hcut
                obtain ⟨-, t0, t1, t2, t3, -⟩ := HT.out.2.2.2.2.1
                obtain ⟨-, u0', u1', u2', u3', -⟩ := HT.out.2.2.2.2.2
                by_cases hl : SameLab G m' n'
                · have HLN := Lib.hid hl.2
                  have HK0 := Lib.hid (show Kidding lo Y p (.slice (some ⟨q, 0, none⟩) G.length c1) (.slice (some ⟨q2, 0, none⟩) G.length c2) G (cls.map (remap x y)) op E w m' n' P Q 0 wc from
                    ⟨_, HT.out, by rw [List.drop_zero, HRT.out]; exact merge_fun HM.out HOK.out HX.out.1 HX.out.2 HNE.out HS.out.1 HS.out.2 hl, HRL2.out, Nat.le_refl _⟩)
                  have k0' : ((nd G m').tm.kind != (nd G n').tm.kind) = false := by simp [hl.1.1]
                  have k1' : ((nd G m').tm.num != (nd G n').tm.num) = false := by simp [hl.1.2.1]
                  have k2' : (nd G m').tm.name.toList = (nd G n').tm.name.toList := by rw [hl.1.2.2]
                  have k3' : (((nd G m').kids.length : Int) != ((nd G n').kids.length : Int)) = false := by simp [hl.2]
                  have hfk : (nd G m').kids.length ≤ 1000000 := (HT.out.1.fine m' m1).kids
                  clear hl
                  go_wp2_with fail
                  clear k0' k1' k2' k3' t0 t1 t2 t3 u0' u1' u2' u3'
                  go_loopw [14] (fun s14 wr => ∃ i : Nat, i ≤ (nd G m').kids.length ∧ s14 = .int .i64 (i : Nat) ∧ Hid (Kidding lo Y p (.slice (some ⟨q, 0, none⟩) G.length c1) (.slice (some ⟨q2, 0, none⟩) G.length c2) G (cls.map (remap x y)) op E w m' n' P Q i wr)) (fun s14 _ => (nd G m').kids.length - (intOf s14).toNat)
                  case atStart => exact ⟨0, Nat.zero_le _, rfl, HK0⟩
                  case round =>
                    clear HK0
                    obtain ⟨i, hi, rfl, HK⟩ := hrel
                    obtain ⟨cls', T, M, R, L⟩ := HK.out
                    have t3 := T.2.2.2.2.1.c3
                    have u3' := T.2.2.2.2.2.c3
                    by_cases hlt : i < (nd G m').kids.length
                    · obtain ⟨bm, em, a1, a2, a3, a4⟩ := (T.1.kids m' m1).cells (by omega)
                      obtain ⟨bn, en, d1, d2, d3, d4⟩ := (T.1.kids n' m2).cells (by have := HLN.out; omega)
                      rw [em] at t3
                      rw [en] at u3'
                      have r1 := a4 i hlt
                      have r2 := d4 i (by have := HLN.out; omega)
                      rw [zip_drop hlt (by have := HLN.out; omega)] at M
                      have hl2 : (nd G m').kids.length = (nd G n').kids.length := HLN.out
                      have HQ := Lib.hid (HIH.out _ E _ _ cls' _ T.1.drew M R (by have h1 := HWT.out; have h2 := HN.out; omega))
                      have HKK := Lib.hid (show ∀ W, FrX (fun b => b = q2) wr W → W.cell? ⟨P, 3, none⟩ = some (.slice (some ⟨bm, 0, none⟩) (nd G m').kids.length (nd G m').cap) ∧ W.cell? ⟨Q, 3, none⟩ = some (.slice (some ⟨bn, 0, none⟩) (nd G n').kids.length (nd G n').cap) ∧ W.cell? ⟨bm, i, none⟩ = some (.int .i64 ((nd G m').kids.getD i 0 : Nat)) ∧ W.cell? ⟨bn, i, none⟩ = some (.int .i64 ((nd G n').kids.getD i 0 : Nat)) from fun W k => by
                        have hP : P ≠ q2 := by have := T.2.2.1; omega
                        have hQ : Q ≠ q2 := by have := T.2.2.2.1; omega
                        exact ⟨k.cellv hP t3, k.cellv hQ u3', k.cellv (fun e => a3 (.inl (.inr (.inr (by have e' : bm = q2 := e; rw [e']; rfl))))) r1, k.cellv (fun e => d3 (.inl (.inr (.inr (by have e' : bn = q2 := e; rw [e']; rfl))))) r2⟩)
                      have HTT := Lib.hid T
                      have HLL := Lib.hid L
                      have bl : (0 : Int) ≤ (i : Int) := by omega
                      have bl1 : (i : Int) < ((nd G m').kids.length : Int) := by omega
                      have bl2 : (i : Int) < ((nd G n').kids.length : Int) := by omega
                      clear T M R L HK em en a1 a2 a3 a4 d1 d2 d3 d4 hl2
                      generalize (nd G m').kids.getD i 0 = km at *
                      generalize (nd G n').kids.getD i 0 = kn at *
                      go_wp2_with fail
                      (go_region_held3 (fun W => W.cell? ⟨P, 3, none⟩ = some (.slice (some ⟨bm, 0, none⟩) (nd G m').kids.length (nd G m').cap) ∧ W.cell? ⟨Q, 3, none⟩ = some (.slice (some ⟨bn, 0, none⟩) (nd G n').kids.length (nd G n').cap) ∧ W.cell? ⟨bm, i, none⟩ = some (.int .i64 (km : Nat)) ∧ W.cell? ⟨bn, i, none⟩ = some (.int .i64 (kn : Nat))) (first | exact ⟨t3, u3', r1, r2⟩ | exact K2 | fail) (first
                        | (go_at_call 164; refine (HQ.out).mono ?_; rintro e w4 ⟨ok, cls2, rfl, j1, j2, j3, j4⟩; have F4 := Lib.hid (FrX.undrew j2); have K2 := HKK.out _ (F4.out.mono (fun b _ e => by simpa [Value.ownBlock] using e.symm)); have J1 := Lib.hid j1; have J3 := Lib.hid j3; have J4 := Lib.hid j4; clear j1 j2 j3 j4)))
                      have HT4 := Lib.hid (show TwoN lo Y p (.slice (some ⟨q, 0, none⟩) G.length c1) (.slice (some ⟨q2, 0, none⟩) G.length c2) G cls2 w m' n' P Q w4 from by
                        have hP : P ≠ q2 := by have := HTT.out.2.2.1; omega
                        have hQ : Q ≠ q2 := by have := HTT.out.2.2.2.1; omega
                        exact ⟨J1.out, HTT.out.2.1.trans F4.out (fun _ _ h => h), HTT.out.2.2.1, HTT.out.2.2.2.1, held_fx HTT.out.2.2.2.2.1 F4.out (fun e => hP (by simpa [Value.ownBlock] using e.symm)), held_fx HTT.out.2.2.2.2.2 F4.out (fun e => hQ (by simpa [Value.ownBlock] using e.symm))⟩)
                      cases ok with
                      | true =>
                        have HE := Lib.hid (show Kidding lo Y p (.slice (some ⟨q, 0, none⟩) G.length c1) (.slice (some ⟨q2, 0, none⟩) G.length c2) G (cls.map (remap x y)) op E w m' n' P Q (i + 1) w4 from by
                          obtain ⟨g1, g2, g3⟩ := J3.out rfl
                          exact ⟨cls2, HT4.out, g1, g2, Nat.le_trans g3 HLL.out⟩)
                        clear J1 J3 J4 HQ HKK HTT HT4 F4 K2
                        go_wp2_with fail
                        go_roundw
                        case rel => exact ⟨i + 1, by omega, by go_num, HE⟩
                        case measure => simp [intOf]; omega
                      | false =>
                        have HE := Lib.hid (JoinO.no (w := w) (op := op) (cls := cls) HT4.out.1 HT4.out.2.1 (J4.out rfl))
                        clear J1 J3 J4 HQ HKK HTT HT4 F4 K2
                        go_wp2_with fail
                        go_ret
                        exact HE.out
                    · obtain rfl : i = (nd G m').kids.length := by omega
                      have hz : ((nd G m').kids.zip (nd G n').kids).drop (nd G m').kids.length = [] := List.drop_eq_nil_of_le (by rw [List.length_zip]; omega)
                      rw [hz, List.nil_append] at M
                      have HE := Lib.hid (JoinO.yes (w := w) (cls := cls) T.1 T.2.1 M R (by have := HWT.out; omega))
                      clear T M R L HK
                      go_wp2_with fail
                      go_ret
                      exact HE.out
                · have HE := Lib.hid (JoinO.no (w := w) (op := op) (cls := cls) HT.out.1 HT.out.2.1 (merge_apart HM.out HOK.out (by rw [← HX.out.1]; exact HS.out.1) (by rw [← HX.out.2]; exact HS.out.2) hl))
                  unfold SameLab at hl
                  generalize (nd G m').tm.kind = km at *
                  generalize (nd G m').tm.num = nm at *
                  generalize (nd G m').tm.name = sm at *
                  generalize (nd G m').kids.length = lm at *
                  generalize (nd G n').tm.kind = kn at *
                  generalize (nd G n').tm.num = nn at *
                  generalize (nd G n').tm.name = sn at *
                  generalize (nd G n').kids.length = ln at *
                  by_cases k0 : km = kn
                  · have k0' : (km != kn) = false := by simp [k0]
                    by_cases k1 : nm = nn
                    · have k1' : (nm != nn) = false := by simp [k1]
                      by_cases k2 : sm = sn
                      · have k2' : sm.toList = sn.toList := by rw [k2]
                        have k3' : ((lm : Int) != (ln : Int)) = true := by
                          have : lm ≠ ln := fun e => hl ⟨⟨k0, k1, k2⟩, e⟩
                          simp; omega
                        clear hl k0 k1 k2
                        go_wp2_with fail
                        go_ret
                        exact HE.out
                      · have k2' : ¬ sm.toList = sn.toList := fun e => k2 (by rw [ByteArray.toList_eq, ByteArray.toList_eq] at e; cases sm; cases sn; simpa using e)
                        clear hl k0 k1 k2
                        go_wp2_with fail
                        go_ret
                        exact HE.out
                    · have k1' : (nm != nn) = true := by simpa using k1
                      clear hl k0 k1
                      go_wp2_with fail
                      go_ret
                      exact HE.out
                  · have k0' : (km != kn) = true := by simpa using k0
                    clear hl k0
                    go_wp2_with fail
                    go_ret
                    exact HE.out
end Go.Proofs.YtgpglgehlnfggaaGreat
namespace Go.Proofs.YtgpglgehlnfggaaGreat
open Go.RowKit
abbrev FS := List Nat × List Nat
def kidF (root : Nat → Nat) (x : Nat) (s : FS) (k : Nat) : FS := (s.1.set x (min (s.1.getD x 0 + s.1.getD (root k) 0) 201), s.2.set x (max (s.2.getD x 0) (s.2.getD (root k) 0)))
def kidsF (root : Nat → Nat) (x : Nat) (ks : List Nat) (s : FS) : FS := ks.foldl (kidF root x) (s.1.set x 1, s.2)
def deepF (x : Nat) (s : FS) : FS := (s.1, s.2.set x (s.2.getD x 0 + 1))
def nodeF (G : List Nd) (root : Nat → Nat) (s : FS) (x : Nat) : FS := deepF x (kidsF root x (nd G x).kids s)
structure FOk (n m : Nat) (s : FS) : Prop where
  l1 : s.1.length = n
  l2 : s.2.length = n
  b1 : ∀ v, s.1.getD v 0 ≤ 201
  b2 : ∀ v, s.2.getD v 0 ≤ m
theorem set_get (l : List Nat) {x v y : Nat} : (l.set x y).getD v 0 = if v = x ∧ x < l.length then y else l.getD v 0 := by
  by_cases e : v = x
  · subst e
    by_cases h : v < l.length
    · rw [if_pos ⟨rfl, h⟩]; simp [List.getD, h]
    · rw [if_neg (fun k => h k.2)]; simp [List.getD, h]
  · rw [if_neg (fun k => e k.1)]
    simp [List.getD, Ne.symm e]
section
variable {G : List Nd} {root : Nat → Nat} {n m x : Nat} {s : FS}
theorem FOk.start (h : FOk n m s) : FOk n m (s.1.set x 1, s.2) := ⟨by rw [List.length_set]; exact h.l1, h.l2, fun v => by rw [set_get]; split; exact (by omega); exact h.b1 v, h.b2⟩
theorem FOk.kid (h : FOk n m s) (k : Nat) : FOk n m (kidF root x s k) := ⟨by simp [kidF, h.l1], by simp [kidF, h.l2], fun v => by
    show (s.1.set x _).getD v 0 ≤ 201
    rw [set_get]
    split
    · exact Nat.min_le_right _ _
    · exact h.b1 v, fun v => by
    show (s.2.set x _).getD v 0 ≤ m
    rw [set_get]
    split
    · exact Nat.max_le.2 ⟨h.b2 _, h.b2 _⟩
    · exact h.b2 v⟩
theorem FOk.kids (h : FOk n m s) : ∀ ks : List Nat, FOk n m (ks.foldl (kidF root x) s) := by
  intro ks
  induction ks generalizing s with
  | nil => exact h
  | cons k r ih => exact ih (h.kid k)
theorem FOk.deep (h : FOk n m s) : FOk n (m + 1) (deepF x s) := ⟨h.l1, by simp [deepF, h.l2], h.b1, fun v => by
    show (s.2.set x _).getD v 0 ≤ m + 1
    rw [set_get]
    split
    · have := h.b2 x; omega
    · have := h.b2 v; omega⟩
theorem FOk.node (h : FOk n m s) : FOk n (m + 1) (nodeF G root s x) := (h.start.kids _).deep
def FHas (G : List Nd) (root : Nat → Nat) (D : Nat) (s : FS) (x : Nat) : Prop := s.1.getD x 0 = min (1 + sizeL ((nd G x).kids.map (sol G root D))) 201 ∧ s.2.getD x 0 = depthL ((nd G x).kids.map (sol G root D)) + 1
end
section
variable {G : List Nd} {root : Nat → Nat} {n : Nat}
theorem sol_size {E : List (Nat × Nat)} {root r : Nat → Nat} {D : Nat} (h : Closed G E root) (hr : Ranked G root r D) : ∀ c, c < G.length → (sol G root D c).size = 1 + sizeL ((nd G (root c)).kids.map (sol G root D)) ∧ (sol G root D c).depth = depthL ((nd G (root c)).kids.map (sol G root D)) + 1 := by
  intro c hc
  have hk := h.ok _ (h.lt c hc)
  rw [sol_eq h hr hc]
  by_cases h1 : (nd G (root c)).tm.kind = 1
  · rw [if_pos h1, hk.var h1]
    simp [vr, Tm.size, Tm.depth, sizeL, depthL]
  · rw [if_neg h1]
    by_cases h2 : (nd G (root c)).tm.kind = 2
    · simp only [Tm.size, Tm.depth, if_pos h2]
      exact ⟨trivial, trivial⟩
    · have h3 : (nd G (root c)).kids = [] := List.length_eq_zero_iff.1 (by rw [hk.len, (form_args hk.form).1 h2]; rfl)
      rw [h3]
      simp [Tm.size, Tm.depth, sizeL, depthL, h2]
end
end Go.Proofs.YtgpglgehlnfggaaGreat
namespace Go.Proofs.YtgpglgehlnfggaaGreat
open Go.RowKit
def mget (M : List (Nat × Nat)) (c : Nat) : Nat × Nat := M.getD c (0, 0)
theorem mget_set {M : List (Nat × Nat)} {c v : Nat} {x : Nat × Nat} (h : c < M.length) : mget (M.set c x) v = if v = c then x else mget M v := by
  unfold mget
  by_cases e : v = c
  · subst e; simp [List.getD, h]
  · simp [List.getD, e, Ne.symm e]
def calcStep (root : Nat → Nat) (M : List (Nat × Nat)) (a : Nat × Nat) (k : Nat) : Nat × Nat := (min (a.1 + (mget M (root k)).1) 201, min (max a.2 ((mget M (root k)).2 + 1)) 21)
def calcS (root : Nat → Nat) (M : List (Nat × Nat)) (ks : List Nat) : Nat × Nat := ks.foldl (calcStep root M) (1, 1)
def kd (G : List Nd) (root : Nat → Nat) (c : Nat) : List Nat := (nd G (topC G root c)).kids
def rootsL (G : List Nd) (root : Nat → Nat) : List Nat := (List.range G.length).filter fun i => decide (root i = i)
structure MInv (G : List Nd) (root : Nat → Nat) (M : List (Nat × Nat)) (done : List Nat) (left : Nat) : Prop where
  len : M.length = G.length
  nod : done.Nodup
  rt : ∀ c ∈ done, c < G.length ∧ root c = c
  zero : ∀ c, c ∉ done → mget M c = (0, 0)
  ok : ∀ c ∈ done, mget M c = calcS root M (kd G root c) ∧ ∀ k ∈ kd G root c, root k ∈ done ∧ done.idxOf (root k) < done.idxOf c
  left : left + done.length = (rootsL G root).length
theorem calc_bounds (root : Nat → Nat) (M : List (Nat × Nat)) : ∀ (ks : List Nat) (a : Nat × Nat), 1 ≤ a.1 → a.1 ≤ 201 → a.2 ≤ 21 → 1 ≤ (ks.foldl (calcStep root M) a).1 ∧ (ks.foldl (calcStep root M) a).1 ≤ 201 ∧ (ks.foldl (calcStep root M) a).2 ≤ 21 := by
  intro ks
  induction ks with
  | nil => intro a h1 h2 h3; exact ⟨h1, h2, h3⟩
  | cons k r ih => intro a h1 h2 h3; exact ih _ (by simp only [calcStep]; omega) (by simp only [calcStep]; omega) (by simp only [calcStep]; omega)
theorem calcS_bounds (root : Nat → Nat) (M : List (Nat × Nat)) (ks : List Nat) : 1 ≤ (calcS root M ks).1 ∧ (calcS root M ks).1 ≤ 201 ∧ (calcS root M ks).2 ≤ 21 := calc_bounds root M ks (1, 1) (by decide) (by decide) (by decide)
theorem calc_same {root : Nat → Nat} {M M' : List (Nat × Nat)} : ∀ (ks : List Nat) (a : Nat × Nat), (∀ k ∈ ks, mget M' (root k) = mget M (root k)) → ks.foldl (calcStep root M') a = ks.foldl (calcStep root M) a := by
  intro ks
  induction ks with
  | nil => intro a _; rfl
  | cons k r ih =>
    intro a h
    have e : calcStep root M' a k = calcStep root M a k := by unfold calcStep; rw [h k (by simp)]
    simp only [List.foldl_cons, e]
    exact ih _ fun x hx => h x (by simp [hx])
section
variable {G : List Nd} {root : Nat → Nat} {M : List (Nat × Nat)} {done : List Nat} {left : Nat}
theorem MInv.pos (h : MInv G root M done left) {c : Nat} : 0 < (mget M c).1 ↔ c ∈ done := by
  constructor
  · intro hp
    apply Classical.byContradiction
    intro hc
    rw [h.zero c hc] at hp
    exact absurd hp (by decide)
  · intro hc
    have := (calcS_bounds root M (kd G root c)).1
    rw [← (h.ok c hc).1] at this
    omega
theorem MInv.small (h : MInv G root M done left) (c : Nat) : (mget M c).1 ≤ 201 ∧ (mget M c).2 ≤ 21 := by
  by_cases hc : c ∈ done
  · rw [(h.ok c hc).1]
    exact (calcS_bounds root M _).2
  · rw [h.zero c hc]
    decide
theorem MInv.start (G : List Nd) (root : Nat → Nat) : MInv G root (List.replicate G.length (0, 0)) [] (rootsL G root).length := by
  refine ⟨by simp, List.nodup_nil, fun c h => (by cases h), fun c _ => ?_, fun c h => (by cases h), by simp⟩
  unfold mget
  simp only [List.getD, List.getElem?_replicate]
  split <;> rfl
theorem idx_app {l : List Nat} {x c : Nat} (h : x ∈ l) : (l ++ [c]).idxOf x = l.idxOf x := by rw [List.idxOf_append, if_pos h]
theorem MInv.next (h : MInv G root M done left) {c : Nat} (hc : c < G.length) (rc : root c = c) (hn : c ∉ done) (hk : ∀ k ∈ kd G root c, root k ∈ done) : MInv G root (M.set c (calcS root M (kd G root c))) (done ++ [c]) (left - 1) ∧ 0 < left := by
  have hlt : done.length < (rootsL G root).length := by
    have h1 : (done ++ [c]).Nodup := by
      rw [List.nodup_append]
      refine ⟨h.nod, by simp, fun a ha b hb => ?_⟩
      rw [List.mem_singleton.1 hb]
      exact fun e => hn (e ▸ ha)
    have h2 := nodup_sub (done ++ [c]) (rootsL G root) h1 (fun x hx => by
      unfold rootsL
      rw [List.mem_filter]
      rcases List.mem_append.1 hx with hx | hx
      · exact ⟨by simpa using (h.rt x hx).1, by simpa using (h.rt x hx).2⟩
      · rw [List.mem_singleton.1 hx]
        exact ⟨by simpa using hc, by simpa using rc⟩)
    rw [List.length_append] at h2
    exact h2
  have hcM : c < M.length := by rw [h.len]; exact hc
  have hsame : ∀ ks : List Nat, (∀ k ∈ ks, root k ∈ done) → calcS root (M.set c (calcS root M (kd G root c))) ks = calcS root M ks := fun ks hks => calc_same ks _ fun k hk' => by
    rw [mget_set hcM, if_neg (show ¬ root k = c from fun e => hn (e ▸ hks k hk'))]
  refine ⟨⟨by rw [List.length_set]; exact h.len, ?_, fun x hx => ?_, fun x hx => ?_, fun x hx => ?_, ?_⟩, by have := h.left; omega⟩
  · rw [List.nodup_append]
    refine ⟨h.nod, by simp, fun a ha b hb => ?_⟩
    rw [List.mem_singleton.1 hb]
    exact fun e => hn (e ▸ ha)
  · rcases List.mem_append.1 hx with hx | hx
    · exact h.rt x hx
    · rw [List.mem_singleton.1 hx]; exact ⟨hc, rc⟩
  · rw [mget_set hcM, if_neg (show ¬ x = c from fun e => hx (by simp [e]))]
    exact h.zero x fun hd => hx (List.mem_append.2 (.inl hd))
  · rcases List.mem_append.1 hx with hx | hx
    · have h1 := h.ok x hx
      rw [mget_set hcM, if_neg (show ¬ x = c from fun e => hn (e ▸ hx)), hsame _ fun k hk' => (h1.2 k hk').1]
      refine ⟨h1.1, fun k hk' => ⟨List.mem_append.2 (.inl (h1.2 k hk').1), ?_⟩⟩
      rw [idx_app (h1.2 k hk').1, idx_app hx]
      exact (h1.2 k hk').2
    · have e := List.mem_singleton.1 hx
      subst e
      rw [mget_set hcM, if_pos rfl, hsame _ hk]
      refine ⟨rfl, fun k hk' => ⟨List.mem_append.2 (.inl (hk k hk')), ?_⟩⟩
      rw [idx_app (hk k hk'), List.idxOf_append, if_neg hn]
      have := List.idxOf_lt_length_of_mem (hk k hk')
      omega
  · have := h.left
    rw [List.length_append]
    simp only [List.length_cons, List.length_nil]
    omega
theorem MInv.all (h : MInv G root M done 0) (rl : Roots G root) : ∀ i, i < G.length → root i ∈ done := fun i hi => by
  apply Classical.byContradiction
  intro hn
  have h1 : (root i :: done).Nodup := List.nodup_cons.2 ⟨hn, h.nod⟩
  have h2 := nodup_sub (root i :: done) (rootsL G root) h1 (fun x hx => by
    unfold rootsL
    rw [List.mem_filter]
    rcases List.mem_cons.1 hx with rfl | hx
    · exact ⟨by simpa using (rl i hi).1, by simpa using (rl i hi).2⟩
    · exact ⟨by simpa using (h.rt x hx).1, by simpa using (h.rt x hx).2⟩)
  have := h.left
  simp only [List.length_cons] at h2
  omega
theorem MInv.ranked (h : MInv G root M done 0) (rl : Roots G root) (hok : Ok G) : Ranked G (topF G root) (fun x => done.idxOf (root x)) (G.length + 1) := fun i hi => by
  have ht := topC_spec (G := G) (root := root) hi rfl
  have hd := h.all rl i hi
  have hdl : done.length ≤ G.length := (pigeon G.length done h.nod fun x hx => (h.rt x hx).1).1
  refine ⟨?_, fun c hc => ?_⟩
  · show done.idxOf (root (topC G root (root i))) < _
    rw [ht.2.1]
    have := List.idxOf_lt_length_of_mem hd
    omega
  · have hcl := (hok _ ht.1).mem hc
    have ht2 := topC_spec (G := G) (root := root) hcl rfl
    show done.idxOf (root (topC G root (root c))) < done.idxOf (root (topC G root (root i)))
    rw [ht.2.1, ht2.2.1]
    exact ((h.ok _ hd).2 c hc).2
theorem calc_sizes {sz : Nat → Tm} : ∀ (ks : List Nat) (a b : Nat), (∀ k ∈ ks, mget M (root k) = (min (sz k).size 201, min (sz k).depth 21)) → ks.foldl (calcStep root M) (min a 201, min b 21) = (min (a + sizeL (ks.map sz)) 201, min (if ks = [] then b else max b (depthL (ks.map sz) + 1)) 21) := by
  intro ks
  induction ks with
  | nil => intro a b _; simp [sizeL]
  | cons k r ih =>
    intro a b h
    have hk := h k (by simp)
    have e : calcStep root M (min a 201, min b 21) k = (min (a + (sz k).size) 201, min (max b ((sz k).depth + 1)) 21) := by
      unfold calcStep
      rw [hk]
      simp only [Prod.mk.injEq]
      omega
    rw [List.foldl_cons, e, ih _ _ fun x hx => h x (by simp [hx])]
    simp only [List.map_cons, sizeL, depthL, Prod.mk.injEq, List.cons_ne_nil, if_false]
    refine ⟨by omega, ?_⟩
    split
    · rename_i e2; subst e2; simp [depthL]
    · omega
theorem MInv.sizes {E : List (Nat × Nat)} (h : MInv G root M done 0) (rl : Roots G root) (hc : Closed G E (topF G root)) : ∀ i, i < G.length → mget M (root i) = (min (sol G (topF G root) (G.length + 1) i).size 201, min (sol G (topF G root) (G.length + 1) i).depth 21) := by
  have hr := h.ranked rl hc.ok
  refine sol_induct hc hr fun i hi ih => ?_
  have hs := sol_size hc hr i hi
  rw [(h.ok _ (h.all rl i hi)).1, hs.1, hs.2]
  have := calc_sizes (root := root) (M := M) (sz := sol G (topF G root) (G.length + 1)) (kd G root (root i)) 1 1 ih
  unfold calcS
  rw [show ((1, 1) : Nat × Nat) = (min 1 201, min 1 21) by decide, this]
  show _ = (min (1 + sizeL ((kd G root (root i)).map (sol G (topF G root) (G.length + 1)))) 201, min (depthL ((kd G root (root i)).map (sol G (topF G root) (G.length + 1))) + 1) 21)
  by_cases e : kd G root (root i) = []
  · rw [e]; rfl
  · rw [if_neg e]
    simp only [Prod.mk.injEq, true_and]
    omega
theorem MInv.circle {E : List (Nat × Nat)} (h : MInv G root M done left) (hp : 0 < left) (hm : Mid G root [] E) (rl : Roots G root) (hok : Ok G) (hs : ∀ i, i < G.length → root i ∈ done ∨ ∃ k ∈ kd G root (root i), root k ∉ done) : ∀ f, ¬ ∀ p ∈ E, ndv f G p.1 = ndv f G p.2 := by
  intro f hf
  have hsd := (hm.sound f hf).1
  have hne : (rootsL G root).filter (fun u => decide (u ∉ done)) ≠ [] := by
    intro e
    have h1 : ∀ x ∈ rootsL G root, x ∈ done := fun x hx => by
      apply Classical.byContradiction
      intro hn
      have : x ∈ (rootsL G root).filter (fun u => decide (u ∉ done)) := List.mem_filter.2 ⟨hx, by simpa using hn⟩
      rw [e] at this
      cases this
    have h2 := nodup_sub (rootsL G root) done (List.Pairwise.filter _ List.nodup_range) h1
    have := h.left
    omega
  refine no_infinite (fun u => (ndv f G u).nodes) hne fun u hu => ?_
  obtain ⟨hu1, hu2⟩ := List.mem_filter.1 hu
  unfold rootsL at hu1
  obtain ⟨hu3, hu4⟩ := List.mem_filter.1 hu1
  simp only [List.mem_range, decide_eq_true_eq] at hu2 hu3 hu4
  rcases hs u hu3 with h1 | ⟨k, hk, hkn⟩
  · rw [hu4] at h1; exact absurd h1 hu2
  · rw [hu4] at hk
    have ht := topC_spec (G := G) (root := root) hu3 hu4
    have hkl := (hok _ ht.1).mem hk
    have hkk : (nd G (topC G root u)).tm.kind ≠ 1 := fun e => by
      unfold kd at hk
      rw [(hok _ ht.1).var e] at hk
      cases hk
    refine ⟨root k, List.mem_filter.2 ⟨List.mem_filter.2 ⟨by simpa using (rl k hkl).1, by simpa using (rl k hkl).2⟩, by simpa using hkn⟩, ?_⟩
    show (ndv f G (root k)).nodes < (ndv f G u).nodes
    rw [hsd (root k) k (rl k hkl).1 hkl (rl k hkl).2, hsd u (topC G root u) hu3 ht.1 (hu4.trans ht.2.1.symm)]
    exact ndv_lt (hok _ ht.1) hkk hk
end
end Go.Proofs.YtgpglgehlnfggaaGreat
