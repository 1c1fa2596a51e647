/-
  AkSort.
  SuSortK.
  SuIns.
  SuMergeL.
  SuMergeM.
-/
import Derived.Test.YtgpglgehlnfggaaGreatMe7
import Derived.Test.YtgpglgehlnfggaaGreatMe4
import Derived.Test.YtgpglgehlnfggaaGreatMe5
import Derived.BigQuiet
import Derived.Deep.QuietTactic
import Derived.BigRegion
import Derived.Shelf.Abstract
import Derived.Deep.RegionHeld3
import Derived.Test.YtgpglgehlnfggaaGreatMe6
import Derived.Test.YtgpglgehlnfggaaGreatShelfI
import Derived.Test.YtgpglgehlnfggaaGreatMe8
import Derived.Test.YtgpglgehlnfggaaGreatMe9
namespace Go.Proofs.YtgpglgehlnfggaaGreat
open Go.RowKit Go.Sort Go.Shelf Go.Lib
set_option maxHeartbeats 2000000 in
theorem cmp_goals_at (x y : Gl) (w : World) (hx : x.At w) (hy : y.At w) :
    Calls Tryz.prog 43 #[x.val, y.val] w fun e w' => e = .returned (.int .i64 (cmpG x y)) ∧ Below w.heap.size w w' := by
  have HV := Lib.hid (show cmpG x y = lex (ints x.op y.op) (lex (texts x.name.data.toList y.name.data.toList) (cmpL x.args y.args)) from rfl)
  have Q3 := Lib.hid (fun W (h : Below w.heap.size w W) => cmp_lists_at x.args y.args (fun t _ => compare_at t) x.at_ y.at_ x.cap y.cap W (hx.2.2.below h) (hy.2.2.below h))
  generalize cmpG x y = v at *
  obtain ⟨o, s, A, c, a⟩ := x
  obtain ⟨o', s', A', c', a'⟩ := y
  simp only at HV Q3
  generalize cmpL a a' = z3 at *
  obtain ⟨z1, h1⟩ : ∃ z, ints o o' = z := ⟨_, rfl⟩
  obtain ⟨z2, h2⟩ : ∃ z, texts s.data.toList s'.data.toList = z := ⟨_, rfl⟩
  have Q1 := Lib.hid (fun W => cmp_int_at o o' W h1)
  have Q2 := Lib.hid (fun W => str_cmp_at s s' W h2)
  rw [h1, h2] at HV
  clear h1 h2 hx hy
  show Calls Tryz.prog 43 #[.agg #[.int .i64 o, .string s, .slice A a.length c], .agg #[.int .i64 o', .string s', .slice A' a'.length c']] w _
  go_enter Tryz.func43, Tryz.ntmps43
  go_wp2_with fail
  refine (Q1.out _).mono ?_
  rintro e w1 ⟨rfl, rfl⟩
  by_cases n1 : z1 = 0
  · subst n1
    go_wp2_with fail
    refine (Q2.out _).mono ?_
    rintro e w1 ⟨rfl, rfl⟩
    by_cases n2 : z2 = 0
    · subst n2
      have HE := Lib.hid (show v = z3 by rw [HV.out]; simp [lex])
      go_wp2_with fail
      refine (Q3.out _ (below2 _ _ _)).mono ?_
      rintro e w1 ⟨rfl, hb⟩
      go_wp2_with fail
      go_ret
      exact ⟨by rw [HE.out]; try rfl, (below2 _ _ _).trans (hb.mono (by simp; omega))⟩
    · have e2 : (z2 != 0) = true := by simpa using n2
      have HE := Lib.hid (show v = z2 by rw [HV.out]; simp [lex, n2])
      clear n2
      go_wp2_with fail
      go_ret
      exact ⟨by rw [HE.out]; try rfl, below2 _ _ _⟩
  · have e1 : (z1 != 0) = true := by simpa using n1
    have HE := Lib.hid (show v = z1 by rw [HV.out]; simp [lex, n1])
    clear n1
    go_wp2_with fail
    go_ret
    exact ⟨by rw [HE.out]; try rfl, below2 _ _ _⟩
def put3 (w : World) (g i : Nat) (x : Gl) : World :=
  ((w.setCell ⟨g, i * 3, none⟩ (.int .i64 x.op)).setCell ⟨g, i * 3 + 1, none⟩ (.string x.name)).setCell ⟨g, i * 3 + 2, none⟩ (.slice x.at_ x.args.length x.cap)
section
variable {w w' : World} {g i : Nat} {x : Gl} {l : List Gl}
theorem put3_eq : put3 w g i x = w.setCells g (i * 3) x.cells := rfl
theorem put3_size : (put3 w g i x).heap.size = w.heap.size := by simp [put3, World.setCell]
theorem put3_frozen (p : Addr) : (put3 w g i x).frozen? p = w.frozen? p := by simp only [put3, World.frozen?_setCell]
theorem put3_keeps (K : World) (h : Keeps g K w) : Keeps g K (put3 w g i x) := ((h.set _ _ _).set _ _ _).set _ _ _
theorem GlOwn.put (h : GlOwn w g l) (hi : i < l.length) (x : Gl) : GlOwn (put3 w g i x) g (l.set i x) := by
  refine ⟨by rw [put3_size]; exact h.1, fun j => by rw [put3_frozen]; exact h.2.1 j, fun i' j u hi' hu => ?_⟩
  have hj := Gl.cells_lt hu
  rw [List.length_set] at hi'
  rw [put3_eq]
  by_cases e : i' = i
  · subst e
    have hg : (l.set i' x).getD i' default = x := by simp [List.getD, hi]
    rw [hg] at hu
    have h1 : ∀ k, k < x.cells.length → (w.cell? ⟨g, i' * 3 + k, none⟩).isSome = true := fun k hk => by
      rw [Gl.cells_len] at hk
      have hk2 : k < (l.getD i' default).cells.length := by rw [Gl.cells_len]; exact hk
      rw [h.2.2 i' k _ hi (List.getElem?_eq_getElem hk2)]
      rfl
    obtain ⟨hj2, e2⟩ := List.getElem?_eq_some_iff.1 hu
    rw [World.cell?_setCells_in g x.cells (i' * 3) w h1 j hj2, e2]
  · have hg : (l.set i x).getD i' default = l.getD i' default := by simp [List.getD, Ne.symm e]
    rw [hg] at hu
    rw [World.cell?_setCells_out g x.cells (i * 3) w _ (fun _ _ => by rw [Gl.cells_len]; show i' * 3 + j < i * 3 ∨ i * 3 + 3 ≤ i' * 3 + j; omega)]
    exact h.2.2 i' j u hi' hu
theorem GlOwn.drew (h : GlOwn w g l) : GlOwn w.drew g l := ⟨h.1, h.2.1, h.2.2⟩
theorem GlOwn.get (h : GlOwn w g l) (hi : i < l.length) : w.cell? ⟨g, i * 3, none⟩ = some (.int .i64 (l.getD i default).op) ∧ w.cell? ⟨g, i * 3 + 1, none⟩ = some (.string (l.getD i default).name) ∧ w.cell? ⟨g, i * 3 + 2, none⟩ = some (.slice (l.getD i default).at_ (l.getD i default).args.length (l.getD i default).cap) :=
  ⟨h.2.2 i 0 _ hi rfl, h.2.2 i 1 _ hi rfl, h.2.2 i 2 _ hi rfl⟩
theorem GlOwn.swap {j : Nat} (h : GlOwn w g l) (hi : i < l.length) (hj : j < l.length) : GlOwn (put3 (put3 w g i (l.getD j default)) g j (l.getD i default)) g (swpG l i j) :=
  (h.put hi _).put (by simpa using hj) _
end
theorem GlOwn.facts {w : World} {g i j : Nat} {l : List Gl} {x y : Gl} (h : GlOwn w g l) (hi : i < l.length) (hj : j < l.length) (hne : i ≠ j) (hx : l.getD i default = x) (hy : l.getD j default = y) :
    (w.cell? ⟨g, i * 3, none⟩ = some (.int .i64 x.op) ∧ w.cell? ⟨g, i * 3 + 1, none⟩ = some (.string x.name) ∧ w.cell? ⟨g, i * 3 + 2, none⟩ = some (.slice x.at_ x.args.length x.cap)) ∧
    (w.cell? ⟨g, j * 3, none⟩ = some (.int .i64 y.op) ∧ w.cell? ⟨g, j * 3 + 1, none⟩ = some (.string y.name) ∧ w.cell? ⟨g, j * 3 + 2, none⟩ = some (.slice y.at_ y.args.length y.cap)) ∧
    ((put3 w g i y).cell? ⟨g, j * 3, none⟩ = some (.int .i64 y.op) ∧ (put3 w g i y).cell? ⟨g, j * 3 + 1, none⟩ = some (.string y.name) ∧ (put3 w g i y).cell? ⟨g, j * 3 + 2, none⟩ = some (.slice y.at_ y.args.length y.cap)) ∧
    (∀ k, w.frozen? ⟨g, k, none⟩ = false) ∧ GlOwn (put3 (put3 w g i y) g j x).drew g (swpG l i j) := by
  have h1 := h.get hi
  have h2 := h.get hj
  have h3 := (h.put hi (l.getD j default)).get (i := j) (by simpa using hj)
  have e : (l.set i (l.getD j default)).getD j default = l.getD j default := by simp [List.getD, hne]
  have h4 := (h.swap hi hj).drew
  rw [e] at h3
  rw [hy] at h2 h3 h4
  rw [hx] at h1 h4
  exact ⟨h1, h2, h3, h.2.1, h4⟩
def GlDeep (lo : Nat) (w : World) (l : List Gl) : Prop := ∀ x ∈ l, ∀ W, Below lo w W → x.At W
theorem GlDeep.perm {lo : Nat} {w : World} {l m : List Gl} (h : GlDeep lo w l) (hp : m.Perm l) : GlDeep lo w m := fun x hx => h x (hp.mem_iff.1 hx)
theorem keeps_below {g lo : Nat} {w w' : World} (h : Keeps g w w') (hl : lo ≤ g) (hs : lo ≤ w.heap.size) : Below lo w w' :=
  ⟨h.os, h.tape, h.output, h.size, fun k hk => h.block k (by omega) (by omega)⟩
abbrev CMPG : Value := .func (.func 43) #[] #[]
def SortedG (l : List Gl) (g : Nat) (w : World) (e : Ending) (w' : World) : Prop :=
  e = .returned (.tuple #[]) ∧ ∃ l', l'.Perm l ∧ SrtG l' ∧ GlOwn w' g l' ∧ Keeps g w w'
set_option maxHeartbeats 4000000 in
set_option maxRecDepth 100000 in
theorem insertion_g_at (l : List Gl) (g c lo n : Nat) (w : World) (hn : n = l.length) (hn6 : n ≤ 1000000) (h : GlOwn w g l) (hlo : lo ≤ g) (hD : GlDeep lo w l) :
    Calls Tryz.prog 109 #[.slice (some ⟨g, 0, none⟩) n c, .int .i64 0, .int .i64 n, CMPG] w (SortedG l g w) := by
  have HN := Lib.hid hn
  have HR := Lib.hid h
  have HD := Lib.hid hD
  have HS := Lib.hid (show lo ≤ w.heap.size from Nat.le_trans hlo (Nat.le_of_lt h.1))
  have QC := Lib.hid (fun x y W (hx : x.At W) (hy : y.At W) => cmp_goals_at x y W hx hy)
  clear h hn hD
  go_enter Tryz.func109, Tryz.ntmps109
  go_wp2_with fail
  go_loopw [8] (fun z8 wr => ∃ (i : Nat) (l' : List Gl), z8 = .int .i64 i ∧ 1 ≤ i ∧ Hid (l'.Perm l ∧ UpG l' i ∧ GlOwn wr g l' ∧ Keeps g w wr)) (fun z8 _ => n - (intOf z8).toNat)
  case atStart => exact ⟨1, l, rfl, Nat.le_refl _, Lib.hid ⟨List.Perm.refl _, fun p q h1 h2 => by omega, HR.out, Keeps.refl _ _⟩⟩
  case round =>
    clear HR
    obtain ⟨i, l', rfl, hi1, HI⟩ := hrel
    by_cases hlt : i < n
    · rename World => wb
      go_wp2_with fail
      go_loopw [9] (fun z9 wr => ∃ (j : Nat) (m : List Gl), z9 = .int .i64 j ∧ j ≤ i ∧ Hid (m.Perm l ∧ ButG m i j ∧ GlOwn wr g m ∧ Keeps g w wr)) (fun z9 _ => (intOf z9).toNat)
      case atStart => exact ⟨i, l', rfl, Nat.le_refl _, Lib.hid ⟨HI.out.1, HI.out.2.1.start, HI.out.2.2⟩⟩
      case round =>
        obtain ⟨j, m, rfl, hji, HM⟩ := hrel
        have hml := HM.out.1.length_eq
        by_cases h0 : 0 < j
        · obtain ⟨q, hq⟩ : ∃ q, j = q + 1 := ⟨j - 1, by omega⟩
          have hq1 : (j : Int) - 1 = (q : Int) := by omega
          have hjn : j < n := by omega
          have hqn : q < n := by omega
          have hjq : j ≠ q := by omega
          have HL := Lib.hid (show m.length = n by rw [hml, HN.out])
          have HR := Lib.hid HM.out.2.2.1
          have HK := Lib.hid HM.out.2.2.2
          have hB := keeps_below HK.out hlo HS.out
          have HSz := Lib.hid (Nat.le_trans HS.out hB.size)
          have hDm := HD.out.perm HM.out.1
          have HX := Lib.hid (hDm _ (gl_getD_mem (l := m) (k := j) (by rw [HL.out]; exact hjn)))
          have HY := Lib.hid (hDm _ (gl_getD_mem (l := m) (k := q) (by rw [HL.out]; exact hqn)))
          have Q := Lib.hid (fun W (hW : Below lo w W) => QC.out (m.getD j default) (m.getD q default) W (HX.out W hW) (HY.out W hW))
          obtain ⟨c0, c1, c2⟩ := HR.out.get (i := j) (by rw [HL.out]; exact hjn)
          obtain ⟨d0, d1, d2⟩ := HR.out.get (i := q) (by rw [HL.out]; exact hqn)
          have HSt := Lib.hid (fun (h : cmpG (m.getD q default) (m.getD j default) ≤ 0) => HM.out.2.1.stop (.inr ⟨q, hq, h⟩))
          have HF := Lib.hid (cmpG_flip (m.getD q default) (m.getD j default))
          have HP := Lib.hid (HR.out.put (i := j) (by rw [HL.out]; exact hjn) (m.getD q default))
          have HNx := Lib.hid (fun (h : cmpG (m.getD j default) (m.getD q default) < 0) => (by subst hq; exact HM.out.2.1.next (by rw [HL.out]; exact hlt) hji h : ButG (swpG m j q) i q))
          have HPe := Lib.hid (show (swpG m j q).Perm l by subst hq; exact (swpG_perm (by rw [HL.out]; omega)).trans HM.out.1)
          clear hml hq
          generalize hz : cmpG (m.getD j default) (m.getD q default) = z at *
          clear hz
          have eg : ∀ args W, (callFunc 43 args).run Tryz.prog W = .ok (.enter 43 args) W := enters_of Tryz.func43 (by kernel_rfl) rfl
          obtain ⟨x, hx⟩ : ∃ x, m.getD j default = x := ⟨_, rfl⟩
          obtain ⟨y, hy⟩ : ∃ y, m.getD q default = y := ⟨_, rfl⟩
          have HFa := Lib.hid (fun (W : World) (h : RowKit.Below wr.heap.size wr W) => GlOwn.facts (HR.out.below h) (by rw [HL.out]; exact hjn) (by rw [HL.out]; exact hqn) hjq hx hy)
          rw [hx, hy] at Q HSt HF
          rw [hx] at c0 c1 c2
          rw [hy] at d0 d1 d2
          have QQ := Lib.hid (fun d os => Q.out (grow (redrawn wr d) os) (hB.trans ((below_regrown wr d os).mono HSz.out)))
          clear hx hy HX HY hDm hB
          have k0 := cell_regrown c0
          have k1 := cell_regrown c1
          have k2 := cell_regrown c2
          have k3 := cell_regrown d0
          have k4 := cell_regrown d1
          have k5 := cell_regrown d2
          obtain ⟨o1, s1, A1, p1, a1⟩ := x
          obtain ⟨o2, s2, A2, p2, a2⟩ := y
          simp only at k0 k1 k2 k3 k4 k5
          clear c0 c1 c2 d0 d1 d2
          go_wp2_with fail
          refine wp_region_quiet_below (by kernel_rfl) (by kernel_rfl) ?_
          repeat (go_big_quiet_step (first | (go_at_fn 43; exact Calls.regrown_of (QQ.out _ _)) | fail))
          refine wpQuiet_nil ?_
          intro w1 hw'
          have hb1 := regrown_below hw'
          obtain ⟨⟨c0, c1, c2⟩, ⟨d0, d1, d2⟩, ⟨e0, e1, e2⟩, hf, hfin⟩ := HFa.out w1 hb1
          have HFin := Lib.hid hfin
          have HR1 := Lib.hid (HR.out.below hb1)
          have HK1 := Lib.hid (HK.out.trans (Below.keeps hb1 g))
          clear hw' hb1 k0 k1 k2 k3 k4 k5 hfin QQ
          by_cases hz : z < 0
          · have HBN := Lib.hid (HNx.out hz)
            have HKin := Lib.hid ((put3_keeps (i := q) (x := ⟨o1, s1, A1, p1, a1⟩) w (put3_keeps (i := j) (x := ⟨o2, s2, A2, p2, a2⟩) w HK1.out)).drew)
            have fp0 := hf (j * 3)
            have fp1 := hf (j * 3 + 1)
            have fp2 := hf (j * 3 + 2)
            have fq0 := hf (q * 3)
            have fq1 := hf (q * 3 + 1)
            have fq2 := hf (q * 3 + 2)
            simp only [put3] at c0 c1 c2 d0 d1 d2 e0 e1 e2 HFin HKin
            clear hf HFa HNx HSt HF HR HK HR1 HK1 hjq
            go_wp2_with fail
            go_region
            all_goals go_wp2
            go_roundw
            case rel => exact ⟨q, swpG m j q, by first | rfl | go_num, by omega, Lib.hid ⟨HPe.out, HBN.out, HFin.out, HKin.out⟩⟩
            case measure => simp [intOf]; omega
          · have HE := Lib.hid (HSt.out (by have := HF.out; omega))
            have HPm := Lib.hid HM.out.1
            clear hf c0 c1 c2 d0 d1 d2 e0 e1 e2 HFin HFa HNx HSt HF HR HK HM
            go_wp2_with fail
            go_roundw
            case rel => exact ⟨i + 1, m, by go_num, by omega, Lib.hid ⟨HPm.out, HE.out, HR1.out, HK1.out⟩⟩
            case measure => simp [intOf]; omega
        · obtain rfl : j = 0 := by omega
          have HE := Lib.hid (show m.Perm l ∧ UpG m (i + 1) ∧ GlOwn wr.drew g m ∧ Keeps g w wr.drew from ⟨HM.out.1, HM.out.2.1.stop (.inl rfl), HM.out.2.2.1.drew, HM.out.2.2.2.drew⟩)
          clear HM hml h0 hji
          go_wp2_with fail
          go_region
          all_goals go_wp2_with fail
          go_roundw
          case rel => exact ⟨i + 1, m, by go_num, by omega, HE⟩
          case measure => simp [intOf]; omega
    · have HE := Lib.hid (show SrtG l' ∧ l'.Perm l ∧ GlOwn wr g l' ∧ Keeps g w wr from ⟨fun p q h1 h2 => HI.out.2.1 p q h1 (by have := HI.out.1.length_eq; have := HN.out; omega), HI.out.1, HI.out.2.2⟩)
      clear HI
      go_wp2_with fail
      go_end0
      exact ⟨rfl, l', HE.out.2.1, HE.out.1, HE.out.2.2⟩
theorem insertion_none_g (A : Option Addr) (c : Nat) (w : World) : Calls Tryz.prog 109 #[.slice A 0 c, .int .i64 0, .int .i64 0, CMPG] w fun e w' => e = .returned (.tuple #[]) ∧ w = w' := by
  go_enter Tryz.func109, Tryz.ntmps109
  go_wp2_with fail
  refine wp_loop_rounds 1 ?_
  rw [rounds_succ]
  go_wp2_with fail
  go_end0
  exact ⟨rfl, rfl⟩
set_option maxRecDepth 100000 in
theorem bits_small (n : Nat) (hn : n ≤ 6) (w : World) : Calls Tryz.prog 75 #[.int .u64 n] w fun e w' => (∃ m, e = .returned (.int .i64 m)) ∧ w = w' := by
  have hc : n = 0 ∨ n = 1 ∨ n = 2 ∨ n = 3 ∨ n = 4 ∨ n = 5 ∨ n = 6 := by omega
  have h64 : ∀ k : Nat, k ≤ 6 → ∀ W, Calls Tryz.prog 118 #[.int .u64 k] W fun e w' => (∃ m, e = .returned (.int .i64 m)) ∧ W = w' := by
    intro k hk W
    have hc : k = 0 ∨ k = 1 ∨ k = 2 ∨ k = 3 ∨ k = 4 ∨ k = 5 ∨ k = 6 := by omega
    rcases hc with rfl | rfl | rfl | rfl | rfl | rfl | rfl
    all_goals
      go_enter Tryz.func118, Tryz.ntmps118
      go_wp2_with fail
      go_ret
      exact ⟨⟨_, rfl⟩, rfl⟩
  have Q := Lib.hid (h64 n hn w)
  clear h64 hc hn
  go_enter Tryz.func75, Tryz.ntmps75
  go_wp2_with fail
  refine (Q.out).mono ?_
  rintro e w' ⟨⟨m, rfl⟩, rfl⟩
  go_wp2_with fail
  go_ret
  exact ⟨⟨_, rfl⟩, rfl⟩
set_option maxHeartbeats 1000000 in
theorem pdq_g_at (A : Option Addr) (c n : Nat) (hn : n ≤ 6) (k : Int) (w : World) {R : Ending → World → Prop} (hR : ∀ e w', R e w' → e = .returned (.tuple #[]))
    (h : Calls Tryz.prog 109 #[.slice A n c, .int .i64 0, .int .i64 n, CMPG] w R) :
    Calls Tryz.prog 74 #[.slice A n c, .int .i64 0, .int .i64 n, .int .i64 k, CMPG] w R := by
  have Q := Lib.hid h
  have hle : n ≤ 12 := by omega
  clear h
  go_enter Tryz.func74, Tryz.ntmps74
  go_wp2_with fail
  refine wp_loop_rounds 1 ?_
  rw [rounds_succ]
  go_wp2_with fail
  refine (Q.out).mono ?_
  intro e w' hr
  have HR := Lib.hid hr
  obtain rfl := hR e w' hr
  clear hr
  go_wp2_with fail
  exact bodyPost_ret (v := .tuple #[]) (by simp [results, Tryz.results74, go_sem]) rfl HR.out
theorem sort_g_of (A : Option Addr) (c n : Nat) (hn : n ≤ 6) (w : World) {R : Ending → World → Prop} (hR : ∀ e w', R e w' → e = .returned (.tuple #[]))
    (h : Calls Tryz.prog 109 #[.slice A n c, .int .i64 0, .int .i64 n, CMPG] w R) :
    Calls Tryz.prog 42 #[.slice A n c, CMPG] w R := by
  have Q := Lib.hid (fun k => pdq_g_at A c n hn k w hR h)
  have QB := Lib.hid (bits_small n hn w)
  have wr : IntKind.u64.wrap (n : Int) = n := by simp [IntKind.wrap, IntKind.bits, IntKind.signed]; omega
  clear h
  go_enter Tryz.func42, Tryz.ntmps42
  go_wp2_with fail
  refine (QB.out).mono ?_
  rintro e w' ⟨⟨m, rfl⟩, rfl⟩
  go_wp2_with fail
  refine (Q.out _).mono ?_
  intro e w' hr
  have HR := Lib.hid hr
  obtain rfl := hR e w' hr
  clear hr
  go_wp2_with fail
  go_end0
  exact HR.out
theorem sort_g_at (l : List Gl) (g c lo : Nat) (w : World) (hn : l.length ≤ 6) (h : GlOwn w g l) (hlo : lo ≤ g) (hD : GlDeep lo w l) :
    Calls Tryz.prog 42 #[.slice (some ⟨g, 0, none⟩) l.length c, CMPG] w (SortedG l g w) :=
  sort_g_of _ c l.length hn w (fun _ _ h => h.1) (insertion_g_at l g c lo l.length w rfl (by omega) h hlo hD)
theorem sort_none_g (A : Option Addr) (c : Nat) (w : World) : Calls Tryz.prog 42 #[.slice A 0 c, CMPG] w fun e w' => e = .returned (.tuple #[]) ∧ w = w' :=
  sort_g_of A c 0 (by omega) w (fun _ _ h => h.1) (insertion_none_g A c w)
end Go.Proofs.YtgpglgehlnfggaaGreat
namespace Go.Proofs.YtgpglgehlnfggaaGreat
open Go.RowKit Go.Lib Go.Shelf
theorem arr_getD (l : List Bd) (i : Nat) : l.toArray[i]! = l.getD i default := by
  simp only [List.getD, getElem!_def, List.getElem?_toArray]
  cases l[i]? <;> rfl
theorem list_getD (d : Array Bd) (i : Nat) : d.toList.getD i default = d[i]! := by rw [← arr_getD, Array.toArray_toList]
theorem Row5.holdsK {w : World} {g : Nat} {l : List Bd} (h : Row5 w g l) : Go.Sort.HoldsK Bd.cells 5 w g 0 l.toArray := by
  intro t ht
  have ht' : t < l.length * 5 := by simpa using ht
  rw [Go.Sort.get_flatK _ _ _ _ (by simpa using ht'), arr_getD]
  refine ⟨?_, h.2.1 _⟩
  have h5 : t % 5 < (l.getD (t / 5) default).cells.length := by rw [bcells_length]; omega
  have := h.2.2 (t / 5) (t % 5) _ (by omega) (List.getElem?_eq_getElem h5)
  rw [show t / 5 * 5 + t % 5 = t by omega] at this
  rw [Nat.zero_add, this]
  show _ = some ((l.getD (t / 5) default).cells[t % 5]!)
  rw [getElem!_pos (l.getD (t / 5) default).cells (t % 5) h5]
theorem Row5.of_holdsK {w : World} {g : Nat} {d : Array Bd} (hg : g < w.heap.size) (hf : ∀ j, w.frozen? ⟨g, j, none⟩ = false) (h : Go.Sort.HoldsK Bd.cells 5 w g 0 d) : Row5 w g d.toList := by
  refine ⟨hg, hf, fun i j u hi hu => ?_⟩
  have hj := bcells_lt hu
  have := (Go.Sort.HoldsK.cell h (i := i) (c := j) (by simpa using hi) hj).1
  rw [Nat.zero_add, ← list_getD] at this
  rw [this, ← hu, getElem!_pos (d.toList.getD i default).cells j (by rw [bcells_length]; exact hj), List.getElem?_eq_getElem]
theorem cmp_lays (blk off size : Nat) (w : World) : CmpLays Tryz.prog 144 #[] Bd.cells 5 (fun x y => ints x.var y.var) blk off size w := fun m os dk _ x y =>
  (compare_vars_at x y _).mono (by
    rintro e w' ⟨rfl, rfl⟩
    exact ⟨rfl, 0, _, by rw [Go.Sort.alloc_eq_grow, Go.Sort.alloc_eq_grow, Go.Sort.grow_grow]; rfl⟩)
theorem lt_vars (x y : Bd) : ltOf (fun x y : Bd => ints x.var y.var) x y = decide (x.var < y.var) := by
  unfold ltOf ints
  by_cases h1 : x.var < y.var
  · simp [h1]
  · by_cases h2 : y.var < x.var <;> simp [h1, h2]
theorem swo_vars : Go.Sort.SWO (ltOf fun x y : Bd => ints x.var y.var) where
  irrefl x := by rw [lt_vars]; simp
  trans x y z h1 h2 := by rw [lt_vars] at *; simp at *; omega
  ntrans x y z h1 h2 := by rw [lt_vars] at *; simp at *; omega
theorem keeps_sort {g : Nat} {w : World} {n : Nat} {d : Array Bd} {os : Array Obj} : Keeps g w (sortWorldK Bd.cells 5 w g 0 n d os) := by
  unfold sortWorldK
  refine ⟨rfl, rfl, rfl, ?_, fun k hk hr => ?_⟩
  · rw [Go.Sort.size_grow, Go.Sort.size_putRowK]; exact Nat.le_add_right _ _
  · rw [Go.Sort.heap_grow_old _ _ (by rw [Go.Sort.size_putRowK]; exact hk)]
    unfold Go.Sort.putRowK Go.Sort.putRow Go.Sort.mapBlock
    rw [Array.getElem?_modify, if_neg (Ne.symm hr)]
    rfl
end Go.Proofs.YtgpglgehlnfggaaGreat
namespace Go.Proofs.YtgpglgehlnfggaaGreat
open Go.RowKit Go.Lib Go.Shelf
abbrev ltV : Bd → Bd → Bool := ltOf fun x y : Bd => ints x.var y.var
theorem ltV_eq (x y : Bd) : ltV x y = decide (x.var < y.var) := lt_vars x y
theorem swp_list (d : Array Bd) (i j : Nat) : (Go.Sort.swp d i j).toList = swpL d.toList i j := by
  unfold Go.Sort.swp swpL
  rw [Array.toList_setIfInBounds, Array.toList_setIfInBounds, list_getD, list_getD]
theorem stab_next {l : List Bd} {j : Nat} (hj : j + 1 < l.length) (h : (l.getD (j + 1) default).var < (l.getD j default).var) : Stab l (swpL l (j + 1) j) := by
  obtain ⟨P, x, y, S, e, hP⟩ : ∃ P x y S, l = P ++ x :: ([] ++ y :: S) ∧ P.length = j := by
    refine ⟨l.take j, l.getD j default, l.getD (j + 1) default, l.drop (j + 1 + 1), ?_, by simp; omega⟩
    conv => lhs; rw [← List.take_append_drop j l, bdrop_next (show j < l.length by omega), bdrop_next hj]
    rfl
  subst e
  rw [swpL_symm _ (by omega), swpL_parts P [] S x y hP.symm (by simp; omega)]
  rw [getD_mid P x _ hP.symm, show P ++ x :: ([] ++ y :: S) = (P ++ [x]) ++ y :: S by simp, getD_mid (P ++ [x]) y S (by simp; omega)] at h
  have h1 : Stab ([x] ++ [y]) ([y] ++ [x]) := stab_swap fun a ha b hb => by
    rw [List.mem_singleton.1 ha, List.mem_singleton.1 hb]; omega
  have := (Stab.refl P).append (h1.append (Stab.refl S))
  simpa using this
theorem ins_inner (a : Nat) : ∀ (j : Nat) (d : Array Bd), j < d.size → Stab d.toList (Go.Sort.insInner ltV a j d).toList ∧ (Go.Sort.insInner ltV a j d).size = d.size
  | 0, d, _ => ⟨by unfold Go.Sort.insInner; exact Stab.refl _, by unfold Go.Sort.insInner; rfl⟩
  | j + 1, d, hj => by
    unfold Go.Sort.insInner
    split
    · rename_i hc
      simp only [Bool.and_eq_true, decide_eq_true_eq] at hc
      have hlt := hc.2
      rw [ltV_eq, decide_eq_true_eq, ← list_getD, ← list_getD] at hlt
      have h1 := stab_next (l := d.toList) (by simpa using hj) hlt
      rw [← swp_list] at h1
      have h2 := ins_inner a j (Go.Sort.swp d (j + 1) j) (by rw [Go.Sort.size_swp]; omega)
      exact ⟨h1.trans h2.1, by rw [h2.2, Go.Sort.size_swp]⟩
    · exact ⟨Stab.refl _, rfl⟩
theorem ins_outer (a b : Nat) : ∀ (n i : Nat) (d : Array Bd), b - i = n → b ≤ d.size → Stab d.toList (Go.Sort.insOuter ltV a b i d).toList := by
  intro n
  induction n with
  | zero =>
    intro i d hn hb
    rw [insOuter_stop _ _ _ _ _ (by omega)]
    exact Stab.refl _
  | succ n ih =>
    intro i d hn hb
    rw [insOuter_go _ _ _ _ _ (by omega)]
    have h := ins_inner a i d (by omega)
    exact h.1.trans (ih (i + 1) _ (by omega) (by rw [h.2]; exact hb))
theorem ext_getD {l m : List Bd} (hl : l.length = m.length) (h : ∀ i, i < l.length → l.getD i default = m.getD i default) : l = m := by
  refine List.ext_getElem hl fun i h1 h2 => ?_
  have := h i h1
  simpa [List.getD, h1, h2] using this
theorem seg_of {P X S l' : List Bd} (hl : l'.length = (P ++ X ++ S).length) (ho : ∀ i, i < P.length ∨ P.length + X.length ≤ i → l'.getD i default = (P ++ X ++ S).getD i default) : ∃ X', l' = P ++ X' ++ S ∧ X'.length = X.length := by
  have hlen : l'.length = P.length + X.length + S.length := by rw [hl]; simp; omega
  refine ⟨(l'.drop P.length).take X.length, ?_, by simp; omega⟩
  have e1 : l'.take P.length = P := ext_getD (by simp; omega) fun i hi => by
    have hi' : i < P.length := by simp at hi; omega
    have := ho i (.inl hi')
    simp only [List.getD, List.getElem?_append_left (show i < (P ++ X).length by simp; omega), List.getElem?_append_left hi'] at this
    simpa [List.getD, List.getElem?_take, hi'] using this
  have e2 : l'.drop (P.length + X.length) = S := ext_getD (by simp; omega) fun i hi => by
    have := ho (P.length + X.length + i) (.inr (by omega))
    rw [List.getD, List.getD, List.getElem?_append_right (by simp)] at this
    rw [List.getD, List.getD, List.getElem?_drop, this]
    simp
  have e3 : l' = l'.take P.length ++ ((l'.drop P.length).take X.length ++ (l'.drop P.length).drop X.length) := by rw [List.take_append_drop, List.take_append_drop]
  rw [List.drop_drop, e1, e2] at e3
  rw [List.append_assoc]
  exact e3
theorem stab_cancel {P X X' S : List Bd} (h : Stab (P ++ X ++ S) (P ++ X' ++ S)) : Stab X X' := by
  refine ⟨?_, fun v => ?_⟩
  · have := h.1
    rwa [List.perm_append_right_iff, List.perm_append_left_iff] at this
  · have := h.2 v
    simpa [List.filter_append] using this
theorem insertion_list {P X S : List Bd} {a b : Nat} (ha : a = P.length) (hb : b = P.length + X.length) : ∃ X', (Go.Sort.insertionSort ltV (P ++ X ++ S).toArray a b).toList = P ++ X' ++ S ∧ Stab X X' ∧ SrtL X' := by
  have hsz : (P ++ X ++ S).toArray.size = P.length + X.length + S.length := by simp; omega
  obtain ⟨⟨h1, h2, _⟩, h4⟩ := Go.Sort.insertionSort_holds swo_vars (P ++ X ++ S).toArray a b (by omega) (by omega)
  have h5 : Stab (P ++ X ++ S) (Go.Sort.insertionSort ltV (P ++ X ++ S).toArray a b).toList := by
    have := ins_outer a b (b - (a + 1)) (a + 1) (P ++ X ++ S).toArray rfl (by omega)
    rwa [List.toList_toArray] at this
  generalize hd : Go.Sort.insertionSort ltV (P ++ X ++ S).toArray a b = d' at *
  obtain ⟨X', e, hX⟩ := seg_of (P := P) (X := X) (S := S) (l' := d'.toList) (by simpa using h1) (fun i hi => by
    rw [list_getD, h2 i (by omega), ← list_getD, List.toList_toArray])
  refine ⟨X', e, stab_cancel (by rw [← e]; exact h5), List.pairwise_iff_getElem.2 fun i j hi hj hij => ?_⟩
  have h6 := h4 (a + i) (a + j) (by omega) (by omega) (by omega)
  have gx : ∀ k (hk : k < X'.length), d'[a + k]! = X'[k] := fun k hk => by
    rw [← list_getD, e, ha, List.getD, List.getElem?_append_left (by simp; omega), List.getElem?_append_right (by omega)]
    simp [hk]
  rw [gx _ hi, gx _ hj, lt_vars, decide_eq_false_iff_not] at h6
  omega
set_option maxHeartbeats 2000000 in
theorem insertion_at (P X S : List Bd) (g c N : Nat) (w : World) (hN : N = P.length + X.length + S.length) (hN6 : N ≤ 1000000) (h : Row5 w g (P ++ X ++ S)) (a b : Nat) (ha : a = P.length) (hb : b = P.length + X.length) :
    Calls Tryz.prog 174 #[.slice (some ⟨g, 0, none⟩) N c, .int .i64 a, .int .i64 b, CMPV] w (Steps (fun l' => ∃ X', l' = P ++ X' ++ S ∧ Stab X X' ∧ SrtL X') g w) := by
  have eg : ∀ args w, (callFunc 144 args).run Tryz.prog w = .ok (.enter 144 args) w := enters_of Tryz.func144 (by kernel_rfl) rfl
  have hsz : (P ++ X ++ S).toArray.size = N := by simp; omega
  have hc := AnyQ.insertionSortCmpFunc (P := Tryz.prog) { Tryz.insB with } 5 Tryz.isAgg47 Tryz.sizeOf47 Bd.cells (fun _ => rfl) (fun x v hv => by simp [Bd.cells] at hv; rcases hv with rfl | rfl | rfl | rfl | rfl <;> rfl) (fun x y : Bd => ints x.var y.var) 144 #[] g 0 c a b (P ++ X ++ S).toArray w eg (cmp_lays g 0 _ w) h.holdsK h.1 (by omega) (by omega) (by omega)
  rw [hsz] at hc
  refine hc.mono ?_
  rintro e w' ⟨rfl, n, os, rfl⟩
  obtain ⟨X', e, h1, h2⟩ := insertion_list (S := S) ha hb
  have hz : (Go.Sort.insertionSort ltV (P ++ X ++ S).toArray a b).size = (P ++ X ++ S).toArray.size := by
    rw [hsz, ← Array.length_toList, e]; simp; have := h1.len; omega
  have hK := keeps_sort (g := g) (w := w) (n := n) (d := Go.Sort.insertionSort ltV (P ++ X ++ S).toArray a b) (os := os)
  refine ⟨rfl, P ++ X' ++ S, ⟨X', rfl, h1, h2⟩, ?_, hK⟩
  rw [← e]
  refine Row5.of_holdsK (Nat.lt_of_lt_of_le h.1 hK.size) (fun j => ?_) (holdsK_sortWorldK_c Bd.cells 5 w g 0 _ _ n os h.holdsK h.1 hz)
  unfold sortWorldK
  rw [Go.Sort.frozen?_grow _ _ _ (by rw [Go.Sort.size_putRowK]; exact h.1)]
  unfold Go.Sort.putRowK
  rw [Go.Sort.frozen?_putRow]
  exact h.2.1 j
end Go.Proofs.YtgpglgehlnfggaaGreat
namespace Go.Proofs.YtgpglgehlnfggaaGreat
open Go.RowKit
structure Exch (w : World) (g p q : Nat) (x y : Bd) : Prop where
  c0 : w.cell? ⟨g, p * 5, none⟩ = some (.int .i64 x.var)
  c1 : w.cell? ⟨g, p * 5 + 1, none⟩ = some (.int .i64 x.tm.kind)
  c2 : w.cell? ⟨g, p * 5 + 2, none⟩ = some (.int .i64 x.tm.num)
  c3 : w.cell? ⟨g, p * 5 + 3, none⟩ = some (.string x.tm.name)
  c4 : w.cell? ⟨g, p * 5 + 4, none⟩ = some (.slice x.tm.at_ x.tm.args.length x.tm.cap)
  d0 : w.cell? ⟨g, q * 5, none⟩ = some (.int .i64 y.var)
  d1 : w.cell? ⟨g, q * 5 + 1, none⟩ = some (.int .i64 y.tm.kind)
  d2 : w.cell? ⟨g, q * 5 + 2, none⟩ = some (.int .i64 y.tm.num)
  d3 : w.cell? ⟨g, q * 5 + 3, none⟩ = some (.string y.tm.name)
  d4 : w.cell? ⟨g, q * 5 + 4, none⟩ = some (.slice y.tm.at_ y.tm.args.length y.tm.cap)
  e0 : (put5 w g p y).cell? ⟨g, q * 5, none⟩ = some (.int .i64 y.var)
  e1 : (put5 w g p y).cell? ⟨g, q * 5 + 1, none⟩ = some (.int .i64 y.tm.kind)
  e2 : (put5 w g p y).cell? ⟨g, q * 5 + 2, none⟩ = some (.int .i64 y.tm.num)
  e3 : (put5 w g p y).cell? ⟨g, q * 5 + 3, none⟩ = some (.string y.tm.name)
  e4 : (put5 w g p y).cell? ⟨g, q * 5 + 4, none⟩ = some (.slice y.tm.at_ y.tm.args.length y.tm.cap)
  fp0 : w.frozen? ⟨g, p * 5, none⟩ = false
  fp1 : w.frozen? ⟨g, p * 5 + 1, none⟩ = false
  fp2 : w.frozen? ⟨g, p * 5 + 2, none⟩ = false
  fp3 : w.frozen? ⟨g, p * 5 + 3, none⟩ = false
  fp4 : w.frozen? ⟨g, p * 5 + 4, none⟩ = false
  fq0 : w.frozen? ⟨g, q * 5, none⟩ = false
  fq1 : w.frozen? ⟨g, q * 5 + 1, none⟩ = false
  fq2 : w.frozen? ⟨g, q * 5 + 2, none⟩ = false
  fq3 : w.frozen? ⟨g, q * 5 + 3, none⟩ = false
  fq4 : w.frozen? ⟨g, q * 5 + 4, none⟩ = false
theorem Row5.exch {w : World} {g p q : Nat} {l : List Bd} (h : Row5 w g l) (hp : p < l.length) (hq : q < l.length) (hpq : p ≠ q) : Exch w g p q (l.getD p default) (l.getD q default) := by
  obtain ⟨c0, c1, c2, c3, c4⟩ := h.get hp
  obtain ⟨d0, d1, d2, d3, d4⟩ := h.get hq
  obtain ⟨e0, e1, e2, e3, e4⟩ := (h.put hp (l.getD q default)).get (i := q) (by rw [List.length_set]; exact hq)
  have hgq : (l.set p (l.getD q default)).getD q default = l.getD q default := by simp [List.getD, hpq]
  rw [hgq] at e0 e1 e2 e3 e4
  exact ⟨c0, c1, c2, c3, c4, d0, d1, d2, d3, d4, e0, e1, e2, e3, e4, h.2.1 _, h.2.1 _, h.2.1 _, h.2.1 _, h.2.1 _, h.2.1 _, h.2.1 _, h.2.1 _, h.2.1 _, h.2.1 _⟩
theorem ints_neg {x y : Bd} {r : Int} (hr : ints x.var y.var = r) : r < 0 ↔ x.var < y.var := by
  rw [← hr]; unfold ints
  split
  · simp [*]
  · split <;> simp [*]
def passing (P : List Bd) (x : Bd) (B S : List Bd) (k : Nat) : List Bd := P ++ B.take k ++ x :: (B.drop k ++ S)
theorem passing_len (P : List Bd) (x : Bd) (B S : List Bd) (k : Nat) : (passing P x B S k).length = P.length + 1 + B.length + S.length := by
  simp [passing]; omega
theorem passing_next (P : List Bd) (x : Bd) (B S : List Bd) {k : Nat} (hk : k < B.length) : swpL (passing P x B S k) (P.length + k) (P.length + k + 1) = passing P x B S (k + 1) := by
  unfold passing
  rw [bdrop_next hk, btake_next hk]
  have := swpL_parts (P ++ B.take k) [] (B.drop (k + 1) ++ S) x (B.getD k default) (i := P.length + k) (j := P.length + k + 1) (by simp; omega) (by simp; omega)
  simpa using this
theorem passing_back (P : List Bd) (x : Bd) (B S : List Bd) {k : Nat} (hk : k < B.length) : swpL (passing P x B S (k + 1)) (P.length + k + 1) (P.length + k) = passing P x B S k := by
  unfold passing
  rw [bdrop_next hk, btake_next hk, swpL_symm _ (by omega)]
  have := swpL_parts (P ++ B.take k) [] (B.drop (k + 1) ++ S) (B.getD k default) x (i := P.length + k) (j := P.length + k + 1) (by simp; omega) (by simp; omega)
  simpa using this
theorem passing_stab (x : Bd) (B : List Bd) (k : Nat) (h : ∀ y ∈ B.take k, y.var ≠ x.var) : Stab ([x] ++ B) (B.take k ++ [x] ++ B.drop k) := by
  have h1 : Stab ([x] ++ B.take k) (B.take k ++ [x]) := stab_swap fun a ha b hb => by rw [List.mem_singleton.1 ha]; exact (h b hb).symm
  have := h1.append (Stab.refl (B.drop k))
  rwa [List.append_assoc, List.take_append_drop] at this
theorem passing_stab2 (x : Bd) (A : List Bd) (k : Nat) (h : ∀ y ∈ A.drop k, x.var ≠ y.var) : Stab (A ++ [x]) (A.take k ++ [x] ++ A.drop k) := by
  have h1 : Stab (A.drop k ++ [x]) ([x] ++ A.drop k) := stab_swap fun a ha b hb => by rw [List.mem_singleton.1 hb]; exact (h a ha).symm
  have := (Stab.refl (A.take k)).append h1
  rwa [← List.append_assoc, List.take_append_drop, ← List.append_assoc] at this
theorem passing_srt {x : Bd} {B : List Bd} {k : Nat} (hB : SrtL B) (h1 : ∀ y ∈ B.take k, y.var ≤ x.var) (h2 : ∀ y ∈ B.drop k, x.var ≤ y.var) : SrtL (B.take k ++ [x] ++ B.drop k) := by
  have hB' := hB
  rw [← List.take_append_drop k B, srtL_append] at hB'
  rw [srtL_append, srtL_append]
  refine ⟨⟨hB'.1, List.pairwise_singleton _ _, fun y hy z hz => by rw [List.mem_singleton.1 hz]; exact h1 y hy⟩, hB'.2.1, fun y hy z hz => ?_⟩
  rcases List.mem_append.1 hy with hy | hy
  · exact hB'.2.2 y hy z hz
  · rw [List.mem_singleton.1 hy]; exact h2 z hz
abbrev Merged (P A B S : List Bd) : List Bd → Prop := fun l' => ∃ M, l' = P ++ M ++ S ∧ Stab (A ++ B) M ∧ SrtL M
set_option maxHeartbeats 2000000 in
set_option maxRecDepth 100000 in
theorem sym_left (P : List Bd) (x : Bd) (B S : List Bd) (hB : SrtL B) (g c N : Nat) (w : World) (hN : N = P.length + 1 + B.length + S.length) (hN6 : N ≤ 1000000) (h : Row5 w g (P ++ [x] ++ B ++ S)) (a m b : Nat) (ha : a = P.length) (hm : m = P.length + 1) (hb : b = P.length + 1 + B.length) :
    Calls Tryz.prog 175 #[.slice (some ⟨g, 0, none⟩) N c, .int .i64 a, .int .i64 m, .int .i64 b, CMPV] w (Steps (Merged P [x] B S) g w) := by
  have hma : (m : Int) - (a : Int) = 1 := by omega
  have hbN : b ≤ N := by omega
  have HAM := Lib.hid (show m = a + 1 by omega)
  have hmb : m ≤ b := by omega
  have H0 := Lib.hid (show Row5 w g (passing P x B S 0) by unfold passing; simpa using h)
  have HLen := Lib.hid (fun k => (passing_len P x B S k).trans hN.symm)
  have hat : ∀ k, k < B.length → (passing P x B S 0).getD (m + k) default = B.getD k default := fun k hk => by
    unfold passing
    rw [hm, List.getD, List.getD]
    simp only [List.take_zero, List.append_nil, List.drop_zero]
    rw [show P ++ x :: (B ++ S) = (P ++ [x]) ++ (B ++ S) by simp, List.getElem?_append_right (by simp), List.getElem?_append_left (by simp; omega)]
    simp
  have hax : (passing P x B S 0).getD a default = x := by unfold passing; simp only [List.take_zero, List.append_nil]; exact getD_mid _ _ _ ha
  have HAT := Lib.hid hat
  have HAX := Lib.hid hax
  have HB := Lib.hid hB
  have HBL := Lib.hid (show m + B.length = b by omega)
  have HNX := Lib.hid (fun (k : Nat) (hk : k < B.length) => show swpL (passing P x B S k) (a + k) (a + k + 1) = passing P x B S (k + 1) by rw [ha]; exact passing_next P x B S hk)
  have HPs := Lib.hid (fun k => show passing P x B S k = P ++ (B.take k ++ [x] ++ B.drop k) ++ S by unfold passing; simp)
  clear h hat hax hB ha hm hb hN
  go_enter Tryz.func175, Tryz.ntmps175
  go_wp2_with fail
  go_loopw [10, 11] (fun s1 s2 wr => ∃ lo hi : Nat, s1 = .int .i64 lo ∧ s2 = .int .i64 hi ∧ m ≤ lo ∧ lo ≤ hi ∧ hi ≤ b ∧ Hid ((∀ k, m + k < lo → (B.getD k default).var < x.var) ∧ (∀ k, hi ≤ m + k → k < B.length → x.var ≤ (B.getD k default).var)) ∧ Hid (Row5 wr g (passing P x B S 0)) ∧ Hid (Keeps g w wr)) (fun s1 s2 _ => (intOf s2).toNat - (intOf s1).toNat)
  case atStart => exact ⟨m, b, rfl, rfl, Nat.le_refl _, hmb, Nat.le_refl _, Lib.hid ⟨fun k hk => by omega, fun k h1 h2 => by have := HBL.out; omega⟩, H0, Lib.hid (Keeps.refl _ _)⟩
  case round =>
    clear H0
    obtain ⟨lo, hi, rfl, rfl, hml, hlh, hhb, HI, HR, HK⟩ := hrel
    by_cases hlt : lo < hi
    · have ham := HAM.out
      have hBl := HBL.out
      obtain ⟨q, hq⟩ : ∃ q, q = (lo + hi) / 2 := ⟨_, rfl⟩
      have hq1 : ((lo : Int) + (hi : Int)) / 2 = (q : Int) := by omega
      have hqN : q < N := by omega
      have haN : a < N := by omega
      have hy : (passing P x B S 0).getD q default = B.getD (q - m) default := by rw [← HAT.out (q - m) (by omega)]; congr 1; omega
      obtain ⟨c0, c1, c2, c3, c4⟩ := HR.out.get (i := q) (by rw [HLen.out]; exact hqN)
      obtain ⟨d0, d1, d2, d3, d4⟩ := HR.out.get (i := a) (by rw [HLen.out]; exact haN)
      rw [hy] at c0 c1 c2 c3 c4
      rw [HAX.out] at d0 d1 d2 d3 d4
      obtain ⟨r, hr⟩ : ∃ r, ints (B.getD (q - m) default).var x.var = r := ⟨_, rfl⟩
      have hneg := ints_neg hr
      have Q := Lib.hid (fun W => compare_vars_below (B.getD (q - m) default) x W hr)
      have HLo := Lib.hid (fun (h : (B.getD (q - m) default).var < x.var) => show (∀ k, m + k < q + 1 → (B.getD k default).var < x.var) ∧ (∀ k, hi ≤ m + k → k < B.length → x.var ≤ (B.getD k default).var) from ⟨fun k hk => by
        have := HB.out.srt k (q - m) (by omega) (by omega)
        omega, HI.out.2⟩)
      have HHi := Lib.hid (fun (h : ¬ (B.getD (q - m) default).var < x.var) => show (∀ k, m + k < lo → (B.getD k default).var < x.var) ∧ (∀ k, q ≤ m + k → k < B.length → x.var ≤ (B.getD k default).var) from ⟨HI.out.1, fun k h1 h2 => by
        have := HB.out.srt (q - m) k (by omega) h2
        omega⟩)
      have HNeg := Lib.hid hneg
      clear hy hr hneg
      generalize B.getD (q - m) default = y at *
      obtain ⟨xv, xk, xn, xs, xA, xc, xa⟩ := x
      obtain ⟨yv, yk, yn, ys, yA, yc, ya⟩ := y
      simp only [Tm.kind, Tm.num, Tm.name, Tm.at_, Tm.args, Tm.cap] at c0 c1 c2 c3 c4 d0 d1 d2 d3 d4
      have c0' := cell_regrown c0
      have c1' := cell_regrown c1
      have c2' := cell_regrown c2
      have c3' := cell_regrown c3
      have c4' := cell_regrown c4
      have d0' := cell_regrown d0
      have d1' := cell_regrown d1
      have d2' := cell_regrown d2
      have d3' := cell_regrown d3
      have d4' := cell_regrown d4
      have hlq : lo ≤ q := by omega
      have hqh : q < hi := by omega
      clear hq ham hBl
      by_cases hrn : r < 0
      · have HE := Lib.hid (HLo.out (HNeg.out.1 hrn))
        clear HLo HHi HNeg
        go_wp2_with fail
        refine wp_region_quiet_below (by kernel_rfl) (by kernel_rfl) ?_
        repeat (go_big_quiet_step (first | (go_at_call 144; exact Calls.regrown_of (Q.out _))))
        refine wpQuiet_nil ?_
        intro w1 hw'
        have hb1 := regrown_below hw'
        have HR1 := Lib.hid (HR.out.below hb1)
        have HK1 := Lib.hid (HK.out.trans (Below.keeps hb1 g))
        clear hw' hb1
        go_wp2_with fail
        go_roundw
        case rel => exact ⟨q + 1, hi, by go_num, rfl, by omega, by omega, hhb, HE, HR1, HK1⟩
        case measure => simp [intOf]; omega
      · have HE := Lib.hid (HHi.out (fun h => hrn (HNeg.out.2 h)))
        clear HLo HHi HNeg
        go_wp2_with fail
        refine wp_region_quiet_below (by kernel_rfl) (by kernel_rfl) ?_
        repeat (go_big_quiet_step (first | (go_at_call 144; exact Calls.regrown_of (Q.out _))))
        refine wpQuiet_nil ?_
        intro w1 hw'
        have hb1 := regrown_below hw'
        have HR1 := Lib.hid (HR.out.below hb1)
        have HK1 := Lib.hid (HK.out.trans (Below.keeps hb1 g))
        clear hw' hb1
        go_wp2_with fail
        go_roundw
        case rel => exact ⟨lo, q, rfl, by go_num, hml, hlq, by omega, HE, HR1, HK1⟩
        case measure => simp [intOf]; omega
    · obtain rfl : hi = lo := by omega
      have ham := HAM.out
      have hBl := HBL.out
      obtain ⟨n, hn⟩ : ∃ n, n = hi - m := ⟨_, rfl⟩
      have hin : hi = m + n := by omega
      have HM := Lib.hid (show Merged P [x] B S (passing P x B S n) from ⟨B.take n ++ [x] ++ B.drop n, HPs.out n, passing_stab x B n (fun y hy => by
          obtain ⟨i, hi2, e⟩ := List.mem_iff_getElem.1 hy
          have hi3 : i < n := by simp at hi2; omega
          have h3 := HI.out.1 i (by omega)
          have h4 : B.getD i default = y := by rw [← e]; simp [List.getD, show i < B.length by omega]
          rw [h4] at h3
          omega), passing_srt HB.out (fun y hy => by
          obtain ⟨i, hi2, e⟩ := List.mem_iff_getElem.1 hy
          have hi3 : i < n := by simp at hi2; omega
          have h3 := HI.out.1 i (by omega)
          have h4 : B.getD i default = y := by rw [← e]; simp [List.getD, show i < B.length by omega]
          rw [h4] at h3
          omega) (fun y hy => by
          obtain ⟨i, hi2, e⟩ := List.mem_iff_getElem.1 hy
          have hi3 : n + i < B.length := by simp at hi2; omega
          have h3 := HI.out.2 (n + i) (by omega) hi3
          have h4 : B.getD (n + i) default = y := by rw [← e]; simp [List.getD, hi3]
          rw [h4] at h3
          exact h3)⟩)
      have hnB : n ≤ B.length := by omega
      have hi1 : (hi : Int) - 1 = ((a + n : Nat) : Int) := by omega
      obtain ⟨e, he⟩ : ∃ e, e = a + n := ⟨_, rfl⟩
      have HI1 := Lib.hid (show (hi : Int) - 1 = (e : Int) by omega)
      have HEq := Lib.hid (show e = a + n ∧ m = a + 1 ∧ m + B.length = b ∧ e ≤ N from ⟨he, ham, hBl, by omega⟩)
      clear hn HI hin he ham hBl hi1
      go_wp2_with fail
      go_loopw [13] (fun s1 wr => ∃ k : Nat, s1 = .int .i64 (a + k : Nat) ∧ k ≤ n ∧ Hid (Row5 wr g (passing P x B S k)) ∧ Hid (Keeps g w wr)) (fun s1 _ => e - (intOf s1).toNat)
      case atStart => exact ⟨0, rfl, Nat.zero_le _, HR, HK⟩
      case round =>
        clear HR HK
        obtain ⟨k, rfl, hk, HR, HK⟩ := hrel
        obtain ⟨hEq, hEq2, hEq3, hEq4⟩ := HEq.out
        have hi1 := HI1.out
        obtain ⟨p, hp⟩ : ∃ p, p = a + k := ⟨_, rfl⟩
        have HNk := Lib.hid (HNX.out k)
        rw [← hp] at HNk ⊢
        by_cases hlk : k < n
        · have hlp : decide ((p : Int) < (hi : Int) - 1) = true := decide_eq_true (by omega)
          have hpN : p < N := by omega
          obtain ⟨q, hq⟩ : ∃ q, q = p + 1 := ⟨_, rfl⟩
          have hq1 : (p : Int) + 1 = (q : Int) := by omega
          have hqN : q < N := by omega
          have hpq : p ≠ q := by omega
          have hsw := HNk.out (by omega)
          rw [← hq] at hsw
          have HSW := Lib.hid hsw
          have hX := HR.out.exch (p := p) (q := q) (by rw [HLen.out]; exact hpN) (by rw [HLen.out]; exact hqN) hpq
          have HFin := Lib.hid (show Row5 (put5 (put5 wr g p ((passing P x B S k).getD q default)) g q ((passing P x B S k).getD p default)).drew g (passing P x B S (k + 1)) by
            rw [← HSW.out]; exact (HR.out.swap (by rw [HLen.out]; exact hpN) (by rw [HLen.out]; exact hqN)).drew)
          have HKin := Lib.hid ((put5_keeps (i := q) (x := (passing P x B S k).getD p default) w (put5_keeps (i := p) (x := (passing P x B S k).getD q default) w HK.out)).drew)
          generalize (passing P x B S k).getD p default = u at *
          generalize (passing P x B S k).getD q default = v at *
          obtain ⟨uv, uk, un, us, uA, uc, ua⟩ := u
          obtain ⟨vv, vk, vn, vs, vA, vc, va⟩ := v
          obtain ⟨c0, c1, c2, c3, c4, d0, d1, d2, d3, d4, e0, e1, e2, e3, e4, fp0, fp1, fp2, fp3, fp4, fq0, fq1, fq2, fq3, fq4⟩ := hX
          simp only [put5, Tm.kind, Tm.num, Tm.name, Tm.at_, Tm.args, Tm.cap] at c0 c1 c2 c3 c4 d0 d1 d2 d3 d4 e0 e1 e2 e3 e4 HFin HKin
          have pz : (p : Int) < (N : Int) := by omega
          have qz : (q : Int) < (N : Int) := by omega
          have HQK := Lib.hid (show q = a + (k + 1) by omega)
          have hpe : p < e := by omega
          have hqp : q ≤ p + 1 ∧ p < q := by omega
          clear hsw HSW HR HK hp hq HNk hEq hEq2 hEq3 hEq4 hi1
          go_wp2_with fail
          go_region
          all_goals go_wp2
          go_roundw
          case rel => exact ⟨k + 1, by rw [← HQK.out], by omega, HFin, HKin⟩
          case measure => simp [intOf]; omega
        · obtain rfl : k = n := by omega
          have hlp : decide ((p : Int) < (hi : Int) - 1) = false := decide_eq_false (by omega)
          clear hEq hEq2 hEq3 hEq4 hp HNk hi1
          go_wp2_with fail
          go_end0
          exact ⟨rfl, _, HM.out, HR.out, HK.out⟩
end Go.Proofs.YtgpglgehlnfggaaGreat
namespace Go.Proofs.YtgpglgehlnfggaaGreat
theorem srt_first {l : List Bd} (h : SrtL l) {i j : Nat} (hij : i ≤ j) (hj : j < l.length) : (l.getD i default).var ≤ (l.getD j default).var := h.srt i j hij hj
theorem mem_take {l : List Bd} {k : Nat} {x : Bd} (h : x ∈ l.take k) : ∃ i, i < k ∧ i < l.length ∧ l.getD i default = x := by
  obtain ⟨i, hi, e⟩ := List.mem_iff_getElem.1 h
  have hi2 : i < k ∧ i < l.length := by simp at hi; omega
  exact ⟨i, hi2.1, hi2.2, by rw [← e]; simp [List.getD, hi2.2]⟩
theorem mem_drop {l : List Bd} {k : Nat} {x : Bd} (h : x ∈ l.drop k) : ∃ i, k ≤ i ∧ i < l.length ∧ l.getD i default = x := by
  obtain ⟨i, hi, e⟩ := List.mem_iff_getElem.1 h
  have hi2 : k + i < l.length := by simp at hi; omega
  exact ⟨k + i, by omega, hi2, by rw [← e]; simp [List.getD, hi2]⟩
theorem sym_facts {A B : List Bd} (hA : SrtL A) (hB : SrtL B) {h s : Nat} (hh : h = (A.length + B.length) / 2) (h0 : h - B.length ≤ s) (h1 : s ≤ min h A.length)
    (hlo : h - B.length < s → (A.getD (s - 1) default).var ≤ (B.getD (h - s) default).var) (hhi : s < min h A.length → (B.getD (h - 1 - s) default).var < (A.getD s default).var) :
    (∀ x ∈ A.drop s, ∀ y ∈ B.take (h - s), y.var < x.var) ∧ (∀ x ∈ A.take s, ∀ y ∈ B.drop (h - s), x.var ≤ y.var) := by
  have h2 : s ≤ h := by omega
  have h3 : s ≤ A.length := by omega
  refine ⟨fun x hx y hy => ?_, fun x hx y hy => ?_⟩
  · obtain ⟨i, hi1, hi2, rfl⟩ := mem_drop hx
    obtain ⟨j, hj1, hj2, rfl⟩ := mem_take hy
    have h4 := hhi (by omega)
    have h5 := srt_first hA hi1 hi2
    have h6 := srt_first hB (show j ≤ h - 1 - s by omega) (by omega)
    omega
  · obtain ⟨i, hi1, hi2, rfl⟩ := mem_take hx
    obtain ⟨j, hj1, hj2, rfl⟩ := mem_drop hy
    have h4 := hlo (by omega)
    have h5 := srt_first hA (show i ≤ s - 1 by omega) (by omega)
    have h6 := srt_first hB hj1 hj2
    omega
theorem sym_stab {A B A1 A2 B1 B2 M1 M2 : List Bd} (eA : A = A1 ++ A2) (eB : B = B1 ++ B2) (h : ∀ x ∈ A2, ∀ y ∈ B1, y.var < x.var) (h1 : Stab (A1 ++ B1) M1) (h2 : Stab (A2 ++ B2) M2) : Stab (A ++ B) (M1 ++ M2) := by
  have h3 : Stab (A2 ++ B1) (B1 ++ A2) := stab_swap fun x hx y hy => by have := h x hx y hy; omega
  have h4 := ((Stab.refl A1).append h3).append (Stab.refl B2)
  have h5 := h1.append h2
  subst eA eB
  have e1 : A1 ++ (A2 ++ B1) ++ B2 = A1 ++ A2 ++ (B1 ++ B2) := by simp
  have e2 : A1 ++ (B1 ++ A2) ++ B2 = A1 ++ B1 ++ (A2 ++ B2) := by simp
  rw [e1, e2] at h4
  exact h4.trans h5
theorem sym_srt {A B A1 A2 B1 B2 M1 M2 : List Bd} (hA : SrtL A) (hB : SrtL B) (eA : A = A1 ++ A2) (eB : B = B1 ++ B2) (h : ∀ x ∈ A2, ∀ y ∈ B1, y.var < x.var) (h' : ∀ x ∈ A1, ∀ y ∈ B2, x.var ≤ y.var) (h1 : Stab (A1 ++ B1) M1) (h2 : Stab (A2 ++ B2) M2) (s1 : SrtL M1) (s2 : SrtL M2) : SrtL (M1 ++ M2) := by
  subst eA eB
  have a := srtL_append.1 hA
  have b := srtL_append.1 hB
  refine srtL_append.2 ⟨s1, s2, SrtL.stab_le (fun x hx y hy => ?_) h1 h2⟩
  rcases List.mem_append.1 hx with hx | hx <;> rcases List.mem_append.1 hy with hy | hy
  · exact a.2.2 x hx y hy
  · exact h' x hx y hy
  · exact Int.le_of_lt (h y hy x hx)
  · exact b.2.2 x hx y hy
end Go.Proofs.YtgpglgehlnfggaaGreat
