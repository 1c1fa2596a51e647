/-
  AkTestS.
  RfTerm.
  RfInsP.
-/
import Derived.Test.YtgpglgehlnfggaaGreatMe21
import Derived.Test.YtgpglgehlnfggaaGreatMe25
import Derived.Test.YtgpglgehlnfggaaGreatMe24
import Derived.Test.YtgpglgehlnfggaaGreatMe23
import Derived.Test.YtgpglgehlnfggaaGreatMe17
import Derived.Deep.RegionLaw
import Derived.Deep.CutRange
import Derived.Test.YtgpglgehlnfggaaGreatMe14
namespace Go.Proofs.YtgpglgehlnfggaaGreat
open Go.RowKit
set_option linter.unusedVariables false
theorem test_ops8 {op : Int} (h : 5 ≤ op ∧ op ≤ 12) : op = 5 ∨ op = 6 ∨ op = 7 ∨ op = 8 ∨ op = 9 ∨ op = 10 ∨ op = 11 ∨ op = 12 := by omega
theorem ext_below {w v : World} (h : Ext w v) : Below w.heap.size w v := h
set_option maxHeartbeats 8000000 in
theorem test_r_5 {can : Tm → Tm → Bool} (H : RSolves) (hc : Cans can) (s : ByteArray) (A : Option Addr) (c : Nat) (l : List Tm) (w : World) (ha : (⟨5, s, A, c, l⟩ : Gl).At w) (hz : sizeL l ≤ 1000000) (ht : isT 5 s l = true) :
    Calls Tryz.prog 11 #[.agg #[.int .i64 5, .string s, .slice A l.length c]] w fun e w' => e = .returned (.int .i64 (testV can 5 s l)) ∧ Below w.heap.size w w' := by
  have B0 := Lib.hid (show ∀ o, Below w.heap.size w (w.alloc o) from fun o => (Below.refl _ _).alloc (Nat.le_refl _) o)
  have hl : Lst w A l c := ha.2.2
  have Q0 := Lib.hid (fun W (h : Below w.heap.size w W) => ris_test_at ⟨5, s, A, c, l⟩ W (ha.below h) hz ht)
  have hr := rightL_each (isT_built ht).2.2
  obtain ⟨x, y, rfl⟩ := isT_two ht (by omega)
  have hzx : x.size ≤ 1000000 := by simp only [sizeL] at hz; omega
  have hzy : y.size ≤ 1000000 := by simp only [sizeL] at hz; omega
  have hv := testV_two (can := can) ht
  have HV := Lib.hid (hv.trans (show _ = if (cmpT x y == 0) = true then holdV (decide ((5 : Int) = 5)) else if can x y = true then 0 else holdV (decide ((5 : Int) = 6)) from rfl))
  have Q1 := Lib.hid (fun W (h : Below w.heap.size w W) => ref_same_at x y W ((hl.below h).mem (by simp)) ((hl.below h).mem (by simp)) rfl)
  have Q2 := Lib.hid (fun W (h : Below w.heap.size w W) => (runifiable_at H x y W ((hl.below h).mem (by simp)) ((hl.below h).mem (by simp)) hzx hzy).mono fun e w' ⟨r, he, hr', h⟩ => (⟨by rw [he, can_of hc (hr x (by simp)) (hr y (by simp)) hr'], ext_below h⟩ : e = Ending.returned (Value.bool (can x y)) ∧ Below W.heap.size W w'))
  have QH := Lib.hid (fun b W => rholds_at b W)
  generalize (cmpT x y == 0) = p at *
  generalize can x y = q at *
  have HL := Lib.hid (fun W (h : Below w.heap.size w W) => lst_two (hl.below h))
  generalize testV can 5 s [x, y] = v at *
  clear ha hl hr ht hz hv
  go_enter Tryz.func11, Tryz.ntmps11
  go_wp2_with fail
  refine (Q0.out _ (B0.out _)).mono ?_
  rintro e w1 ⟨rfl, hb1⟩
  have x0 := boxN hb1 0 _ rfl
  have x2 := boxN hb1 2 _ rfl
  have H1 := Lib.hid ((B0.out _).trans (hb1.mono (by simp)))
  obtain ⟨b, o, rfl, ⟨c0, c1, c2, c3⟩, ⟨d0, d1, d2, d3⟩, _, _⟩ := HL.out _ H1.out
  have u0 : ∀ o', (w1.alloc o').cell? ⟨w.heap.size, 0, none⟩ = _ := fun o' => (World.cell?_alloc_past _ _ _ (World.block_lt_of_cell? _ _ x0)).trans x0
  have u2 : ∀ o', (w1.alloc o').cell? ⟨w.heap.size, 2, none⟩ = _ := fun o' => (World.cell?_alloc_past _ _ _ (World.block_lt_of_cell? _ _ x2)).trans x2
  have e0 : ∀ o', (w1.alloc o').cell? ⟨b, o + 4, none⟩ = _ := fun o' => (World.cell?_alloc_past _ _ _ (World.block_lt_of_cell? _ _ d0)).trans d0
  have e1 : ∀ o', (w1.alloc o').cell? ⟨b, o + 4 + 1, none⟩ = _ := fun o' => (World.cell?_alloc_past _ _ _ (World.block_lt_of_cell? _ _ d1)).trans d1
  have e2 : ∀ o', (w1.alloc o').cell? ⟨b, o + 4 + 2, none⟩ = _ := fun o' => (World.cell?_alloc_past _ _ _ (World.block_lt_of_cell? _ _ d2)).trans d2
  have e3 : ∀ o', (w1.alloc o').cell? ⟨b, o + 4 + 3, none⟩ = _ := fun o' => (World.cell?_alloc_past _ _ _ (World.block_lt_of_cell? _ _ d3)).trans d3
  have v0 : ∀ o' o2, ((w1.alloc o').alloc o2).cell? ⟨w.heap.size, 0, none⟩ = _ := fun o' o2 => (World.cell?_alloc_past _ _ _ (World.block_lt_of_cell? _ _ (u0 o'))).trans (u0 o')
  obtain ⟨k1, n1, s1, A1, p1, a1⟩ := x
  obtain ⟨k2, n2, s2, A2, p2, a2⟩ := y
  simp only [Tm.kind, Tm.num, Tm.name, Tm.at_, Tm.args, Tm.cap] at c0 c1 c2 c3 d0 d1 d2 d3 e0 e1 e2 e3
  clear hb1 HL
  go_wp2_with fail
  refine (Q1.out _ (H1.out.trans ((below2 _ _ _).mono H1.out.size))).mono ?_
  rintro e w2 ⟨rfl, hb2⟩
  have H2 := Lib.hid ((H1.out.trans ((below2 _ _ _).mono H1.out.size)).trans (hb2.mono (Nat.le_trans H1.out.size (below2 _ _ _).size)))
  have f0 := (hb2.cell (p := ⟨w.heap.size, 0, none⟩) (World.block_lt_of_cell? _ _ (v0 _ _))).trans (v0 _ _)
  obtain ⟨⟨g0, g1, g2, g3⟩, i0, i1, i2, i3⟩ := boxes_tm hb2
  clear hb2
  cases p
  · go_wp2_with fail
    refine (Q2.out _ H2.out).mono ?_
    rintro e w3 ⟨rfl, hb3⟩
    have H3 := Lib.hid (H2.out.trans (hb3.mono H2.out.size))
    have j0 := (hb3.cell (p := ⟨w.heap.size, 0, none⟩) (World.block_lt_of_cell? _ _ f0)).trans f0
    clear hb3
    cases q
    · go_wp2_with fail
      refine (QH.out _ _).mono ?_
      rintro e w4 ⟨rfl, rfl⟩
      go_wp2_with fail
      go_ret
      exact ⟨by rw [HV.out]; try rfl, H3.out⟩
    · go_wp2_with fail
      go_ret
      exact ⟨by rw [HV.out]; try rfl, H3.out⟩
  · go_wp2_with fail
    refine (QH.out _ _).mono ?_
    rintro e w4 ⟨rfl, rfl⟩
    go_wp2_with fail
    go_ret
    exact ⟨by rw [HV.out]; try rfl, H2.out⟩
set_option maxHeartbeats 8000000 in
theorem test_r_6 {can : Tm → Tm → Bool} (H : RSolves) (hc : Cans can) (s : ByteArray) (A : Option Addr) (c : Nat) (l : List Tm) (w : World) (ha : (⟨6, s, A, c, l⟩ : Gl).At w) (hz : sizeL l ≤ 1000000) (ht : isT 6 s l = true) :
    Calls Tryz.prog 11 #[.agg #[.int .i64 6, .string s, .slice A l.length c]] w fun e w' => e = .returned (.int .i64 (testV can 6 s l)) ∧ Below w.heap.size w w' := by
  have B0 := Lib.hid (show ∀ o, Below w.heap.size w (w.alloc o) from fun o => (Below.refl _ _).alloc (Nat.le_refl _) o)
  have hl : Lst w A l c := ha.2.2
  have Q0 := Lib.hid (fun W (h : Below w.heap.size w W) => ris_test_at ⟨6, s, A, c, l⟩ W (ha.below h) hz ht)
  have hr := rightL_each (isT_built ht).2.2
  obtain ⟨x, y, rfl⟩ := isT_two ht (by omega)
  have hzx : x.size ≤ 1000000 := by simp only [sizeL] at hz; omega
  have hzy : y.size ≤ 1000000 := by simp only [sizeL] at hz; omega
  have hv := testV_two (can := can) ht
  have HV := Lib.hid (hv.trans (show _ = if (cmpT x y == 0) = true then holdV (decide ((6 : Int) = 5)) else if can x y = true then 0 else holdV (decide ((6 : Int) = 6)) from rfl))
  have Q1 := Lib.hid (fun W (h : Below w.heap.size w W) => ref_same_at x y W ((hl.below h).mem (by simp)) ((hl.below h).mem (by simp)) rfl)
  have Q2 := Lib.hid (fun W (h : Below w.heap.size w W) => (runifiable_at H x y W ((hl.below h).mem (by simp)) ((hl.below h).mem (by simp)) hzx hzy).mono fun e w' ⟨r, he, hr', h⟩ => (⟨by rw [he, can_of hc (hr x (by simp)) (hr y (by simp)) hr'], ext_below h⟩ : e = Ending.returned (Value.bool (can x y)) ∧ Below W.heap.size W w'))
  have QH := Lib.hid (fun b W => rholds_at b W)
  generalize (cmpT x y == 0) = p at *
  generalize can x y = q at *
  have HL := Lib.hid (fun W (h : Below w.heap.size w W) => lst_two (hl.below h))
  generalize testV can 6 s [x, y] = v at *
  clear ha hl hr ht hz hv
  go_enter Tryz.func11, Tryz.ntmps11
  go_wp2_with fail
  refine (Q0.out _ (B0.out _)).mono ?_
  rintro e w1 ⟨rfl, hb1⟩
  have x0 := boxN hb1 0 _ rfl
  have x2 := boxN hb1 2 _ rfl
  have H1 := Lib.hid ((B0.out _).trans (hb1.mono (by simp)))
  obtain ⟨b, o, rfl, ⟨c0, c1, c2, c3⟩, ⟨d0, d1, d2, d3⟩, _, _⟩ := HL.out _ H1.out
  have u0 : ∀ o', (w1.alloc o').cell? ⟨w.heap.size, 0, none⟩ = _ := fun o' => (World.cell?_alloc_past _ _ _ (World.block_lt_of_cell? _ _ x0)).trans x0
  have u2 : ∀ o', (w1.alloc o').cell? ⟨w.heap.size, 2, none⟩ = _ := fun o' => (World.cell?_alloc_past _ _ _ (World.block_lt_of_cell? _ _ x2)).trans x2
  have e0 : ∀ o', (w1.alloc o').cell? ⟨b, o + 4, none⟩ = _ := fun o' => (World.cell?_alloc_past _ _ _ (World.block_lt_of_cell? _ _ d0)).trans d0
  have e1 : ∀ o', (w1.alloc o').cell? ⟨b, o + 4 + 1, none⟩ = _ := fun o' => (World.cell?_alloc_past _ _ _ (World.block_lt_of_cell? _ _ d1)).trans d1
  have e2 : ∀ o', (w1.alloc o').cell? ⟨b, o + 4 + 2, none⟩ = _ := fun o' => (World.cell?_alloc_past _ _ _ (World.block_lt_of_cell? _ _ d2)).trans d2
  have e3 : ∀ o', (w1.alloc o').cell? ⟨b, o + 4 + 3, none⟩ = _ := fun o' => (World.cell?_alloc_past _ _ _ (World.block_lt_of_cell? _ _ d3)).trans d3
  have v0 : ∀ o' o2, ((w1.alloc o').alloc o2).cell? ⟨w.heap.size, 0, none⟩ = _ := fun o' o2 => (World.cell?_alloc_past _ _ _ (World.block_lt_of_cell? _ _ (u0 o'))).trans (u0 o')
  obtain ⟨k1, n1, s1, A1, p1, a1⟩ := x
  obtain ⟨k2, n2, s2, A2, p2, a2⟩ := y
  simp only [Tm.kind, Tm.num, Tm.name, Tm.at_, Tm.args, Tm.cap] at c0 c1 c2 c3 d0 d1 d2 d3 e0 e1 e2 e3
  clear hb1 HL
  go_wp2_with fail
  refine (Q1.out _ (H1.out.trans ((below2 _ _ _).mono H1.out.size))).mono ?_
  rintro e w2 ⟨rfl, hb2⟩
  have H2 := Lib.hid ((H1.out.trans ((below2 _ _ _).mono H1.out.size)).trans (hb2.mono (Nat.le_trans H1.out.size (below2 _ _ _).size)))
  have f0 := (hb2.cell (p := ⟨w.heap.size, 0, none⟩) (World.block_lt_of_cell? _ _ (v0 _ _))).trans (v0 _ _)
  obtain ⟨⟨g0, g1, g2, g3⟩, i0, i1, i2, i3⟩ := boxes_tm hb2
  clear hb2
  cases p
  · go_wp2_with fail
    refine (Q2.out _ H2.out).mono ?_
    rintro e w3 ⟨rfl, hb3⟩
    have H3 := Lib.hid (H2.out.trans (hb3.mono H2.out.size))
    have j0 := (hb3.cell (p := ⟨w.heap.size, 0, none⟩) (World.block_lt_of_cell? _ _ f0)).trans f0
    clear hb3
    cases q
    · go_wp2_with fail
      refine (QH.out _ _).mono ?_
      rintro e w4 ⟨rfl, rfl⟩
      go_wp2_with fail
      go_ret
      exact ⟨by rw [HV.out]; try rfl, H3.out⟩
    · go_wp2_with fail
      go_ret
      exact ⟨by rw [HV.out]; try rfl, H3.out⟩
  · go_wp2_with fail
    refine (QH.out _ _).mono ?_
    rintro e w4 ⟨rfl, rfl⟩
    go_wp2_with fail
    go_ret
    exact ⟨by rw [HV.out]; try rfl, H2.out⟩
set_option maxHeartbeats 8000000 in
theorem test_r_7 {can : Tm → Tm → Bool} (H : RSolves) (hc : Cans can) (s : ByteArray) (A : Option Addr) (c : Nat) (l : List Tm) (w : World) (ha : (⟨7, s, A, c, l⟩ : Gl).At w) (hz : sizeL l ≤ 1000000) (ht : isT 7 s l = true) :
    Calls Tryz.prog 11 #[.agg #[.int .i64 7, .string s, .slice A l.length c]] w fun e w' => e = .returned (.int .i64 (testV can 7 s l)) ∧ Below w.heap.size w w' := by
  have B0 := Lib.hid (show ∀ o, Below w.heap.size w (w.alloc o) from fun o => (Below.refl _ _).alloc (Nat.le_refl _) o)
  have hl : Lst w A l c := ha.2.2
  have Q0 := Lib.hid (fun W (h : Below w.heap.size w W) => ris_test_at ⟨7, s, A, c, l⟩ W (ha.below h) hz ht)
  have hr := rightL_each (isT_built ht).2.2
  obtain ⟨x, y, rfl⟩ := isT_two ht (by omega)
  have hzx : x.size ≤ 1000000 := by simp only [sizeL] at hz; omega
  have hzy : y.size ≤ 1000000 := by simp only [sizeL] at hz; omega
  have hv := testV_two (can := can) ht
  have HV := Lib.hid hv
  have Q1 := Lib.hid (fun W (h : Below w.heap.size w W) => values_r_at 7 x y W ((hl.below h).mem (by simp)) ((hl.below h).mem (by simp)) hzx hzy)
  have HL := Lib.hid (fun W (h : Below w.heap.size w W) => lst_two (hl.below h))
  generalize testV can 7 s [x, y] = v at *
  clear ha hl hr ht hz hv
  go_enter Tryz.func11, Tryz.ntmps11
  go_wp2_with fail
  refine (Q0.out _ (B0.out _)).mono ?_
  rintro e w1 ⟨rfl, hb1⟩
  have x0 := boxN hb1 0 _ rfl
  have x2 := boxN hb1 2 _ rfl
  have H1 := Lib.hid ((B0.out _).trans (hb1.mono (by simp)))
  obtain ⟨b, o, rfl, ⟨c0, c1, c2, c3⟩, ⟨d0, d1, d2, d3⟩, _, _⟩ := HL.out _ H1.out
  have u0 : ∀ o', (w1.alloc o').cell? ⟨w.heap.size, 0, none⟩ = _ := fun o' => (World.cell?_alloc_past _ _ _ (World.block_lt_of_cell? _ _ x0)).trans x0
  have u2 : ∀ o', (w1.alloc o').cell? ⟨w.heap.size, 2, none⟩ = _ := fun o' => (World.cell?_alloc_past _ _ _ (World.block_lt_of_cell? _ _ x2)).trans x2
  have e0 : ∀ o', (w1.alloc o').cell? ⟨b, o + 4, none⟩ = _ := fun o' => (World.cell?_alloc_past _ _ _ (World.block_lt_of_cell? _ _ d0)).trans d0
  have e1 : ∀ o', (w1.alloc o').cell? ⟨b, o + 4 + 1, none⟩ = _ := fun o' => (World.cell?_alloc_past _ _ _ (World.block_lt_of_cell? _ _ d1)).trans d1
  have e2 : ∀ o', (w1.alloc o').cell? ⟨b, o + 4 + 2, none⟩ = _ := fun o' => (World.cell?_alloc_past _ _ _ (World.block_lt_of_cell? _ _ d2)).trans d2
  have e3 : ∀ o', (w1.alloc o').cell? ⟨b, o + 4 + 3, none⟩ = _ := fun o' => (World.cell?_alloc_past _ _ _ (World.block_lt_of_cell? _ _ d3)).trans d3
  have v0 : ∀ o' o2, ((w1.alloc o').alloc o2).cell? ⟨w.heap.size, 0, none⟩ = _ := fun o' o2 => (World.cell?_alloc_past _ _ _ (World.block_lt_of_cell? _ _ (u0 o'))).trans (u0 o')
  obtain ⟨k1, n1, s1, A1, p1, a1⟩ := x
  obtain ⟨k2, n2, s2, A2, p2, a2⟩ := y
  simp only [Tm.kind, Tm.num, Tm.name, Tm.at_, Tm.args, Tm.cap] at c0 c1 c2 c3 d0 d1 d2 d3 e0 e1 e2 e3
  clear hb1 HL
  go_wp2_with fail
  refine (Q1.out _ (H1.out.trans ((below2 _ _ _).mono H1.out.size))).mono ?_
  rintro e w2 ⟨rfl, hb2⟩
  go_wp2_with fail
  go_ret
  exact ⟨by rw [HV.out]; try rfl, (H1.out.trans ((below2 _ _ _).mono H1.out.size)).trans (hb2.mono (Nat.le_trans H1.out.size (below2 _ _ _).size))⟩
set_option maxHeartbeats 8000000 in
theorem test_r_8 {can : Tm → Tm → Bool} (H : RSolves) (hc : Cans can) (s : ByteArray) (A : Option Addr) (c : Nat) (l : List Tm) (w : World) (ha : (⟨8, s, A, c, l⟩ : Gl).At w) (hz : sizeL l ≤ 1000000) (ht : isT 8 s l = true) :
    Calls Tryz.prog 11 #[.agg #[.int .i64 8, .string s, .slice A l.length c]] w fun e w' => e = .returned (.int .i64 (testV can 8 s l)) ∧ Below w.heap.size w w' := by
  have B0 := Lib.hid (show ∀ o, Below w.heap.size w (w.alloc o) from fun o => (Below.refl _ _).alloc (Nat.le_refl _) o)
  have hl : Lst w A l c := ha.2.2
  have Q0 := Lib.hid (fun W (h : Below w.heap.size w W) => ris_test_at ⟨8, s, A, c, l⟩ W (ha.below h) hz ht)
  have hr := rightL_each (isT_built ht).2.2
  obtain ⟨x, y, rfl⟩ := isT_two ht (by omega)
  have hzx : x.size ≤ 1000000 := by simp only [sizeL] at hz; omega
  have hzy : y.size ≤ 1000000 := by simp only [sizeL] at hz; omega
  have hv := testV_two (can := can) ht
  have HV := Lib.hid hv
  have Q1 := Lib.hid (fun W (h : Below w.heap.size w W) => values_r_at 8 x y W ((hl.below h).mem (by simp)) ((hl.below h).mem (by simp)) hzx hzy)
  have HL := Lib.hid (fun W (h : Below w.heap.size w W) => lst_two (hl.below h))
  generalize testV can 8 s [x, y] = v at *
  clear ha hl hr ht hz hv
  go_enter Tryz.func11, Tryz.ntmps11
  go_wp2_with fail
  refine (Q0.out _ (B0.out _)).mono ?_
  rintro e w1 ⟨rfl, hb1⟩
  have x0 := boxN hb1 0 _ rfl
  have x2 := boxN hb1 2 _ rfl
  have H1 := Lib.hid ((B0.out _).trans (hb1.mono (by simp)))
  obtain ⟨b, o, rfl, ⟨c0, c1, c2, c3⟩, ⟨d0, d1, d2, d3⟩, _, _⟩ := HL.out _ H1.out
  have u0 : ∀ o', (w1.alloc o').cell? ⟨w.heap.size, 0, none⟩ = _ := fun o' => (World.cell?_alloc_past _ _ _ (World.block_lt_of_cell? _ _ x0)).trans x0
  have u2 : ∀ o', (w1.alloc o').cell? ⟨w.heap.size, 2, none⟩ = _ := fun o' => (World.cell?_alloc_past _ _ _ (World.block_lt_of_cell? _ _ x2)).trans x2
  have e0 : ∀ o', (w1.alloc o').cell? ⟨b, o + 4, none⟩ = _ := fun o' => (World.cell?_alloc_past _ _ _ (World.block_lt_of_cell? _ _ d0)).trans d0
  have e1 : ∀ o', (w1.alloc o').cell? ⟨b, o + 4 + 1, none⟩ = _ := fun o' => (World.cell?_alloc_past _ _ _ (World.block_lt_of_cell? _ _ d1)).trans d1
  have e2 : ∀ o', (w1.alloc o').cell? ⟨b, o + 4 + 2, none⟩ = _ := fun o' => (World.cell?_alloc_past _ _ _ (World.block_lt_of_cell? _ _ d2)).trans d2
  have e3 : ∀ o', (w1.alloc o').cell? ⟨b, o + 4 + 3, none⟩ = _ := fun o' => (World.cell?_alloc_past _ _ _ (World.block_lt_of_cell? _ _ d3)).trans d3
  have v0 : ∀ o' o2, ((w1.alloc o').alloc o2).cell? ⟨w.heap.size, 0, none⟩ = _ := fun o' o2 => (World.cell?_alloc_past _ _ _ (World.block_lt_of_cell? _ _ (u0 o'))).trans (u0 o')
  obtain ⟨k1, n1, s1, A1, p1, a1⟩ := x
  obtain ⟨k2, n2, s2, A2, p2, a2⟩ := y
  simp only [Tm.kind, Tm.num, Tm.name, Tm.at_, Tm.args, Tm.cap] at c0 c1 c2 c3 d0 d1 d2 d3 e0 e1 e2 e3
  clear hb1 HL
  go_wp2_with fail
  refine (Q1.out _ (H1.out.trans ((below2 _ _ _).mono H1.out.size))).mono ?_
  rintro e w2 ⟨rfl, hb2⟩
  go_wp2_with fail
  go_ret
  exact ⟨by rw [HV.out]; try rfl, (H1.out.trans ((below2 _ _ _).mono H1.out.size)).trans (hb2.mono (Nat.le_trans H1.out.size (below2 _ _ _).size))⟩
set_option maxHeartbeats 8000000 in
theorem test_r_9 {can : Tm → Tm → Bool} (H : RSolves) (hc : Cans can) (s : ByteArray) (A : Option Addr) (c : Nat) (l : List Tm) (w : World) (ha : (⟨9, s, A, c, l⟩ : Gl).At w) (hz : sizeL l ≤ 1000000) (ht : isT 9 s l = true) :
    Calls Tryz.prog 11 #[.agg #[.int .i64 9, .string s, .slice A l.length c]] w fun e w' => e = .returned (.int .i64 (testV can 9 s l)) ∧ Below w.heap.size w w' := by
  have B0 := Lib.hid (show ∀ o, Below w.heap.size w (w.alloc o) from fun o => (Below.refl _ _).alloc (Nat.le_refl _) o)
  have hl : Lst w A l c := ha.2.2
  have Q0 := Lib.hid (fun W (h : Below w.heap.size w W) => ris_test_at ⟨9, s, A, c, l⟩ W (ha.below h) hz ht)
  have hr := rightL_each (isT_built ht).2.2
  obtain ⟨x, y, rfl⟩ := isT_two ht (by omega)
  have hzx : x.size ≤ 1000000 := by simp only [sizeL] at hz; omega
  have hzy : y.size ≤ 1000000 := by simp only [sizeL] at hz; omega
  have hv := testV_two (can := can) ht
  have HV := Lib.hid hv
  have Q1 := Lib.hid (fun W (h : Below w.heap.size w W) => values_r_at 9 x y W ((hl.below h).mem (by simp)) ((hl.below h).mem (by simp)) hzx hzy)
  have HL := Lib.hid (fun W (h : Below w.heap.size w W) => lst_two (hl.below h))
  generalize testV can 9 s [x, y] = v at *
  clear ha hl hr ht hz hv
  go_enter Tryz.func11, Tryz.ntmps11
  go_wp2_with fail
  refine (Q0.out _ (B0.out _)).mono ?_
  rintro e w1 ⟨rfl, hb1⟩
  have x0 := boxN hb1 0 _ rfl
  have x2 := boxN hb1 2 _ rfl
  have H1 := Lib.hid ((B0.out _).trans (hb1.mono (by simp)))
  obtain ⟨b, o, rfl, ⟨c0, c1, c2, c3⟩, ⟨d0, d1, d2, d3⟩, _, _⟩ := HL.out _ H1.out
  have u0 : ∀ o', (w1.alloc o').cell? ⟨w.heap.size, 0, none⟩ = _ := fun o' => (World.cell?_alloc_past _ _ _ (World.block_lt_of_cell? _ _ x0)).trans x0
  have u2 : ∀ o', (w1.alloc o').cell? ⟨w.heap.size, 2, none⟩ = _ := fun o' => (World.cell?_alloc_past _ _ _ (World.block_lt_of_cell? _ _ x2)).trans x2
  have e0 : ∀ o', (w1.alloc o').cell? ⟨b, o + 4, none⟩ = _ := fun o' => (World.cell?_alloc_past _ _ _ (World.block_lt_of_cell? _ _ d0)).trans d0
  have e1 : ∀ o', (w1.alloc o').cell? ⟨b, o + 4 + 1, none⟩ = _ := fun o' => (World.cell?_alloc_past _ _ _ (World.block_lt_of_cell? _ _ d1)).trans d1
  have e2 : ∀ o', (w1.alloc o').cell? ⟨b, o + 4 + 2, none⟩ = _ := fun o' => (World.cell?_alloc_past _ _ _ (World.block_lt_of_cell? _ _ d2)).trans d2
  have e3 : ∀ o', (w1.alloc o').cell? ⟨b, o + 4 + 3, none⟩ = _ := fun o' => (World.cell?_alloc_past _ _ _ (World.block_lt_of_cell? _ _ d3)).trans d3
  have v0 : ∀ o' o2, ((w1.alloc o').alloc o2).cell? ⟨w.heap.size, 0, none⟩ = _ := fun o' o2 => (World.cell?_alloc_past _ _ _ (World.block_lt_of_cell? _ _ (u0 o'))).trans (u0 o')
  obtain ⟨k1, n1, s1, A1, p1, a1⟩ := x
  obtain ⟨k2, n2, s2, A2, p2, a2⟩ := y
  simp only [Tm.kind, Tm.num, Tm.name, Tm.at_, Tm.args, Tm.cap] at c0 c1 c2 c3 d0 d1 d2 d3 e0 e1 e2 e3
  clear hb1 HL
  go_wp2_with fail
  refine (Q1.out _ (H1.out.trans ((below2 _ _ _).mono H1.out.size))).mono ?_
  rintro e w2 ⟨rfl, hb2⟩
  go_wp2_with fail
  go_ret
  exact ⟨by rw [HV.out]; try rfl, (H1.out.trans ((below2 _ _ _).mono H1.out.size)).trans (hb2.mono (Nat.le_trans H1.out.size (below2 _ _ _).size))⟩
set_option maxHeartbeats 8000000 in
theorem test_r_10 {can : Tm → Tm → Bool} (H : RSolves) (hc : Cans can) (s : ByteArray) (A : Option Addr) (c : Nat) (l : List Tm) (w : World) (ha : (⟨10, s, A, c, l⟩ : Gl).At w) (hz : sizeL l ≤ 1000000) (ht : isT 10 s l = true) :
    Calls Tryz.prog 11 #[.agg #[.int .i64 10, .string s, .slice A l.length c]] w fun e w' => e = .returned (.int .i64 (testV can 10 s l)) ∧ Below w.heap.size w w' := by
  have B0 := Lib.hid (show ∀ o, Below w.heap.size w (w.alloc o) from fun o => (Below.refl _ _).alloc (Nat.le_refl _) o)
  have hl : Lst w A l c := ha.2.2
  have Q0 := Lib.hid (fun W (h : Below w.heap.size w W) => ris_test_at ⟨10, s, A, c, l⟩ W (ha.below h) hz ht)
  have hr := rightL_each (isT_built ht).2.2
  obtain ⟨x, y, rfl⟩ := isT_two ht (by omega)
  have hzx : x.size ≤ 1000000 := by simp only [sizeL] at hz; omega
  have hzy : y.size ≤ 1000000 := by simp only [sizeL] at hz; omega
  have hv := testV_two (can := can) ht
  have HV := Lib.hid hv
  have Q1 := Lib.hid (fun W (h : Below w.heap.size w W) => values_r_at 10 x y W ((hl.below h).mem (by simp)) ((hl.below h).mem (by simp)) hzx hzy)
  have HL := Lib.hid (fun W (h : Below w.heap.size w W) => lst_two (hl.below h))
  generalize testV can 10 s [x, y] = v at *
  clear ha hl hr ht hz hv
  go_enter Tryz.func11, Tryz.ntmps11
  go_wp2_with fail
  refine (Q0.out _ (B0.out _)).mono ?_
  rintro e w1 ⟨rfl, hb1⟩
  have x0 := boxN hb1 0 _ rfl
  have x2 := boxN hb1 2 _ rfl
  have H1 := Lib.hid ((B0.out _).trans (hb1.mono (by simp)))
  obtain ⟨b, o, rfl, ⟨c0, c1, c2, c3⟩, ⟨d0, d1, d2, d3⟩, _, _⟩ := HL.out _ H1.out
  have u0 : ∀ o', (w1.alloc o').cell? ⟨w.heap.size, 0, none⟩ = _ := fun o' => (World.cell?_alloc_past _ _ _ (World.block_lt_of_cell? _ _ x0)).trans x0
  have u2 : ∀ o', (w1.alloc o').cell? ⟨w.heap.size, 2, none⟩ = _ := fun o' => (World.cell?_alloc_past _ _ _ (World.block_lt_of_cell? _ _ x2)).trans x2
  have e0 : ∀ o', (w1.alloc o').cell? ⟨b, o + 4, none⟩ = _ := fun o' => (World.cell?_alloc_past _ _ _ (World.block_lt_of_cell? _ _ d0)).trans d0
  have e1 : ∀ o', (w1.alloc o').cell? ⟨b, o + 4 + 1, none⟩ = _ := fun o' => (World.cell?_alloc_past _ _ _ (World.block_lt_of_cell? _ _ d1)).trans d1
  have e2 : ∀ o', (w1.alloc o').cell? ⟨b, o + 4 + 2, none⟩ = _ := fun o' => (World.cell?_alloc_past _ _ _ (World.block_lt_of_cell? _ _ d2)).trans d2
  have e3 : ∀ o', (w1.alloc o').cell? ⟨b, o + 4 + 3, none⟩ = _ := fun o' => (World.cell?_alloc_past _ _ _ (World.block_lt_of_cell? _ _ d3)).trans d3
  have v0 : ∀ o' o2, ((w1.alloc o').alloc o2).cell? ⟨w.heap.size, 0, none⟩ = _ := fun o' o2 => (World.cell?_alloc_past _ _ _ (World.block_lt_of_cell? _ _ (u0 o'))).trans (u0 o')
  obtain ⟨k1, n1, s1, A1, p1, a1⟩ := x
  obtain ⟨k2, n2, s2, A2, p2, a2⟩ := y
  simp only [Tm.kind, Tm.num, Tm.name, Tm.at_, Tm.args, Tm.cap] at c0 c1 c2 c3 d0 d1 d2 d3 e0 e1 e2 e3
  clear hb1 HL
  go_wp2_with fail
  refine (Q1.out _ (H1.out.trans ((below2 _ _ _).mono H1.out.size))).mono ?_
  rintro e w2 ⟨rfl, hb2⟩
  go_wp2_with fail
  go_ret
  exact ⟨by rw [HV.out]; try rfl, (H1.out.trans ((below2 _ _ _).mono H1.out.size)).trans (hb2.mono (Nat.le_trans H1.out.size (below2 _ _ _).size))⟩
set_option maxHeartbeats 8000000 in
theorem test_r_11 {can : Tm → Tm → Bool} (H : RSolves) (hc : Cans can) (s : ByteArray) (A : Option Addr) (c : Nat) (l : List Tm) (w : World) (ha : (⟨11, s, A, c, l⟩ : Gl).At w) (hz : sizeL l ≤ 1000000) (ht : isT 11 s l = true) :
    Calls Tryz.prog 11 #[.agg #[.int .i64 11, .string s, .slice A l.length c]] w fun e w' => e = .returned (.int .i64 (testV can 11 s l)) ∧ Below w.heap.size w w' := by
  have B0 := Lib.hid (show ∀ o, Below w.heap.size w (w.alloc o) from fun o => (Below.refl _ _).alloc (Nat.le_refl _) o)
  have hl : Lst w A l c := ha.2.2
  have Q0 := Lib.hid (fun W (h : Below w.heap.size w W) => ris_test_at ⟨11, s, A, c, l⟩ W (ha.below h) hz ht)
  obtain ⟨x, rfl⟩ := isT_one ht (by omega)
  have hzx : x.size ≤ 1000000 := by simp only [sizeL] at hz; omega
  have hv := testV_one (can := can) ht
  have HV := Lib.hid (hv.trans (show _ = if x.kind = 1 then 0 else holdV (decide (x.kind = 0)) from rfl))
  have QH := Lib.hid (fun b W => rholds_at b W)
  have HL := Lib.hid (fun W (h : Below w.heap.size w W) => lst_one (hl.below h))
  generalize testV can 11 s [x] = v at *
  clear ha hl ht hz hv
  go_enter Tryz.func11, Tryz.ntmps11
  go_wp2_with fail
  refine (Q0.out _ (B0.out _)).mono ?_
  rintro e w1 ⟨rfl, hb1⟩
  have x0 := boxN hb1 0 _ rfl
  have x2 := boxN hb1 2 _ rfl
  have H1 := Lib.hid ((B0.out _).trans (hb1.mono (by simp)))
  obtain ⟨b, o, rfl, ⟨c0, c1, c2, c3⟩, _⟩ := HL.out _ H1.out
  have u0 : ∀ o', (w1.alloc o').cell? ⟨w.heap.size, 0, none⟩ = _ := fun o' => (World.cell?_alloc_past _ _ _ (World.block_lt_of_cell? _ _ x0)).trans x0
  obtain ⟨k1, n1, s1, A1, p1, a1⟩ := x
  simp only [Tm.kind, Tm.num, Tm.name, Tm.at_, Tm.args, Tm.cap] at c0 c1 c2 c3 HV
  clear hb1 HL
  by_cases hk : k1 = 1
  · subst hk
    go_wp2_with fail
    go_ret
    exact ⟨by rw [HV.out]; try rfl, H1.out.trans ((below1 _ _).mono H1.out.size)⟩
  · have hk' : (k1 == 1) = false := by simpa using hk
    have HE := Lib.hid (show v = holdV (k1 == 0) from (HV.out.trans (if_neg hk)).trans (congrArg holdV rfl))
    clear hk HV
    go_wp2_with fail
    refine (QH.out _ _).mono ?_
    rintro e w4 ⟨rfl, rfl⟩
    go_wp2_with fail
    go_ret
    exact ⟨by rw [HE.out]; try rfl, H1.out.trans ((below1 _ _).mono H1.out.size)⟩
set_option maxHeartbeats 8000000 in
theorem test_r_12 {can : Tm → Tm → Bool} (H : RSolves) (hc : Cans can) (s : ByteArray) (A : Option Addr) (c : Nat) (l : List Tm) (w : World) (ha : (⟨12, s, A, c, l⟩ : Gl).At w) (hz : sizeL l ≤ 1000000) (ht : isT 12 s l = true) :
    Calls Tryz.prog 11 #[.agg #[.int .i64 12, .string s, .slice A l.length c]] w fun e w' => e = .returned (.int .i64 (testV can 12 s l)) ∧ Below w.heap.size w w' := by
  have B0 := Lib.hid (show ∀ o, Below w.heap.size w (w.alloc o) from fun o => (Below.refl _ _).alloc (Nat.le_refl _) o)
  have hl : Lst w A l c := ha.2.2
  have Q0 := Lib.hid (fun W (h : Below w.heap.size w W) => ris_test_at ⟨12, s, A, c, l⟩ W (ha.below h) hz ht)
  obtain ⟨x, rfl⟩ := isT_one ht (by omega)
  have hzx : x.size ≤ 1000000 := by simp only [sizeL] at hz; omega
  have hv := testV_one (can := can) ht
  have HV := Lib.hid (hv.trans (show gndV x = if decide (x.occ = []) = true then 1 else 0 by unfold gndV; simp))
  have Q1 := Lib.hid (fun W (h : Below w.heap.size w W) => ref_ground_at x W ((hl.below h).mem (by simp)) hzx rfl)
  generalize decide (x.occ = []) = q at *
  have HL := Lib.hid (fun W (h : Below w.heap.size w W) => lst_one (hl.below h))
  generalize testV can 12 s [x] = v at *
  clear ha hl ht hz hv
  go_enter Tryz.func11, Tryz.ntmps11
  go_wp2_with fail
  refine (Q0.out _ (B0.out _)).mono ?_
  rintro e w1 ⟨rfl, hb1⟩
  have x0 := boxN hb1 0 _ rfl
  have x2 := boxN hb1 2 _ rfl
  have H1 := Lib.hid ((B0.out _).trans (hb1.mono (by simp)))
  obtain ⟨b, o, rfl, ⟨c0, c1, c2, c3⟩, _⟩ := HL.out _ H1.out
  have u0 : ∀ o', (w1.alloc o').cell? ⟨w.heap.size, 0, none⟩ = _ := fun o' => (World.cell?_alloc_past _ _ _ (World.block_lt_of_cell? _ _ x0)).trans x0
  obtain ⟨k1, n1, s1, A1, p1, a1⟩ := x
  simp only [Tm.kind, Tm.num, Tm.name, Tm.at_, Tm.args, Tm.cap] at c0 c1 c2 c3
  clear hb1 HL
  go_wp2_with fail
  refine (Q1.out _ (H1.out.trans ((below1 _ _).mono H1.out.size))).mono ?_
  rintro e w2 ⟨rfl, hb2⟩
  have H2 := Lib.hid ((H1.out.trans ((below1 _ _).mono H1.out.size)).trans (hb2.mono (Nat.le_trans H1.out.size (below1 _ _).size)))
  clear hb2
  cases q
  · go_wp2_with fail
    go_ret
    exact ⟨by rw [HV.out]; try rfl, H2.out⟩
  · go_wp2_with fail
    go_ret
    exact ⟨by rw [HV.out]; try rfl, H2.out⟩
set_option maxHeartbeats 2000000 in
theorem test_r_at {can : Tm → Tm → Bool} (H : RSolves) (hc : Cans can) (g : Gl) (w : World) (ha : g.At w) (hz : sizeL g.args ≤ 1000000) :
    Calls Tryz.prog 11 #[g.val] w fun e w' => e = .returned (.int .i64 (testV can g.op g.name g.args)) ∧ Below w.heap.size w w' := by
  obtain ⟨op, s, A, c, l⟩ := g
  show Calls Tryz.prog 11 #[.agg #[.int .i64 op, .string s, .slice A l.length c]] w fun e w' => e = .returned (.int .i64 (testV can op s l)) ∧ Below w.heap.size w w'
  obtain ⟨b, hb⟩ : ∃ b, isT op s l = b := ⟨_, rfl⟩
  cases b
  · have B0 := Lib.hid (show ∀ o, Below w.heap.size w (w.alloc o) from fun o => (Below.refl _ _).alloc (Nat.le_refl _) o)
    have Q0 := Lib.hid (fun W (h : Below w.heap.size w W) => ris_test_at ⟨op, s, A, c, l⟩ W (ha.below h) hz hb)
    have Q1 := Lib.hid (fun W (h : Below w.heap.size w W) => ref_right_goal_at ⟨op, s, A, c, l⟩ W (ha.below h) hz rfl)
    have QH := Lib.hid (fun b W => rholds_at b W)
    have HV := Lib.hid (testV_none (can := can) hb)
    generalize testV can op s l = v at *
    simp only at Q1
    generalize goalB op s l = q at *
    clear ha hz hb
    go_enter Tryz.func11, Tryz.ntmps11
    go_wp2_with fail
    refine (Q0.out _ (B0.out _)).mono ?_
    rintro e w1 ⟨rfl, hb1⟩
    have x0 := boxN hb1 0 _ rfl
    have x1 := boxN hb1 1 _ rfl
    have x2 := boxN hb1 2 _ rfl
    have H1 := Lib.hid ((B0.out _).trans (hb1.mono (by simp)))
    clear hb1
    by_cases h1 : op = 1
    · subst h1
      go_wp2_with fail
      refine (Q1.out _ H1.out).mono ?_
      rintro e w2 ⟨rfl, hb2⟩
      have H2 := Lib.hid (H1.out.trans (hb2.mono H1.out.size))
      clear hb2
      go_wp2_with fail
      refine (QH.out _ _).mono ?_
      rintro e w4 ⟨rfl, rfl⟩
      go_wp2_with fail
      go_ret
      exact ⟨by rw [HV.out]; simp, H2.out⟩
    · have e1 : (op == 1) = false := by simpa using h1
      have HE := Lib.hid (show v = holdV false by rw [HV.out]; simp [h1])
      clear h1 HV
      go_wp2_with fail
      refine (QH.out _ _).mono ?_
      rintro e w4 ⟨rfl, rfl⟩
      go_wp2_with fail
      go_ret
      exact ⟨by rw [HE.out]; try rfl, H1.out⟩
  · rcases test_ops8 ⟨(isT_goal hb).1, (isT_goal hb).2.1⟩ with rfl | rfl | rfl | rfl | rfl | rfl | rfl | rfl
    · exact test_r_5 H hc s A c l w ha hz hb
    · exact test_r_6 H hc s A c l w ha hz hb
    · exact test_r_7 H hc s A c l w ha hz hb
    · exact test_r_8 H hc s A c l w ha hz hb
    · exact test_r_9 H hc s A c l w ha hz hb
    · exact test_r_10 H hc s A c l w ha hz hb
    · exact test_r_11 H hc s A c l w ha hz hb
    · exact test_r_12 H hc s A c l w ha hz hb
end Go.Proofs.YtgpglgehlnfggaaGreat
namespace Go.Proofs.YtgpglgehlnfggaaGreat
open Go.RowKit
def TermO (G : List Nd) (top : Nat → Nat) (D i : Nat) (w : World) (e : Ending) (w' : World) : Prop :=
  ∃ u : Tm, e = .returned u.val ∧ u.strip = sol G top D i ∧ Lie Any w.heap.size No w' u ∧ Ext w w'
structure Terming (G : List Nd) (top : Nat → Nat) (D : Nat) (lk : List Nat) (w : World) (B : Nat) (kx nx : Int) (sx : ByteArray) (ov : Value) (ts : List Tm) (j : Nat) (wr : World) : Prop where
  fr : Ext w wr
  res : Held w.heap.size wr (.int .i64 0) (.int .i64 0) (.string ⟨#[]⟩) (.slice none 0 0)
  box : Held B wr (.int .i64 kx) (.int .i64 nx) (.string sx) ov
  row : RowT Any (B + 1) wr ov ts
  len : ts.length = j
  is : stripL ts = (lk.take j).map (sol G top D)
theorem Terming.next {D B j g cap : Nat} {ov : Value} {G : List Nd} {top : Nat → Nat} {lk : List Nat} {kx nx : Int} {sx : ByteArray} {ts : List Tm} {u : Tm} {w wr w2 w4 : World} {ob : Obj}
    (h : Terming G top D lk w B kx nx sx ov ts j wr) (hw : w.heap.size < B) (hj : j < lk.length) (hf2 : Ext wr w2) (hu : u.strip = sol G top D (lk.getD j 0)) (hl : Lie Any wr.heap.size No w2 u)
    (hown : w4.ownsRow (B + 1) 40 4 (.slice (some ⟨g, 0, none⟩) (ts.length + 1) cap) (ts.length + 1) (tcells ts ++ u.cells)) (hgr : (w2.alloc ob).grownBy w4 ov.ownBlock) (hat : ov.ownBlock = some g ∨ g = (w2.alloc ob).heap.size) :
    Terming G top D lk w B kx nx sx (.slice (some ⟨g, 0, none⟩) (ts.length + 1) cap) (ts ++ [u]) (j + 1) (w4.setCell ⟨B, 3, none⟩ (.slice (some ⟨g, 0, none⟩) (ts.length + 1) cap)) := by
  have hvl : ∀ b, ov.ownBlock = some b → B + 1 ≤ b ∧ b < wr.heap.size := fun b e => own_lt h.row.1 b e
  have hB := h.box.lt
  have row2 : RowT Any (B + 1) w2 ov ts := h.row.below hf2
  have hu2 : Lie Any (B + 1) (fun k => ov.ownBlock = some k) w2 u := lie_apart h.row.1 hl (by omega) (Nat.le_refl _)
  have row4 := RowT.next row2 hu2 (below1 w2 ob) hown hgr hat
  have hnv : ∀ b, b ≤ B → some b ≠ ov.ownBlock := fun b hb e => by have := (hvl b e.symm).1; omega
  have hset : w4.grownBy (w4.setCell ⟨B, 3, none⟩ (.slice (some ⟨g, 0, none⟩) (ts.length + 1) cap)) (some B) := fr_set (fr_refl _ _) rfl _
  have hf4 : FrX (fun b => w.heap.size ≤ b) w w4 := FrX.grow (FrX.of (((h.fr.trans hf2).trans (Ext.al _ ob)))) hgr fun b e _ => by have := (hvl b e).1; omega
  refine ⟨(hf4.set (p := ⟨B, 3, none⟩) (fun _ => by show w.heap.size ≤ B; omega) _).ext (Ext.refl w) (fun b e => e), ?_, ?_, ?_, by rw [List.length_append, h.len]; rfl, ?_⟩
  · exact (((h.res.below hf2).alloc ob).fr hgr (hnv _ (by omega))).other (p := ⟨B, 3, none⟩) (by show B ≠ w.heap.size; omega) _
  · exact (((h.box.below hf2).alloc ob).fr hgr (hnv _ (Nat.le_refl _))).set3 _
  · refine row4.fr hset fun b e => by injection e with e; omega
  · rw [nat_take_next hj, List.map_append, stripL_append, h.is]
    simp [stripL, hu]
set_option maxHeartbeats 8000000 in
set_option maxRecDepth 100000 in
theorem rterm_at {lo p : Nat} {Y : Nat → Prop} {zL zC : Value} {G : List Nd} {cls : List Nat} {E : List (Nat × Nat)} {rk : Nat → Nat} {D : Nat} (hc : Closed G E (topF G (clsR cls))) (hrk : Ranked G (topF G (clsR cls)) rk D) : ∀ (n i : Nat) (w : World), i < G.length → rk (topF G (clsR cls) i) < n → RG lo Y w p zL zC G cls →
    Calls Tryz.prog 168 #[.pointer (some ⟨p, 0, none⟩), .int .i64 (clsR cls i : Nat)] w (TermO G (topF G (clsR cls)) D i w) := by
  intro n
  induction n with
  | zero => intro i w _ h; omega
  | succ n ih =>
    intro i w hi hn h
    obtain ⟨q, c1, q2, c2, e1, e2, n1, n2, n3, n4, n5, n6, n7⟩ := h.form (by omega)
    subst e1 e2
    have hsm := h.small
    have HSE := Lib.hid (sol_eq hc hrk hi)
    have HRK := Lib.hid (hrk i hi)
    have htl := hc.lt i hi
    have HOKT := Lib.hid (hc.ok _ htl)
    have HFM := Lib.hid (fun j hj => (hc.ok j hj).form)
    have HG := Lib.hid h
    have HIH := Lib.hid ih
    have HN := Lib.hid hn
    have HG1 := Lib.hid (h.alloc (.cells #[.int .i64 0, .int .i64 0, .string ⟨#[]⟩, .slice none 0 0] 40))
    have hsp := (topC_spec (G := G) (root := clsR cls) hi rfl).2.2
    obtain ⟨cc, hcc⟩ : ∃ c, c = clsR cls i := ⟨_, rfl⟩
    have HTP := Lib.hid (show topF G (clsR cls) i = topC G (clsR cls) cc from by rw [hcc]; rfl)
    have HQ := Lib.hid (shape_at (c := cc) HG1.out)
    have HL := Lib.hid (least_at (c := cc) HG1.out HFM.out)
    rw [← hcc] at hsp ⊢
    have HCC := Lib.hid hcc
    clear h ih hn hcc hrk
    rcases shapeI_cases G (clsR cls) cc with ⟨s1, e1⟩ | ⟨m, s1, e1⟩
    · obtain ⟨hk1, hls⟩ := hsp s1
      rw [e1] at HQ
      have HE := Lib.hid (show ∀ v, LeastUp G (clsR cls) cc G.length v → sol G (topF G (clsR cls)) D i = vr v from fun v hv => by
        rw [HSE.out, HTP.out, if_pos hk1, hv.is hls])
      have HFV := Lib.hid (show ∀ v, LeastUp G (clsR cls) cc G.length v → Fits v from fun v hv => by
        have h1 := form_var (HOKT.out.form) (by rw [HTP.out]; exact hk1)
        rw [hv.is hls, ← HTP.out]
        unfold Fits
        omega)
      clear s1 e1 hsp hk1 hls
      go_enter Tryz.func168, Tryz.ntmps168
      go_wp2_with (first
        | (go_at_call 166; refine (HQ.out).mono ?_; rintro e w3 ⟨rfl, rfl⟩)
        | (go_at_call 167; refine (HL.out).mono ?_; rintro e w3 ⟨v, rfl, hv, rfl⟩))
      refine bodyPost_ret (v := .agg #[.int .i64 1, .int .i64 v, .string ⟨#[]⟩, .slice none 0 0]) (by simp [results, Tryz.results168, go_sem]) rfl ?_
      refine ⟨vr v, rfl, (HE.out v hv).symm, fun W _ _ => var_at W (HFV.out v hv), ?_⟩
      exact Ext.al _ _
    · have hml := (shapeOf_some s1).1
      have hkm := (shapeOf_some s1).2.2
      rw [e1] at HQ
      have htm : topF G (clsR cls) i = m := by rw [HTP.out, topC_shape s1]
      have HSM := Lib.hid (show sol G (topF G (clsR cls)) D i = .mk (nd G m).tm.kind (nd G m).tm.num (nd G m).tm.name none 0 ((nd G m).kids.map (sol G (topF G (clsR cls)) D)) from by rw [HSE.out, htm, if_neg hkm])
      have HRM := Lib.hid (show rk m < n + 1 ∧ ∀ c ∈ (nd G m).kids, rk (topF G (clsR cls) c) < rk m from by rw [← htm]; exact ⟨HN.out, HRK.out.2⟩)
      have HKM := Lib.hid (fun c hcc => (hc.ok m hml).mem (c := c) hcc)
      have c0 := HG.out.hl
      have c0x := al1 c0
      have c0y := al2 c0
      obtain ⟨d0, d1, d2, d3⟩ := HG.out.cells hml
      have d0x := al1 d0
      have d0y := al2 d0
      have d1x := al1 d1
      have d1y := al2 d1
      have d2x := al1 d2
      have d2y := al2 d2
      have gm0 : (0 : Int) ≤ (m : Int) := by omega
      have hkl : (nd G m).kids.length ≤ 1000000 := (HG.out.fine m hml).kids
      have HFI := Lib.hid (HG.out.fine m hml)
      obtain ⟨lk, hlk⟩ : ∃ l, l = (nd G m).kids := ⟨_, rfl⟩
      obtain ⟨tt, htt⟩ : ∃ l, l = (nd G m).tm := ⟨_, rfl⟩
      rw [← hlk] at HSM HRM HKM hkl d3
      rw [← htt] at HSM d0 d1 d2 d0x d1x d2x d0y d1y d2y
      have HFI := Lib.hid (show Fits tt.kind ∧ Fits tt.num ∧ tt.name.size ≤ maxLen from by rw [htt]; exact ⟨HFI.out.kind, HFI.out.num, HFI.out.name⟩)
      have HLK := Lib.hid hlk
      obtain ⟨kx, nx, sx, Ax, cx, lx⟩ := tt
      simp only [Tm.kind, Tm.num, Tm.name] at HSM HFI d0 d1 d2 d0x d1x d2x d0y d1y d2y
      obtain ⟨it, hit, iz0, iz1, iz2⟩ := info_parts term_info
      clear s1 e1 hsp hkm htm hlk htt HL HSE HRK HN HTP HFM HOKT
      have HT0 := Lib.hid (show Terming G (topF G (clsR cls)) D lk w (w.heap.size + 1) kx nx sx (.slice none 0 0) [] 0 ((w.alloc (.cells #[.int .i64 0, .int .i64 0, .string ⟨#[]⟩, .slice none 0 0] 40)).alloc (.cells #[.int .i64 kx, .int .i64 nx, .string sx, .slice none 0 0] 40)).drew from by
        obtain ⟨h1, h2⟩ := two_boxes w (.int .i64 0) (.int .i64 0) (.string ⟨#[]⟩) (.slice none 0 0) (.int .i64 kx) (.int .i64 nx) (.string sx) (.slice none 0 0) 40
        exact ⟨((Ext.al w _).trans (Ext.al _ _)).trans (Ext.drew _), h1.below (Below.refl _ _).drew, h2.below (Below.refl _ _).drew, RowT.nil _ _ _, rfl, rfl⟩)
      go_enter Tryz.func168, Tryz.ntmps168
      go_upto_region 4 with (first
        | (go_at_call 166; refine (HQ.out).mono ?_; rintro e w3 ⟨rfl, rfl⟩))
      go_cut [6] from 8 to 41 (fun s6 W => s6 = .pointer (some ⟨w.heap.size + 1, 0, none⟩) ∧ Hid (Terming G (topF G (clsR cls)) D lk w (w.heap.size + 1) kx nx sx (.slice none 0 0) [] 0 W))
      case first =>
        go_region
        go_wp2_with fail
        go_meet
        exact ⟨rfl, HT0⟩
      case rest =>
      obtain ⟨rfl, HT0'⟩ := hcut
      clear HT0 c0 c0x c0y d0 d0x d0y d1 d1x d1y d2 d2x d2y d3 HQ
      have HT0 := HT0'
      clear HT0'
      go_wp2_with fail
      go_loopw [7] (fun s7 wr => ∃ (j : Nat) (ov : Value) (ts : List Tm), j ≤ lk.length ∧ s7 = .int .i64 (j : Nat) ∧ Hid (Terming G (topF G (clsR cls)) D lk w (w.heap.size + 1) kx nx sx ov ts j wr)) (fun s7 _ => lk.length - (intOf s7).toNat)
      case atStart => exact ⟨0, _, [], Nat.zero_le _, rfl, HT0⟩
      case round =>
        clear HT0
        obtain ⟨j, ov, ts, hj, rfl, HT⟩ := hrel
        have HGR := Lib.hid (HG.out.ext HT.out.fr)
        have c0 := HGR.out.hl
        have c2 := HGR.out.hc
        have d3 := (HGR.out.cells hml).2.2.2
        rw [← HLK.out] at d3
        by_cases hlt : j < lk.length
        · obtain ⟨bk, ek, a1, a2, a3, a4⟩ := (HGR.out.kids m hml).cells (by rw [← HLK.out]; omega)
          have r1 := a4 j (by rw [← HLK.out]; exact hlt)
          rw [ek] at d3
          rw [← HLK.out] at r1
          obtain ⟨ck, hck⟩ : ∃ c, c = lk.getD j 0 := ⟨_, rfl⟩
          rw [← hck] at r1
          have hkm : ck ∈ lk := by rw [hck]; exact nat_getD_mem hlt
          have hkG : ck < G.length := HKM.out ck hkm
          have d4 := HGR.out.class hkG
          have Q1 := Lib.hid (HIH.out ck wr.drew hkG (by have h1 := HRM.out.2 ck hkm; have h2 := HRM.out.1; omega) HGR.out.drew)
          have q3 := HT.out.box.c3
          have htl : ts.length ≤ 1000000 := by have := HT.out.len; omega
          have hzB := HT.out.box.lt
          have HNX := Lib.hid (fun u w2 w4 g cap ob hf2 hu hl hown hgr hat => HT.out.next (u := u) (w2 := w2) (w4 := w4) (g := g) (cap := cap) (ob := ob) (Nat.lt_succ_self _) hlt hf2 (by rw [← hck]; exact hu) hl hown hgr hat)
          have HOW := Lib.hid (fun w2 (hf2 : Ext wr w2) => show RowT Any (w.heap.size + 1 + 1) w2 ov ts ∧ Held (w.heap.size + 1) w2 (.int .i64 kx) (.int .i64 nx) (.string sx) ov from ⟨HT.out.row.below hf2, HT.out.box.below hf2⟩)
          have HOL := Lib.hid (fun b e => own_lt HT.out.row.1 b e)
          clear a1 a2 a3 a4 ek hck hkm
          generalize clsR cls ck = cck at *
          go_wp2_with fail
          go_region_law (first
            | (go_simp; go_at_call 168; refine (Q1.out).mono ?_; rintro e w2 ⟨u, rfl, m1, m2, m3⟩; have m7 := Ext.undrew m3; have OW := Lib.hid (HOW.out w2 m7); have q4 := OW.out.2.c3; have hz4 := OW.out.2.lt; have hm8 := m7.size; have MM := Lib.hid (And.intro m1 (And.intro (show Lie Any wr.heap.size No w2 u from m2) m7)); clear m1 m2 m3 m7; obtain ⟨k2, n2, s2, A2, p2, a2⟩ := u)
            | (refine step_append_lies _ (by rfl) _ _ _ (by rfl) (w.heap.size + 1 + 1) 40 it _ 4 56 Tryz.underlying22 hit iz0 iz1 iz2 rfl (by omega) ov ts.length (tcells ts) (by rfl) (OW.out.1.1.alloc _) ⟨w2.heap.size, 0, none⟩ 1 1 [.int .i64 k2, .int .i64 n2, .string s2, .slice A2 a2.length p2] (by rfl) (by rfl) (World.news_of_block (cs := #[.int .i64 k2, .int .i64 n2, .string s2, .slice A2 a2.length p2]) (t := 40) (fr := (0, 0)) (heap_alloc_new w2 _)) (by simp [Value.oneCell']) (by omega) (by unfold maxLen; omega) (by omega) (by simp; omega) (w2.heap.size + 1) (by simp) ?_; intro g cp w4 hown hgrow hat hgl; have B4 := Lib.hid ((OW.out.2.alloc (.cells #[.int .i64 k2, .int .i64 n2, .string s2, .slice A2 a2.length p2] 40)).fr hgrow (fun e => by have := (HOL.out _ e.symm).1; omega)); have q5 := B4.out.c3; have f5 := B4.out.free 3; have hz5 := B4.out.lt))
          all_goals
            have HD := Lib.hid (HNX.out (.mk k2 n2 s2 A2 p2 a2) w2 w4 g cp _ MM.out.2.2 MM.out.1 MM.out.2.1 hown hgrow (by rcases hat with h | h; exact .inl h; exact .inr (by rw [h]; simp)))
            clear hown hgrow hat hgl B4 OW MM
            go_wp2_with fail
            go_roundw
            case rel => exact ⟨j + 1, _, _, by omega, by go_num, HD⟩
            case measure => simp [intOf]; omega
        · obtain rfl : j = lk.length := by omega
          obtain ⟨A9, c9, rfl, _⟩ := HT.out.row.form
          have HST := Lib.hid (show stripL ts = lk.map (sol G (topF G (clsR cls)) D) from by have := HT.out.is; rw [List.take_length] at this; exact this)
          have HLI := Lib.hid (fun W hW => HT.out.row.lies W trivial hW)
          have HFR := Lib.hid HT.out.fr
          obtain ⟨hz6, g0, g1, g2, g3, _⟩ := HT.out.box
          obtain ⟨hz4, e0, e1, e2, e3, ff⟩ := HT.out.res
          have f0 := ff 0
          have f1 := ff 1
          have f2 := ff 2
          have f3 := ff 3
          clear ff HT
          go_wp2_with fail
          refine bodyPost_ret (v := .agg #[.int .i64 kx, .int .i64 nx, .string sx, .slice A9 ts.length c9]) (by simp [results, Tryz.results168, go_sem, e0, e1, e2, e3]) rfl ?_
          have hset : wr.grownBy ((((wr.setCell ⟨w.heap.size, 0, none⟩ (.int .i64 kx)).setCell ⟨w.heap.size, 1, none⟩ (.int .i64 nx)).setCell ⟨w.heap.size, 2, none⟩ (.string sx)).setCell ⟨w.heap.size, 3, none⟩ (.slice A9 ts.length c9)) (some w.heap.size) :=
            fr_set (p := ⟨w.heap.size, 3, none⟩) (fr_set (p := ⟨w.heap.size, 2, none⟩) (fr_set (p := ⟨w.heap.size, 1, none⟩) (fr_set (p := ⟨w.heap.size, 0, none⟩) (fr_refl wr (some w.heap.size)) rfl _) rfl _) rfl _) rfl _
          refine ⟨.mk kx nx sx A9 c9 ts, rfl, ?_, lie_row (lo := w.heap.size + 1 + 1) HFI.out (fun W hW => HLI.out W fun b h1 h2 h3 => ?_) (by omega), (FrX.grow (X := fun b => w.heap.size ≤ b) (FrX.of HFR.out) hset (fun b e _ => by injection e with e; omega)).ext (Ext.refl w) (fun b e => e)⟩
          · simp only [Tm.strip]
            rw [HST.out, HSM.out]
          · exact (hW b h1 (Nat.lt_of_lt_of_le h2 hset.size) h3).trans (hset.block b h2 (fun e => by injection e with e; omega))
end Go.Proofs.YtgpglgehlnfggaaGreat
namespace Go.Proofs.YtgpglgehlnfggaaGreat
open Go.RowKit
structure Ins (G : List Nd) (top : Nat → Nat) (D : Nat) (w5 : World) (i : Nat) (A : Option Addr) (acc : List Bd) (c : Nat) (bd : List Nat) (wr : World) : Prop where
  bl : BLst wr A acc c
  ex : Ext w5 wr
  is : stripB acc = bindsOf G top D bd
  mem : ∀ m, m ∈ bd ↔ m < i ∧ (nd G m).tm.kind = 1 ∧ top m ≠ m
  pw : bd.Pairwise fun a b => (nd G a).tm.num < (nd G b).tm.num
section
variable {G : List Nd} {top : Nat → Nat} {D i c : Nat} {w5 wr w' : World} {A : Option Addr} {acc : List Bd} {bd : List Nat}
theorem Ins.start (G : List Nd) (top : Nat → Nat) (D : Nat) (w5 : World) : Ins G top D w5 0 none [] 0 [] w5 := ⟨BLst.nil _, Ext.refl _, rfl, fun m => by simp, List.Pairwise.nil⟩
theorem Ins.ext (h : Ins G top D w5 i A acc c bd wr) (e : Ext wr w') : Ins G top D w5 i A acc c bd w' := ⟨h.bl.below e, h.ex.trans e, h.is, h.mem, h.pw⟩
theorem Ins.skip (h : Ins G top D w5 i A acc c bd wr) (hn : ¬ ((nd G i).tm.kind = 1 ∧ top i ≠ i)) : Ins G top D w5 (i + 1) A acc c bd wr :=
  ⟨h.bl, h.ex, h.is, fun m => by
    rw [h.mem m]
    constructor
    · rintro ⟨h1, h2⟩; exact ⟨by omega, h2⟩
    · rintro ⟨h1, h2⟩
      by_cases e : m = i
      · rw [e] at h2; exact absurd h2 hn
      · exact ⟨by omega, h2⟩, h.pw⟩
theorem Ins.bound (h : Ins G top D w5 G.length A acc c bd wr) : BoundIs G top bd := ⟨fun m => h.mem m, h.pw⟩
theorem Ins.len (h : Ins G top D w5 i A acc c bd wr) : acc.length = bd.length := by
  have := congrArg List.length h.is
  rw [stripB_len] at this
  simpa [bindsOf] using this
theorem Ins.var (h : Ins G top D w5 i A acc c bd wr) {k : Nat} (hk : k < acc.length) : (acc.getD k default).var = (nd G (bd.getD k 0)).tm.num := by
  have hl := h.len
  have h1 := stripB_getD acc hk
  have h2 : (bindsOf G top D bd).getD k default = ⟨(nd G (bd.getD k 0)).tm.num, sol G top D (bd.getD k 0)⟩ := by
    simp [bindsOf, List.getD, show k < bd.length by omega]
  rw [h.is, h2] at h1
  have := congrArg Bd.var h1
  simpa [Bd.strip] using this.symm
theorem take_strip (acc : List Bd) (k : Nat) : stripB (acc.take k) = (stripB acc).take k := by simp [stripB, List.map_take]
theorem drop_strip (acc : List Bd) (k : Nat) : stripB (acc.drop k) = (stripB acc).drop k := by simp [stripB, List.map_drop]
theorem Ins.put (h : Ins G top D w5 i A acc c bd wr) (hv : VarU G) (hi : i < G.length) (hb : (nd G i).tm.kind = 1 ∧ top i ≠ i) {k : Nat} (hk : k ≤ acc.length) (h1 : ∀ m, m < k → (acc.getD m default).var < (nd G i).tm.num) (h2 : k < acc.length → ¬ (acc.getD k default).var < (nd G i).tm.num)
    {u : Tm} (hu : u.strip = sol G top D i) {A' : Option Addr} {c' : Nat} (hbl : BLst w' A' (acc.take k ++ [⟨(nd G i).tm.num, u⟩] ++ acc.drop k) c') (he : Ext w5 w') :
    Ins G top D w5 (i + 1) A' (acc.take k ++ [⟨(nd G i).tm.num, u⟩] ++ acc.drop k) c' (bd.take k ++ [i] ++ bd.drop k) w' := by
  have hl := h.len
  have hne : ∀ m ∈ bd, (nd G m).tm.num ≠ (nd G i).tm.num := fun m hm e => by
    have := (h.mem m).1 hm
    have := hv m i (by omega) hi this.2.1 hb.1 e
    omega
  have hlt : ∀ m ∈ bd.take k, (nd G m).tm.num < (nd G i).tm.num := fun m hm => by
    obtain ⟨j, hj, e⟩ := List.mem_iff_getElem.1 hm
    rw [List.length_take] at hj
    have h3 := h1 j (by omega)
    rw [h.var (by omega)] at h3
    rw [List.getElem_take] at e
    rwa [show bd.getD j 0 = m by simp [List.getD, show j < bd.length by omega, e]] at h3
  have hgt : ∀ m ∈ bd.drop k, (nd G i).tm.num < (nd G m).tm.num := fun m hm => by
    obtain ⟨j, hj, e⟩ := List.mem_iff_getElem.1 hm
    rw [List.length_drop] at hj
    have hk' : k < acc.length := by omega
    have h3 := h2 hk'
    rw [h.var hk'] at h3
    have hmem : bd.getD k 0 ∈ bd := nat_getD_mem (by omega)
    have h4 := hne _ hmem
    rw [List.getElem_drop] at e
    by_cases ej : j = 0
    · subst ej
      have : bd.getD k 0 = m := by
        simp only [Nat.add_zero] at e
        simp [List.getD, show k < bd.length by omega, e]
      rw [this] at h3 h4
      omega
    · have hp := List.pairwise_iff_getElem.1 h.pw k (k + j) (by omega) (by omega) (by omega)
      rw [e] at hp
      have : bd.getD k 0 = bd[k] := by simp [List.getD, show k < bd.length by omega]
      rw [this] at h3 h4
      omega
  refine ⟨hbl, he, ?_, fun m => ?_, ?_⟩
  · rw [stripB_append, stripB_append, take_strip, drop_strip, h.is]
    simp [stripB, bindsOf, Bd.strip, hu, List.map_take, List.map_drop]
  · have hsplit : m ∈ bd ↔ m ∈ bd.take k ∨ m ∈ bd.drop k := by rw [← List.mem_append, List.take_append_drop]
    simp only [List.mem_append, List.mem_singleton]
    constructor
    · rintro ((hm | rfl) | hm)
      · have := (h.mem m).1 (hsplit.2 (.inl hm)); exact ⟨by omega, this.2⟩
      · exact ⟨by omega, hb⟩
      · have := (h.mem m).1 (hsplit.2 (.inr hm)); exact ⟨by omega, this.2⟩
    · rintro ⟨hm, hm2⟩
      by_cases e : m = i
      · exact .inl (.inr e)
      · rcases hsplit.1 ((h.mem m).2 ⟨by omega, hm2⟩) with h3 | h3
        · exact .inl (.inl h3)
        · exact .inr h3
  · rw [List.append_assoc, List.pairwise_append]
    refine ⟨h.pw.sublist (List.take_sublist k bd), ?_, fun a ha b hb' => ?_⟩
    · rw [List.singleton_append, List.pairwise_cons]
      exact ⟨hgt, h.pw.sublist (List.drop_sublist k bd)⟩
    · rcases List.mem_append.1 hb' with hb' | hb'
      · rw [List.mem_singleton.1 hb']; exact hlt a ha
      · exact Int.lt_trans (hlt a ha) (hgt b hb')
end
theorem sol_large {G : List Nd} {E : List (Nat × Nat)} {top r : Nat → Nat} {D i : Nat} {F : List (Tm × Tm)} (h : Closed G E top) (hr : Ranked G top r D) (hF : ∀ f, Unif F f ↔ ∀ p ∈ E, ndv f G p.1 = ndv f G p.2) (hi : i < G.length) (hb : (nd G i).tm.kind = 1 ∧ top i ≠ i) (hs : ¬ ((sol G top D i).size ≤ 200 ∧ (sol G top D i).depth ≤ 20)) : Out F [] 6 := by
  obtain ⟨bd, hbd⟩ := bound_exists (top := top) h.varu
  refine .inr ⟨_, closed_sol h hr hbd hF, .inr ⟨?_, rfl, rfl⟩⟩
  rw [Bool.eq_false_iff]
  intro ha
  have h1 := List.all_eq_true.1 ha ⟨(nd G i).tm.num, sol G top D i⟩ (List.mem_map.2 ⟨i, (hbd.1 i).2 ⟨hi, hb⟩, rfl⟩)
  unfold Tm.right at h1
  simp only [Bool.and_eq_true, decide_eq_true_eq] at h1
  exact hs h1.2
theorem sol_fine {G : List Nd} {E : List (Nat × Nat)} {top r : Nat → Nat} {D : Nat} {F : List (Tm × Tm)} {bd : List Nat} (h : Closed G E top) (hr : Ranked G top r D) (hF : ∀ f, Unif F f ↔ ∀ p ∈ E, ndv f G p.1 = ndv f G p.2) (hb : BoundIs G top bd) (hs : ∀ i ∈ bd, (sol G top D i).size ≤ 200 ∧ (sol G top D i).depth ≤ 20) : Out F (bindsOf G top D bd) 0 := by
  refine .inr ⟨_, closed_sol h hr hb hF, .inl ⟨?_, rfl, rfl⟩⟩
  refine List.all_eq_true.2 fun x hx => ?_
  obtain ⟨i, hi, rfl⟩ := List.mem_map.1 hx
  unfold Tm.right
  simp only [Bool.and_eq_true, decide_eq_true_eq]
  exact ⟨(sol_form h hr i ((hb.1 i).1 hi).1).2, hs i hi⟩
end Go.Proofs.YtgpglgehlnfggaaGreat
