/-
  WkSyntaxAppends.
-/
import Derived.Test.YtaojnljppcnhjaaGreatDoorMh35
namespace Go.Proofs.YtaojnljppcnhjaaGreatDoor.syntaxAppends
open Go.ChangeShapes Go.WideShapes Go.ChangeAt Go.RowKit Go.Sort
set_option linter.unusedVariables false
set_option maxHeartbeats 8000000 in
set_option maxRecDepth 100000 in
theorem walk (a0 : ByteArray) (a1 : ByteArray) (w : World) (w0 : a0.size ≤ maxLen) (w1 : a1.size ≤ maxLen) :
    Calls Tryz.prog 8 #[.string a0, .string a1] w fun e w' => e = .returned (.bool true) ∧ Below w.heap.size w w' := by
  have QE := Lib.hid awake_at
  by_cases h1 : 4000 < a0.size
  · have h1' : (4000 : Int) < ((a0.size : Nat) : Int) := by omega
    clear h1 w0 w1
    go_enter Tryz.func8, Tryz.ntmps8
    go_wp2_with fail
    refine (QE.out _).mono ?_
    rintro e w2 ⟨rfl, hb3⟩
    go_wp2_with fail
    go_ret
    exact ⟨rfl, hb3⟩
  have h1' : decide ((4000 : Int) < ((a0.size : Nat) : Int)) = false := by simp; omega
  by_cases h2 : 4000 < a1.size
  · have h2' : (4000 : Int) < ((a1.size : Nat) : Int) := by omega
    clear h1 h2 w0 w1
    go_enter Tryz.func8, Tryz.ntmps8
    go_wp2_with fail
    refine (QE.out _).mono ?_
    rintro e w2 ⟨rfl, hb3⟩
    go_wp2_with fail
    go_ret
    exact ⟨rfl, hb3⟩
  have h2' : decide ((4000 : Int) < ((a1.size : Nat) : Int)) = false := by simp; omega
  have hs0 : a0.size ≤ 4000 := by omega
  have hs1 : a1.size ≤ 4000 := by omega
  have Q1 := Lib.hid (fun W => out_P a0 (by omega) W)
  have Q2 := Lib.hid (fun W => out_R2 a1 (by omega) W)
  have hz : (a0 ++ ({ data := #[10] } : ByteArray) ++ a1).size ≤ 100000 := by
    simp only [ByteArray.size_append]
    have : ({ data := #[10] } : ByteArray).size = 1 := rfl
    omega
  have Q3 := Lib.hid (fun W => out_P2 (a0 ++ ({ data := #[10] } : ByteArray) ++ a1) hz W)
  have HApp := Lib.hid (fun (x : List Dl × List Rs) (q : Rs) (hx : wholeS PF a0 = .ok x) (hq : wholeS RF a1 = .ok q) (hn : x.2.length < 40) => show wholeS PF (a0 ++ ({ data := #[10] } : ByteArray) ++ a1) = .ok (x.1, x.2 ++ [q]) from whole_app (u := a0 ++ ({ data := #[10] } : ByteArray) ++ a1) (by omega) (by omega) (by simp) hx hq hn)
  clear h1 h2 w0 w1 hz
  go_enter Tryz.func8, Tryz.ntmps8
  go_wp2_with fail
  refine (Q1.out _).mono ?_
  rintro e x1 ⟨dA, rA, dn, dc, rn, rc, p, er, rfl, hb1, ho1⟩
  have HB1 := Lib.hid hb1
  have HO1 := Lib.hid ho1
  have HA1 := Lib.hid ((RowKit.Below.refl x1.heap.size x1).alloc (Nat.le_refl _) (.cells #[.slice dA dn dc, .slice rA rn rc] 26))
  have HX1 := Lib.hid (BoxL.new x1 [.slice dA dn dc, .slice rA rn rc] 26)
  clear hb1 ho1 Q1
  go_wp2_with fail
  refine (Q2.out _).mono ?_
  rintro e x2 ⟨⟨t, ks, rs, gs, bs, kA, kc, pA, pc, gA, gc, bA, bc, n⟩, p', er', he, hb2, ho2, hbl⟩
  have he2 : e = .returned (.tuple #[.agg #[.string (S t), .slice kA ks.length kc, .slice pA rs.length pc, .slice gA gs.length gc, .slice bA bs.length bc, .int .i64 (n : Int)], .int .i64 (p' : Int), .int .i64 er']) := he
  subst he2
  have HO2 := Lib.hid ho2
  have HBl := Lib.hid hbl
  have HX2 := Lib.hid (HX1.out.below hb2)
  have HA2 := Lib.hid (HA1.out.trans (hb2.mono HA1.out.size))
  have HX3 := Lib.hid (HX2.out.alloc (.cells #[.string (S t), .slice kA ks.length kc, .slice pA rs.length pc, .slice gA gs.length gc, .slice bA bs.length bc, .int .i64 (n : Int)] 35))
  have HY3 := Lib.hid (BoxL.new x2 [.string (S t), .slice kA ks.length kc, .slice pA rs.length pc, .slice gA gs.length gc, .slice bA bs.length bc, .int .i64 (n : Int)] 35)
  have HA3 := Lib.hid (HA2.out.alloc HA2.out.size (.cells #[.string (S t), .slice kA ks.length kc, .slice pA rs.length pc, .slice gA gs.length gc, .slice bA bs.length bc, .int .i64 (n : Int)] 35))
  have HBz := Lib.hid (HB1.out.trans (HA3.out.mono HB1.out.size))
  obtain ⟨x3, hx3⟩ : ∃ x3, x2.alloc (.cells #[.string (S t), .slice kA ks.length kc, .slice pA rs.length pc, .slice gA gs.length gc, .slice bA bs.length bc, .int .i64 (n : Int)] 35) = x3 := ⟨_, rfl⟩
  have HLt := Lib.hid (show x1.heap.size < x2.heap.size from HX2.out.lt)
  have HSz := Lib.hid (show x2.heap.size < x3.heap.size by rw [← hx3]; simp)
  have H23 := Lib.hid (show RowKit.Below x2.heap.size x2 x3 by rw [← hx3]; exact (RowKit.Below.refl _ _).alloc (Nat.le_refl _) _)
  rw [hx3] at HX3 HY3 HA3 HBz
  clear hb2 ho2 he Q2 HA1 HX1 HX2 hbl HA2
  by_cases h0 : er = 0
  · subst h0
    by_cases h0' : er' = 0
    · subst h0'
      rcases HO1.out with ⟨_, rfl, x, hx, hm⟩ | ⟨h, _, _⟩
      · rcases HO2.out with ⟨_, rfl, hq, hmr⟩ | ⟨h, _, _⟩
        · obtain ⟨k1, k2, k3⟩ := whole_P_ok hx
          obtain ⟨ds, rz, _, _, _, _, e1, rfl, hd, hr⟩ := hm
          simp only [Array.mk.injEq, List.cons.injEq, Value.slice.injEq, and_true] at e1
          obtain ⟨⟨rfl, rfl, rfl⟩, rfl, rfl, rfl⟩ := e1
          simp only [List.length_map] at k2
          have HK1 := Lib.hid k1
          have HK3 := Lib.hid k3
          have HQ := Lib.hid hq
          have HXx := Lib.hid hx
          have HMr := Lib.hid hmr
          have HD := Lib.hid hd
          have HR := Lib.hid hr
          have hr8 : rz.length ≤ 9223372036854775807 := by omega
          obtain ⟨c0, c1⟩ := get_two HX3.out
          clear hx hd hr hq hmr k1 k3 HO1 HO2
          by_cases h40 : 40 ≤ rz.length
          · have h40' : (40 : Int) ≤ (rz.length : Int) := by omega
            go_wp2_with (go_at_call 9; (with_reducible refine (QE.out _).mono ?_); rintro e w5 ⟨rfl, hb5⟩; have HB5 := Lib.hid (HBz.out.trans (hb5.mono HBz.out.size)); clear hb5)
            go_ret
            exact ⟨rfl, HB5.out⟩
          · have h40' : ¬ (40 : Int) ≤ (rz.length : Int) := by omega
            have HW := Lib.hid (HApp.out _ _ HXx.out HQ.out (by simp only [List.length_map]; omega))
            go_wp2_with fail
            refine (Q3.out _).mono ?_
            rintro e x4 ⟨dA', rA', dn', dc', rn', rc', p3, er3, rfl, hb4, ho4⟩
            rcases ho4 with ⟨rfl, rfl, y, hy, hm4⟩ | ⟨_, hy⟩
            · rw [HW.out] at hy
              injection hy with hy
              have HM4 := Lib.hid hm4
              have HY := Lib.hid hy
              have H34 := Lib.hid hb4
              have HX4 := HX3.out.below hb4
              have HY4 := HY3.out.below hb4
              have HX5 := Lib.hid (HX4.alloc (.cells #[.slice dA' dn' dc', .slice rA' rn' rc'] 26))
              have HY5 := Lib.hid (HY4.alloc (.cells #[.slice dA' dn' dc', .slice rA' rn' rc'] 26))
              have HZ5 := Lib.hid (BoxL.new x4 [.slice dA' dn' dc', .slice rA' rn' rc'] 26)
              have H45 := Lib.hid ((RowKit.Below.refl x4.heap.size x4).alloc (Nat.le_refl _) (.cells #[.slice dA' dn' dc', .slice rA' rn' rc'] 26))
              obtain ⟨x5, hx5⟩ : ∃ x5, x4.alloc (.cells #[.slice dA' dn' dc', .slice rA' rn' rc'] 26) = x5 := ⟨_, rfl⟩
              have HS5 := Lib.hid (show x5.heap.size = x4.heap.size + 1 by rw [← hx5]; simp)
              rw [hx5] at HX5 HY5 HZ5 H45
              clear hy hm4 hb4 HX4 HY4 c0 c1
              obtain ⟨c0, c1⟩ := get_two HX5.out
              obtain ⟨d0, d1, d2, d3, d4, d5, _, _, _, _, _, _⟩ := HY5.out.get6
              have HBq := Lib.hid (fun b (hb : b ∈ elRu.blk ⟨t, ks, rs, gs, bs, kA, kc, pA, pc, gA, gc, bA, bc, n⟩) => show b ≠ x1.heap.size ∧ b < x5.heap.size by
                have h1 := HBl.out b hb
                have h2 := HSz.out
                have h3 := H34.out.size
                have h4 := HS5.out
                simp only [World.size_alloc] at h1
                omega)
              have HD5 := Lib.hid (((HD.out.below HA3.out).below H34.out).below H45.out)
              have HDl := Lib.hid (fun b (hb : b ∈ blkR elDl dA ds) => show b ≠ x1.heap.size by have := HD.out.bd b hb; omega)
              have HRl := Lib.hid (fun b (hb : b ∈ blkR elRu rA rz) => show b ≠ x1.heap.size by have := HR.out.bd b hb; omega)
              have HV5 := Lib.hid (((HMr.out.below H23.out).below H34.out).below H45.out)
              have HB5x := Lib.hid (HBz.out.trans ((H34.out.trans (H45.out.mono H34.out.size)).mono HBz.out.size))
              have HQ5 := Lib.hid (show RdPl x3.heap.size x4 #[.slice dA' dn' dc', .slice rA' rn' rc'] y from HM4.out)
              have HSx := Lib.hid (fun W (h : RowKit.Below x5.heap.size x5 W) => And.intro ((h.cell (World.block_lt_of_cell? _ _ c1)).trans c1) (And.intro ((h.cell (World.block_lt_of_cell? _ _ d0)).trans d0) (And.intro ((h.cell (World.block_lt_of_cell? _ _ d1)).trans d1) (And.intro ((h.cell (World.block_lt_of_cell? _ _ d2)).trans d2) (And.intro ((h.cell (World.block_lt_of_cell? _ _ d3)).trans d3) (And.intro ((h.cell (World.block_lt_of_cell? _ _ d4)).trans d4) ((h.cell (World.block_lt_of_cell? _ _ d5)).trans d5)))))))
              have HNil := Lib.hid (rd_nil HR.out)
              have HR5 := Lib.hid (((HR.out.below HA3.out).below H34.out).below H45.out)
              have HNw := Lib.hid (fun W (h : RowKit.Below x5.heap.size x5 W) => rd_news (HR5.out.below h))
              have HOne := Lib.hid (cellsL_one elRu rz)
              have HOne2 := Lib.hid (show ∀ u ∈ ([.string (S t), .slice kA ks.length kc, .slice pA rs.length pc, .slice gA gs.length gc, .slice bA bs.length bc, .int .i64 (n : Int)] : List Value), u.oneCell' = true from fun u hu => by
                simp only [List.mem_cons, List.not_mem_nil, or_false] at hu
                rcases hu with rfl | rfl | rfl | rfl | rfl | rfl <;> rfl)
              have c1x := fun o => (HSx.out _ (al5 (RowKit.Below.refl x5.heap.size x5) o)).1
              have c1y := fun o o2 => (HSx.out _ (al5 (al5 (RowKit.Below.refl x5.heap.size x5) o) o2)).1
              have d0x := fun o => (HSx.out _ (al5 (RowKit.Below.refl x5.heap.size x5) o)).2.1
              have d0y := fun o o2 => (HSx.out _ (al5 (al5 (RowKit.Below.refl x5.heap.size x5) o) o2)).2.1
              have d1x := fun o => (HSx.out _ (al5 (RowKit.Below.refl x5.heap.size x5) o)).2.2.1
              have d1y := fun o o2 => (HSx.out _ (al5 (al5 (RowKit.Below.refl x5.heap.size x5) o) o2)).2.2.1
              have d2x := fun o => (HSx.out _ (al5 (RowKit.Below.refl x5.heap.size x5) o)).2.2.2.1
              have d2y := fun o o2 => (HSx.out _ (al5 (al5 (RowKit.Below.refl x5.heap.size x5) o) o2)).2.2.2.1
              have d3x := fun o => (HSx.out _ (al5 (RowKit.Below.refl x5.heap.size x5) o)).2.2.2.2.1
              have d3y := fun o o2 => (HSx.out _ (al5 (al5 (RowKit.Below.refl x5.heap.size x5) o) o2)).2.2.2.2.1
              have d4x := fun o => (HSx.out _ (al5 (RowKit.Below.refl x5.heap.size x5) o)).2.2.2.2.2.1
              have d4y := fun o o2 => (HSx.out _ (al5 (al5 (RowKit.Below.refl x5.heap.size x5) o) o2)).2.2.2.2.2.1
              have d5x := fun o => (HSx.out _ (al5 (RowKit.Below.refl x5.heap.size x5) o)).2.2.2.2.2.2
              have d5y := fun o o2 => (HSx.out _ (al5 (al5 (RowKit.Below.refl x5.heap.size x5) o) o2)).2.2.2.2.2.2
              go_wp2_with fail
              go_region_law (first | (refine step_append_r (by rfl) _ _ (by rfl) x5.heap.size _ rz.length _ (elRu.cellsL rz) (by rfl) (by first | exact HO7.out | exact HO7.out.drew | exact World.ownsRow.alloc HO7.out _ | exact (World.ownsRow.alloc HO7.out _).drew | fail) _ 1 1 [.string (S t), .slice kA ks.length kc, .slice pA rs.length pc, .slice gA gs.length gc, .slice bA bs.length bc, .int .i64 (n : Int)] (by rfl) (by rfl) (fun e => by cases e) (fun ad e => by injection e with e; subst e; exact (by first | exact news_5a | exact news_5b HG7.out | exact news_5b (undrew_gr HG7.out) | exact news_5c HG7.out | exact news_5c (undrew_gr HG7.out) | fail)) HOne2.out (by omega) (bs5 (by (first | exact RowKit.Below.refl _ _ | exact HB8.out | exact HB7.out | ((with_reducible refine al5 ?_ _); (first | exact RowKit.Below.refl _ _ | exact HB8.out | exact HB7.out | ((with_reducible refine al5 ?_ _); (first | exact RowKit.Below.refl _ _ | exact HB8.out | exact HB7.out | ((with_reducible refine al5 ?_ _); (first | exact RowKit.Below.refl _ _ | exact HB8.out | exact HB7.out | ((with_reducible refine al5 ?_ _); exact RowKit.Below.refl _ _) | ((with_reducible refine dr5 ?_); exact RowKit.Below.refl _ _) | fail)) | ((with_reducible refine dr5 ?_); (first | exact RowKit.Below.refl _ _ | exact HB8.out | exact HB7.out | ((with_reducible refine al5 ?_ _); exact RowKit.Below.refl _ _) | ((with_reducible refine dr5 ?_); exact RowKit.Below.refl _ _) | fail)) | fail)) | ((with_reducible refine dr5 ?_); (first | exact RowKit.Below.refl _ _ | exact HB8.out | exact HB7.out | ((with_reducible refine al5 ?_ _); (first | exact RowKit.Below.refl _ _ | exact HB8.out | exact HB7.out | ((with_reducible refine al5 ?_ _); exact RowKit.Below.refl _ _) | ((with_reducible refine dr5 ?_); exact RowKit.Below.refl _ _) | fail)) | ((with_reducible refine dr5 ?_); (first | exact RowKit.Below.refl _ _ | exact HB8.out | exact HB7.out | ((with_reducible refine al5 ?_ _); exact RowKit.Below.refl _ _) | ((with_reducible refine dr5 ?_); exact RowKit.Below.refl _ _) | fail)) | fail)) | fail)) | ((with_reducible refine dr5 ?_); (first | exact RowKit.Below.refl _ _ | exact HB8.out | exact HB7.out | ((with_reducible refine al5 ?_ _); (first | exact RowKit.Below.refl _ _ | exact HB8.out | exact HB7.out | ((with_reducible refine al5 ?_ _); (first | exact RowKit.Below.refl _ _ | exact HB8.out | exact HB7.out | ((with_reducible refine al5 ?_ _); exact RowKit.Below.refl _ _) | ((with_reducible refine dr5 ?_); exact RowKit.Below.refl _ _) | fail)) | ((with_reducible refine dr5 ?_); (first | exact RowKit.Below.refl _ _ | exact HB8.out | exact HB7.out | ((with_reducible refine al5 ?_ _); exact RowKit.Below.refl _ _) | ((with_reducible refine dr5 ?_); exact RowKit.Below.refl _ _) | fail)) | fail)) | ((with_reducible refine dr5 ?_); (first | exact RowKit.Below.refl _ _ | exact HB8.out | exact HB7.out | ((with_reducible refine al5 ?_ _); (first | exact RowKit.Below.refl _ _ | exact HB8.out | exact HB7.out | ((with_reducible refine al5 ?_ _); exact RowKit.Below.refl _ _) | ((with_reducible refine dr5 ?_); exact RowKit.Below.refl _ _) | fail)) | ((with_reducible refine dr5 ?_); (first | exact RowKit.Below.refl _ _ | exact HB8.out | exact HB7.out | ((with_reducible refine al5 ?_ _); exact RowKit.Below.refl _ _) | ((with_reducible refine dr5 ?_); exact RowKit.Below.refl _ _) | fail)) | fail)) | fail)) | fail))) ?_; intro g8 cap8 w8 hown hg hat; have HB8 := Lib.hid (show RowKit.Below x5.heap.size x5 w8 from (by refine gr5 ?_ hg (ge5 (own_lt HO7.out g7 rfl).1); (first | exact RowKit.Below.refl _ _ | exact HB8.out | exact HB7.out | ((with_reducible refine al5 ?_ _); (first | exact RowKit.Below.refl _ _ | exact HB8.out | exact HB7.out | ((with_reducible refine al5 ?_ _); (first | exact RowKit.Below.refl _ _ | exact HB8.out | exact HB7.out | ((with_reducible refine al5 ?_ _); (first | exact RowKit.Below.refl _ _ | exact HB8.out | exact HB7.out | ((with_reducible refine al5 ?_ _); exact RowKit.Below.refl _ _) | ((with_reducible refine dr5 ?_); exact RowKit.Below.refl _ _) | fail)) | ((with_reducible refine dr5 ?_); (first | exact RowKit.Below.refl _ _ | exact HB8.out | exact HB7.out | ((with_reducible refine al5 ?_ _); exact RowKit.Below.refl _ _) | ((with_reducible refine dr5 ?_); exact RowKit.Below.refl _ _) | fail)) | fail)) | ((with_reducible refine dr5 ?_); (first | exact RowKit.Below.refl _ _ | exact HB8.out | exact HB7.out | ((with_reducible refine al5 ?_ _); (first | exact RowKit.Below.refl _ _ | exact HB8.out | exact HB7.out | ((with_reducible refine al5 ?_ _); exact RowKit.Below.refl _ _) | ((with_reducible refine dr5 ?_); exact RowKit.Below.refl _ _) | fail)) | ((with_reducible refine dr5 ?_); (first | exact RowKit.Below.refl _ _ | exact HB8.out | exact HB7.out | ((with_reducible refine al5 ?_ _); exact RowKit.Below.refl _ _) | ((with_reducible refine dr5 ?_); exact RowKit.Below.refl _ _) | fail)) | fail)) | fail)) | ((with_reducible refine dr5 ?_); (first | exact RowKit.Below.refl _ _ | exact HB8.out | exact HB7.out | ((with_reducible refine al5 ?_ _); (first | exact RowKit.Below.refl _ _ | exact HB8.out | exact HB7.out | ((with_reducible refine al5 ?_ _); (first | exact RowKit.Below.refl _ _ | exact HB8.out | exact HB7.out | ((with_reducible refine al5 ?_ _); exact RowKit.Below.refl _ _) | ((with_reducible refine dr5 ?_); exact RowKit.Below.refl _ _) | fail)) | ((with_reducible refine dr5 ?_); (first | exact RowKit.Below.refl _ _ | exact HB8.out | exact HB7.out | ((with_reducible refine al5 ?_ _); exact RowKit.Below.refl _ _) | ((with_reducible refine dr5 ?_); exact RowKit.Below.refl _ _) | fail)) | fail)) | ((with_reducible refine dr5 ?_); (first | exact RowKit.Below.refl _ _ | exact HB8.out | exact HB7.out | ((with_reducible refine al5 ?_ _); (first | exact RowKit.Below.refl _ _ | exact HB8.out | exact HB7.out | ((with_reducible refine al5 ?_ _); exact RowKit.Below.refl _ _) | ((with_reducible refine dr5 ?_); exact RowKit.Below.refl _ _) | fail)) | ((with_reducible refine dr5 ?_); (first | exact RowKit.Below.refl _ _ | exact HB8.out | exact HB7.out | ((with_reducible refine al5 ?_ _); exact RowKit.Below.refl _ _) | ((with_reducible refine dr5 ?_); exact RowKit.Below.refl _ _) | fail)) | fail)) | fail)) | fail))); have HO8 := Lib.hid hown; have s1 := (HX5.out.below HB8.out).cells 1 _ rfl; have f1 := (HX5.out.below HB8.out).free 1; clear hown hg hat) | (refine step_append_r (by rfl) _ _ (by rfl) x5.heap.size _ 0 _ [] (by rfl) (by first | exact made5a _ _ _ | exact (made5a _ _ _).drew | exact World.ownsRow.alloc (made5a _ _ _) _ | exact (World.ownsRow.alloc (made5a _ _ _) _).drew | exact made5b _ _ _ _ | exact (made5b _ _ _ _).drew | fail) rA rz.length rc (elRu.cellsL rz) (by rfl) (elRu.cellsL_len rz) HNil.out (HNw.out _ (by (first | exact RowKit.Below.refl _ _ | exact HB8.out | exact HB7.out | ((with_reducible refine al5 ?_ _); (first | exact RowKit.Below.refl _ _ | exact HB8.out | exact HB7.out | ((with_reducible refine al5 ?_ _); (first | exact RowKit.Below.refl _ _ | exact HB8.out | exact HB7.out | ((with_reducible refine al5 ?_ _); (first | exact RowKit.Below.refl _ _ | exact HB8.out | exact HB7.out | ((with_reducible refine al5 ?_ _); exact RowKit.Below.refl _ _) | ((with_reducible refine dr5 ?_); exact RowKit.Below.refl _ _) | fail)) | ((with_reducible refine dr5 ?_); (first | exact RowKit.Below.refl _ _ | exact HB8.out | exact HB7.out | ((with_reducible refine al5 ?_ _); exact RowKit.Below.refl _ _) | ((with_reducible refine dr5 ?_); exact RowKit.Below.refl _ _) | fail)) | fail)) | ((with_reducible refine dr5 ?_); (first | exact RowKit.Below.refl _ _ | exact HB8.out | exact HB7.out | ((with_reducible refine al5 ?_ _); (first | exact RowKit.Below.refl _ _ | exact HB8.out | exact HB7.out | ((with_reducible refine al5 ?_ _); exact RowKit.Below.refl _ _) | ((with_reducible refine dr5 ?_); exact RowKit.Below.refl _ _) | fail)) | ((with_reducible refine dr5 ?_); (first | exact RowKit.Below.refl _ _ | exact HB8.out | exact HB7.out | ((with_reducible refine al5 ?_ _); exact RowKit.Below.refl _ _) | ((with_reducible refine dr5 ?_); exact RowKit.Below.refl _ _) | fail)) | fail)) | fail)) | ((with_reducible refine dr5 ?_); (first | exact RowKit.Below.refl _ _ | exact HB8.out | exact HB7.out | ((with_reducible refine al5 ?_ _); (first | exact RowKit.Below.refl _ _ | exact HB8.out | exact HB7.out | ((with_reducible refine al5 ?_ _); (first | exact RowKit.Below.refl _ _ | exact HB8.out | exact HB7.out | ((with_reducible refine al5 ?_ _); exact RowKit.Below.refl _ _) | ((with_reducible refine dr5 ?_); exact RowKit.Below.refl _ _) | fail)) | ((with_reducible refine dr5 ?_); (first | exact RowKit.Below.refl _ _ | exact HB8.out | exact HB7.out | ((with_reducible refine al5 ?_ _); exact RowKit.Below.refl _ _) | ((with_reducible refine dr5 ?_); exact RowKit.Below.refl _ _) | fail)) | fail)) | ((with_reducible refine dr5 ?_); (first | exact RowKit.Below.refl _ _ | exact HB8.out | exact HB7.out | ((with_reducible refine al5 ?_ _); (first | exact RowKit.Below.refl _ _ | exact HB8.out | exact HB7.out | ((with_reducible refine al5 ?_ _); exact RowKit.Below.refl _ _) | ((with_reducible refine dr5 ?_); exact RowKit.Below.refl _ _) | fail)) | ((with_reducible refine dr5 ?_); (first | exact RowKit.Below.refl _ _ | exact HB8.out | exact HB7.out | ((with_reducible refine al5 ?_ _); exact RowKit.Below.refl _ _) | ((with_reducible refine dr5 ?_); exact RowKit.Below.refl _ _) | fail)) | fail)) | fail)) | fail))) HOne.out (by omega) (bs5 (by (first | exact RowKit.Below.refl _ _ | exact HB8.out | exact HB7.out | ((with_reducible refine al5 ?_ _); (first | exact RowKit.Below.refl _ _ | exact HB8.out | exact HB7.out | ((with_reducible refine al5 ?_ _); (first | exact RowKit.Below.refl _ _ | exact HB8.out | exact HB7.out | ((with_reducible refine al5 ?_ _); (first | exact RowKit.Below.refl _ _ | exact HB8.out | exact HB7.out | ((with_reducible refine al5 ?_ _); exact RowKit.Below.refl _ _) | ((with_reducible refine dr5 ?_); exact RowKit.Below.refl _ _) | fail)) | ((with_reducible refine dr5 ?_); (first | exact RowKit.Below.refl _ _ | exact HB8.out | exact HB7.out | ((with_reducible refine al5 ?_ _); exact RowKit.Below.refl _ _) | ((with_reducible refine dr5 ?_); exact RowKit.Below.refl _ _) | fail)) | fail)) | ((with_reducible refine dr5 ?_); (first | exact RowKit.Below.refl _ _ | exact HB8.out | exact HB7.out | ((with_reducible refine al5 ?_ _); (first | exact RowKit.Below.refl _ _ | exact HB8.out | exact HB7.out | ((with_reducible refine al5 ?_ _); exact RowKit.Below.refl _ _) | ((with_reducible refine dr5 ?_); exact RowKit.Below.refl _ _) | fail)) | ((with_reducible refine dr5 ?_); (first | exact RowKit.Below.refl _ _ | exact HB8.out | exact HB7.out | ((with_reducible refine al5 ?_ _); exact RowKit.Below.refl _ _) | ((with_reducible refine dr5 ?_); exact RowKit.Below.refl _ _) | fail)) | fail)) | fail)) | ((with_reducible refine dr5 ?_); (first | exact RowKit.Below.refl _ _ | exact HB8.out | exact HB7.out | ((with_reducible refine al5 ?_ _); (first | exact RowKit.Below.refl _ _ | exact HB8.out | exact HB7.out | ((with_reducible refine al5 ?_ _); (first | exact RowKit.Below.refl _ _ | exact HB8.out | exact HB7.out | ((with_reducible refine al5 ?_ _); exact RowKit.Below.refl _ _) | ((with_reducible refine dr5 ?_); exact RowKit.Below.refl _ _) | fail)) | ((with_reducible refine dr5 ?_); (first | exact RowKit.Below.refl _ _ | exact HB8.out | exact HB7.out | ((with_reducible refine al5 ?_ _); exact RowKit.Below.refl _ _) | ((with_reducible refine dr5 ?_); exact RowKit.Below.refl _ _) | fail)) | fail)) | ((with_reducible refine dr5 ?_); (first | exact RowKit.Below.refl _ _ | exact HB8.out | exact HB7.out | ((with_reducible refine al5 ?_ _); (first | exact RowKit.Below.refl _ _ | exact HB8.out | exact HB7.out | ((with_reducible refine al5 ?_ _); exact RowKit.Below.refl _ _) | ((with_reducible refine dr5 ?_); exact RowKit.Below.refl _ _) | fail)) | ((with_reducible refine dr5 ?_); (first | exact RowKit.Below.refl _ _ | exact HB8.out | exact HB7.out | ((with_reducible refine al5 ?_ _); exact RowKit.Below.refl _ _) | ((with_reducible refine dr5 ?_); exact RowKit.Below.refl _ _) | fail)) | fail)) | fail)) | fail))) ?_; intro g7 cap7 w7 hown hg hat; have HG7 := Lib.hid hg; have HB7 := Lib.hid (show RowKit.Below x5.heap.size x5 w7 from (by refine gr5 ?_ hg (ge5 (by first | exact Nat.le_refl _ | (simp; done) | (simp; omega) | fail)); (first | exact RowKit.Below.refl _ _ | exact HB8.out | exact HB7.out | ((with_reducible refine al5 ?_ _); (first | exact RowKit.Below.refl _ _ | exact HB8.out | exact HB7.out | ((with_reducible refine al5 ?_ _); (first | exact RowKit.Below.refl _ _ | exact HB8.out | exact HB7.out | ((with_reducible refine al5 ?_ _); (first | exact RowKit.Below.refl _ _ | exact HB8.out | exact HB7.out | ((with_reducible refine al5 ?_ _); exact RowKit.Below.refl _ _) | ((with_reducible refine dr5 ?_); exact RowKit.Below.refl _ _) | fail)) | ((with_reducible refine dr5 ?_); (first | exact RowKit.Below.refl _ _ | exact HB8.out | exact HB7.out | ((with_reducible refine al5 ?_ _); exact RowKit.Below.refl _ _) | ((with_reducible refine dr5 ?_); exact RowKit.Below.refl _ _) | fail)) | fail)) | ((with_reducible refine dr5 ?_); (first | exact RowKit.Below.refl _ _ | exact HB8.out | exact HB7.out | ((with_reducible refine al5 ?_ _); (first | exact RowKit.Below.refl _ _ | exact HB8.out | exact HB7.out | ((with_reducible refine al5 ?_ _); exact RowKit.Below.refl _ _) | ((with_reducible refine dr5 ?_); exact RowKit.Below.refl _ _) | fail)) | ((with_reducible refine dr5 ?_); (first | exact RowKit.Below.refl _ _ | exact HB8.out | exact HB7.out | ((with_reducible refine al5 ?_ _); exact RowKit.Below.refl _ _) | ((with_reducible refine dr5 ?_); exact RowKit.Below.refl _ _) | fail)) | fail)) | fail)) | ((with_reducible refine dr5 ?_); (first | exact RowKit.Below.refl _ _ | exact HB8.out | exact HB7.out | ((with_reducible refine al5 ?_ _); (first | exact RowKit.Below.refl _ _ | exact HB8.out | exact HB7.out | ((with_reducible refine al5 ?_ _); (first | exact RowKit.Below.refl _ _ | exact HB8.out | exact HB7.out | ((with_reducible refine al5 ?_ _); exact RowKit.Below.refl _ _) | ((with_reducible refine dr5 ?_); exact RowKit.Below.refl _ _) | fail)) | ((with_reducible refine dr5 ?_); (first | exact RowKit.Below.refl _ _ | exact HB8.out | exact HB7.out | ((with_reducible refine al5 ?_ _); exact RowKit.Below.refl _ _) | ((with_reducible refine dr5 ?_); exact RowKit.Below.refl _ _) | fail)) | fail)) | ((with_reducible refine dr5 ?_); (first | exact RowKit.Below.refl _ _ | exact HB8.out | exact HB7.out | ((with_reducible refine al5 ?_ _); (first | exact RowKit.Below.refl _ _ | exact HB8.out | exact HB7.out | ((with_reducible refine al5 ?_ _); exact RowKit.Below.refl _ _) | ((with_reducible refine dr5 ?_); exact RowKit.Below.refl _ _) | fail)) | ((with_reducible refine dr5 ?_); (first | exact RowKit.Below.refl _ _ | exact HB8.out | exact HB7.out | ((with_reducible refine al5 ?_ _); exact RowKit.Below.refl _ _) | ((with_reducible refine dr5 ?_); exact RowKit.Below.refl _ _) | fail)) | fail)) | fail)) | fail))); have HO7 := Lib.hid (show w7.ownsRow x5.heap.size 35 6 (.slice (some ⟨g7, 0, none⟩) rz.length cap7) rz.length (elRu.cellsL rz) from (by have h := hown; rw [Nat.zero_add] at h; exact h)); have HN7 := Lib.hid hat; obtain ⟨m1, n0, n1, n2, n3, n4, n5⟩ := HSx.out _ HB7.out; clear hown hg hat) | fail)
              all_goals
                obtain ⟨W9, hW9, q0, q1, hp9, hb9, hs9, hk9⟩ := added (v := ⟨t, ks, rs, gs, bs, kA, kc, pA, pc, gA, gc, bA, bc, n⟩) HB8.out HX5.out HD5.out HDl.out HR5.out HRl.out HV5.out HBq.out HO8.out
                have hz4 : x4.heap.size ≠ x1.heap.size := by have := HLt.out; have := HSz.out; have := H34.out.size; omega
                have hk4 := hk9 x4.heap.size (by have := HS5.out; omega) hz4
                have z0 : W9.cell? ⟨x4.heap.size, 0, none⟩ = some (.slice dA' dn' dc') := (World.cell?_of_block (a := ⟨x4.heap.size, 0, none⟩) hk4).trans (get_two HZ5.out).1
                have z1 : W9.cell? ⟨x4.heap.size, 1, none⟩ = some (.slice rA' rn' rc') := (World.cell?_of_block (a := ⟨x4.heap.size, 1, none⟩) hk4).trans (get_two HZ5.out).2
                have QSm := Lib.hid (show Calls Tryz.prog 12 #[.agg #[.slice dA ds.length dc, .slice (some ⟨g8, 0, none⟩) (rz.length + 1) cap8], .agg #[.slice dA' dn' dc', .slice rA' rn' rc']] W9 fun e w' => e = .returned (.bool true) ∧ RowKit.Below W9.heap.size W9 w' from by
                  have hy := HY.out
                  refine lw_program_at (x := (ds, rz.map Ru.p ++ [Ru.p ⟨t, ks, rs, gs, bs, kA, kc, pA, pc, gA, gc, bA, bc, n⟩])) W9 (by have h := HK1.out; simp only at h ⊢; omega) (by simp only [List.length_append, List.length_map, List.length_singleton]; omega) (fun q hq => ?_) hp9 ?_
                  · rcases List.mem_append.1 hq with hq | hq
                    · exact (HK3.out q hq).lens
                    · rw [List.mem_singleton.1 hq]
                      exact (whole_R_ok HQ.out).lens
                  · obtain ⟨d2, r2, _, _, _, _, e1, e2, ⟨m1, m2⟩, m3, m4⟩ := HQ5.out
                    rw [hy]
                    have hl : ∀ b, x3.heap.size ≤ b → b ≠ x1.heap.size := fun b hb => by have := HLt.out; have := HSz.out; omega
                    have hk5 : ∀ b, b < x4.heap.size → b ≠ x1.heap.size → W9.heap[b]? = x4.heap[b]? := fun b h1 h2 => (hk9 b (by have := HS5.out; omega) h2).trans (H45.out.block b h1)
                    have hs5 : x4.heap.size ≤ W9.heap.size := by have := HS5.out; omega
                    exact ⟨d2, r2, _, _, _, _, e1, e2, m1.put (fun b hb => hl b (m2 b hb)) hs5 hk5, m3.put (fun b hb => hl b (m4 b hb)) hs5 hk5⟩)
                have HB9 := Lib.hid (show RowKit.Below w.heap.size w W9 from HB5x.out.trans (hb9.mono HB1.out.size))
                clear s1 f1 HB8 HO8 hp9 hb9 hs9 hk9 hk4
                rw [hW9]
                clear hW9
                go_wp2_with (first | (go_at_call 9; (with_reducible refine (QE.out _).mono ?_); rintro e w5 ⟨rfl, hb5⟩; have HBf := Lib.hid (HBe.out.trans (hb5.mono HBe.out.size)); clear hb5) | (go_at_call 12; (with_reducible refine QSm.out.mono ?_); rintro e w4 ⟨rfl, hb4⟩; have HBe := Lib.hid (HB9.out.trans (hb4.mono HB9.out.size)); clear hb4) | fail)
                go_ret
                exact ⟨rfl, HBf.out⟩
            · rw [HW.out] at hy
              cases hy
        · exact absurd rfl h
      · exact absurd rfl h
    · have hnb : (er' != 0) = true := bne_iff_ne.2 h0'
      go_wp2_with (go_at_call 9; (with_reducible refine (QE.out _).mono ?_); rintro e w5 ⟨rfl, hb5⟩; have HB5 := Lib.hid (HBz.out.trans (hb5.mono HBz.out.size)); clear hb5)
      go_ret
      exact ⟨rfl, HB5.out⟩
  · have hnb : (er != 0) = true := bne_iff_ne.2 h0
    go_wp2_with (go_at_call 9; (with_reducible refine (QE.out _).mono ?_); rintro e w5 ⟨rfl, hb5⟩; have HB5 := Lib.hid (HBz.out.trans (hb5.mono HBz.out.size)); clear hb5)
    go_ret
    exact ⟨rfl, HB5.out⟩
end Go.Proofs.YtaojnljppcnhjaaGreatDoor.syntaxAppends
