/-
  The contract of exampleHolds.
-/
import Derived.Test.YtlpibnbabgfiiaaGreatDoorTtEx
namespace Go.Proofs.YtlpibnbabgfiiaaGreatDoor
open Go.RowKit

theorem nx {w W X : World} (h : Below w.heap.size w W) (hb : Below W.heap.size W X) : Below w.heap.size w X := h.trans (hb.mono h.size)
theorem al {w W : World} (h : Below w.heap.size w W) (o : Obj) : Below w.heap.size w (W.alloc o) := h.alloc h.size o
theorem fits_small {n : Int} (h1 : 0 ≤ n) (h2 : n ≤ 1000) : Fits n := by unfold Fits; omega
set_option maxHeartbeats 4000000 in
set_option maxRecDepth 20000 in
theorem example_at (w : World) (hL : Laid w) : Calls Tryz.prog 10 #[] w fun e w' => e = .returned (.bool true) ∧ Below w.heap.size w w' := by
  have HL := Lib.hid (fun W (h : Below w.heap.size w W) => hL.below h)
  clear hL
  go_enter Tryz.func10, Tryz.ntmps10
  go_wp2_with fail
  refine (ref_int_at 7 _).mono ?_
  rintro e x1 ⟨rfl, hb1⟩
  go_wp2_with fail
  refine (ref_int_at 2 _).mono ?_
  rintro e x2 ⟨rfl, hb2⟩
  go_wp2_with fail
  refine (ref_int_at 1 _).mono ?_
  rintro e x3 ⟨rfl, hb3⟩
  have HB3 := Lib.hid ((hb1.trans (hb2.mono hb1.size)).trans (hb3.mono (hb1.trans (hb2.mono hb1.size)).size))
  clear hb1 hb2 hb3
  go_wp2_with fail
  refine (ref_fun_at ⟨#[45]⟩ [intT 2, intT 1] x3.heap.size 0 2 _ (by simp) (row_two (intT 2) (intT 1) (int_in _ (fits_small (by omega) (by omega)) _) (int_in _ (fits_small (by omega) (by omega)) _)) (by simp) (by show 1 ≤ maxLen; unfold maxLen; omega)).mono ?_
  rintro e x4 ⟨g1, c1, rfl, hat1, hb4⟩
  have HB4 := Lib.hid ((HB3.out.alloc (o := .cells _ _) HB3.out.size).trans (hb4.mono (HB3.out.alloc HB3.out.size _).size))
  have HA1 := Lib.hid hat1
  clear hb4 hat1
  go_wp2_with fail
  refine (ref_fun_at ⟨#[45]⟩ [intT 7, Tm.mk 2 0 ⟨#[45]⟩ (some ⟨g1, 0, none⟩) c1 [intT 2, intT 1]] x4.heap.size 0 2 _ (by simp) (row_two (intT 7) _ (int_in _ (fits_small (by omega) (by omega)) _) HA1.out) (by simp) (by show 1 ≤ maxLen; unfold maxLen; omega)).mono ?_
  rintro e x5 ⟨g2, c2, rfl, hat2, hb5⟩
  have HB5 := Lib.hid ((HB4.out.alloc (o := .cells _ _) HB4.out.size).trans (hb5.mono (HB4.out.alloc HB4.out.size _).size))
  have HA2 := Lib.hid hat2
  clear hb5 hat2 HA1 HB4 HB3
  go_wp2_with fail
  have HB6 := Lib.hid (HB5.out.alloc HB5.out.size (.cells #[.int .i64 2, .int .i64 0, .string ⟨#[45]⟩, .slice (some ⟨g2, 0, none⟩) 2 c2] 24))
  refine (ex1_at _ (HL.out _ HB6.out)).mono ?_
  rintro e x6 ⟨u, hu, hb6, hst, rfl⟩
  have HB6' := Lib.hid (nx HB6.out hb6)
  have HC5 := Lib.hid hb6
  have HU := Lib.hid hu
  have HS := Lib.hid hst
  clear hb6 hu hst HB5 HB6
  go_wp2_with fail
  have HBa := Lib.hid (al HB6'.out (.cells #[.int .i64 u.kind, .int .i64 u.num, .string u.name, .slice u.at_ u.args.length u.cap] 24))
  refine (err_at ⟨#[102, 40, 88, 41]⟩ 7 exB _ (by show 4 ≤ maxLen; unfold maxLen; omega) (HL.out _ HBa.out)).mono ?_
  rintro e x7 ⟨hb7, rfl⟩
  have HB7 := Lib.hid (nx HBa.out hb7)
  have HC5' := Lib.hid (nx (al HC5.out _) hb7)
  have HC6 := Lib.hid hb7
  clear hb7 HBa HB6' HC5
  go_wp2_with fail
  have HB8 := Lib.hid (al HB7.out (.cells #[.int .i64 0, .int .i64 0, .string ⟨#[]⟩, .slice none 0 0] 24))
  refine (ex3_at _ (HL.out _ HB8.out)).mono ?_
  rintro e x8 ⟨l, A, c, hl, hb8, hsl, rfl⟩
  have HB9 := Lib.hid (nx HB8.out hb8)
  have HD5 := Lib.hid (nx (al HC5'.out _) hb8)
  have HD6 := Lib.hid (nx (al HC6.out _) hb8)
  have HLs := Lib.hid hl
  have HSl := Lib.hid hsl
  have hlen := hl.len
  clear hb8 hl hsl HB8 HB7 HC5' HC6
  go_wp2_with fail
  have HBb := Lib.hid (al HB9.out (.cells #[.string ⟨#[108, 101, 113]⟩, .slice A l.length c] 34))
  refine (err_at ⟨#[49, 32, 50]⟩ 16 exD _ (by show 3 ≤ maxLen; unfold maxLen; omega) (HL.out _ HBb.out)).mono ?_
  rintro e x9 ⟨hb9, rfl⟩
  have HX := Lib.hid (nx HBb.out hb9)
  have HE5 := Lib.hid (nx (al HD5.out _) hb9)
  have HE6 := Lib.hid (nx (al HD6.out _) hb9)
  have HE8 := Lib.hid hb9
  clear hb9 HBb HB9 HD5 HD6
  obtain ⟨p0, p1, p2, p3, _⟩ := box4 (al HE5.out (.cells #[.int .i64 0, .int .i64 0, .string ⟨#[]⟩, .slice none 0 0] 24))
  go_wp2_with fail
  have HF := Lib.hid (al HX.out (.cells #[.int .i64 0, .int .i64 0, .string ⟨#[]⟩, .slice none 0 0] 24))
  refine (seven_text g2 c2 g1 c1 _ (((HA2.out.alloc _).below HE5.out).alloc _) (HL.out _ HF.out)).mono ?_
  rintro e y1 ⟨rfl, hc1⟩
  have HF1 := Lib.hid (nx HF.out hc1)
  have HG6 := Lib.hid (nx (al HE6.out _) hc1)
  have HG8 := Lib.hid (nx (al HE8.out _) hc1)
  have HUy := Lib.hid ((((HU.out.alloc _).below HE6.out).alloc _).below hc1)
  clear hc1 p0 p1 p2 p3 HE5 HE6 HF HX
  obtain ⟨q0, q1, q2, q3, _⟩ := box4 HG6.out
  go_wp2_with fail
  refine (fun_text u _ HUy.out HS.out (HL.out _ HF1.out)).mono ?_
  rintro e y2 ⟨rfl, hc2⟩
  have HF2 := Lib.hid (nx HF1.out hc2)
  have HI8 := Lib.hid (nx HG8.out hc2)
  clear q0 q1 q2 q3 HG6 HG8 HF1 HUy hc2
  obtain ⟨r0, r1⟩ := held2_p HI8.out
  go_wp2_with fail
  refine (atom_text l A c _ ((HLs.out.below (below1 _ _)).below HI8.out) HSl.out (HL.out _ HF2.out)).mono ?_
  rintro e y3 ⟨rfl, hc3⟩
  have HF3 := Lib.hid (nx HF2.out hc3)
  clear r0 r1 HI8 HF2 hc3
  go_wp2_with fail
  refine (ref_var_at3 0 _).mono ?_
  rintro e y4 ⟨rfl, hc4⟩
  have HF4 := Lib.hid (nx HF3.out hc4)
  clear HF3 hc4
  go_wp2_with fail
  have HF5 := Lib.hid (al HF4.out (.cells #[.int .i64 1, .int .i64 0, .string ⟨#[]⟩, .slice none 0 0] 24))
  refine (goal_text y4.heap.size _ (row_one (varT 0) (var_in 0 (fits_small (by omega) (by omega)) _)) (HL.out _ HF5.out)).mono ?_
  rintro e y5 ⟨rfl, hc5⟩
  have HF6 := Lib.hid (nx HF5.out hc5)
  clear HF5 HF4 hc5
  go_wp2_with fail
  go_ret
  exact ⟨rfl, HF6.out⟩
end Go.Proofs.YtlpibnbabgfiiaaGreatDoor
