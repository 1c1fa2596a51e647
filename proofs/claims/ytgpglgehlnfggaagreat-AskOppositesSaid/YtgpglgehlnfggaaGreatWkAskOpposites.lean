/-
  WkAskOpposites.
-/
import Derived.Test.YtgpglgehlnfggaaGreatMe20
import Derived.Deep.RegionHeld3
namespace Go.Proofs.YtgpglgehlnfggaaGreat.askOpposites
open Go.ChangeShapes Go.WideShapes Go.ChangeAt Go.RowKit Go.Sort
set_option linter.unusedVariables false
structure Boxes (a0 a1 : Tm) (w W : World) : Prop where
  below : Below w.heap.size w W
  b0 : HeldL w.heap.size W [.int .i64 a0.kind, .int .i64 a0.num, .string a0.name, .slice a0.at_ a0.args.length a0.cap]
  b1 : HeldL (w.heap.size + 1) W [.int .i64 a1.kind, .int .i64 a1.num, .string a1.name, .slice a1.at_ a1.args.length a1.cap]
theorem Boxes.keep {a0 a1 : Tm} {w W W' : World} (h : Boxes a0 a1 w W) (hb : Below W.heap.size W W') : Boxes a0 a1 w W' := ⟨h.below.trans (hb.mono h.below.size), h.b0.below hb, h.b1.below hb⟩
theorem Boxes.cells {a0 a1 : Tm} {w W : World} (h : Boxes a0 a1 w W) : (W.cell? ⟨w.heap.size, 0, none⟩ = some (.int .i64 a0.kind) ∧ W.cell? ⟨w.heap.size, 1, none⟩ = some (.int .i64 a0.num) ∧ W.cell? ⟨w.heap.size, 2, none⟩ = some (.string a0.name) ∧ W.cell? ⟨w.heap.size, 3, none⟩ = some (.slice a0.at_ a0.args.length a0.cap)) ∧
    W.cell? ⟨w.heap.size + 1, 0, none⟩ = some (.int .i64 a1.kind) ∧ W.cell? ⟨w.heap.size + 1, 1, none⟩ = some (.int .i64 a1.num) ∧ W.cell? ⟨w.heap.size + 1, 2, none⟩ = some (.string a1.name) ∧ W.cell? ⟨w.heap.size + 1, 3, none⟩ = some (.slice a1.at_ a1.args.length a1.cap) :=
  ⟨⟨h.b0.cell 0 _ rfl, h.b0.cell 1 _ rfl, h.b0.cell 2 _ rfl, h.b0.cell 3 _ rfl⟩, h.b1.cell 0 _ rfl, h.b1.cell 1 _ rfl, h.b1.cell 2 _ rfl, h.b1.cell 3 _ rfl⟩
theorem Boxes.new (a0 a1 : Tm) (w : World) (T : TypeId) : Boxes a0 a1 w ((w.alloc (.cells #[.int .i64 a0.kind, .int .i64 a0.num, .string a0.name, .slice a0.at_ a0.args.length a0.cap] T)).alloc (.cells #[.int .i64 a1.kind, .int .i64 a1.num, .string a1.name, .slice a1.at_ a1.args.length a1.cap] T)) := by
  have h1 := heldL_new w [.int .i64 a0.kind, .int .i64 a0.num, .string a0.name, .slice a0.at_ a0.args.length a0.cap] T
  have h2 := heldL_new (w.alloc (.cells #[.int .i64 a0.kind, .int .i64 a0.num, .string a0.name, .slice a0.at_ a0.args.length a0.cap] T)) [.int .i64 a1.kind, .int .i64 a1.num, .string a1.name, .slice a1.at_ a1.args.length a1.cap] T
  rw [World.size_alloc] at h2
  exact ⟨below2 _ _ _, h1.below (below1 _ _), h2⟩
theorem Boxes.all {k1 n1 k2 n2 : Int} {s1 s2 : ByteArray} {A1 A2 : Option Addr} {p1 p2 : Nat} {a1 a2 : List Tm} {w W : World} (h : Boxes ⟨k1, n1, s1, A1, p1, a1⟩ ⟨k2, n2, s2, A2, p2, a2⟩ w W) : (fun W => (W.cell? ⟨w.heap.size, 0, none⟩ = some (.int .i64 k1) ∧ W.cell? ⟨w.heap.size, 1, none⟩ = some (.int .i64 n1) ∧ W.cell? ⟨w.heap.size, 2, none⟩ = some (.string s1) ∧ W.cell? ⟨w.heap.size, 3, none⟩ = some (.slice A1 a1.length p1)) ∧ W.cell? ⟨w.heap.size + 1, 0, none⟩ = some (.int .i64 k2) ∧ W.cell? ⟨w.heap.size + 1, 1, none⟩ = some (.int .i64 n2) ∧ W.cell? ⟨w.heap.size + 1, 2, none⟩ = some (.string s2) ∧ W.cell? ⟨w.heap.size + 1, 3, none⟩ = some (.slice A2 a2.length p2)) W := h.cells
theorem hold_vals (b : Bool) : holdV b = if b = true then 1 else 2 := rfl
theorem same_ways (can : Tm → Tm → Bool) (x y : Tm) : (sameV can 5 x y = 1 ∧ sameV can 6 x y = 2) ∨ (sameV can 5 x y = 0 ∧ sameV can 6 x y = 0) ∨ (sameV can 5 x y = 2 ∧ sameV can 6 x y = 1) := by
  unfold sameV
  split
  · exact .inl ⟨by decide, by decide⟩
  · split
    · exact .inr (.inl ⟨rfl, rfl⟩)
    · exact .inr (.inr ⟨by decide, by decide⟩)
structure Asked (can : Tm → Tm → Bool) (x y : Tm) : Prop where
  f5 : testV can 5 ByteArray.empty [x, y] = sameV can 5 x y
  f6 : testV can 6 ByteArray.empty [x, y] = sameV can 6 x y
  b5 : testV can 5 ByteArray.empty [y, x] = sameV can 5 x y
  b6 : testV can 6 ByteArray.empty [y, x] = sameV can 6 x y
  f7 : x.kind = 0 → y.kind = 0 → testV can 7 ByteArray.empty [x, y] = holdV (decide (x.num < y.num))
  b8 : x.kind = 0 → y.kind = 0 → testV can 8 ByteArray.empty [y, x] = holdV (decide (y.num ≤ x.num))
  f9 : x.kind = 0 → y.kind = 0 → testV can 9 ByteArray.empty [x, y] = holdV (decide (x.num = y.num))
  f10 : x.kind = 0 → y.kind = 0 → testV can 10 ByteArray.empty [x, y] = holdV (decide (x.num ≠ y.num))
theorem asked {can : Tm → Tm → Bool} (hc : Cans can) {x y : Tm} (h : goalB 5 ByteArray.empty [x, y] = true) : Asked can x y := by
  have h5 : isT 5 ByteArray.empty [x, y] = true := isT_of h (by omega)
  have hf : ∀ op : Int, 5 ≤ op ∧ op ≤ 10 → isT op ByteArray.empty [x, y] = true := fun op ho => (isT_other (by omega) ho _ _).trans h5
  have hr : ∀ op : Int, 5 ≤ op ∧ op ≤ 10 → isT op ByteArray.empty [y, x] = true := fun op ho => (isT_swap op _ x y ho.1).trans (hf op ho)
  have hl := rightL_form (isT_built h5).2.2
  have hx : x.form = true ∧ y.form = true := by simpa [formL] using hl
  refine ⟨?_, ?_, ?_, ?_, ?_, ?_, ?_, ?_⟩
  · rw [testV_two (hf 5 (by omega)), if_pos (by omega)]
  · rw [testV_two (hf 6 (by omega)), if_pos (by omega)]
  · rw [testV_two (hr 5 (by omega)), if_pos (by omega), sameV_swap hc hx.2 hx.1]
  · rw [testV_two (hr 6 (by omega)), if_pos (by omega), sameV_swap hc hx.2 hx.1]
  all_goals
    intro ka kb
    first
      | rw [testV_two (hf 7 (by omega)), if_neg (by omega), val_ints hx.1 hx.2 ka kb]; simp [cmpV]; done
      | rw [testV_two (hr 8 (by omega)), if_neg (by omega), val_ints hx.2 hx.1 kb ka]; simp [cmpV]; done
      | rw [testV_two (hf 9 (by omega)), if_neg (by omega), val_ints hx.1 hx.2 ka kb]; simp [cmpV]; done
      | rw [testV_two (hf 10 (by omega)), if_neg (by omega), val_ints hx.1 hx.2 ka kb]; simp [cmpV]; done
set_option maxHeartbeats 16000000 in
set_option maxRecDepth 100000 in
theorem walk (HE : PExample) (a0 b0 : Tm) (w : World) (w0 : a0.At w) (w1 : b0.At w) :
    Calls Tryz.prog 7 #[a0.val, b0.val] w fun e w' => e = .returned (.bool true) ∧ Below w.heap.size w w' := by
  obtain ⟨can, hc⟩ := cans
  obtain ⟨k1, n1, s1, A1, p1, a1⟩ := a0
  obtain ⟨k2, n2, s2, A2, p2, a2⟩ := b0
  obtain ⟨X, hX⟩ : ∃ X : Tm, X = ⟨k1, n1, s1, A1, p1, a1⟩ := ⟨_, rfl⟩
  obtain ⟨Y, hY⟩ : ∃ Y : Tm, Y = ⟨k2, n2, s2, A2, p2, a2⟩ := ⟨_, rfl⟩
  obtain ⟨q1, hq1⟩ : ∃ q, decide (weigh [X, Y] 200 64 < 0) = q := ⟨_, rfl⟩
  obtain ⟨q2, hq2⟩ : ∃ q, goalB 5 ByteArray.empty [X, Y] = q := ⟨_, rfl⟩
  have HB := Lib.hid (show Boxes ⟨k1, n1, s1, A1, p1, a1⟩ ⟨k2, n2, s2, A2, p2, a2⟩ w ((w.alloc (.cells #[.int .i64 k1, .int .i64 n1, .string s1, .slice A1 a1.length p1] 40)).alloc (.cells #[.int .i64 k2, .int .i64 n2, .string s2, .slice A2 a2.length p2] 40)) from Boxes.new ⟨k1, n1, s1, A1, p1, a1⟩ ⟨k2, n2, s2, A2, p2, a2⟩ w 40)
  rw [← hX] at w0
  rw [← hY] at w1
  have QG := Lib.hid (fun (W : World) (b : Nat) (hb : b = W.heap.size) (h : Below w.heap.size w W) => show Calls Tryz.prog 22 #[.slice (some ⟨b, 0, none⟩) 2 2, .int .i64 200] (W.alloc (.cells #[.int .i64 k1, .int .i64 n1, .string s1, .slice A1 a1.length p1, .int .i64 k2, .int .i64 n2, .string s2, .slice A2 a2.length p2] 40)) (fun e w' => e = .returned (.bool q1) ∧ Below W.heap.size W w') from by
    have h1 := great_two X Y 200 W b hb (w0.below h) (w1.below h) (by omega) (by omega) hq1
    rw [hX, hY] at h1
    exact h1)
  have TST := Lib.hid (fun (op : Int) (W : World) => show Calls Tryz.prog 23 #[.int .i64 op, .agg #[.int .i64 k1, .int .i64 n1, .string s1, .slice A1 a1.length p1], .agg #[.int .i64 k2, .int .i64 n2, .string s2, .slice A2 a2.length p2]] W (TwoR op X Y W) from by
    rw [hX, hY]
    exact test_two_at op ⟨k1, n1, s1, A1, p1, a1⟩ ⟨k2, n2, s2, A2, p2, a2⟩ W)
  have TTS := Lib.hid (fun (op : Int) (W : World) => show Calls Tryz.prog 23 #[.int .i64 op, .agg #[.int .i64 k2, .int .i64 n2, .string s2, .slice A2 a2.length p2], .agg #[.int .i64 k1, .int .i64 n1, .string s1, .slice A1 a1.length p1]] W (TwoR op Y X W) from by
    rw [hX, hY]
    exact test_two_at op ⟨k2, n2, s2, A2, p2, a2⟩ ⟨k1, n1, s1, A1, p1, a1⟩ W)
  have QR := Lib.hid (fun (h1 : q1 = false) (g : Nat) (W : World) (h : Row4 W g [X, Y]) (hb : Below w.heap.size w W) => show Calls Tryz.prog 20 #[.agg #[.int .i64 5, .string ⟨#[]⟩, .slice (some ⟨g, 0, none⟩) 2 2]] W (fun e w' => e = .returned (.bool q2) ∧ Below W.heap.size W w') from ref_right_goal_at (twoG 5 g X Y) W (two_lies (by unfold Fits; omega) h rfl (w0.below hb) (w1.below hb)) (by
      have h2 := not_great (l := [X, Y]) (most := 200) (hq1.trans h1)
      have h3 := size_nodes.2 [X, Y]
      show sizeL [X, Y] ≤ 1000000
      omega) hq2)
  have QE := Lib.hid (show ∀ W : World, Calls Tryz.prog 9 #[] W (fun e w' => e = .returned (.bool true) ∧ Below W.heap.size W w') from HE)
  have HA := Lib.hid (fun (h : q2 = true) => asked hc (hq2.trans h))
  have HW := Lib.hid (same_ways can X Y)
  have P5 := Lib.hid (fun (v : Int) (hv : testV can 5 ByteArray.empty [X, Y] = v) (g : Nat) (W : World) (h : Row4 W g [X, Y]) (hb : Below w.heap.size w W) => show Calls Tryz.prog 10 #[.agg #[.int .i64 5, .string ⟨#[]⟩, .slice (some ⟨g, 0, none⟩) 2 2]] W (fun e w' => e = .returned (.int .i64 v) ∧ Below W.heap.size W w') from ex_test hc (by unfold Fits; omega) h (w0.below hb) (w1.below hb) hv)
  have P6 := Lib.hid (fun (v : Int) (hv : testV can 6 ByteArray.empty [X, Y] = v) (g : Nat) (W : World) (h : Row4 W g [X, Y]) (hb : Below w.heap.size w W) => show Calls Tryz.prog 10 #[.agg #[.int .i64 6, .string ⟨#[]⟩, .slice (some ⟨g, 0, none⟩) 2 2]] W (fun e w' => e = .returned (.int .i64 v) ∧ Below W.heap.size W w') from ex_test hc (by unfold Fits; omega) h (w0.below hb) (w1.below hb) hv)
  have P5b := Lib.hid (fun (v : Int) (hv : testV can 5 ByteArray.empty [Y, X] = v) (g : Nat) (W : World) (h : Row4 W g [Y, X]) (hb : Below w.heap.size w W) => show Calls Tryz.prog 10 #[.agg #[.int .i64 5, .string ⟨#[]⟩, .slice (some ⟨g, 0, none⟩) 2 2]] W (fun e w' => e = .returned (.int .i64 v) ∧ Below W.heap.size W w') from ex_test hc (by unfold Fits; omega) h (w1.below hb) (w0.below hb) hv)
  have P6b := Lib.hid (fun (v : Int) (hv : testV can 6 ByteArray.empty [Y, X] = v) (g : Nat) (W : World) (h : Row4 W g [Y, X]) (hb : Below w.heap.size w W) => show Calls Tryz.prog 10 #[.agg #[.int .i64 6, .string ⟨#[]⟩, .slice (some ⟨g, 0, none⟩) 2 2]] W (fun e w' => e = .returned (.int .i64 v) ∧ Below W.heap.size W w') from ex_test hc (by unfold Fits; omega) h (w1.below hb) (w0.below hb) hv)
  have P7 := Lib.hid (fun (v : Int) (hv : testV can 7 ByteArray.empty [X, Y] = v) (g : Nat) (W : World) (h : Row4 W g [X, Y]) (hb : Below w.heap.size w W) => show Calls Tryz.prog 10 #[.agg #[.int .i64 7, .string ⟨#[]⟩, .slice (some ⟨g, 0, none⟩) 2 2]] W (fun e w' => e = .returned (.int .i64 v) ∧ Below W.heap.size W w') from ex_test hc (by unfold Fits; omega) h (w0.below hb) (w1.below hb) hv)
  have P8b := Lib.hid (fun (v : Int) (hv : testV can 8 ByteArray.empty [Y, X] = v) (g : Nat) (W : World) (h : Row4 W g [Y, X]) (hb : Below w.heap.size w W) => show Calls Tryz.prog 10 #[.agg #[.int .i64 8, .string ⟨#[]⟩, .slice (some ⟨g, 0, none⟩) 2 2]] W (fun e w' => e = .returned (.int .i64 v) ∧ Below W.heap.size W w') from ex_test hc (by unfold Fits; omega) h (w1.below hb) (w0.below hb) hv)
  have P9 := Lib.hid (fun (v : Int) (hv : testV can 9 ByteArray.empty [X, Y] = v) (g : Nat) (W : World) (h : Row4 W g [X, Y]) (hb : Below w.heap.size w W) => show Calls Tryz.prog 10 #[.agg #[.int .i64 9, .string ⟨#[]⟩, .slice (some ⟨g, 0, none⟩) 2 2]] W (fun e w' => e = .returned (.int .i64 v) ∧ Below W.heap.size W w') from ex_test hc (by unfold Fits; omega) h (w0.below hb) (w1.below hb) hv)
  have P10 := Lib.hid (fun (v : Int) (hv : testV can 10 ByteArray.empty [X, Y] = v) (g : Nat) (W : World) (h : Row4 W g [X, Y]) (hb : Below w.heap.size w W) => show Calls Tryz.prog 10 #[.agg #[.int .i64 10, .string ⟨#[]⟩, .slice (some ⟨g, 0, none⟩) 2 2]] W (fun e w' => e = .returned (.int .i64 v) ∧ Below W.heap.size W w') from ex_test hc (by unfold Fits; omega) h (w0.below hb) (w1.below hb) hv)
  have HK := Lib.hid (show X.kind = k1 ∧ X.num = n1 ∧ Y.kind = k2 ∧ Y.num = n2 from by rw [hX, hY]; exact ⟨rfl, rfl, rfl, rfl⟩)
  clear hq1 hq2 hX hY w0 w1 HE hc
  show Calls Tryz.prog 7 #[.agg #[.int .i64 k1, .int .i64 n1, .string s1, .slice A1 a1.length p1], .agg #[.int .i64 k2, .int .i64 n2, .string s2, .slice A2 a2.length p2]] w fun e w' => e = .returned (.bool true) ∧ Below w.heap.size w w'
  obtain ⟨⟨x0, x1, x2, x3⟩, y0, y1, y2, y3⟩ := HB.out.all
  cases q1 with
  | true =>
    go_enter Tryz.func7, Tryz.ntmps7
    go_wp2_with (first
      | (go_at_call 22; (with_reducible refine (QG.out _ _ (by simp) HB.out.below).mono ?_); rintro e v1 ⟨rfl, h1⟩; have H1 := Lib.hid (HB.out.keep h1); clear h1)
      | (go_at_call 9; (with_reducible refine (QE.out _).mono ?_); rintro e v9 ⟨rfl, h1⟩; have H9 := Lib.hid (H1.out.keep h1); clear h1))
    go_ret
    exact ⟨rfl, H9.out.below⟩
  | false =>
  have QR1 := Lib.hid (QR.out rfl)
  clear QR
  cases q2 with
  | false =>
    go_enter Tryz.func7, Tryz.ntmps7
    go_wp2_with (first
      | (go_at_call 22; (with_reducible refine (QG.out _ _ (by simp) HB.out.below).mono ?_); rintro e v1 ⟨rfl, h1⟩; have H1 := Lib.hid (HB.out.keep h1); clear h1; clear x0 x1 x2 x3 y0 y1 y2 y3; obtain ⟨⟨x0, x1, x2, x3⟩, y0, y1, y2, y3⟩ := H1.out.all)
      | (go_at_call 23; (with_reducible refine (TST.out 5 _).mono ?_); rintro e v2 ⟨g2, rfl, hg, hr, h1⟩; have H2 := Lib.hid (H1.out.keep h1); have R2 := Lib.hid hr; clear h1 hr hg)
      | (go_at_call 20; (with_reducible refine (QR1.out g2 _ R2.out H2.out.below).mono ?_); rintro e v3 ⟨rfl, h1⟩; have H3 := Lib.hid (H2.out.keep h1); clear h1)
      | (go_at_call 9; (with_reducible refine (QE.out _).mono ?_); rintro e v9 ⟨rfl, h1⟩; have H9 := Lib.hid (H3.out.keep h1); clear h1))
    go_ret
    exact ⟨rfl, H9.out.below⟩
  | true =>
  have AA := HA.out rfl
  have HF5 := Lib.hid (P5.out _ AA.f5)
  have HF6 := Lib.hid (P6.out _ AA.f6)
  have HB5 := Lib.hid (P5b.out _ AA.b5)
  have HB6 := Lib.hid (P6b.out _ AA.b6)
  have HF7 := Lib.hid (fun v (hk : k1 = 0) (hl : k2 = 0) (hv : holdV (decide (n1 < n2)) = v) => P7.out v ((AA.f7 (HK.out.1.trans hk) (HK.out.2.2.1.trans hl)).trans (by rw [HK.out.2.1, HK.out.2.2.2]; exact hv)))
  have HB8 := Lib.hid (fun v (hk : k1 = 0) (hl : k2 = 0) (hv : holdV (decide (n2 ≤ n1)) = v) => P8b.out v ((AA.b8 (HK.out.1.trans hk) (HK.out.2.2.1.trans hl)).trans (by rw [HK.out.2.1, HK.out.2.2.2]; exact hv)))
  have HF9 := Lib.hid (fun v (hk : k1 = 0) (hl : k2 = 0) (hv : holdV (decide (n1 = n2)) = v) => P9.out v ((AA.f9 (HK.out.1.trans hk) (HK.out.2.2.1.trans hl)).trans (by rw [HK.out.2.1, HK.out.2.2.2]; exact hv)))
  have HF10 := Lib.hid (fun v (hk : k1 = 0) (hl : k2 = 0) (hv : holdV (decide (n1 ≠ n2)) = v) => P10.out v ((AA.f10 (HK.out.1.trans hk) (HK.out.2.2.1.trans hl)).trans (by rw [HK.out.2.1, HK.out.2.2.2]; exact hv)))
  clear AA HA HK P5 P6 P5b P6b P7 P8b P9 P10
  generalize sameV can 5 X Y = v5 at *
  generalize sameV can 6 X Y = v6 at *
  go_enter Tryz.func7, Tryz.ntmps7
  go_upto_region 3 with (first
    | (go_at_call 22; (with_reducible refine (QG.out _ _ (by simp) HB.out.below).mono ?_); rintro e v1 ⟨rfl, h1⟩; have H1 := Lib.hid (HB.out.keep h1); clear h1; clear x0 x1 x2 x3 y0 y1 y2 y3; obtain ⟨⟨x0, x1, x2, x3⟩, y0, y1, y2, y3⟩ := H1.out.all)
    | (go_at_call 23; (with_reducible refine (TST.out 5 _).mono ?_); rintro e v2 ⟨g2, rfl, hg, hr, h1⟩; have H2 := Lib.hid (H1.out.keep h1); have R2 := Lib.hid hr; clear h1 hr hg)
    | (go_at_call 20; (with_reducible refine (QR1.out g2 _ R2.out H2.out.below).mono ?_); rintro e v3 ⟨rfl, h1⟩; have H3 := Lib.hid (H2.out.keep h1); clear h1; clear x0 x1 x2 x3 y0 y1 y2 y3; obtain ⟨⟨x0, x1, x2, x3⟩, y0, y1, y2, y3⟩ := H3.out.all))
  have HD := Lib.hid (H3.out.keep (Below.refl _ _).drew)
  clear QG QR1 H1 H2 R2 HB x0 x1 x2 x3 y0 y1 y2 y3
  go_region_held3 (fun W => (W.cell? ⟨w.heap.size, 0, none⟩ = some (.int .i64 k1) ∧ W.cell? ⟨w.heap.size, 1, none⟩ = some (.int .i64 n1) ∧ W.cell? ⟨w.heap.size, 2, none⟩ = some (.string s1) ∧ W.cell? ⟨w.heap.size, 3, none⟩ = some (.slice A1 a1.length p1)) ∧ W.cell? ⟨w.heap.size + 1, 0, none⟩ = some (.int .i64 k2) ∧ W.cell? ⟨w.heap.size + 1, 1, none⟩ = some (.int .i64 n2) ∧ W.cell? ⟨w.heap.size + 1, 2, none⟩ = some (.string s2) ∧ W.cell? ⟨w.heap.size + 1, 3, none⟩ = some (.slice A2 a2.length p2)) (first | (with_reducible exact H7.out.all) | (with_reducible exact H6.out.all) | (with_reducible exact H5.out.all) | (with_reducible exact H4.out.all) | (with_reducible exact HD.out.all) | fail) (first
    | (go_at_call 23; have hF := TST.out 5 v3.drew; (with_reducible refine hF.mono ?_); rintro e v4 ⟨g4, rfl, hg, hr, h1⟩; have H4 := Lib.hid (HD.out.keep h1); have R4 := Lib.hid hr; clear h1 hr hg hF)
    | (go_at_call 10; have hF := HF5.out g4 v4 R4.out H4.out.below; (with_reducible refine hF.mono ?_); rintro e v5 ⟨rfl, h1⟩; have H5 := Lib.hid (H4.out.keep h1); clear h1 hF)
    | (go_at_call 23; have hF := TST.out 6 v5; (with_reducible refine hF.mono ?_); rintro e v6 ⟨g6, rfl, hg, hr, h1⟩; have H6 := Lib.hid (H5.out.keep h1); have R6 := Lib.hid hr; clear h1 hr hg hF)
    | (go_at_call 10; have hF := HF6.out g6 v6 R6.out H6.out.below; (with_reducible refine hF.mono ?_); rintro e v7 ⟨rfl, h1⟩; have H7 := Lib.hid (H6.out.keep h1); clear h1 hF)
    | fail)
  all_goals
    clear HD HF5 HF6 R4 R6 H4 H5 H6
    obtain ⟨⟨x0, x1, x2, x3⟩, y0, y1, y2, y3⟩ := H7.out.all
    rcases HW.out with ⟨rfl, rfl⟩ | ⟨rfl, rfl⟩ | ⟨rfl, rfl⟩
  all_goals
    clear HW
    by_cases hk : k1 = 0
    case neg =>
      have e1 : (k1 == 0) = false := by simpa using hk
      have e2 : (k1 != 0) = true := by simpa using hk
      clear hk HF7 HB8 HF9 HF10
      go_wp2_with (first
        | (go_at_call 23; (with_reducible refine (TTS.out 5 _).mono ?_); rintro e v10 ⟨g10, rfl, hg, hr, h1⟩; have H10 := Lib.hid (H7.out.keep h1); have R10 := Lib.hid hr; clear h1 hr hg; clear x0 x1 x2 x3 y0 y1 y2 y3; obtain ⟨⟨x0, x1, x2, x3⟩, y0, y1, y2, y3⟩ := H10.out.all)
        | (go_at_call 10; (with_reducible refine (HB5.out g10 _ R10.out H10.out.below).mono ?_); rintro e v11 ⟨rfl, h1⟩; have H11 := Lib.hid (H10.out.keep h1); clear h1; clear x0 x1 x2 x3 y0 y1 y2 y3; obtain ⟨⟨x0, x1, x2, x3⟩, y0, y1, y2, y3⟩ := H11.out.all)
        | (go_at_call 23; (with_reducible refine (TTS.out 6 _).mono ?_); rintro e v12 ⟨g12, rfl, hg, hr, h1⟩; have H12 := Lib.hid (H11.out.keep h1); have R12 := Lib.hid hr; clear h1 hr hg; clear x0 x1 x2 x3 y0 y1 y2 y3; obtain ⟨⟨x0, x1, x2, x3⟩, y0, y1, y2, y3⟩ := H12.out.all)
        | (go_at_call 10; (with_reducible refine (HB6.out g12 _ R12.out H12.out.below).mono ?_); rintro e v13 ⟨rfl, h1⟩; have H13 := Lib.hid (H12.out.keep h1); clear h1; clear x0 x1 x2 x3 y0 y1 y2 y3; obtain ⟨⟨x0, x1, x2, x3⟩, y0, y1, y2, y3⟩ := H13.out.all)
        | (go_at_call 9; (with_reducible refine (QE.out _).mono ?_); rintro e v9 ⟨rfl, h1⟩; have H9 := Lib.hid (H13.out.keep h1); clear h1))
      go_ret
      exact ⟨rfl, H9.out.below⟩
    by_cases hl : k2 = 0
    case neg =>
      subst hk
      have e1 : (k2 == 0) = false := by simpa using hl
      have e2 : (k2 != 0) = true := by simpa using hl
      clear hl HF7 HB8 HF9 HF10
      go_wp2_with (first
        | (go_at_call 23; (with_reducible refine (TTS.out 5 _).mono ?_); rintro e v10 ⟨g10, rfl, hg, hr, h1⟩; have H10 := Lib.hid (H7.out.keep h1); have R10 := Lib.hid hr; clear h1 hr hg; clear x0 x1 x2 x3 y0 y1 y2 y3; obtain ⟨⟨x0, x1, x2, x3⟩, y0, y1, y2, y3⟩ := H10.out.all)
        | (go_at_call 10; (with_reducible refine (HB5.out g10 _ R10.out H10.out.below).mono ?_); rintro e v11 ⟨rfl, h1⟩; have H11 := Lib.hid (H10.out.keep h1); clear h1; clear x0 x1 x2 x3 y0 y1 y2 y3; obtain ⟨⟨x0, x1, x2, x3⟩, y0, y1, y2, y3⟩ := H11.out.all)
        | (go_at_call 23; (with_reducible refine (TTS.out 6 _).mono ?_); rintro e v12 ⟨g12, rfl, hg, hr, h1⟩; have H12 := Lib.hid (H11.out.keep h1); have R12 := Lib.hid hr; clear h1 hr hg; clear x0 x1 x2 x3 y0 y1 y2 y3; obtain ⟨⟨x0, x1, x2, x3⟩, y0, y1, y2, y3⟩ := H12.out.all)
        | (go_at_call 10; (with_reducible refine (HB6.out g12 _ R12.out H12.out.below).mono ?_); rintro e v13 ⟨rfl, h1⟩; have H13 := Lib.hid (H12.out.keep h1); clear h1; clear x0 x1 x2 x3 y0 y1 y2 y3; obtain ⟨⟨x0, x1, x2, x3⟩, y0, y1, y2, y3⟩ := H13.out.all)
        | (go_at_call 9; (with_reducible refine (QE.out _).mono ?_); rintro e v9 ⟨rfl, h1⟩; have H9 := Lib.hid (H13.out.keep h1); clear h1))
      go_ret
      exact ⟨rfl, H9.out.below⟩
    have QF7 := Lib.hid (fun v => HF7.out v hk hl)
    have QB8 := Lib.hid (fun v => HB8.out v hk hl)
    have QF9 := Lib.hid (fun v => HF9.out v hk hl)
    have QF10 := Lib.hid (fun v => HF10.out v hk hl)
    clear HF7 HB8 HF9 HF10
    subst hk hl
    go_upto_region 8 with (first
        | (go_at_call 23; (with_reducible refine (TTS.out 5 _).mono ?_); rintro e v10 ⟨g10, rfl, hg, hr, h1⟩; have H10 := Lib.hid (H7.out.keep h1); have R10 := Lib.hid hr; clear h1 hr hg; clear x0 x1 x2 x3 y0 y1 y2 y3; obtain ⟨⟨x0, x1, x2, x3⟩, y0, y1, y2, y3⟩ := H10.out.all)
        | (go_at_call 10; (with_reducible refine (HB5.out g10 _ R10.out H10.out.below).mono ?_); rintro e v11 ⟨rfl, h1⟩; have H11 := Lib.hid (H10.out.keep h1); clear h1; clear x0 x1 x2 x3 y0 y1 y2 y3; obtain ⟨⟨x0, x1, x2, x3⟩, y0, y1, y2, y3⟩ := H11.out.all)
        | (go_at_call 23; (with_reducible refine (TTS.out 6 _).mono ?_); rintro e v12 ⟨g12, rfl, hg, hr, h1⟩; have H12 := Lib.hid (H11.out.keep h1); have R12 := Lib.hid hr; clear h1 hr hg; clear x0 x1 x2 x3 y0 y1 y2 y3; obtain ⟨⟨x0, x1, x2, x3⟩, y0, y1, y2, y3⟩ := H12.out.all)
        | (go_at_call 10; (with_reducible refine (HB6.out g12 _ R12.out H12.out.below).mono ?_); rintro e v13 ⟨rfl, h1⟩; have H13 := Lib.hid (H12.out.keep h1); clear h1; clear x0 x1 x2 x3 y0 y1 y2 y3; obtain ⟨⟨x0, x1, x2, x3⟩, y0, y1, y2, y3⟩ := H13.out.all))
    have HD := Lib.hid (H13.out.keep (Below.refl _ _).drew)
    clear H7 H10 H11 H12 R10 R12 HB5 HB6 x0 x1 x2 x3 y0 y1 y2 y3
    have hcase : n1 < n2 ∨ n1 = n2 ∨ n2 < n1 := by omega
    rcases hcase with hn | hn | hn
    · have G7 := Lib.hid (QF7.out 1 (by simp [holdV]; try omega))
      have G8 := Lib.hid (QB8.out 2 (by simp [holdV]; try omega))
      have G9 := Lib.hid (QF9.out 2 (by simp [holdV]; try omega))
      have G10 := Lib.hid (QF10.out 1 (by simp [holdV]; try omega))
      have d1 : decide (n1 < n2) = true := by simp; try omega
      have d2 : (n1 == n2) = false := by simp; try omega
      clear QF7 QB8 QF9 QF10 hn
      go_region_held3 (fun W => (W.cell? ⟨w.heap.size, 0, none⟩ = some (.int .i64 0) ∧ W.cell? ⟨w.heap.size, 1, none⟩ = some (.int .i64 n1) ∧ W.cell? ⟨w.heap.size, 2, none⟩ = some (.string s1) ∧ W.cell? ⟨w.heap.size, 3, none⟩ = some (.slice A1 a1.length p1)) ∧ W.cell? ⟨w.heap.size + 1, 0, none⟩ = some (.int .i64 0) ∧ W.cell? ⟨w.heap.size + 1, 1, none⟩ = some (.int .i64 n2) ∧ W.cell? ⟨w.heap.size + 1, 2, none⟩ = some (.string s2) ∧ W.cell? ⟨w.heap.size + 1, 3, none⟩ = some (.slice A2 a2.length p2)) (first | (with_reducible exact H23.out.all) | (with_reducible exact H22.out.all) | (with_reducible exact H21.out.all) | (with_reducible exact H20.out.all) | (with_reducible exact HD.out.all) | fail) (first
        | (go_at_call 23; have hF := TST.out 7 v13.drew; (with_reducible refine hF.mono ?_); rintro e v20 ⟨g20, rfl, hg, hr, h1⟩; have H20 := Lib.hid (HD.out.keep h1); have R20 := Lib.hid hr; clear h1 hr hg hF)
        | (go_at_call 10; have hF := G7.out g20 v20 R20.out H20.out.below; (with_reducible refine hF.mono ?_); rintro e v21 ⟨rfl, h1⟩; have H21 := Lib.hid (H20.out.keep h1); clear h1 hF)
        | (go_at_call 23; have hF := TTS.out 8 v21; (with_reducible refine hF.mono ?_); rintro e v22 ⟨g22, rfl, hg, hr, h1⟩; have H22 := Lib.hid (H21.out.keep h1); have R22 := Lib.hid hr; clear h1 hr hg hF)
        | (go_at_call 10; have hF := G8.out g22 v22 R22.out H22.out.below; (with_reducible refine hF.mono ?_); rintro e v23 ⟨rfl, h1⟩; have H23 := Lib.hid (H22.out.keep h1); clear h1 hF)
        | fail)
      all_goals
        have HD := Lib.hid (H23.out.keep (Below.refl _ _).drew)
        clear H20 H21 H22 R20 R22 G7 G8
        go_wp2_with fail
        go_region_held3 (fun W => (W.cell? ⟨w.heap.size, 0, none⟩ = some (.int .i64 0) ∧ W.cell? ⟨w.heap.size, 1, none⟩ = some (.int .i64 n1) ∧ W.cell? ⟨w.heap.size, 2, none⟩ = some (.string s1) ∧ W.cell? ⟨w.heap.size, 3, none⟩ = some (.slice A1 a1.length p1)) ∧ W.cell? ⟨w.heap.size + 1, 0, none⟩ = some (.int .i64 0) ∧ W.cell? ⟨w.heap.size + 1, 1, none⟩ = some (.int .i64 n2) ∧ W.cell? ⟨w.heap.size + 1, 2, none⟩ = some (.string s2) ∧ W.cell? ⟨w.heap.size + 1, 3, none⟩ = some (.slice A2 a2.length p2)) (first | (with_reducible exact H27.out.all) | (with_reducible exact H26.out.all) | (with_reducible exact H25.out.all) | (with_reducible exact H24.out.all) | (with_reducible exact HD.out.all) | fail) (first
          | (go_at_call 23; have hF := TST.out 9 v23.drew; (with_reducible refine hF.mono ?_); rintro e v24 ⟨g24, rfl, hg, hr, h1⟩; have H24 := Lib.hid (HD.out.keep h1); have R24 := Lib.hid hr; clear h1 hr hg hF)
          | (go_at_call 10; have hF := G9.out g24 v24 R24.out H24.out.below; (with_reducible refine hF.mono ?_); rintro e v25 ⟨rfl, h1⟩; have H25 := Lib.hid (H24.out.keep h1); clear h1 hF)
          | (go_at_call 23; have hF := TST.out 10 v25; (with_reducible refine hF.mono ?_); rintro e v26 ⟨g26, rfl, hg, hr, h1⟩; have H26 := Lib.hid (H25.out.keep h1); have R26 := Lib.hid hr; clear h1 hr hg hF)
          | (go_at_call 10; have hF := G10.out g26 v26 R26.out H26.out.below; (with_reducible refine hF.mono ?_); rintro e v27 ⟨rfl, h1⟩; have H27 := Lib.hid (H26.out.keep h1); clear h1 hF)
          | fail)
        all_goals
          obtain ⟨⟨x0, x1, x2, x3⟩, y0, y1, y2, y3⟩ := H27.out.all
          go_wp2_with (go_at_call 9; (with_reducible refine (QE.out _).mono ?_); rintro e v9 ⟨rfl, h1⟩; have H9 := Lib.hid (H27.out.keep h1); clear h1)
          go_ret
          exact ⟨by simp, H9.out.below⟩
    · have G7 := Lib.hid (QF7.out 2 (by simp [holdV]; try omega))
      have G8 := Lib.hid (QB8.out 1 (by simp [holdV]; try omega))
      have G9 := Lib.hid (QF9.out 1 (by simp [holdV]; try omega))
      have G10 := Lib.hid (QF10.out 2 (by simp [holdV]; try omega))
      have d1 : decide (n1 < n2) = false := by simp; try omega
      have d2 : (n1 == n2) = true := by simp; try omega
      clear QF7 QB8 QF9 QF10 hn
      go_region_held3 (fun W => (W.cell? ⟨w.heap.size, 0, none⟩ = some (.int .i64 0) ∧ W.cell? ⟨w.heap.size, 1, none⟩ = some (.int .i64 n1) ∧ W.cell? ⟨w.heap.size, 2, none⟩ = some (.string s1) ∧ W.cell? ⟨w.heap.size, 3, none⟩ = some (.slice A1 a1.length p1)) ∧ W.cell? ⟨w.heap.size + 1, 0, none⟩ = some (.int .i64 0) ∧ W.cell? ⟨w.heap.size + 1, 1, none⟩ = some (.int .i64 n2) ∧ W.cell? ⟨w.heap.size + 1, 2, none⟩ = some (.string s2) ∧ W.cell? ⟨w.heap.size + 1, 3, none⟩ = some (.slice A2 a2.length p2)) (first | (with_reducible exact H23.out.all) | (with_reducible exact H22.out.all) | (with_reducible exact H21.out.all) | (with_reducible exact H20.out.all) | (with_reducible exact HD.out.all) | fail) (first
        | (go_at_call 23; have hF := TST.out 7 v13.drew; (with_reducible refine hF.mono ?_); rintro e v20 ⟨g20, rfl, hg, hr, h1⟩; have H20 := Lib.hid (HD.out.keep h1); have R20 := Lib.hid hr; clear h1 hr hg hF)
        | (go_at_call 10; have hF := G7.out g20 v20 R20.out H20.out.below; (with_reducible refine hF.mono ?_); rintro e v21 ⟨rfl, h1⟩; have H21 := Lib.hid (H20.out.keep h1); clear h1 hF)
        | (go_at_call 23; have hF := TTS.out 8 v21; (with_reducible refine hF.mono ?_); rintro e v22 ⟨g22, rfl, hg, hr, h1⟩; have H22 := Lib.hid (H21.out.keep h1); have R22 := Lib.hid hr; clear h1 hr hg hF)
        | (go_at_call 10; have hF := G8.out g22 v22 R22.out H22.out.below; (with_reducible refine hF.mono ?_); rintro e v23 ⟨rfl, h1⟩; have H23 := Lib.hid (H22.out.keep h1); clear h1 hF)
        | fail)
      all_goals
        have HD := Lib.hid (H23.out.keep (Below.refl _ _).drew)
        clear H20 H21 H22 R20 R22 G7 G8
        go_wp2_with fail
        go_region_held3 (fun W => (W.cell? ⟨w.heap.size, 0, none⟩ = some (.int .i64 0) ∧ W.cell? ⟨w.heap.size, 1, none⟩ = some (.int .i64 n1) ∧ W.cell? ⟨w.heap.size, 2, none⟩ = some (.string s1) ∧ W.cell? ⟨w.heap.size, 3, none⟩ = some (.slice A1 a1.length p1)) ∧ W.cell? ⟨w.heap.size + 1, 0, none⟩ = some (.int .i64 0) ∧ W.cell? ⟨w.heap.size + 1, 1, none⟩ = some (.int .i64 n2) ∧ W.cell? ⟨w.heap.size + 1, 2, none⟩ = some (.string s2) ∧ W.cell? ⟨w.heap.size + 1, 3, none⟩ = some (.slice A2 a2.length p2)) (first | (with_reducible exact H27.out.all) | (with_reducible exact H26.out.all) | (with_reducible exact H25.out.all) | (with_reducible exact H24.out.all) | (with_reducible exact HD.out.all) | fail) (first
          | (go_at_call 23; have hF := TST.out 9 v23.drew; (with_reducible refine hF.mono ?_); rintro e v24 ⟨g24, rfl, hg, hr, h1⟩; have H24 := Lib.hid (HD.out.keep h1); have R24 := Lib.hid hr; clear h1 hr hg hF)
          | (go_at_call 10; have hF := G9.out g24 v24 R24.out H24.out.below; (with_reducible refine hF.mono ?_); rintro e v25 ⟨rfl, h1⟩; have H25 := Lib.hid (H24.out.keep h1); clear h1 hF)
          | (go_at_call 23; have hF := TST.out 10 v25; (with_reducible refine hF.mono ?_); rintro e v26 ⟨g26, rfl, hg, hr, h1⟩; have H26 := Lib.hid (H25.out.keep h1); have R26 := Lib.hid hr; clear h1 hr hg hF)
          | (go_at_call 10; have hF := G10.out g26 v26 R26.out H26.out.below; (with_reducible refine hF.mono ?_); rintro e v27 ⟨rfl, h1⟩; have H27 := Lib.hid (H26.out.keep h1); clear h1 hF)
          | fail)
        all_goals
          obtain ⟨⟨x0, x1, x2, x3⟩, y0, y1, y2, y3⟩ := H27.out.all
          go_wp2_with (go_at_call 9; (with_reducible refine (QE.out _).mono ?_); rintro e v9 ⟨rfl, h1⟩; have H9 := Lib.hid (H27.out.keep h1); clear h1)
          go_ret
          exact ⟨by simp, H9.out.below⟩
    · have G7 := Lib.hid (QF7.out 2 (by simp [holdV]; try omega))
      have G8 := Lib.hid (QB8.out 1 (by simp [holdV]; try omega))
      have G9 := Lib.hid (QF9.out 2 (by simp [holdV]; try omega))
      have G10 := Lib.hid (QF10.out 1 (by simp [holdV]; try omega))
      have d1 : decide (n1 < n2) = false := by simp; try omega
      have d2 : (n1 == n2) = false := by simp; try omega
      clear QF7 QB8 QF9 QF10 hn
      go_region_held3 (fun W => (W.cell? ⟨w.heap.size, 0, none⟩ = some (.int .i64 0) ∧ W.cell? ⟨w.heap.size, 1, none⟩ = some (.int .i64 n1) ∧ W.cell? ⟨w.heap.size, 2, none⟩ = some (.string s1) ∧ W.cell? ⟨w.heap.size, 3, none⟩ = some (.slice A1 a1.length p1)) ∧ W.cell? ⟨w.heap.size + 1, 0, none⟩ = some (.int .i64 0) ∧ W.cell? ⟨w.heap.size + 1, 1, none⟩ = some (.int .i64 n2) ∧ W.cell? ⟨w.heap.size + 1, 2, none⟩ = some (.string s2) ∧ W.cell? ⟨w.heap.size + 1, 3, none⟩ = some (.slice A2 a2.length p2)) (first | (with_reducible exact H23.out.all) | (with_reducible exact H22.out.all) | (with_reducible exact H21.out.all) | (with_reducible exact H20.out.all) | (with_reducible exact HD.out.all) | fail) (first
        | (go_at_call 23; have hF := TST.out 7 v13.drew; (with_reducible refine hF.mono ?_); rintro e v20 ⟨g20, rfl, hg, hr, h1⟩; have H20 := Lib.hid (HD.out.keep h1); have R20 := Lib.hid hr; clear h1 hr hg hF)
        | (go_at_call 10; have hF := G7.out g20 v20 R20.out H20.out.below; (with_reducible refine hF.mono ?_); rintro e v21 ⟨rfl, h1⟩; have H21 := Lib.hid (H20.out.keep h1); clear h1 hF)
        | (go_at_call 23; have hF := TTS.out 8 v21; (with_reducible refine hF.mono ?_); rintro e v22 ⟨g22, rfl, hg, hr, h1⟩; have H22 := Lib.hid (H21.out.keep h1); have R22 := Lib.hid hr; clear h1 hr hg hF)
        | (go_at_call 10; have hF := G8.out g22 v22 R22.out H22.out.below; (with_reducible refine hF.mono ?_); rintro e v23 ⟨rfl, h1⟩; have H23 := Lib.hid (H22.out.keep h1); clear h1 hF)
        | fail)
      all_goals
        have HD := Lib.hid (H23.out.keep (Below.refl _ _).drew)
        clear H20 H21 H22 R20 R22 G7 G8
        go_wp2_with fail
        go_region_held3 (fun W => (W.cell? ⟨w.heap.size, 0, none⟩ = some (.int .i64 0) ∧ W.cell? ⟨w.heap.size, 1, none⟩ = some (.int .i64 n1) ∧ W.cell? ⟨w.heap.size, 2, none⟩ = some (.string s1) ∧ W.cell? ⟨w.heap.size, 3, none⟩ = some (.slice A1 a1.length p1)) ∧ W.cell? ⟨w.heap.size + 1, 0, none⟩ = some (.int .i64 0) ∧ W.cell? ⟨w.heap.size + 1, 1, none⟩ = some (.int .i64 n2) ∧ W.cell? ⟨w.heap.size + 1, 2, none⟩ = some (.string s2) ∧ W.cell? ⟨w.heap.size + 1, 3, none⟩ = some (.slice A2 a2.length p2)) (first | (with_reducible exact H27.out.all) | (with_reducible exact H26.out.all) | (with_reducible exact H25.out.all) | (with_reducible exact H24.out.all) | (with_reducible exact HD.out.all) | fail) (first
          | (go_at_call 23; have hF := TST.out 9 v23.drew; (with_reducible refine hF.mono ?_); rintro e v24 ⟨g24, rfl, hg, hr, h1⟩; have H24 := Lib.hid (HD.out.keep h1); have R24 := Lib.hid hr; clear h1 hr hg hF)
          | (go_at_call 10; have hF := G9.out g24 v24 R24.out H24.out.below; (with_reducible refine hF.mono ?_); rintro e v25 ⟨rfl, h1⟩; have H25 := Lib.hid (H24.out.keep h1); clear h1 hF)
          | (go_at_call 23; have hF := TST.out 10 v25; (with_reducible refine hF.mono ?_); rintro e v26 ⟨g26, rfl, hg, hr, h1⟩; have H26 := Lib.hid (H25.out.keep h1); have R26 := Lib.hid hr; clear h1 hr hg hF)
          | (go_at_call 10; have hF := G10.out g26 v26 R26.out H26.out.below; (with_reducible refine hF.mono ?_); rintro e v27 ⟨rfl, h1⟩; have H27 := Lib.hid (H26.out.keep h1); clear h1 hF)
          | fail)
        all_goals
          obtain ⟨⟨x0, x1, x2, x3⟩, y0, y1, y2, y3⟩ := H27.out.all
          go_wp2_with (go_at_call 9; (with_reducible refine (QE.out _).mono ?_); rintro e v9 ⟨rfl, h1⟩; have H9 := Lib.hid (H27.out.keep h1); clear h1)
          go_ret
          exact ⟨by simp, H9.out.below⟩
end Go.Proofs.YtgpglgehlnfggaaGreat.askOpposites
