/-
  Contract of awake of the statements.
-/
import Derived.Test.YtponcbnghiaclaaArTwo
import Derived.Test.YtponcbnghiaclaaArFold
import Derived.Test.YtponcbnghiaclaaArExpr
import Derived.BigQuiet
import Derived.Lib.QuietBelow
import Derived.Deep.RegionHeld3
namespace Go.Proofs.Ytponcbnghiaclaa
open Go.ChangeShapes Go.WideShapes Go.ChangeAt Go.RowKit Go.Sort

def varT (n : Int) : Tm := .mk 1 n ByteArray.empty none 0 []
theorem var_at {n : Int} (w : World) (h : Fits n) : (varT n).At w := by
  refine (At_iff _ _).2 ⟨⟨⟨by simp [varT, Tm.kind], by simp [varT, Tm.kind]⟩, h, by simp [varT, Tm.name]⟩, ?_⟩
  exact Lst.nil w
theorem small_at' (w : World) (n : Int) (h : -100 ≤ n ∧ n ≤ 100) : (numT n).At w := num_at w (by unfold Fits; omega)
theorem made_eval (s : ByteArray) (A : Option Addr) (x y : Tm) : (Tm.mk 2 0 s A 2 [x, y]).eval = (Tm.mk 2 0 s none 0 [x, y]).eval := by simp only [Tm.eval]
theorem ev1 (A : Option Addr) : (Tm.mk 2 0 ⟨#[47]⟩ A 2 [numT (-7), numT 2]).eval = (-4, 0) := by rw [made_eval]; decide +kernel
theorem ev2 (A : Option Addr) : (Tm.mk 2 0 ⟨#[37]⟩ A 2 [numT (-7), numT 2]).eval = (1, 0) := by rw [made_eval]; decide +kernel
theorem ev3 (A B : Option Addr) : (Tm.mk 2 0 ⟨#[43]⟩ A 2 [.mk 2 0 ⟨#[47]⟩ B 2 [numT 2, numT 0], varT 0]).eval = (0, 12) := by
  rw [eval_fun (by decide +kernel), made_eval]
  decide +kernel
theorem ev4 (A B : Option Addr) : (Tm.mk 2 0 ⟨#[43]⟩ A 2 [varT 0, .mk 2 0 ⟨#[47]⟩ B 2 [numT 2, numT 0]]).eval = (0, 17) := by
  rw [eval_fun (by decide +kernel), made_eval]
  decide +kernel
theorem fo1 (A B C : Option Addr) : (Tm.mk 2 0 ⟨#[42]⟩ A 2 [.mk 2 0 ⟨#[45]⟩ B 2 [numT 2, numT (-7)], varT 0]).fold.strip = (Tm.mk 2 0 ⟨#[42]⟩ C 2 [numT 9, varT 0]).strip := by
  rw [fold_strip.1]
  simp only [Tm.strip, stripL, Tm.fold, foldL, if_true]
  rfl
theorem ex1 (A : Option Addr) : (Tm.mk 2 0 ⟨#[43]⟩ A 2 [varT 0, numT 2]).expr = true := by
  rw [expr_two (by decide +kernel)]; rfl
theorem ex2 : (varT 0).expr = false := by rfl

theorem tw1 (W : World) : Calls Try.prog 21 #[.string ⟨#[47]⟩, .agg #[.int .i64 0, .int .i64 (-7), .string ⟨#[]⟩, .slice none 0 0], .agg #[.int .i64 0, .int .i64 2, .string ⟨#[]⟩, .slice none 0 0]] W (Made ⟨#[47]⟩ (numT (-7)) (numT 2) W) :=
  two_at _ (numT (-7)) (numT 2) W (by simp [ByteArray.size, maxLen]) (small_at' W _ (by omega)) (small_at' W _ (by omega))
theorem tw2 (W : World) : Calls Try.prog 21 #[.string ⟨#[37]⟩, .agg #[.int .i64 0, .int .i64 (-7), .string ⟨#[]⟩, .slice none 0 0], .agg #[.int .i64 0, .int .i64 2, .string ⟨#[]⟩, .slice none 0 0]] W (Made ⟨#[37]⟩ (numT (-7)) (numT 2) W) :=
  two_at _ (numT (-7)) (numT 2) W (by simp [ByteArray.size, maxLen]) (small_at' W _ (by omega)) (small_at' W _ (by omega))
theorem tw3 (W : World) : Calls Try.prog 21 #[.string ⟨#[47]⟩, .agg #[.int .i64 0, .int .i64 2, .string ⟨#[]⟩, .slice none 0 0], .agg #[.int .i64 0, .int .i64 0, .string ⟨#[]⟩, .slice none 0 0]] W (Made ⟨#[47]⟩ (numT 2) (numT 0) W) :=
  two_at _ (numT 2) (numT 0) W (by simp [ByteArray.size, maxLen]) (small_at' W _ (by omega)) (small_at' W _ (by omega))
theorem tw4 (W : World) (b : Nat) (h : Tm.At W (.mk 2 0 ⟨#[47]⟩ (some ⟨b, 0, none⟩) 2 [(numT 2), (numT 0)])) : Calls Try.prog 21 #[.string ⟨#[43]⟩, .agg #[.int .i64 2, .int .i64 0, .string ⟨#[47]⟩, .slice (some ⟨b, 0, none⟩) 2 2], .agg #[.int .i64 1, .int .i64 0, .string ⟨#[]⟩, .slice none 0 0]] W (Made ⟨#[43]⟩ (.mk 2 0 ⟨#[47]⟩ (some ⟨b, 0, none⟩) 2 [(numT 2), (numT 0)]) (varT 0) W) :=
  two_at _ (.mk 2 0 ⟨#[47]⟩ (some ⟨b, 0, none⟩) 2 [(numT 2), (numT 0)]) (varT 0) W (by simp [ByteArray.size, maxLen]) h (var_at W (by unfold Fits; omega))
theorem tw5 (W : World) (b : Nat) (h : Tm.At W (.mk 2 0 ⟨#[47]⟩ (some ⟨b, 0, none⟩) 2 [(numT 2), (numT 0)])) : Calls Try.prog 21 #[.string ⟨#[43]⟩, .agg #[.int .i64 1, .int .i64 0, .string ⟨#[]⟩, .slice none 0 0], .agg #[.int .i64 2, .int .i64 0, .string ⟨#[47]⟩, .slice (some ⟨b, 0, none⟩) 2 2]] W (Made ⟨#[43]⟩ (varT 0) (.mk 2 0 ⟨#[47]⟩ (some ⟨b, 0, none⟩) 2 [(numT 2), (numT 0)]) W) :=
  two_at _ (varT 0) (.mk 2 0 ⟨#[47]⟩ (some ⟨b, 0, none⟩) 2 [(numT 2), (numT 0)]) W (by simp [ByteArray.size, maxLen]) (var_at W (by unfold Fits; omega)) h
theorem tw6 (W : World) : Calls Try.prog 21 #[.string ⟨#[45]⟩, .agg #[.int .i64 0, .int .i64 2, .string ⟨#[]⟩, .slice none 0 0], .agg #[.int .i64 0, .int .i64 (-7), .string ⟨#[]⟩, .slice none 0 0]] W (Made ⟨#[45]⟩ (numT 2) (numT (-7)) W) :=
  two_at _ (numT 2) (numT (-7)) W (by simp [ByteArray.size, maxLen]) (small_at' W _ (by omega)) (small_at' W _ (by omega))
theorem tw7 (W : World) (b : Nat) (h : Tm.At W (.mk 2 0 ⟨#[45]⟩ (some ⟨b, 0, none⟩) 2 [(numT 2), (numT (-7))])) : Calls Try.prog 21 #[.string ⟨#[42]⟩, .agg #[.int .i64 2, .int .i64 0, .string ⟨#[45]⟩, .slice (some ⟨b, 0, none⟩) 2 2], .agg #[.int .i64 1, .int .i64 0, .string ⟨#[]⟩, .slice none 0 0]] W (Made ⟨#[42]⟩ (.mk 2 0 ⟨#[45]⟩ (some ⟨b, 0, none⟩) 2 [(numT 2), (numT (-7))]) (varT 0) W) :=
  two_at _ (.mk 2 0 ⟨#[45]⟩ (some ⟨b, 0, none⟩) 2 [(numT 2), (numT (-7))]) (varT 0) W (by simp [ByteArray.size, maxLen]) h (var_at W (by unfold Fits; omega))
theorem tw8 (W : World) : Calls Try.prog 21 #[.string ⟨#[42]⟩, .agg #[.int .i64 0, .int .i64 9, .string ⟨#[]⟩, .slice none 0 0], .agg #[.int .i64 1, .int .i64 0, .string ⟨#[]⟩, .slice none 0 0]] W (Made ⟨#[42]⟩ (numT 9) (varT 0) W) :=
  two_at _ (numT 9) (varT 0) W (by simp [ByteArray.size, maxLen]) (small_at' W _ (by omega)) (var_at W (by unfold Fits; omega))
theorem tw9 (W : World) : Calls Try.prog 21 #[.string ⟨#[43]⟩, .agg #[.int .i64 1, .int .i64 0, .string ⟨#[]⟩, .slice none 0 0], .agg #[.int .i64 0, .int .i64 2, .string ⟨#[]⟩, .slice none 0 0]] W (Made ⟨#[43]⟩ (varT 0) (numT 2) W) :=
  two_at _ (varT 0) (numT 2) W (by simp [ByteArray.size, maxLen]) (var_at W (by unfold Fits; omega)) (small_at' W _ (by omega))
theorem ec1 (W : World) (b : Nat) (h : (Tm.mk 2 0 ⟨#[47]⟩ (some ⟨b, 0, none⟩) 2 [numT (-7), numT 2]).At W) : Calls Try.prog 13 #[.agg #[.int .i64 2, .int .i64 0, .string ⟨#[47]⟩, .slice (some ⟨b, 0, none⟩) 2 2]] W fun e w' => e = .returned (.tuple #[.int .i64 (-4), .int .i64 0]) ∧ Below W.heap.size W w' := by
  have := eval_at _ W h
  rw [ev1] at this
  exact this
theorem ec2 (W : World) (b : Nat) (h : (Tm.mk 2 0 ⟨#[37]⟩ (some ⟨b, 0, none⟩) 2 [numT (-7), numT 2]).At W) : Calls Try.prog 13 #[.agg #[.int .i64 2, .int .i64 0, .string ⟨#[37]⟩, .slice (some ⟨b, 0, none⟩) 2 2]] W fun e w' => e = .returned (.tuple #[.int .i64 1, .int .i64 0]) ∧ Below W.heap.size W w' := by
  have := eval_at _ W h
  rw [ev2] at this
  exact this
theorem ec3 (W : World) (b : Nat) (c : Nat) (h : (Tm.mk 2 0 ⟨#[43]⟩ (some ⟨b, 0, none⟩) 2 [.mk 2 0 ⟨#[47]⟩ (some ⟨c, 0, none⟩) 2 [numT 2, numT 0], varT 0]).At W) : Calls Try.prog 13 #[.agg #[.int .i64 2, .int .i64 0, .string ⟨#[43]⟩, .slice (some ⟨b, 0, none⟩) 2 2]] W fun e w' => e = .returned (.tuple #[.int .i64 0, .int .i64 12]) ∧ Below W.heap.size W w' := by
  have := eval_at _ W h
  rw [ev3] at this
  exact this
theorem ec4 (W : World) (b : Nat) (c : Nat) (h : (Tm.mk 2 0 ⟨#[43]⟩ (some ⟨b, 0, none⟩) 2 [varT 0, .mk 2 0 ⟨#[47]⟩ (some ⟨c, 0, none⟩) 2 [numT 2, numT 0]]).At W) : Calls Try.prog 13 #[.agg #[.int .i64 2, .int .i64 0, .string ⟨#[43]⟩, .slice (some ⟨b, 0, none⟩) 2 2]] W fun e w' => e = .returned (.tuple #[.int .i64 0, .int .i64 17]) ∧ Below W.heap.size W w' := by
  have := eval_at _ W h
  rw [ev4] at this
  exact this
theorem fc1 (W : World) (b c : Nat) (h : (Tm.mk 2 0 ⟨#[42]⟩ (some ⟨b, 0, none⟩) 2 [.mk 2 0 ⟨#[45]⟩ (some ⟨c, 0, none⟩) 2 [numT 2, numT (-7)], varT 0]).At W) : Calls Try.prog 17 #[.agg #[.int .i64 2, .int .i64 0, .string ⟨#[42]⟩, .slice (some ⟨b, 0, none⟩) 2 2]] W
    fun e w' => ∃ u : Tm, e = .returned (.agg #[.int .i64 u.kind, .int .i64 u.num, .string u.name, .slice u.at_ u.args.length u.cap]) ∧ (∀ C : Option Addr, u.strip = (Tm.mk 2 0 ⟨#[42]⟩ C 2 [numT 9, varT 0]).strip) ∧ u.At w' ∧ Below W.heap.size W w' :=
  (fold_at _ W h (by simp [Tm.nodes, nodesL, numT, varT])).mono fun e w' ⟨u, he, hu, hst, hb⟩ => ⟨u, he, fun C => by rw [hu]; exact fo1 _ _ C, hst w' (fun x hx => by rw [List.mem_singleton.1 hx]; exact h.below hb) (fun _ _ _ _ => rfl), hb⟩
theorem sc1 (W : World) (b : Nat) (u : Tm) (hs : ∀ C : Option Addr, u.strip = (Tm.mk 2 0 ⟨#[42]⟩ C 2 [numT 9, varT 0]).strip) (hu : u.At W) (h : (Tm.mk 2 0 ⟨#[42]⟩ (some ⟨b, 0, none⟩) 2 [numT 9, varT 0]).At W) :
    Calls Try.prog 18 #[.agg #[.int .i64 u.kind, .int .i64 u.num, .string u.name, .slice u.at_ u.args.length u.cap], .agg #[.int .i64 2, .int .i64 0, .string ⟨#[42]⟩, .slice (some ⟨b, 0, none⟩) 2 2]] W fun e w' => e = .returned (.bool true) ∧ Below W.heap.size W w' :=
  same_at u (.mk 2 0 ⟨#[42]⟩ (some ⟨b, 0, none⟩) 2 [numT 9, varT 0]) W (hs (some ⟨b, 0, none⟩)) hu h
theorem xc1 (W : World) (b : Nat) (h : (Tm.mk 2 0 ⟨#[43]⟩ (some ⟨b, 0, none⟩) 2 [varT 0, numT 2]).At W) : Calls Try.prog 15 #[.agg #[.int .i64 2, .int .i64 0, .string ⟨#[43]⟩, .slice (some ⟨b, 0, none⟩) 2 2]] W fun e w' => e = .returned (.bool true) ∧ Below W.heap.size W w' := by
  have := expr_at _ W h
  rw [ex1] at this
  exact this
theorem xc2 (W : World) : Calls Try.prog 15 #[.agg #[.int .i64 1, .int .i64 0, .string ⟨#[]⟩, .slice none 0 0]] W fun e w' => e = .returned (.bool false) ∧ Below W.heap.size W w' := by
  have := expr_at (varT 0) W (var_at W (by unfold Fits; omega))
  rw [ex2] at this
  exact this

theorem cells12 {w W : World} (hb : Below (((w.alloc (.cells #[.int .i64 0, .int .i64 (-7), .string ⟨#[]⟩, .slice none 0 0] 30)).alloc (.cells #[.int .i64 0, .int .i64 2, .string ⟨#[]⟩, .slice none 0 0] 30)).alloc (.cells #[.int .i64 1, .int .i64 0, .string ⟨#[]⟩, .slice none 0 0] 30)).heap.size (((w.alloc (.cells #[.int .i64 0, .int .i64 (-7), .string ⟨#[]⟩, .slice none 0 0] 30)).alloc (.cells #[.int .i64 0, .int .i64 2, .string ⟨#[]⟩, .slice none 0 0] 30)).alloc (.cells #[.int .i64 1, .int .i64 0, .string ⟨#[]⟩, .slice none 0 0] 30)) W) : W.cell? ⟨w.heap.size, 0, none⟩ = some (.int .i64 0) ∧ W.cell? ⟨w.heap.size, 1, none⟩ = some (.int .i64 (-7)) ∧ W.cell? ⟨w.heap.size, 2, none⟩ = some (.string ⟨#[]⟩) ∧ W.cell? ⟨w.heap.size, 3, none⟩ = some (.slice none 0 0) ∧ W.cell? ⟨w.heap.size + 1, 0, none⟩ = some (.int .i64 0) ∧ W.cell? ⟨w.heap.size + 1, 1, none⟩ = some (.int .i64 2) ∧ W.cell? ⟨w.heap.size + 1, 2, none⟩ = some (.string ⟨#[]⟩) ∧ W.cell? ⟨w.heap.size + 1, 3, none⟩ = some (.slice none 0 0) ∧ W.cell? ⟨w.heap.size + 1 + 1, 0, none⟩ = some (.int .i64 1) ∧ W.cell? ⟨w.heap.size + 1 + 1, 1, none⟩ = some (.int .i64 0) ∧ W.cell? ⟨w.heap.size + 1 + 1, 2, none⟩ = some (.string ⟨#[]⟩) ∧ W.cell? ⟨w.heap.size + 1 + 1, 3, none⟩ = some (.slice none 0 0) ∧ Below (((w.alloc (.cells #[.int .i64 0, .int .i64 (-7), .string ⟨#[]⟩, .slice none 0 0] 30)).alloc (.cells #[.int .i64 0, .int .i64 2, .string ⟨#[]⟩, .slice none 0 0] 30)).alloc (.cells #[.int .i64 1, .int .i64 0, .string ⟨#[]⟩, .slice none 0 0] 30)).heap.size (((w.alloc (.cells #[.int .i64 0, .int .i64 (-7), .string ⟨#[]⟩, .slice none 0 0] 30)).alloc (.cells #[.int .i64 0, .int .i64 2, .string ⟨#[]⟩, .slice none 0 0] 30)).alloc (.cells #[.int .i64 1, .int .i64 0, .string ⟨#[]⟩, .slice none 0 0] 30)) W := by
  have e1 : (w.alloc (.cells #[.int .i64 0, .int .i64 (-7), .string ⟨#[]⟩, .slice none 0 0] 30)).heap.size = w.heap.size + 1 := by simp
  have e2 : ((w.alloc (.cells #[.int .i64 0, .int .i64 (-7), .string ⟨#[]⟩, .slice none 0 0] 30)).alloc (.cells #[.int .i64 0, .int .i64 2, .string ⟨#[]⟩, .slice none 0 0] 30)).heap.size = w.heap.size + 1 + 1 := by simp
  have hb2 := (below1 ((w.alloc (.cells #[.int .i64 0, .int .i64 (-7), .string ⟨#[]⟩, .slice none 0 0] 30)).alloc (.cells #[.int .i64 0, .int .i64 2, .string ⟨#[]⟩, .slice none 0 0] 30)) _).trans (hb.mono (below1 _ _).size)
  obtain ⟨⟨x0, x1, x2, x3⟩, ⟨y0, y1, y2, y3⟩, _⟩ := box8 hb2
  obtain ⟨v0, v1, v2, v3, _⟩ := box4 hb
  rw [e2] at v0 v1 v2 v3
  exact ⟨x0, x1, x2, x3, y0, y1, y2, y3, v0, v1, v2, v3, hb⟩
theorem base_below (w : World) : Below w.heap.size w (((w.alloc (.cells #[.int .i64 0, .int .i64 (-7), .string ⟨#[]⟩, .slice none 0 0] 30)).alloc (.cells #[.int .i64 0, .int .i64 2, .string ⟨#[]⟩, .slice none 0 0] 30)).alloc (.cells #[.int .i64 1, .int .i64 0, .string ⟨#[]⟩, .slice none 0 0] 30)) := ((below2 w _ _).alloc (by simp; omega) _)

set_option maxHeartbeats 16000000 in
theorem awake_at (w : World) : Calls Try.prog 9 #[] w fun e w' => e = .returned (.bool true) ∧ Below w.heap.size w w' := by
  have HK := Lib.hid (fun W h => cells12 (w := w) (W := W) h)
  have T1 := Lib.hid tw1
  have T2 := Lib.hid tw2
  have T3 := Lib.hid tw3
  have T4 := Lib.hid tw4
  have T5 := Lib.hid tw5
  have T6 := Lib.hid tw6
  have T7 := Lib.hid tw7
  have T8 := Lib.hid tw8
  have T9 := Lib.hid tw9
  have E1 := Lib.hid ec1
  have E2 := Lib.hid ec2
  have E3 := Lib.hid ec3
  have E4 := Lib.hid ec4
  have F1 := Lib.hid fc1
  have S1 := Lib.hid sc1
  have X1 := Lib.hid xc1
  have X2 := Lib.hid xc2
  go_enter Try.func9, Try.ntmps9
  go_wp2_with fail
  refine (T1.out _).mono ?_
  rintro e w1 ⟨b1, rfl, h1, hb⟩
  obtain ⟨x0, x1, x2, x3, y0, y1, y2, y3, v0, v1, v2, v3, _⟩ := cells12 hb
  go_wp2_with fail
  refine (E1.out _ _ h1).mono ?_
  rintro e w2 ⟨rfl, hb2⟩
  replace hb := hb.trans (hb2.mono hb.size)
  clear x0 x1 x2 x3 y0 y1 y2 y3 v0 v1 v2 v3
  clear hb2 h1
  obtain ⟨x0, x1, x2, x3, y0, y1, y2, y3, v0, v1, v2, v3, _⟩ := cells12 hb
  go_wp2_with fail
  refine (T2.out _).mono ?_
  rintro e w3 ⟨b2, rfl, h2, hb2⟩
  replace hb := hb.trans (hb2.mono hb.size)
  clear x0 x1 x2 x3 y0 y1 y2 y3 v0 v1 v2 v3
  clear hb2
  obtain ⟨x0, x1, x2, x3, y0, y1, y2, y3, v0, v1, v2, v3, _⟩ := cells12 hb
  go_wp2_with fail
  refine (E2.out _ _ h2).mono ?_
  rintro e w4 ⟨rfl, hb2⟩
  replace hb := hb.trans (hb2.mono hb.size)
  clear x0 x1 x2 x3 y0 y1 y2 y3 v0 v1 v2 v3
  clear hb2 h2
  go_wp2_with fail
  first | (go_region_held3 (fun W => W.cell? ⟨w.heap.size, 0, none⟩ = some (.int .i64 0) ∧ W.cell? ⟨w.heap.size, 1, none⟩ = some (.int .i64 (-7)) ∧ W.cell? ⟨w.heap.size, 2, none⟩ = some (.string ⟨#[]⟩) ∧ W.cell? ⟨w.heap.size, 3, none⟩ = some (.slice none 0 0) ∧ W.cell? ⟨w.heap.size + 1, 0, none⟩ = some (.int .i64 0) ∧ W.cell? ⟨w.heap.size + 1, 1, none⟩ = some (.int .i64 2) ∧ W.cell? ⟨w.heap.size + 1, 2, none⟩ = some (.string ⟨#[]⟩) ∧ W.cell? ⟨w.heap.size + 1, 3, none⟩ = some (.slice none 0 0) ∧ W.cell? ⟨w.heap.size + 1 + 1, 0, none⟩ = some (.int .i64 1) ∧ W.cell? ⟨w.heap.size + 1 + 1, 1, none⟩ = some (.int .i64 0) ∧ W.cell? ⟨w.heap.size + 1 + 1, 2, none⟩ = some (.string ⟨#[]⟩) ∧ W.cell? ⟨w.heap.size + 1 + 1, 3, none⟩ = some (.slice none 0 0) ∧ Below (((w.alloc (.cells #[.int .i64 0, .int .i64 (-7), .string ⟨#[]⟩, .slice none 0 0] 30)).alloc (.cells #[.int .i64 0, .int .i64 2, .string ⟨#[]⟩, .slice none 0 0] 30)).alloc (.cells #[.int .i64 1, .int .i64 0, .string ⟨#[]⟩, .slice none 0 0] 30)).heap.size (((w.alloc (.cells #[.int .i64 0, .int .i64 (-7), .string ⟨#[]⟩, .slice none 0 0] 30)).alloc (.cells #[.int .i64 0, .int .i64 2, .string ⟨#[]⟩, .slice none 0 0] 30)).alloc (.cells #[.int .i64 1, .int .i64 0, .string ⟨#[]⟩, .slice none 0 0] 30)) W) (exact HK.out _ (by first | assumption | exact hb.drew | exact hb)) (first
    | (go_at_call 21; have hH := (‹_ ∧ _ ∧ _ ∧ _ ∧ _ ∧ _ ∧ _ ∧ _ ∧ _ ∧ _ ∧ _ ∧ _ ∧ Below _ _ _›).2.2.2.2.2.2.2.2.2.2.2.2; (with_reducible refine (T3.out _).mono ?_); rintro e w2 ⟨b3, rfl, h3, hb1⟩; have hI := hH.trans (hb1.mono hH.size); clear hb1 hH)
    | (go_at_call 21; have hH := (‹_ ∧ _ ∧ _ ∧ _ ∧ _ ∧ _ ∧ _ ∧ _ ∧ _ ∧ _ ∧ _ ∧ _ ∧ Below _ _ _›).2.2.2.2.2.2.2.2.2.2.2.2; (with_reducible refine (T4.out _ _ h3).mono ?_); rintro e w2 ⟨b4, rfl, h4, hb1⟩; have hI := hH.trans (hb1.mono hH.size); clear hb1 hH)
    | (go_at_call 13; have hH := (‹_ ∧ _ ∧ _ ∧ _ ∧ _ ∧ _ ∧ _ ∧ _ ∧ _ ∧ _ ∧ _ ∧ _ ∧ Below _ _ _›).2.2.2.2.2.2.2.2.2.2.2.2; (with_reducible refine (E3.out _ _ _ h4).mono ?_); rintro e w2 ⟨rfl, hb1⟩; have hI := hH.trans (hb1.mono hH.size); clear hb1 hH))) | fail
  have hS := (‹_ ∧ _ ∧ _ ∧ _ ∧ _ ∧ _ ∧ _ ∧ _ ∧ _ ∧ _ ∧ _ ∧ _ ∧ Below _ _ _›).2.2.2.2.2.2.2.2.2.2.2.2
  replace hb := hS
  clear hS h3 h4
  go_wp2_with fail
  first | (go_region_held3 (fun W => W.cell? ⟨w.heap.size, 0, none⟩ = some (.int .i64 0) ∧ W.cell? ⟨w.heap.size, 1, none⟩ = some (.int .i64 (-7)) ∧ W.cell? ⟨w.heap.size, 2, none⟩ = some (.string ⟨#[]⟩) ∧ W.cell? ⟨w.heap.size, 3, none⟩ = some (.slice none 0 0) ∧ W.cell? ⟨w.heap.size + 1, 0, none⟩ = some (.int .i64 0) ∧ W.cell? ⟨w.heap.size + 1, 1, none⟩ = some (.int .i64 2) ∧ W.cell? ⟨w.heap.size + 1, 2, none⟩ = some (.string ⟨#[]⟩) ∧ W.cell? ⟨w.heap.size + 1, 3, none⟩ = some (.slice none 0 0) ∧ W.cell? ⟨w.heap.size + 1 + 1, 0, none⟩ = some (.int .i64 1) ∧ W.cell? ⟨w.heap.size + 1 + 1, 1, none⟩ = some (.int .i64 0) ∧ W.cell? ⟨w.heap.size + 1 + 1, 2, none⟩ = some (.string ⟨#[]⟩) ∧ W.cell? ⟨w.heap.size + 1 + 1, 3, none⟩ = some (.slice none 0 0) ∧ Below (((w.alloc (.cells #[.int .i64 0, .int .i64 (-7), .string ⟨#[]⟩, .slice none 0 0] 30)).alloc (.cells #[.int .i64 0, .int .i64 2, .string ⟨#[]⟩, .slice none 0 0] 30)).alloc (.cells #[.int .i64 1, .int .i64 0, .string ⟨#[]⟩, .slice none 0 0] 30)).heap.size (((w.alloc (.cells #[.int .i64 0, .int .i64 (-7), .string ⟨#[]⟩, .slice none 0 0] 30)).alloc (.cells #[.int .i64 0, .int .i64 2, .string ⟨#[]⟩, .slice none 0 0] 30)).alloc (.cells #[.int .i64 1, .int .i64 0, .string ⟨#[]⟩, .slice none 0 0] 30)) W) (exact HK.out _ (by first | assumption | exact hb.drew | exact hb)) (first
    | (go_at_call 21; have hH := (‹_ ∧ _ ∧ _ ∧ _ ∧ _ ∧ _ ∧ _ ∧ _ ∧ _ ∧ _ ∧ _ ∧ _ ∧ Below _ _ _›).2.2.2.2.2.2.2.2.2.2.2.2; (with_reducible refine (T3.out _).mono ?_); rintro e w2 ⟨b5, rfl, h5, hb1⟩; have hI := hH.trans (hb1.mono hH.size); clear hb1 hH)
    | (go_at_call 21; have hH := (‹_ ∧ _ ∧ _ ∧ _ ∧ _ ∧ _ ∧ _ ∧ _ ∧ _ ∧ _ ∧ _ ∧ _ ∧ Below _ _ _›).2.2.2.2.2.2.2.2.2.2.2.2; (with_reducible refine (T5.out _ _ h5).mono ?_); rintro e w2 ⟨b6, rfl, h6, hb1⟩; have hI := hH.trans (hb1.mono hH.size); clear hb1 hH)
    | (go_at_call 13; have hH := (‹_ ∧ _ ∧ _ ∧ _ ∧ _ ∧ _ ∧ _ ∧ _ ∧ _ ∧ _ ∧ _ ∧ _ ∧ Below _ _ _›).2.2.2.2.2.2.2.2.2.2.2.2; (with_reducible refine (E4.out _ _ _ h6).mono ?_); rintro e w2 ⟨rfl, hb1⟩; have hI := hH.trans (hb1.mono hH.size); clear hb1 hH))) | fail
  have hS := (‹_ ∧ _ ∧ _ ∧ _ ∧ _ ∧ _ ∧ _ ∧ _ ∧ _ ∧ _ ∧ _ ∧ _ ∧ Below _ _ _›).2.2.2.2.2.2.2.2.2.2.2.2
  replace hb := hS
  clear hS h5 h6 T1 T2 T3 T4 T5 E1 E2 E3 E4
  go_wp2_with fail
  first | (go_region_held3 (fun W => W.cell? ⟨w.heap.size, 0, none⟩ = some (.int .i64 0) ∧ W.cell? ⟨w.heap.size, 1, none⟩ = some (.int .i64 (-7)) ∧ W.cell? ⟨w.heap.size, 2, none⟩ = some (.string ⟨#[]⟩) ∧ W.cell? ⟨w.heap.size, 3, none⟩ = some (.slice none 0 0) ∧ W.cell? ⟨w.heap.size + 1, 0, none⟩ = some (.int .i64 0) ∧ W.cell? ⟨w.heap.size + 1, 1, none⟩ = some (.int .i64 2) ∧ W.cell? ⟨w.heap.size + 1, 2, none⟩ = some (.string ⟨#[]⟩) ∧ W.cell? ⟨w.heap.size + 1, 3, none⟩ = some (.slice none 0 0) ∧ W.cell? ⟨w.heap.size + 1 + 1, 0, none⟩ = some (.int .i64 1) ∧ W.cell? ⟨w.heap.size + 1 + 1, 1, none⟩ = some (.int .i64 0) ∧ W.cell? ⟨w.heap.size + 1 + 1, 2, none⟩ = some (.string ⟨#[]⟩) ∧ W.cell? ⟨w.heap.size + 1 + 1, 3, none⟩ = some (.slice none 0 0) ∧ Below (((w.alloc (.cells #[.int .i64 0, .int .i64 (-7), .string ⟨#[]⟩, .slice none 0 0] 30)).alloc (.cells #[.int .i64 0, .int .i64 2, .string ⟨#[]⟩, .slice none 0 0] 30)).alloc (.cells #[.int .i64 1, .int .i64 0, .string ⟨#[]⟩, .slice none 0 0] 30)).heap.size (((w.alloc (.cells #[.int .i64 0, .int .i64 (-7), .string ⟨#[]⟩, .slice none 0 0] 30)).alloc (.cells #[.int .i64 0, .int .i64 2, .string ⟨#[]⟩, .slice none 0 0] 30)).alloc (.cells #[.int .i64 1, .int .i64 0, .string ⟨#[]⟩, .slice none 0 0] 30)) W) (exact HK.out _ (by first | assumption | exact hb.drew | exact hb)) (first
    | (go_at_call 21; have hH := (‹_ ∧ _ ∧ _ ∧ _ ∧ _ ∧ _ ∧ _ ∧ _ ∧ _ ∧ _ ∧ _ ∧ _ ∧ Below _ _ _›).2.2.2.2.2.2.2.2.2.2.2.2; (with_reducible refine (T6.out _).mono ?_); rintro e w2 ⟨b7, rfl, h7, hb1⟩; have hI := hH.trans (hb1.mono hH.size); clear hb1 hH)
    | (go_at_call 21; have hH := (‹_ ∧ _ ∧ _ ∧ _ ∧ _ ∧ _ ∧ _ ∧ _ ∧ _ ∧ _ ∧ _ ∧ _ ∧ Below _ _ _›).2.2.2.2.2.2.2.2.2.2.2.2; (with_reducible refine (T7.out _ _ h7).mono ?_); rintro e w2 ⟨b8, rfl, h8, hb1⟩; have hI := hH.trans (hb1.mono hH.size); clear hb1 hH)
    | (go_at_call 17; have hH := (‹_ ∧ _ ∧ _ ∧ _ ∧ _ ∧ _ ∧ _ ∧ _ ∧ _ ∧ _ ∧ _ ∧ _ ∧ Below _ _ _›).2.2.2.2.2.2.2.2.2.2.2.2; (with_reducible refine (F1.out _ _ _ h8).mono ?_); rintro e w2 ⟨u, rfl, hu1, hu2, hb1⟩; have hI := hH.trans (hb1.mono hH.size); clear hb1 hH)
    | (go_at_call 21; have hH := (‹_ ∧ _ ∧ _ ∧ _ ∧ _ ∧ _ ∧ _ ∧ _ ∧ _ ∧ _ ∧ _ ∧ _ ∧ Below _ _ _›).2.2.2.2.2.2.2.2.2.2.2.2; (with_reducible refine (T8.out _).mono ?_); rintro e w2 ⟨b9, rfl, h9, hb1⟩; have hI := hH.trans (hb1.mono hH.size); have hu3 := hu2.below hb1; clear hb1 hH)
    | (go_at_call 18; have hH := (‹_ ∧ _ ∧ _ ∧ _ ∧ _ ∧ _ ∧ _ ∧ _ ∧ _ ∧ _ ∧ _ ∧ _ ∧ Below _ _ _›).2.2.2.2.2.2.2.2.2.2.2.2; (with_reducible refine (S1.out _ _ u hu1 hu3 h9).mono ?_); rintro e w2 ⟨rfl, hb1⟩; have hI := hH.trans (hb1.mono hH.size); clear hb1 hH)
    | (go_at_call 21; have hH := (‹_ ∧ _ ∧ _ ∧ _ ∧ _ ∧ _ ∧ _ ∧ _ ∧ _ ∧ _ ∧ _ ∧ _ ∧ Below _ _ _›).2.2.2.2.2.2.2.2.2.2.2.2; (with_reducible refine (T9.out _).mono ?_); rintro e w2 ⟨c1, rfl, h10, hb1⟩; have hI := hH.trans (hb1.mono hH.size); clear hb1 hH)
    | (go_at_call 15; have hH := (‹_ ∧ _ ∧ _ ∧ _ ∧ _ ∧ _ ∧ _ ∧ _ ∧ _ ∧ _ ∧ _ ∧ _ ∧ Below _ _ _›).2.2.2.2.2.2.2.2.2.2.2.2; (with_reducible refine (X1.out _ _ h10).mono ?_); rintro e w2 ⟨rfl, hb1⟩; have hI := hH.trans (hb1.mono hH.size); clear hb1 hH)
    | (go_at_call 15; have hH := (‹_ ∧ _ ∧ _ ∧ _ ∧ _ ∧ _ ∧ _ ∧ _ ∧ _ ∧ _ ∧ _ ∧ _ ∧ Below _ _ _›).2.2.2.2.2.2.2.2.2.2.2.2; (with_reducible refine (X2.out _).mono ?_); rintro e w2 ⟨rfl, hb1⟩; have hI := hH.trans (hb1.mono hH.size); clear hb1 hH))) | fail
  have hS := (‹_ ∧ _ ∧ _ ∧ _ ∧ _ ∧ _ ∧ _ ∧ _ ∧ _ ∧ _ ∧ _ ∧ _ ∧ Below _ _ _›).2.2.2.2.2.2.2.2.2.2.2.2
  replace hb := hS
  clear hS
  go_wp2_with fail
  go_ret
  exact ⟨rfl, (base_below w).trans (hb.mono (base_below w).size)⟩
end Go.Proofs.Ytponcbnghiaclaa
