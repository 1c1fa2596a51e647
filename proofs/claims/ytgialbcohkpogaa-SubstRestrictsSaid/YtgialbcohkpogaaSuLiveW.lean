/-
  The fixed calls that every statement of this layer asks of the program: the walk.
-/
import Derived.Test.YtgialbcohkpogaaSuLive
import Derived.Test.YtgialbcohkpogaaSuRow
import Derived.Test.YtgialbcohkpogaaTmRefOrd
namespace Go.Proofs.Ytgialbcohkpogaa
open Go.RowKit

set_option maxHeartbeats 4000000 in
set_option maxRecDepth 100000 in
theorem live_at (w : World) : Calls Try.prog 7 #[] w fun e w' => e = .returned (.bool true) ∧ Below w.heap.size w w' := by
  go_enter Try.func7, Try.ntmps7
  go_wp2_with fail
  refine (ref_var_at3 1 _).mono ?_
  rintro e w1 ⟨rfl, hb1⟩
  go_wp2_with fail
  refine (lc_fun _ (exV 1) _ (row_one (exV 1) (exV_at w1 1 (by unfold Fits; omega)))).mono ?_
  rintro e w2 ⟨g, c, rfl, hF, hb2⟩
  have HB2 := Lib.hid (hb1.trans (((below1 w1 _).trans (hb2.mono (by simp))).mono hb1.size))
  have HF := Lib.hid hF
  clear hb1 hb2 hF
  go_wp2_with fail
  refine (ref_int_at 3 _).mono ?_
  rintro e w3 ⟨rfl, hb3⟩
  have HL3 := Lib.hid ((blst_one w2 (exB g c) (by show Fits 0; unfold Fits; omega) HF.out).below hb3)
  have HB3 := Lib.hid (HB2.out.trans (((below1 w2 _).trans (hb3.mono (by simp))).mono HB2.out.size))
  clear hb3 HB2 HF
  go_wp2_with fail
  refine (lc_comp _ _ g c (HL3.out.below (below1 w3 _)) _ (blst_one w3 exC (by show Fits 1; unfold Fits; omega) (exI_at w3 3 (by unfold Fits; omega)))).mono ?_
  rintro e w4 ⟨A, q, l, rfl, hs, hl, hb4⟩
  have HL4 := Lib.hid ((HL3.out.below (below1 w3 _)).below hb4)
  have HB4 := Lib.hid (HB3.out.trans (((below1 w3 _).trans (hb4.mono (by simp))).mono HB3.out.size))
  have HS := Lib.hid hs
  have HC4 := Lib.hid hl
  clear hb4 HL3 HB3 hs hl
  go_wp2_with fail
  refine (lc_look _ l A q HS.out HC4.out).mono ?_
  rintro e w5 ⟨u, rfl, hu, hat, hb5⟩
  have HU := Lib.hid hu
  have hub := fun o => hb5.trans ((below1 w5 o).mono hb5.size)
  have HX := Lib.hid (fun (X : World) (h : Below w4.heap.size w4 X) => And.intro (HL4.out.below h) (And.intro (HC4.out.below h) (HB4.out.trans (h.mono HB4.out.size))))
  have HUB := Lib.hid hub
  have hz4 := HX.out _ (hub (.cells #[.int .i64 u.kind, .int .i64 u.num, .string u.name, .slice u.at_ u.args.length u.cap] 26))
  have hz5 := (held_new (v0 := .int .i64 u.kind) (v1 := .int .i64 u.num) (v2 := .string u.name) (v3 := .slice u.at_ u.args.length u.cap) w5 26)
  have hz6 := hat.alloc (.cells #[.int .i64 u.kind, .int .i64 u.num, .string u.name, .slice u.at_ u.args.length u.cap] 26)
  clear hb5 hu hat hub HUB HX
  generalize hb : w2.heap.size = b at *
  clear hb
  go_wp2_with fail
  generalize hX : w5.alloc (Obj.cells #[.int .i64 u.kind, .int .i64 u.num, .string u.name, .slice u.at_ u.args.length u.cap] 26) = X at *
  generalize ht : w5.heap.size = tb at *
  clear hX ht
  obtain ⟨hB, hC, hW⟩ := hz4
  have HW := Lib.hid hW
  have HB := Lib.hid hB
  have HC := Lib.hid hC
  have HT := Lib.hid hz5
  have HUA := Lib.hid hz6
  have hgc := hB.getA (i := 0) (by simp)
  simp only [Nat.zero_mul, Nat.add_zero, Nat.zero_add] at hgc
  have HKE := Lib.hid (fun (W : World) (h : Below X.heap.size X W) => show Below X.heap.size X W ∧ W.cell? ⟨tb, 0, none⟩ = some (.int .i64 u.kind) ∧ W.cell? ⟨tb, 1, none⟩ = some (.int .i64 u.num) ∧ W.cell? ⟨tb, 2, none⟩ = some (.string u.name) ∧ W.cell? ⟨tb, 3, none⟩ = some (.slice u.at_ u.args.length u.cap) ∧
    W.cell? ⟨b, 1, none⟩ = some (.int .i64 2) ∧ W.cell? ⟨b, 2, none⟩ = some (.int .i64 0) ∧ W.cell? ⟨b, 3, none⟩ = some (.string ⟨#[102]⟩) ∧ W.cell? ⟨b, 4, none⟩ = some (.slice (some ⟨g, 0, none⟩) 1 c) from
    ⟨h, keepv h HT.out.c0, keepv h HT.out.c1, keepv h HT.out.c2, keepv h HT.out.c3, keepv h hgc.2.1, keepv h hgc.2.2.1, keepv h hgc.2.2.2.1, keepv h hgc.2.2.2.2⟩)
  have R1 := Lib.hid (fun W (h : Below X.heap.size X W) => lc_right W b g c (HB.out.below h))
  have R2 := Lib.hid (fun W => ref_int_at 3 W)
  have R3 := Lib.hid (fun V => lc_fun (V.alloc (.cells #[.int .i64 0, .int .i64 3, .string ⟨#[]⟩, .slice none 0 0] 26)) (exI 3) V.heap.size (row_one (exI 3) (exI_at V 3 (by unfold Fits; omega))))
  have R4 := Lib.hid (fun W (h : Below X.heap.size X W) (g' c' : Nat) (hf : (exF g' c' (exI 3)).At W) => show Calls Try.prog 23 #[.agg #[.int .i64 u.kind, .int .i64 u.num, .string u.name, .slice u.at_ u.args.length u.cap], .agg #[.int .i64 2, .int .i64 0, .string ⟨#[102]⟩, .slice (some ⟨g', 0, none⟩) 1 c']] W fun e w' => e = .returned (.bool true) ∧ Below W.heap.size W w' from ref_same_at u (exF g' c' (exI 3)) W (HUA.out.below h) hf (ex_same1 g' c' HU.out))
  have R5 := Lib.hid (fun W => ref_var_at3 0 W)
  have R6 := Lib.hid (fun W (h : Below X.heap.size X W) => lc_apply W b g c (HB.out.below h))
  have R7 := Lib.hid (fun W (h : Below X.heap.size X W) (y : Tm) (hy : y.strip = ((exV 0).app [exB g c]).strip) (hya : y.At W) => show Calls Try.prog 23 #[y.val, .agg #[.int .i64 2, .int .i64 0, .string ⟨#[102]⟩, .slice (some ⟨g, 0, none⟩) 1 c]] W fun e w' => e = .returned (.bool true) ∧ Below W.heap.size W w' from ref_same_at y (exF g c (exV 1)) W hya ((HB.out.below h).mem (x := exB g c) (by simp)).2 (ex_same2 g c hy))
  have R8 := Lib.hid (fun W (h : Below X.heap.size X W) => lc_self W b g c (HB.out.below h))
  have R9 := Lib.hid (fun W (h : Below X.heap.size X W) => lc_other W b g c (HB.out.below h) l A q HS.out (HC.out.below h))
  have hr : Below X.heap.size X X := Below.refl _ _
  clear hB hC hz5 hz6 hgc HB4 HL4 HC4 hW
  (go_region_held3 (fun W => Below X.heap.size X W ∧ W.cell? ⟨tb, 0, none⟩ = some (.int .i64 u.kind) ∧ W.cell? ⟨tb, 1, none⟩ = some (.int .i64 u.num) ∧ W.cell? ⟨tb, 2, none⟩ = some (.string u.name) ∧ W.cell? ⟨tb, 3, none⟩ = some (.slice u.at_ u.args.length u.cap) ∧
    W.cell? ⟨b, 1, none⟩ = some (.int .i64 2) ∧ W.cell? ⟨b, 2, none⟩ = some (.int .i64 0) ∧ W.cell? ⟨b, 3, none⟩ = some (.string ⟨#[102]⟩) ∧ W.cell? ⟨b, 4, none⟩ = some (.slice (some ⟨g, 0, none⟩) 1 c)) (exact HKE.out _ (by first | assumption | exact hr.drew | exact hr | exact Below.alloc (by assumption) (Below.size (by assumption)) _)) (first
    | (go_at_call 11; have hH := (‹Below X.heap.size X _ ∧ _›).1; (with_reducible refine (R1.out _ hH).mono ?_); rintro e v1 ⟨rfl, hb1⟩; have hI := hH.trans (hb1.mono hH.size); clear hb1 hH)
    | (go_at_call 21; have hH := (‹Below X.heap.size X _ ∧ _›).1; (with_reducible refine (R2.out _).mono ?_); rintro e v2 ⟨rfl, hb1⟩; have hI := hH.trans (hb1.mono hH.size); clear hb1 hH)
    | (go_at_call 19; have hH := (‹Below X.heap.size X _ ∧ _›).1; (with_reducible refine (R3.out _).mono ?_); rintro e v3 ⟨g', c', rfl, hf, hb1⟩; have hI := hH.trans (hb1.mono hH.size); clear hb1 hH)
    | (go_at_call 23; have hH := (‹Below X.heap.size X _ ∧ _›).1; (with_reducible refine (R4.out _ hH _ _ hf).mono ?_); rintro e v4 ⟨rfl, hb1⟩; have hI := hH.trans (hb1.mono hH.size); clear hb1 hH)
    | (go_at_call 20; have hH := (‹Below X.heap.size X _ ∧ _›).1; (with_reducible refine (R5.out _).mono ?_); rintro e v5 ⟨rfl, hb1⟩; have hI := hH.trans (hb1.mono hH.size); clear hb1 hH)
    | (go_at_call 13; have hH := (‹Below X.heap.size X _ ∧ _›).1; (with_reducible refine (R6.out _ hH).mono ?_); rintro e v6 ⟨y, rfl, hy, hlie, hb1⟩; have hya := hlie.at trivial; have hI := hH.trans (hb1.mono hH.size); clear hb1 hH hlie)
    | (go_at_call 23; have hH := (‹Below X.heap.size X _ ∧ _›).1; (with_reducible refine (R7.out _ hH y hy hya).mono ?_); rintro e v7 ⟨rfl, hb1⟩; have hI := hH.trans (hb1.mono hH.size); clear hb1 hH)
    | (go_at_call 15; have hH := (‹Below X.heap.size X _ ∧ _›).1; (with_reducible refine (R8.out _ hH).mono ?_); rintro e v8 ⟨rfl, hb1⟩; have hI := hH.trans (hb1.mono hH.size); clear hb1 hH)
    | (go_at_call 15; have hH := (‹Below X.heap.size X _ ∧ _›).1; (with_reducible refine (R9.out _ hH).mono ?_); rintro e v9 ⟨rfl, hb1⟩; have hI := hH.trans (hb1.mono hH.size); clear hb1 hH)))
  have hS := (‹Below X.heap.size X _ ∧ _›).1
  have HE := Lib.hid (HW.out.trans (hS.mono HW.out.size))
  go_wp2_with fail
  go_ret
  exact ⟨rfl, HE.out⟩
end Go.Proofs.Ytgialbcohkpogaa
