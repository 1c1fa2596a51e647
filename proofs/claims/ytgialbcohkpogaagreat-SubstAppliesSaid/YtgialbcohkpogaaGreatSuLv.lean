/-
  The fixed calls that every statement of this layer asks of the program: they answer as the chapter says.
  The fixed calls that every statement of this layer asks of the program: the walk.
-/
import Derived.Test.YtgialbcohkpogaaGreatSuFun
import Derived.Test.YtgialbcohkpogaaGreatSuCompose
import Derived.Test.YtgialbcohkpogaaGreatSuSame
import Derived.Test.YtgialbcohkpogaaGreatSuOrder
import Derived.Deep.RegionHeld3
import Derived.Test.YtgialbcohkpogaaGreatTmOpen
import Derived.KernelRfl
import Derived.Test.YtgialbcohkpogaaGreatSuRow
import Derived.Test.YtgialbcohkpogaaGreatTmOrder
namespace Go.Proofs.YtgialbcohkpogaaGreat
open Go.RowKit

def fS : ByteArray := ⟨#[102]⟩
def exV (n : Int) : Tm := .mk 1 n ⟨#[]⟩ none 0 []
def exI (n : Int) : Tm := .mk 0 n ⟨#[]⟩ none 0 []
def exF (g c : Nat) (t : Tm) : Tm := .mk 2 0 ⟨#[102]⟩ (some ⟨g, 0, none⟩) c [t]
def exF0 (t : Tm) : Tm := .mk 2 0 ⟨#[102]⟩ none 0 [t]
def exB (g c : Nat) : Bd := ⟨0, exF g c (exV 1)⟩
def exC : Bd := ⟨1, exI 3⟩
def exL : List Bd := [⟨0, exF0 (exI 3)⟩, ⟨1, exI 3⟩]
theorem exV_at (w : World) (n : Int) (h : Fits n) : (exV n).At w := (At_iff _ _).2 ⟨⟨by simp only [exV, Tm.kind]; unfold Fits; omega, h, by unfold maxLen; simp [exV, Tm.name, ByteArray.size]⟩, Lst.nil w⟩
theorem exI_at (w : World) (n : Int) (h : Fits n) : (exI n).At w := (At_iff _ _).2 ⟨⟨by simp only [exI, Tm.kind]; unfold Fits; omega, h, by unfold maxLen; simp [exI, Tm.name, ByteArray.size]⟩, Lst.nil w⟩
theorem exB_strip (g c : Nat) : stripB [exB g c] = [⟨0, exF0 (exV 1)⟩] := rfl
theorem exC_strip : stripB [exC] = [exC] := rfl
theorem exB_right (g c : Nat) : rightS [exB g c] = true := by
  rw [← rightS_strip, exB_strip]
  kernel_rfl
theorem ex_comp (g c : Nat) : (comp [exB g c] [exC]).2 = 0 ∧ stripB (comp [exB g c] [exC]).1 = exL := by
  have h := comp_like (a := [exB g c]) (a' := [⟨0, exF0 (exV 1)⟩]) (c := [exC]) (c' := [exC]) (by rw [exB_strip]; rfl) rfl
  have e : comp [⟨0, exF0 (exV 1)⟩] [exC] = (exL, 0) := by kernel_rfl
  rw [e] at h
  exact ⟨h.1, h.2⟩
theorem exL_len {l : List Bd} (h : stripB l = exL) : l.length = 2 := by rw [← stripB_len, h]; rfl
theorem exL_look {l : List Bd} (h : stripB l = exL) : (look l 0).isSome = true ∧ (optT (look l 0)).strip = exF0 (exI 3) := by
  have h1 := look_strip l 0
  rw [h] at h1
  have h2 : look exL 0 = some (exF0 (exI 3)) := rfl
  rw [h2] at h1
  cases hl : look l 0 with
  | none => rw [hl] at h1; cases h1
  | some t =>
    rw [hl] at h1
    injection h1 with h1
    exact ⟨rfl, h1.symm⟩
theorem exL_nodes {l : List Bd} (h : stripB l = exL) : ∀ x ∈ l, x.tm.nodes ≤ 1000000 := by
  have hn : ∀ t : Tm, t.strip.nodes = t.nodes := (Tm.induct2 (q := fun l => nodesL (stripL l) = nodesL l) (fun k n s A c a ih => by simp only [Tm.strip, Tm.nodes, ih]) rfl (fun t r h1 h2 => by simp only [stripL, nodesL, h1, h2])).1
  intro x hx
  have hm : x.strip ∈ exL := by rw [← h]; exact List.mem_map_of_mem hx
  rw [← hn]
  have : ∀ y ∈ exL, y.tm.nodes ≤ 1000000 := by
    intro y hy
    simp only [exL, List.mem_cons, List.not_mem_nil, or_false] at hy
    rcases hy with rfl | rfl <;> simp [exF0, exI, Tm.nodes, nodesL]
  exact this _ hm
theorem exB_good (g c : Nat) : Good [exB g c] := ⟨by simp, fun i j hij hj => by
  obtain rfl : j = 0 := by simpa using hj
  obtain rfl : i = 0 := by omega
  exact Int.le_refl _, fun x hx => by
  rw [List.mem_singleton.1 hx]
  simp [exB, exF, exV, Tm.nodes, nodesL]⟩
theorem ex_same1 {u : Tm} (g c : Nat) (h : u.strip = exF0 (exI 3)) : (cmpT u (exF g c (exI 3)) == 0) = true := same_strip (by rw [h]; rfl)
theorem ex_same2 {u : Tm} (g c : Nat) (h : u.strip = ((exV 0).app [exB g c]).strip) : (cmpT u (exF g c (exV 1)) == 0) = true := same_strip (by rw [h]; rfl)
theorem ex_same3 (g c : Nat) : sameB [exB g c] [exB g c] = true := sameB_refl _
theorem ex_same4 {l : List Bd} (g c : Nat) (h : stripB l = exL) : sameB [exB g c] l = false := by
  cases hs : sameB [exB g c] l with
  | false => rfl
  | true =>
    have := ((sameB_iff _ _).1 hs).1
    rw [exL_len h] at this
    cases this

/-! ### The calls -/
section
variable (W : World) (b g c : Nat) (hb : BLst W (some ⟨b, 0, none⟩) [exB g c] 1)
include hb
theorem lc_right : Calls Tryz.prog 7 #[.slice (some ⟨b, 0, none⟩) 1 1] W fun e w' => e = .returned (.bool true) ∧ Below W.heap.size W w' := by
  have := right_s_at [exB g c] (some ⟨b, 0, none⟩) 1 W hb (by simp)
  rw [exB_right] at this
  exact this
def ExComp (W : World) (e : Ending) (w' : World) : Prop := ∃ A q, ∃ l : List Bd, e = .returned (.tuple #[.slice A 2 q, .int .i64 0]) ∧ stripB l = exL ∧ BLst w' A l q ∧ Below W.heap.size W w'
theorem lc_comp (d : Nat) (hd : BLst W (some ⟨d, 0, none⟩) [exC] 1) : Calls Tryz.prog 24 #[.slice (some ⟨b, 0, none⟩) 1 1, .slice (some ⟨d, 0, none⟩) 1 1] W (ExComp W) :=
  (compose_at [exB g c] [exC] (some ⟨b, 0, none⟩) (some ⟨d, 0, none⟩) 1 1 W hb hd (by simp) (exB_good g c).nodes (fun x hx => by rw [List.mem_singleton.1 hx]; simp [exC, exI, Tm.nodes, nodesL])).mono (by
    rintro e w' ⟨A, q, l, rfl, hs, hl, hbw⟩
    have h := ex_comp g c
    rw [h.2] at hs
    exact ⟨A, q, l, by rw [h.1, exL_len hs], hs, hl, hbw⟩)
theorem lc_apply : Calls Tryz.prog 16 #[.slice (some ⟨b, 0, none⟩) 1 1, .agg #[.int .i64 1, .int .i64 0, .string ⟨#[]⟩, .slice none 0 0]] W (Made ((exV 0).app [exB g c]) W) :=
  apply_at [exB g c] (some ⟨b, 0, none⟩) 1 (exV 0) W (exV_at W 0 (by unfold Fits; omega)) (by simp [exV, Tm.nodes, nodesL]) (fun W' h => in_order_at [exB g c] (some ⟨b, 0, none⟩) 1 W' (hb.below h) (exB_good g c))
theorem lc_self : Calls Tryz.prog 35 #[.slice (some ⟨b, 0, none⟩) 1 1, .slice (some ⟨b, 0, none⟩) 1 1] W fun e w' => e = .returned (.bool true) ∧ Below W.heap.size W w' := by
  have := same_s_at [exB g c] [exB g c] (some ⟨b, 0, none⟩) (some ⟨b, 0, none⟩) 1 1 W hb hb
  rw [ex_same3] at this
  exact this
theorem lc_other (l : List Bd) (A : Option Addr) (q : Nat) (hs : stripB l = exL) (hl : BLst W A l q) : Calls Tryz.prog 35 #[.slice (some ⟨b, 0, none⟩) 1 1, .slice A 2 q] W fun e w' => e = .returned (.bool false) ∧ Below W.heap.size W w' := by
  have := same_s_at [exB g c] l (some ⟨b, 0, none⟩) A 1 q W hb hl
  rw [ex_same4 g c hs, exL_len hs] at this
  exact this
end
def ExLook (W : World) (e : Ending) (w' : World) : Prop := ∃ u : Tm, e = .returned (.tuple #[.agg #[.int .i64 u.kind, .int .i64 u.num, .string u.name, .slice u.at_ u.args.length u.cap], .bool true]) ∧ u.strip = exF0 (exI 3) ∧ u.At w' ∧ Below W.heap.size W w'
theorem lc_look (W : World) (l : List Bd) (A : Option Addr) (q : Nat) (hs : stripB l = exL) (hl : BLst W A l q) : Calls Tryz.prog 13 #[.slice A 2 q, .int .i64 0] W (ExLook W) := by
  have := lookup_at l A q 0 W hl (exL_nodes hs)
  rw [exL_len hs] at this
  refine this.mono ?_
  rintro e w' ⟨u, rfl, hu, hlie, hb⟩
  have h := exL_look hs
  exact ⟨u, by rw [h.1], by rw [hu, h.2], hlie.at trivial, hb⟩
def ExFun (W : World) (t : Tm) (e : Ending) (w' : World) : Prop := ∃ g c : Nat, e = .returned (.agg #[.int .i64 2, .int .i64 0, .string ⟨#[102]⟩, .slice (some ⟨g, 0, none⟩) 1 c]) ∧ (exF g c t).At w' ∧ Below W.heap.size W w'
theorem lc_fun (W : World) (t : Tm) (d : Nat) (hr : RowAt W [t] d 0) : Calls Tryz.prog 32 #[.string ⟨#[102]⟩, .slice (some ⟨d, 0, none⟩) 1 1] W (ExFun W t) :=
  (ref_fun_at ⟨#[102]⟩ [t] d 0 1 W (by simp) hr (by simp) (by unfold maxLen; simp [ByteArray.size])).mono (by
    rintro e w' ⟨g, c, rfl, hat, hb⟩
    exact ⟨g, c, rfl, hat, hb⟩)
/-- A slice of one binding that was just laid. -/
theorem blst_one (w : World) (x : Bd) (hf : Fits x.var) (hx : x.tm.At w) : BLst (w.alloc (boxB x)) (some ⟨w.heap.size, 0, none⟩) [x] 1 := by
  refine ⟨Nat.le_refl _, by unfold maxLen; omega, fun _ => ⟨_, 0, rfl, fun i hi => ?_⟩⟩
  obtain rfl : i = 0 := by simpa using hi
  refine ⟨fun j u hu => ?_, hf, hx.alloc _⟩
  have := bnews1 w x j u hu
  rw [add_plain] at this
  simpa using this
end Go.Proofs.YtgialbcohkpogaaGreat
namespace Go.Proofs.YtgialbcohkpogaaGreat
open Go.RowKit

set_option maxHeartbeats 4000000 in
set_option maxRecDepth 100000 in
theorem live_at (w : World) : Calls Tryz.prog 9 #[] w fun e w' => e = .returned (.bool true) ∧ Below w.heap.size w w' := by
  go_enter Tryz.func9, Tryz.ntmps9
  go_wp2_with fail
  refine (ref_var_at3 1 _).mono ?_
  rintro e w1 ⟨rfl, hb1⟩
  go_wp2_with fail
  refine (lc_fun _ (exV 1) _ (row_one (exV 1) (exV_at w1 1 (by unfold Fits; omega)))).mono ?_
  rintro e w2 ⟨g, c, rfl, hF, hb2⟩
  have HB2 := Lib.hid (hb1.trans (((below1 w1 _).trans (hb2.mono (by simp))).mono hb1.size))
  have HF := Lib.hid hF
  clear hb1 hb2 hF
  go_wp2_with fail
  refine (ref_int_at 3 _).mono ?_
  rintro e w3 ⟨rfl, hb3⟩
  have HL3 := Lib.hid ((blst_one w2 (exB g c) (by show Fits 0; unfold Fits; omega) HF.out).below hb3)
  have HB3 := Lib.hid (HB2.out.trans (((below1 w2 _).trans (hb3.mono (by simp))).mono HB2.out.size))
  clear hb3 HB2 HF
  go_wp2_with fail
  refine (lc_comp _ _ g c (HL3.out.below (below1 w3 _)) _ (blst_one w3 exC (by show Fits 1; unfold Fits; omega) (exI_at w3 3 (by unfold Fits; omega)))).mono ?_
  rintro e w4 ⟨A, q, l, rfl, hs, hl, hb4⟩
  have HL4 := Lib.hid ((HL3.out.below (below1 w3 _)).below hb4)
  have HB4 := Lib.hid (HB3.out.trans (((below1 w3 _).trans (hb4.mono (by simp))).mono HB3.out.size))
  have HS := Lib.hid hs
  have HC4 := Lib.hid hl
  clear hb4 HL3 HB3 hs hl
  go_wp2_with fail
  refine (lc_look _ l A q HS.out HC4.out).mono ?_
  rintro e w5 ⟨u, rfl, hu, hat, hb5⟩
  have HU := Lib.hid hu
  have hub := fun o => hb5.trans ((below1 w5 o).mono hb5.size)
  have HX := Lib.hid (fun (X : World) (h : Below w4.heap.size w4 X) => And.intro (HL4.out.below h) (And.intro (HC4.out.below h) (HB4.out.trans (h.mono HB4.out.size))))
  have HUB := Lib.hid hub
  have hz4 := HX.out _ (hub (.cells #[.int .i64 u.kind, .int .i64 u.num, .string u.name, .slice u.at_ u.args.length u.cap] 29))
  have hz5 := (held_new (v0 := .int .i64 u.kind) (v1 := .int .i64 u.num) (v2 := .string u.name) (v3 := .slice u.at_ u.args.length u.cap) w5 29)
  have hz6 := hat.alloc (.cells #[.int .i64 u.kind, .int .i64 u.num, .string u.name, .slice u.at_ u.args.length u.cap] 29)
  clear hb5 hu hat hub HUB HX
  generalize hb : w2.heap.size = b at *
  clear hb
  go_wp2_with fail
  generalize hX : w5.alloc (Obj.cells #[.int .i64 u.kind, .int .i64 u.num, .string u.name, .slice u.at_ u.args.length u.cap] 29) = X at *
  generalize ht : w5.heap.size = tb at *
  clear hX ht
  obtain ⟨hB, hC, hW⟩ := hz4
  have HW := Lib.hid hW
  have HB := Lib.hid hB
  have HC := Lib.hid hC
  have HT := Lib.hid hz5
  have HUA := Lib.hid hz6
  have hgc := hB.getA (i := 0) (by simp)
  simp only [Nat.zero_mul, Nat.add_zero, Nat.zero_add] at hgc
  have HKE := Lib.hid (fun (W : World) (h : Below X.heap.size X W) => show Below X.heap.size X W ∧ W.cell? ⟨tb, 0, none⟩ = some (.int .i64 u.kind) ∧ W.cell? ⟨tb, 1, none⟩ = some (.int .i64 u.num) ∧ W.cell? ⟨tb, 2, none⟩ = some (.string u.name) ∧ W.cell? ⟨tb, 3, none⟩ = some (.slice u.at_ u.args.length u.cap) ∧
    W.cell? ⟨b, 1, none⟩ = some (.int .i64 2) ∧ W.cell? ⟨b, 2, none⟩ = some (.int .i64 0) ∧ W.cell? ⟨b, 3, none⟩ = some (.string ⟨#[102]⟩) ∧ W.cell? ⟨b, 4, none⟩ = some (.slice (some ⟨g, 0, none⟩) 1 c) from
    ⟨h, keepv h HT.out.c0, keepv h HT.out.c1, keepv h HT.out.c2, keepv h HT.out.c3, keepv h hgc.2.1, keepv h hgc.2.2.1, keepv h hgc.2.2.2.1, keepv h hgc.2.2.2.2⟩)
  have R1 := Lib.hid (fun W (h : Below X.heap.size X W) => lc_right W b g c (HB.out.below h))
  have R2 := Lib.hid (fun W => ref_int_at 3 W)
  have R3 := Lib.hid (fun V => lc_fun (V.alloc (.cells #[.int .i64 0, .int .i64 3, .string ⟨#[]⟩, .slice none 0 0] 29)) (exI 3) V.heap.size (row_one (exI 3) (exI_at V 3 (by unfold Fits; omega))))
  have R4 := Lib.hid (fun W (h : Below X.heap.size X W) (g' c' : Nat) (hf : (exF g' c' (exI 3)).At W) => show Calls Tryz.prog 15 #[.agg #[.int .i64 u.kind, .int .i64 u.num, .string u.name, .slice u.at_ u.args.length u.cap], .agg #[.int .i64 2, .int .i64 0, .string ⟨#[102]⟩, .slice (some ⟨g', 0, none⟩) 1 c']] W fun e w' => e = .returned (.bool true) ∧ Below W.heap.size W w' from ref_same_at u (exF g' c' (exI 3)) W (HUA.out.below h) hf (ex_same1 g' c' HU.out))
  have R5 := Lib.hid (fun W => ref_var_at3 0 W)
  have R6 := Lib.hid (fun W (h : Below X.heap.size X W) => lc_apply W b g c (HB.out.below h))
  have R7 := Lib.hid (fun W (h : Below X.heap.size X W) (y : Tm) (hy : y.strip = ((exV 0).app [exB g c]).strip) (hya : y.At W) => show Calls Tryz.prog 15 #[y.val, .agg #[.int .i64 2, .int .i64 0, .string ⟨#[102]⟩, .slice (some ⟨g, 0, none⟩) 1 c]] W fun e w' => e = .returned (.bool true) ∧ Below W.heap.size W w' from ref_same_at y (exF g c (exV 1)) W hya ((HB.out.below h).mem (x := exB g c) (by simp)).2 (ex_same2 g c hy))
  have R8 := Lib.hid (fun W (h : Below X.heap.size X W) => lc_self W b g c (HB.out.below h))
  have R9 := Lib.hid (fun W (h : Below X.heap.size X W) => lc_other W b g c (HB.out.below h) l A q HS.out (HC.out.below h))
  have hr : Below X.heap.size X X := Below.refl _ _
  clear hB hC hz5 hz6 hgc HB4 HL4 HC4 hW
  (go_region_held3 (fun W => Below X.heap.size X W ∧ W.cell? ⟨tb, 0, none⟩ = some (.int .i64 u.kind) ∧ W.cell? ⟨tb, 1, none⟩ = some (.int .i64 u.num) ∧ W.cell? ⟨tb, 2, none⟩ = some (.string u.name) ∧ W.cell? ⟨tb, 3, none⟩ = some (.slice u.at_ u.args.length u.cap) ∧
    W.cell? ⟨b, 1, none⟩ = some (.int .i64 2) ∧ W.cell? ⟨b, 2, none⟩ = some (.int .i64 0) ∧ W.cell? ⟨b, 3, none⟩ = some (.string ⟨#[102]⟩) ∧ W.cell? ⟨b, 4, none⟩ = some (.slice (some ⟨g, 0, none⟩) 1 c)) (exact HKE.out _ (by first | assumption | exact hr.drew | exact hr | exact Below.alloc (by assumption) (Below.size (by assumption)) _)) (first
    | (go_at_call 7; have hH := (‹Below X.heap.size X _ ∧ _›).1; (with_reducible refine (R1.out _ hH).mono ?_); rintro e v1 ⟨rfl, hb1⟩; have hI := hH.trans (hb1.mono hH.size); clear hb1 hH)
    | (go_at_call 34; have hH := (‹Below X.heap.size X _ ∧ _›).1; (with_reducible refine (R2.out _).mono ?_); rintro e v2 ⟨rfl, hb1⟩; have hI := hH.trans (hb1.mono hH.size); clear hb1 hH)
    | (go_at_call 32; have hH := (‹Below X.heap.size X _ ∧ _›).1; (with_reducible refine (R3.out _).mono ?_); rintro e v3 ⟨g', c', rfl, hf, hb1⟩; have hI := hH.trans (hb1.mono hH.size); clear hb1 hH)
    | (go_at_call 15; have hH := (‹Below X.heap.size X _ ∧ _›).1; (with_reducible refine (R4.out _ hH _ _ hf).mono ?_); rintro e v4 ⟨rfl, hb1⟩; have hI := hH.trans (hb1.mono hH.size); clear hb1 hH)
    | (go_at_call 33; have hH := (‹Below X.heap.size X _ ∧ _›).1; (with_reducible refine (R5.out _).mono ?_); rintro e v5 ⟨rfl, hb1⟩; have hI := hH.trans (hb1.mono hH.size); clear hb1 hH)
    | (go_at_call 16; have hH := (‹Below X.heap.size X _ ∧ _›).1; (with_reducible refine (R6.out _ hH).mono ?_); rintro e v6 ⟨y, rfl, hy, hlie, hb1⟩; have hya := hlie.at trivial; have hI := hH.trans (hb1.mono hH.size); clear hb1 hH hlie)
    | (go_at_call 15; have hH := (‹Below X.heap.size X _ ∧ _›).1; (with_reducible refine (R7.out _ hH y hy hya).mono ?_); rintro e v7 ⟨rfl, hb1⟩; have hI := hH.trans (hb1.mono hH.size); clear hb1 hH)
    | (go_at_call 35; have hH := (‹Below X.heap.size X _ ∧ _›).1; (with_reducible refine (R8.out _ hH).mono ?_); rintro e v8 ⟨rfl, hb1⟩; have hI := hH.trans (hb1.mono hH.size); clear hb1 hH)
    | (go_at_call 35; have hH := (‹Below X.heap.size X _ ∧ _›).1; (with_reducible refine (R9.out _ hH).mono ?_); rintro e v9 ⟨rfl, hb1⟩; have hI := hH.trans (hb1.mono hH.size); clear hb1 hH)))
  have hS := (‹Below X.heap.size X _ ∧ _›).1
  have HE := Lib.hid (HW.out.trans (hS.mono HW.out.size))
  go_wp2_with fail
  go_ret
  exact ⟨rfl, HE.out⟩
end Go.Proofs.YtgialbcohkpogaaGreat
