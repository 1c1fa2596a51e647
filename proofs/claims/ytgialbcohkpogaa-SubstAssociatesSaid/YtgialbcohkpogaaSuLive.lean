/-
  The fixed calls that every statement of this layer asks of the program: they answer as the chapter says.
-/
import Derived.Test.YtgialbcohkpogaaSuFun
import Derived.Test.YtgialbcohkpogaaSuCompose
import Derived.Test.YtgialbcohkpogaaSuSame
import Derived.Test.YtgialbcohkpogaaSuOrder
import Derived.Deep.RegionHeld3
import Derived.Test.YtgialbcohkpogaaTmOpen
import Derived.KernelRfl
namespace Go.Proofs.Ytgialbcohkpogaa
open Go.RowKit

def fS : ByteArray := ⟨#[102]⟩
def exV (n : Int) : Tm := .mk 1 n ⟨#[]⟩ none 0 []
def exI (n : Int) : Tm := .mk 0 n ⟨#[]⟩ none 0 []
def exF (g c : Nat) (t : Tm) : Tm := .mk 2 0 ⟨#[102]⟩ (some ⟨g, 0, none⟩) c [t]
def exF0 (t : Tm) : Tm := .mk 2 0 ⟨#[102]⟩ none 0 [t]
def exB (g c : Nat) : Bd := ⟨0, exF g c (exV 1)⟩
def exC : Bd := ⟨1, exI 3⟩
def exL : List Bd := [⟨0, exF0 (exI 3)⟩, ⟨1, exI 3⟩]
theorem exV_at (w : World) (n : Int) (h : Fits n) : (exV n).At w := (At_iff _ _).2 ⟨⟨by simp only [exV, Tm.kind]; unfold Fits; omega, h, by unfold maxLen; simp [exV, Tm.name, ByteArray.size]⟩, Lst.nil w⟩
theorem exI_at (w : World) (n : Int) (h : Fits n) : (exI n).At w := (At_iff _ _).2 ⟨⟨by simp only [exI, Tm.kind]; unfold Fits; omega, h, by unfold maxLen; simp [exI, Tm.name, ByteArray.size]⟩, Lst.nil w⟩
theorem exB_strip (g c : Nat) : stripB [exB g c] = [⟨0, exF0 (exV 1)⟩] := rfl
theorem exC_strip : stripB [exC] = [exC] := rfl
theorem exB_right (g c : Nat) : rightS [exB g c] = true := by
  rw [← rightS_strip, exB_strip]
  kernel_rfl
theorem ex_comp (g c : Nat) : (comp [exB g c] [exC]).2 = 0 ∧ stripB (comp [exB g c] [exC]).1 = exL := by
  have h := comp_like (a := [exB g c]) (a' := [⟨0, exF0 (exV 1)⟩]) (c := [exC]) (c' := [exC]) (by rw [exB_strip]; rfl) rfl
  have e : comp [⟨0, exF0 (exV 1)⟩] [exC] = (exL, 0) := by kernel_rfl
  rw [e] at h
  exact ⟨h.1, h.2⟩
theorem exL_len {l : List Bd} (h : stripB l = exL) : l.length = 2 := by rw [← stripB_len, h]; rfl
theorem exL_look {l : List Bd} (h : stripB l = exL) : (look l 0).isSome = true ∧ (optT (look l 0)).strip = exF0 (exI 3) := by
  have h1 := look_strip l 0
  rw [h] at h1
  have h2 : look exL 0 = some (exF0 (exI 3)) := rfl
  rw [h2] at h1
  cases hl : look l 0 with
  | none => rw [hl] at h1; cases h1
  | some t =>
    rw [hl] at h1
    injection h1 with h1
    exact ⟨rfl, h1.symm⟩
theorem exL_nodes {l : List Bd} (h : stripB l = exL) : ∀ x ∈ l, x.tm.nodes ≤ 1000000 := by
  have hn : ∀ t : Tm, t.strip.nodes = t.nodes := (Tm.induct2 (q := fun l => nodesL (stripL l) = nodesL l) (fun k n s A c a ih => by simp only [Tm.strip, Tm.nodes, ih]) rfl (fun t r h1 h2 => by simp only [stripL, nodesL, h1, h2])).1
  intro x hx
  have hm : x.strip ∈ exL := by rw [← h]; exact List.mem_map_of_mem hx
  rw [← hn]
  have : ∀ y ∈ exL, y.tm.nodes ≤ 1000000 := by
    intro y hy
    simp only [exL, List.mem_cons, List.not_mem_nil, or_false] at hy
    rcases hy with rfl | rfl <;> simp [exF0, exI, Tm.nodes, nodesL]
  exact this _ hm
theorem exB_good (g c : Nat) : Good [exB g c] := ⟨by simp, fun i j hij hj => by
  obtain rfl : j = 0 := by simpa using hj
  obtain rfl : i = 0 := by omega
  exact Int.le_refl _, fun x hx => by
  rw [List.mem_singleton.1 hx]
  simp [exB, exF, exV, Tm.nodes, nodesL]⟩
theorem ex_same1 {u : Tm} (g c : Nat) (h : u.strip = exF0 (exI 3)) : (cmpT u (exF g c (exI 3)) == 0) = true := same_strip (by rw [h]; rfl)
theorem ex_same2 {u : Tm} (g c : Nat) (h : u.strip = ((exV 0).app [exB g c]).strip) : (cmpT u (exF g c (exV 1)) == 0) = true := same_strip (by rw [h]; rfl)
theorem ex_same3 (g c : Nat) : sameB [exB g c] [exB g c] = true := sameB_refl _
theorem ex_same4 {l : List Bd} (g c : Nat) (h : stripB l = exL) : sameB [exB g c] l = false := by
  cases hs : sameB [exB g c] l with
  | false => rfl
  | true =>
    have := ((sameB_iff _ _).1 hs).1
    rw [exL_len h] at this
    cases this

/-! ### The calls -/
section
variable (W : World) (b g c : Nat) (hb : BLst W (some ⟨b, 0, none⟩) [exB g c] 1)
include hb
theorem lc_right : Calls Try.prog 11 #[.slice (some ⟨b, 0, none⟩) 1 1] W fun e w' => e = .returned (.bool true) ∧ Below W.heap.size W w' := by
  have := right_s_at [exB g c] (some ⟨b, 0, none⟩) 1 W hb (by simp)
  rw [exB_right] at this
  exact this
def ExComp (W : World) (e : Ending) (w' : World) : Prop := ∃ A q, ∃ l : List Bd, e = .returned (.tuple #[.slice A 2 q, .int .i64 0]) ∧ stripB l = exL ∧ BLst w' A l q ∧ Below W.heap.size W w'
theorem lc_comp (d : Nat) (hd : BLst W (some ⟨d, 0, none⟩) [exC] 1) : Calls Try.prog 10 #[.slice (some ⟨b, 0, none⟩) 1 1, .slice (some ⟨d, 0, none⟩) 1 1] W (ExComp W) :=
  (compose_at [exB g c] [exC] (some ⟨b, 0, none⟩) (some ⟨d, 0, none⟩) 1 1 W hb hd (by simp) (exB_good g c).nodes (fun x hx => by rw [List.mem_singleton.1 hx]; simp [exC, exI, Tm.nodes, nodesL])).mono (by
    rintro e w' ⟨A, q, l, rfl, hs, hl, hbw⟩
    have h := ex_comp g c
    rw [h.2] at hs
    exact ⟨A, q, l, by rw [h.1, exL_len hs], hs, hl, hbw⟩)
theorem lc_apply : Calls Try.prog 13 #[.slice (some ⟨b, 0, none⟩) 1 1, .agg #[.int .i64 1, .int .i64 0, .string ⟨#[]⟩, .slice none 0 0]] W (Made ((exV 0).app [exB g c]) W) :=
  apply_at [exB g c] (some ⟨b, 0, none⟩) 1 (exV 0) W (exV_at W 0 (by unfold Fits; omega)) (by simp [exV, Tm.nodes, nodesL]) (fun W' h => in_order_at [exB g c] (some ⟨b, 0, none⟩) 1 W' (hb.below h) (exB_good g c))
theorem lc_self : Calls Try.prog 15 #[.slice (some ⟨b, 0, none⟩) 1 1, .slice (some ⟨b, 0, none⟩) 1 1] W fun e w' => e = .returned (.bool true) ∧ Below W.heap.size W w' := by
  have := same_s_at [exB g c] [exB g c] (some ⟨b, 0, none⟩) (some ⟨b, 0, none⟩) 1 1 W hb hb
  rw [ex_same3] at this
  exact this
theorem lc_other (l : List Bd) (A : Option Addr) (q : Nat) (hs : stripB l = exL) (hl : BLst W A l q) : Calls Try.prog 15 #[.slice (some ⟨b, 0, none⟩) 1 1, .slice A 2 q] W fun e w' => e = .returned (.bool false) ∧ Below W.heap.size W w' := by
  have := same_s_at [exB g c] l (some ⟨b, 0, none⟩) A 1 q W hb hl
  rw [ex_same4 g c hs, exL_len hs] at this
  exact this
end
def ExLook (W : World) (e : Ending) (w' : World) : Prop := ∃ u : Tm, e = .returned (.tuple #[.agg #[.int .i64 u.kind, .int .i64 u.num, .string u.name, .slice u.at_ u.args.length u.cap], .bool true]) ∧ u.strip = exF0 (exI 3) ∧ u.At w' ∧ Below W.heap.size W w'
theorem lc_look (W : World) (l : List Bd) (A : Option Addr) (q : Nat) (hs : stripB l = exL) (hl : BLst W A l q) : Calls Try.prog 22 #[.slice A 2 q, .int .i64 0] W (ExLook W) := by
  have := lookup_at l A q 0 W hl (exL_nodes hs)
  rw [exL_len hs] at this
  refine this.mono ?_
  rintro e w' ⟨u, rfl, hu, hlie, hb⟩
  have h := exL_look hs
  exact ⟨u, by rw [h.1], by rw [hu, h.2], hlie.at trivial, hb⟩
def ExFun (W : World) (t : Tm) (e : Ending) (w' : World) : Prop := ∃ g c : Nat, e = .returned (.agg #[.int .i64 2, .int .i64 0, .string ⟨#[102]⟩, .slice (some ⟨g, 0, none⟩) 1 c]) ∧ (exF g c t).At w' ∧ Below W.heap.size W w'
theorem lc_fun (W : World) (t : Tm) (d : Nat) (hr : RowAt W [t] d 0) : Calls Try.prog 19 #[.string ⟨#[102]⟩, .slice (some ⟨d, 0, none⟩) 1 1] W (ExFun W t) :=
  (ref_fun_at ⟨#[102]⟩ [t] d 0 1 W (by simp) hr (by simp) (by unfold maxLen; simp [ByteArray.size])).mono (by
    rintro e w' ⟨g, c, rfl, hat, hb⟩
    exact ⟨g, c, rfl, hat, hb⟩)
/-- A slice of one binding that was just laid. -/
theorem blst_one (w : World) (x : Bd) (hf : Fits x.var) (hx : x.tm.At w) : BLst (w.alloc (boxB x)) (some ⟨w.heap.size, 0, none⟩) [x] 1 := by
  refine ⟨Nat.le_refl _, by unfold maxLen; omega, fun _ => ⟨_, 0, rfl, fun i hi => ?_⟩⟩
  obtain rfl : i = 0 := by simpa using hi
  refine ⟨fun j u hu => ?_, hf, hx.alloc _⟩
  have := bnews1 w x j u hu
  rw [add_plain] at this
  simpa using this
end Go.Proofs.Ytgialbcohkpogaa
