/-
  Contracts of the reference's product and expr.
-/
import Derived.Test.YtlpibnbabgfiiaaGreatDoorTrOpnd
import Derived.Deep.RegionWith
import Derived.Deep.CutRange
import Derived.Deep.CutBlock
namespace Go.Proofs.YtlpibnbabgfiiaaGreatDoor
open Go.RowKit

/-- What holds at the head of the loop. -/
def ChainLoopR (R n own : Nat) (s : ByteArray) (w : World) (O : List UInt8 → PR Tm) (res : PR Tm) (T gk : Nat) (x : UInt8) (wr : World) (q : Nat) (u : Tm) : Prop :=
  Keeps R (w.alloc (.cells #[.int .i64 0, .int .i64 0, .string ⟨#[]⟩, .slice none 0 0] 24)) wr ∧ w.heap.size < T ∧ Box wr T u ∧ Live (w.heap.size + 1) (Is T) wr u ∧
    (((rest s q).headD 0 = x ∧ skip (rest s q) = rest s q ∧ Rr wr R s q 0 ∧ res = chain own O u.strip (rest s q) ∧ (rest s q).length ≤ gk ∧ (rest s q).length ≤ n) ∨ (∃ c : Int, c ≠ 0 ∧ x = 0 ∧ Rr wr R s q c ∧ res = .err c))
/-- What the body of the loop leaves. -/
def ChainMid (R n own : Nat) (s : ByteArray) (w : World) (O : List UInt8 → PR Tm) (res : PR Tm) (T gk : Nat) (w8 : World) : Prop :=
  ∃ u q er, Keeps R (w.alloc (.cells #[.int .i64 0, .int .i64 0, .string ⟨#[]⟩, .slice none 0 0] 24)) w8 ∧ Box w8 T u ∧ Live (w.heap.size + 1) (Is T) w8 u ∧ Rr w8 R s q er ∧
    ((er = 0 ∧ res = chain own O u.strip (skip (rest s q)) ∧ (skip (rest s q)).length + 1 ≤ gk ∧ (skip (rest s q)).length ≤ n) ∨ (er ≠ 0 ∧ res = .err er))
theorem mid_of {R n own T gk q3 q4 g : Nat} {s : ByteArray} {w w4 : World} {O : List UInt8 → PR Tm} {res : PR Tm} {u2 u3 : Tm} {x : UInt8} (hsh : Shrinks O) (hTw : w.heap.size < T) (hTR : ¬ T = R)
    (hB4 : Box w4 T u2) (hL2 : Live (w.heap.size + 1) (Is T) w4 u2) (hL3 : Live (w.heap.size + 1) (Is T) w4 u3) (hK4 : Keeps R (w.alloc (.cells #[.int .i64 0, .int .i64 0, .string ⟨#[]⟩, .slice none 0 0] 24)) w4)
    (hV : res = chain own O u2.strip (rest s q3)) (hx : (rest s q3).headD 0 = x) (hop : ostr [x] = own) (ht : (rest s q3).tail = rest s (q3 + 1)) (hlen : (skip (rest s (q3 + 1))).length + 1 ≤ (rest s q3).length) (hgk : (rest s q3).length ≤ gk) (hgn : (rest s q3).length ≤ n)
    (ho : (∃ t, O (skip (rest s (q3 + 1))) = .ok t (skip (rest s q4)) ∧ u3.strip = t ∧ Rr w4 R s q4 0) ∨ (∃ c : Int, c ≠ 0 ∧ O (skip (rest s (q3 + 1))) = .err c ∧ Rr w4 R s q4 c))
    (W : World) (hW : Below w4.heap.size w4 W) (hg1 : w4.heap.size ≤ g) (hg2 : g < W.heap.size) (hrow : ∀ j v, (tcells [u2, u3])[j]? = some v → W.cell? ⟨g, j, none⟩ = some v) :
    ChainMid R n own s w O res T gk (put4 W T (.int .i64 2) (.int .i64 0) (.string ⟨#[x]⟩) (.slice (some ⟨g, 0, none⟩) 2 2)) := by
  have hlo : w.heap.size + 1 ≤ w4.heap.size := by have := hK4.size; simpa using this
  have hT4 : T < w4.heap.size := hB4.lt
  have hst : (Tm.mk 2 0 ⟨#[x]⟩ (some ⟨g, 0, none⟩) 2 [u2, u3]).strip = binT x u2.strip u3.strip := by simp [Tm.strip, stripL, binT]
  have hx' : ostr [(rest s q3).headD 0] = own := by rw [hx]; exact hop
  have hr : ∃ er, Rr w4 R s q4 er ∧ ((er = 0 ∧ res = chain own O (Tm.mk 2 0 ⟨#[x]⟩ (some ⟨g, 0, none⟩) 2 [u2, u3]).strip (skip (rest s q4)) ∧ (skip (rest s q4)).length + 1 ≤ gk ∧ (skip (rest s q4)).length ≤ n) ∨ (er ≠ 0 ∧ res = .err er)) := by
    rcases ho with ⟨t, h1, h2, h3⟩ | ⟨c, h1, h2, h3⟩
    · have hs := hsh _ _ _ h1
      refine ⟨0, h3, .inl ⟨rfl, ?_, by omega, by omega⟩⟩
      rw [hV, chain_step hsh hx' (by rw [ht]; exact h1), hx, hst, h2]
    · exact ⟨c, h3, .inr ⟨h1, by rw [hV, chain_err hx' (by rw [ht]; exact h2)]⟩⟩
  obtain ⟨er, hr1, hr2⟩ := hr
  refine ⟨.mk 2 0 ⟨#[x]⟩ (some ⟨g, 0, none⟩) 2 [u2, u3], q4, er, (hK4.trans (Below.keeps hW R)).put4 (by simp; omega), (hB4.below hW).over (.mk 2 0 ⟨#[x]⟩ (some ⟨g, 0, none⟩) 2 [u2, u3]), fun X hX => ?_, (hr1.below hW).put4 hTR, hr2⟩
  have hsz : (put4 W T (.int .i64 2) (.int .i64 0) (.string ⟨#[x]⟩) (.slice (some ⟨g, 0, none⟩) 2 2)).heap.size = W.heap.size := by simp [put4, World.setCell]
  have ha : ∀ y ∈ [u2, u3], y.At X := fun y hy => by
    simp only [List.mem_cons, List.not_mem_nil, or_false] at hy
    rcases hy with rfl | rfl
    · exact ((hL2.below hW).put4 (.inr rfl)) X hX
    · exact ((hL3.below hW).put4 (.inr rfl)) X hX
  refine (At_iff _ _).2 ⟨⟨by simp only [Tm.kind]; unfold Fits; omega, by simp only [Tm.num]; unfold Fits; omega, by show 1 ≤ maxLen; unfold maxLen; omega⟩, Nat.le_refl _, by show 2 ≤ maxLen; unfold maxLen; omega, fun _ => ⟨g, 0, rfl, RowAt.of fun i hi => ⟨fun j u hu => ?_, ha _ (getD_mem hi)⟩⟩⟩
  have hj : j < 4 := by
    have := (List.getElem?_eq_some_iff.1 hu).1
    simpa [Tm.cells] using this
  have hgT : g ≠ T := by omega
  rw [hX.cell (p := ⟨g, 0 + 4 * i + j, none⟩) (by simp only; omega) (by rw [hsz]; exact hg2) hgT]
  have hne : ∀ q : Nat, (⟨T, q, none⟩ : Addr) ≠ ⟨g, 0 + 4 * i + j, none⟩ := fun q e => by injection e with e _; exact hgT e.symm
  unfold put4
  rw [World.cell?_setCell_other _ _ _ _ (hne 3), World.cell?_setCell_other _ _ _ _ (hne 2), World.cell?_setCell_other _ _ _ _ (hne 1), World.cell?_setCell_other _ _ _ _ (hne 0), Nat.zero_add]
  exact hrow _ _ ((tcells_get [u2, u3] hi hj).trans hu)
theorem row_cells (w : World) (u v : Tm) (T : TypeId) : ∀ j y, (tcells [u, v])[j]? = some y →
    (w.alloc (.cells #[.int .i64 u.kind, .int .i64 u.num, .string u.name, .slice u.at_ u.args.length u.cap, .int .i64 v.kind, .int .i64 v.num, .string v.name, .slice v.at_ v.args.length v.cap] T)).cell? ⟨w.heap.size, j, none⟩ = some y := by
  intro j y hy
  rw [World.cell?_alloc_at _ _ _ _ rfl, ← hy, show (#[Value.int .i64 u.kind, .int .i64 u.num, .string u.name, .slice u.at_ u.args.length u.cap, .int .i64 v.kind, .int .i64 v.num, .string v.name, .slice v.at_ v.args.length v.cap] : Array Value) = (tcells [u, v]).toArray from rfl, List.getElem?_toArray]
theorem undrewK {R : Nat} {w w' : World} (h : Keeps R w.drew w') : Keeps R w w' := ⟨h.os, h.tape, h.output, h.size, h.block⟩
theorem str_byte (W : World) (b : Nat) (x : UInt8) (h : W.cell? ⟨b, 0, none⟩ = some (.int .u8 (x.toNat : Int))) :
    (convert 78 9 (.slice (some ⟨b, 0, none⟩) 1 1)).run Tryz.prog W = .ok (.string ⟨#[x]⟩) W :=
  (show Lies W (some ⟨b, 0, none⟩) [x] from fun _ => ⟨b, 0, rfl, fun i hi => by
    obtain rfl : i = 0 := by simpa using hi
    exact h⟩).str 1 Tryz.underlying78 Tryz.underlying5 Tryz.underlying9

theorem ne_ops0 {x : UInt8} (h : ¬ ostr [x] = 0) : ((x.toNat : Int) == 43) = false ∧ ((x.toNat : Int) == 45) = false :=
  ⟨byte_ne (b := 43) (fun e => h (by rw [e]; decide)), byte_ne (b := 45) (fun e => h (by rw [e]; decide))⟩
theorem ops_of0 {x : UInt8} (h : ostr [x] = 0) : x = 43 ∨ x = 45 := by
  unfold ostr at h
  simp only [List.cons.injEq, and_true] at h
  by_cases h1 : x = 43 ∨ x = 45
  · exact h1
  · rw [if_neg h1] at h
    split at h <;> omega
theorem ne_ops1 {x : UInt8} (h : ¬ ostr [x] = 1) : ((x.toNat : Int) == 42) = false ∧ ((x.toNat : Int) == 47) = false ∧ ((x.toNat : Int) == 37) = false :=
  ⟨byte_ne (b := 42) (fun e => h (by rw [e]; decide)), byte_ne (b := 47) (fun e => h (by rw [e]; decide)), byte_ne (b := 37) (fun e => h (by rw [e]; decide))⟩
theorem ops_of1 {x : UInt8} (h : ostr [x] = 1) : x = 42 ∨ x = 47 ∨ x = 37 := by
  unfold ostr at h
  simp only [List.cons.injEq, and_true] at h
  by_cases h1 : x = 43 ∨ x = 45
  · rw [if_pos h1] at h; omega
  · rw [if_neg h1] at h
    by_cases h2 : x = 42 ∨ x = 47 ∨ x = 37
    · exact h2
    · rw [if_neg h2] at h; omega
end Go.Proofs.YtlpibnbabgfiiaaGreatDoor
