/-
  Two rows of bytes that a call makes and fills with one letter each; what kinds of words such rows are.
-/
import Derived.Test.YtlijifjbncicjaaDoorExample
import Derived.Test.YtlijifjbncicjaaDoorLies
import Derived.Laws.MakeOwn
import Derived.OneCell
namespace Go.Proofs.YtlijifjbncicjaaDoor
open Go.RowKit

/-! ### Words of equal letters -/
theorem rep_word {c : UInt8} (hc : inB c = true) (n : Nat) : wordB (List.replicate n c) = decide (1 ≤ n ∧ n ≤ 40) := by
  rw [Bool.eq_iff_iff, wordB_iff, List.length_replicate, decide_eq_true_eq]
  refine ⟨fun h => ⟨h.1, h.2.1⟩, fun h => ⟨h.1, h.2, fun x hx => ?_⟩⟩
  rw [List.eq_of_mem_replicate hx]
  exact hc
theorem rep_head {c : UInt8} {n : Nat} (h : 1 ≤ n) : (List.replicate n c).getD 0 0 = c := by
  obtain ⟨m, rfl⟩ : ∃ m, n = m + 1 := ⟨n - 1, by omega⟩
  rfl
theorem rep_ne {n : Nat} {x : UInt8} {l : List UInt8} (hx : x ∈ l) (hc : x ≠ 97) : List.replicate n 97 ≠ l := fun h => by
  rw [← h] at hx
  exact hc (List.eq_of_mem_replicate hx)
theorem rep_res (n : Nat) : resB (List.replicate n 97) = false := by
  simp only [resB, reserved, List.mem_cons, List.not_mem_nil, or_false, decide_eq_false_iff_not]
  intro h
  rcases h with h | h | h | h | h | h
  · exact rep_ne (x := 99) (by simp) (by decide) h
  · exact rep_ne (x := 116) (by simp) (by decide) h
  · exact rep_ne (x := 102) (by simp) (by decide) h
  · exact rep_ne (x := 105) (by simp) (by decide) h
  · exact rep_ne (x := 105) (by simp) (by decide) h
  · exact rep_ne (x := 103) (by simp) (by decide) h
theorem rep_none {c : UInt8} (hc : inB c = true) {n : Nat} (h : ¬ (1 ≤ n ∧ n ≤ 40)) : wordB (List.replicate n c) = false := by
  rw [rep_word hc]
  exact decide_eq_false h
theorem rep_some {c : UInt8} (hc : inB c = true) {n : Nat} (h : 1 ≤ n ∧ n ≤ 40) : wordB (List.replicate n c) = true := by
  rw [rep_word hc]
  exact decide_eq_true h
theorem low_right {n : Nat} {r : Bool} (h : decide (1 ≤ n ∧ n ≤ 40) = r) : rightB (List.replicate n 97) = r := by
  subst h
  by_cases h : 1 ≤ n ∧ n ≤ 40
  · unfold rightB
    rw [rep_some (by decide) h, rep_head h.1, rep_res, decide_eq_true h]
    rfl
  · unfold rightB
    rw [rep_none (by decide) h, decide_eq_false h]
    rfl
theorem high_var {n : Nat} {r : Bool} (h : decide (1 ≤ n ∧ n ≤ 40) = r) : varB (List.replicate n 90) = r := by
  subst h
  by_cases h : 1 ≤ n ∧ n ≤ 40
  · unfold varB
    rw [rep_some (by decide) h, rep_head h.1, decide_eq_true h]
    rfl
  · unfold varB
    rw [rep_none (by decide) h, decide_eq_false h]
    rfl
theorem high_right (n : Nat) : rightB (List.replicate n 90) = false := by
  by_cases h : 1 ≤ n ∧ n ≤ 40
  · unfold rightB
    rw [rep_some (by decide) h, rep_head h.1]
    rfl
  · unfold rightB
    rw [rep_none (by decide) h]
    rfl
theorem low_var (n : Nat) : varB (List.replicate n 97) = false := by
  by_cases h : 1 ≤ n ∧ n ≤ 40
  · unfold varB
    rw [rep_some (by decide) h, rep_head h.1]
    rfl
  · unfold varB
    rw [rep_none (by decide) h]
    rfl

/-! ### A row of bytes -/
theorem u8_info : (Tryd.prog.info? 5).map (fun i => (i.zero, i.size, i.bytes)) = some (some (.int .u8 0), 1, 1) := by kernel_rfl
theorem made_bytes (n : Nat) : madeCells (Value.int .u8 0).cells (n * 1) = (bcells (List.replicate n 0)).toArray := by
  apply Array.ext
  · rw [size_madeCells]
    simp [bcells]
  · intro i h1 h2
    simp [madeCells, bcells, Value.cells, Nat.mod_one]
theorem make_bytes (n : Nat) (hn : n ≤ 1000000) (W : World) :
    (Instr.makeSlice 28 (.int .i64 (n : Int)) (.int .i64 (n : Int))).run Tryd.prog W = .ok (.slice (some ⟨W.heap.size, 0, none⟩) n n) (W.alloc (.cells (bcells (List.replicate n 0)).toArray 5)) := by
  obtain ⟨i0, hi0, hz0, hz1, hz2⟩ := info_parts u8_info
  have h := run_makeSlice (P := Tryd.prog) (w := W) 28 5 i0 _ Tryd.underlying28 hi0 hz0 .i64 .i64 n n (by omega) (Int.le_refl _) (by rw [hz1]; omega) (by rw [hz2]; omega) (by omega)
  rw [h, hz1, Int.toNat_natCast, made_bytes]

/-- Block b holds just the bytes l. -/
def RowIs (w : World) (b : Nat) (l : List UInt8) : Prop := w.heap[b]? = some (.cells (bcells l).toArray 5 (0, 0))
section
variable {w w' : World} {b : Nat} {l : List UInt8}
theorem RowIs.new (w : World) (l : List UInt8) : RowIs (w.alloc (.cells (bcells l).toArray 5)) w.heap.size l := heap_alloc_new w _
theorem RowIs.new' (w : World) (l : List UInt8) (hb : b = w.heap.size) : RowIs (w.alloc (.cells (bcells l).toArray 5)) b l := by
  subst hb
  exact RowIs.new w l
theorem RowIs.lt (h : RowIs w b l) : b < w.heap.size := (Array.getElem?_eq_some_iff.1 h).1
theorem RowIs.alloc (h : RowIs w b l) (o : Obj) : RowIs (w.alloc o) b l := by
  unfold RowIs
  rw [Below.heap_alloc w o b h.lt]
  exact h
theorem RowIs.drew (h : RowIs w b l) : RowIs w.drew b l := h
theorem RowIs.cell (h : RowIs w b l) {i : Nat} (hi : i < l.length) : w.cell? ⟨b, i, none⟩ = some (.int .u8 ((l.getD i 0).toNat : Int)) := by
  unfold World.cell?
  rw [h]
  simp only [List.getElem?_toArray]
  exact bcells_get hi
theorem RowIs.lies (h : RowIs w b l) : Lies w (some ⟨b, 0, none⟩) l := Lies.mk fun _ hi => h.cell hi
theorem RowIs.free (h : RowIs w b l) (i : Nat) : w.frozen? ⟨b, i, none⟩ = false := by
  unfold World.frozen?
  rw [h]
  simp
theorem RowIs.other (h : RowIs w b l) {a : Addr} (ha : b ≠ a.block) (v : Value) : RowIs (w.setCell a v) b l := by
  unfold RowIs
  rw [Below.heap_setCell w a v b ha]
  exact h
theorem RowIs.aside (h : RowIs w b l) {b' : Nat} (k : Nat) (hb : b ≠ b') (v : Value) : RowIs (w.setCell ⟨b', k, none⟩ v) b l := h.other (a := ⟨b', k, none⟩) hb v
theorem RowIs.str (h : RowIs w b l) {n : Nat} (hn : l.length = n) : (convert 28 9 (.slice (some ⟨b, 0, none⟩) n n)).run Tryd.prog w = .ok (.string ⟨l.toArray⟩) w := by
  subst hn
  exact h.lies.str _ Tryd.underlying28 Tryd.underlying5 Tryd.underlying9
theorem RowIs.set (h : RowIs w b l) (k : Nat) {X : Int} {c : UInt8} (hX : X = (c.toNat : Int)) : RowIs (w.setCell ⟨b, k, none⟩ (.int .u8 X)) b (l.set k c) := by
  subst hX
  unfold RowIs at h ⊢
  simp only [World.setCell, Array.getElem?_modify, if_true, h, Option.map_some]
  congr 2
  simp [bcells, List.map_set]
end

/-- The first k of n places hold c, the others 0. -/
def fill (c : UInt8) (k n : Nat) : List UInt8 := List.replicate k c ++ List.replicate (n - k) 0
theorem fill_len {c : UInt8} {k n : Nat} (h : k ≤ n) : (fill c k n).length = n := by simp [fill]; omega
theorem fill_start (c : UInt8) (n : Nat) : fill c 0 n = List.replicate n 0 := by simp [fill]
theorem fill_end (c : UInt8) (n : Nat) : fill c n n = List.replicate n c := by simp [fill]
theorem fill_next {c : UInt8} {k n : Nat} (h : k < n) : (fill c k n).set k c = fill c (k + 1) n := by
  unfold fill
  rw [List.set_append_right _ _ (by simp)]
  obtain ⟨m, hm⟩ : ∃ m, n - k = m + 1 := ⟨n - k - 1, by omega⟩
  rw [hm, List.length_replicate, Nat.sub_self, List.replicate_succ, List.set_cons_zero, show n - (k + 1) = m by omega, List.replicate_succ', List.append_assoc]
  rfl
theorem fill_at {c : UInt8} {k n : Nat} (h : k < n) : (fill c k n).getD k 0 = 0 := by
  unfold fill
  rw [List.getD_eq_getElem?_getD, List.getElem?_append_right (by simp), List.length_replicate, Nat.sub_self, List.getElem?_replicate, if_pos (by omega)]
  rfl
end Go.Proofs.YtlijifjbncicjaaDoor
