/-
  Contracts of vars, Vars, VarsOf, Ground and Occurs of the reference.
  Contracts of firstOccurrences and Vars of the program: a map of the numbers that were seen, and a slice that is appended to, both behind captured variables.
  The cells of a list of terms; a row of the call's own; slices.Clone of the program.
  Bindings and terms that are appended to a row of the call's own.
  Rows of bindings: two elements change places; contract of slices.swapRangeCmpFunc at bindings.
  Contract of slices.rotateCmpFunc at bindings: two neighbouring parts of a row change places.
-/
import Derived.Test.YtceekaodhmncgaaMl8x3
import Derived.Maps.AppendAt
import Derived.Maps.OwnOps
import Derived.Maps.OwnSet
import Derived.Maps.Views
import Derived.Laws.Rows
import Derived.Carry
import Derived.Test.YtceekaodhmncgaaMl8x2
import Derived.WalkSpells
import Derived.Lib.SliceRun
import Derived.Laws.OwnMore
import Derived.Deep.AppendLies
import Derived.BigQuiet
import Derived.Deep.QuietTactic
import Derived.BigRegion
namespace Go.Proofs.Ytceekaodhmncgaa
open Go.RowKit

/-- The list with a number behind it, if it is new. -/
def addV (l : List Int) (x : Int) : List Int := if x ∈ l then l else l ++ [x]
def addAll (l xs : List Int) : List Int := xs.foldl addV l
theorem addAll_append (l xs ys : List Int) : addAll l (xs ++ ys) = addAll (addAll l xs) ys := by simp [addAll]
theorem addAll_one (l : List Int) (x : Int) : addAll l [x] = addV l x := rfl
theorem addV_length (l : List Int) (x : Int) : (addV l x).length ≤ l.length + 1 := by unfold addV; split <;> simp
theorem addAll_length (l xs : List Int) : (addAll l xs).length ≤ l.length + xs.length := by
  induction xs generalizing l with
  | nil => simp [addAll]
  | cons x r ih =>
    have h1 := ih (addV l x)
    have h2 := addV_length l x
    simp only [addAll, List.foldl_cons, List.length_cons] at *
    omega
theorem occ_length : (∀ t : Tm, t.occ.length ≤ t.size) ∧ (∀ l, (occL l).length ≤ sizeL l) := by
  refine Tm.induct2 (fun k n s A c a ih => ?_) (Nat.le_refl _) (fun t r h1 h2 => ?_)
  · simp only [Tm.occ, Tm.size]
    by_cases h1 : k = 1
    · simp [h1]
    · by_cases h2 : k = 2
      · simp [h2]; omega
      · simp [h1, h2]
  · simp only [occL, sizeL, List.length_append]; omega
theorem mem_addV (l : List Int) (x y : Int) : y ∈ addV l x ↔ y ∈ l ∨ y = x := by
  unfold addV
  split
  · constructor
    · exact .inl
    · rintro (h | rfl)
      · exact h
      · assumption
  · simp
theorem mem_addAll (l xs : List Int) (y : Int) : y ∈ addAll l xs ↔ y ∈ l ∨ y ∈ xs := by
  induction xs generalizing l with
  | nil => simp [addAll]
  | cons x r ih =>
    have := ih (addV l x)
    simp only [addAll, List.foldl_cons] at this ⊢
    rw [this, mem_addV]
    simp [or_assoc]
theorem addAll_nil {xs : List Int} : addAll [] xs = [] ↔ xs = [] := by
  constructor
  · intro h
    cases xs with
    | nil => rfl
    | cons x r =>
      have : x ∈ addAll [] (x :: r) := (mem_addAll _ _ _).2 (.inr (by simp))
      rw [h] at this
      simp at this
  · rintro rfl; rfl

/-- What comes back: a slice of the call's own that holds the list. -/
def Grows (w0 : World) (l : List Int) (e : Ending) (w' : World) : Prop := ∃ v, e = .returned v ∧ OwnI w' w0.heap.size v l ∧ Below w0.heap.size w0 w'

theorem int_info : (Try.prog.info? 3).map (fun i => (i.zero, i.size, i.bytes)) = some (some (.int .i64 0), 1, 8) := by kernel_rfl

/-- A struct of four cells that was laid, behind one block more and an append to a row that was there, or a new one. -/
theorem box4g {w w' : World} {v0 v1 v2 v3 : Value} {T : TypeId} {o : Obj} {row : Option Nat} (hg : ((w.alloc (.cells #[v0, v1, v2, v3] T)).alloc o).grownBy w' row) (hr : ∀ k, row = some k → k < w.heap.size) :
    w'.cell? ⟨w.heap.size, 0, none⟩ = some v0 ∧ w'.cell? ⟨w.heap.size, 1, none⟩ = some v1 ∧ w'.cell? ⟨w.heap.size, 2, none⟩ = some v2 ∧ w'.cell? ⟨w.heap.size, 3, none⟩ = some v3 := by
  have h : ∀ j, w'.cell? ⟨w.heap.size, j, none⟩ = (#[v0, v1, v2, v3] : Array Value)[j]? := fun j => by
    rw [World.cell?_of_block (a := ⟨w.heap.size, j, none⟩) (hg.block w.heap.size (by simp; omega) (fun e => by have := hr _ e.symm; omega)), World.cell?_alloc_lt _ _ _ (by simp), World.cell?_alloc_at _ _ _ _ rfl]
  exact ⟨h 0, h 1, h 2, h 3⟩

theorem Grows.mk {w0 w' : World} {l : List Int} {e : Ending} {v : Value} (he : e = .returned v) (h : OwnI w' w0.heap.size v l) (hb : Below w0.heap.size w0 w') : Grows w0 l e w' := ⟨v, he, h, hb⟩
theorem one_new (w : World) (o : Obj) (T : TypeId) (x : Value) : ∀ (j : Nat) (u : Value), [x][j]? = some u → ((w.alloc o).alloc (.cells #[x] T)).cell? ((⟨w.heap.size + 1, 0, none⟩ : Addr).add j) = some u := by
  intro j u hu
  cases j with
  | zero =>
    have e : (w.alloc o).heap.size = w.heap.size + 1 := by simp
    rw [add_plain, Nat.add_zero, ← e, World.cell?_alloc_at _ _ _ _ rfl]
    simpa using hu
  | succ j => simp at hu
theorem OwnI.put {w : World} {base : Nat} {v : Value} {l : List Int} {n : Int} (h : w.ownsRow base 3 1 v (l.length + 1) (icells l ++ [.int .i64 n])) (hn : n ∉ l) : OwnI w base v (addV l n) := by
  unfold OwnI addV
  rw [if_neg hn, List.length_append, icells_append]
  exact h

def VarsAt (t : Tm) : Prop := ∀ (v : Value) (l : List Int) (w0 w : World), t.At w0 → Below w0.heap.size w0 w → OwnI w w0.heap.size v l → l.length + t.size ≤ 1000000 →
    Calls Try.prog 64 #[v, t.val] w (Grows w0 (addAll l t.occ))

set_option maxHeartbeats 1000000 in
theorem vars_at (t : Tm) : VarsAt t := by
  induction t using Tm.induct with
  | h k n s A c a ih0 =>
    intro v l w0 w hat hw hown hsz
    obtain ⟨V, q, rfl, hI, hq⟩ := hown.form
    have hat1 := hat.below hw
    have qa := Lib.hid (args_at (.mk k n s A c a))
    have hocc := occ_used (.mk k n s A c a)
    have hsu := size_used (.mk k n s A c a)
    by_cases k1 : k = 1
    · subst k1
      have hus : (Tm.mk 1 n s A c a).used = [] := by simp [Tm.used, Tm.kind]
      have HO := Lib.hid (show (Tm.mk 1 n s A c a).occ = [n] by rw [hocc]; simp [Tm.kind, Tm.num])
      rw [hus] at qa hsu
      generalize (Tm.mk 1 n s A c a).uat = U at qa
      generalize (Tm.mk 1 n s A c a).ucap = uq at qa
      have hlen : l.length ≤ 9223372036854775807 := by omega
      obtain ⟨b1, hb1⟩ : ∃ b, decide (n ∈ l) = b := ⟨_, rfl⟩
      have qh := Lib.hid (fun W (h : Below w.heap.size w W) => has_at V l q n W (hI.below h) hlen hb1)
      have B0 := Lib.hid (show ∀ o, Below w.heap.size w (w.alloc o) from fun o => (Below.refl _ _).alloc (Nat.le_refl _) o)
      have HB := Lib.hid hb1
      have HW := Lib.hid hown
      clear ih0 hocc hb1 hat hat1 hI hown
      show Calls Try.prog 64 #[.slice V l.length q, .agg #[.int .i64 1, .int .i64 n, .string s, .slice A a.length c]] w _
      cases b1
      · have hn : n ∉ l := by simpa using HB.out
        have HN := Lib.hid hn
        obtain ⟨i0, hi, hz0, hz1, hz2⟩ := info_parts int_info
        have hw1 := (hw.alloc hw.size (.cells #[.int .i64 1, .int .i64 n, .string s, .slice A a.length c] 25)).alloc (by have := hw.size; simp; omega) (.cells #[.int .i64 n] 3)
        have HS := Lib.hid hw1.size
        clear hn
        go_enter Try.func64, Try.ntmps64
        go_wp2_with fail
        refine (qh.out _ (B0.out _)).mono ?_
        rintro e w' ⟨rfl, rfl⟩
        go_wp2_with (at_builtin; refine wpList_append_own _ rfl _ _ 71 rfl w0.heap.size 3 i0 (.int .i64 0) 1 8 Try.underlying71 hi hz0 hz1 hz2 rfl (by decide) _ l.length (icells l) rfl ((HW.out.alloc _).alloc _) ⟨w.heap.size + 1, 0, none⟩ 1 1 [.int .i64 n] rfl rfl (one_new _ _ _ _) (icells_one [n]) (by unfold maxLen; omega) (by omega) HS.out ?_; intro v' w1 hown1 hg1 _; obtain ⟨d0, d1, d2, d3⟩ := box4g hg1 (fun k hk => (World.ownsRow.lt HW.out k hk).2))
        have hb1 : Below w0.heap.size w0 w1 := hw1.grown hg1 HS.out (fun k hk => (World.ownsRow.lt HW.out k hk).1)
        have HP := Lib.hid (OwnI.put hown1 HN.out)
        clear hown1 hg1
        go_wp2_with fail
        refine (qa.out _).mono ?_
        rintro e w2 ⟨rfl, hb2⟩
        go_wp2_with fail
        refine wp_loop_rounds 1 ?_
        rw [rounds_succ]
        go_wp2_with fail
        go_ret
        refine Grows.mk rfl ?_ (hb1.trans (hb2.mono hb1.size))
        rw [HO.out, addAll_one]
        exact HP.out.below hb2
      · have hn : n ∈ l := by simpa using HB.out
        have HN := Lib.hid hn
        clear hn
        go_enter Try.func64, Try.ntmps64
        go_wp2_with fail
        refine (qh.out _ (B0.out _)).mono ?_
        rintro e w' ⟨rfl, rfl⟩
        go_wp2_with fail
        refine (qa.out _).mono ?_
        rintro e w2 ⟨rfl, hb2⟩
        have hb3 : Below w.heap.size w w2 := (B0.out _).trans (hb2.mono (by simp))
        go_wp2_with fail
        refine wp_loop_rounds 1 ?_
        rw [rounds_succ]
        go_wp2_with fail
        go_ret
        refine Grows.mk rfl ?_ (hw.trans (hb3.mono hw.size))
        rw [HO.out, addAll_one]
        unfold addV
        rw [if_pos HN.out]
        exact HW.out.below hb3
    · have k1' : (k == 1) = false := by simp [k1]
      have hl := hat.ulst
      have ih : ∀ x ∈ (Tm.mk k n s A c a).used, VarsAt x := by
        unfold Tm.used
        split
        · exact ih0
        · intro x hx; cases hx
      have HO := Lib.hid (show (Tm.mk k n s A c a).occ = occL (Tm.mk k n s A c a).used by rw [hocc]; exact if_neg k1)
      have hol := occ_length.2 (Tm.mk k n s A c a).used
      rw [hsu] at hsz
      rw [HO.out]
      clear ih0 hocc hat hat1 hI k1 HO hsu
      generalize (Tm.mk k n s A c a).used = us at *
      generalize (Tm.mk k n s A c a).uat = U at *
      generalize (Tm.mk k n s A c a).ucap = uq at *
      have QI := Lib.hid ih
      have hlen : us.length ≤ 9223372036854775807 := by have := hl.1; have := hl.2.1; unfold maxLen at *; omega
      have HW := Lib.hid hown
      clear ih hown
      show Calls Try.prog 64 #[.slice V l.length q, .agg #[.int .i64 k, .int .i64 n, .string s, .slice A a.length c]] w _
      go_enter Try.func64, Try.ntmps64
      go_wp2_with fail
      refine (qa.out _).mono ?_
      rintro e w2 ⟨rfl, hb2⟩
      have hb3 : Below w.heap.size w w2 := ((Below.refl _ _).alloc (Nat.le_refl _) _).trans (hb2.mono (by simp))
      have hb4 : Below w0.heap.size w0 w2 := hw.trans (hb3.mono hw.size)
      go_wp2_with fail
      go_loopw [0, 6] (fun z i wr => ∃ (j : Nat) (x : Value), j ≤ us.length ∧ i = .int .i64 j ∧ z = x ∧ Hid (OwnI wr w0.heap.size x (addAll l (occL (us.take j)))) ∧ Below w0.heap.size w0 wr) (fun _ i _ => us.length - (intOf i).toNat)
      case atStart => exact ⟨0, _, Nat.zero_le _, rfl, rfl, Lib.hid (HW.out.below hb3), hb4⟩
      case round =>
        obtain ⟨j, x, hj, rfl, rfl, HX, hb⟩ := hrel
        by_cases hlt : j < us.length
        · obtain ⟨b, o, rfl, ⟨c0, c1, c2, c3⟩, _⟩ := (hl.below hb).get hlt
          have hy := hl.mem (getD_mem hlt)
          have hmem := getD_mem hlt
          have hn := sizeL_next hlt
          have ht := sizeL_take us (j + 1)
          have ho := occ_length.2 (us.take j)
          have ha := addAll_length l (occL (us.take j))
          have HN := Lib.hid (occL_next hlt)
          generalize us.getD j default = y at *
          have hB : (addAll l (occL (us.take j))).length + y.size ≤ 1000000 := by omega
          have Q1 := Lib.hid (QI.out y hmem _ (addAll l (occL (us.take j))) w0 wr hy hb HX.out hB)
          clear hy QI hmem hn ht ho ha hB
          obtain ⟨k', n', s', A', c', a'⟩ := y
          simp only [Tm.kind, Tm.num, Tm.name, Tm.at_, Tm.args, Tm.cap] at c0 c1 c2 c3
          go_wp2_with fail
          refine Q1.out.mono ?_
          rintro e w5 ⟨v5, rfl, hown5, hb5⟩
          go_wp2_with fail
          go_roundw
          case rel => exact ⟨j + 1, v5, by omega, by go_num, rfl, Lib.hid (by rw [HN.out, addAll_append]; exact hown5), hb5⟩
          case measure => simp [intOf]; omega
        · obtain rfl : j = us.length := by omega
          go_wp2_with fail
          go_ret
          refine Grows.mk rfl ?_ hb
          have := HX.out
          rw [List.take_length] at this
          exact this
end Go.Proofs.Ytceekaodhmncgaa
namespace Go.Proofs.Ytceekaodhmncgaa
open Go.RowKit Go.Maps

theorem keyed : Keyed Try.prog 3 := int_keyed Try.underlying3
theorem zero_bool (w : World) : (zeroValue 4).run Try.prog w = .ok (.bool false) w := by kernel_rfl
theorem fits_wf {n : Int} (h : Fits n) : (Lit.int .i64 n).wf = true := by
  have h1 : IntKind.i64.min = -9223372036854775808 := rfl
  have h2 : IntKind.i64.max = 9223372036854775807 := rfl
  unfold Fits at h
  simp only [Lit.wf, Bool.and_eq_true, decide_eq_true_eq]
  omega
theorem bool_inv {P : Program} {e : TypeId} {H : Type} (he : P.underlying e = some .bool) {v : Value} {z : DataW H × List MemPlace} (h : plainElem P e v = some z) : ∃ x, v = .bool x ∧ z = (.lit (.bool x), []) := by
  unfold plainElem at h
  rw [he] at h
  cases v <;> simp at h
  exact ⟨_, rfl, h.symm⟩

/-- The map in block b holds true at the numbers of the list, and nothing else. -/
def seenD (l : List Int) : DataW Unit := setOf (.lit (.bool true)) (l.map (Lit.int .i64))
def Seen (w : World) (b : Nat) (l : List Int) : Prop := (∀ n ∈ l, Fits n) ∧ w.ownsMap Try.prog 3 (plainElem Try.prog 4) b l.length (seenD l)
theorem seen_at (l : List Int) (n : Int) (hl : ∀ m ∈ l, Fits m) : (seenD l).atKey (.int .i64 n) (.lit (.bool false)) = .lit (.bool (decide (n ∈ l))) := by
  have key : ∀ r : List Int, (∀ m ∈ r, Fits m) → (seenD r.reverse).atKey (.int .i64 n) (.lit (.bool false)) = .lit (.bool (decide (n ∈ r))) ∧ IsMap (seenD r.reverse) := by
    intro r
    induction r with
    | nil => intro _; exact ⟨rfl, isMap_empty⟩
    | cons x r ih =>
      intro h
      obtain ⟨h1, h2⟩ := ih (fun m hm => h m (List.mem_cons_of_mem _ hm))
      have e : seenD (x :: r).reverse = (seenD r.reverse).put (.int .i64 x) (.lit (.bool true)) := by
        unfold seenD
        rw [List.reverse_cons, List.map_append]
        exact setOf_snoc _ _ _
      rw [e]
      refine ⟨?_, h2.put _ _⟩
      by_cases hx : n = x
      · subst hx
        rw [atKey_put_same h2 (by first | exact fits_wf (h n List.mem_cons_self) | exact trivial | simp [WideAt.IsKeyLit])]
        simp
      · rw [atKey_put_other (fun e => hx (by injection e)), h1]
        simp [hx]
  have := (key l.reverse (fun m hm => hl m (by simpa using hm))).1
  simpa using this

def addStep (l : List Int) (n : Int) : Bool × List Int := (true, addV l n)
theorem add_run (l xs : List Int) : runV addStep l xs = (true, addAll l xs) := by
  induction xs generalizing l with
  | nil => rfl
  | cons x r ih =>
    simp only [runV, addStep, if_true] at ih ⊢
    exact ih _

theorem Seen.keep {w w' : World} {b : Nat} {l : List Int} (h : Seen w b l) (hb : Below w.heap.size w w') : Seen w' b l :=
  ⟨h.1, h.2.kept (row := none) ⟨hb.os, hb.tape, hb.output, hb.size, fun k hk _ => hb.block k hk⟩ (by simp)⟩
/-- Behind the append. -/
theorem after_append {w0 w1 w2 : World} {l : List Int} {n : Int} {x : Value} (hx : w1.heap[w0.heap.size]? = some (.cells #[x] 71 (0, 0))) (hown : OwnI w1 (w0.heap.size + 3) x l) (hz : w0.heap.size + 3 ≤ w1.heap.size)
    (hg : (w1.alloc (.cells #[.int .i64 n] 3)).grownBy w2 x.ownBlock) : w2.cell? ⟨w0.heap.size, 0, none⟩ = some x ∧ w2.frozen? ⟨w0.heap.size, 0, none⟩ = false ∧ (∀ k, k < w0.heap.size + 3 → w2.heap[k]? = w1.heap[k]?) ∧ w1.heap.size ≤ w2.heap.size := by
  have hk : ∀ k, k < w0.heap.size + 3 → w2.heap[k]? = w1.heap[k]? := fun k hk => by
    rw [hg.block k (by simp; omega) (fun e => by have := (World.ownsRow.lt hown k e.symm).1; omega), Below.heap_alloc _ _ _ (by omega)]
  have h2 := (hk w0.heap.size (by omega)).trans hx
  exact ⟨by rw [cell_of_row _ _ _ _ _ _ h2]; rfl, frozen_of_row _ _ _ _ _ h2, hk, Nat.le_trans (by simp) hg.size⟩
end Go.Proofs.Ytceekaodhmncgaa
namespace Go.Proofs.Ytceekaodhmncgaa
open Go.RowKit

def tcells (l : List Tm) : List Value := l.flatMap Tm.cells
theorem cells_length (t : Tm) : t.cells.length = 4 := rfl
theorem tcells_length (l : List Tm) : (tcells l).length = l.length * 4 := by
  induction l with
  | nil => rfl
  | cons t r ih => simp only [tcells, List.flatMap_cons, List.length_append, cells_length, List.length_cons] at *; omega
theorem tcells_one (l : List Tm) : ∀ u ∈ tcells l, u.oneCell' = true := by
  intro u hu
  obtain ⟨t, _, ht⟩ := List.mem_flatMap.1 hu
  simp only [Tm.cells, List.mem_cons, List.not_mem_nil, or_false] at ht
  rcases ht with rfl | rfl | rfl | rfl <;> rfl
theorem tcells_get (l : List Tm) {i j : Nat} (hi : i < l.length) (hj : j < 4) : (tcells l)[4 * i + j]? = (l.getD i default).cells[j]? := by
  induction l generalizing i with
  | nil => simp at hi
  | cons t r ih =>
    simp only [tcells, List.flatMap_cons]
    cases i with
    | zero =>
      rw [List.getElem?_append_left (by rw [cells_length]; omega)]
      simp
    | succ i =>
      rw [List.getElem?_append_right (by rw [cells_length]; omega), cells_length, show 4 * (i + 1) + j - 4 = 4 * i + j by omega]
      simpa [tcells] using ih (by simpa using hi)
theorem RowAt.cells {w : World} {l : List Tm} {b o : Nat} (h : RowAt w l b o) : ∀ (j : Nat) (u : Value), (tcells l)[j]? = some u → w.cell? ((⟨b, o, none⟩ : Addr).add j) = some u := by
  induction l generalizing o with
  | nil => intro j u hu; simp [tcells] at hu
  | cons t r ih =>
    intro j u hu
    simp only [RowAt] at h
    obtain ⟨⟨h0, h1, h2, h3⟩, _, hr⟩ := h
    rw [add_plain]
    simp only [tcells, List.flatMap_cons] at hu
    by_cases hj : j < 4
    · rw [List.getElem?_append_left (by rw [cells_length]; exact hj)] at hu
      match j, hj with
      | 0, _ => rw [← hu]; exact h0
      | 1, _ => rw [← hu]; exact h1
      | 2, _ => rw [← hu]; exact h2
      | 3, _ => rw [← hu]; exact h3
    · rw [List.getElem?_append_right (by rw [cells_length]; omega), cells_length] at hu
      have := ih hr (j - 4) u hu
      rw [add_plain, show o + 4 + (j - 4) = o + j by omega] at this
      exact this

theorem term_info : (Try.prog.info? 25).map (fun i => (i.zero, i.size, i.bytes)) = some (some (.agg #[.int .i64 0, .int .i64 0, .string ⟨#[]⟩, .slice none 0 0]), 4, 56) := by kernel_rfl

/-- A row of its own: block g holds the terms, and may be written. -/
def Row4 (w : World) (g : Nat) (l : List Tm) : Prop := g < w.heap.size ∧ (∀ j, w.frozen? ⟨g, j, none⟩ = false) ∧ ∀ i j u, i < l.length → (l.getD i default).cells[j]? = some u → w.cell? ⟨g, 4 * i + j, none⟩ = some u
theorem Row4.below {w w' : World} {g : Nat} {l : List Tm} (h : Row4 w g l) (hb : Below w.heap.size w w') : Row4 w' g l := by
  refine ⟨Nat.lt_of_lt_of_le h.1 hb.size, fun j => ?_, fun i j u hi hu => ?_⟩
  · rw [hb.frozen (p := ⟨g, j, none⟩) h.1]; exact h.2.1 j
  · rw [hb.cell (p := ⟨g, 4 * i + j, none⟩) h.1]; exact h.2.2 i j u hi hu
theorem own_block_lt {w : World} {base : Nat} {e : TypeId} {size : Nat} {g n c : Nat} {xs : List Value} (h : w.ownsRow base e size (.slice (some ⟨g, 0, none⟩) n c) n xs) : g < w.heap.size := (World.ownsRow.lt h g rfl).2
theorem Row4.of {w : World} {base g c : Nat} {l : List Tm} (h : w.ownsRow base 25 4 (.slice (some ⟨g, 0, none⟩) l.length c) l.length (tcells l)) : Row4 w g l := by
  refine ⟨own_block_lt h, fun j => World.ownsRow.frozenAt h j, fun i j u hi hu => ?_⟩
  have hj : j < 4 := by
    have := (List.getElem?_eq_some_iff.1 hu).1
    simpa [Tm.cells] using this
  rw [World.ownsRow.cellAt h (4 * i + j) (by omega), tcells_get l hi hj]
  exact hu

/-- What Clone gives back. -/
def Cloned (w : World) (l : List Tm) (e : Ending) (w' : World) : Prop := ∃ A cap, e = .returned (.slice A l.length cap) ∧ l.length ≤ cap ∧ cap ≤ maxLen ∧ (0 < l.length → ∃ g, A = some ⟨g, 0, none⟩ ∧ w.heap.size ≤ g ∧ Row4 w' g l) ∧ Below w.heap.size w w'

set_option maxHeartbeats 1000000 in
theorem clone_at (l : List Tm) (b o c : Nat) (w : World) (h0 : 0 < l.length) (hl : RowAt w l b o) (hsz : l.length ≤ 1000000) :
    Calls Try.prog 63 #[.slice (some ⟨b, o, none⟩) l.length c] w (Cloned w l) := by
  obtain ⟨i0, hi, hz0, hz1, hz2⟩ := info_parts term_info
  have hn := fun (W : World) => Lib.run_eql_slice_nil (P := Try.prog) W 23 25 (some ⟨b, o, none⟩) l.length c 0 0 Try.underlying23
  go_enter Try.func63, Try.ntmps63
  have hl1 : RowAt (w.alloc (.cells #[] 25)) l b o := (At_keep ((Below.refl _ _).alloc (Nat.le_refl _) _)).2 _ _ _ hl
  have HC := Lib.hid hl1.cells
  have HO := Lib.hid (World.ownsRow_lit (base := w.heap.size) (e := 25) (size := 4) w #[] 0 (Nat.le_refl _) (Nat.zero_le _) rfl)
  clear hl hl1
  go_wp2_with (at_builtin; refine wpList_append_own _ rfl _ _ 23 rfl w.heap.size 25 i0 _ 4 56 Try.underlying23 hi hz0 hz1 hz2 rfl (by decide) _ 0 [] rfl HO.out ⟨b, o, none⟩ l.length c (tcells l) rfl (tcells_length l) HC.out (tcells_one l) (by unfold maxLen; omega) (by omega) (by simp) ?_; intro v' w1 hown1 hg1 _)
  have HG := Lib.hid hg1
  have HW := Lib.hid hown1
  clear hg1 hown1
  go_ret
  have hw := HW.out
  simp only [Nat.zero_add, List.nil_append] at hw
  obtain ⟨hlen, hv⟩ := hw
  rcases hv with ⟨_, h⟩ | ⟨g, cap, cur, rfl, hb, hheap, hle, hcap, _, hcur⟩
  · omega
  · refine ⟨_, cap, rfl, hle, hcap, fun _ => ⟨g, rfl, hb, Row4.of (base := w.heap.size) (c := cap) ?_⟩, ?_⟩
    · have hw := HW.out
      simpa only [Nat.zero_add, List.nil_append] using hw
    · exact ((Below.refl _ _).alloc (Nat.le_refl _) _).grown HG.out (by simp) (fun k hk => (World.ownsRow.lt HO.out k hk).1)

set_option maxHeartbeats 1000000 in
theorem clone_none_at (A : Option Addr) (c : Nat) (w : World) :
    Calls Try.prog 63 #[.slice A 0 c] w (Cloned w []) := by
  obtain ⟨i0, hi, hz0, hz1, hz2⟩ := info_parts term_info
  have hn := fun (W : World) => Lib.run_eql_slice_nil (P := Try.prog) W 23 25 A 0 c 0 0 Try.underlying23
  cases A with
  | none =>
    go_enter Try.func63, Try.ntmps63
    go_wp2_with fail
    go_ret
    exact ⟨none, 0, rfl, Nat.le_refl _, Nat.zero_le _, fun h => by simp at h, Below.refl _ _⟩
  | some a =>
    go_enter Try.func63, Try.ntmps63
    have HO := Lib.hid (World.ownsRow_lit (base := w.heap.size) (e := 25) (size := 4) w #[] 0 (Nat.le_refl _) (Nat.zero_le _) rfl)
    go_wp2_with (at_builtin; refine wpList_append_own _ rfl _ _ 23 rfl w.heap.size 25 i0 _ 4 56 Try.underlying23 hi hz0 hz1 hz2 rfl (by decide) _ 0 [] rfl HO.out a 0 c [] rfl rfl (fun _ _ h => by simp at h) (fun _ h => by simp at h) (by unfold maxLen; omega) (by omega) (by simp) ?_; intro v' w1 hown1 hg1 _)
    have HG := Lib.hid hg1
    have HW := Lib.hid hown1
    clear hg1 hown1
    go_ret
    have hb : Below w.heap.size w w1 := ((Below.refl _ _).alloc (Nat.le_refl _) _).grown HG.out (by simp) (fun k hk => (World.ownsRow.lt HO.out k hk).1)
    rcases HW.out.2 with ⟨rfl, _⟩ | ⟨g, cap, cur, rfl, _, _, _, hcap, _, _⟩
    · exact ⟨none, 0, rfl, Nat.le_refl _, Nat.zero_le _, fun h => by simp at h, hb⟩
    · exact ⟨_, cap, rfl, Nat.zero_le _, hcap, fun h => by simp at h, hb⟩
theorem set4 (w : World) (g q : Nat) (v0 v1 v2 v3 : Value) (h0 : ∀ j, j < 4 → (w.cell? ⟨g, q + j, none⟩).isSome = true) :
    ∀ p : Addr, ((((w.setCell ⟨g, q, none⟩ v0).setCell ⟨g, q + 1, none⟩ v1).setCell ⟨g, q + 2, none⟩ v2).setCell ⟨g, q + 3, none⟩ v3).cell? p =
      if p = ⟨g, q, none⟩ then some v0 else if p = ⟨g, q + 1, none⟩ then some v1 else if p = ⟨g, q + 2, none⟩ then some v2 else if p = ⟨g, q + 3, none⟩ then some v3 else w.cell? p := by
  intro p
  have ne : ∀ i j : Nat, i ≠ j → (⟨g, q + i, none⟩ : Addr) ≠ ⟨g, q + j, none⟩ := fun i j h e => by injection e with _ e _; omega
  have n01 : (⟨g, q, none⟩ : Addr) ≠ ⟨g, q + 1, none⟩ := ne 0 1 (by omega)
  have n02 : (⟨g, q, none⟩ : Addr) ≠ ⟨g, q + 2, none⟩ := ne 0 2 (by omega)
  have n03 : (⟨g, q, none⟩ : Addr) ≠ ⟨g, q + 3, none⟩ := ne 0 3 (by omega)
  have n12 := ne 1 2 (by omega)
  have n13 := ne 1 3 (by omega)
  have n23 := ne 2 3 (by omega)
  have s0 := h0 0 (by omega)
  have s1 := h0 1 (by omega)
  have s2 := h0 2 (by omega)
  have s3 := h0 3 (by omega)
  simp only [Nat.add_zero] at s0
  by_cases e0 : p = ⟨g, q, none⟩
  · subst e0
    rw [if_pos rfl, World.cell?_setCell_other _ _ _ _ n03.symm, World.cell?_setCell_other _ _ _ _ n02.symm, World.cell?_setCell_other _ _ _ _ n01.symm, World.cell?_setCell_same' _ _ _ s0]
  rw [if_neg e0]
  by_cases e1 : p = ⟨g, q + 1, none⟩
  · subst e1
    rw [if_pos rfl, World.cell?_setCell_other _ _ _ _ n13.symm, World.cell?_setCell_other _ _ _ _ n12.symm, World.cell?_setCell_same' _ _ _ (by rw [World.cell?_setCell_other _ _ _ _ n01]; exact s1)]
  rw [if_neg e1]
  by_cases e2 : p = ⟨g, q + 2, none⟩
  · subst e2
    rw [if_pos rfl, World.cell?_setCell_other _ _ _ _ n23.symm, World.cell?_setCell_same' _ _ _ (by rw [World.cell?_setCell_other _ _ _ _ n12, World.cell?_setCell_other _ _ _ _ n02]; exact s2)]
  rw [if_neg e2]
  by_cases e3 : p = ⟨g, q + 3, none⟩
  · subst e3
    rw [if_pos rfl, World.cell?_setCell_same' _ _ _ (by rw [World.cell?_setCell_other _ _ _ _ n23, World.cell?_setCell_other _ _ _ _ n13, World.cell?_setCell_other _ _ _ _ n03]; exact s3)]
  rw [if_neg e3, World.cell?_setCell_other _ _ _ _ (Ne.symm e3), World.cell?_setCell_other _ _ _ _ (Ne.symm e2), World.cell?_setCell_other _ _ _ _ (Ne.symm e1), World.cell?_setCell_other _ _ _ _ (Ne.symm e0)]

theorem Row4.some_cell {w : World} {g : Nat} {l : List Tm} (h : Row4 w g l) {i : Nat} (hi : i < l.length) : ∀ j, j < 4 → (w.cell? ⟨g, i * 4 + j, none⟩).isSome = true := by
  intro j hj
  have e : (l.getD i default).cells.length = 4 := rfl
  rw [Nat.mul_comm, h.2.2 i j _ hi (List.getElem?_eq_getElem (by omega))]
  rfl
/-- A term stored into the row. -/
theorem Row4.store {w : World} {g : Nat} {l : List Tm} (h : Row4 w g l) {i : Nat} (hi : i < l.length) (u : Tm) :
    Row4 ((((w.setCell ⟨g, i * 4, none⟩ (.int .i64 u.kind)).setCell ⟨g, i * 4 + 1, none⟩ (.int .i64 u.num)).setCell ⟨g, i * 4 + 2, none⟩ (.string u.name)).setCell ⟨g, i * 4 + 3, none⟩ (.slice u.at_ u.args.length u.cap)) g (l.set i u) := by
  refine ⟨by simpa using h.1, fun j => by simp only [World.frozen?_setCell]; exact h.2.1 j, fun i' j v hi' hv => ?_⟩
  rw [List.length_set] at hi'
  rw [set4 _ _ _ _ _ _ _ (h.some_cell hi)]
  have hj : j < 4 := by
    have := (List.getElem?_eq_some_iff.1 hv).1
    simpa [Tm.cells] using this
  by_cases e : i' = i
  · subst e
    have ev : (l.set i' u).getD i' default = u := by simp [List.getD, hi']
    rw [ev] at hv
    have ad : ∀ a b : Nat, a ≠ b → ¬ (⟨g, 4 * i' + a, none⟩ : Addr) = ⟨g, i' * 4 + b, none⟩ := fun a b hab h => by injection h with _ h _; omega
    have ad0 : ∀ a : Nat, a ≠ 0 → ¬ (⟨g, 4 * i' + a, none⟩ : Addr) = ⟨g, i' * 4, none⟩ := fun a ha h => by injection h with _ h _; omega
    match j, hj with
    | 0, _ => rw [if_pos (by rw [Nat.mul_comm]; rfl)]; exact hv
    | 1, _ => rw [if_neg (ad0 1 (by omega)), if_pos (by rw [Nat.mul_comm])]; exact hv
    | 2, _ => rw [if_neg (ad0 2 (by omega)), if_neg (ad 2 1 (by omega)), if_pos (by rw [Nat.mul_comm])]; exact hv
    | 3, _ => rw [if_neg (ad0 3 (by omega)), if_neg (ad 3 1 (by omega)), if_neg (ad 3 2 (by omega)), if_pos (by rw [Nat.mul_comm])]; exact hv
  · have ev : (l.set i u).getD i' default = l.getD i' default := by simp [List.getD, Ne.symm e]
    rw [ev] at hv
    have ad : ∀ b : Nat, b < 4 → ¬ (⟨g, 4 * i' + j, none⟩ : Addr) = ⟨g, i * 4 + b, none⟩ := fun b hb h => by injection h with _ h _; omega
    have ad0 : ¬ (⟨g, 4 * i' + j, none⟩ : Addr) = ⟨g, i * 4, none⟩ := fun h => by injection h with _ h _; omega
    rw [if_neg ad0, if_neg (ad 1 (by omega)), if_neg (ad 2 (by omega)), if_neg (ad 3 (by omega))]
    exact h.2.2 i' j v hi' hv

theorem Row4.at {w : World} {g : Nat} {l : List Tm} (h : Row4 w g l) (W : World) (hc : ∀ j, W.cell? ⟨g, j, none⟩ = w.cell? ⟨g, j, none⟩) (ha : ∀ x ∈ l, x.At W) : RowAt W l g 0 := by
  refine RowAt.of fun i hi => ⟨fun j u hu => ?_, ha _ (getD_mem hi)⟩
  rw [Nat.zero_add, hc]
  exact h.2.2 i j u hi hu

end Go.Proofs.Ytceekaodhmncgaa
namespace Go.Proofs.Ytceekaodhmncgaa
open Go.RowKit

theorem BLst.getA {w : World} {b o c : Nat} {l : List Bd} (h : BLst w (some ⟨b, o, none⟩) l c) {i : Nat} (hi : i < l.length) :
    w.cell? ⟨b, o + i * 5, none⟩ = some (.int .i64 (l.getD i default).var) ∧ w.cell? ⟨b, o + i * 5 + 1, none⟩ = some (.int .i64 (l.getD i default).tm.kind) ∧ w.cell? ⟨b, o + i * 5 + 2, none⟩ = some (.int .i64 (l.getD i default).tm.num) ∧ w.cell? ⟨b, o + i * 5 + 3, none⟩ = some (.string (l.getD i default).tm.name) ∧
      w.cell? ⟨b, o + i * 5 + 4, none⟩ = some (.slice (l.getD i default).tm.at_ (l.getD i default).tm.args.length (l.getD i default).tm.cap) := by
  obtain ⟨b1, o1, e, h2, _⟩ := h.get hi
  injection e with e
  injection e with e1 e2 _
  subst e1 e2
  exact h2
def bcells (l : List Bd) : List Value := l.flatMap Bd.cells
theorem bcells_len (l : List Bd) : (bcells l).length = l.length * 5 := by
  induction l with
  | nil => rfl
  | cons t r ih => simp only [bcells, List.flatMap_cons, List.length_append, bcells_length, List.length_cons] at *; omega
theorem bcells_append (l m : List Bd) : bcells (l ++ m) = bcells l ++ bcells m := by simp [bcells]
theorem bcells_one (x : Bd) : ∀ v ∈ x.cells, v.oneCell' = true := by
  intro v hv
  simp only [Bd.cells, List.mem_cons, List.not_mem_nil, or_false] at hv
  rcases hv with rfl | rfl | rfl | rfl | rfl <;> rfl
theorem bcells_get (l : List Bd) {i j : Nat} (hi : i < l.length) (hj : j < 5) : (bcells l)[i * 5 + j]? = (l.getD i default).cells[j]? := by
  induction l generalizing i with
  | nil => simp at hi
  | cons t r ih =>
    simp only [bcells, List.flatMap_cons]
    cases i with
    | zero =>
      rw [List.getElem?_append_left (by rw [bcells_length]; omega)]
      simp
    | succ i =>
      rw [List.getElem?_append_right (by rw [bcells_length]; omega), bcells_length, show (i + 1) * 5 + j - 5 = i * 5 + j by omega]
      simpa [bcells] using ih (by simpa using hi)
theorem bind_info : (Try.prog.info? 55).map (fun i => (i.zero, i.size, i.bytes)) = some (some (.agg #[.int .i64 0, .int .i64 0, .int .i64 0, .string ⟨#[]⟩, .slice none 0 0]), 5, 64) := by kernel_rfl

theorem own_lt {w : World} {base : Nat} {e : TypeId} {size : Nat} {v : Value} {n : Nat} {xs : List Value} (h : w.ownsRow base e size v n xs) : ∀ k, v.ownBlock = some k → base ≤ k ∧ k < w.heap.size := by
  intro k hk
  rcases h.2 with ⟨rfl, _⟩ | ⟨g, cap, cur, rfl, hb, hg, _⟩
  · simp [Value.ownBlock] at hk
  · simp only [Value.ownBlock, Option.some.injEq] at hk
    subst hk
    refine ⟨hb, ?_⟩
    rcases Nat.lt_or_ge g w.heap.size with h | h
    · exact h
    · rw [Array.getElem?_eq_none h] at hg; cases hg
theorem own_below {w w' : World} {base : Nat} {e : TypeId} {size : Nat} {v : Value} {n : Nat} {xs : List Value} (h : w.ownsRow base e size v n xs) (hb : Below w.heap.size w w') : w'.ownsRow base e size v n xs :=
  World.ownsRow.kept (row := none) h ⟨hb.os, hb.tape, hb.output, hb.size, fun k hk _ => hb.block k hk⟩ (by
    rcases h.2 with ⟨rfl, _⟩ | ⟨g, cap, cur, rfl, _⟩
    · exact .inl rfl
    · exact .inr (by simp [Value.ownBlock]))

/-- Bindings in a row of the call's own. -/
def RowB (B : World → Prop) (lo : Nat) (w : World) (z : Value) (acc : List Bd) : Prop :=
  w.ownsRow lo 55 5 z acc.length (bcells acc) ∧ ∀ x ∈ acc, Fits x.var ∧ Lie B lo (fun k => z.ownBlock = some k) w x.tm
section
variable {B : World → Prop} {lo : Nat} {w w' : World} {z : Value} {acc : List Bd}
theorem RowB.nil (B : World → Prop) (lo : Nat) (w : World) : RowB B lo w (.slice none 0 0) [] := ⟨⟨rfl, .inl ⟨rfl, rfl⟩⟩, fun x hx => by cases hx⟩
theorem RowB.below (h : RowB B lo w z acc) (hb : Below w.heap.size w w') : RowB B lo w' z acc := ⟨own_below h.1 hb, fun x hx => ⟨(h.2 x hx).1, (h.2 x hx).2.below hb⟩⟩
/-- One binding more: behind the call (w2), the blocks of the new element (w3), the append (w4). -/
theorem RowB.next {g cap : Nat} {w2 w3 w4 : World} {u : Bd} (h : RowB B lo w2 z acc) (hf : Fits u.var) (hu : Lie B lo (fun k => z.ownBlock = some k) w2 u.tm) (hb : Below w2.heap.size w2 w3)
    (hown : w4.ownsRow lo 55 5 (.slice (some ⟨g, 0, none⟩) (acc.length + 1) cap) (acc.length + 1) (bcells acc ++ u.cells)) (hg : w3.grownBy w4 z.ownBlock) (hat : z.ownBlock = some g ∨ g = w3.heap.size) :
    RowB B lo w4 (.slice (some ⟨g, 0, none⟩) (acc.length + 1) cap) (acc ++ [u]) := by
  refine ⟨by rw [List.length_append, bcells_append]; simpa [bcells] using hown, fun x hx => ?_⟩
  have hx2 : Fits x.var ∧ Lie B lo (fun k => z.ownBlock = some k) w2 x.tm := by
    rcases List.mem_append.1 hx with hx | hx
    · exact h.2 x hx
    · rw [List.mem_singleton.1 hx]; exact ⟨hf, hu⟩
  refine ⟨hx2.1, (hx2.2.below hb).less hg.size fun b h1 h2 h3 => ⟨h1, fun e => ?_, hg.block b h2 (fun e => h3 e.symm)⟩⟩
  have e' : g = b := by simpa [Value.ownBlock] using e
  rcases hat with h | h
  · exact h3 (by rw [h, e'])
  · omega
/-- An element that was made behind the row lies apart from it. -/
theorem lie_apart {x : Tm} {B : World → Prop} {lo lo' : Nat} {w0 w2 : World} {z : Value} {n : Nat} {e : TypeId} {size : Nat} {xs : List Value} (hown : w0.ownsRow lo e size z n xs) (hx : Lie B lo' No w2 x) (h1 : lo ≤ lo') (h2 : w0.heap.size ≤ lo') : Lie B lo (fun k => z.ownBlock = some k) w2 x :=
  (hx.out (X := fun k => z.ownBlock = some k) (fun b h3 _ h4 => by have := (own_lt hown b h4).2; omega)).low h1
theorem RowB.form (h : RowB B lo w z acc) : ∃ A c, z = .slice A acc.length c ∧ acc.length ≤ c ∧ (0 < acc.length → ∃ g, A = some ⟨g, 0, none⟩ ∧ lo ≤ g) := by
  rcases h.1.2 with ⟨rfl, h1⟩ | ⟨g, cap, cur, rfl, hb, hg, hle, _⟩
  · exact ⟨none, 0, by rw [h1], by omega, fun h => by omega⟩
  · exact ⟨_, cap, rfl, hle, fun _ => ⟨g, rfl, hb⟩⟩
theorem RowB.blst {A : Option Addr} {c : Nat} (h : RowB B lo w (.slice A acc.length c) acc) (hB : B w) : BLst w A acc c := by
  have hl := bcells_len acc
  rcases h.1.2 with ⟨e, h1⟩ | ⟨g, cap, cur, e, hb, hg, hle, hcap, hcs, hcur⟩
  · injection e with e1 _ e3
    obtain rfl : acc = [] := List.length_eq_zero_iff.1 h1
    rw [e1, e3]; exact BLst.nil w
  · injection e with e1 _ e3
    subst e1 e3
    refine ⟨hle, hcap, fun h0 => ⟨g, 0, rfl, fun i hi => ⟨fun j u hu => ?_, (h.2 _ (bgetD_mem hi)).1, (h.2 _ (bgetD_mem hi)).2.at hB⟩⟩⟩
    have hj := bcells_lt hu
    have hc := World.ownsRow.cellAt h.1 (i * 5 + j) (by omega)
    rw [Nat.zero_add, hc]
    exact (bcells_get acc hi hj).trans hu
theorem RowB.row5 {g c n : Nat} (h : RowB B lo w (.slice (some ⟨g, 0, none⟩) n c) acc) : Row5 w g acc := by
  have hl := bcells_len acc
  obtain rfl : n = acc.length := by
    rcases h.1.2 with ⟨e, _⟩ | ⟨_, _, _, e, _⟩
    · injection e with e; cases e
    · injection e
  refine ⟨(own_lt h.1 g rfl).2, fun j => World.ownsRow.frozenAt h.1 j, fun i j u hi hu => ?_⟩
  have hj := bcells_lt hu
  rw [World.ownsRow.cellAt h.1 (i * 5 + j) (by omega)]
  exact (bcells_get acc hi hj).trans hu
end
/-- The cells of an element that was just laid. -/
theorem bnews1 (w : World) (u : Bd) : ∀ j v, u.cells[j]? = some v → (w.alloc (boxB u)).cell? ((⟨w.heap.size, 0, none⟩ : Addr).add j) = some v := by
  intro j v hv
  rw [add_plain, Nat.zero_add, World.cell?_alloc_at _ _ _ _ rfl, ← hv, show (#[Value.int .i64 u.var, .int .i64 u.tm.kind, .int .i64 u.tm.num, .string u.tm.name, .slice u.tm.at_ u.tm.args.length u.tm.cap] : Array Value) = u.cells.toArray from rfl, List.getElem?_toArray]
theorem bnews2 (w : World) (o : Obj) (u : Bd) : ∀ j v, u.cells[j]? = some v → ((w.alloc o).alloc (boxB u)).cell? ((⟨w.heap.size + 1, 0, none⟩ : Addr).add j) = some v := by
  have := bnews1 (w.alloc o) u
  rwa [World.size_alloc] at this

/-! ### Terms -/
theorem tcells_append (l m : List Tm) : tcells (l ++ m) = tcells l ++ tcells m := by simp [tcells]
theorem cells_one (u : Tm) : ∀ v ∈ u.cells, v.oneCell' = true := by
  intro v hv
  simp only [Tm.cells, List.mem_cons, List.not_mem_nil, or_false] at hv
  rcases hv with rfl | rfl | rfl | rfl <;> rfl
/-- Terms in a row of the call's own. -/
def RowT (B : World → Prop) (lo : Nat) (w : World) (z : Value) (acc : List Tm) : Prop :=
  w.ownsRow lo 25 4 z acc.length (tcells acc) ∧ ∀ x ∈ acc, Lie B lo (fun k => z.ownBlock = some k) w x
section
variable {B : World → Prop} {lo : Nat} {w w' : World} {z : Value} {acc : List Tm}
theorem RowT.nil (B : World → Prop) (lo : Nat) (w : World) : RowT B lo w (.slice none 0 0) [] := ⟨⟨rfl, .inl ⟨rfl, rfl⟩⟩, fun x hx => by cases hx⟩
theorem RowT.below (h : RowT B lo w z acc) (hb : Below w.heap.size w w') : RowT B lo w' z acc := ⟨own_below h.1 hb, fun x hx => (h.2 x hx).below hb⟩
theorem RowT.next {g cap : Nat} {w2 w3 w4 : World} {u : Tm} (h : RowT B lo w2 z acc) (hu : Lie B lo (fun k => z.ownBlock = some k) w2 u) (hb : Below w2.heap.size w2 w3)
    (hown : w4.ownsRow lo 25 4 (.slice (some ⟨g, 0, none⟩) (acc.length + 1) cap) (acc.length + 1) (tcells acc ++ u.cells)) (hg : w3.grownBy w4 z.ownBlock) (hat : z.ownBlock = some g ∨ g = w3.heap.size) :
    RowT B lo w4 (.slice (some ⟨g, 0, none⟩) (acc.length + 1) cap) (acc ++ [u]) := by
  refine ⟨by rw [List.length_append, tcells_append]; simpa [tcells] using hown, fun x hx => ?_⟩
  have hx2 : Lie B lo (fun k => z.ownBlock = some k) w2 x := by
    rcases List.mem_append.1 hx with hx | hx
    · exact h.2 x hx
    · rw [List.mem_singleton.1 hx]; exact hu
  refine (hx2.below hb).less hg.size fun b h1 h2 h3 => ⟨h1, fun e => ?_, hg.block b h2 (fun e => h3 e.symm)⟩
  have e' : g = b := by simpa [Value.ownBlock] using e
  rcases hat with h | h
  · exact h3 (by rw [h, e'])
  · omega
theorem RowT.form (h : RowT B lo w z acc) : ∃ A c, z = .slice A acc.length c ∧ acc.length ≤ c := by
  rcases h.1.2 with ⟨rfl, h1⟩ | ⟨g, cap, cur, rfl, hb, hg, hle, _⟩
  · exact ⟨none, 0, by rw [h1], by omega⟩
  · exact ⟨_, cap, rfl, hle⟩
/-- The list lies in each world of B that agrees from lo on. -/
theorem RowT.lies {A : Option Addr} {c n : Nat} (h : RowT B lo w (.slice A n c) acc) : ∀ W, B W → Agree lo No w W → Lst W A acc c := by
  intro W hB hW
  have hl := tcells_length acc
  rcases h.1.2 with ⟨e, h1⟩ | ⟨g, cap, cur, e, hb, hg, hle, hcap, hcs, hcur⟩
  · injection e with e1 _ e3
    obtain rfl : acc = [] := List.length_eq_zero_iff.1 h1
    rw [e1, e3]; exact Lst.nil W
  · injection e with e1 e2 e3
    subst e1 e2 e3
    have hlt := own_lt h.1 g rfl
    refine ⟨hle, hcap, fun _ => ⟨g, 0, rfl, RowAt.of fun i hi => ⟨fun j u hu => ?_, ?_⟩⟩⟩
    · have hj : j < 4 := by
        have := (List.getElem?_eq_some_iff.1 hu).1
        simpa [Tm.cells] using this
      rw [hW.cell (p := ⟨g, 0 + 4 * i + j, none⟩) hlt.1 hlt.2 (fun h => h)]
      have hc := World.ownsRow.cellAt h.1 (4 * i + j) (by omega)
      rw [Nat.zero_add, hc]
      exact (tcells_get acc hi hj).trans hu
    · exact h.2 _ (getD_mem hi) W hB fun b h1 h2 h3 => hW b h1 h2 (fun h => h)
end
theorem tnews1 (w : World) (u : Tm) (T : TypeId) : ∀ j v, u.cells[j]? = some v → (w.alloc (.cells #[.int .i64 u.kind, .int .i64 u.num, .string u.name, .slice u.at_ u.args.length u.cap] T)).cell? ((⟨w.heap.size, 0, none⟩ : Addr).add j) = some v := by
  intro j v hv
  rw [add_plain, Nat.zero_add, World.cell?_alloc_at _ _ _ _ rfl, ← hv, show (#[Value.int .i64 u.kind, .int .i64 u.num, .string u.name, .slice u.at_ u.args.length u.cap] : Array Value) = u.cells.toArray from rfl, List.getElem?_toArray]
end Go.Proofs.Ytceekaodhmncgaa
namespace Go.Proofs.Ytceekaodhmncgaa
open Go.RowKit

/-- The five cells of an element are written. -/
def put5 (w : World) (g i : Nat) (x : Bd) : World :=
  ((((w.setCell ⟨g, i * 5, none⟩ (.int .i64 x.var)).setCell ⟨g, i * 5 + 1, none⟩ (.int .i64 x.tm.kind)).setCell ⟨g, i * 5 + 2, none⟩ (.int .i64 x.tm.num)).setCell ⟨g, i * 5 + 3, none⟩ (.string x.tm.name)).setCell ⟨g, i * 5 + 4, none⟩ (.slice x.tm.at_ x.tm.args.length x.tm.cap)
section
variable {w w' : World} {g i : Nat} {x : Bd} {l : List Bd}
theorem put5_eq : put5 w g i x = w.setCells g (i * 5) x.cells := rfl
theorem put5_size : (put5 w g i x).heap.size = w.heap.size := by simp [put5, World.setCell]
theorem put5_frozen (p : Addr) : (put5 w g i x).frozen? p = w.frozen? p := by simp only [put5, World.frozen?_setCell]
theorem put5_keeps (K : World) (h : Keeps g K w) : Keeps g K (put5 w g i x) := ((((h.set _ _ _).set _ _ _).set _ _ _).set _ _ _).set _ _ _
theorem Row5.put (h : Row5 w g l) (hi : i < l.length) (x : Bd) : Row5 (put5 w g i x) g (l.set i x) := by
  refine ⟨by rw [put5_size]; exact h.1, fun j => by rw [put5_frozen]; exact h.2.1 j, fun i' j u hi' hu => ?_⟩
  have hj := bcells_lt hu
  rw [List.length_set] at hi'
  rw [put5_eq]
  by_cases e : i' = i
  · subst e
    have hg : (l.set i' x).getD i' default = x := by simp [List.getD, hi]
    rw [hg] at hu
    have h1 : ∀ k, k < x.cells.length → (w.cell? ⟨g, i' * 5 + k, none⟩).isSome = true := fun k hk => by
      rw [bcells_length] at hk
      have hk2 : k < (l.getD i' default).cells.length := by rw [bcells_length]; exact hk
      rw [h.2.2 i' k _ hi (List.getElem?_eq_getElem hk2)]
      rfl
    obtain ⟨hj2, e2⟩ := List.getElem?_eq_some_iff.1 hu
    rw [World.cell?_setCells_in g x.cells (i' * 5) w h1 j hj2, e2]
  · have hg : (l.set i x).getD i' default = l.getD i' default := by simp [List.getD, Ne.symm e]
    rw [hg] at hu
    rw [World.cell?_setCells_out g x.cells (i * 5) w _ (fun _ _ => by rw [bcells_length]; show i' * 5 + j < i * 5 ∨ i * 5 + 5 ≤ i' * 5 + j; omega)]
    exact h.2.2 i' j u hi' hu
theorem Row5.below (h : Row5 w g l) (hb : Below w.heap.size w w') : Row5 w' g l :=
  ⟨Nat.lt_of_lt_of_le h.1 hb.size, fun j => (hb.frozen (p := ⟨g, j, none⟩) h.1).trans (h.2.1 j), fun i j u hi hu => keepv hb (h.2.2 i j u hi hu)⟩
theorem Row5.drewN (h : Row5 w g l) (n : Nat) : Row5 (w.drewN n) g l := h.below (below_drewN (Below.refl _ _) n)
theorem Row5.drew (h : Row5 w g l) : Row5 w.drew g l := ⟨h.1, h.2.1, h.2.2⟩
theorem Row5.get (h : Row5 w g l) {i : Nat} (hi : i < l.length) : w.cell? ⟨g, i * 5, none⟩ = some (.int .i64 (l.getD i default).var) ∧ w.cell? ⟨g, i * 5 + 1, none⟩ = some (.int .i64 (l.getD i default).tm.kind) ∧ w.cell? ⟨g, i * 5 + 2, none⟩ = some (.int .i64 (l.getD i default).tm.num) ∧ w.cell? ⟨g, i * 5 + 3, none⟩ = some (.string (l.getD i default).tm.name) ∧
    w.cell? ⟨g, i * 5 + 4, none⟩ = some (.slice (l.getD i default).tm.at_ (l.getD i default).tm.args.length (l.getD i default).tm.cap) :=
  ⟨h.2.2 i 0 _ hi rfl, h.2.2 i 1 _ hi rfl, h.2.2 i 2 _ hi rfl, h.2.2 i 3 _ hi rfl, h.2.2 i 4 _ hi rfl⟩
/-- Two elements change places. -/
theorem Row5.swap (h : Row5 w g l) {j : Nat} (hi : i < l.length) (hj : j < l.length) : Row5 (put5 (put5 w g i (l.getD j default)) g j (l.getD i default)) g (swpL l i j) :=
  (h.put hi _).put (by simpa using hj) _
end
/-- What a step of the sort leaves. -/
def Steps (R : List Bd → Prop) (g : Nat) (w : World) (e : Ending) (w' : World) : Prop :=
  e = .returned (.tuple #[]) ∧ ∃ l', R l' ∧ Row5 w' g l' ∧ Keeps g w w'
abbrev CMPV : Value := .func (.func 56) #[] #[]

/-- The list while the first n elements of X and Y change places. -/
def swapping (P X Q Y S : List Bd) (k : Nat) : List Bd := P ++ (Y.take k ++ X.drop k) ++ Q ++ (X.take k ++ Y.drop k) ++ S
theorem swapping_len (P X Q Y S : List Bd) (h : X.length = Y.length) (k : Nat) (hk : k ≤ X.length) : (swapping P X Q Y S k).length = P.length + X.length + Q.length + Y.length + S.length := by
  simp [swapping]; omega
theorem swapping_next (P X Q Y S : List Bd) (h : X.length = Y.length) {k : Nat} (hk : k < X.length) : swpL (swapping P X Q Y S k) (P.length + k) (P.length + X.length + Q.length + k) = swapping P X Q Y S (k + 1) := by
  have hx := bdrop_next hk
  have hy := bdrop_next (show k < Y.length by omega)
  have tx := btake_next hk
  have ty := btake_next (show k < Y.length by omega)
  have lx : (X.take k).length = k := by simp; omega
  have ly : (Y.take k).length = k := by simp; omega
  have ld : (X.drop (k + 1)).length = X.length - (k + 1) := by simp
  unfold swapping
  rw [hx, hy, tx, ty]
  have e1 : P ++ (Y.take k ++ X.getD k default :: X.drop (k + 1)) ++ Q ++ (X.take k ++ Y.getD k default :: Y.drop (k + 1)) ++ S = (P ++ Y.take k) ++ X.getD k default :: ((X.drop (k + 1) ++ Q ++ X.take k) ++ Y.getD k default :: (Y.drop (k + 1) ++ S)) := by simp
  rw [e1, swpL_parts _ _ _ _ _ (by rw [List.length_append, ly]) (by simp only [List.length_append, lx, ly, ld]; omega)]
  simp

set_option maxHeartbeats 4000000 in
set_option maxRecDepth 100000 in
theorem swap_range_at (P X Q Y S : List Bd) (hXY : X.length = Y.length) (g c N : Nat) (w : World) (hN : N = P.length + X.length + Q.length + Y.length + S.length) (hN6 : N ≤ 1000000) (h : Row5 w g (P ++ X ++ Q ++ Y ++ S)) (a b n : Nat) (ha : a = P.length) (hb : b = P.length + X.length + Q.length) (hn : n = X.length) :
    Calls Try.prog 104 #[.slice (some ⟨g, 0, none⟩) N c, .int .i64 a, .int .i64 b, .int .i64 n, CMPV] w (Steps (fun l' => l' = P ++ Y ++ Q ++ X ++ S) g w) := by
  have HNX := Lib.hid (fun (k : Nat) (hk : k < n) => show swpL (swapping P X Q Y S k) (a + k) (b + k) = swapping P X Q Y S (k + 1) by rw [ha, hb]; exact swapping_next P X Q Y S hXY (show k < X.length by omega))
  have HL := Lib.hid (fun (k : Nat) (hk : k ≤ n) => show (swapping P X Q Y S k).length = N by rw [swapping_len P X Q Y S hXY k (by omega), hN])
  have H0 := Lib.hid (show swapping P X Q Y S 0 = P ++ X ++ Q ++ Y ++ S by simp [swapping])
  have H1 := Lib.hid (show swapping P X Q Y S n = P ++ Y ++ Q ++ X ++ S by
    rw [hn]
    unfold swapping
    rw [List.take_of_length_le (show Y.length ≤ X.length by omega), List.drop_of_length_le (Nat.le_refl _), List.take_of_length_le (Nat.le_refl _), List.drop_of_length_le (show Y.length ≤ X.length by omega)]
    simp)
  have HR := Lib.hid (show Row5 w g (swapping P X Q Y S 0) by rw [H0.out]; exact h)
  have hab : a + n ≤ b := by omega
  have hbN : b + n ≤ N := by omega
  generalize swapping P X Q Y S = L at *
  clear h H0 ha hb hn hN
  go_enter Try.func104, Try.ntmps104
  go_wp2_with fail
  go_loopw [10] (fun i wr => ∃ k : Nat, k ≤ n ∧ i = .int .i64 k ∧ Hid (Row5 wr g (L k)) ∧ Hid (Keeps g w wr)) (fun i _ => n - (intOf i).toNat)
  case atStart => exact ⟨0, Nat.zero_le _, rfl, HR, Lib.hid (Keeps.refl _ _)⟩
  case round =>
    clear HR
    obtain ⟨k, hk, rfl, HR, HK⟩ := hrel
    by_cases hlt : k < n
    · have jlt : decide ((k : Int) < (n : Int)) = true := decide_eq_true (by omega)
      have hsw := HNX.out k hlt
      have hlen := HL.out k hk
      obtain ⟨p, hp⟩ : ∃ p, p = a + k := ⟨_, rfl⟩
      obtain ⟨q, hq⟩ : ∃ q, q = b + k := ⟨_, rfl⟩
      have hp1 : (a : Int) + (k : Int) = (p : Int) := by omega
      have hq1 : (b : Int) + (k : Int) = (q : Int) := by omega
      have hpN : p < N := by omega
      have hqN : q < N := by omega
      have hpq : p ≠ q := by omega
      rw [← hp, ← hq] at hsw
      have HSW := Lib.hid hsw
      have HD := Lib.hid (HR.out)
      have HP := Lib.hid (HD.out.put (i := p) (by rw [hlen]; exact hpN) ((L k).getD q default))
      obtain ⟨c0, c1, c2, c3, c4⟩ := HD.out.get (i := p) (by rw [hlen]; exact hpN)
      obtain ⟨d0, d1, d2, d3, d4⟩ := HD.out.get (i := q) (by rw [hlen]; exact hqN)
      obtain ⟨e0, e1, e2, e3, e4⟩ := HP.out.get (i := q) (by rw [List.length_set, hlen]; exact hqN)
      have hgq : ((L k).set p ((L k).getD q default)).getD q default = (L k).getD q default := by simp [List.getD, hpq]
      rw [hgq] at e0 e1 e2 e3 e4
      have HFin := Lib.hid (show Row5 (put5 (put5 wr g p ((L k).getD q default)) g q ((L k).getD p default)).drew g (L (k + 1)) by
        rw [← HSW.out]; exact (HD.out.swap (by rw [hlen]; exact hpN) (by rw [hlen]; exact hqN)).drew)
      have HKin := Lib.hid ((put5_keeps (i := q) (x := (L k).getD p default) w (put5_keeps (i := p) (x := (L k).getD q default) w HK.out)).drew)
      have f := HD.out.2.1
      have fp0 := f (p * 5)
      have fp1 := f (p * 5 + 1)
      have fp2 := f (p * 5 + 2)
      have fp3 := f (p * 5 + 3)
      have fp4 := f (p * 5 + 4)
      have fq0 := f (q * 5)
      have fq1 := f (q * 5 + 1)
      have fq2 := f (q * 5 + 2)
      have fq3 := f (q * 5 + 3)
      have fq4 := f (q * 5 + 4)
      generalize (L k).getD p default = x at *
      generalize (L k).getD q default = y at *
      obtain ⟨xv, xk, xn, xs, xA, xc, xa⟩ := x
      obtain ⟨yv, yk, yn, ys, yA, yc, ya⟩ := y
      simp only [put5, Tm.kind, Tm.num, Tm.name, Tm.at_, Tm.args, Tm.cap] at c0 c1 c2 c3 c4 d0 d1 d2 d3 d4 e0 e1 e2 e3 e4 HFin HKin
      have pz : (p : Int) < (N : Int) := by omega
      have qz : (q : Int) < (N : Int) := by omega
      clear hsw hgq HP HD f HR HK hp hq
      go_wp2_with fail
      go_region
      all_goals go_wp2
      go_roundw
      case rel => exact ⟨k + 1, by omega, by go_num, HFin, HKin⟩
      case measure => simp [intOf]; omega
    · obtain rfl : k = n := by omega
      have jlt : decide ((k : Int) < (k : Int)) = false := decide_eq_false (by omega)
      have HE := Lib.hid (show Row5 wr g (P ++ Y ++ Q ++ X ++ S) by rw [← H1.out]; exact HR.out)
      go_wp2_with fail
      go_end0
      exact ⟨rfl, _, rfl, HE.out, HK.out⟩
end Go.Proofs.Ytceekaodhmncgaa
namespace Go.Proofs.Ytceekaodhmncgaa
open Go.RowKit

set_option maxHeartbeats 4000000 in
set_option maxRecDepth 100000 in
theorem rotate_at (P A B S : List Bd) (hA : 0 < A.length) (hB : 0 < B.length) (g c N : Nat) (w : World) (hN : N = P.length + A.length + B.length + S.length) (hN6 : N ≤ 1000000) (h : Row5 w g (P ++ A ++ B ++ S)) (a m b : Nat) (ha : a = P.length) (hm : m = P.length + A.length) (hb : b = P.length + A.length + B.length) :
    Calls Try.prog 89 #[.slice (some ⟨g, 0, none⟩) N c, .int .i64 a, .int .i64 m, .int .i64 b, CMPV] w (Steps (fun l' => l' = P ++ B ++ A ++ S) g w) := by
  obtain ⟨i0, hi0⟩ : ∃ i0, i0 = A.length := ⟨_, rfl⟩
  obtain ⟨j0, hj0⟩ : ∃ j0, j0 = B.length := ⟨_, rfl⟩
  have hi1 : (m : Int) - (a : Int) = (i0 : Int) := by omega
  have hj1 : (b : Int) - (m : Int) = (j0 : Int) := by omega
  have hmb : m ≤ N := by omega
  have hbN : b ≤ N := by omega
  have H0 := Lib.hid (show ∃ Pt X Y St : List Bd, i0 = X.length ∧ j0 = Y.length ∧ Pt.length + X.length = m ∧ Pt.length + X.length + Y.length + St.length = N ∧ Row5 w g (Pt ++ X ++ Y ++ St) ∧ Pt ++ Y ++ X ++ St = P ++ B ++ A ++ S from ⟨P, A, B, S, hi0, hj0, hm.symm, hN.symm, h, rfl⟩)
  have hi2 : 0 < i0 := by omega
  have hj2 : 0 < j0 := by omega
  have hi3 : i0 ≤ N := by omega
  have hj3 : j0 ≤ N := by omega
  clear h ha hm hb hi0 hj0 hA hB hN
  generalize P ++ B ++ A ++ S = T at *
  go_enter Try.func89, Try.ntmps89
  go_wp2_with fail
  go_loopw [10, 11] (fun vi vj wr => ∃ (i j : Nat), vi = .int .i64 i ∧ vj = .int .i64 j ∧ 0 < i ∧ 0 < j ∧ i ≤ N ∧ j ≤ N ∧ Hid (∃ Pt X Y St : List Bd, i = X.length ∧ j = Y.length ∧ Pt.length + X.length = m ∧ Pt.length + X.length + Y.length + St.length = N ∧ Row5 wr g (Pt ++ X ++ Y ++ St) ∧ Pt ++ Y ++ X ++ St = T) ∧ Hid (Keeps g w wr)) (fun vi vj _ => (intOf vi).toNat + (intOf vj).toNat)
  case atStart => exact ⟨i0, j0, rfl, rfl, hi2, hj2, hi3, hj3, H0, Lib.hid (Keeps.refl _ _)⟩
  case round =>
    clear H0
    obtain ⟨i, j, rfl, rfl, hi, hj, hiN, hjN, HX, HK⟩ := hrel
    obtain ⟨Pt, X, Y, St, hX, hY, hPX, hPN, hR, hT⟩ := HX.out
    obtain ⟨r, hr⟩ : ∃ r, r = Pt.length := ⟨_, rfl⟩
    have hr1 : (m : Int) - (i : Int) = (r : Int) := by omega
    by_cases hij : i = j
    · subst hij
      have hne : ((i : Int) != (i : Int)) = false := by simp
      have QS := Lib.hid (swap_range_at Pt X [] Y St (by omega) g c N wr (by simp; omega) hN6 (by simpa using hR) r m i hr (by simp; omega) hX)
      have HT := Lib.hid hT
      clear hX hY hPX hPN hR hT hr HX
      go_wp2_with fail
      refine (QS.out).mono ?_
      rintro e w2 ⟨rfl, l', rfl, hR2, hK2⟩
      have HE := Lib.hid (show Row5 w2 g T by rw [← HT.out]; simpa using hR2)
      have HK2 := Lib.hid (HK.out.trans hK2)
      clear hR2 hK2
      go_wp2_with fail
      go_end0
      exact ⟨rfl, T, rfl, HE.out, HK2.out⟩
    · have hne : ((i : Int) != (j : Int)) = true := by simp; omega
      by_cases hlt : j < i
      · have hgt : decide ((i : Int) > (j : Int)) = true := decide_eq_true (by omega)
        have hd1 : (i : Int) - (j : Int) = ((i - j : Nat) : Int) := by omega
        have lx : (X.take j).length = j := by simp; omega
        have ld : (X.drop j).length = i - j := by simp; omega
        have QS := Lib.hid (swap_range_at Pt (X.take j) (X.drop j) Y St (by omega) g c N wr (by omega) hN6 (by rw [List.append_assoc Pt, List.take_append_drop]; exact hR) r m j hr (by omega) lx.symm)
        have HN := Lib.hid (fun W (h : Row5 W g (Pt ++ Y ++ X.drop j ++ X.take j ++ St)) => show ∃ Pt X Y St : List Bd, i - j = X.length ∧ j = Y.length ∧ Pt.length + X.length = m ∧ Pt.length + X.length + Y.length + St.length = N ∧ Row5 W g (Pt ++ X ++ Y ++ St) ∧ Pt ++ Y ++ X ++ St = T from
          ⟨Pt ++ Y, X.drop j, X.take j, St, ld.symm, lx.symm, by rw [List.length_append]; omega, by rw [List.length_append]; omega, h, by rw [← hT, List.append_assoc (Pt ++ Y), List.take_append_drop]⟩)
        obtain ⟨dn, hdn⟩ : ∃ dn, dn = i - j := ⟨_, rfl⟩
        rw [← hdn] at hd1 HN
        have hdn0 : 0 < dn := by omega
        have hdnN : dn ≤ N := by omega
        have hdni : dn < i := by omega
        clear hX hY hPX hPN hR hT hr HX lx ld hdn
        go_wp2_with fail
        refine (QS.out).mono ?_
        rintro e w2 ⟨rfl, l', rfl, hR2, hK2⟩
        have HE := Lib.hid (HN.out _ hR2)
        have HK2 := Lib.hid (HK.out.trans hK2)
        clear hR2 hK2
        go_wp2_with fail
        go_roundw
        case rel => exact ⟨dn, j, by go_num, rfl, hdn0, hj, hdnN, hjN, HE, HK2⟩
        case measure => simp [intOf]; omega
      · have hgt : decide ((i : Int) > (j : Int)) = false := decide_eq_false (by omega)
        have hd1 : (j : Int) - (i : Int) = ((j - i : Nat) : Int) := by omega
        have lx : (Y.drop (j - i)).length = i := by simp; omega
        have ld : (Y.take (j - i)).length = j - i := by simp; omega
        obtain ⟨q, hq⟩ : ∃ q, q = m + (j - i) := ⟨_, rfl⟩
        have hq1 : (m : Int) + (j : Int) - (i : Int) = (q : Int) := by omega
        have QS := Lib.hid (swap_range_at Pt X (Y.take (j - i)) (Y.drop (j - i)) St (by omega) g c N wr (by omega) hN6 (by rw [List.append_assoc (Pt ++ X), List.take_append_drop]; exact hR) r q i hr (by omega) hX)
        have HN := Lib.hid (fun W (h : Row5 W g (Pt ++ Y.drop (j - i) ++ Y.take (j - i) ++ X ++ St)) => show ∃ Pt X Y St : List Bd, i = X.length ∧ j - i = Y.length ∧ Pt.length + X.length = m ∧ Pt.length + X.length + Y.length + St.length = N ∧ Row5 W g (Pt ++ X ++ Y ++ St) ∧ Pt ++ Y ++ X ++ St = T from
          ⟨Pt, Y.drop (j - i), Y.take (j - i), X ++ St, lx.symm, ld.symm, by omega, by rw [List.length_append]; omega, by simpa using h, by rw [← hT, List.append_assoc Pt, List.take_append_drop]; simp⟩)
        obtain ⟨dn, hdn⟩ : ∃ dn, dn = j - i := ⟨_, rfl⟩
        rw [← hdn] at hd1 HN QS
        have hdn0 : 0 < dn := by omega
        have hdnN : dn ≤ N := by omega
        have hdni : dn < j := by omega
        have hmj : m + j ≤ 2000000 := by omega
        clear hX hY hPX hPN hR hT hr HX lx ld hdn hq
        go_wp2_with fail
        refine (QS.out).mono ?_
        rintro e w2 ⟨rfl, l', rfl, hR2, hK2⟩
        have HE := Lib.hid (HN.out _ hR2)
        have HK2 := Lib.hid (HK.out.trans hK2)
        clear hR2 hK2
        go_wp2_with fail
        go_roundw
        case rel => exact ⟨i, dn, rfl, by go_num, hi, hdn0, hiN, hdnN, HE, HK2⟩
        case measure => simp [intOf]; omega
end Go.Proofs.Ytceekaodhmncgaa
