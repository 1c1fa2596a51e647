/-
  Contracts of vars, Vars, VarsOf, Ground and Occurs of the reference.
  Contracts of firstOccurrences and Vars of the program: a map of the numbers that were seen, and a slice that is appended to, both behind captured variables.
  The cells of a list of terms; a row of the call's own; slices.Clone of the program.
  Bindings and terms that are appended to a row of the call's own.
-/
import Derived.Test.YtelkmnjoboekmaaGreatMb4
import Derived.Maps.AppendAt
import Derived.Maps.OwnOps
import Derived.Maps.OwnSet
import Derived.Maps.Views
import Derived.Laws.Rows
import Derived.Carry
import Derived.Test.YtelkmnjoboekmaaGreatMb2
import Derived.WalkSpells
import Derived.Lib.SliceRun
import Derived.Laws.OwnMore
import Derived.Deep.AppendLies
namespace Go.Proofs.YtelkmnjoboekmaaGreat
open Go.RowKit

/-- The list with a number behind it, if it is new. -/
def addV (l : List Int) (x : Int) : List Int := if x ∈ l then l else l ++ [x]
def addAll (l xs : List Int) : List Int := xs.foldl addV l
theorem addAll_append (l xs ys : List Int) : addAll l (xs ++ ys) = addAll (addAll l xs) ys := by simp [addAll]
theorem addAll_one (l : List Int) (x : Int) : addAll l [x] = addV l x := rfl
theorem addV_length (l : List Int) (x : Int) : (addV l x).length ≤ l.length + 1 := by unfold addV; split <;> simp
theorem addAll_length (l xs : List Int) : (addAll l xs).length ≤ l.length + xs.length := by
  induction xs generalizing l with
  | nil => simp [addAll]
  | cons x r ih =>
    have h1 := ih (addV l x)
    have h2 := addV_length l x
    simp only [addAll, List.foldl_cons, List.length_cons] at *
    omega
theorem occ_length : (∀ t : Tm, t.occ.length ≤ t.size) ∧ (∀ l, (occL l).length ≤ sizeL l) := by
  refine Tm.induct2 (fun k n s A c a ih => ?_) (Nat.le_refl _) (fun t r h1 h2 => ?_)
  · simp only [Tm.occ, Tm.size]
    by_cases h1 : k = 1
    · simp [h1]
    · by_cases h2 : k = 2
      · simp [h2]; omega
      · simp [h1, h2]
  · simp only [occL, sizeL, List.length_append]; omega
theorem mem_addV (l : List Int) (x y : Int) : y ∈ addV l x ↔ y ∈ l ∨ y = x := by
  unfold addV
  split
  · constructor
    · exact .inl
    · rintro (h | rfl)
      · exact h
      · assumption
  · simp
theorem mem_addAll (l xs : List Int) (y : Int) : y ∈ addAll l xs ↔ y ∈ l ∨ y ∈ xs := by
  induction xs generalizing l with
  | nil => simp [addAll]
  | cons x r ih =>
    have := ih (addV l x)
    simp only [addAll, List.foldl_cons] at this ⊢
    rw [this, mem_addV]
    simp [or_assoc]
theorem addAll_nil {xs : List Int} : addAll [] xs = [] ↔ xs = [] := by
  constructor
  · intro h
    cases xs with
    | nil => rfl
    | cons x r =>
      have : x ∈ addAll [] (x :: r) := (mem_addAll _ _ _).2 (.inr (by simp))
      rw [h] at this
      simp at this
  · rintro rfl; rfl

/-- What comes back: a slice of the call's own that holds the list. -/
def Grows (w0 : World) (l : List Int) (e : Ending) (w' : World) : Prop := ∃ v, e = .returned v ∧ OwnI w' w0.heap.size v l ∧ Below w0.heap.size w0 w'

theorem int_info : (Tryz.prog.info? 3).map (fun i => (i.zero, i.size, i.bytes)) = some (some (.int .i64 0), 1, 8) := by kernel_rfl

/-- A struct of four cells that was laid, behind one block more and an append to a row that was there, or a new one. -/
theorem box4g {w w' : World} {v0 v1 v2 v3 : Value} {T : TypeId} {o : Obj} {row : Option Nat} (hg : ((w.alloc (.cells #[v0, v1, v2, v3] T)).alloc o).grownBy w' row) (hr : ∀ k, row = some k → k < w.heap.size) :
    w'.cell? ⟨w.heap.size, 0, none⟩ = some v0 ∧ w'.cell? ⟨w.heap.size, 1, none⟩ = some v1 ∧ w'.cell? ⟨w.heap.size, 2, none⟩ = some v2 ∧ w'.cell? ⟨w.heap.size, 3, none⟩ = some v3 := by
  have h : ∀ j, w'.cell? ⟨w.heap.size, j, none⟩ = (#[v0, v1, v2, v3] : Array Value)[j]? := fun j => by
    rw [World.cell?_of_block (a := ⟨w.heap.size, j, none⟩) (hg.block w.heap.size (by simp; omega) (fun e => by have := hr _ e.symm; omega)), World.cell?_alloc_lt _ _ _ (by simp), World.cell?_alloc_at _ _ _ _ rfl]
  exact ⟨h 0, h 1, h 2, h 3⟩

theorem Grows.mk {w0 w' : World} {l : List Int} {e : Ending} {v : Value} (he : e = .returned v) (h : OwnI w' w0.heap.size v l) (hb : Below w0.heap.size w0 w') : Grows w0 l e w' := ⟨v, he, h, hb⟩
theorem one_new (w : World) (o : Obj) (T : TypeId) (x : Value) : ∀ (j : Nat) (u : Value), [x][j]? = some u → ((w.alloc o).alloc (.cells #[x] T)).cell? ((⟨w.heap.size + 1, 0, none⟩ : Addr).add j) = some u := by
  intro j u hu
  cases j with
  | zero =>
    have e : (w.alloc o).heap.size = w.heap.size + 1 := by simp
    rw [add_plain, Nat.add_zero, ← e, World.cell?_alloc_at _ _ _ _ rfl]
    simpa using hu
  | succ j => simp at hu
theorem OwnI.put {w : World} {base : Nat} {v : Value} {l : List Int} {n : Int} (h : w.ownsRow base 3 1 v (l.length + 1) (icells l ++ [.int .i64 n])) (hn : n ∉ l) : OwnI w base v (addV l n) := by
  unfold OwnI addV
  rw [if_neg hn, List.length_append, icells_append]
  exact h

def VarsAt (t : Tm) : Prop := ∀ (v : Value) (l : List Int) (w0 w : World), t.At w0 → Below w0.heap.size w0 w → OwnI w w0.heap.size v l → l.length + t.size ≤ 1000000 →
    Calls Tryz.prog 138 #[v, t.val] w (Grows w0 (addAll l t.occ))

set_option maxHeartbeats 1000000 in
theorem vars_at (t : Tm) : VarsAt t := by
  induction t using Tm.induct with
  | h k n s A c a ih0 =>
    intro v l w0 w hat hw hown hsz
    obtain ⟨V, q, rfl, hI, hq⟩ := hown.form
    have hat1 := hat.below hw
    have qa := Lib.hid (args_at (.mk k n s A c a))
    have hocc := occ_used (.mk k n s A c a)
    have hsu := size_used (.mk k n s A c a)
    by_cases k1 : k = 1
    · subst k1
      have hus : (Tm.mk 1 n s A c a).used = [] := by simp [Tm.used, Tm.kind]
      have HO := Lib.hid (show (Tm.mk 1 n s A c a).occ = [n] by rw [hocc]; simp [Tm.kind, Tm.num])
      rw [hus] at qa hsu
      generalize (Tm.mk 1 n s A c a).uat = U at qa
      generalize (Tm.mk 1 n s A c a).ucap = uq at qa
      have hlen : l.length ≤ 9223372036854775807 := by omega
      obtain ⟨b1, hb1⟩ : ∃ b, decide (n ∈ l) = b := ⟨_, rfl⟩
      have qh := Lib.hid (fun W (h : Below w.heap.size w W) => has_at V l q n W (hI.below h) hlen hb1)
      have B0 := Lib.hid (show ∀ o, Below w.heap.size w (w.alloc o) from fun o => (Below.refl _ _).alloc (Nat.le_refl _) o)
      have HB := Lib.hid hb1
      have HW := Lib.hid hown
      clear ih0 hocc hb1 hat hat1 hI hown
      show Calls Tryz.prog 138 #[.slice V l.length q, .agg #[.int .i64 1, .int .i64 n, .string s, .slice A a.length c]] w _
      cases b1
      · have hn : n ∉ l := by simpa using HB.out
        have HN := Lib.hid hn
        obtain ⟨i0, hi, hz0, hz1, hz2⟩ := info_parts int_info
        have hw1 := (hw.alloc hw.size (.cells #[.int .i64 1, .int .i64 n, .string s, .slice A a.length c] 26)).alloc (by have := hw.size; simp; omega) (.cells #[.int .i64 n] 3)
        have HS := Lib.hid hw1.size
        clear hn
        go_enter Tryz.func138, Tryz.ntmps138
        go_wp2_with fail
        refine (qh.out _ (B0.out _)).mono ?_
        rintro e w' ⟨rfl, rfl⟩
        go_wp2_with (at_builtin; refine wpList_append_own _ rfl _ _ 30 rfl w0.heap.size 3 i0 (.int .i64 0) 1 8 Tryz.underlying30 hi hz0 hz1 hz2 rfl (by decide) _ l.length (icells l) rfl ((HW.out.alloc _).alloc _) ⟨w.heap.size + 1, 0, none⟩ 1 1 [.int .i64 n] rfl rfl (one_new _ _ _ _) (icells_one [n]) (by unfold maxLen; omega) (by omega) HS.out ?_; intro v' w1 hown1 hg1 _; obtain ⟨d0, d1, d2, d3⟩ := box4g hg1 (fun k hk => (World.ownsRow.lt HW.out k hk).2))
        have hb1 : Below w0.heap.size w0 w1 := hw1.grown hg1 HS.out (fun k hk => (World.ownsRow.lt HW.out k hk).1)
        have HP := Lib.hid (OwnI.put hown1 HN.out)
        clear hown1 hg1
        go_wp2_with fail
        refine (qa.out _).mono ?_
        rintro e w2 ⟨rfl, hb2⟩
        go_wp2_with fail
        refine wp_loop_rounds 1 ?_
        rw [rounds_succ]
        go_wp2_with fail
        go_ret
        refine Grows.mk rfl ?_ (hb1.trans (hb2.mono hb1.size))
        rw [HO.out, addAll_one]
        exact HP.out.below hb2
      · have hn : n ∈ l := by simpa using HB.out
        have HN := Lib.hid hn
        clear hn
        go_enter Tryz.func138, Tryz.ntmps138
        go_wp2_with fail
        refine (qh.out _ (B0.out _)).mono ?_
        rintro e w' ⟨rfl, rfl⟩
        go_wp2_with fail
        refine (qa.out _).mono ?_
        rintro e w2 ⟨rfl, hb2⟩
        have hb3 : Below w.heap.size w w2 := (B0.out _).trans (hb2.mono (by simp))
        go_wp2_with fail
        refine wp_loop_rounds 1 ?_
        rw [rounds_succ]
        go_wp2_with fail
        go_ret
        refine Grows.mk rfl ?_ (hw.trans (hb3.mono hw.size))
        rw [HO.out, addAll_one]
        unfold addV
        rw [if_pos HN.out]
        exact HW.out.below hb3
    · have k1' : (k == 1) = false := by simp [k1]
      have hl := hat.ulst
      have ih : ∀ x ∈ (Tm.mk k n s A c a).used, VarsAt x := by
        unfold Tm.used
        split
        · exact ih0
        · intro x hx; cases hx
      have HO := Lib.hid (show (Tm.mk k n s A c a).occ = occL (Tm.mk k n s A c a).used by rw [hocc]; exact if_neg k1)
      have hol := occ_length.2 (Tm.mk k n s A c a).used
      rw [hsu] at hsz
      rw [HO.out]
      clear ih0 hocc hat hat1 hI k1 HO hsu
      generalize (Tm.mk k n s A c a).used = us at *
      generalize (Tm.mk k n s A c a).uat = U at *
      generalize (Tm.mk k n s A c a).ucap = uq at *
      have QI := Lib.hid ih
      have hlen : us.length ≤ 9223372036854775807 := by have := hl.1; have := hl.2.1; unfold maxLen at *; omega
      have HW := Lib.hid hown
      clear ih hown
      show Calls Tryz.prog 138 #[.slice V l.length q, .agg #[.int .i64 k, .int .i64 n, .string s, .slice A a.length c]] w _
      go_enter Tryz.func138, Tryz.ntmps138
      go_wp2_with fail
      refine (qa.out _).mono ?_
      rintro e w2 ⟨rfl, hb2⟩
      have hb3 : Below w.heap.size w w2 := ((Below.refl _ _).alloc (Nat.le_refl _) _).trans (hb2.mono (by simp))
      have hb4 : Below w0.heap.size w0 w2 := hw.trans (hb3.mono hw.size)
      go_wp2_with fail
      go_loopw [0, 6] (fun z i wr => ∃ (j : Nat) (x : Value), j ≤ us.length ∧ i = .int .i64 j ∧ z = x ∧ Hid (OwnI wr w0.heap.size x (addAll l (occL (us.take j)))) ∧ Below w0.heap.size w0 wr) (fun _ i _ => us.length - (intOf i).toNat)
      case atStart => exact ⟨0, _, Nat.zero_le _, rfl, rfl, Lib.hid (HW.out.below hb3), hb4⟩
      case round =>
        obtain ⟨j, x, hj, rfl, rfl, HX, hb⟩ := hrel
        by_cases hlt : j < us.length
        · obtain ⟨b, o, rfl, ⟨c0, c1, c2, c3⟩, _⟩ := (hl.below hb).get hlt
          have hy := hl.mem (getD_mem hlt)
          have hmem := getD_mem hlt
          have hn := sizeL_next hlt
          have ht := sizeL_take us (j + 1)
          have ho := occ_length.2 (us.take j)
          have ha := addAll_length l (occL (us.take j))
          have HN := Lib.hid (occL_next hlt)
          generalize us.getD j default = y at *
          have hB : (addAll l (occL (us.take j))).length + y.size ≤ 1000000 := by omega
          have Q1 := Lib.hid (QI.out y hmem _ (addAll l (occL (us.take j))) w0 wr hy hb HX.out hB)
          clear hy QI hmem hn ht ho ha hB
          obtain ⟨k', n', s', A', c', a'⟩ := y
          simp only [Tm.kind, Tm.num, Tm.name, Tm.at_, Tm.args, Tm.cap] at c0 c1 c2 c3
          go_wp2_with fail
          refine Q1.out.mono ?_
          rintro e w5 ⟨v5, rfl, hown5, hb5⟩
          go_wp2_with fail
          go_roundw
          case rel => exact ⟨j + 1, v5, by omega, by go_num, rfl, Lib.hid (by rw [HN.out, addAll_append]; exact hown5), hb5⟩
          case measure => simp [intOf]; omega
        · obtain rfl : j = us.length := by omega
          go_wp2_with fail
          go_ret
          refine Grows.mk rfl ?_ hb
          have := HX.out
          rw [List.take_length] at this
          exact this
end Go.Proofs.YtelkmnjoboekmaaGreat
namespace Go.Proofs.YtelkmnjoboekmaaGreat
open Go.RowKit Go.Maps

theorem keyed : Keyed Tryz.prog 3 := int_keyed Tryz.underlying3
theorem zero_bool (w : World) : (zeroValue 4).run Tryz.prog w = .ok (.bool false) w := by kernel_rfl
theorem fits_wf {n : Int} (h : Fits n) : (Lit.int .i64 n).wf = true := by
  have h1 : IntKind.i64.min = -9223372036854775808 := rfl
  have h2 : IntKind.i64.max = 9223372036854775807 := rfl
  unfold Fits at h
  simp only [Lit.wf, Bool.and_eq_true, decide_eq_true_eq]
  omega
theorem bool_inv {P : Program} {e : TypeId} {H : Type} (he : P.underlying e = some .bool) {v : Value} {z : DataW H × List MemPlace} (h : plainElem P e v = some z) : ∃ x, v = .bool x ∧ z = (.lit (.bool x), []) := by
  unfold plainElem at h
  rw [he] at h
  cases v <;> simp at h
  exact ⟨_, rfl, h.symm⟩

/-- The map in block b holds true at the numbers of the list, and nothing else. -/
def seenD (l : List Int) : DataW Unit := setOf (.lit (.bool true)) (l.map (Lit.int .i64))
def Seen (w : World) (b : Nat) (l : List Int) : Prop := (∀ n ∈ l, Fits n) ∧ w.ownsMap Tryz.prog 3 (plainElem Tryz.prog 4) b l.length (seenD l)
theorem seen_at (l : List Int) (n : Int) (hl : ∀ m ∈ l, Fits m) : (seenD l).atKey (.int .i64 n) (.lit (.bool false)) = .lit (.bool (decide (n ∈ l))) := by
  have key : ∀ r : List Int, (∀ m ∈ r, Fits m) → (seenD r.reverse).atKey (.int .i64 n) (.lit (.bool false)) = .lit (.bool (decide (n ∈ r))) ∧ IsMap (seenD r.reverse) := by
    intro r
    induction r with
    | nil => intro _; exact ⟨rfl, isMap_empty⟩
    | cons x r ih =>
      intro h
      obtain ⟨h1, h2⟩ := ih (fun m hm => h m (List.mem_cons_of_mem _ hm))
      have e : seenD (x :: r).reverse = (seenD r.reverse).put (.int .i64 x) (.lit (.bool true)) := by
        unfold seenD
        rw [List.reverse_cons, List.map_append]
        exact setOf_snoc _ _ _
      rw [e]
      refine ⟨?_, h2.put _ _⟩
      by_cases hx : n = x
      · subst hx
        rw [atKey_put_same h2 (by first | exact fits_wf (h n List.mem_cons_self) | exact trivial | simp [WideAt.IsKeyLit])]
        simp
      · rw [atKey_put_other (fun e => hx (by injection e)), h1]
        simp [hx]
  have := (key l.reverse (fun m hm => hl m (by simpa using hm))).1
  simpa using this

theorem wpList_seen (w : World) {ops : Array Oper} {rest : List Oper} {o : Oper} {a : Act} {Q : Exit → Act → World → Prop}
    (hg : o.guard = none) (m x : Operand) (hop : o.op = Op.lookup 128 m x false) (b : Nat) (l : List Int) (hm : a.eval m = .map (some b)) (h : Seen w b l) (n : Int) (hx : a.eval x = .int .i64 n) (hf : Fits n) (r : Bool) (hr : decide (n ∈ l) = r)
    (hK : wpList Tryz.prog ops Q rest (a.put o.dst (.bool r)) w) : wpList Tryz.prog ops Q (o :: rest) a w := by
  refine wpList_plain hg fun K' hK' => ?_
  obtain ⟨v, ps, hrun, hv⟩ := h.2.lookup keyed Tryz.underlying128 (zero_bool w) (plainElem_bool Tryz.underlying4 false) (keyOf_int_mk Tryz.underlying3 (fits_wf hf))
  rw [seen_at l n h.1, hr] at hv
  obtain ⟨y, rfl, hy⟩ := bool_inv Tryz.underlying4 hv
  simp only [Prod.mk.injEq, DataW.lit.injEq, Lit.bool.injEq] at hy
  obtain ⟨rfl, _⟩ := hy
  unfold Oper.wp
  simp [execOp, hop, hm, hx, hrun, Result.andThen]
  exact hK' _ _ hK
theorem wpList_see (w : World) {ops : Array Oper} {rest : List Oper} {o : Oper} {a : Act} {Q : Exit → Act → World → Prop}
    (hg : o.guard = none) (m x v : Operand) (hop : o.op = Op.mapUpdate 128 m x v) (b : Nat) (l : List Int) (hm : a.eval m = .map (some b)) (h : Seen w b l) (hl : l.length ≤ 1000000) (n : Int) (hx : a.eval x = .int .i64 n) (hf : Fits n) (hv : a.eval v = .bool true)
    (hK : ∀ w', Seen w' b (l ++ [n]) → w.grownBy w' (some b) → wpList Tryz.prog ops Q rest (a.put o.dst undef) w') : wpList Tryz.prog ops Q (o :: rest) a w := by
  refine wpList_mapUpdate_own w hg m x v 128 hop 3 4 keyed Tryz.underlying128 _ b l.length (seenD l) hm h.2 (by unfold maxLen; omega) _ _ (.int .i64 n) hx hv (keyOf_int_mk Tryz.underlying3 (fits_wf hf)) (.lit (.bool true)) [] (plainElem_bool Tryz.underlying4 true) fun w' h1 h2 => hK w' ⟨?_, ?_⟩ h2
  · intro k hk
    rcases List.mem_append.1 hk with h' | h'
    · exact h.1 k h'
    · obtain rfl := List.mem_singleton.1 h'
      exact hf
  · have e : seenD (l ++ [n]) = (seenD l).put (.int .i64 n) (.lit (.bool true)) := by
      unfold seenD
      rw [List.map_append]
      exact setOf_snoc _ _ _
    rw [e, List.length_append]
    exact h1

/-- What holds while the variables are visited: where the map, its variable and the variable of the slice lie. -/
structure Kept (w0 : World) (f : Nat) (l : List Int) (W : World) : Prop where
  below : Below w0.heap.size w0 W
  size : w0.heap.size + 3 ≤ W.heap.size
  seenVar : W.heap[w0.heap.size + 2]? = some (.cells #[.map (some (w0.heap.size + 1))] 128 (0, 0))
  listVar : ∃ x, W.heap[w0.heap.size]? = some (.cells #[x] 30 (0, 0)) ∧ OwnI W (w0.heap.size + 3) x l
  seen : Seen W (w0.heap.size + 1) l
  len : l.length + f ≤ 1000000

def addStep (l : List Int) (n : Int) : Bool × List Int := (true, addV l n)
theorem add_run (l xs : List Int) : runV addStep l xs = (true, addAll l xs) := by
  induction xs generalizing l with
  | nil => rfl
  | cons x r ih =>
    simp only [runV, addStep, if_true] at ih ⊢
    exact ih _

theorem Seen.keep {w w' : World} {b : Nat} {l : List Int} (h : Seen w b l) (hb : Below w.heap.size w w') : Seen w' b l :=
  ⟨h.1, h.2.kept (row := none) ⟨hb.os, hb.tape, hb.output, hb.size, fun k hk _ => hb.block k hk⟩ (by simp)⟩
theorem Kept.keep {w0 : World} {f : Nat} {l : List Int} {W W' : World} (h : Kept w0 f l W) (hb : Below W.heap.size W W') : Kept w0 f l W' where
  below := h.below.trans (hb.mono h.below.size)
  size := Nat.le_trans h.size hb.size
  seenVar := (hb.block _ (by have := h.size; omega)).trans h.seenVar
  listVar := by
    obtain ⟨x, h1, h2⟩ := h.listVar
    exact ⟨x, (hb.block _ (by have := h.size; omega)).trans h1, h2.below hb⟩
  seen := h.seen.keep hb
  len := h.len

/-- Behind the store into the map. -/
theorem after_map {w0 : World} {f : Nat} {l : List Int} {W w1 : World} {x : Value} (h : Kept w0 f l W) (hx : W.heap[w0.heap.size]? = some (.cells #[x] 30 (0, 0))) (hown : OwnI W (w0.heap.size + 3) x l) (hg : W.grownBy w1 (some (w0.heap.size + 1))) :
    w1.heap[w0.heap.size + 2]? = some (.cells #[.map (some (w0.heap.size + 1))] 128 (0, 0)) ∧ w1.heap[w0.heap.size]? = some (.cells #[x] 30 (0, 0)) ∧ OwnI w1 (w0.heap.size + 3) x l ∧ Below w0.heap.size w0 w1 ∧ w0.heap.size + 3 ≤ w1.heap.size := by
  have hz := h.size
  refine ⟨(hg.block _ (by omega) (by simp)).trans h.seenVar, (hg.block _ (by omega) (by simp)).trans hx, ?_, h.below.grown hg h.below.size (fun k hk => by injection hk with hk; omega), Nat.le_trans hz hg.size⟩
  refine World.ownsRow.kept hown hg ?_
  rcases Option.eq_none_or_eq_some x.ownBlock with e | ⟨k, e⟩
  · exact .inl e
  · refine .inr fun e' => ?_
    have := (World.ownsRow.lt hown k e).1
    rw [e] at e'
    injection e' with e'
    omega
/-- Behind the append. -/
theorem after_append {w0 w1 w2 : World} {l : List Int} {n : Int} {x : Value} (hx : w1.heap[w0.heap.size]? = some (.cells #[x] 30 (0, 0))) (hown : OwnI w1 (w0.heap.size + 3) x l) (hz : w0.heap.size + 3 ≤ w1.heap.size)
    (hg : (w1.alloc (.cells #[.int .i64 n] 3)).grownBy w2 x.ownBlock) : w2.cell? ⟨w0.heap.size, 0, none⟩ = some x ∧ w2.frozen? ⟨w0.heap.size, 0, none⟩ = false ∧ (∀ k, k < w0.heap.size + 3 → w2.heap[k]? = w1.heap[k]?) ∧ w1.heap.size ≤ w2.heap.size := by
  have hk : ∀ k, k < w0.heap.size + 3 → w2.heap[k]? = w1.heap[k]? := fun k hk => by
    rw [hg.block k (by simp; omega) (fun e => by have := (World.ownsRow.lt hown k e.symm).1; omega), Below.heap_alloc _ _ _ (by omega)]
  have h2 := (hk w0.heap.size (by omega)).trans hx
  exact ⟨by rw [cell_of_row _ _ _ _ _ _ h2]; rfl, frozen_of_row _ _ _ _ _ h2, hk, Nat.le_trans (by simp) hg.size⟩
theorem visit_end {w0 w1 w2 : World} {f : Nat} {l : List Int} {n : Int} {x v : Value} (hlen : l.length + (f + 1) ≤ 1000000) (hn : n ∉ l) (hs : w1.heap[w0.heap.size + 2]? = some (.cells #[.map (some (w0.heap.size + 1))] 128 (0, 0)))
    (hx : w1.heap[w0.heap.size]? = some (.cells #[x] 30 (0, 0))) (hown : OwnI w1 (w0.heap.size + 3) x l) (hb : Below w0.heap.size w0 w1) (hz : w0.heap.size + 3 ≤ w1.heap.size) (hseen : Seen w1 (w0.heap.size + 1) (l ++ [n]))
    (hg : (w1.alloc (.cells #[.int .i64 n] 3)).grownBy w2 x.ownBlock) (hown2 : OwnI w2 (w0.heap.size + 3) v (addV l n)) : Kept w0 f (addV l n) (w2.setCell ⟨w0.heap.size, 0, none⟩ v) := by
  obtain ⟨_, _, hk, hsz⟩ := after_append hx hown hz hg
  have ea : addV l n = l ++ [n] := by unfold addV; rw [if_neg hn]
  have hb2 : Below w0.heap.size w0 w2 := (hb.alloc hb.size _).grown hg (by have := hb.size; simp; omega) (fun k hk => by have := (World.ownsRow.lt hown k hk).1; omega)
  refine ⟨hb2.setCell (Nat.le_refl _) _, by simp [World.setCell]; omega, ?_, ⟨v, ?_, ?_⟩, ?_, ?_⟩
  · rw [heap_setCell_other _ _ _ _ (by simp), hk _ (by omega), hs]
  · rw [heap_setCell_same _ _ _ _ _ _ ((hk _ (by omega)).trans hx)]
    rfl
  · exact ownsRow_setCell_below hown2 (by show w0.heap.size < w0.heap.size + 3; omega) _
  · rw [ea]
    refine ⟨hseen.1, World.ownsMap.setCell (h := ?_) (by simp) _⟩
    have h1 := hseen.2.alloc (.cells #[.int .i64 n] 3)
    exact h1.kept hg (fun e => by have := (World.ownsRow.lt hown _ e.symm).1; omega)
  · rw [ea]; simp; omega

set_option maxHeartbeats 1000000 in
theorem visit_at (w0 : World) (f : Nat) (l : List Int) (n : Int) (W : World) (hf : Fits n) (h : Kept w0 (f + 1) l W) :
    Calls Tryz.prog 127 #[.int .i64 n, .pointer (some ⟨w0.heap.size + 2, 0, none⟩), .pointer (some ⟨w0.heap.size, 0, none⟩)] W fun e W' => e = .returned (.bool true) ∧ Kept w0 f (addV l n) W' := by
  have c1 : W.cell? ⟨w0.heap.size + 2, 0, none⟩ = some (.map (some (w0.heap.size + 1))) := by rw [cell_of_row _ _ _ _ _ _ h.seenVar]; rfl
  obtain ⟨x, hx, hown⟩ := h.listVar
  obtain ⟨b, hb⟩ : ∃ b, decide (n ∈ l) = b := ⟨_, rfl⟩
  have HB := Lib.hid hb
  have hlen := h.len
  cases b
  · obtain ⟨i0, hi, hz0, hz1, hz2⟩ := info_parts int_info
    have c2 : W.cell? ⟨w0.heap.size, 0, none⟩ = some x := by rw [cell_of_row _ _ _ _ _ _ hx]; rfl
    have HX := Lib.hid hx
    have HO := Lib.hid hown
    have HH := Lib.hid h
    clear hx hown h hb
    go_enter Tryz.func127, Tryz.ntmps127
    go_wp2_with (first
      | (at_lookup; refine wpList_seen _ rfl _ _ rfl _ l rfl HH.out.seen n rfl hf false HB.out ?_)
      | (at_mapUpdate; refine wpList_see _ rfl _ _ _ rfl _ l rfl HH.out.seen (by omega) n rfl hf rfl ?_; intro w1 hseen1 hg1; have c3 := (after_map HH.out HX.out HO.out hg1); have HA := Lib.hid c3; have c4 : w1.cell? ⟨w0.heap.size, 0, none⟩ = some x := (by rw [cell_of_row _ _ _ _ _ _ c3.2.1]; rfl); clear c3 hg1)
      | (at_builtin; refine wpList_append_own _ rfl _ _ 30 rfl (w0.heap.size + 3) 3 i0 (.int .i64 0) 1 8 Tryz.underlying30 hi hz0 hz1 hz2 rfl (by decide) x l.length (icells l) rfl (HA.out.2.2.1.alloc _) ⟨w1.heap.size, 0, none⟩ 1 1 [.int .i64 n] rfl rfl (cell_one_new _ _ _) (icells_one [n]) (by unfold maxLen; omega) (by omega) (by have := HA.out.2.2.2.2; simp; omega) ?_; intro v' w2 hown2 hg2 _; have HP := Lib.hid (OwnI.put hown2 (by simpa using HB.out)); obtain ⟨c5, c6, _, _⟩ := after_append HA.out.2.1 HA.out.2.2.1 HA.out.2.2.2.2 hg2; have HG := Lib.hid hg2; obtain ⟨A', c', hv', _, _⟩ := HP.out.form; subst hv'; clear hown2 hg2))
    go_ret
    exact ⟨rfl, visit_end hlen (by simpa using HB.out) HA.out.1 HA.out.2.1 HA.out.2.2.1 HA.out.2.2.2.1 HA.out.2.2.2.2 hseen1 HG.out HP.out⟩
  · have HH := Lib.hid h
    clear hx hown h hb
    go_enter Tryz.func127, Tryz.ntmps127
    go_wp2_with (at_lookup; refine wpList_seen _ rfl _ _ rfl _ l rfl HH.out.seen n rfl hf true HB.out ?_)
    go_ret
    refine ⟨rfl, ?_⟩
    have hn : n ∈ l := by simpa using HB.out
    have e : addV l n = l := by unfold addV; rw [if_pos hn]
    rw [e]
    obtain ⟨q1, q2, q3, q4, q5, q6⟩ := HH.out
    exact ⟨q1, q2, q3, q4, q5, by omega⟩
end Go.Proofs.YtelkmnjoboekmaaGreat
namespace Go.Proofs.YtelkmnjoboekmaaGreat
open Go.RowKit

def tcells (l : List Tm) : List Value := l.flatMap Tm.cells
theorem cells_length (t : Tm) : t.cells.length = 4 := rfl
theorem tcells_length (l : List Tm) : (tcells l).length = l.length * 4 := by
  induction l with
  | nil => rfl
  | cons t r ih => simp only [tcells, List.flatMap_cons, List.length_append, cells_length, List.length_cons] at *; omega
theorem tcells_one (l : List Tm) : ∀ u ∈ tcells l, u.oneCell' = true := by
  intro u hu
  obtain ⟨t, _, ht⟩ := List.mem_flatMap.1 hu
  simp only [Tm.cells, List.mem_cons, List.not_mem_nil, or_false] at ht
  rcases ht with rfl | rfl | rfl | rfl <;> rfl
theorem tcells_get (l : List Tm) {i j : Nat} (hi : i < l.length) (hj : j < 4) : (tcells l)[4 * i + j]? = (l.getD i default).cells[j]? := by
  induction l generalizing i with
  | nil => simp at hi
  | cons t r ih =>
    simp only [tcells, List.flatMap_cons]
    cases i with
    | zero =>
      rw [List.getElem?_append_left (by rw [cells_length]; omega)]
      simp
    | succ i =>
      rw [List.getElem?_append_right (by rw [cells_length]; omega), cells_length, show 4 * (i + 1) + j - 4 = 4 * i + j by omega]
      simpa [tcells] using ih (by simpa using hi)
theorem RowAt.cells {w : World} {l : List Tm} {b o : Nat} (h : RowAt w l b o) : ∀ (j : Nat) (u : Value), (tcells l)[j]? = some u → w.cell? ((⟨b, o, none⟩ : Addr).add j) = some u := by
  induction l generalizing o with
  | nil => intro j u hu; simp [tcells] at hu
  | cons t r ih =>
    intro j u hu
    simp only [RowAt] at h
    obtain ⟨⟨h0, h1, h2, h3⟩, _, hr⟩ := h
    rw [add_plain]
    simp only [tcells, List.flatMap_cons] at hu
    by_cases hj : j < 4
    · rw [List.getElem?_append_left (by rw [cells_length]; exact hj)] at hu
      match j, hj with
      | 0, _ => rw [← hu]; exact h0
      | 1, _ => rw [← hu]; exact h1
      | 2, _ => rw [← hu]; exact h2
      | 3, _ => rw [← hu]; exact h3
    · rw [List.getElem?_append_right (by rw [cells_length]; omega), cells_length] at hu
      have := ih hr (j - 4) u hu
      rw [add_plain, show o + 4 + (j - 4) = o + j by omega] at this
      exact this

theorem term_info : (Tryz.prog.info? 26).map (fun i => (i.zero, i.size, i.bytes)) = some (some (.agg #[.int .i64 0, .int .i64 0, .string ⟨#[]⟩, .slice none 0 0]), 4, 56) := by kernel_rfl

/-- A row of its own: block g holds the terms, and may be written. -/
def Row4 (w : World) (g : Nat) (l : List Tm) : Prop := g < w.heap.size ∧ (∀ j, w.frozen? ⟨g, j, none⟩ = false) ∧ ∀ i j u, i < l.length → (l.getD i default).cells[j]? = some u → w.cell? ⟨g, 4 * i + j, none⟩ = some u
theorem Row4.below {w w' : World} {g : Nat} {l : List Tm} (h : Row4 w g l) (hb : Below w.heap.size w w') : Row4 w' g l := by
  refine ⟨Nat.lt_of_lt_of_le h.1 hb.size, fun j => ?_, fun i j u hi hu => ?_⟩
  · rw [hb.frozen (p := ⟨g, j, none⟩) h.1]; exact h.2.1 j
  · rw [hb.cell (p := ⟨g, 4 * i + j, none⟩) h.1]; exact h.2.2 i j u hi hu
theorem own_block_lt {w : World} {base : Nat} {e : TypeId} {size : Nat} {g n c : Nat} {xs : List Value} (h : w.ownsRow base e size (.slice (some ⟨g, 0, none⟩) n c) n xs) : g < w.heap.size := (World.ownsRow.lt h g rfl).2
theorem Row4.of {w : World} {base g c : Nat} {l : List Tm} (h : w.ownsRow base 26 4 (.slice (some ⟨g, 0, none⟩) l.length c) l.length (tcells l)) : Row4 w g l := by
  refine ⟨own_block_lt h, fun j => World.ownsRow.frozenAt h j, fun i j u hi hu => ?_⟩
  have hj : j < 4 := by
    have := (List.getElem?_eq_some_iff.1 hu).1
    simpa [Tm.cells] using this
  rw [World.ownsRow.cellAt h (4 * i + j) (by omega), tcells_get l hi hj]
  exact hu

/-- What Clone gives back. -/
def Cloned (w : World) (l : List Tm) (e : Ending) (w' : World) : Prop := ∃ A cap, e = .returned (.slice A l.length cap) ∧ l.length ≤ cap ∧ cap ≤ maxLen ∧ (0 < l.length → ∃ g, A = some ⟨g, 0, none⟩ ∧ w.heap.size ≤ g ∧ Row4 w' g l) ∧ Below w.heap.size w w'

set_option maxHeartbeats 1000000 in
theorem clone_at (l : List Tm) (b o c : Nat) (w : World) (h0 : 0 < l.length) (hl : RowAt w l b o) (hsz : l.length ≤ 1000000) :
    Calls Tryz.prog 122 #[.slice (some ⟨b, o, none⟩) l.length c] w (Cloned w l) := by
  obtain ⟨i0, hi, hz0, hz1, hz2⟩ := info_parts term_info
  have hn := fun (W : World) => Lib.run_eql_slice_nil (P := Tryz.prog) W 24 26 (some ⟨b, o, none⟩) l.length c 0 0 Tryz.underlying24
  go_enter Tryz.func122, Tryz.ntmps122
  have hl1 : RowAt (w.alloc (.cells #[] 26)) l b o := (At_keep ((Below.refl _ _).alloc (Nat.le_refl _) _)).2 _ _ _ hl
  have HC := Lib.hid hl1.cells
  have HO := Lib.hid (World.ownsRow_lit (base := w.heap.size) (e := 26) (size := 4) w #[] 0 (Nat.le_refl _) (Nat.zero_le _) rfl)
  clear hl hl1
  go_wp2_with (at_builtin; refine wpList_append_own _ rfl _ _ 24 rfl w.heap.size 26 i0 _ 4 56 Tryz.underlying24 hi hz0 hz1 hz2 rfl (by decide) _ 0 [] rfl HO.out ⟨b, o, none⟩ l.length c (tcells l) rfl (tcells_length l) HC.out (tcells_one l) (by unfold maxLen; omega) (by omega) (by simp) ?_; intro v' w1 hown1 hg1 _)
  have HG := Lib.hid hg1
  have HW := Lib.hid hown1
  clear hg1 hown1
  go_ret
  have hw := HW.out
  simp only [Nat.zero_add, List.nil_append] at hw
  obtain ⟨hlen, hv⟩ := hw
  rcases hv with ⟨_, h⟩ | ⟨g, cap, cur, rfl, hb, hheap, hle, hcap, _, hcur⟩
  · omega
  · refine ⟨_, cap, rfl, hle, hcap, fun _ => ⟨g, rfl, hb, Row4.of (base := w.heap.size) (c := cap) ?_⟩, ?_⟩
    · have hw := HW.out
      simpa only [Nat.zero_add, List.nil_append] using hw
    · exact ((Below.refl _ _).alloc (Nat.le_refl _) _).grown HG.out (by simp) (fun k hk => (World.ownsRow.lt HO.out k hk).1)

set_option maxHeartbeats 1000000 in
theorem clone_none_at (A : Option Addr) (c : Nat) (w : World) :
    Calls Tryz.prog 122 #[.slice A 0 c] w (Cloned w []) := by
  obtain ⟨i0, hi, hz0, hz1, hz2⟩ := info_parts term_info
  have hn := fun (W : World) => Lib.run_eql_slice_nil (P := Tryz.prog) W 24 26 A 0 c 0 0 Tryz.underlying24
  cases A with
  | none =>
    go_enter Tryz.func122, Tryz.ntmps122
    go_wp2_with fail
    go_ret
    exact ⟨none, 0, rfl, Nat.le_refl _, Nat.zero_le _, fun h => by simp at h, Below.refl _ _⟩
  | some a =>
    go_enter Tryz.func122, Tryz.ntmps122
    have HO := Lib.hid (World.ownsRow_lit (base := w.heap.size) (e := 26) (size := 4) w #[] 0 (Nat.le_refl _) (Nat.zero_le _) rfl)
    go_wp2_with (at_builtin; refine wpList_append_own _ rfl _ _ 24 rfl w.heap.size 26 i0 _ 4 56 Tryz.underlying24 hi hz0 hz1 hz2 rfl (by decide) _ 0 [] rfl HO.out a 0 c [] rfl rfl (fun _ _ h => by simp at h) (fun _ h => by simp at h) (by unfold maxLen; omega) (by omega) (by simp) ?_; intro v' w1 hown1 hg1 _)
    have HG := Lib.hid hg1
    have HW := Lib.hid hown1
    clear hg1 hown1
    go_ret
    have hb : Below w.heap.size w w1 := ((Below.refl _ _).alloc (Nat.le_refl _) _).grown HG.out (by simp) (fun k hk => (World.ownsRow.lt HO.out k hk).1)
    rcases HW.out.2 with ⟨rfl, _⟩ | ⟨g, cap, cur, rfl, _, _, _, hcap, _, _⟩
    · exact ⟨none, 0, rfl, Nat.le_refl _, Nat.zero_le _, fun h => by simp at h, hb⟩
    · exact ⟨_, cap, rfl, Nat.zero_le _, hcap, fun h => by simp at h, hb⟩
theorem set4 (w : World) (g q : Nat) (v0 v1 v2 v3 : Value) (h0 : ∀ j, j < 4 → (w.cell? ⟨g, q + j, none⟩).isSome = true) :
    ∀ p : Addr, ((((w.setCell ⟨g, q, none⟩ v0).setCell ⟨g, q + 1, none⟩ v1).setCell ⟨g, q + 2, none⟩ v2).setCell ⟨g, q + 3, none⟩ v3).cell? p =
      if p = ⟨g, q, none⟩ then some v0 else if p = ⟨g, q + 1, none⟩ then some v1 else if p = ⟨g, q + 2, none⟩ then some v2 else if p = ⟨g, q + 3, none⟩ then some v3 else w.cell? p := by
  intro p
  have ne : ∀ i j : Nat, i ≠ j → (⟨g, q + i, none⟩ : Addr) ≠ ⟨g, q + j, none⟩ := fun i j h e => by injection e with _ e _; omega
  have n01 : (⟨g, q, none⟩ : Addr) ≠ ⟨g, q + 1, none⟩ := ne 0 1 (by omega)
  have n02 : (⟨g, q, none⟩ : Addr) ≠ ⟨g, q + 2, none⟩ := ne 0 2 (by omega)
  have n03 : (⟨g, q, none⟩ : Addr) ≠ ⟨g, q + 3, none⟩ := ne 0 3 (by omega)
  have n12 := ne 1 2 (by omega)
  have n13 := ne 1 3 (by omega)
  have n23 := ne 2 3 (by omega)
  have s0 := h0 0 (by omega)
  have s1 := h0 1 (by omega)
  have s2 := h0 2 (by omega)
  have s3 := h0 3 (by omega)
  simp only [Nat.add_zero] at s0
  by_cases e0 : p = ⟨g, q, none⟩
  · subst e0
    rw [if_pos rfl, World.cell?_setCell_other _ _ _ _ n03.symm, World.cell?_setCell_other _ _ _ _ n02.symm, World.cell?_setCell_other _ _ _ _ n01.symm, World.cell?_setCell_same' _ _ _ s0]
  rw [if_neg e0]
  by_cases e1 : p = ⟨g, q + 1, none⟩
  · subst e1
    rw [if_pos rfl, World.cell?_setCell_other _ _ _ _ n13.symm, World.cell?_setCell_other _ _ _ _ n12.symm, World.cell?_setCell_same' _ _ _ (by rw [World.cell?_setCell_other _ _ _ _ n01]; exact s1)]
  rw [if_neg e1]
  by_cases e2 : p = ⟨g, q + 2, none⟩
  · subst e2
    rw [if_pos rfl, World.cell?_setCell_other _ _ _ _ n23.symm, World.cell?_setCell_same' _ _ _ (by rw [World.cell?_setCell_other _ _ _ _ n12, World.cell?_setCell_other _ _ _ _ n02]; exact s2)]
  rw [if_neg e2]
  by_cases e3 : p = ⟨g, q + 3, none⟩
  · subst e3
    rw [if_pos rfl, World.cell?_setCell_same' _ _ _ (by rw [World.cell?_setCell_other _ _ _ _ n23, World.cell?_setCell_other _ _ _ _ n13, World.cell?_setCell_other _ _ _ _ n03]; exact s3)]
  rw [if_neg e3, World.cell?_setCell_other _ _ _ _ (Ne.symm e3), World.cell?_setCell_other _ _ _ _ (Ne.symm e2), World.cell?_setCell_other _ _ _ _ (Ne.symm e1), World.cell?_setCell_other _ _ _ _ (Ne.symm e0)]

theorem Row4.some_cell {w : World} {g : Nat} {l : List Tm} (h : Row4 w g l) {i : Nat} (hi : i < l.length) : ∀ j, j < 4 → (w.cell? ⟨g, i * 4 + j, none⟩).isSome = true := by
  intro j hj
  have e : (l.getD i default).cells.length = 4 := rfl
  rw [Nat.mul_comm, h.2.2 i j _ hi (List.getElem?_eq_getElem (by omega))]
  rfl
/-- A term stored into the row. -/
theorem Row4.store {w : World} {g : Nat} {l : List Tm} (h : Row4 w g l) {i : Nat} (hi : i < l.length) (u : Tm) :
    Row4 ((((w.setCell ⟨g, i * 4, none⟩ (.int .i64 u.kind)).setCell ⟨g, i * 4 + 1, none⟩ (.int .i64 u.num)).setCell ⟨g, i * 4 + 2, none⟩ (.string u.name)).setCell ⟨g, i * 4 + 3, none⟩ (.slice u.at_ u.args.length u.cap)) g (l.set i u) := by
  refine ⟨by simpa using h.1, fun j => by simp only [World.frozen?_setCell]; exact h.2.1 j, fun i' j v hi' hv => ?_⟩
  rw [List.length_set] at hi'
  rw [set4 _ _ _ _ _ _ _ (h.some_cell hi)]
  have hj : j < 4 := by
    have := (List.getElem?_eq_some_iff.1 hv).1
    simpa [Tm.cells] using this
  by_cases e : i' = i
  · subst e
    have ev : (l.set i' u).getD i' default = u := by simp [List.getD, hi']
    rw [ev] at hv
    have ad : ∀ a b : Nat, a ≠ b → ¬ (⟨g, 4 * i' + a, none⟩ : Addr) = ⟨g, i' * 4 + b, none⟩ := fun a b hab h => by injection h with _ h _; omega
    have ad0 : ∀ a : Nat, a ≠ 0 → ¬ (⟨g, 4 * i' + a, none⟩ : Addr) = ⟨g, i' * 4, none⟩ := fun a ha h => by injection h with _ h _; omega
    match j, hj with
    | 0, _ => rw [if_pos (by rw [Nat.mul_comm]; rfl)]; exact hv
    | 1, _ => rw [if_neg (ad0 1 (by omega)), if_pos (by rw [Nat.mul_comm])]; exact hv
    | 2, _ => rw [if_neg (ad0 2 (by omega)), if_neg (ad 2 1 (by omega)), if_pos (by rw [Nat.mul_comm])]; exact hv
    | 3, _ => rw [if_neg (ad0 3 (by omega)), if_neg (ad 3 1 (by omega)), if_neg (ad 3 2 (by omega)), if_pos (by rw [Nat.mul_comm])]; exact hv
  · have ev : (l.set i u).getD i' default = l.getD i' default := by simp [List.getD, Ne.symm e]
    rw [ev] at hv
    have ad : ∀ b : Nat, b < 4 → ¬ (⟨g, 4 * i' + j, none⟩ : Addr) = ⟨g, i * 4 + b, none⟩ := fun b hb h => by injection h with _ h _; omega
    have ad0 : ¬ (⟨g, 4 * i' + j, none⟩ : Addr) = ⟨g, i * 4, none⟩ := fun h => by injection h with _ h _; omega
    rw [if_neg ad0, if_neg (ad 1 (by omega)), if_neg (ad 2 (by omega)), if_neg (ad 3 (by omega))]
    exact h.2.2 i' j v hi' hv

theorem Row4.at {w : World} {g : Nat} {l : List Tm} (h : Row4 w g l) (W : World) (hc : ∀ j, W.cell? ⟨g, j, none⟩ = w.cell? ⟨g, j, none⟩) (ha : ∀ x ∈ l, x.At W) : RowAt W l g 0 := by
  refine RowAt.of fun i hi => ⟨fun j u hu => ?_, ha _ (getD_mem hi)⟩
  rw [Nat.zero_add, hc]
  exact h.2.2 i j u hi hu

end Go.Proofs.YtelkmnjoboekmaaGreat
namespace Go.Proofs.YtelkmnjoboekmaaGreat
open Go.RowKit

theorem BLst.getA {w : World} {b o c : Nat} {l : List Bd} (h : BLst w (some ⟨b, o, none⟩) l c) {i : Nat} (hi : i < l.length) :
    w.cell? ⟨b, o + i * 5, none⟩ = some (.int .i64 (l.getD i default).var) ∧ w.cell? ⟨b, o + i * 5 + 1, none⟩ = some (.int .i64 (l.getD i default).tm.kind) ∧ w.cell? ⟨b, o + i * 5 + 2, none⟩ = some (.int .i64 (l.getD i default).tm.num) ∧ w.cell? ⟨b, o + i * 5 + 3, none⟩ = some (.string (l.getD i default).tm.name) ∧
      w.cell? ⟨b, o + i * 5 + 4, none⟩ = some (.slice (l.getD i default).tm.at_ (l.getD i default).tm.args.length (l.getD i default).tm.cap) := by
  obtain ⟨b1, o1, e, h2, _⟩ := h.get hi
  injection e with e
  injection e with e1 e2 _
  subst e1 e2
  exact h2
def bcells (l : List Bd) : List Value := l.flatMap Bd.cells
theorem bcells_len (l : List Bd) : (bcells l).length = l.length * 5 := by
  induction l with
  | nil => rfl
  | cons t r ih => simp only [bcells, List.flatMap_cons, List.length_append, bcells_length, List.length_cons] at *; omega
theorem bcells_append (l m : List Bd) : bcells (l ++ m) = bcells l ++ bcells m := by simp [bcells]
theorem bcells_one (x : Bd) : ∀ v ∈ x.cells, v.oneCell' = true := by
  intro v hv
  simp only [Bd.cells, List.mem_cons, List.not_mem_nil, or_false] at hv
  rcases hv with rfl | rfl | rfl | rfl | rfl <;> rfl
theorem bcells_get (l : List Bd) {i j : Nat} (hi : i < l.length) (hj : j < 5) : (bcells l)[i * 5 + j]? = (l.getD i default).cells[j]? := by
  induction l generalizing i with
  | nil => simp at hi
  | cons t r ih =>
    simp only [bcells, List.flatMap_cons]
    cases i with
    | zero =>
      rw [List.getElem?_append_left (by rw [bcells_length]; omega)]
      simp
    | succ i =>
      rw [List.getElem?_append_right (by rw [bcells_length]; omega), bcells_length, show (i + 1) * 5 + j - 5 = i * 5 + j by omega]
      simpa [bcells] using ih (by simpa using hi)
theorem bind_info : (Tryz.prog.info? 41).map (fun i => (i.zero, i.size, i.bytes)) = some (some (.agg #[.int .i64 0, .int .i64 0, .int .i64 0, .string ⟨#[]⟩, .slice none 0 0]), 5, 64) := by kernel_rfl

theorem own_lt {w : World} {base : Nat} {e : TypeId} {size : Nat} {v : Value} {n : Nat} {xs : List Value} (h : w.ownsRow base e size v n xs) : ∀ k, v.ownBlock = some k → base ≤ k ∧ k < w.heap.size := by
  intro k hk
  rcases h.2 with ⟨rfl, _⟩ | ⟨g, cap, cur, rfl, hb, hg, _⟩
  · simp [Value.ownBlock] at hk
  · simp only [Value.ownBlock, Option.some.injEq] at hk
    subst hk
    refine ⟨hb, ?_⟩
    rcases Nat.lt_or_ge g w.heap.size with h | h
    · exact h
    · rw [Array.getElem?_eq_none h] at hg; cases hg
theorem own_below {w w' : World} {base : Nat} {e : TypeId} {size : Nat} {v : Value} {n : Nat} {xs : List Value} (h : w.ownsRow base e size v n xs) (hb : Below w.heap.size w w') : w'.ownsRow base e size v n xs :=
  World.ownsRow.kept (row := none) h ⟨hb.os, hb.tape, hb.output, hb.size, fun k hk _ => hb.block k hk⟩ (by
    rcases h.2 with ⟨rfl, _⟩ | ⟨g, cap, cur, rfl, _⟩
    · exact .inl rfl
    · exact .inr (by simp [Value.ownBlock]))

/-- Bindings in a row of the call's own. -/
def RowB (B : World → Prop) (lo : Nat) (w : World) (z : Value) (acc : List Bd) : Prop :=
  w.ownsRow lo 41 5 z acc.length (bcells acc) ∧ ∀ x ∈ acc, Fits x.var ∧ Lie B lo (fun k => z.ownBlock = some k) w x.tm
section
variable {B : World → Prop} {lo : Nat} {w w' : World} {z : Value} {acc : List Bd}
theorem RowB.nil (B : World → Prop) (lo : Nat) (w : World) : RowB B lo w (.slice none 0 0) [] := ⟨⟨rfl, .inl ⟨rfl, rfl⟩⟩, fun x hx => by cases hx⟩
theorem RowB.below (h : RowB B lo w z acc) (hb : Below w.heap.size w w') : RowB B lo w' z acc := ⟨own_below h.1 hb, fun x hx => ⟨(h.2 x hx).1, (h.2 x hx).2.below hb⟩⟩
/-- One binding more: behind the call (w2), the blocks of the new element (w3), the append (w4). -/
theorem RowB.next {g cap : Nat} {w2 w3 w4 : World} {u : Bd} (h : RowB B lo w2 z acc) (hf : Fits u.var) (hu : Lie B lo (fun k => z.ownBlock = some k) w2 u.tm) (hb : Below w2.heap.size w2 w3)
    (hown : w4.ownsRow lo 41 5 (.slice (some ⟨g, 0, none⟩) (acc.length + 1) cap) (acc.length + 1) (bcells acc ++ u.cells)) (hg : w3.grownBy w4 z.ownBlock) (hat : z.ownBlock = some g ∨ g = w3.heap.size) :
    RowB B lo w4 (.slice (some ⟨g, 0, none⟩) (acc.length + 1) cap) (acc ++ [u]) := by
  refine ⟨by rw [List.length_append, bcells_append]; simpa [bcells] using hown, fun x hx => ?_⟩
  have hx2 : Fits x.var ∧ Lie B lo (fun k => z.ownBlock = some k) w2 x.tm := by
    rcases List.mem_append.1 hx with hx | hx
    · exact h.2 x hx
    · rw [List.mem_singleton.1 hx]; exact ⟨hf, hu⟩
  refine ⟨hx2.1, (hx2.2.below hb).less hg.size fun b h1 h2 h3 => ⟨h1, fun e => ?_, hg.block b h2 (fun e => h3 e.symm)⟩⟩
  have e' : g = b := by simpa [Value.ownBlock] using e
  rcases hat with h | h
  · exact h3 (by rw [h, e'])
  · omega
/-- An element that was made behind the row lies apart from it. -/
theorem lie_apart {x : Tm} {B : World → Prop} {lo lo' : Nat} {w0 w2 : World} {z : Value} {n : Nat} {e : TypeId} {size : Nat} {xs : List Value} (hown : w0.ownsRow lo e size z n xs) (hx : Lie B lo' No w2 x) (h1 : lo ≤ lo') (h2 : w0.heap.size ≤ lo') : Lie B lo (fun k => z.ownBlock = some k) w2 x :=
  (hx.out (X := fun k => z.ownBlock = some k) (fun b h3 _ h4 => by have := (own_lt hown b h4).2; omega)).low h1
theorem RowB.form (h : RowB B lo w z acc) : ∃ A c, z = .slice A acc.length c ∧ acc.length ≤ c ∧ (0 < acc.length → ∃ g, A = some ⟨g, 0, none⟩ ∧ lo ≤ g) := by
  rcases h.1.2 with ⟨rfl, h1⟩ | ⟨g, cap, cur, rfl, hb, hg, hle, _⟩
  · exact ⟨none, 0, by rw [h1], by omega, fun h => by omega⟩
  · exact ⟨_, cap, rfl, hle, fun _ => ⟨g, rfl, hb⟩⟩
theorem RowB.blst {A : Option Addr} {c : Nat} (h : RowB B lo w (.slice A acc.length c) acc) (hB : B w) : BLst w A acc c := by
  have hl := bcells_len acc
  rcases h.1.2 with ⟨e, h1⟩ | ⟨g, cap, cur, e, hb, hg, hle, hcap, hcs, hcur⟩
  · injection e with e1 _ e3
    obtain rfl : acc = [] := List.length_eq_zero_iff.1 h1
    rw [e1, e3]; exact BLst.nil w
  · injection e with e1 _ e3
    subst e1 e3
    refine ⟨hle, hcap, fun h0 => ⟨g, 0, rfl, fun i hi => ⟨fun j u hu => ?_, (h.2 _ (bgetD_mem hi)).1, (h.2 _ (bgetD_mem hi)).2.at hB⟩⟩⟩
    have hj := bcells_lt hu
    have hc := World.ownsRow.cellAt h.1 (i * 5 + j) (by omega)
    rw [Nat.zero_add, hc]
    exact (bcells_get acc hi hj).trans hu
theorem RowB.row5 {g c n : Nat} (h : RowB B lo w (.slice (some ⟨g, 0, none⟩) n c) acc) : Row5 w g acc := by
  have hl := bcells_len acc
  obtain rfl : n = acc.length := by
    rcases h.1.2 with ⟨e, _⟩ | ⟨_, _, _, e, _⟩
    · injection e with e; cases e
    · injection e
  refine ⟨(own_lt h.1 g rfl).2, fun j => World.ownsRow.frozenAt h.1 j, fun i j u hi hu => ?_⟩
  have hj := bcells_lt hu
  rw [World.ownsRow.cellAt h.1 (i * 5 + j) (by omega)]
  exact (bcells_get acc hi hj).trans hu
end
/-- The cells of an element that was just laid. -/
theorem bnews1 (w : World) (u : Bd) : ∀ j v, u.cells[j]? = some v → (w.alloc (boxB u)).cell? ((⟨w.heap.size, 0, none⟩ : Addr).add j) = some v := by
  intro j v hv
  rw [add_plain, Nat.zero_add, World.cell?_alloc_at _ _ _ _ rfl, ← hv, show (#[Value.int .i64 u.var, .int .i64 u.tm.kind, .int .i64 u.tm.num, .string u.tm.name, .slice u.tm.at_ u.tm.args.length u.tm.cap] : Array Value) = u.cells.toArray from rfl, List.getElem?_toArray]
theorem bnews2 (w : World) (o : Obj) (u : Bd) : ∀ j v, u.cells[j]? = some v → ((w.alloc o).alloc (boxB u)).cell? ((⟨w.heap.size + 1, 0, none⟩ : Addr).add j) = some v := by
  have := bnews1 (w.alloc o) u
  rwa [World.size_alloc] at this

/-! ### Terms -/
theorem tcells_append (l m : List Tm) : tcells (l ++ m) = tcells l ++ tcells m := by simp [tcells]
theorem cells_one (u : Tm) : ∀ v ∈ u.cells, v.oneCell' = true := by
  intro v hv
  simp only [Tm.cells, List.mem_cons, List.not_mem_nil, or_false] at hv
  rcases hv with rfl | rfl | rfl | rfl <;> rfl
/-- Terms in a row of the call's own. -/
def RowT (B : World → Prop) (lo : Nat) (w : World) (z : Value) (acc : List Tm) : Prop :=
  w.ownsRow lo 26 4 z acc.length (tcells acc) ∧ ∀ x ∈ acc, Lie B lo (fun k => z.ownBlock = some k) w x
section
variable {B : World → Prop} {lo : Nat} {w w' : World} {z : Value} {acc : List Tm}
theorem RowT.nil (B : World → Prop) (lo : Nat) (w : World) : RowT B lo w (.slice none 0 0) [] := ⟨⟨rfl, .inl ⟨rfl, rfl⟩⟩, fun x hx => by cases hx⟩
theorem RowT.below (h : RowT B lo w z acc) (hb : Below w.heap.size w w') : RowT B lo w' z acc := ⟨own_below h.1 hb, fun x hx => (h.2 x hx).below hb⟩
theorem RowT.next {g cap : Nat} {w2 w3 w4 : World} {u : Tm} (h : RowT B lo w2 z acc) (hu : Lie B lo (fun k => z.ownBlock = some k) w2 u) (hb : Below w2.heap.size w2 w3)
    (hown : w4.ownsRow lo 26 4 (.slice (some ⟨g, 0, none⟩) (acc.length + 1) cap) (acc.length + 1) (tcells acc ++ u.cells)) (hg : w3.grownBy w4 z.ownBlock) (hat : z.ownBlock = some g ∨ g = w3.heap.size) :
    RowT B lo w4 (.slice (some ⟨g, 0, none⟩) (acc.length + 1) cap) (acc ++ [u]) := by
  refine ⟨by rw [List.length_append, tcells_append]; simpa [tcells] using hown, fun x hx => ?_⟩
  have hx2 : Lie B lo (fun k => z.ownBlock = some k) w2 x := by
    rcases List.mem_append.1 hx with hx | hx
    · exact h.2 x hx
    · rw [List.mem_singleton.1 hx]; exact hu
  refine (hx2.below hb).less hg.size fun b h1 h2 h3 => ⟨h1, fun e => ?_, hg.block b h2 (fun e => h3 e.symm)⟩
  have e' : g = b := by simpa [Value.ownBlock] using e
  rcases hat with h | h
  · exact h3 (by rw [h, e'])
  · omega
theorem RowT.form (h : RowT B lo w z acc) : ∃ A c, z = .slice A acc.length c ∧ acc.length ≤ c := by
  rcases h.1.2 with ⟨rfl, h1⟩ | ⟨g, cap, cur, rfl, hb, hg, hle, _⟩
  · exact ⟨none, 0, by rw [h1], by omega⟩
  · exact ⟨_, cap, rfl, hle⟩
/-- The list lies in each world of B that agrees from lo on. -/
theorem RowT.lies {A : Option Addr} {c n : Nat} (h : RowT B lo w (.slice A n c) acc) : ∀ W, B W → Agree lo No w W → Lst W A acc c := by
  intro W hB hW
  have hl := tcells_length acc
  rcases h.1.2 with ⟨e, h1⟩ | ⟨g, cap, cur, e, hb, hg, hle, hcap, hcs, hcur⟩
  · injection e with e1 _ e3
    obtain rfl : acc = [] := List.length_eq_zero_iff.1 h1
    rw [e1, e3]; exact Lst.nil W
  · injection e with e1 e2 e3
    subst e1 e2 e3
    have hlt := own_lt h.1 g rfl
    refine ⟨hle, hcap, fun _ => ⟨g, 0, rfl, RowAt.of fun i hi => ⟨fun j u hu => ?_, ?_⟩⟩⟩
    · have hj : j < 4 := by
        have := (List.getElem?_eq_some_iff.1 hu).1
        simpa [Tm.cells] using this
      rw [hW.cell (p := ⟨g, 0 + 4 * i + j, none⟩) hlt.1 hlt.2 (fun h => h)]
      have hc := World.ownsRow.cellAt h.1 (4 * i + j) (by omega)
      rw [Nat.zero_add, hc]
      exact (tcells_get acc hi hj).trans hu
    · exact h.2 _ (getD_mem hi) W hB fun b h1 h2 h3 => hW b h1 h2 (fun h => h)
end
theorem tnews1 (w : World) (u : Tm) (T : TypeId) : ∀ j v, u.cells[j]? = some v → (w.alloc (.cells #[.int .i64 u.kind, .int .i64 u.num, .string u.name, .slice u.at_ u.args.length u.cap] T)).cell? ((⟨w.heap.size, 0, none⟩ : Addr).add j) = some v := by
  intro j v hv
  rw [add_plain, Nat.zero_add, World.cell?_alloc_at _ _ _ _ rfl, ← hv, show (#[Value.int .i64 u.kind, .int .i64 u.num, .string u.name, .slice u.at_ u.args.length u.cap] : Array Value) = u.cells.toArray from rfl, List.getElem?_toArray]
end Go.Proofs.YtelkmnjoboekmaaGreat
