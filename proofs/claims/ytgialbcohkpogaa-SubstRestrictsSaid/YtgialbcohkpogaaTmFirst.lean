/-
  Contracts of firstOccurrences and Vars of the program: a map of the numbers that were seen, and a slice that is appended to, both behind captured variables.
-/
import Derived.Test.YtgialbcohkpogaaTmGround
import Derived.Test.YtgialbcohkpogaaTmVars
import Derived.Maps.OwnOps
import Derived.Maps.OwnSet
import Derived.Maps.Views
import Derived.Laws.Rows
import Derived.Carry
namespace Go.Proofs.Ytgialbcohkpogaa
open Go.RowKit Go.Maps

theorem keyed : Keyed Try.prog 3 := int_keyed Try.underlying3
theorem zero_bool (w : World) : (zeroValue 4).run Try.prog w = .ok (.bool false) w := by kernel_rfl
theorem fits_wf {n : Int} (h : Fits n) : (Lit.int .i64 n).wf = true := by
  have h1 : IntKind.i64.min = -9223372036854775808 := rfl
  have h2 : IntKind.i64.max = 9223372036854775807 := rfl
  unfold Fits at h
  simp only [Lit.wf, Bool.and_eq_true, decide_eq_true_eq]
  omega
theorem bool_inv {P : Program} {e : TypeId} {H : Type} (he : P.underlying e = some .bool) {v : Value} {z : DataW H × List MemPlace} (h : plainElem P e v = some z) : ∃ x, v = .bool x ∧ z = (.lit (.bool x), []) := by
  unfold plainElem at h
  rw [he] at h
  cases v <;> simp at h
  exact ⟨_, rfl, h.symm⟩

/-- The map in block b holds true at the numbers of the list, and nothing else. -/
def seenD (l : List Int) : DataW Unit := setOf (.lit (.bool true)) (l.map (Lit.int .i64))
def Seen (w : World) (b : Nat) (l : List Int) : Prop := (∀ n ∈ l, Fits n) ∧ w.ownsMap Try.prog 3 (plainElem Try.prog 4) b l.length (seenD l)
theorem seen_at (l : List Int) (n : Int) (hl : ∀ m ∈ l, Fits m) : (seenD l).atKey (.int .i64 n) (.lit (.bool false)) = .lit (.bool (decide (n ∈ l))) := by
  have key : ∀ r : List Int, (∀ m ∈ r, Fits m) → (seenD r.reverse).atKey (.int .i64 n) (.lit (.bool false)) = .lit (.bool (decide (n ∈ r))) ∧ IsMap (seenD r.reverse) := by
    intro r
    induction r with
    | nil => intro _; exact ⟨rfl, isMap_empty⟩
    | cons x r ih =>
      intro h
      obtain ⟨h1, h2⟩ := ih (fun m hm => h m (List.mem_cons_of_mem _ hm))
      have e : seenD (x :: r).reverse = (seenD r.reverse).put (.int .i64 x) (.lit (.bool true)) := by
        unfold seenD
        rw [List.reverse_cons, List.map_append]
        exact setOf_snoc _ _ _
      rw [e]
      refine ⟨?_, h2.put _ _⟩
      by_cases hx : n = x
      · subst hx
        rw [atKey_put_same h2 (by first | exact fits_wf (h n List.mem_cons_self) | exact trivial | simp [WideAt.IsKeyLit])]
        simp
      · rw [atKey_put_other (fun e => hx (by injection e)), h1]
        simp [hx]
  have := (key l.reverse (fun m hm => hl m (by simpa using hm))).1
  simpa using this

theorem wpList_seen (w : World) {ops : Array Oper} {rest : List Oper} {o : Oper} {a : Act} {Q : Exit → Act → World → Prop}
    (hg : o.guard = none) (m x : Operand) (hop : o.op = Op.lookup 66 m x false) (b : Nat) (l : List Int) (hm : a.eval m = .map (some b)) (h : Seen w b l) (n : Int) (hx : a.eval x = .int .i64 n) (hf : Fits n) (r : Bool) (hr : decide (n ∈ l) = r)
    (hK : wpList Try.prog ops Q rest (a.put o.dst (.bool r)) w) : wpList Try.prog ops Q (o :: rest) a w := by
  refine wpList_plain hg fun K' hK' => ?_
  obtain ⟨v, ps, hrun, hv⟩ := h.2.lookup keyed Try.underlying66 (zero_bool w) (plainElem_bool Try.underlying4 false) (keyOf_int_mk Try.underlying3 (fits_wf hf))
  rw [seen_at l n h.1, hr] at hv
  obtain ⟨y, rfl, hy⟩ := bool_inv Try.underlying4 hv
  simp only [Prod.mk.injEq, DataW.lit.injEq, Lit.bool.injEq] at hy
  obtain ⟨rfl, _⟩ := hy
  unfold Oper.wp
  simp [execOp, hop, hm, hx, hrun, Result.andThen]
  exact hK' _ _ hK
theorem wpList_see (w : World) {ops : Array Oper} {rest : List Oper} {o : Oper} {a : Act} {Q : Exit → Act → World → Prop}
    (hg : o.guard = none) (m x v : Operand) (hop : o.op = Op.mapUpdate 66 m x v) (b : Nat) (l : List Int) (hm : a.eval m = .map (some b)) (h : Seen w b l) (hl : l.length ≤ 1000000) (n : Int) (hx : a.eval x = .int .i64 n) (hf : Fits n) (hv : a.eval v = .bool true)
    (hK : ∀ w', Seen w' b (l ++ [n]) → w.grownBy w' (some b) → wpList Try.prog ops Q rest (a.put o.dst undef) w') : wpList Try.prog ops Q (o :: rest) a w := by
  refine wpList_mapUpdate_own w hg m x v 66 hop 3 4 keyed Try.underlying66 _ b l.length (seenD l) hm h.2 (by unfold maxLen; omega) _ _ (.int .i64 n) hx hv (keyOf_int_mk Try.underlying3 (fits_wf hf)) (.lit (.bool true)) [] (plainElem_bool Try.underlying4 true) fun w' h1 h2 => hK w' ⟨?_, ?_⟩ h2
  · intro k hk
    rcases List.mem_append.1 hk with h' | h'
    · exact h.1 k h'
    · obtain rfl := List.mem_singleton.1 h'
      exact hf
  · have e : seenD (l ++ [n]) = (seenD l).put (.int .i64 n) (.lit (.bool true)) := by
      unfold seenD
      rw [List.map_append]
      exact setOf_snoc _ _ _
    rw [e, List.length_append]
    exact h1

/-- What holds while the variables are visited: where the map, its variable and the variable of the slice lie. -/
structure Kept (w0 : World) (f : Nat) (l : List Int) (W : World) : Prop where
  below : Below w0.heap.size w0 W
  size : w0.heap.size + 3 ≤ W.heap.size
  seenVar : W.heap[w0.heap.size + 2]? = some (.cells #[.map (some (w0.heap.size + 1))] 66 (0, 0))
  listVar : ∃ x, W.heap[w0.heap.size]? = some (.cells #[x] 43 (0, 0)) ∧ OwnI W (w0.heap.size + 3) x l
  seen : Seen W (w0.heap.size + 1) l
  len : l.length + f ≤ 1000000

def addStep (l : List Int) (n : Int) : Bool × List Int := (true, addV l n)
theorem add_run (l xs : List Int) : runV addStep l xs = (true, addAll l xs) := by
  induction xs generalizing l with
  | nil => rfl
  | cons x r ih =>
    simp only [runV, addStep, if_true] at ih ⊢
    exact ih _

theorem Seen.keep {w w' : World} {b : Nat} {l : List Int} (h : Seen w b l) (hb : Below w.heap.size w w') : Seen w' b l :=
  ⟨h.1, h.2.kept (row := none) ⟨hb.os, hb.tape, hb.output, hb.size, fun k hk _ => hb.block k hk⟩ (by simp)⟩
theorem Kept.keep {w0 : World} {f : Nat} {l : List Int} {W W' : World} (h : Kept w0 f l W) (hb : Below W.heap.size W W') : Kept w0 f l W' where
  below := h.below.trans (hb.mono h.below.size)
  size := Nat.le_trans h.size hb.size
  seenVar := (hb.block _ (by have := h.size; omega)).trans h.seenVar
  listVar := by
    obtain ⟨x, h1, h2⟩ := h.listVar
    exact ⟨x, (hb.block _ (by have := h.size; omega)).trans h1, h2.below hb⟩
  seen := h.seen.keep hb
  len := h.len

/-- Behind the store into the map. -/
theorem after_map {w0 : World} {f : Nat} {l : List Int} {W w1 : World} {x : Value} (h : Kept w0 f l W) (hx : W.heap[w0.heap.size]? = some (.cells #[x] 43 (0, 0))) (hown : OwnI W (w0.heap.size + 3) x l) (hg : W.grownBy w1 (some (w0.heap.size + 1))) :
    w1.heap[w0.heap.size + 2]? = some (.cells #[.map (some (w0.heap.size + 1))] 66 (0, 0)) ∧ w1.heap[w0.heap.size]? = some (.cells #[x] 43 (0, 0)) ∧ OwnI w1 (w0.heap.size + 3) x l ∧ Below w0.heap.size w0 w1 ∧ w0.heap.size + 3 ≤ w1.heap.size := by
  have hz := h.size
  refine ⟨(hg.block _ (by omega) (by simp)).trans h.seenVar, (hg.block _ (by omega) (by simp)).trans hx, ?_, h.below.grown hg h.below.size (fun k hk => by injection hk with hk; omega), Nat.le_trans hz hg.size⟩
  refine World.ownsRow.kept hown hg ?_
  rcases Option.eq_none_or_eq_some x.ownBlock with e | ⟨k, e⟩
  · exact .inl e
  · refine .inr fun e' => ?_
    have := (World.ownsRow.lt hown k e).1
    rw [e] at e'
    injection e' with e'
    omega
/-- Behind the append. -/
theorem after_append {w0 w1 w2 : World} {l : List Int} {n : Int} {x : Value} (hx : w1.heap[w0.heap.size]? = some (.cells #[x] 43 (0, 0))) (hown : OwnI w1 (w0.heap.size + 3) x l) (hz : w0.heap.size + 3 ≤ w1.heap.size)
    (hg : (w1.alloc (.cells #[.int .i64 n] 3)).grownBy w2 x.ownBlock) : w2.cell? ⟨w0.heap.size, 0, none⟩ = some x ∧ w2.frozen? ⟨w0.heap.size, 0, none⟩ = false ∧ (∀ k, k < w0.heap.size + 3 → w2.heap[k]? = w1.heap[k]?) ∧ w1.heap.size ≤ w2.heap.size := by
  have hk : ∀ k, k < w0.heap.size + 3 → w2.heap[k]? = w1.heap[k]? := fun k hk => by
    rw [hg.block k (by simp; omega) (fun e => by have := (World.ownsRow.lt hown k e.symm).1; omega), Below.heap_alloc _ _ _ (by omega)]
  have h2 := (hk w0.heap.size (by omega)).trans hx
  exact ⟨by rw [cell_of_row _ _ _ _ _ _ h2]; rfl, frozen_of_row _ _ _ _ _ h2, hk, Nat.le_trans (by simp) hg.size⟩
theorem visit_end {w0 w1 w2 : World} {f : Nat} {l : List Int} {n : Int} {x v : Value} (hlen : l.length + (f + 1) ≤ 1000000) (hn : n ∉ l) (hs : w1.heap[w0.heap.size + 2]? = some (.cells #[.map (some (w0.heap.size + 1))] 66 (0, 0)))
    (hx : w1.heap[w0.heap.size]? = some (.cells #[x] 43 (0, 0))) (hown : OwnI w1 (w0.heap.size + 3) x l) (hb : Below w0.heap.size w0 w1) (hz : w0.heap.size + 3 ≤ w1.heap.size) (hseen : Seen w1 (w0.heap.size + 1) (l ++ [n]))
    (hg : (w1.alloc (.cells #[.int .i64 n] 3)).grownBy w2 x.ownBlock) (hown2 : OwnI w2 (w0.heap.size + 3) v (addV l n)) : Kept w0 f (addV l n) (w2.setCell ⟨w0.heap.size, 0, none⟩ v) := by
  obtain ⟨_, _, hk, hsz⟩ := after_append hx hown hz hg
  have ea : addV l n = l ++ [n] := by unfold addV; rw [if_neg hn]
  have hb2 : Below w0.heap.size w0 w2 := (hb.alloc hb.size _).grown hg (by have := hb.size; simp; omega) (fun k hk => by have := (World.ownsRow.lt hown k hk).1; omega)
  refine ⟨hb2.setCell (Nat.le_refl _) _, by simp [World.setCell]; omega, ?_, ⟨v, ?_, ?_⟩, ?_, ?_⟩
  · rw [heap_setCell_other _ _ _ _ (by simp), hk _ (by omega), hs]
  · rw [heap_setCell_same _ _ _ _ _ _ ((hk _ (by omega)).trans hx)]
    rfl
  · exact ownsRow_setCell_below hown2 (by show w0.heap.size < w0.heap.size + 3; omega) _
  · rw [ea]
    refine ⟨hseen.1, World.ownsMap.setCell (h := ?_) (by simp) _⟩
    have h1 := hseen.2.alloc (.cells #[.int .i64 n] 3)
    exact h1.kept hg (fun e => by have := (World.ownsRow.lt hown _ e.symm).1; omega)
  · rw [ea]; simp; omega

set_option maxHeartbeats 1000000 in
theorem visit_at (w0 : World) (f : Nat) (l : List Int) (n : Int) (W : World) (hf : Fits n) (h : Kept w0 (f + 1) l W) :
    Calls Try.prog 91 #[.int .i64 n, .pointer (some ⟨w0.heap.size + 2, 0, none⟩), .pointer (some ⟨w0.heap.size, 0, none⟩)] W fun e W' => e = .returned (.bool true) ∧ Kept w0 f (addV l n) W' := by
  have c1 : W.cell? ⟨w0.heap.size + 2, 0, none⟩ = some (.map (some (w0.heap.size + 1))) := by rw [cell_of_row _ _ _ _ _ _ h.seenVar]; rfl
  obtain ⟨x, hx, hown⟩ := h.listVar
  obtain ⟨b, hb⟩ : ∃ b, decide (n ∈ l) = b := ⟨_, rfl⟩
  have HB := Lib.hid hb
  have hlen := h.len
  cases b
  · obtain ⟨i0, hi, hz0, hz1, hz2⟩ := info_parts int_info
    have c2 : W.cell? ⟨w0.heap.size, 0, none⟩ = some x := by rw [cell_of_row _ _ _ _ _ _ hx]; rfl
    have HX := Lib.hid hx
    have HO := Lib.hid hown
    have HH := Lib.hid h
    clear hx hown h hb
    go_enter Try.func91, Try.ntmps91
    go_wp2_with (first
      | (at_lookup; refine wpList_seen _ rfl _ _ rfl _ l rfl HH.out.seen n rfl hf false HB.out ?_)
      | (at_mapUpdate; refine wpList_see _ rfl _ _ _ rfl _ l rfl HH.out.seen (by omega) n rfl hf rfl ?_; intro w1 hseen1 hg1; have c3 := (after_map HH.out HX.out HO.out hg1); have HA := Lib.hid c3; have c4 : w1.cell? ⟨w0.heap.size, 0, none⟩ = some x := (by rw [cell_of_row _ _ _ _ _ _ c3.2.1]; rfl); clear c3 hg1)
      | (at_builtin; refine wpList_append_own _ rfl _ _ 43 rfl (w0.heap.size + 3) 3 i0 (.int .i64 0) 1 8 Try.underlying43 hi hz0 hz1 hz2 rfl (by decide) x l.length (icells l) rfl (HA.out.2.2.1.alloc _) ⟨w1.heap.size, 0, none⟩ 1 1 [.int .i64 n] rfl rfl (cell_one_new _ _ _) (icells_one [n]) (by unfold maxLen; omega) (by omega) (by have := HA.out.2.2.2.2; simp; omega) ?_; intro v' w2 hown2 hg2 _; have HP := Lib.hid (OwnI.put hown2 (by simpa using HB.out)); obtain ⟨c5, c6, _, _⟩ := after_append HA.out.2.1 HA.out.2.2.1 HA.out.2.2.2.2 hg2; have HG := Lib.hid hg2; obtain ⟨A', c', hv', _, _⟩ := HP.out.form; subst hv'; clear hown2 hg2))
    go_ret
    exact ⟨rfl, visit_end hlen (by simpa using HB.out) HA.out.1 HA.out.2.1 HA.out.2.2.1 HA.out.2.2.2.1 HA.out.2.2.2.2 hseen1 HG.out HP.out⟩
  · have HH := Lib.hid h
    clear hx hown h hb
    go_enter Try.func91, Try.ntmps91
    go_wp2_with (at_lookup; refine wpList_seen _ rfl _ _ rfl _ l rfl HH.out.seen n rfl hf true HB.out ?_)
    go_ret
    refine ⟨rfl, ?_⟩
    have hn : n ∈ l := by simpa using HB.out
    have e : addV l n = l := by unfold addV; rw [if_pos hn]
    rw [e]
    obtain ⟨q1, q2, q3, q4, q5, q6⟩ := HH.out
    exact ⟨q1, q2, q3, q4, q5, by omega⟩
end Go.Proofs.Ytgialbcohkpogaa
