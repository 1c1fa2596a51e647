/-
  A region that draws its order, in a round of a loop over a function. No program.
-/
import Derived.OrdersIn
import Derived.OrdersHeld
import Derived.RangeFuncCalls
import Derived.CallsIn
namespace Go.Proofs.YtelkmnjoboekmaaGreat

section
variable {P : Program} {l n : Nat} {ops : Array Oper} {md : Region.Mode} {Q : Exit → Act → World → Prop} {S : World → Prop}
theorem round_rows {row : String} {args : Array Value} {w : World} {R : Value → World → Prop} (h : Go.Rows P row args w R) : RowsIn (Fence.wide.inRound l) n P row args w R := fun c cs _ => by
  obtain ⟨v, w', r, s⟩ := h c cs
  exact ⟨v, w', r, stepsIn_wide.2 s⟩
theorem round_calls {f : FuncId} {args : Array Value} {w : World} {R : Ending → World → Prop} (h : Calls P f args w R) : CallsIn (Fence.wide.inRound l) n P f args w R := CallsIn.inRound l (callsIn_wide.2 h)
theorem round_op {o : Oper} {a : Act} {w : World} {K : Act → World → Prop} (hd : ∀ c, o.op ≠ .defer c) (h : o.wp P a w K Q) : o.wpIn (Fence.wide.inRound l) n P a w K Q := by
  refine ⟨fun f _ => trivial, ?_⟩
  rw [Oper.semAt_eq _ _ _ hd]
  unfold Oper.wp at h
  generalize (execOp a.eval o).run P w = r at *
  cases r with
  | ok x w' =>
    cases x with
    | value v => exact h
    | skip => exact h
    | defer d => exact h
    | enter f args => exact ⟨fun e => (by cases e), round_calls h⟩
    | row row args => exact ⟨fun e => (by cases e), round_rows h⟩
    | _ => exact h.elim
  | halt x w' => cases x <;> first | exact h | exact h.elim
theorem round_any (hd : ∀ (i : Nat) (o : Oper), ops[i]? = some o → ∀ c, o.op ≠ .defer c) (hq : ¬ LetsOut Q) : ∀ (fuel : Nat) (listed : Array Bool) (a : Act) (w : World), wpAny P md ops Q fuel listed a w → wpAnyIn (Fence.wide.inRound l) n P md ops Q fuel listed a w
  | 0, _, _, _, h => h
  | fuel + 1, _, a, _, h => ⟨h.1, fun i hi => by
      have h2 := h.2 i hi
      unfold wpOp at h2
      unfold wpOpIn
      cases ho : ops[i]? with
      | none =>
        rw [ho] at h2
        exact round_any hd hq fuel _ _ _ h2
      | some o =>
        rw [ho] at h2
        simp only at h2 ⊢
        by_cases hw : Region.wanted o (yielded ops a.tmps) = true
        · rw [if_pos hw] at h2 ⊢
          rcases h2 with h2 | h2
          · exact Oper.wpIn_mono (fun a' w' h' => round_any hd hq fuel _ a' w' h') (round_op (hd i o ho) h2)
          · exact absurd h2.2 hq
        · rw [if_neg hw] at h2 ⊢
          exact ⟨fun f _ => trivial, round_any hd hq fuel _ _ _ h2⟩⟩
/-- Only the ordinary way out. -/
def Only (Q : Exit → Act → World → Prop) (e : Exit) (a : Act) (w : World) : Prop := e = .normal ∧ Q e a w
theorem round_start {id : Nat} {a : Act} {w : World} (fuel : Nat) (hf : ops.size = fuel) (S : World → Prop) (hm : P.follows .mixedOrders = true) (hd : ∀ (i : Nat) (o : Oper), ops[i]? = some o → ∀ c, o.op ≠ .defer c)
    (h : wpAnyH P .any ops (Only Q) S fuel (Array.replicate fuel false) a w.drew) : (Code.region id ops true).wpIn (Fence.wide.inRound l) n P Q a w := by
  subst hf
  refine wpIn_mono (Q := Only Q) (wpIn_region_any hm (round_any hd ?_ _ _ _ _ (wpAny_of_held _ _ _ _ h))) ?_
  · rintro ⟨a, w, h, _⟩
    cases h
  · rintro e a w ⟨rfl, h⟩
    exact h
theorem round_take {i : Nat} {oi : Oper} {dst : Option Tmp} {v : Value} {fuel : Nat} {listed : Array Bool} {a : Act} {w : World} (hi : ops[i]? = some oi) (hdst : oi.dst = dst)
    (hs : Region.noSelect ops = true) (hf : Region.free md ops listed i = true) (hr : (Region.ready md ops listed).contains i = true) (hwt : Region.wanted oi (yielded ops a.tmps) = true)
    (hS : S w) (hy : ∀ w, S w → (execOp a.eval oi).run P w = .ok (.value v) w)
    (h : wpAnyH P md ops (Only Q) S fuel (listed.setIfInBounds i true) (a.put dst v) w) : wpAnyH P md ops (Only Q) S (fuel + 1) listed a w :=
  wpAnyH_take hi hs hf hr (fun _ _ _ h => by cases h.1) (.inl ⟨hwt, hy⟩) hS (hdst ▸ h)
theorem round_do {i : Nat} {oi : Oper} {dst : Option Tmp} {v : Value} {fuel : Nat} {listed : Array Bool} {a : Act} {w w2 : World} (hi : ops[i]? = some oi) (hdst : oi.dst = dst) (hwt : Region.wanted oi (yielded ops a.tmps) = true)
    (hy : (execOp a.eval oi).run P w = .ok (.value v) w2) (hS : S w2)
    (h : wpAnyH P md ops (Only Q) S fuel (listed.setIfInBounds i true) (a.put dst v) w2) : wpOp P ops (Only Q) i (fun a' w' => S w' ∧ wpAnyH P md ops (Only Q) S fuel (listed.setIfInBounds i true) a' w') a w := by
  unfold wpOp
  rw [hi]
  simp only
  rw [if_pos hwt]
  refine .inl ?_
  unfold Oper.wp
  rw [hy]
  exact ⟨hS, hdst ▸ h⟩
theorem round_skip {i : Nat} {oi : Oper} {fuel : Nat} {listed : Array Bool} {a : Act} {w w2 : World} (hi : ops[i]? = some oi) (hwt : Region.wanted oi (yielded ops a.tmps) = true)
    (hy : (execOp a.eval oi).run P w = .ok .skip w2) (hS : S w2)
    (h : wpAnyH P md ops (Only Q) S fuel (listed.setIfInBounds i true) (a.put oi.dst undef) w2) : wpOp P ops (Only Q) i (fun a' w' => S w' ∧ wpAnyH P md ops (Only Q) S fuel (listed.setIfInBounds i true) a' w') a w := by
  unfold wpOp
  rw [hi]
  simp only
  rw [if_pos hwt]
  refine .inl ?_
  unfold Oper.wp
  rw [hy]
  exact ⟨hS, h⟩
theorem round_one {i : Nat} {fuel : Nat} {listed : Array Bool} {a : Act} {w : World} (hr : Region.ready md ops listed = [i])
    (h : wpOp P ops (Only Q) i (fun a' w' => S w' ∧ wpAnyH P md ops (Only Q) S fuel (listed.setIfInBounds i true) a' w') a w) : wpAnyH P md ops (Only Q) S (fuel + 1) listed a w :=
  wpAnyH_all hr (by simp) fun j hj => by rw [List.mem_singleton.1 hj]; exact h
theorem round_two {i k : Nat} {fuel : Nat} {listed : Array Bool} {a : Act} {w : World} (hr : Region.ready md ops listed = [i, k])
    (h : wpOp P ops (Only Q) i (fun a' w' => S w' ∧ wpAnyH P md ops (Only Q) S fuel (listed.setIfInBounds i true) a' w') a w)
    (h' : wpOp P ops (Only Q) k (fun a' w' => S w' ∧ wpAnyH P md ops (Only Q) S fuel (listed.setIfInBounds k true) a' w') a w) : wpAnyH P md ops (Only Q) S (fuel + 1) listed a w :=
  wpAnyH_all hr (by simp) fun j hj => by
    rcases List.mem_cons.1 hj with rfl | hj
    · exact h
    · rw [List.mem_singleton.1 hj]; exact h'
def noDefer (o : Oper) : Bool := match o.op with
  | .defer _ => false
  | _ => true
theorem no_defer (h : ops.all noDefer = true) (i : Nat) (o : Oper) (ho : ops[i]? = some o) (c : Call) : o.op ≠ .defer c := by
  intro e
  have h2 := (Array.all_eq_true_iff_forall_mem.1 h) o (Array.mem_of_getElem? ho)
  unfold noDefer at h2
  rw [e] at h2
  cases h2
theorem round_end {fuel : Nat} {listed : Array Bool} {a : Act} {w : World} (hr : Region.ready md ops listed = []) (h : Q .normal a w) : wpAnyH P md ops (Only Q) S fuel listed a w := wpAnyH_done hr ⟨rfl, h⟩ _
theorem round_end2 {fuel : Nat} {listed : Array Bool} {a : Act} {w w2 : World} (hw : w2 = w) (hr : Region.ready md ops listed = []) (h : Q .normal a w2) : wpAnyH P md ops (Only Q) S fuel listed a w := by
  subst hw
  exact round_end hr h
/-- The same in a plain walk, one way after another: what is wanted. -/
theorem held_take {i : Nat} {oi : Oper} {dst : Option Tmp} {v : Value} {fuel : Nat} {listed : Array Bool} {a : Act} {w : World} (hi : ops[i]? = some oi) (hdst : oi.dst = dst)
    (hs : Region.noSelect ops = true) (hf : Region.free md ops listed i = true) (hr : (Region.ready md ops listed).contains i = true) (hwt : Region.wanted oi (yielded ops a.tmps) = true)
    (hS : S w) (hy : ∀ w, S w → (execOp a.eval oi).run P w = .ok (.value v) w)
    (h : wpAnyH P md ops (Only Q) S fuel (listed.setIfInBounds i true) (a.put dst v) w) : wpAnyH P md ops (Only Q) S (fuel + 1) listed a w := round_take hi hdst hs hf hr hwt hS hy h
/-- What its guard passes over. -/
theorem held_pass {i : Nat} {oi : Oper} {dst : Option Tmp} {fuel : Nat} {listed : Array Bool} {a : Act} {w : World} (hi : ops[i]? = some oi) (hdst : oi.dst = dst)
    (hs : Region.noSelect ops = true) (hf : Region.free md ops listed i = true) (hr : (Region.ready md ops listed).contains i = true) (hwt : Region.wanted oi (yielded ops a.tmps) = false)
    (hS : S w) (h : wpAnyH P md ops (Only Q) S fuel (listed.setIfInBounds i true) (a.put dst undef) w) : wpAnyH P md ops (Only Q) S (fuel + 1) listed a w :=
  wpAnyH_take hi hs hf hr (fun _ _ _ h => by cases h.1) (.inr ⟨hwt, rfl⟩) hS (hdst ▸ h)
/-- A call. -/
theorem held_call {i : Nat} {oi : Oper} {dst : Option Tmp} {f : FuncId} {args : Array Value} {fuel : Nat} {listed : Array Bool} {a : Act} {w w1 : World} {R : Ending → World → Prop} (hi : ops[i]? = some oi) (hdst : oi.dst = dst) (hwt : Region.wanted oi (yielded ops a.tmps) = true)
    (hy : (execOp a.eval oi).run P w = .ok (.enter f args) w1) (hc : Calls P f args w1 R) (hR : ∀ e w', R e w' → ∃ v, e = .returned v ∧ S w' ∧ wpAnyH P md ops (Only Q) S fuel (listed.setIfInBounds i true) (a.put dst v) w') :
    wpOp P ops (Only Q) i (fun a' w' => S w' ∧ wpAnyH P md ops (Only Q) S fuel (listed.setIfInBounds i true) a' w') a w := by
  unfold wpOp
  rw [hi]
  simp only
  rw [if_pos hwt]
  refine .inl ?_
  unfold Oper.wp
  rw [hy]
  refine Calls.mono hc fun e w' h => ?_
  obtain ⟨v, rfl, h1, h2⟩ := hR e w' h
  exact ⟨h1, hdst ▸ h2⟩
theorem held_start {id : Nat} {a : Act} {w : World} (fuel : Nat) (hf : ops.size = fuel) (S : World → Prop) (hm : P.follows .mixedOrders = true)
    (h : wpAnyH P .any ops (Only Q) S fuel (Array.replicate fuel false) a w.drew) : (Code.region id ops true).wp P Q a w := by
  subst hf
  refine wp_mono (Q := Only Q) (wp_region_held hm h) ?_
  rintro e a w ⟨rfl, h⟩
  exact h
end
end Go.Proofs.YtelkmnjoboekmaaGreat
