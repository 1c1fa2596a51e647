/-
  Contracts of Ground and Occurs of the program.
-/
import Derived.Test.YtgialbcohkpogaaTmEach
import Derived.Test.YtgialbcohkpogaaNmBytes
namespace Go.Proofs.Ytgialbcohkpogaa
open Go.RowKit

theorem enters_fn {f : FuncId} {fn : Func} {c : Code} (hf : Try.prog.funcs[f]? = some fn) (hname : (fn.name == "runtime.NumGoroutine") = false) (hb : fn.body = some c) (args : Array Value) (W : World) :
    (callFunc f args).run Try.prog W = .ok (.enter f args) W := by
  have h1 : fn.name ≠ "runtime.NumGoroutine" := by simpa using hname
  simp [callFunc, hf, h1, hb, mark]

def noStep (_ : Unit) (_ : Int) : Bool × Unit := (false, ())
theorem no_run (xs : List Int) : (runV noStep () xs).1 = decide (xs = []) := by
  cases xs with
  | nil => rfl
  | cons x r => simp [runV, noStep]

theorem other_at (n v : Int) (g : Nat) (w : World) (hc : w.cell? ⟨g, 0, none⟩ = some (.int .i64 v)) {r : Bool} (hr : (n != v) = r) :
    Calls Try.prog 36 #[.int .i64 n, .pointer (some ⟨g, 0, none⟩)] w fun e w' => e = .returned (.bool r) ∧ w = w' := by
  have HR := Lib.hid hr
  clear hr
  go_enter Try.func36, Try.ntmps36
  go_wp2
  go_ret
  exact ⟨by rw [← HR.out]; rfl, rfl⟩
def otherStep (v : Int) (_ : Unit) (n : Int) : Bool × Unit := (n != v, ())
theorem other_visits (w : World) (v : Int) (T : TypeId) : Visits (otherStep v) (fun _ _ W => Below (w.alloc (.cells #[.int .i64 v] T)).heap.size (w.alloc (.cells #[.int .i64 v] T)) W) w 36 #[.pointer (some ⟨w.heap.size, 0, none⟩)] where
  enter := enters_fn Try.func36 (by kernel_rfl) rfl
  call := fun _ _ n W _ h => (other_at n v w.heap.size W (by rw [h.cell (p := ⟨w.heap.size, 0, none⟩) (by simp), World.cell?_alloc_at _ _ _ _ rfl]; rfl) rfl).mono fun _ _ ⟨he, hw⟩ => ⟨he, by rw [← hw]; exact h⟩
  keep := fun _ _ _ _ h hb => h.trans (hb.mono h.size)
  less := fun _ _ _ _ _ h => h
  base := fun _ _ _ h => ((Below.refl _ _).alloc (Nat.le_refl _) _).trans (h.mono (by simp))
theorem other_run (v : Int) (xs : List Int) : (runV (otherStep v) () xs).1 = decide (v ∉ xs) := by
  induction xs with
  | nil => simp [runV]
  | cons x r ih =>
    by_cases h : x = v
    · subst h
      simp [runV, otherStep]
    · have h' : (otherStep v () x).1 = true := by simpa [otherStep] using h
      simp only [runV]
      rw [if_pos h']
      show (runV (otherStep v) () r).1 = _
      rw [ih, decide_eq_decide, List.mem_cons, not_or]
      exact ⟨fun e => ⟨fun q => h q.symm, e⟩, fun e => e.2⟩

theorem occurs_at (v : Int) (t : Tm) (w : World) (ht : t.At w) {r : Bool} (hr : decide (v ∈ t.occ) = r) :
    Calls Try.prog 14 #[.int .i64 v, t.val] w fun e w' => e = .returned (.bool r) ∧ Below w.heap.size w w' := by
  have hmf : ∀ (fn : Fn) (first cap : Array Value) (w : World), (Instr.makeFunc fn first cap).run Try.prog w = .ok (.func fn first cap) w := fun _ _ _ _ => rfl
  have Q := Lib.hid (fun W h => each_at (other_visits w v 3) t ht 0 () W h)
  rw [other_run] at Q
  have HR := Lib.hid (show (!decide (v ∉ t.occ)) = r by rw [← hr]; simp)
  generalize decide (v ∉ t.occ) = b at *
  obtain ⟨k, n, s, A, c, a⟩ := t
  show Calls Try.prog 14 #[.int .i64 v, .agg #[.int .i64 k, .int .i64 n, .string s, .slice A a.length c]] w _
  clear ht hr
  go_enter Try.func14, Try.ntmps14
  go_wp2_with fail
  refine (Q.out _ ((Below.refl _ _).alloc (Nat.le_refl _) _)).mono ?_
  rintro e w1 ⟨rfl, hb⟩
  go_wp2_with fail
  go_ret
  exact ⟨by rw [← HR.out]; rfl, ((Below.refl _ _).alloc (Nat.le_refl _) _).trans (hb.mono (by simp))⟩
end Go.Proofs.Ytgialbcohkpogaa
