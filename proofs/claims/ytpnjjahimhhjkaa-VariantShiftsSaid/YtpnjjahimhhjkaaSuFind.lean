/-
  Contracts of compareVars, the comparison of find, slices.BinarySearchFunc and find of the program: a binary search in a list of bindings in ascending order.
-/
import Derived.Test.YtpnjjahimhhjkaaSuMem
import Derived.Test.YtpnjjahimhhjkaaTmCmp
namespace Go.Proofs.Ytpnjjahimhhjkaa
open Go.RowKit

/-- The box of a binding. -/
abbrev boxB (x : Bd) : Obj := .cells #[.int .i64 x.var, .int .i64 x.tm.kind, .int .i64 x.tm.num, .string x.tm.name, .slice x.tm.at_ x.tm.args.length x.tm.cap] 50

theorem compare_vars_at (x y : Bd) (w : World) : Calls Try.prog 79 #[x.val, y.val] w fun e w' => e = .returned (.int .i64 (ints x.var y.var)) ∧ w' = (w.alloc (boxB x)).alloc (boxB y) := by
  obtain ⟨v, k, n, s, A, c, a⟩ := x
  obtain ⟨v', k', n', s', A', c', a'⟩ := y
  show Calls Try.prog 79 #[.agg #[.int .i64 v, .int .i64 k, .int .i64 n, .string s, .slice A a.length c], .agg #[.int .i64 v', .int .i64 k', .int .i64 n', .string s', .slice A' a'.length c']] w _
  have q := Lib.hid (fun W => cmp_int_at v v' W rfl)
  generalize ints v v' = r at *
  go_enter Try.func79, Try.ntmps79
  go_wp2_with fail
  refine (q.out _).mono ?_
  rintro e w' ⟨rfl, rfl⟩
  go_wp2_with fail
  go_ret
  exact ⟨rfl, rfl⟩

theorem find_cmp_at (x : Bd) (v : Int) (w : World) : Calls Try.prog 95 #[x.val, .int .i64 v] w fun e w' => e = .returned (.int .i64 (ints x.var v)) ∧ w' = w.alloc (boxB x) := by
  obtain ⟨v', k', n', s', A', c', a'⟩ := x
  show Calls Try.prog 95 #[.agg #[.int .i64 v', .int .i64 k', .int .i64 n', .string s', .slice A' a'.length c'], .int .i64 v] w _
  have q := Lib.hid (fun W => cmp_int_at v' v W rfl)
  generalize ints v' v = r at *
  go_enter Try.func95, Try.ntmps95
  go_wp2_with fail
  refine (q.out _).mono ?_
  rintro e w' ⟨rfl, rfl⟩
  go_wp2_with fail
  go_ret
  exact ⟨rfl, rfl⟩

/-- In ascending order, with repeats. -/
def Srt (l : List Bd) : Prop := ∀ i j, i ≤ j → j < l.length → (l.getD i default).var ≤ (l.getD j default).var
def Bound (l : List Bd) (v : Int) (i : Nat) : Prop := (∀ k, k < i → (l.getD k default).var < v) ∧ (∀ k, i ≤ k → k < l.length → v ≤ (l.getD k default).var)
theorem Asc.srt {l : List Bd} (h : Asc l) : Srt l := fun i j hij hj => by
  rcases Nat.lt_or_ge i j with h1 | h1
  · have := List.pairwise_iff_getElem.1 h i j (by omega) hj h1
    simp only [List.getD, List.getElem?_eq_getElem hj, List.getElem?_eq_getElem (show i < l.length by omega), Option.getD_some]
    omega
  · obtain rfl : i = j := by omega
    exact Int.le_refl _
theorem look_at {l : List Bd} {v : Int} {i : Nat} (h : ∀ k, k < i → (l.getD k default).var ≠ v) (hi : i < l.length) (e : (l.getD i default).var = v) : look l v = some (l.getD i default).tm := by
  induction l generalizing i with
  | nil => simp at hi
  | cons x r ih =>
    simp only [look]
    cases i with
    | zero => rw [if_pos (by simpa using e)]; rfl
    | succ i =>
      rw [if_neg (by simpa using h 0 (by omega))]
      simpa using ih (fun k hk => by simpa using h (k + 1) (by omega)) (by simpa using hi) (by simpa using e)
theorem look_bound {l : List Bd} {v : Int} {i : Nat} (hs : Srt l) (h : Bound l v i) (hi : i ≤ l.length) : look l v = if i < l.length ∧ (l.getD i default).var = v then some (l.getD i default).tm else none := by
  split
  · rename_i h'
    exact look_at (fun k hk => by have := h.1 k hk; omega) h'.1 h'.2
  · rename_i h'
    rw [look_none]
    intro x hx e
    obtain ⟨k, hk, ek⟩ := List.mem_iff_getElem.1 hx
    have eg : l.getD k default = x := by simp [List.getD, List.getElem?_eq_getElem hk, ek]
    rcases Nat.lt_or_ge k i with h1 | h1
    · have := h.1 k h1; rw [eg] at this; omega
    · have h2 := hs i k h1 hk
      have h3 := h.2 i (Nat.le_refl _) (by omega)
      rw [eg] at h2
      exact h' ⟨by omega, by omega⟩

/-- Where the search ends. -/
def Ended (l : List Bd) (v : Int) (w : World) (e : Ending) (w' : World) : Prop :=
  ∃ i : Nat, i ≤ l.length ∧ Bound l v i ∧ (∃ r : Bool, (r = true ↔ i < l.length ∧ (l.getD i default).var = v) ∧ e = .returned (.tuple #[.int .i64 i, .bool r])) ∧ Below w.heap.size w w'

set_option maxHeartbeats 2000000 in
theorem search_at (l : List Bd) (A : Option Addr) (c : Nat) (v : Int) (w : World) (hl : BLst w A l c) (hlen : l.length ≤ 1000000) (hs : Srt l) :
    Calls Try.prog 94 #[.slice A l.length c, .int .i64 v, .func (.func 95) #[] #[]] w (Ended l v w) := by
  have HS := Lib.hid hs
  have HL := Lib.hid hl
  clear hl hs
  go_enter Try.func94, Try.ntmps94
  go_wp2_with fail
  go_loopw [9, 10] (fun s9 s10 wr => ∃ lo hi : Nat, s9 = .int .i64 lo ∧ s10 = .int .i64 hi ∧ lo ≤ hi ∧ hi ≤ l.length ∧ Hid ((∀ k, k < lo → (l.getD k default).var < v) ∧ (∀ k, hi ≤ k → k < l.length → v ≤ (l.getD k default).var)) ∧ Below w.heap.size w wr) (fun s9 s10 _ => (intOf s10).toNat - (intOf s9).toNat)
  case atStart => exact ⟨0, l.length, rfl, rfl, Nat.zero_le _, Nat.le_refl _, Lib.hid ⟨fun k hk => absurd hk (Nat.not_lt_zero _), fun k h1 h2 => by omega⟩, Below.refl _ _⟩
  case round =>
    obtain ⟨lo, hi, rfl, rfl, hlh, hin, HI, hbw⟩ := hrel
    by_cases hlt : lo < hi
    · obtain ⟨b, o, rfl, ⟨c0, c1, c2, c3, c4⟩, _⟩ := (HL.out.below hbw).get (i := (lo + hi) / 2) (by omega)
      obtain ⟨x, hx⟩ : ∃ x, l.getD ((lo + hi) / 2) default = x := ⟨_, rfl⟩
      rw [hx] at c0 c1 c2 c3 c4
      have HX := Lib.hid hx
      have Q := Lib.hid (fun W => find_cmp_at x v W)
      clear hx
      by_cases hxv : x.var < v
      · rw [ints_lt hxv] at Q
        have H2 := Lib.hid (show (∀ k, k < (lo + hi) / 2 + 1 → (l.getD k default).var < v) ∧ (∀ k, hi ≤ k → k < l.length → v ≤ (l.getD k default).var) from ⟨fun k hk => by
          have := HS.out k ((lo + hi) / 2) (by omega) (by omega)
          rw [HX.out] at this
          omega, HI.out.2⟩)
        obtain ⟨v', k', n', s', A', c', a'⟩ := x
        simp only [Tm.kind, Tm.num, Tm.name, Tm.at_, Tm.args, Tm.cap] at c0 c1 c2 c3 c4
        clear hxv
        go_wp2_with fail
        refine (Q.out _).mono ?_
        rintro e w2 ⟨rfl, rfl⟩
        go_wp2_with fail
        go_roundw
        case rel => exact ⟨(lo + hi) / 2 + 1, hi, by rw [show ((lo : Int) + (hi : Int)) / 2 + 1 = (((lo + hi) / 2 + 1 : Nat) : Int) by omega], rfl, by omega, hin, H2, hbw.alloc hbw.size _⟩
        case measure => simp [intOf]; omega
      · have hz : 0 ≤ ints x.var v := by unfold ints; rw [if_neg hxv]; split <;> omega
        have H2 := Lib.hid (show (∀ k, k < lo → (l.getD k default).var < v) ∧ (∀ k, (lo + hi) / 2 ≤ k → k < l.length → v ≤ (l.getD k default).var) from ⟨HI.out.1, fun k h1 h2 => by
          have := HS.out ((lo + hi) / 2) k h1 h2
          rw [HX.out] at this
          omega⟩)
        generalize ints x.var v = r at *
        obtain ⟨v', k', n', s', A', c', a'⟩ := x
        simp only [Tm.kind, Tm.num, Tm.name, Tm.at_, Tm.args, Tm.cap] at c0 c1 c2 c3 c4
        clear hxv
        have hz' : ¬ r < 0 := by omega
        go_wp2_with fail
        refine (Q.out _).mono ?_
        rintro e w2 ⟨rfl, rfl⟩
        go_wp2_with fail
        go_roundw
        case rel => exact ⟨lo, (lo + hi) / 2, rfl, by rw [show ((lo : Int) + (hi : Int)) / 2 = (((lo + hi) / 2 : Nat) : Int) by omega], by omega, by omega, H2, hbw.alloc hbw.size _⟩
        case measure => simp [intOf]; omega
    · obtain rfl : hi = lo := by omega
      by_cases hn : hi < l.length
      · obtain ⟨b, o, rfl, ⟨c0, c1, c2, c3, c4⟩, _⟩ := (HL.out.below hbw).get hn
        obtain ⟨x, hx⟩ : ∃ x, l.getD hi default = x := ⟨_, rfl⟩
        rw [hx] at c0 c1 c2 c3 c4
        have HX := Lib.hid hx
        have Q := Lib.hid (fun W => find_cmp_at x v W)
        have HR := Lib.hid (show (ints x.var v == 0) = true ↔ hi < l.length ∧ (l.getD hi default).var = v by
          rw [hx, beq_iff_eq]
          unfold ints
          constructor
          · intro h
            refine ⟨hn, ?_⟩
            split at h
            · omega
            · split at h <;> omega
          · rintro ⟨_, h⟩
            rw [if_neg (by omega), if_neg (by omega)])
        clear hx
        generalize ints x.var v = r at *
        obtain ⟨v', k', n', s', A', c', a'⟩ := x
        simp only [Tm.kind, Tm.num, Tm.name, Tm.at_, Tm.args, Tm.cap] at c0 c1 c2 c3 c4
        go_wp2_with fail
        refine (Q.out _).mono ?_
        rintro e w2 ⟨rfl, rfl⟩
        go_wp2_with fail
        go_ret2
        exact ⟨hi, hin, HI.out, ⟨_, HR.out, rfl⟩, hbw.alloc hbw.size _⟩
      · have hn' : decide ((hi : Int) < (l.length : Int)) = false := decide_eq_false (by omega)
        go_wp2_with fail
        go_ret2
        exact ⟨hi, hin, HI.out, ⟨false, ⟨fun h => (by cases h), fun h => absurd h.1 hn⟩, rfl⟩, hbw⟩
end Go.Proofs.Ytpnjjahimhhjkaa
