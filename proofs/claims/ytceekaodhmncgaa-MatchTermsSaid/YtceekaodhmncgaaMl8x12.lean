/-
  Arguments opened: lists of bindings, lists of ints.
  GreatGoals of a slice of one.
  GreatAtoms and GreatGoals of the reference at the bounds of these statements.
  Contracts of instances, Instance, InstanceAtom, InstanceGoal of the reference.
  Contracts of Great, Restrict and Same of the reference.
  How many nodes terms have; what a bound on the weight of a list of bindings says.
  A region that draws its order, in a round of a loop over a function. No program.
-/
import Derived.Test.YtceekaodhmncgaaMl8x2
import Derived.Test.YtceekaodhmncgaaMl8x3
import Derived.Test.YtceekaodhmncgaaMl8x6
import Derived.Test.YtceekaodhmncgaaMl8x9
import Derived.Test.YtceekaodhmncgaaMl8x10
import Derived.Test.YtceekaodhmncgaaMl8x11
import Derived.Test.YtceekaodhmncgaaMl8x4
import Derived.Test.YtceekaodhmncgaaMl8x7
import Derived.OrdersIn
import Derived.OrdersHeld
import Derived.RangeFuncCalls
import Derived.CallsIn
namespace Go.Proofs.Ytceekaodhmncgaa
open Go.ChangeShapes Go.WideShapes Go.ChangeAt Go.RowKit
section
variable {H : Type} {enc : TypeId × Value → H} {W : World} {base : Nat} {spare : Nat → Bool} {held : Bool}
set_option maxRecDepth 100000 in
theorem open_bds {r : Reach} {b0 : Nat} {v : Value} {d : DataW H} {p : List MemPlace} (hv : Value.okWide Try.prog W r b0 22 v) (h : DataW.Trod enc Try.prog W base spare held 22 v d p) :
    ∃ (A : Option Addr) (l : List Bd) (c : Nat), v = .slice A l.length c ∧ BLst W A l c := by
  obtain ⟨a, len, cap, rfl⟩ := okWide_slice typesB.lst hv
  obtain ⟨fuel, hf⟩ := h
  exact bds_of typesB hf
set_option maxRecDepth 100000 in
theorem open_nums {r : Reach} {b0 : Nat} {v : Value} {d : DataW H} {p : List MemPlace} (hv : Value.okWide Try.prog W r b0 71 v) (h : DataW.Trod enc Try.prog W base spare held 71 v d p) :
    ∃ (A : Option Addr) (l : List Int) (c : Nat), v = .slice A l.length c ∧ Ints W A l ∧ (∀ n ∈ l, Fits n) ∧ l.length ≤ 9223372036854775807 := by
  obtain ⟨a0, len0, cap0, rfl⟩ := okWide_slice Try.underlying71 hv
  obtain ⟨fuel, hf⟩ := h
  rcases DataW.trod_slice Try.underlying71 hf with ⟨hcs, _⟩ | ⟨a, len, cap, elems, rest, n', hn, hcs, _, _, hl, hm, hlen, hel, _⟩
  · have e : Value.slice a0 len0 cap0 = .slice none 0 0 := (List.cons.inj (show [Value.slice a0 len0 cap0] = [.slice none 0 0] from hcs)).1
    exact ⟨none, [], 0, e, fun h => absurd h (by simp), by simp, by simp⟩
  · have e : Value.slice a0 len0 cap0 = .slice (some a) len cap := (List.cons.inj (show [Value.slice a0 len0 cap0] = [.slice (some a) len cap] from hcs)).1
    have hc : Try.prog.cellsOf 3 = 1 := by kernel_rfl
    obtain ⟨f, hf⟩ := Deep.choose_lt (α := Int) (p := fun i y => W.cell? (a.add i) = some (.int .i64 y) ∧ Fits y) (n := len) (fun i hi => by
      have h1 := hel i hi
      rw [hc, List.getElem?_eq_getElem (by omega)] at h1
      obtain ⟨cs', h2, h3⟩ := Option.bind_eq_some_iff.1 h1
      obtain ⟨y, hy, _, wy⟩ := DataW.trod_int Try.underlying3 h3
      subst hy
      have := (World.cells?_some h2).2.2 0 (by omega)
      refine ⟨y, ?_, int_fits wy⟩
      rw [Nat.mul_one] at this
      unfold Addr.add at this ⊢
      split at this <;> simp_all)
    have hll : ((List.range len).map f).length = len := by simp
    refine ⟨some a, (List.range len).map f, cap, by rw [hll]; exact e, fun h0 => ?_, fun n hn => ?_, by rw [hll]; unfold maxLen at hm; omega⟩
    · rw [hll] at h0
      obtain ⟨b, o, sp⟩ := a
      have c0 := (hf 0 h0).1
      obtain rfl : sp = none := by simpa [Addr.add] using World.cell?_spot c0
      refine ⟨b, o, rfl, fun i hi => ?_⟩
      rw [hll] at hi
      have e : ((List.range len).map f).getD i 0 = f i := by simp [List.getD, hi]
      rw [e]
      have := (hf i hi).1
      rwa [add_plain] at this
    · obtain ⟨i, hi, rfl⟩ := List.mem_map.1 hn
      exact (hf i (by simpa using hi)).2
end
end Go.Proofs.Ytceekaodhmncgaa
namespace Go.Proofs.Ytceekaodhmncgaa
open Go.RowKit

theorem weighN_bound {s : ByteArray} {l : List Tm} {m : Int} (h : decide (weighN s l m < 0) = false) : (nodesL l : Int) ≤ m := weighN_size (Int.not_lt.1 (by simpa using h))

set_option maxHeartbeats 1000000 in
theorem great_goals_one (t : Gl) (W : World) (b : Nat) (hb : b = W.heap.size) (ht : t.At W) {r : Bool} (hr : decide (weighN t.name t.args 300 < 0) = r) :
    Calls Try.prog 18 #[.slice (some ⟨b, 0, none⟩) 1 1, .int .i64 300] (W.alloc (.cells #[.int .i64 t.op, .string t.name, .slice t.at_ t.args.length t.cap] 42)) fun e w' => e = .returned (.bool r) ∧ ∃ n, w' = (W.alloc (.cells #[.int .i64 t.op, .string t.name, .slice t.at_ t.args.length t.cap] 42)).drewN n := by
  subst hb
  have h1 := ht.2.2
  have y1 := ht.2.1
  obtain ⟨o1, s1, A1, c1, l1⟩ := t
  simp only at h1 y1 hr
  have z1 : s1.size ≤ 9223372036854775807 := by unfold maxLen at y1; exact y1
  have m1 := weighN_hi s1 l1 300
  have HR := Lib.hid hr
  have Q1 := Lib.hid (fun W' (h : Below W.heap.size W W') => weigh64 l1 A1 c1 (300 - 1 - (s1.size : Int) / 8) W' (h1.below h) (by omega) (by omega))
  have w1 := Lib.hid (show weighN s1 l1 300 = weigh l1 (300 - 1 - (s1.size : Int) / 8) 64 by unfold weighN; rw [if_neg (by omega)])
  have k0 : (W.alloc (.cells #[.int .i64 o1, .string s1, .slice A1 l1.length c1] 42)).cell? ⟨W.heap.size, 0, none⟩ = some (.int .i64 o1) := by rw [World.cell?_alloc_at _ _ _ _ rfl]; rfl
  have k1 : (W.alloc (.cells #[.int .i64 o1, .string s1, .slice A1 l1.length c1] 42)).cell? ⟨W.heap.size, 1, none⟩ = some (.string s1) := by rw [World.cell?_alloc_at _ _ _ _ rfl]; rfl
  have k2 : (W.alloc (.cells #[.int .i64 o1, .string s1, .slice A1 l1.length c1] 42)).cell? ⟨W.heap.size, 2, none⟩ = some (.slice A1 l1.length c1) := by rw [World.cell?_alloc_at _ _ _ _ rfl]; rfl
  obtain ⟨X, hX⟩ : ∃ X, (W.alloc (.cells #[.int .i64 o1, .string s1, .slice A1 l1.length c1] 42)) = X := ⟨_, rfl⟩
  have hWX : Below W.heap.size W X := by rw [← hX]; exact below1 _ _
  show Calls _ _ #[.slice (some ⟨W.heap.size, 0, none⟩) 1 1, .int .i64 300] (W.alloc (.cells #[.int .i64 o1, .string s1, .slice A1 l1.length c1] 42)) fun e w' => e = .returned (.bool r) ∧ ∃ n, w' = (W.alloc (.cells #[.int .i64 o1, .string s1, .slice A1 l1.length c1] 42)).drewN n
  rw [hX]
  rw [hX] at k0
  rw [hX] at k1
  rw [hX] at k2
  generalize weighN s1 l1 300 = v1 at *
  clear hX hr y1 h1 ht
  go_enter Try.func18, Try.ntmps18
  go_wp2_with fail
  go_loopw [1, 5] (fun z i wr => ((i = .int .i64 0 ∧ z = .int .i64 300) ∨ (i = .int .i64 1 ∧ z = .int .i64 v1)) ∧ Hid (∃ n, wr = X.drewN n)) (fun _ i _ => 1 - (intOf i).toNat)
  case atStart => exact ⟨.inl ⟨rfl, rfl⟩, Lib.hid ⟨0, rfl⟩⟩
  case round =>
    obtain ⟨hc, hn⟩ := hrel
    have hxr : Below X.heap.size X wr := by obtain ⟨n, rfl⟩ := hn.out; exact below_drewN (Below.refl _ _) n
    have hb := hWX.trans (hxr.mono hWX.size)
    replace k0 := (hxr.cell (block_lt_of_cell k0)).trans k0
    replace k1 := (hxr.cell (block_lt_of_cell k1)).trans k1
    replace k2 := (hxr.cell (block_lt_of_cell k2)).trans k2
    rcases hc with ⟨rfl, rfl⟩ | ⟨rfl, rfl⟩
    · have P1 := Lib.hid (fun n => Q1.out (wr.drewN n) (below_drewN hb n))
      rw [← w1.out] at P1
      clear Q1 w1
      go_wp2_with fail
      go_quiet ((go_at_call 31; exact Calls.quiet_of (P1.out _)))
      go_wp2_with fail
      go_roundw
      case rel => exact ⟨.inr ⟨rfl, rfl⟩, by obtain ⟨n, hn⟩ := hn.out; exact Lib.hid ⟨n + nq, by rw [hn, World.drewN_drewN]⟩⟩
      case measure => simp [intOf]
    · clear Q1 w1
      go_wp2_with fail
      go_ret
      exact ⟨by rw [← HR.out]; rfl, hn.out⟩
end Go.Proofs.Ytceekaodhmncgaa
namespace Go.Proofs.Ytceekaodhmncgaa
open Go.ChangeShapes Go.WideShapes Go.ChangeAt Go.RowKit
set_option linter.unusedVariables false

set_option maxHeartbeats 1000000 in
theorem great_atoms_150 (t u : Am) (W : World) (b : Nat) (hb : b = W.heap.size) (ht : t.At W) (hu : u.At W) {r : Bool} (hr : decide (weighN u.name u.args (weighN t.name t.args 150) < 0) = r) :
    Calls Try.prog 15 #[.slice (some ⟨b, 0, none⟩) 2 2, .int .i64 150] (W.alloc (.cells #[.string t.name, .slice t.at_ t.args.length t.cap, .string u.name, .slice u.at_ u.args.length u.cap] 36)) fun e w' => e = .returned (.bool r) ∧ Below W.heap.size W w' := by
  subst hb
  have h1 := ht.2
  have h2 := hu.2
  have y1 := ht.1
  have y2 := hu.1
  obtain ⟨s1, A1, c1, l1⟩ := t
  obtain ⟨s2, A2, c2, l2⟩ := u
  simp only at h1 h2 y1 y2 hr
  have z1 : s1.size ≤ 9223372036854775807 := by unfold maxLen at y1; exact y1
  have z2 : s2.size ≤ 9223372036854775807 := by unfold maxLen at y2; exact y2
  have m1 := weighN_hi s1 l1 150
  have m2 := weighN_hi s2 l2 (weighN s1 l1 150)
  have HR := Lib.hid hr
  have Q1 := Lib.hid (fun W' (h : Below W.heap.size W W') => weigh64 l1 A1 c1 (150 - 1 - (s1.size : Int) / 8) W' (h1.below h) (by omega) (by omega))
  have Q2 := Lib.hid (fun W' (m : Int) (h : Below W.heap.size W W') (g : 0 ≤ m) (g' : m ≤ 150) => weigh64 l2 A2 c2 (m - 1 - (s2.size : Int) / 8) W' (h2.below h) (by omega) (by omega))
  have w1 := Lib.hid (show weighN s1 l1 150 = weigh l1 (150 - 1 - (s1.size : Int) / 8) 64 by unfold weighN; rw [if_neg (by omega)])
  have w2 := Lib.hid (fun (h : 0 ≤ weighN s1 l1 150) => (show weighN s2 l2 (weighN s1 l1 150) = weigh l2 (weighN s1 l1 150 - 1 - (s2.size : Int) / 8) 64 by unfold weighN; rw [if_neg (by unfold weighN at h; omega)]))
  have w3 := Lib.hid (fun (h : weighN s1 l1 150 < 0) => (show weighN s2 l2 (weighN s1 l1 150) = weighN s1 l1 150 by rw [show weighN s2 l2 (weighN s1 l1 150) = if weighN s1 l1 150 < 0 then weighN s1 l1 150 else weigh l2 (weighN s1 l1 150 - 1 - (s2.size : Int) / 8) 64 from rfl, if_pos h]))
  have k0 : (W.alloc (.cells #[.string s1, .slice A1 l1.length c1, .string s2, .slice A2 l2.length c2] 36)).cell? ⟨W.heap.size, 0, none⟩ = some (.string s1) := by rw [World.cell?_alloc_at _ _ _ _ rfl]; rfl
  have k1 : (W.alloc (.cells #[.string s1, .slice A1 l1.length c1, .string s2, .slice A2 l2.length c2] 36)).cell? ⟨W.heap.size, 1, none⟩ = some (.slice A1 l1.length c1) := by rw [World.cell?_alloc_at _ _ _ _ rfl]; rfl
  have k2 : (W.alloc (.cells #[.string s1, .slice A1 l1.length c1, .string s2, .slice A2 l2.length c2] 36)).cell? ⟨W.heap.size, 2, none⟩ = some (.string s2) := by rw [World.cell?_alloc_at _ _ _ _ rfl]; rfl
  have k3 : (W.alloc (.cells #[.string s1, .slice A1 l1.length c1, .string s2, .slice A2 l2.length c2] 36)).cell? ⟨W.heap.size, 3, none⟩ = some (.slice A2 l2.length c2) := by rw [World.cell?_alloc_at _ _ _ _ rfl]; rfl
  obtain ⟨X, hX⟩ : ∃ X, (W.alloc (.cells #[.string s1, .slice A1 l1.length c1, .string s2, .slice A2 l2.length c2] 36)) = X := ⟨_, rfl⟩
  have hWX : Below W.heap.size W X := by rw [← hX]; exact below1 _ _
  show Calls _ _ #[.slice (some ⟨W.heap.size, 0, none⟩) 2 2, .int .i64 150] (W.alloc (.cells #[.string s1, .slice A1 l1.length c1, .string s2, .slice A2 l2.length c2] 36)) _
  rw [hX]
  rw [hX] at k0
  rw [hX] at k1
  rw [hX] at k2
  rw [hX] at k3
  generalize weighN s2 l2 (weighN s1 l1 150) = v2 at *
  generalize weighN s1 l1 150 = v1 at *
  clear hX hr y1 y2 h1 h2 ht hu
  go_enter Try.func15, Try.ntmps15
  go_wp2_with fail
  go_loopw [1, 5] (fun z i wr => ((i = .int .i64 0 ∧ z = .int .i64 150) ∨ (i = .int .i64 1 ∧ z = .int .i64 v1) ∨ (i = .int .i64 2 ∧ z = .int .i64 v2)) ∧ Hid (∃ n, wr = X.drewN n)) (fun _ i _ => 2 - (intOf i).toNat)
  case atStart => exact ⟨.inl ⟨rfl, rfl⟩, Lib.hid ⟨0, rfl⟩⟩
  case round =>
    obtain ⟨hc, hn⟩ := hrel
    have hxr : Below X.heap.size X wr := by obtain ⟨n, rfl⟩ := hn.out; exact below_drewN (Below.refl _ _) n
    have hb := hWX.trans (hxr.mono hWX.size)
    replace k0 := (hxr.cell (block_lt_of_cell k0)).trans k0
    replace k1 := (hxr.cell (block_lt_of_cell k1)).trans k1
    replace k2 := (hxr.cell (block_lt_of_cell k2)).trans k2
    replace k3 := (hxr.cell (block_lt_of_cell k3)).trans k3
    rcases hc with ⟨rfl, rfl⟩ | ⟨rfl, rfl⟩ | ⟨rfl, rfl⟩
    · have P1 := Lib.hid (fun n => Q1.out (wr.drewN n) (below_drewN hb n))
      rw [← w1.out] at P1
      clear Q1 Q2 w1 w2 w3
      go_wp2_with fail
      go_quiet ((go_at_call 31; exact Calls.quiet_of (P1.out _)))
      go_wp2_with fail
      go_roundw
      case rel => exact ⟨.inr (.inl ⟨rfl, rfl⟩), by obtain ⟨n, hn⟩ := hn.out; exact Lib.hid ⟨n + nq, by rw [hn, World.drewN_drewN]⟩⟩
      case measure => simp [intOf]
    · by_cases g : 0 ≤ v1
      · have P1 := Lib.hid (fun n => Q2.out (wr.drewN n) v1 (below_drewN hb n) g (by omega))
        rw [← w2.out g] at P1
        clear Q1 Q2 w1 w2 w3
        go_wp2_with fail
        go_quiet ((go_at_call 31; exact Calls.quiet_of (P1.out _)))
        go_wp2_with fail
        go_roundw
        case rel => exact ⟨.inr (.inr ⟨rfl, rfl⟩), by obtain ⟨n, hn⟩ := hn.out; exact Lib.hid ⟨n + nq, by rw [hn, World.drewN_drewN]⟩⟩
        case measure => simp [intOf]
      · have g' : v1 < 0 := by omega
        obtain rfl := w3.out g'
        clear Q1 Q2 w1 w2 w3
        go_wp2_with fail
        go_ret
        exact ⟨by rw [← HR.out, decide_eq_true g']; rfl, hb⟩
    · clear Q1 Q2 w1 w2 w3
      go_wp2_with fail
      go_ret
      exact ⟨by rw [← HR.out]; rfl, hb⟩

set_option maxHeartbeats 1000000 in
theorem great_goals_100 (t : Gl) (W : World) (b : Nat) (hb : b = W.heap.size) (ht : t.At W) {r : Bool} (hr : decide (weighN t.name t.args 100 < 0) = r) :
    Calls Try.prog 18 #[.slice (some ⟨b, 0, none⟩) 1 1, .int .i64 100] (W.alloc (.cells #[.int .i64 t.op, .string t.name, .slice t.at_ t.args.length t.cap] 42)) fun e w' => e = .returned (.bool r) ∧ ∃ n, w' = (W.alloc (.cells #[.int .i64 t.op, .string t.name, .slice t.at_ t.args.length t.cap] 42)).drewN n := by
  subst hb
  have h1 := ht.2.2
  have y1 := ht.2.1
  obtain ⟨o1, s1, A1, c1, l1⟩ := t
  simp only at h1 y1 hr
  have z1 : s1.size ≤ 9223372036854775807 := by unfold maxLen at y1; exact y1
  have m1 := weighN_hi s1 l1 100
  have HR := Lib.hid hr
  have Q1 := Lib.hid (fun W' (h : Below W.heap.size W W') => weigh64 l1 A1 c1 (100 - 1 - (s1.size : Int) / 8) W' (h1.below h) (by omega) (by omega))
  have w1 := Lib.hid (show weighN s1 l1 100 = weigh l1 (100 - 1 - (s1.size : Int) / 8) 64 by unfold weighN; rw [if_neg (by omega)])
  have k0 : (W.alloc (.cells #[.int .i64 o1, .string s1, .slice A1 l1.length c1] 42)).cell? ⟨W.heap.size, 0, none⟩ = some (.int .i64 o1) := by rw [World.cell?_alloc_at _ _ _ _ rfl]; rfl
  have k1 : (W.alloc (.cells #[.int .i64 o1, .string s1, .slice A1 l1.length c1] 42)).cell? ⟨W.heap.size, 1, none⟩ = some (.string s1) := by rw [World.cell?_alloc_at _ _ _ _ rfl]; rfl
  have k2 : (W.alloc (.cells #[.int .i64 o1, .string s1, .slice A1 l1.length c1] 42)).cell? ⟨W.heap.size, 2, none⟩ = some (.slice A1 l1.length c1) := by rw [World.cell?_alloc_at _ _ _ _ rfl]; rfl
  obtain ⟨X, hX⟩ : ∃ X, (W.alloc (.cells #[.int .i64 o1, .string s1, .slice A1 l1.length c1] 42)) = X := ⟨_, rfl⟩
  have hWX : Below W.heap.size W X := by rw [← hX]; exact below1 _ _
  show Calls _ _ #[.slice (some ⟨W.heap.size, 0, none⟩) 1 1, .int .i64 100] (W.alloc (.cells #[.int .i64 o1, .string s1, .slice A1 l1.length c1] 42)) fun e w' => e = .returned (.bool r) ∧ ∃ n, w' = (W.alloc (.cells #[.int .i64 o1, .string s1, .slice A1 l1.length c1] 42)).drewN n
  rw [hX]
  rw [hX] at k0
  rw [hX] at k1
  rw [hX] at k2
  generalize weighN s1 l1 100 = v1 at *
  clear hX hr y1 h1 ht
  go_enter Try.func18, Try.ntmps18
  go_wp2_with fail
  go_loopw [1, 5] (fun z i wr => ((i = .int .i64 0 ∧ z = .int .i64 100) ∨ (i = .int .i64 1 ∧ z = .int .i64 v1)) ∧ Hid (∃ n, wr = X.drewN n)) (fun _ i _ => 1 - (intOf i).toNat)
  case atStart => exact ⟨.inl ⟨rfl, rfl⟩, Lib.hid ⟨0, rfl⟩⟩
  case round =>
    obtain ⟨hc, hn⟩ := hrel
    have hxr : Below X.heap.size X wr := by obtain ⟨n, rfl⟩ := hn.out; exact below_drewN (Below.refl _ _) n
    have hb := hWX.trans (hxr.mono hWX.size)
    replace k0 := (hxr.cell (block_lt_of_cell k0)).trans k0
    replace k1 := (hxr.cell (block_lt_of_cell k1)).trans k1
    replace k2 := (hxr.cell (block_lt_of_cell k2)).trans k2
    rcases hc with ⟨rfl, rfl⟩ | ⟨rfl, rfl⟩
    · have P1 := Lib.hid (fun n => Q1.out (wr.drewN n) (below_drewN hb n))
      rw [← w1.out] at P1
      clear Q1 w1
      go_wp2_with fail
      go_quiet ((go_at_call 31; exact Calls.quiet_of (P1.out _)))
      go_wp2_with fail
      go_roundw
      case rel => exact ⟨.inr ⟨rfl, rfl⟩, by obtain ⟨n, hn⟩ := hn.out; exact Lib.hid ⟨n + nq, by rw [hn, World.drewN_drewN]⟩⟩
      case measure => simp [intOf]
    · clear Q1 w1
      go_wp2_with fail
      go_ret
      exact ⟨by rw [← HR.out]; rfl, hn.out⟩
end Go.Proofs.Ytceekaodhmncgaa
namespace Go.Proofs.Ytceekaodhmncgaa
open Go.RowKit

set_option maxHeartbeats 4000000 in
set_option maxRecDepth 100000 in
theorem ref_instances_at (w0 : World) (b : List Bd) (f : Int) (D : Option Addr) (q : Nat) (l : List Tm) (A : Option Addr) (c : Nat) (w : World) (hl : Lst w A l c) (hsz : l.length ≤ 1000000)
    (ih : ∀ x ∈ l, ∀ W : World, Below w.heap.size w W → Calls Try.prog 21 #[.slice D b.length q, .int .i64 f, x.val] W (RMade w0 (x.inst b f) W)) :
    Calls Try.prog 41 #[.slice D b.length q, .int .i64 f, .slice A l.length c] w (RMadeN w0 l.length (instL b f l) w) := by
  obtain ⟨i0, hi, hz0, hz1, hz2⟩ := info_parts term_info
  have HL := Lib.hid hl
  have HI := Lib.hid ih
  have HA := Lib.hid (fun l => instL_map b f l)
  clear hl ih
  go_enter Try.func41, Try.ntmps41
  go_wp2_with fail
  go_loopw [7, 8] (fun z i wr => ∃ (j : Nat) (acc : List Tm) (x : Value), j ≤ l.length ∧ i = .int .i64 j ∧ z = x ∧ Hid (RowT (From w0) w.heap.size wr x acc) ∧ Hid (stripL acc = stripL (instL b f (l.take j))) ∧ Hid (acc.length = j) ∧ Below w.heap.size w wr) (fun _ i _ => l.length - (intOf i).toNat)
  case atStart => exact ⟨0, [], _, Nat.zero_le _, rfl, rfl, Lib.hid (RowT.nil _ _ _), Lib.hid rfl, Lib.hid rfl, Below.refl _ _⟩
  case round =>
    obtain ⟨j, acc, z, hj, rfl, hz, HK, HS, HAc, hbw⟩ := hrel
    have hz' := hz.symm
    subst hz'
    clear hz
    by_cases hlt : j < l.length
    · obtain ⟨b0, o, rfl, ⟨c0, c1, c2, c3⟩, _⟩ := (HL.out.below hbw).get hlt
      have HT := Lib.hid (take_tm hlt)
      have Q := Lib.hid (fun W (h : Below w.heap.size w W) => HI.out _ (getD_mem hlt) W h)
      have hal : acc.length ≤ 1000000 := by rw [HAc.out]; omega
      generalize l.getD j default = x at *
      obtain ⟨k', n', s', A', c', a'⟩ := x
      simp only [Tm.kind, Tm.num, Tm.name, Tm.at_, Tm.args, Tm.cap] at c0 c1 c2 c3
      go_wp2_with fail
      refine (Q.out _ hbw).mono ?_
      rintro e w2 ⟨u, rfl, hu, hlie, hb2⟩
      have HU := Lib.hid (lie_apart HK.out.1 hlie hbw.size (Nat.le_refl _))
      have HK2 := Lib.hid (HK.out.below hb2)
      have HS2 := Lib.hid (show stripL (acc ++ [u]) = stripL (instL b f (l.take (j + 1))) by
        rw [HT.out, HA.out, List.map_append, stripL_append, stripL_append, HS.out, HA.out]
        simp only [stripL, List.map_cons, List.map_nil, hu])
      have hbw2 := hbw.trans (hb2.mono hbw.size)
      have HOwn := Lib.hid (own_lt HK2.out.1)
      have hlo := hbw2.size
      clear hu hlie hb2 hbw c0 c1 c2 c3 HK HS Q
      obtain ⟨k2, n2, s2, A2, p2, a2⟩ := u
      go_wp2_with (at_builtin; refine wpList_append_lies _ rfl _ _ 23 rfl w.heap.size 25 i0 _ 4 56 Try.underlying23 hi hz0 hz1 hz2 rfl (by decide) _ acc.length (tcells acc) rfl (HK2.out.1.alloc _) ⟨w2.heap.size, 0, none⟩ 1 1 (Tm.cells (.mk k2 n2 s2 A2 p2 a2)) rfl rfl (tnews1 w2 (.mk k2 n2 s2 A2 p2 a2) _) (cells_one _) (by decide) (by unfold maxLen; omega) (by omega) (by simp; omega) _ rfl ?_; intro g cap w5 hown hg hat hglt)
      have HR5 := Lib.hid (HK2.out.next (u := .mk k2 n2 s2 A2 p2 a2) HU.out (below1 w2 _) hown hg hat)
      have HB5 : Below w.heap.size w w5 := (hbw2.alloc hbw2.size _).grown hg (by simp; omega) (fun k hk => (HOwn.out k hk).1)
      clear hown hg hat hglt
      go_wp2_with fail
      go_roundw
      case rel => exact ⟨j + 1, acc ++ [.mk k2 n2 s2 A2 p2 a2], _, by omega, by go_num, rfl, HR5, HS2, Lib.hid (by rw [List.length_append, HAc.out]; rfl), HB5⟩
      case measure => simp [intOf]; omega
    · obtain rfl : j = l.length := by omega
      have hK := HK.out
      obtain ⟨A', cz, hz, hcz⟩ := hK.form
      subst hz
      have HF := Lib.hid hK.lies
      have HE := Lib.hid (show stripL acc = stripL (instL b f l) by rw [HS.out, List.take_length])
      rw [HAc.out]
      clear hK HK hlt HS hcz
      go_wp2_with fail
      go_ret
      exact ⟨A', cz, acc, rfl, HAc.out, HE.out, HF.out, hbw⟩


set_option maxHeartbeats 4000000 in
theorem ref_instance_at (w0 : World) (b : List Bd) (f : Int) (hf : Fits f) (D : Option Addr) (q : Nat) (hb : BLst w0 D b q) (hlb : b.length ≤ 1000000) (t : Tm) : t.At w0 → t.nodes ≤ 1000000 → ∀ w : World, Below w0.heap.size w0 w → Calls Try.prog 21 #[.slice D b.length q, .int .i64 f, t.val] w (RMade w0 (t.inst b f) w) := by
  induction t using Tm.induct with
  | h k n s A c a ih =>
    intro hat hnodes w hw
    show Calls Try.prog 21 #[.slice D b.length q, .int .i64 f, .agg #[.int .i64 k, .int .i64 n, .string s, .slice A a.length c]] w _
    have HT := Lib.hid hat
    have HP := Lib.hid ((At_iff _ _).1 hat).1
    simp only [Tm.kind, Tm.num, Tm.name] at HP
    obtain ⟨HB0, HB1⟩ := two_boxes w (.int .i64 k) (.int .i64 n) (.string s) (.slice A a.length c) (.int .i64 0) (.int .i64 0) (.string ⟨#[]⟩) (.slice none 0 0) 25
    have H0 := Lib.hid HB0
    have H1 := Lib.hid HB1
    clear HB0 HB1
    by_cases k2 : k = 2
    · subst k2
      have hl : Lst w0 A a c := hat.lst
      have hna : nodesL a ≤ 1000000 := by simp only [Tm.nodes] at hnodes; omega
      have hln : a.length ≤ 1000000 := by have := length_le_nodes a; omega
      have Q1 := Lib.hid (fun W (h : Below w.heap.size w W) => ref_instances_at w0 b f D q a A c W ((hl.below hw).below h) hln (fun x hx W' h' => ih x hx (hl.mem hx) (by have := nodes_mem hx; omega) W' (hw.trans ((h.trans (h'.mono h.size)).mono hw.size))))
      rw [inst_fun]
      clear hat ih hl hna hnodes hln hb hw HT
      go_enter Try.func21, Try.ntmps21
      go_wp2_with fail
      go_region_with (go_at_call 41; refine (Q1.out _ (by first | exact below2 _ _ _ | exact (below2 _ _ _).drew)).mono ?_; rintro e w1 ⟨A', cap, cur, rfl, hcl, hst, hL, hb2⟩; have HM := Lib.hid (H1.out.below (undrew hb2)); have HKX := Lib.hid (H0.out.below (undrew hb2)); have hk0 := HKX.out.c2; have hb1 := (below2 w (.cells #[.int .i64 2, .int .i64 n, .string s, .slice A a.length c] 25) zeroBox).trans (undrew (hb2.mono (by simp; omega))); obtain ⟨hz, e0, e1, e2, e3, f'⟩ := HM.out; have f0' := f' 0; have f1' := f' 1; have f2' := f' 2; have f3' := f' 3; have HB := Lib.hid hb1; have HL := Lib.hid (show ∀ W, From w0 W → Agree (w.heap.size + 2) No w1 W → Lst W A' cur cap from fun W h1 hW => hL W h1 (by simpa using hW)); have HS := Lib.hid hst; have HC := Lib.hid hcl; clear f' hb1 hL hst hcl hb2)
      all_goals
        go_wp2_with fail
        refine bodyPost_ret (v := .agg #[.int .i64 2, .int .i64 0, .string s, .slice A' a.length cap]) (by simp [results, Try.results21, go_sem, e0, e1, e2, e3]) rfl ?_
        refine ⟨.mk 2 0 s A' cap cur, by rw [← HC.out]; rfl, ?_, rlie_row (lo := w.heap.size + 2) ⟨HP.out.1, by unfold Fits; omega, HP.out.2.2⟩ (fun W hBW hW => HL.out W hBW fun b' h1 h2 h3 => ?_) (by omega), set4c HB.out (Nat.le_succ _)⟩
        · simp only [Tm.strip, HS.out]
        · rw [hW b' h1 (by rw [size_set4]; exact h2) h3, heap_set4 _ (by omega)]
    · have k2' : (k == 2) = false := by simpa using k2
      by_cases k1 : k = 1
      · subst k1
        have hF := Lib.hid (fun W (h : Below w.heap.size w W) => entry_at b D q n W ((hb.below hw).below h) hlb)
        have HV := Lib.hid (inst_var b f n s A c a)
        have HBL := Lib.hid (fun (j : Nat) (hj : j < b.length) => show (b.getD j default).tm.At w0 from (hb.mem (bgetD_mem hj)).2)
        have HBG := Lib.hid (fun W (h : Below w.heap.size w W) => (hb.below hw).below h)
        have HFn := HP.out.2.1
        clear hat ih hnodes hb k2 k2' hw
        go_enter Try.func21, Try.ntmps21
        have H0o := H0.out
        obtain ⟨_, p0, p1, p2, p3, _⟩ := H0o
        go_wp2_with fail
        refine (hF.out _ (below2 _ _ _)).mono ?_
        rintro e w1 ⟨i, rfl, rfl, h⟩
        rcases h with ⟨rfl, hlk⟩ | ⟨j, rfl, hj, hlk⟩
        · have QL := Lib.hid (fun W => leaves_at f n hf HFn W)
          have QV := Lib.hid (fun m W => ref_var_at3 m W)
          have HR := Lib.hid (show (Tm.mk 1 n s A c a).inst b f = numT 1 (shiftV f n) from by rw [HV.out, hlk]; rfl)
          have HSF := Lib.hid (shiftV_fits (f := f) HFn)
          by_cases hlv : -9223372036854775808 ≤ f + n ∧ f + n ≤ 9223372036854775807
          · have g1 : decide (-9223372036854775808 ≤ f + n ∧ f + n ≤ 9223372036854775807) = true := by simpa using hlv
            have HW := Lib.hid (show shiftV f n = f + n from by unfold shiftV; rw [if_pos hlv])
            have hl1 := hlv.1
            have hl2 := hlv.2
            have QL2 := Lib.hid (fun W => QL.out W)
            rw [g1] at QL2
            clear hlk QL hlv g1
            go_wp2_with fail
            refine (QL2.out _).mono ?_
            rintro e w2 ⟨rfl, hb2⟩
            have HK := H0.out.below hb2
            have HM := Lib.hid (H1.out.below hb2)
            have HB := Lib.hid ((below2 w (.cells #[.int .i64 1, .int .i64 n, .string s, .slice A a.length c] 25) zeroBox).trans (hb2.mono (by simp; omega)))
            obtain ⟨_, q0, q1, q2, q3, _⟩ := HK
            clear hb2 QL2
            go_wp2_with fail
            refine (QV.out _ _).mono ?_
            rintro e w3 ⟨rfl, hb3⟩
            have HM3 := HM.out.below hb3
            have HB3 := Lib.hid (HB.out.trans (hb3.mono HB.out.size))
            obtain ⟨hz, e0, e1, e2, e3, f'⟩ := HM3
            have f0' := f' 0
            have f1' := f' 1
            have f2' := f' 2
            have f3' := f' 3
            clear f' hb3 q0 q1 q2 q3
            go_wp2_with fail
            refine bodyPost_ret (v := .agg #[.int .i64 1, .int .i64 (f + n), .string ⟨#[]⟩, .slice none 0 0]) (by simp [results, Try.results21, go_sem, e0, e1, e2, e3]) rfl ?_
            rw [HR.out, HW.out]
            have hsf := HSF.out
            rw [HW.out] at hsf
            exact ⟨numT 1 (f + n), rfl, rfl, numT_lie (by unfold Fits; omega) hsf, set4c HB3.out (Nat.le_succ _)⟩
          · have g1 : decide (-9223372036854775808 ≤ f + n ∧ f + n ≤ 9223372036854775807) = false := by simpa using hlv
            have HW := Lib.hid (show shiftV f n = n from by unfold shiftV; rw [if_neg hlv])
            have QL2 := Lib.hid (fun W => QL.out W)
            rw [g1] at QL2
            clear hlk QL hlv g1
            go_wp2_with fail
            refine (QL2.out _).mono ?_
            rintro e w2 ⟨rfl, hb2⟩
            have HK := H0.out.below hb2
            have HM := Lib.hid (H1.out.below hb2)
            have HB := Lib.hid ((below2 w (.cells #[.int .i64 1, .int .i64 n, .string s, .slice A a.length c] 25) zeroBox).trans (hb2.mono (by simp; omega)))
            obtain ⟨_, q0, q1, q2, q3, _⟩ := HK
            clear hb2 QL2
            go_wp2_with fail
            refine (QV.out _ _).mono ?_
            rintro e w3 ⟨rfl, hb3⟩
            have HM3 := HM.out.below hb3
            have HB3 := Lib.hid (HB.out.trans (hb3.mono HB.out.size))
            obtain ⟨hz, e0, e1, e2, e3, f'⟩ := HM3
            have f0' := f' 0
            have f1' := f' 1
            have f2' := f' 2
            have f3' := f' 3
            clear f' hb3 q0 q1 q2 q3
            go_wp2_with fail
            refine bodyPost_ret (v := .agg #[.int .i64 1, .int .i64 n, .string ⟨#[]⟩, .slice none 0 0]) (by simp [results, Try.results21, go_sem, e0, e1, e2, e3]) rfl ?_
            rw [HR.out, HW.out]
            have hsf := HSF.out
            rw [HW.out] at hsf
            exact ⟨numT 1 n, rfl, rfl, numT_lie (by unfold Fits; omega) hsf, set4c HB3.out (Nat.le_succ _)⟩
        · have HX := Lib.hid (show (Tm.mk 1 n s A c a).inst b f = (b.getD j default).tm from by rw [HV.out, hlk]; rfl)
          have HAt := Lib.hid (HBL.out j hj)
          obtain ⟨b0, o, rfl, ⟨d0, d1, d2, d3, d4⟩, _⟩ := (HBG.out _ (below2 w (.cells #[.int .i64 1, .int .i64 n, .string s, .slice A a.length c] 25) zeroBox)).get hj
          have hjn : (j : Int) ≥ 0 := by omega
          have HM := H1.out
          obtain ⟨hz, e0, e1, e2, e3, f'⟩ := HM
          have f0' := f' 0
          have f1' := f' 1
          have f2' := f' 2
          have f3' := f' 3
          rw [HX.out]
          clear hlk hF HV HBL HBG f'
          generalize (b.getD j default).tm = y at *
          obtain ⟨k3, n3, s3, A3, c3, a3⟩ := y
          simp only [Tm.kind, Tm.num, Tm.name, Tm.at_, Tm.args, Tm.cap] at d1 d2 d3 d4
          go_wp2_with fail
          refine bodyPost_ret (v := .agg #[.int .i64 k3, .int .i64 n3, .string s3, .slice A3 a3.length c3]) (by simp [results, Try.results21, go_sem]) rfl ?_
          exact ⟨.mk k3 n3 s3 A3 c3 a3, rfl, by rw [HX.out], Lie.any fun W hW => HAt.out.below hW, below2 _ _ _⟩
      · have k1' : (k == 1) = false := by simpa using k1
        by_cases k0 : k = 0
        · subst k0
          have QN := Lib.hid (fun W => ref_int_at n W)
          rw [inst_int]
          clear hat ih hnodes hb k1 k2 hw
          go_enter Try.func21, Try.ntmps21
          have H0o := H0.out
          obtain ⟨_, p0, p1, p2, p3, _⟩ := H0o
          go_wp2_with fail
          refine (QN.out _).mono ?_
          rintro e w2 ⟨rfl, hb2⟩
          have HM := Lib.hid (H1.out.below hb2)
          have HB := Lib.hid ((below2 w (.cells #[.int .i64 0, .int .i64 n, .string s, .slice A a.length c] 25) zeroBox).trans (hb2.mono (by simp; omega)))
          obtain ⟨hz, e0, e1, e2, e3, f'⟩ := HM.out
          have f0' := f' 0
          have f1' := f' 1
          have f2' := f' 2
          have f3' := f' 3
          clear f' hb2
          go_wp2_with fail
          refine bodyPost_ret (v := .agg #[.int .i64 0, .int .i64 n, .string ⟨#[]⟩, .slice none 0 0]) (by simp [results, Try.results21, go_sem, e0, e1, e2, e3]) rfl ?_
          exact ⟨numT 0 n, rfl, rfl, numT_lie (by unfold Fits; omega) HP.out.2.1, set4c HB.out (Nat.le_succ _)⟩
        · have k0' : (k == 0) = false := by simpa using k0
          have HV := Lib.hid (inst_else b f n s A c a k2 k1 k0)
          have HM := H1.out
          obtain ⟨hz, e0, e1, e2, e3, f'⟩ := HM
          have f0' := f' 0
          have f1' := f' 1
          have f2' := f' 2
          have f3' := f' 3
          have H0o := H0.out
          obtain ⟨_, p0, p1, p2, p3, _⟩ := H0o
          clear hat ih hnodes hb k1 k2 hw f'
          go_enter Try.func21, Try.ntmps21
          go_wp2_with fail
          refine bodyPost_ret (v := .agg #[.int .i64 k, .int .i64 n, .string s, .slice A a.length c]) (by simp [results, Try.results21, go_sem]) rfl ?_
          exact ⟨.mk k n s A c a, rfl, by rw [HV.out], Lie.any fun W hW => HT.out.below hW, below2 _ _ _⟩
end Go.Proofs.Ytceekaodhmncgaa
namespace Go.Proofs.Ytceekaodhmncgaa
open Go.RowKit Go.Sort

def greatB (b : List Bd) (most : Int) : Bool := decide (weigh (b.map Bd.tm) most 64 < 0)
theorem great_long {b : List Bd} {most : Int} (h : most < b.length) : greatB b most = true := by
  unfold greatB weigh
  rw [if_pos (.inr (by simpa using h))]
  rfl
theorem great_nodes {b : List Bd} {most : Int} (h : greatB b most = false) : (nodesL (b.map Bd.tm) : Int) ≤ most := by
  unfold greatB at h
  exact weigh_nodes (deep := 64) (Int.not_lt.1 (by simpa using h))
theorem map_next {b : List Bd} {j : Nat} (hj : j < b.length) : (b.take (j + 1)).map Bd.tm = (b.take j).map Bd.tm ++ [(b.getD j default).tm] := by
  rw [btake_next hj, List.map_append]; rfl

end Go.Proofs.Ytceekaodhmncgaa
namespace Go.Proofs.Ytceekaodhmncgaa
open Go

theorem nodes_strip : (∀ t : Tm, t.strip.nodes = t.nodes) ∧ (∀ l, nodesL (stripL l) = nodesL l) :=
  Tm.induct2 (fun k n s A c a ih => by simp only [Tm.strip, Tm.nodes, ih]) rfl (fun t r h1 h2 => by simp only [stripL, nodesL, h1, h2])
theorem nodes_same {t u : Tm} (h : t.strip = u.strip) : t.nodes = u.nodes := by rw [← nodes_strip.1, h, nodes_strip.1]
theorem form_nodes : (∀ t : Tm, t.form = true → t.nodes = t.size) ∧ (∀ l, formL l = true → nodesL l = sizeL l) := by
  refine Tm.induct2 (fun k n s A c a ih h => ?_) (fun _ => rfl) (fun t r h1 h2 h => ?_)
  · simp only [Tm.form] at h
    simp only [Tm.nodes, Tm.size]
    by_cases k0 : k = 0
    · subst k0
      simp only [if_true, Bool.and_eq_true, decide_eq_true_eq] at h
      obtain rfl : a = [] := List.length_eq_zero_iff.1 h.2.2.2
      simp [nodesL]
    · by_cases k1 : k = 1
      · subst k1
        simp only [if_true, show ¬ ((1 : Int) = 0) by omega, if_false, Bool.and_eq_true, decide_eq_true_eq] at h
        obtain rfl : a = [] := List.length_eq_zero_iff.1 h.2.2.2
        simp [nodesL]
      · by_cases k2 : k = 2
        · subst k2
          simp only [show ¬ ((2 : Int) = 0) by omega, show ¬ ((2 : Int) = 1) by omega, if_true, if_false, Bool.and_eq_true] at h
          rw [if_pos rfl, ih h.2.2]
        · simp [k0, k1, k2] at h
  · simp only [formL, Bool.and_eq_true] at h
    simp only [nodesL, sizeL, h1 h.1, h2 h.2]
theorem right_nodes {t : Tm} (h : t.right = true) : t.nodes ≤ 200 := by
  unfold Tm.right at h
  simp only [Bool.and_eq_true, decide_eq_true_eq] at h
  rw [form_nodes.1 t h.1]
  exact h.2.1
theorem nodes_pos (t : Tm) : 1 ≤ t.nodes := by cases t; simp [Tm.nodes]
theorem nodes_app {b : List Bd} {N : Nat} (hN : ∀ x ∈ b, x.tm.nodes ≤ N) : (∀ t : Tm, (t.app b).nodes ≤ t.nodes * (1 + N)) ∧ (∀ l, nodesL (appL b l) ≤ nodesL l * (1 + N)) := by
  refine Tm.induct2 (fun k n s A c a ih => ?_) (by simp [appL, nodesL]) (fun t r h1 h2 => ?_)
  · simp only [Tm.app]
    have hp : ∀ m : Nat, m ≤ m * (1 + N) := fun m => Nat.le_mul_of_pos_right m (by omega)
    split
    · cases hl : look b n with
      | none => exact hp _
      | some t =>
        obtain ⟨x, hx, _, rfl⟩ := look_some hl
        have h1 := hN x hx
        have h2 : 1 * (1 + N) ≤ (Tm.mk k n s A c a).nodes * (1 + N) := Nat.mul_le_mul_right _ (nodes_pos _)
        simp only [Option.getD_some]
        omega
    · split
      · simp only [Tm.nodes]
        rw [Nat.add_mul]
        omega
      · exact hp _
  · simp only [appL, nodesL]
    rw [Nat.add_mul]
    omega
theorem nodes_mem_b {b : List Bd} {most : Int} (h : (nodesL (b.map Bd.tm) : Int) ≤ most) : ∀ x ∈ b, (x.tm.nodes : Int) ≤ most := fun x hx => by
  have := nodes_mem (t := x.tm) (l := b.map Bd.tm) (List.mem_map_of_mem hx)
  omega
theorem len_nodes_b {b : List Bd} {most : Int} (h : (nodesL (b.map Bd.tm) : Int) ≤ most) : (b.length : Int) ≤ most := by
  have := length_le_nodes (b.map Bd.tm)
  simp at this
  omega
theorem right_good {b : List Bd} (h : rightS b = true) (hl : b.length ≤ 1000000) : Good b :=
  ⟨hl, ((rightS_iff b).1 h).1.2.srt, fun x hx => Nat.le_trans (right_nodes (((rightS_iff b).1 h).1.1 x hx).2.2) (by omega)⟩
theorem comp_err {a c : List Bd} (h : (comp a c).2 ≠ 0) : (comp a c).1 = [] := by
  unfold comp at *
  split
  · rfl
  · split
    · rfl
    · split
      · rfl
      · rename_i h1 h2 h3
        rw [if_neg h1, if_neg h2, if_neg h3] at h
        exact absurd rfl h
theorem comp_code (a c : List Bd) : (comp a c).2 = 0 ∨ (comp a c).2 = 2 ∨ (comp a c).2 = 6 := by
  unfold comp
  split
  · simp
  · split
    · simp
    · split <;> simp
theorem comp_length {a c o : List Bd} (h : comp a c = (o, 0)) : o.length ≤ a.length + c.length := by
  obtain ⟨_, _, rfl, _⟩ := comp_ok h
  rw [(sortB_perm _).length_eq]
  unfold compL
  rw [List.length_append]
  have h1 : (compA a c).length ≤ a.length := List.length_filterMap_le _ _
  have h2 : (compC a c).length ≤ c.length := List.length_filter_le _ _
  omega
/-- What the statement on one after the other asks. -/
theorem then_same {a c o l : List Bd} {t x y z : Tm} (h : comp a c = (o, 0)) (hl : stripB l = stripB o) (hx : x.strip = (t.app l).strip) (hy : y.strip = (t.app a).strip) (hz : z.strip = (y.app c).strip) : (cmpT x z == 0) = true := by
  have h1 := comp_then h t
  rw [← cmp_strip.1] at h1 ⊢
  rw [hx, hz, app_like hl rfl, app_like (b := c) (b' := c) rfl hy, h1]
  rfl
end Go.Proofs.Ytceekaodhmncgaa
namespace Go.Proofs.Ytceekaodhmncgaa

section
variable {P : Program} {l n : Nat} {ops : Array Oper} {md : Region.Mode} {Q : Exit → Act → World → Prop} {S : World → Prop}
theorem round_rows {row : String} {args : Array Value} {w : World} {R : Value → World → Prop} (h : Go.Rows P row args w R) : RowsIn (Fence.wide.inRound l) n P row args w R := fun c cs _ => by
  obtain ⟨v, w', r, s⟩ := h c cs
  exact ⟨v, w', r, stepsIn_wide.2 s⟩
theorem round_calls {f : FuncId} {args : Array Value} {w : World} {R : Ending → World → Prop} (h : Calls P f args w R) : CallsIn (Fence.wide.inRound l) n P f args w R := CallsIn.inRound l (callsIn_wide.2 h)
theorem round_op {o : Oper} {a : Act} {w : World} {K : Act → World → Prop} (hd : ∀ c, o.op ≠ .defer c) (h : o.wp P a w K Q) : o.wpIn (Fence.wide.inRound l) n P a w K Q := by
  refine ⟨fun f _ => trivial, ?_⟩
  rw [Oper.semAt_eq _ _ _ hd]
  unfold Oper.wp at h
  generalize (execOp a.eval o).run P w = r at *
  cases r with
  | ok x w' =>
    cases x with
    | value v => exact h
    | skip => exact h
    | defer d => exact h
    | enter f args => exact ⟨fun e => (by cases e), round_calls h⟩
    | row row args => exact ⟨fun e => (by cases e), round_rows h⟩
    | _ => exact h.elim
  | halt x w' => cases x <;> first | exact h | exact h.elim
theorem round_any (hd : ∀ (i : Nat) (o : Oper), ops[i]? = some o → ∀ c, o.op ≠ .defer c) (hq : ¬ LetsOut Q) : ∀ (fuel : Nat) (listed : Array Bool) (a : Act) (w : World), wpAny P md ops Q fuel listed a w → wpAnyIn (Fence.wide.inRound l) n P md ops Q fuel listed a w
  | 0, _, _, _, h => h
  | fuel + 1, _, a, _, h => ⟨h.1, fun i hi => by
      have h2 := h.2 i hi
      unfold wpOp at h2
      unfold wpOpIn
      cases ho : ops[i]? with
      | none =>
        rw [ho] at h2
        exact round_any hd hq fuel _ _ _ h2
      | some o =>
        rw [ho] at h2
        simp only at h2 ⊢
        by_cases hw : Region.wanted o (yielded ops a.tmps) = true
        · rw [if_pos hw] at h2 ⊢
          rcases h2 with h2 | h2
          · exact Oper.wpIn_mono (fun a' w' h' => round_any hd hq fuel _ a' w' h') (round_op (hd i o ho) h2)
          · exact absurd h2.2 hq
        · rw [if_neg hw] at h2 ⊢
          exact ⟨fun f _ => trivial, round_any hd hq fuel _ _ _ h2⟩⟩
/-- Only the ordinary way out. -/
def Only (Q : Exit → Act → World → Prop) (e : Exit) (a : Act) (w : World) : Prop := e = .normal ∧ Q e a w
theorem round_start {id : Nat} {a : Act} {w : World} (fuel : Nat) (hf : ops.size = fuel) (S : World → Prop) (hm : P.follows .mixedOrders = true) (hd : ∀ (i : Nat) (o : Oper), ops[i]? = some o → ∀ c, o.op ≠ .defer c)
    (h : wpAnyH P .any ops (Only Q) S fuel (Array.replicate fuel false) a w.drew) : (Code.region id ops true).wpIn (Fence.wide.inRound l) n P Q a w := by
  subst hf
  refine wpIn_mono (Q := Only Q) (wpIn_region_any hm (round_any hd ?_ _ _ _ _ (wpAny_of_held _ _ _ _ h))) ?_
  · rintro ⟨a, w, h, _⟩
    cases h
  · rintro e a w ⟨rfl, h⟩
    exact h
theorem round_take {i : Nat} {oi : Oper} {dst : Option Tmp} {v : Value} {fuel : Nat} {listed : Array Bool} {a : Act} {w : World} (hi : ops[i]? = some oi) (hdst : oi.dst = dst)
    (hs : Region.noSelect ops = true) (hf : Region.free md ops listed i = true) (hr : (Region.ready md ops listed).contains i = true) (hwt : Region.wanted oi (yielded ops a.tmps) = true)
    (hS : S w) (hy : ∀ w, S w → (execOp a.eval oi).run P w = .ok (.value v) w)
    (h : wpAnyH P md ops (Only Q) S fuel (listed.setIfInBounds i true) (a.put dst v) w) : wpAnyH P md ops (Only Q) S (fuel + 1) listed a w :=
  wpAnyH_take hi hs hf hr (fun _ _ _ h => by cases h.1) (.inl ⟨hwt, hy⟩) hS (hdst ▸ h)
theorem round_do {i : Nat} {oi : Oper} {dst : Option Tmp} {v : Value} {fuel : Nat} {listed : Array Bool} {a : Act} {w w2 : World} (hi : ops[i]? = some oi) (hdst : oi.dst = dst) (hwt : Region.wanted oi (yielded ops a.tmps) = true)
    (hy : (execOp a.eval oi).run P w = .ok (.value v) w2) (hS : S w2)
    (h : wpAnyH P md ops (Only Q) S fuel (listed.setIfInBounds i true) (a.put dst v) w2) : wpOp P ops (Only Q) i (fun a' w' => S w' ∧ wpAnyH P md ops (Only Q) S fuel (listed.setIfInBounds i true) a' w') a w := by
  unfold wpOp
  rw [hi]
  simp only
  rw [if_pos hwt]
  refine .inl ?_
  unfold Oper.wp
  rw [hy]
  exact ⟨hS, hdst ▸ h⟩
theorem round_skip {i : Nat} {oi : Oper} {fuel : Nat} {listed : Array Bool} {a : Act} {w w2 : World} (hi : ops[i]? = some oi) (hwt : Region.wanted oi (yielded ops a.tmps) = true)
    (hy : (execOp a.eval oi).run P w = .ok .skip w2) (hS : S w2)
    (h : wpAnyH P md ops (Only Q) S fuel (listed.setIfInBounds i true) (a.put oi.dst undef) w2) : wpOp P ops (Only Q) i (fun a' w' => S w' ∧ wpAnyH P md ops (Only Q) S fuel (listed.setIfInBounds i true) a' w') a w := by
  unfold wpOp
  rw [hi]
  simp only
  rw [if_pos hwt]
  refine .inl ?_
  unfold Oper.wp
  rw [hy]
  exact ⟨hS, h⟩
theorem round_one {i : Nat} {fuel : Nat} {listed : Array Bool} {a : Act} {w : World} (hr : Region.ready md ops listed = [i])
    (h : wpOp P ops (Only Q) i (fun a' w' => S w' ∧ wpAnyH P md ops (Only Q) S fuel (listed.setIfInBounds i true) a' w') a w) : wpAnyH P md ops (Only Q) S (fuel + 1) listed a w :=
  wpAnyH_all hr (by simp) fun j hj => by rw [List.mem_singleton.1 hj]; exact h
theorem round_two {i k : Nat} {fuel : Nat} {listed : Array Bool} {a : Act} {w : World} (hr : Region.ready md ops listed = [i, k])
    (h : wpOp P ops (Only Q) i (fun a' w' => S w' ∧ wpAnyH P md ops (Only Q) S fuel (listed.setIfInBounds i true) a' w') a w)
    (h' : wpOp P ops (Only Q) k (fun a' w' => S w' ∧ wpAnyH P md ops (Only Q) S fuel (listed.setIfInBounds k true) a' w') a w) : wpAnyH P md ops (Only Q) S (fuel + 1) listed a w :=
  wpAnyH_all hr (by simp) fun j hj => by
    rcases List.mem_cons.1 hj with rfl | hj
    · exact h
    · rw [List.mem_singleton.1 hj]; exact h'
def noDefer (o : Oper) : Bool := match o.op with
  | .defer _ => false
  | _ => true
theorem no_defer (h : ops.all noDefer = true) (i : Nat) (o : Oper) (ho : ops[i]? = some o) (c : Call) : o.op ≠ .defer c := by
  intro e
  have h2 := (Array.all_eq_true_iff_forall_mem.1 h) o (Array.mem_of_getElem? ho)
  unfold noDefer at h2
  rw [e] at h2
  cases h2
theorem round_end {fuel : Nat} {listed : Array Bool} {a : Act} {w : World} (hr : Region.ready md ops listed = []) (h : Q .normal a w) : wpAnyH P md ops (Only Q) S fuel listed a w := wpAnyH_done hr ⟨rfl, h⟩ _
theorem round_end2 {fuel : Nat} {listed : Array Bool} {a : Act} {w w2 : World} (hw : w2 = w) (hr : Region.ready md ops listed = []) (h : Q .normal a w2) : wpAnyH P md ops (Only Q) S fuel listed a w := by
  subst hw
  exact round_end hr h
/-- The same in a plain walk, one way after another: what is wanted. -/
theorem held_take {i : Nat} {oi : Oper} {dst : Option Tmp} {v : Value} {fuel : Nat} {listed : Array Bool} {a : Act} {w : World} (hi : ops[i]? = some oi) (hdst : oi.dst = dst)
    (hs : Region.noSelect ops = true) (hf : Region.free md ops listed i = true) (hr : (Region.ready md ops listed).contains i = true) (hwt : Region.wanted oi (yielded ops a.tmps) = true)
    (hS : S w) (hy : ∀ w, S w → (execOp a.eval oi).run P w = .ok (.value v) w)
    (h : wpAnyH P md ops (Only Q) S fuel (listed.setIfInBounds i true) (a.put dst v) w) : wpAnyH P md ops (Only Q) S (fuel + 1) listed a w := round_take hi hdst hs hf hr hwt hS hy h
/-- What its guard passes over. -/
theorem held_pass {i : Nat} {oi : Oper} {dst : Option Tmp} {fuel : Nat} {listed : Array Bool} {a : Act} {w : World} (hi : ops[i]? = some oi) (hdst : oi.dst = dst)
    (hs : Region.noSelect ops = true) (hf : Region.free md ops listed i = true) (hr : (Region.ready md ops listed).contains i = true) (hwt : Region.wanted oi (yielded ops a.tmps) = false)
    (hS : S w) (h : wpAnyH P md ops (Only Q) S fuel (listed.setIfInBounds i true) (a.put dst undef) w) : wpAnyH P md ops (Only Q) S (fuel + 1) listed a w :=
  wpAnyH_take hi hs hf hr (fun _ _ _ h => by cases h.1) (.inr ⟨hwt, rfl⟩) hS (hdst ▸ h)
/-- A call. -/
theorem held_call {i : Nat} {oi : Oper} {dst : Option Tmp} {f : FuncId} {args : Array Value} {fuel : Nat} {listed : Array Bool} {a : Act} {w w1 : World} {R : Ending → World → Prop} (hi : ops[i]? = some oi) (hdst : oi.dst = dst) (hwt : Region.wanted oi (yielded ops a.tmps) = true)
    (hy : (execOp a.eval oi).run P w = .ok (.enter f args) w1) (hc : Calls P f args w1 R) (hR : ∀ e w', R e w' → ∃ v, e = .returned v ∧ S w' ∧ wpAnyH P md ops (Only Q) S fuel (listed.setIfInBounds i true) (a.put dst v) w') :
    wpOp P ops (Only Q) i (fun a' w' => S w' ∧ wpAnyH P md ops (Only Q) S fuel (listed.setIfInBounds i true) a' w') a w := by
  unfold wpOp
  rw [hi]
  simp only
  rw [if_pos hwt]
  refine .inl ?_
  unfold Oper.wp
  rw [hy]
  refine Calls.mono hc fun e w' h => ?_
  obtain ⟨v, rfl, h1, h2⟩ := hR e w' h
  exact ⟨h1, hdst ▸ h2⟩
theorem held_start {id : Nat} {a : Act} {w : World} (fuel : Nat) (hf : ops.size = fuel) (S : World → Prop) (hm : P.follows .mixedOrders = true)
    (h : wpAnyH P .any ops (Only Q) S fuel (Array.replicate fuel false) a w.drew) : (Code.region id ops true).wp P Q a w := by
  subst hf
  refine wp_mono (Q := Only Q) (wp_region_held hm h) ?_
  rintro e a w ⟨rfl, h⟩
  exact h
end
end Go.Proofs.Ytceekaodhmncgaa
