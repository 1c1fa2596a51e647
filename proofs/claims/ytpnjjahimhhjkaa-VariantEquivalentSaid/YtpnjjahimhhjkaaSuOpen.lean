/-
  Arguments opened: lists of bindings, lists of ints.
-/
import Derived.Test.YtpnjjahimhhjkaaSuMem
import Derived.Test.YtpnjjahimhhjkaaTmVarAll
import Derived.Test.YtpnjjahimhhjkaaTmOpen
namespace Go.Proofs.Ytpnjjahimhhjkaa
open Go.ChangeShapes Go.WideShapes Go.ChangeAt Go.RowKit
section
variable {H : Type} {enc : TypeId × Value → H} {W : World} {base : Nat} {spare : Nat → Bool} {held : Bool}
set_option maxRecDepth 100000 in
theorem open_bds {r : Reach} {b0 : Nat} {v : Value} {d : DataW H} {p : List MemPlace} (hv : Value.okWide Try.prog W r b0 47 v) (h : DataW.Trod enc Try.prog W base spare held 47 v d p) :
    ∃ (A : Option Addr) (l : List Bd) (c : Nat), v = .slice A l.length c ∧ BLst W A l c := by
  obtain ⟨a, len, cap, rfl⟩ := okWide_slice typesB.lst hv
  obtain ⟨fuel, hf⟩ := h
  exact bds_of typesB hf
set_option maxRecDepth 100000 in
theorem open_nums {r : Reach} {b0 : Nat} {v : Value} {d : DataW H} {p : List MemPlace} (hv : Value.okWide Try.prog W r b0 39 v) (h : DataW.Trod enc Try.prog W base spare held 39 v d p) :
    ∃ (A : Option Addr) (l : List Int) (c : Nat), v = .slice A l.length c ∧ Ints W A l ∧ (∀ n ∈ l, Fits n) ∧ l.length ≤ 9223372036854775807 := by
  obtain ⟨a0, len0, cap0, rfl⟩ := okWide_slice Try.underlying39 hv
  obtain ⟨fuel, hf⟩ := h
  rcases DataW.trod_slice Try.underlying39 hf with ⟨hcs, _⟩ | ⟨a, len, cap, elems, rest, n', hn, hcs, _, _, hl, hm, hlen, hel, _⟩
  · have e : Value.slice a0 len0 cap0 = .slice none 0 0 := (List.cons.inj (show [Value.slice a0 len0 cap0] = [.slice none 0 0] from hcs)).1
    exact ⟨none, [], 0, e, fun h => absurd h (by simp), by simp, by simp⟩
  · have e : Value.slice a0 len0 cap0 = .slice (some a) len cap := (List.cons.inj (show [Value.slice a0 len0 cap0] = [.slice (some a) len cap] from hcs)).1
    have hc : Try.prog.cellsOf 3 = 1 := by kernel_rfl
    obtain ⟨f, hf⟩ := Deep.choose_lt (α := Int) (p := fun i y => W.cell? (a.add i) = some (.int .i64 y) ∧ Fits y) (n := len) (fun i hi => by
      have h1 := hel i hi
      rw [hc, List.getElem?_eq_getElem (by omega)] at h1
      obtain ⟨cs', h2, h3⟩ := Option.bind_eq_some_iff.1 h1
      obtain ⟨y, hy, _, wy⟩ := DataW.trod_int Try.underlying3 h3
      subst hy
      have := (World.cells?_some h2).2.2 0 (by omega)
      refine ⟨y, ?_, int_fits wy⟩
      rw [Nat.mul_one] at this
      unfold Addr.add at this ⊢
      split at this <;> simp_all)
    have hll : ((List.range len).map f).length = len := by simp
    refine ⟨some a, (List.range len).map f, cap, by rw [hll]; exact e, fun h0 => ?_, fun n hn => ?_, by rw [hll]; unfold maxLen at hm; omega⟩
    · rw [hll] at h0
      obtain ⟨b, o, sp⟩ := a
      have c0 := (hf 0 h0).1
      obtain rfl : sp = none := by simpa [Addr.add] using World.cell?_spot c0
      refine ⟨b, o, rfl, fun i hi => ?_⟩
      rw [hll] at hi
      have e : ((List.range len).map f).getD i 0 = f i := by simp [List.getD, hi]
      rw [e]
      have := (hf i hi).1
      rwa [add_plain] at this
    · obtain ⟨i, hi, rfl⟩ := List.mem_map.1 hn
      exact (hf i (by simpa using hi)).2
end
end Go.Proofs.Ytpnjjahimhhjkaa
