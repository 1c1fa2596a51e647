/-
  What the walks of the statements need beside the contracts.
-/
import Derived.Test.YtfmflngmhhalhaaTkLive
import Derived.Test.YtfmflngmhhalhaaTrSame
namespace Go.Proofs.Ytfmflngmhhalhaa
open Go.RowKit

theorem small_of {s : ByteArray} (h : greatB s = false) : s.size ≤ 100000 := by
  simp only [greatB, decide_eq_false_iff_not] at h
  omega
theorem below_live {w w1 w2 : World} {o : Obj} (h : Below w.heap.size w w1) (k : Below (w1.alloc o).heap.size (w1.alloc o) w2) : Below w.heap.size w w2 :=
  (h.alloc h.size o).trans (k.mono (h.alloc h.size o).size)
theorem toks_len (s : ByteArray) : ∀ (n p : Nat), (toksAt s n p).1.length ≤ n
  | 0, _ => Nat.le_refl _
  | n + 1, p => by
    by_cases h : (tokAt s p).2.2 = 0
    · by_cases hk : (tokAt s p).1.1 = 0
      · rw [toks_end h hk]; simp
      · rw [toks_next h hk]
        have := toks_len s n (tokAt s p).2.1
        split
        · omega
        · simp only [List.length_cons]; omega
    · rw [toks_err h]; simp
end Go.Proofs.Ytfmflngmhhalhaa
