/-
  GreatAtoms and GreatGoals of the reference, of two constraints or goals that were just laid.
-/
import Derived.Test.YtgialbcohkpogaaTmAtom
import Derived.Test.YtgialbcohkpogaaTmWeigh
import Derived.Test.YtgialbcohkpogaaTmBelow
namespace Go.Proofs.Ytgialbcohkpogaa
open Go.ChangeShapes Go.WideShapes Go.ChangeAt Go.RowKit
set_option linter.unusedVariables false

def weighN (s : ByteArray) (l : List Tm) (m : Int) : Int := if m < 0 then m else weigh l (m - 1 - (s.size : Int) / 8) 64
theorem weigh64 (l : List Tm) (A : Option Addr) (c : Nat) (left : Int) (w : World) (h : Lst w A l c) (h1 : -4611686018427387904 ≤ left) (h2 : left ≤ 1000000) :
    Calls Try.prog 24 #[.slice A l.length c, .int .i64 left, .int .i64 64] w fun e w' => e = .returned (.int .i64 (weigh l left 64)) ∧ ∃ n, w' = w.drewN n := weigh_at 64 l A c left w h (Nat.le_refl _) h1 h2
theorem weighN_hi (s : ByteArray) (l : List Tm) (m : Int) : weighN s l m ≤ m ∨ weighN s l m = -1 := by
  unfold weighN
  split
  · omega
  · unfold weigh
    split
    · omega
    · have := weighL_hi l (m - 1 - (s.size : Int) / 8) 64 (by omega)
      omega
theorem weighN_size {s : ByteArray} {l : List Tm} {m : Int} (h : 0 ≤ weighN s l m) : (nodesL l : Int) ≤ m := by
  unfold weighN at h
  split at h
  · omega
  · have := weigh_nodes h
    omega

end Go.Proofs.Ytgialbcohkpogaa
