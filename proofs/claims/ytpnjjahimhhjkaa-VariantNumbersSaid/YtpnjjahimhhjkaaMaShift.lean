/-
  Contracts of Int, Var and renamed of the program, and of leaves of the reference.
-/
import Derived.Test.YtpnjjahimhhjkaaSuRow
import Derived.Test.YtpnjjahimhhjkaaSuCopy
import Derived.Test.YtpnjjahimhhjkaaSuFun
import Derived.Test.YtpnjjahimhhjkaaVxPlain
namespace Go.Proofs.Ytpnjjahimhhjkaa
open Go.RowKit

def numT (k n : Int) : Tm := .mk k n ByteArray.empty none 0 []
theorem numT_val (k n : Int) : (numT k n).val = .agg #[.int .i64 k, .int .i64 n, .string ⟨#[]⟩, .slice none 0 0] := rfl
theorem numT_lie {k n : Int} (hk : Fits k) (hn : Fits n) {B : World → Prop} {lo : Nat} {X : Nat → Prop} {w : World} : Lie B lo X w (numT k n) :=
  fun W _ _ => (At_iff _ _).2 ⟨⟨hk, hn, by unfold maxLen; exact Nat.zero_le _⟩, Nat.zero_le _, by unfold maxLen; exact Nat.zero_le _, fun h => absurd h (Nat.lt_irrefl 0)⟩
theorem shiftV_fits {f v : Int} (hv : Fits v) : Fits (shiftV f v) := by
  unfold shiftV
  split
  · unfold Fits; omega
  · exact hv

end Go.Proofs.Ytpnjjahimhhjkaa
