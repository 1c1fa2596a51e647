/-
  Great of a slice of one term that is just laid.
-/
import Derived.Test.YtgialbcohkpogaaGreatTmOpen
namespace Go.Proofs.YtgialbcohkpogaaGreat
open Go.ChangeShapes Go.WideShapes Go.ChangeAt Go.RowKit

theorem great_single (t : Tm) (most : Int) (W : World) (b : Nat) (hb : b = W.heap.size) (ht : t.At W) (h1 : 0 ≤ most) (h2 : most ≤ 1000000) {r : Bool} (hr : decide (weigh [t] most 64 < 0) = r) :
    Calls Tryz.prog 10 #[.slice (some ⟨b, 0, none⟩) 1 1, .int .i64 most] (W.alloc (.cells #[.int .i64 t.kind, .int .i64 t.num, .string t.name, .slice t.at_ t.args.length t.cap] 29)) fun e w' => e = .returned (.bool r) ∧ Below W.heap.size W w' :=
  (great_one t most W _ b hb ht (Below.refl _ _) h1 h2 hr).mono fun _ _ ⟨he, h⟩ => ⟨he, (below1 _ _).trans (h.mono (below1 _ _).size)⟩
end Go.Proofs.YtgialbcohkpogaaGreat
