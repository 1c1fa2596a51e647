/-
  AkSolves.
-/
import Derived.Test.YtgpglgehlnfggaaGreatMe28
namespace Go.Proofs.YtgpglgehlnfggaaGreat
theorem rsolves11 : RSolves := fun la lb A B ca cb w hA hB hl hfa hfb hn => rsolve_at la lb A B ca cb w hA hB hl hfa hfb hn
end Go.Proofs.YtgpglgehlnfggaaGreat
