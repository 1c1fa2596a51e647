/-
  NARROWER THAN 'FOR EVERY INPUT', by the rows' own cells (each row's printed sentence says how): SubstThen: loops · SubstIdempotent: loops · SubstAssociates: loops · SubstRestricts: loops.
  DERIVED. THE GIVEN ROWS OF THIS SEAT. 4 by the template 'for every input the law returns true; each argument reads behind the call as it read before'; 0 by the template 'total and deterministic' (their statements: YtgialbcohkpogaaTotals.lean).
  GIVEN WITH THE SEED: the statements are not yours to turn. If you find one false, say at which input.
  Laid BY PROGRAM, IN A SANDBOX (cutbox-rows.mjs): the forced cells as the released guide's own fill.sh prints them over the translation 7fe0b4bca2464610… (all of the seat's roots in one cut). By AI agents, Wed Nov 11 2026. No macro, syntax, notation, axiom, sorry.
-/
import Derived.Test.YtgialbcohkpogaaChecked
import GoSem.Claim
import GoSem.ClaimJoined
import GoSem.ClaimMapViews
import Derived.JoinedTies
import Derived.KernelRfl
namespace Go.Proofs.Ytgialbcohkpogaa
/- THE CELL 'sum', in the pinned program and in every row, IS THE sha256 OF THE DUMP (.gsa) THAT YtgialbcohkpogaaProg.lean LOADS. Nothing in Lean hashes anything: it is a label: what it is worth is what the hold of that sum in a sandbox is worth. -/
noncomputable def Try.pinned : Pinned := { name := "ytgialbcohkpogaa", sum := "7fe0b4bca246461048c9d3c7a8745dc3956282ec4079d8a2abb574a5cd8f3a0c", checked := Try.checked }
namespace Rows
def none {H : Type} : Left H := { results := [], args := [] }

/-- 'constraintlaw06.SubstThen': WHATEVER THE INPUT: true; the input reads as it did. -/
def substThenSpec : ChangeSpec := { name := "substThen", fn := fun _ => fun
  | [d1, d2, d3] => { results := [.lit (.bool true)], args := [d1, d2, d3] }
  | _ => none }
def substThenRow : OpenClaim := { program := "ytgialbcohkpogaa", sum := "7fe0b4bca246461048c9d3c7a8745dc3956282ec4079d8a2abb574a5cd8f3a0c", func := "constraint/constraintlaw06.SubstThen", spec := "substThen", inPlace := ["internal/bytealg.abigen_runtime_cmpstring"], unfollowed := true, recurses := true, loops := true, apart := false }
def SubstThenSaid : Prop := substThenRow.holds Try.pinned (OpenSpec.ofChange substThenSpec)

/-- ITS FALSE NEIGHBOUR: 'it returns false'. Refute it at one input. -/
def substThenWrong : ChangeSpec := { name := "substThen", fn := fun _ => fun
  | [d1, d2, d3] => { results := [.lit (.bool false)], args := [d1, d2, d3] }
  | _ => none }
def SubstThenWrongFalsely : Prop := substThenRow.holds Try.pinned (OpenSpec.ofChange substThenWrong)

/-- 'constraintlaw06.SubstIdempotent': WHATEVER THE INPUT: true; the input reads as it did. -/
def substIdempotentSpec : ChangeSpec := { name := "substIdempotent", fn := fun _ => fun
  | [d1, d2] => { results := [.lit (.bool true)], args := [d1, d2] }
  | _ => none }
def substIdempotentRow : OpenClaim := { program := "ytgialbcohkpogaa", sum := "7fe0b4bca246461048c9d3c7a8745dc3956282ec4079d8a2abb574a5cd8f3a0c", func := "constraint/constraintlaw06.SubstIdempotent", spec := "substIdempotent", inPlace := ["internal/bytealg.abigen_runtime_cmpstring"], unfollowed := true, recurses := true, loops := true, apart := false }
def SubstIdempotentSaid : Prop := substIdempotentRow.holds Try.pinned (OpenSpec.ofChange substIdempotentSpec)

/-- ITS FALSE NEIGHBOUR: 'it returns false'. Refute it at one input. -/
def substIdempotentWrong : ChangeSpec := { name := "substIdempotent", fn := fun _ => fun
  | [d1, d2] => { results := [.lit (.bool false)], args := [d1, d2] }
  | _ => none }
def SubstIdempotentWrongFalsely : Prop := substIdempotentRow.holds Try.pinned (OpenSpec.ofChange substIdempotentWrong)

/-- 'constraintlaw06.SubstAssociates': WHATEVER THE INPUT: true; the input reads as it did. -/
def substAssociatesSpec : ChangeSpec := { name := "substAssociates", fn := fun _ => fun
  | [d1, d2, d3] => { results := [.lit (.bool true)], args := [d1, d2, d3] }
  | _ => none }
def substAssociatesRow : OpenClaim := { program := "ytgialbcohkpogaa", sum := "7fe0b4bca246461048c9d3c7a8745dc3956282ec4079d8a2abb574a5cd8f3a0c", func := "constraint/constraintlaw06.SubstAssociates", spec := "substAssociates", inPlace := ["internal/bytealg.abigen_runtime_cmpstring"], unfollowed := true, recurses := true, loops := true, apart := false }
def SubstAssociatesSaid : Prop := substAssociatesRow.holds Try.pinned (OpenSpec.ofChange substAssociatesSpec)

/-- ITS FALSE NEIGHBOUR: 'it returns false'. Refute it at one input. -/
def substAssociatesWrong : ChangeSpec := { name := "substAssociates", fn := fun _ => fun
  | [d1, d2, d3] => { results := [.lit (.bool false)], args := [d1, d2, d3] }
  | _ => none }
def SubstAssociatesWrongFalsely : Prop := substAssociatesRow.holds Try.pinned (OpenSpec.ofChange substAssociatesWrong)

/-- 'constraintlaw06.SubstRestricts': WHATEVER THE INPUT: true; the input reads as it did. -/
def substRestrictsSpec : ChangeSpec := { name := "substRestricts", fn := fun _ => fun
  | [d1, d2, d3] => { results := [.lit (.bool true)], args := [d1, d2, d3] }
  | _ => none }
def substRestrictsRow : OpenClaim := { program := "ytgialbcohkpogaa", sum := "7fe0b4bca246461048c9d3c7a8745dc3956282ec4079d8a2abb574a5cd8f3a0c", func := "constraint/constraintlaw06.SubstRestricts", spec := "substRestricts", inPlace := ["internal/bytealg.abigen_runtime_cmpstring"], unfollowed := true, recurses := true, loops := true, apart := false }
def SubstRestrictsSaid : Prop := substRestrictsRow.holds Try.pinned (OpenSpec.ofChange substRestrictsSpec)

/-- ITS FALSE NEIGHBOUR: 'it returns false'. Refute it at one input. -/
def substRestrictsWrong : ChangeSpec := { name := "substRestricts", fn := fun _ => fun
  | [d1, d2, d3] => { results := [.lit (.bool false)], args := [d1, d2, d3] }
  | _ => none }
def SubstRestrictsWrongFalsely : Prop := substRestrictsRow.holds Try.pinned (OpenSpec.ofChange substRestrictsWrong)

/- THE SECOND FORM. 'bulk': how many values and letters a reading holds, each counted each time it is reached (what is shared counts as often as it is met; a slice's spare places count too). A statement '..UptoSaid' is the law's where the arguments, and the package variables that the reading takes, are together of bulk at most 1048576: NARROWER than '..Said'. Prove '..Said' where nothing that the law and all that it calls make is longer than what came in: it says more and counts as full. Else prove '..UptoSaid'. A law counts once. -/
mutual
def uptoBulk {H : Type} : DataW H → Nat
  | .lit (.string bytes) => bytes.length + 1
  | .lit _ => 1
  | .nil => 1
  | .ptr d => uptoBulk d + 1
  | .slice elems spare => uptoBulkAll elems + uptoBulkAll spare + 1
  | .agg parts => uptoBulkAll parts + 1
  | .iface _ d => uptoBulk d + 1
  | .map entries => uptoBulkEntries entries + 1
  | .held _ => 1
def uptoBulkAll {H : Type} : List (DataW H) → Nat
  | [] => 0
  | d :: r => uptoBulk d + uptoBulkAll r
def uptoBulkEntries {H : Type} : List (Lit × DataW H) → Nat
  | [] => 0
  | x :: r => uptoBulkEntry x + uptoBulkEntries r
def uptoBulkEntry {H : Type} : Lit × DataW H → Nat
  | (.string bytes, d) => bytes.length + uptoBulk d + 1
  | (_, d) => uptoBulk d + 1
 end
def uptoSmall : (H : Type) → List (DataW H) → Bool := fun _ ds => decide (uptoBulkAll ds ≤ 1048576)
def OpenSpec.upto (s : _root_.Go.ChangeSpec) : _root_.Go.OpenSpec := { _root_.Go.OpenSpec.ofChange s with cond := some uptoSmall }

/-- 'constraintlaw06.SubstThen', WHERE WHAT IT READS IS OF BULK AT MOST 1048576: true; the input reads as it did. -/
def substThenUptoRow : OpenClaim := { program := "ytgialbcohkpogaa", sum := "7fe0b4bca246461048c9d3c7a8745dc3956282ec4079d8a2abb574a5cd8f3a0c", func := "constraint/constraintlaw06.SubstThen", spec := "substThen", inPlace := ["internal/bytealg.abigen_runtime_cmpstring"], unfollowed := true, recurses := true, loops := true, apart := false, narrowed := true }
def SubstThenUptoSaid : Prop := substThenUptoRow.holds Try.pinned (OpenSpec.upto substThenSpec)

/-- 'constraintlaw06.SubstIdempotent', WHERE WHAT IT READS IS OF BULK AT MOST 1048576: true; the input reads as it did. -/
def substIdempotentUptoRow : OpenClaim := { program := "ytgialbcohkpogaa", sum := "7fe0b4bca246461048c9d3c7a8745dc3956282ec4079d8a2abb574a5cd8f3a0c", func := "constraint/constraintlaw06.SubstIdempotent", spec := "substIdempotent", inPlace := ["internal/bytealg.abigen_runtime_cmpstring"], unfollowed := true, recurses := true, loops := true, apart := false, narrowed := true }
def SubstIdempotentUptoSaid : Prop := substIdempotentUptoRow.holds Try.pinned (OpenSpec.upto substIdempotentSpec)

/-- 'constraintlaw06.SubstAssociates', WHERE WHAT IT READS IS OF BULK AT MOST 1048576: true; the input reads as it did. -/
def substAssociatesUptoRow : OpenClaim := { program := "ytgialbcohkpogaa", sum := "7fe0b4bca246461048c9d3c7a8745dc3956282ec4079d8a2abb574a5cd8f3a0c", func := "constraint/constraintlaw06.SubstAssociates", spec := "substAssociates", inPlace := ["internal/bytealg.abigen_runtime_cmpstring"], unfollowed := true, recurses := true, loops := true, apart := false, narrowed := true }
def SubstAssociatesUptoSaid : Prop := substAssociatesUptoRow.holds Try.pinned (OpenSpec.upto substAssociatesSpec)

/-- 'constraintlaw06.SubstRestricts', WHERE WHAT IT READS IS OF BULK AT MOST 1048576: true; the input reads as it did. -/
def substRestrictsUptoRow : OpenClaim := { program := "ytgialbcohkpogaa", sum := "7fe0b4bca246461048c9d3c7a8745dc3956282ec4079d8a2abb574a5cd8f3a0c", func := "constraint/constraintlaw06.SubstRestricts", spec := "substRestricts", inPlace := ["internal/bytealg.abigen_runtime_cmpstring"], unfollowed := true, recurses := true, loops := true, apart := false, narrowed := true }
def SubstRestrictsUptoSaid : Prop := substRestrictsUptoRow.holds Try.pinned (OpenSpec.upto substRestrictsSpec)

end Rows
end Go.Proofs.Ytgialbcohkpogaa
