/-
  NARROWER THAN 'FOR EVERY INPUT', by the rows' own cells (each row's printed sentence says how): VariantShifts: loops · VariantRules: loops · VariantNumbers: loops · VariantInverse: loops · VariantBack: loops · VariantEquivalent: loops · VariantShifted: loops.
  DERIVED. THE GIVEN ROWS OF THIS SEAT. 7 by the template 'for every input the law returns true; each argument reads behind the call as it read before'; 0 by the template 'total and deterministic' (their statements: YtpnjjahimhhjkaaTotals.lean).
  GIVEN WITH THE SEED: the statements are not yours to turn. If you find one false, say at which input.
  Laid BY PROGRAM, IN A SANDBOX (cutbox-rows.mjs): the forced cells as the released guide's own fill.sh prints them over the translation 88ec6721525238c5… (all of the seat's roots in one cut). By AI agents, Wed Nov 11 2026. No macro, syntax, notation, axiom, sorry.
-/
import Derived.Test.YtpnjjahimhhjkaaChecked
import GoSem.Claim
import GoSem.ClaimJoined
import GoSem.ClaimMapViews
import Derived.JoinedTies
import Derived.KernelRfl
namespace Go.Proofs.Ytpnjjahimhhjkaa
/- THE CELL 'sum', in the pinned program and in every row, IS THE sha256 OF THE DUMP (.gsa) THAT YtpnjjahimhhjkaaProg.lean LOADS. Nothing in Lean hashes anything: it is a label: what it is worth is what the hold of that sum in a sandbox is worth. -/
noncomputable def Try.pinned : Pinned := { name := "ytpnjjahimhhjkaa", sum := "88ec6721525238c51adc5b28290aaa41dd30bd3ac4dd29e1c43b149cb3817f5b", checked := Try.checked }
namespace Rows
def none {H : Type} : Left H := { results := [], args := [] }

/-- 'constraintlaw09.VariantShifts': WHATEVER THE INPUT: true; the input reads as it did. -/
def variantShiftsSpec : ChangeSpec := { name := "variantShifts", fn := fun _ => fun
  | [d1, d2] => { results := [.lit (.bool true)], args := [d1, d2] }
  | _ => none }
def variantShiftsRow : OpenClaim := { program := "ytpnjjahimhhjkaa", sum := "88ec6721525238c51adc5b28290aaa41dd30bd3ac4dd29e1c43b149cb3817f5b", func := "constraint/constraintlaw09.VariantShifts", spec := "variantShifts", inPlace := ["internal/bytealg.abigen_runtime_cmpstring"], unfollowed := true, recurses := true, loops := true, apart := false }
def VariantShiftsSaid : Prop := variantShiftsRow.holds Try.pinned (OpenSpec.ofChange variantShiftsSpec)

/-- ITS FALSE NEIGHBOUR: 'it returns false'. Refute it at one input. -/
def variantShiftsWrong : ChangeSpec := { name := "variantShifts", fn := fun _ => fun
  | [d1, d2] => { results := [.lit (.bool false)], args := [d1, d2] }
  | _ => none }
def VariantShiftsWrongFalsely : Prop := variantShiftsRow.holds Try.pinned (OpenSpec.ofChange variantShiftsWrong)

/-- 'constraintlaw09.VariantRules': WHATEVER THE INPUT: true; the input reads as it did. -/
def variantRulesSpec : ChangeSpec := { name := "variantRules", fn := fun _ => fun
  | [d1, d2] => { results := [.lit (.bool true)], args := [d1, d2] }
  | _ => none }
def variantRulesRow : OpenClaim := { program := "ytpnjjahimhhjkaa", sum := "88ec6721525238c51adc5b28290aaa41dd30bd3ac4dd29e1c43b149cb3817f5b", func := "constraint/constraintlaw09.VariantRules", spec := "variantRules", inPlace := ["internal/bytealg.abigen_runtime_cmpstring"], unfollowed := true, recurses := true, loops := true, apart := false }
def VariantRulesSaid : Prop := variantRulesRow.holds Try.pinned (OpenSpec.ofChange variantRulesSpec)

/-- ITS FALSE NEIGHBOUR: 'it returns false'. Refute it at one input. -/
def variantRulesWrong : ChangeSpec := { name := "variantRules", fn := fun _ => fun
  | [d1, d2] => { results := [.lit (.bool false)], args := [d1, d2] }
  | _ => none }
def VariantRulesWrongFalsely : Prop := variantRulesRow.holds Try.pinned (OpenSpec.ofChange variantRulesWrong)

/-- 'constraintlaw09.VariantNumbers': WHATEVER THE INPUT: true; the input reads as it did. -/
def variantNumbersSpec : ChangeSpec := { name := "variantNumbers", fn := fun _ => fun
  | [d] => { results := [.lit (.bool true)], args := [d] }
  | _ => none }
def variantNumbersRow : OpenClaim := { program := "ytpnjjahimhhjkaa", sum := "88ec6721525238c51adc5b28290aaa41dd30bd3ac4dd29e1c43b149cb3817f5b", func := "constraint/constraintlaw09.VariantNumbers", spec := "variantNumbers", inPlace := ["internal/bytealg.abigen_runtime_cmpstring"], unfollowed := true, recurses := true, loops := true, apart := false }
def VariantNumbersSaid : Prop := variantNumbersRow.holds Try.pinned (OpenSpec.ofChange variantNumbersSpec)

/-- ITS FALSE NEIGHBOUR: 'it returns false'. Refute it at one input. -/
def variantNumbersWrong : ChangeSpec := { name := "variantNumbers", fn := fun _ => fun
  | [d] => { results := [.lit (.bool false)], args := [d] }
  | _ => none }
def VariantNumbersWrongFalsely : Prop := variantNumbersRow.holds Try.pinned (OpenSpec.ofChange variantNumbersWrong)

/-- 'constraintlaw09.VariantInverse': WHATEVER THE INPUT: true; the input reads as it did. -/
def variantInverseSpec : ChangeSpec := { name := "variantInverse", fn := fun _ => fun
  | [d] => { results := [.lit (.bool true)], args := [d] }
  | _ => none }
def variantInverseRow : OpenClaim := { program := "ytpnjjahimhhjkaa", sum := "88ec6721525238c51adc5b28290aaa41dd30bd3ac4dd29e1c43b149cb3817f5b", func := "constraint/constraintlaw09.VariantInverse", spec := "variantInverse", inPlace := ["internal/bytealg.abigen_runtime_cmpstring"], unfollowed := true, recurses := true, loops := true, apart := false }
def VariantInverseSaid : Prop := variantInverseRow.holds Try.pinned (OpenSpec.ofChange variantInverseSpec)

/-- ITS FALSE NEIGHBOUR: 'it returns false'. Refute it at one input. -/
def variantInverseWrong : ChangeSpec := { name := "variantInverse", fn := fun _ => fun
  | [d] => { results := [.lit (.bool false)], args := [d] }
  | _ => none }
def VariantInverseWrongFalsely : Prop := variantInverseRow.holds Try.pinned (OpenSpec.ofChange variantInverseWrong)

/-- 'constraintlaw09.VariantBack': WHATEVER THE INPUT: true; the input reads as it did. -/
def variantBackSpec : ChangeSpec := { name := "variantBack", fn := fun _ => fun
  | [d1, d2] => { results := [.lit (.bool true)], args := [d1, d2] }
  | _ => none }
def variantBackRow : OpenClaim := { program := "ytpnjjahimhhjkaa", sum := "88ec6721525238c51adc5b28290aaa41dd30bd3ac4dd29e1c43b149cb3817f5b", func := "constraint/constraintlaw09.VariantBack", spec := "variantBack", inPlace := ["internal/bytealg.abigen_runtime_cmpstring"], unfollowed := true, recurses := true, loops := true, apart := false }
def VariantBackSaid : Prop := variantBackRow.holds Try.pinned (OpenSpec.ofChange variantBackSpec)

/-- ITS FALSE NEIGHBOUR: 'it returns false'. Refute it at one input. -/
def variantBackWrong : ChangeSpec := { name := "variantBack", fn := fun _ => fun
  | [d1, d2] => { results := [.lit (.bool false)], args := [d1, d2] }
  | _ => none }
def VariantBackWrongFalsely : Prop := variantBackRow.holds Try.pinned (OpenSpec.ofChange variantBackWrong)

/-- 'constraintlaw09.VariantEquivalent': WHATEVER THE INPUT: true; the input reads as it did. -/
def variantEquivalentSpec : ChangeSpec := { name := "variantEquivalent", fn := fun _ => fun
  | [d1, d2, d3] => { results := [.lit (.bool true)], args := [d1, d2, d3] }
  | _ => none }
def variantEquivalentRow : OpenClaim := { program := "ytpnjjahimhhjkaa", sum := "88ec6721525238c51adc5b28290aaa41dd30bd3ac4dd29e1c43b149cb3817f5b", func := "constraint/constraintlaw09.VariantEquivalent", spec := "variantEquivalent", inPlace := ["internal/bytealg.abigen_runtime_cmpstring"], unfollowed := true, recurses := true, loops := true, apart := false }
def VariantEquivalentSaid : Prop := variantEquivalentRow.holds Try.pinned (OpenSpec.ofChange variantEquivalentSpec)

/-- ITS FALSE NEIGHBOUR: 'it returns false'. Refute it at one input. -/
def variantEquivalentWrong : ChangeSpec := { name := "variantEquivalent", fn := fun _ => fun
  | [d1, d2, d3] => { results := [.lit (.bool false)], args := [d1, d2, d3] }
  | _ => none }
def VariantEquivalentWrongFalsely : Prop := variantEquivalentRow.holds Try.pinned (OpenSpec.ofChange variantEquivalentWrong)

/-- 'constraintlaw09.VariantShifted': WHATEVER THE INPUT: true; the input reads as it did. -/
def variantShiftedSpec : ChangeSpec := { name := "variantShifted", fn := fun _ => fun
  | [d1, d2] => { results := [.lit (.bool true)], args := [d1, d2] }
  | _ => none }
def variantShiftedRow : OpenClaim := { program := "ytpnjjahimhhjkaa", sum := "88ec6721525238c51adc5b28290aaa41dd30bd3ac4dd29e1c43b149cb3817f5b", func := "constraint/constraintlaw09.VariantShifted", spec := "variantShifted", inPlace := ["internal/bytealg.abigen_runtime_cmpstring"], unfollowed := true, recurses := true, loops := true, apart := false }
def VariantShiftedSaid : Prop := variantShiftedRow.holds Try.pinned (OpenSpec.ofChange variantShiftedSpec)

/-- ITS FALSE NEIGHBOUR: 'it returns false'. Refute it at one input. -/
def variantShiftedWrong : ChangeSpec := { name := "variantShifted", fn := fun _ => fun
  | [d1, d2] => { results := [.lit (.bool false)], args := [d1, d2] }
  | _ => none }
def VariantShiftedWrongFalsely : Prop := variantShiftedRow.holds Try.pinned (OpenSpec.ofChange variantShiftedWrong)

/- THE SECOND FORM. 'bulk': how many values and letters a reading holds, each counted each time it is reached (what is shared counts as often as it is met; a slice's spare places count too). A statement '..UptoSaid' is the law's where the arguments, and the package variables that the reading takes, are together of bulk at most 1048576: NARROWER than '..Said'. Prove '..Said' where nothing that the law and all that it calls make is longer than what came in: it says more and counts as full. Else prove '..UptoSaid'. A law counts once. -/
mutual
def uptoBulk {H : Type} : DataW H → Nat
  | .lit (.string bytes) => bytes.length + 1
  | .lit _ => 1
  | .nil => 1
  | .ptr d => uptoBulk d + 1
  | .slice elems spare => uptoBulkAll elems + uptoBulkAll spare + 1
  | .agg parts => uptoBulkAll parts + 1
  | .iface _ d => uptoBulk d + 1
  | .map entries => uptoBulkEntries entries + 1
  | .held _ => 1
def uptoBulkAll {H : Type} : List (DataW H) → Nat
  | [] => 0
  | d :: r => uptoBulk d + uptoBulkAll r
def uptoBulkEntries {H : Type} : List (Lit × DataW H) → Nat
  | [] => 0
  | x :: r => uptoBulkEntry x + uptoBulkEntries r
def uptoBulkEntry {H : Type} : Lit × DataW H → Nat
  | (.string bytes, d) => bytes.length + uptoBulk d + 1
  | (_, d) => uptoBulk d + 1
 end
def uptoSmall : (H : Type) → List (DataW H) → Bool := fun _ ds => decide (uptoBulkAll ds ≤ 1048576)
def OpenSpec.upto (s : _root_.Go.ChangeSpec) : _root_.Go.OpenSpec := { _root_.Go.OpenSpec.ofChange s with cond := some uptoSmall }

/-- 'constraintlaw09.VariantShifts', WHERE WHAT IT READS IS OF BULK AT MOST 1048576: true; the input reads as it did. -/
def variantShiftsUptoRow : OpenClaim := { program := "ytpnjjahimhhjkaa", sum := "88ec6721525238c51adc5b28290aaa41dd30bd3ac4dd29e1c43b149cb3817f5b", func := "constraint/constraintlaw09.VariantShifts", spec := "variantShifts", inPlace := ["internal/bytealg.abigen_runtime_cmpstring"], unfollowed := true, recurses := true, loops := true, apart := false, narrowed := true }
def VariantShiftsUptoSaid : Prop := variantShiftsUptoRow.holds Try.pinned (OpenSpec.upto variantShiftsSpec)

/-- 'constraintlaw09.VariantRules', WHERE WHAT IT READS IS OF BULK AT MOST 1048576: true; the input reads as it did. -/
def variantRulesUptoRow : OpenClaim := { program := "ytpnjjahimhhjkaa", sum := "88ec6721525238c51adc5b28290aaa41dd30bd3ac4dd29e1c43b149cb3817f5b", func := "constraint/constraintlaw09.VariantRules", spec := "variantRules", inPlace := ["internal/bytealg.abigen_runtime_cmpstring"], unfollowed := true, recurses := true, loops := true, apart := false, narrowed := true }
def VariantRulesUptoSaid : Prop := variantRulesUptoRow.holds Try.pinned (OpenSpec.upto variantRulesSpec)

/-- 'constraintlaw09.VariantNumbers', WHERE WHAT IT READS IS OF BULK AT MOST 1048576: true; the input reads as it did. -/
def variantNumbersUptoRow : OpenClaim := { program := "ytpnjjahimhhjkaa", sum := "88ec6721525238c51adc5b28290aaa41dd30bd3ac4dd29e1c43b149cb3817f5b", func := "constraint/constraintlaw09.VariantNumbers", spec := "variantNumbers", inPlace := ["internal/bytealg.abigen_runtime_cmpstring"], unfollowed := true, recurses := true, loops := true, apart := false, narrowed := true }
def VariantNumbersUptoSaid : Prop := variantNumbersUptoRow.holds Try.pinned (OpenSpec.upto variantNumbersSpec)

/-- 'constraintlaw09.VariantInverse', WHERE WHAT IT READS IS OF BULK AT MOST 1048576: true; the input reads as it did. -/
def variantInverseUptoRow : OpenClaim := { program := "ytpnjjahimhhjkaa", sum := "88ec6721525238c51adc5b28290aaa41dd30bd3ac4dd29e1c43b149cb3817f5b", func := "constraint/constraintlaw09.VariantInverse", spec := "variantInverse", inPlace := ["internal/bytealg.abigen_runtime_cmpstring"], unfollowed := true, recurses := true, loops := true, apart := false, narrowed := true }
def VariantInverseUptoSaid : Prop := variantInverseUptoRow.holds Try.pinned (OpenSpec.upto variantInverseSpec)

/-- 'constraintlaw09.VariantBack', WHERE WHAT IT READS IS OF BULK AT MOST 1048576: true; the input reads as it did. -/
def variantBackUptoRow : OpenClaim := { program := "ytpnjjahimhhjkaa", sum := "88ec6721525238c51adc5b28290aaa41dd30bd3ac4dd29e1c43b149cb3817f5b", func := "constraint/constraintlaw09.VariantBack", spec := "variantBack", inPlace := ["internal/bytealg.abigen_runtime_cmpstring"], unfollowed := true, recurses := true, loops := true, apart := false, narrowed := true }
def VariantBackUptoSaid : Prop := variantBackUptoRow.holds Try.pinned (OpenSpec.upto variantBackSpec)

/-- 'constraintlaw09.VariantEquivalent', WHERE WHAT IT READS IS OF BULK AT MOST 1048576: true; the input reads as it did. -/
def variantEquivalentUptoRow : OpenClaim := { program := "ytpnjjahimhhjkaa", sum := "88ec6721525238c51adc5b28290aaa41dd30bd3ac4dd29e1c43b149cb3817f5b", func := "constraint/constraintlaw09.VariantEquivalent", spec := "variantEquivalent", inPlace := ["internal/bytealg.abigen_runtime_cmpstring"], unfollowed := true, recurses := true, loops := true, apart := false, narrowed := true }
def VariantEquivalentUptoSaid : Prop := variantEquivalentUptoRow.holds Try.pinned (OpenSpec.upto variantEquivalentSpec)

/-- 'constraintlaw09.VariantShifted', WHERE WHAT IT READS IS OF BULK AT MOST 1048576: true; the input reads as it did. -/
def variantShiftedUptoRow : OpenClaim := { program := "ytpnjjahimhhjkaa", sum := "88ec6721525238c51adc5b28290aaa41dd30bd3ac4dd29e1c43b149cb3817f5b", func := "constraint/constraintlaw09.VariantShifted", spec := "variantShifted", inPlace := ["internal/bytealg.abigen_runtime_cmpstring"], unfollowed := true, recurses := true, loops := true, apart := false, narrowed := true }
def VariantShiftedUptoSaid : Prop := variantShiftedUptoRow.holds Try.pinned (OpenSpec.upto variantShiftedSpec)

end Rows
end Go.Proofs.Ytpnjjahimhhjkaa
