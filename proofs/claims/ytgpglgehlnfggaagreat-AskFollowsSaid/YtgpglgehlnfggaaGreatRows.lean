/-
  NARROWER THAN 'FOR EVERY INPUT', by the rows' own cells (each row's printed sentence says how): AskTests: loops · AskIns: loops · AskFollows: loops · AskStable: loops · AskOpposites: loops.
  DERIVED. THE GIVEN ROWS OF THIS SEAT. 5 by the template 'for every input the law returns true; each argument reads behind the call as it read before'; 0 by the template 'total and deterministic' (their statements: YtgpglgehlnfggaaGreatTotals.lean).
  GIVEN WITH THE SEED: the statements are not yours to turn. If you find one false, say at which input.
  Laid BY PROGRAM, IN A SANDBOX (cutbox-rows.mjs): the forced cells as the released guide's own fill.sh prints them over the translation 8b4617858954c93d… (all of the seat's roots in one cut). By AI agents, Wed Nov 11 2026. No macro, syntax, notation, axiom, sorry.
-/
import Derived.Test.YtgpglgehlnfggaaGreatChecked
import GoSem.Claim
import GoSem.ClaimJoined
import GoSem.ClaimMapViews
import Derived.JoinedTies
import Derived.KernelRfl
namespace Go.Proofs.YtgpglgehlnfggaaGreat
/- THE CELL 'sum', in the pinned program and in every row, IS THE sha256 OF THE DUMP (.gsa) THAT YtgpglgehlnfggaaGreatProg.lean LOADS. Nothing in Lean hashes anything: it is a label: what it is worth is what the hold of that sum in a sandbox is worth. -/
noncomputable def Tryz.pinned : Pinned := { name := "ytgpglgehlnfggaagreat", sum := "8b4617858954c93dacae806634c9e6df0cfb9ceb630363f1b833e28051c470f7", checked := Tryz.checked }
namespace Rows
def none {H : Type} : Left H := { results := [], args := [] }

/-- 'constraintlaw11.AskTests': WHATEVER THE INPUT: true; the input reads as it did. -/
def askTestsSpec : ChangeSpec := { name := "askTests", fn := fun _ => fun
  | [d] => { results := [.lit (.bool true)], args := [d] }
  | _ => none }
def askTestsRow : OpenClaim := { program := "ytgpglgehlnfggaagreat", sum := "8b4617858954c93dacae806634c9e6df0cfb9ceb630363f1b833e28051c470f7", func := "constraint/constraintlaw11.AskTests", spec := "askTests", inPlace := ["internal/bytealg.abigen_runtime_cmpstring"], unfollowed := true, recurses := true, loops := true, apart := false }
def AskTestsSaid : Prop := askTestsRow.holds Tryz.pinned (OpenSpec.ofChange askTestsSpec)

/-- ITS FALSE NEIGHBOUR: 'it returns false'. Refute it at one input. -/
def askTestsWrong : ChangeSpec := { name := "askTests", fn := fun _ => fun
  | [d] => { results := [.lit (.bool false)], args := [d] }
  | _ => none }
def AskTestsWrongFalsely : Prop := askTestsRow.holds Tryz.pinned (OpenSpec.ofChange askTestsWrong)

/-- 'constraintlaw11.AskIns': WHATEVER THE INPUT: true; the input reads as it did. -/
def askInsSpec : ChangeSpec := { name := "askIns", fn := fun _ => fun
  | [d1, d2, d3] => { results := [.lit (.bool true)], args := [d1, d2, d3] }
  | _ => none }
def askInsRow : OpenClaim := { program := "ytgpglgehlnfggaagreat", sum := "8b4617858954c93dacae806634c9e6df0cfb9ceb630363f1b833e28051c470f7", func := "constraint/constraintlaw11.AskIns", spec := "askIns", inPlace := ["internal/bytealg.abigen_runtime_cmpstring"], unfollowed := true, recurses := true, loops := true, apart := false }
def AskInsSaid : Prop := askInsRow.holds Tryz.pinned (OpenSpec.ofChange askInsSpec)

/-- ITS FALSE NEIGHBOUR: 'it returns false'. Refute it at one input. -/
def askInsWrong : ChangeSpec := { name := "askIns", fn := fun _ => fun
  | [d1, d2, d3] => { results := [.lit (.bool false)], args := [d1, d2, d3] }
  | _ => none }
def AskInsWrongFalsely : Prop := askInsRow.holds Tryz.pinned (OpenSpec.ofChange askInsWrong)

/-- 'constraintlaw11.AskFollows': WHATEVER THE INPUT: true; the input reads as it did. -/
def askFollowsSpec : ChangeSpec := { name := "askFollows", fn := fun _ => fun
  | [d1, d2] => { results := [.lit (.bool true)], args := [d1, d2] }
  | _ => none }
def askFollowsRow : OpenClaim := { program := "ytgpglgehlnfggaagreat", sum := "8b4617858954c93dacae806634c9e6df0cfb9ceb630363f1b833e28051c470f7", func := "constraint/constraintlaw11.AskFollows", spec := "askFollows", inPlace := ["internal/bytealg.abigen_runtime_cmpstring"], unfollowed := true, recurses := true, loops := true, apart := false }
def AskFollowsSaid : Prop := askFollowsRow.holds Tryz.pinned (OpenSpec.ofChange askFollowsSpec)

/-- ITS FALSE NEIGHBOUR: 'it returns false'. Refute it at one input. -/
def askFollowsWrong : ChangeSpec := { name := "askFollows", fn := fun _ => fun
  | [d1, d2] => { results := [.lit (.bool false)], args := [d1, d2] }
  | _ => none }
def AskFollowsWrongFalsely : Prop := askFollowsRow.holds Tryz.pinned (OpenSpec.ofChange askFollowsWrong)

/-- 'constraintlaw11.AskStable': WHATEVER THE INPUT: true; the input reads as it did. -/
def askStableSpec : ChangeSpec := { name := "askStable", fn := fun _ => fun
  | [d1, d2] => { results := [.lit (.bool true)], args := [d1, d2] }
  | _ => none }
def askStableRow : OpenClaim := { program := "ytgpglgehlnfggaagreat", sum := "8b4617858954c93dacae806634c9e6df0cfb9ceb630363f1b833e28051c470f7", func := "constraint/constraintlaw11.AskStable", spec := "askStable", inPlace := ["internal/bytealg.abigen_runtime_cmpstring"], unfollowed := true, recurses := true, loops := true, apart := false }
def AskStableSaid : Prop := askStableRow.holds Tryz.pinned (OpenSpec.ofChange askStableSpec)

/-- ITS FALSE NEIGHBOUR: 'it returns false'. Refute it at one input. -/
def askStableWrong : ChangeSpec := { name := "askStable", fn := fun _ => fun
  | [d1, d2] => { results := [.lit (.bool false)], args := [d1, d2] }
  | _ => none }
def AskStableWrongFalsely : Prop := askStableRow.holds Tryz.pinned (OpenSpec.ofChange askStableWrong)

/-- 'constraintlaw11.AskOpposites': WHATEVER THE INPUT: true; the input reads as it did. -/
def askOppositesSpec : ChangeSpec := { name := "askOpposites", fn := fun _ => fun
  | [d1, d2] => { results := [.lit (.bool true)], args := [d1, d2] }
  | _ => none }
def askOppositesRow : OpenClaim := { program := "ytgpglgehlnfggaagreat", sum := "8b4617858954c93dacae806634c9e6df0cfb9ceb630363f1b833e28051c470f7", func := "constraint/constraintlaw11.AskOpposites", spec := "askOpposites", inPlace := ["internal/bytealg.abigen_runtime_cmpstring"], unfollowed := true, recurses := true, loops := true, apart := false }
def AskOppositesSaid : Prop := askOppositesRow.holds Tryz.pinned (OpenSpec.ofChange askOppositesSpec)

/-- ITS FALSE NEIGHBOUR: 'it returns false'. Refute it at one input. -/
def askOppositesWrong : ChangeSpec := { name := "askOpposites", fn := fun _ => fun
  | [d1, d2] => { results := [.lit (.bool false)], args := [d1, d2] }
  | _ => none }
def AskOppositesWrongFalsely : Prop := askOppositesRow.holds Tryz.pinned (OpenSpec.ofChange askOppositesWrong)

/- THE SECOND FORM. 'bulk': how many values and letters a reading holds, each counted each time it is reached (what is shared counts as often as it is met; a slice's spare places count too). A statement '..UptoSaid' is the law's where the arguments, and the package variables that the reading takes, are together of bulk at most 1048576: NARROWER than '..Said'. Prove '..Said' where nothing that the law and all that it calls make is longer than what came in: it says more and counts as full. Else prove '..UptoSaid'. A law counts once. -/
mutual
def uptoBulk {H : Type} : DataW H → Nat
  | .lit (.string bytes) => bytes.length + 1
  | .lit _ => 1
  | .nil => 1
  | .ptr d => uptoBulk d + 1
  | .slice elems spare => uptoBulkAll elems + uptoBulkAll spare + 1
  | .agg parts => uptoBulkAll parts + 1
  | .iface _ d => uptoBulk d + 1
  | .map entries => uptoBulkEntries entries + 1
  | .held _ => 1
def uptoBulkAll {H : Type} : List (DataW H) → Nat
  | [] => 0
  | d :: r => uptoBulk d + uptoBulkAll r
def uptoBulkEntries {H : Type} : List (Lit × DataW H) → Nat
  | [] => 0
  | x :: r => uptoBulkEntry x + uptoBulkEntries r
def uptoBulkEntry {H : Type} : Lit × DataW H → Nat
  | (.string bytes, d) => bytes.length + uptoBulk d + 1
  | (_, d) => uptoBulk d + 1
 end
def uptoSmall : (H : Type) → List (DataW H) → Bool := fun _ ds => decide (uptoBulkAll ds ≤ 1048576)
def OpenSpec.upto (s : _root_.Go.ChangeSpec) : _root_.Go.OpenSpec := { _root_.Go.OpenSpec.ofChange s with cond := some uptoSmall }

/-- 'constraintlaw11.AskTests', WHERE WHAT IT READS IS OF BULK AT MOST 1048576: true; the input reads as it did. -/
def askTestsUptoRow : OpenClaim := { program := "ytgpglgehlnfggaagreat", sum := "8b4617858954c93dacae806634c9e6df0cfb9ceb630363f1b833e28051c470f7", func := "constraint/constraintlaw11.AskTests", spec := "askTests", inPlace := ["internal/bytealg.abigen_runtime_cmpstring"], unfollowed := true, recurses := true, loops := true, apart := false, narrowed := true }
def AskTestsUptoSaid : Prop := askTestsUptoRow.holds Tryz.pinned (OpenSpec.upto askTestsSpec)

/-- 'constraintlaw11.AskIns', WHERE WHAT IT READS IS OF BULK AT MOST 1048576: true; the input reads as it did. -/
def askInsUptoRow : OpenClaim := { program := "ytgpglgehlnfggaagreat", sum := "8b4617858954c93dacae806634c9e6df0cfb9ceb630363f1b833e28051c470f7", func := "constraint/constraintlaw11.AskIns", spec := "askIns", inPlace := ["internal/bytealg.abigen_runtime_cmpstring"], unfollowed := true, recurses := true, loops := true, apart := false, narrowed := true }
def AskInsUptoSaid : Prop := askInsUptoRow.holds Tryz.pinned (OpenSpec.upto askInsSpec)

/-- 'constraintlaw11.AskFollows', WHERE WHAT IT READS IS OF BULK AT MOST 1048576: true; the input reads as it did. -/
def askFollowsUptoRow : OpenClaim := { program := "ytgpglgehlnfggaagreat", sum := "8b4617858954c93dacae806634c9e6df0cfb9ceb630363f1b833e28051c470f7", func := "constraint/constraintlaw11.AskFollows", spec := "askFollows", inPlace := ["internal/bytealg.abigen_runtime_cmpstring"], unfollowed := true, recurses := true, loops := true, apart := false, narrowed := true }
def AskFollowsUptoSaid : Prop := askFollowsUptoRow.holds Tryz.pinned (OpenSpec.upto askFollowsSpec)

/-- 'constraintlaw11.AskStable', WHERE WHAT IT READS IS OF BULK AT MOST 1048576: true; the input reads as it did. -/
def askStableUptoRow : OpenClaim := { program := "ytgpglgehlnfggaagreat", sum := "8b4617858954c93dacae806634c9e6df0cfb9ceb630363f1b833e28051c470f7", func := "constraint/constraintlaw11.AskStable", spec := "askStable", inPlace := ["internal/bytealg.abigen_runtime_cmpstring"], unfollowed := true, recurses := true, loops := true, apart := false, narrowed := true }
def AskStableUptoSaid : Prop := askStableUptoRow.holds Tryz.pinned (OpenSpec.upto askStableSpec)

/-- 'constraintlaw11.AskOpposites', WHERE WHAT IT READS IS OF BULK AT MOST 1048576: true; the input reads as it did. -/
def askOppositesUptoRow : OpenClaim := { program := "ytgpglgehlnfggaagreat", sum := "8b4617858954c93dacae806634c9e6df0cfb9ceb630363f1b833e28051c470f7", func := "constraint/constraintlaw11.AskOpposites", spec := "askOpposites", inPlace := ["internal/bytealg.abigen_runtime_cmpstring"], unfollowed := true, recurses := true, loops := true, apart := false, narrowed := true }
def AskOppositesUptoSaid : Prop := askOppositesUptoRow.holds Tryz.pinned (OpenSpec.upto askOppositesSpec)

end Rows
end Go.Proofs.YtgpglgehlnfggaaGreat
