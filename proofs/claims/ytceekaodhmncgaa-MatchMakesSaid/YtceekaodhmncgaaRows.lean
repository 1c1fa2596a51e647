/-
  NARROWER THAN 'FOR EVERY INPUT', by the rows' own cells (each row's printed sentence says how): MatchTerms: loops · MatchAtoms: loops · MatchInstances: loops · MatchMakes: loops · MatchInverts: loops · MatchKeeps: loops.
  DERIVED. THE GIVEN ROWS OF THIS SEAT. 6 by the template 'for every input the law returns true; each argument reads behind the call as it read before'; 0 by the template 'total and deterministic' (their statements: YtceekaodhmncgaaTotals.lean).
  GIVEN WITH THE SEED: the statements are not yours to turn. If you find one false, say at which input.
  Laid BY PROGRAM, IN A SANDBOX (cutbox-rows.mjs): the forced cells as the released guide's own fill.sh prints them over the translation 68b3799c26b280ca… (all of the seat's roots in one cut). By AI agents, Wed Nov 11 2026. No macro, syntax, notation, axiom, sorry.
-/
import Derived.Test.YtceekaodhmncgaaChecked
import GoSem.Claim
import GoSem.ClaimJoined
import GoSem.ClaimMapViews
import Derived.JoinedTies
import Derived.KernelRfl
namespace Go.Proofs.Ytceekaodhmncgaa
/- THE CELL 'sum', in the pinned program and in every row, IS THE sha256 OF THE DUMP (.gsa) THAT YtceekaodhmncgaaProg.lean LOADS. Nothing in Lean hashes anything: it is a label: what it is worth is what the hold of that sum in a sandbox is worth. -/
noncomputable def Try.pinned : Pinned := { name := "ytceekaodhmncgaa", sum := "68b3799c26b280caaf0cb33ec4c7db796db7ef02dff3049f4129bfc723656952", checked := Try.checked }
namespace Rows
def none {H : Type} : Left H := { results := [], args := [] }

/-- 'constraintlaw08.MatchTerms': WHATEVER THE INPUT: true; the input reads as it did. -/
def matchTermsSpec : ChangeSpec := { name := "matchTerms", fn := fun _ => fun
  | [d] => { results := [.lit (.bool true)], args := [d] }
  | _ => none }
def matchTermsRow : OpenClaim := { program := "ytceekaodhmncgaa", sum := "68b3799c26b280caaf0cb33ec4c7db796db7ef02dff3049f4129bfc723656952", func := "constraint/constraintlaw08.MatchTerms", spec := "matchTerms", inPlace := ["internal/bytealg.abigen_runtime_cmpstring"], unfollowed := true, recurses := true, loops := true, apart := false }
def MatchTermsSaid : Prop := matchTermsRow.holds Try.pinned (OpenSpec.ofChange matchTermsSpec)

/-- ITS FALSE NEIGHBOUR: 'it returns false'. Refute it at one input. -/
def matchTermsWrong : ChangeSpec := { name := "matchTerms", fn := fun _ => fun
  | [d] => { results := [.lit (.bool false)], args := [d] }
  | _ => none }
def MatchTermsWrongFalsely : Prop := matchTermsRow.holds Try.pinned (OpenSpec.ofChange matchTermsWrong)

/-- 'constraintlaw08.MatchAtoms': WHATEVER THE INPUT: true; the input reads as it did. -/
def matchAtomsSpec : ChangeSpec := { name := "matchAtoms", fn := fun _ => fun
  | [d1, d2, d3] => { results := [.lit (.bool true)], args := [d1, d2, d3] }
  | _ => none }
def matchAtomsRow : OpenClaim := { program := "ytceekaodhmncgaa", sum := "68b3799c26b280caaf0cb33ec4c7db796db7ef02dff3049f4129bfc723656952", func := "constraint/constraintlaw08.MatchAtoms", spec := "matchAtoms", inPlace := ["internal/bytealg.abigen_runtime_cmpstring"], unfollowed := true, recurses := true, loops := true, apart := false }
def MatchAtomsSaid : Prop := matchAtomsRow.holds Try.pinned (OpenSpec.ofChange matchAtomsSpec)

/-- ITS FALSE NEIGHBOUR: 'it returns false'. Refute it at one input. -/
def matchAtomsWrong : ChangeSpec := { name := "matchAtoms", fn := fun _ => fun
  | [d1, d2, d3] => { results := [.lit (.bool false)], args := [d1, d2, d3] }
  | _ => none }
def MatchAtomsWrongFalsely : Prop := matchAtomsRow.holds Try.pinned (OpenSpec.ofChange matchAtomsWrong)

/-- 'constraintlaw08.MatchInstances': WHATEVER THE INPUT: true; the input reads as it did. -/
def matchInstancesSpec : ChangeSpec := { name := "matchInstances", fn := fun _ => fun
  | [d1, d2, d3] => { results := [.lit (.bool true)], args := [d1, d2, d3] }
  | _ => none }
def matchInstancesRow : OpenClaim := { program := "ytceekaodhmncgaa", sum := "68b3799c26b280caaf0cb33ec4c7db796db7ef02dff3049f4129bfc723656952", func := "constraint/constraintlaw08.MatchInstances", spec := "matchInstances", inPlace := ["internal/bytealg.abigen_runtime_cmpstring"], unfollowed := true, recurses := true, loops := true, apart := false }
def MatchInstancesSaid : Prop := matchInstancesRow.holds Try.pinned (OpenSpec.ofChange matchInstancesSpec)

/-- ITS FALSE NEIGHBOUR: 'it returns false'. Refute it at one input. -/
def matchInstancesWrong : ChangeSpec := { name := "matchInstances", fn := fun _ => fun
  | [d1, d2, d3] => { results := [.lit (.bool false)], args := [d1, d2, d3] }
  | _ => none }
def MatchInstancesWrongFalsely : Prop := matchInstancesRow.holds Try.pinned (OpenSpec.ofChange matchInstancesWrong)

/-- 'constraintlaw08.MatchMakes': WHATEVER THE INPUT: true; the input reads as it did. -/
def matchMakesSpec : ChangeSpec := { name := "matchMakes", fn := fun _ => fun
  | [d1, d2] => { results := [.lit (.bool true)], args := [d1, d2] }
  | _ => none }
def matchMakesRow : OpenClaim := { program := "ytceekaodhmncgaa", sum := "68b3799c26b280caaf0cb33ec4c7db796db7ef02dff3049f4129bfc723656952", func := "constraint/constraintlaw08.MatchMakes", spec := "matchMakes", inPlace := ["internal/bytealg.abigen_runtime_cmpstring"], unfollowed := true, recurses := true, loops := true, apart := false }
def MatchMakesSaid : Prop := matchMakesRow.holds Try.pinned (OpenSpec.ofChange matchMakesSpec)

/-- ITS FALSE NEIGHBOUR: 'it returns false'. Refute it at one input. -/
def matchMakesWrong : ChangeSpec := { name := "matchMakes", fn := fun _ => fun
  | [d1, d2] => { results := [.lit (.bool false)], args := [d1, d2] }
  | _ => none }
def MatchMakesWrongFalsely : Prop := matchMakesRow.holds Try.pinned (OpenSpec.ofChange matchMakesWrong)

/-- 'constraintlaw08.MatchInverts': WHATEVER THE INPUT: true; the input reads as it did. -/
def matchInvertsSpec : ChangeSpec := { name := "matchInverts", fn := fun _ => fun
  | [d1, d2] => { results := [.lit (.bool true)], args := [d1, d2] }
  | _ => none }
def matchInvertsRow : OpenClaim := { program := "ytceekaodhmncgaa", sum := "68b3799c26b280caaf0cb33ec4c7db796db7ef02dff3049f4129bfc723656952", func := "constraint/constraintlaw08.MatchInverts", spec := "matchInverts", inPlace := ["internal/bytealg.abigen_runtime_cmpstring"], unfollowed := true, recurses := true, loops := true, apart := false }
def MatchInvertsSaid : Prop := matchInvertsRow.holds Try.pinned (OpenSpec.ofChange matchInvertsSpec)

/-- ITS FALSE NEIGHBOUR: 'it returns false'. Refute it at one input. -/
def matchInvertsWrong : ChangeSpec := { name := "matchInverts", fn := fun _ => fun
  | [d1, d2] => { results := [.lit (.bool false)], args := [d1, d2] }
  | _ => none }
def MatchInvertsWrongFalsely : Prop := matchInvertsRow.holds Try.pinned (OpenSpec.ofChange matchInvertsWrong)

/-- 'constraintlaw08.MatchKeeps': WHATEVER THE INPUT: true; the input reads as it did. -/
def matchKeepsSpec : ChangeSpec := { name := "matchKeeps", fn := fun _ => fun
  | [d] => { results := [.lit (.bool true)], args := [d] }
  | _ => none }
def matchKeepsRow : OpenClaim := { program := "ytceekaodhmncgaa", sum := "68b3799c26b280caaf0cb33ec4c7db796db7ef02dff3049f4129bfc723656952", func := "constraint/constraintlaw08.MatchKeeps", spec := "matchKeeps", inPlace := ["internal/bytealg.abigen_runtime_cmpstring"], unfollowed := true, recurses := true, loops := true, apart := false }
def MatchKeepsSaid : Prop := matchKeepsRow.holds Try.pinned (OpenSpec.ofChange matchKeepsSpec)

/-- ITS FALSE NEIGHBOUR: 'it returns false'. Refute it at one input. -/
def matchKeepsWrong : ChangeSpec := { name := "matchKeeps", fn := fun _ => fun
  | [d] => { results := [.lit (.bool false)], args := [d] }
  | _ => none }
def MatchKeepsWrongFalsely : Prop := matchKeepsRow.holds Try.pinned (OpenSpec.ofChange matchKeepsWrong)

/- THE SECOND FORM. 'bulk': how many values and letters a reading holds, each counted each time it is reached (what is shared counts as often as it is met; a slice's spare places count too). A statement '..UptoSaid' is the law's where the arguments, and the package variables that the reading takes, are together of bulk at most 1048576: NARROWER than '..Said'. Prove '..Said' where nothing that the law and all that it calls make is longer than what came in: it says more and counts as full. Else prove '..UptoSaid'. A law counts once. -/
mutual
def uptoBulk {H : Type} : DataW H → Nat
  | .lit (.string bytes) => bytes.length + 1
  | .lit _ => 1
  | .nil => 1
  | .ptr d => uptoBulk d + 1
  | .slice elems spare => uptoBulkAll elems + uptoBulkAll spare + 1
  | .agg parts => uptoBulkAll parts + 1
  | .iface _ d => uptoBulk d + 1
  | .map entries => uptoBulkEntries entries + 1
  | .held _ => 1
def uptoBulkAll {H : Type} : List (DataW H) → Nat
  | [] => 0
  | d :: r => uptoBulk d + uptoBulkAll r
def uptoBulkEntries {H : Type} : List (Lit × DataW H) → Nat
  | [] => 0
  | x :: r => uptoBulkEntry x + uptoBulkEntries r
def uptoBulkEntry {H : Type} : Lit × DataW H → Nat
  | (.string bytes, d) => bytes.length + uptoBulk d + 1
  | (_, d) => uptoBulk d + 1
 end
def uptoSmall : (H : Type) → List (DataW H) → Bool := fun _ ds => decide (uptoBulkAll ds ≤ 1048576)
def OpenSpec.upto (s : _root_.Go.ChangeSpec) : _root_.Go.OpenSpec := { _root_.Go.OpenSpec.ofChange s with cond := some uptoSmall }

/-- 'constraintlaw08.MatchTerms', WHERE WHAT IT READS IS OF BULK AT MOST 1048576: true; the input reads as it did. -/
def matchTermsUptoRow : OpenClaim := { program := "ytceekaodhmncgaa", sum := "68b3799c26b280caaf0cb33ec4c7db796db7ef02dff3049f4129bfc723656952", func := "constraint/constraintlaw08.MatchTerms", spec := "matchTerms", inPlace := ["internal/bytealg.abigen_runtime_cmpstring"], unfollowed := true, recurses := true, loops := true, apart := false, narrowed := true }
def MatchTermsUptoSaid : Prop := matchTermsUptoRow.holds Try.pinned (OpenSpec.upto matchTermsSpec)

/-- 'constraintlaw08.MatchAtoms', WHERE WHAT IT READS IS OF BULK AT MOST 1048576: true; the input reads as it did. -/
def matchAtomsUptoRow : OpenClaim := { program := "ytceekaodhmncgaa", sum := "68b3799c26b280caaf0cb33ec4c7db796db7ef02dff3049f4129bfc723656952", func := "constraint/constraintlaw08.MatchAtoms", spec := "matchAtoms", inPlace := ["internal/bytealg.abigen_runtime_cmpstring"], unfollowed := true, recurses := true, loops := true, apart := false, narrowed := true }
def MatchAtomsUptoSaid : Prop := matchAtomsUptoRow.holds Try.pinned (OpenSpec.upto matchAtomsSpec)

/-- 'constraintlaw08.MatchInstances', WHERE WHAT IT READS IS OF BULK AT MOST 1048576: true; the input reads as it did. -/
def matchInstancesUptoRow : OpenClaim := { program := "ytceekaodhmncgaa", sum := "68b3799c26b280caaf0cb33ec4c7db796db7ef02dff3049f4129bfc723656952", func := "constraint/constraintlaw08.MatchInstances", spec := "matchInstances", inPlace := ["internal/bytealg.abigen_runtime_cmpstring"], unfollowed := true, recurses := true, loops := true, apart := false, narrowed := true }
def MatchInstancesUptoSaid : Prop := matchInstancesUptoRow.holds Try.pinned (OpenSpec.upto matchInstancesSpec)

/-- 'constraintlaw08.MatchMakes', WHERE WHAT IT READS IS OF BULK AT MOST 1048576: true; the input reads as it did. -/
def matchMakesUptoRow : OpenClaim := { program := "ytceekaodhmncgaa", sum := "68b3799c26b280caaf0cb33ec4c7db796db7ef02dff3049f4129bfc723656952", func := "constraint/constraintlaw08.MatchMakes", spec := "matchMakes", inPlace := ["internal/bytealg.abigen_runtime_cmpstring"], unfollowed := true, recurses := true, loops := true, apart := false, narrowed := true }
def MatchMakesUptoSaid : Prop := matchMakesUptoRow.holds Try.pinned (OpenSpec.upto matchMakesSpec)

/-- 'constraintlaw08.MatchInverts', WHERE WHAT IT READS IS OF BULK AT MOST 1048576: true; the input reads as it did. -/
def matchInvertsUptoRow : OpenClaim := { program := "ytceekaodhmncgaa", sum := "68b3799c26b280caaf0cb33ec4c7db796db7ef02dff3049f4129bfc723656952", func := "constraint/constraintlaw08.MatchInverts", spec := "matchInverts", inPlace := ["internal/bytealg.abigen_runtime_cmpstring"], unfollowed := true, recurses := true, loops := true, apart := false, narrowed := true }
def MatchInvertsUptoSaid : Prop := matchInvertsUptoRow.holds Try.pinned (OpenSpec.upto matchInvertsSpec)

/-- 'constraintlaw08.MatchKeeps', WHERE WHAT IT READS IS OF BULK AT MOST 1048576: true; the input reads as it did. -/
def matchKeepsUptoRow : OpenClaim := { program := "ytceekaodhmncgaa", sum := "68b3799c26b280caaf0cb33ec4c7db796db7ef02dff3049f4129bfc723656952", func := "constraint/constraintlaw08.MatchKeeps", spec := "matchKeeps", inPlace := ["internal/bytealg.abigen_runtime_cmpstring"], unfollowed := true, recurses := true, loops := true, apart := false, narrowed := true }
def MatchKeepsUptoSaid : Prop := matchKeepsUptoRow.holds Try.pinned (OpenSpec.upto matchKeepsSpec)

end Rows
end Go.Proofs.Ytceekaodhmncgaa
