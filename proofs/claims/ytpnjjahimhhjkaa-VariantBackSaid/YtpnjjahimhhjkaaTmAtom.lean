/-
  Constraints and goals in memory; contracts of RightAtom, RightGoal, rightBuiltin of the program and of RightAtom, RightGoal, Arity of the reference.
-/
import Derived.Test.YtpnjjahimhhjkaaTmValid
namespace Go.Proofs.Ytpnjjahimhhjkaa
open Go.RowKit Go.Sort

/-- A constraint: name, where its arguments lie, the capacity there, the arguments. -/
structure Am where
  name : ByteArray
  at_ : Option Addr
  cap : Nat
  args : List Tm
abbrev Am.val (a : Am) : Value := .agg #[.string a.name, .slice a.at_ a.args.length a.cap]
def Am.At (w : World) (a : Am) : Prop := a.name.size ≤ maxLen ∧ Lst w a.at_ a.args a.cap
/-- A goal. -/
structure Gl where
  op : Int
  name : ByteArray
  at_ : Option Addr
  cap : Nat
  args : List Tm
abbrev Gl.val (g : Gl) : Value := .agg #[.int .i64 g.op, .string g.name, .slice g.at_ g.args.length g.cap]
def Gl.At (w : World) (g : Gl) : Prop := Fits g.op ∧ g.name.size ≤ maxLen ∧ Lst w g.at_ g.args g.cap
theorem Am.At.below {w w' : World} {a : Am} (h : a.At w) (hb : Below w.heap.size w w') : a.At w' := ⟨h.1, h.2.below hb⟩
theorem Gl.At.below {w w' : World} {g : Gl} (h : g.At w) (hb : Below w.heap.size w w') : g.At w' := ⟨h.1, h.2.1, h.2.2.below hb⟩
instance : Inhabited Am := ⟨⟨ByteArray.empty, none, 0, []⟩⟩
instance : Inhabited Gl := ⟨⟨0, ByteArray.empty, none, 0, []⟩⟩

def atomB (s : List UInt8) (l : List Tm) : Bool := rightB s && (decide (l.length ≤ 6) && rightL l)
def arity (op : Int) : Int := if op = 1 ∨ op = 2 then 0 else if op = 11 ∨ op = 12 then 1 else if 2 < op ∧ op < 11 then 2 else -1
def builtinB (s : ByteArray) (l : List Tm) (n : Int) : Bool := decide (s.size = 0) && (decide ((l.length : Int) = n) && rightL l)
def goalB (op : Int) (s : ByteArray) (l : List Tm) : Bool := if op = 0 then atomB s.data.toList l else builtinB s l (arity op)

theorem Lst.len {w : World} {A : Option Addr} {l : List Tm} {c : Nat} (h : Lst w A l c) : l.length ≤ 9223372036854775807 := by have := h.1; have := h.2.1; unfold maxLen at *; omega

end Go.Proofs.Ytpnjjahimhhjkaa
