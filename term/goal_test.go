package term

import (
	"math"
	"reflect"
	"slices"
	"testing"

	"constraint/api"
)

func atom(name string, args ...api.Term) api.Atom { return api.Atom{Name: name, Args: args} }

func goal(op int, args ...api.Term) api.Goal { return api.Goal{Op: op, Args: args} }

// call is the goal of a constraint.
func call(a api.Atom) api.Goal { return api.Goal{Op: api.OpCall, Name: a.Name, Args: a.Args} }

// invalid are terms that are not valid, each for another reason.
func invalid() []api.Term {
	return []api.Term{
		Int(api.MaxInt + 1), Int(-api.MaxInt - 1), Var(-1), Var(api.MaxVar + 1), {Kind: 3}, {Kind: -1}, {Int: 1, Name: "a"}, {Kind: api.TVar, Args: some(1, Int(0))},
		{Kind: api.TFun, Int: 1, Name: "a"}, Fun(""), Fun("X"), Fun("is"), Fun("f", some(7, Int(0))...), Fun("+"), Fun("+", Int(1)), Fun("+", some(3, Int(1))...),
		Fun("f", Var(-1)), Fun("f", Int(0), Fun("true")), nested(20, Int(0)), leftDeep(21), sized(201, Var(0)),
	}
}

// operations are the numbers of arguments of the operators other than OpCall.
func operations() map[int]int {
	return map[int]int{
		api.OpTrue: 0, api.OpFail: 0, api.OpUnify: 2, api.OpIs: 2, api.OpSame: 2, api.OpApart: 2, api.OpLess: 2, api.OpLeq: 2, api.OpEqual: 2,
		api.OpUnequal: 2, api.OpInt: 1, api.OpGround: 1,
	}
}

var unknownOps = []int{-1, -2, 13, 14, 99, 1 << 32, 1<<32 + 1, math.MaxInt, math.MinInt}

// checkCall checks the validity of a constraint, also as a goal.
func checkCall(t *testing.T, a api.Atom, want bool) {
	t.Helper()
	if got := RightAtom(a); got != want {
		t.Errorf("RightAtom(%s) = %v", short(a), got)
	}
	if got := RightGoal(call(a)); got != want {
		t.Errorf("RightGoal(%s) = %v", short(call(a)), got)
	}
}

func TestP3_4P3_5RightNames(t *testing.T) {
	for arity := range 10 {
		for _, name := range names {
			checkCall(t, atom(name, some(arity, Var(0))...), arity <= 6)
		}
		for _, name := range slices.Concat(noNames, reservedWords, operators) {
			checkCall(t, atom(name, some(arity, Var(0))...), false)
		}
	}
	checkCall(t, api.Atom{Name: "p", Args: []api.Term{}}, true)
	checkCall(t, api.Atom{}, false)
	checkCall(t, api.Atom{Name: "p", Args: make([]api.Term, 1<<20)}, false)
}

func TestP3_4P3_5RightArguments(t *testing.T) {
	for _, bad := range invalid() {
		if Right(bad) {
			t.Errorf("valid: %v", bad)
		}
		for arity := 1; arity <= 6; arity++ {
			for place := range arity {
				args := some(arity, Int(1))
				args[place] = bad
				checkCall(t, atom("p", args...), false)
			}
		}
	}
	for _, good := range []api.Term{Int(api.MaxInt), Int(-api.MaxInt), Var(0), Var(api.MaxVar), Fun("a"), Fun("+", Int(1), Var(0)), nested(19, Int(0)), leftDeep(17)} {
		for arity := range 7 {
			checkCall(t, atom("p", some(arity, good)...), true)
		}
	}
}

// The name of a constraint is no node, and adds nothing to the depth.
func TestP3_4P3_5RightLimits(t *testing.T) {
	for _, leaf := range leaves {
		for n := 1; n <= 202; n++ {
			checkCall(t, atom("p", sized(n, leaf)), n <= 200)
			checkCall(t, atom("p", sized(n, leaf), leaf), n <= 199)
			checkCall(t, atom("p", leaf, sized(n, leaf)), n <= 199)
			checkCall(t, atom("p", leaf, leaf, sized(n, leaf), leaf, leaf, leaf), n <= 195)
		}
		checkCall(t, atom("p", some(6, sized(33, leaf))...), true)
		checkCall(t, atom("p", append(some(5, sized(33, leaf)), sized(35, leaf))...), true)
		checkCall(t, atom("p", append(some(5, sized(33, leaf)), sized(36, leaf))...), false)
		checkCall(t, atom("p", some(6, sized(34, leaf))...), false)
		for depth := 18; depth <= 23; depth++ {
			checkCall(t, atom("p", nested(depth-1, leaf)), depth <= 20)
			checkCall(t, atom("p", leaf, nested(depth-1, leaf), leaf), depth <= 20)
		}
	}
	checkCall(t, atom("p", sized(100, Var(0)), sized(100, Int(1))), true)
	checkCall(t, atom("p", sized(100, Var(0)), sized(101, Int(1))), false)
	checkCall(t, atom("p", sized(101, Var(0)), sized(100, Int(1))), false)
}

// ascendingAtoms are constraints, each before the next one.
func ascendingAtoms() []api.Atom {
	return []api.Atom{
		atom(""), atom("", Var(0)), atom("\x00"), atom("+", Var(0), Var(0)), atom("P", Fun("a")), atom("a"), atom("a", Var(3)), atom("a", Int(1)), atom("a", some(7, Var(0))...), atom("aa"), atom("b"),
		atom("p"), atom("p", Var(0)), atom("p", Var(1)), atom("p", Int(-1)), atom("p", Int(0)), atom("p", Fun("a")), atom("p", Fun("f", Var(0))), atom("p", Fun("a", Int(0), Int(0))),
		atom("p", api.Term{Kind: 3}), atom("p", api.Term{Kind: 4}),
		atom("p", Var(0), Var(0)), atom("p", Var(0), Var(1)), atom("p", Var(0), Int(0)), atom("p", Var(1), Var(0)), atom("p", Int(0), Var(0)), atom("p", Fun("b"), Var(0)),
		atom("p", Var(0), Var(0), Var(0)), atom("p", Var(0), Var(0), Int(0)), atom("p", Var(0), Int(0), Var(0)),
		atom("pq"), atom("q"), atom("q", Var(0)), atom("true"), atom("\u00e4"), atom("\xff"), atom("\xff", Var(0)),
	}
}

func disguisedAtom(a api.Atom) api.Atom {
	args := []api.Term{}
	for _, arg := range a.Args {
		args = append(args, disguised(arg))
	}
	return api.Atom{Name: a.Name, Args: args}
}

func checkCompareAtom(t *testing.T, a, b api.Atom, want int) {
	t.Helper()
	for _, x := range []struct{ a, b api.Atom }{{a, b}, {disguisedAtom(a), b}, {disguisedAtom(a), disguisedAtom(b)}} {
		if c := CompareAtom(x.a, x.b); c != want {
			t.Errorf("CompareAtom(%v, %v) = %d, want %d", x.a, x.b, c, want)
		}
		if SameAtom(x.a, x.b) != (want == 0) {
			t.Errorf("SameAtom(%v, %v) = %v", x.a, x.b, SameAtom(x.a, x.b))
		}
		if SameGoal(call(x.a), call(x.b)) != (want == 0) {
			t.Errorf("SameGoal(%v, %v) = %v", call(x.a), call(x.b), SameGoal(call(x.a), call(x.b)))
		}
	}
}

func TestP3_4Ascending(t *testing.T) {
	list := ascendingAtoms()
	for i, a := range list {
		for k, b := range list {
			checkCompareAtom(t, a, b, compareInts(i, k))
		}
	}
	// Other than for terms, the name comes before the number of arguments.
	checkCompareAtom(t, atom("a", Int(1)), atom("b"), -1)
	checkCompareAtom(t, atom("p", Var(0)), atom("p", Var(0), Var(0)), -1)
	checkCompareAtom(t, atom("q", Var(0)), atom("p", Var(0), Var(0)), 1)
}

func TestP3_4FirstDifference(t *testing.T) {
	for place := range 6 {
		a, b := some(6, Int(1)), some(6, Int(1))
		a[place], b[place] = Var(0), Fun("b")
		checkCompareAtom(t, atom("p", a...), atom("p", b...), -1)
		for later := place + 1; later < 6; later++ {
			a[later], b[later] = Fun("b"), Var(0)
		}
		checkCompareAtom(t, atom("p", a...), atom("p", b...), -1)
		checkCompareAtom(t, atom("p", b...), atom("p", a...), 1)
	}
}

func TestP3_4RandomAtoms(t *testing.T) {
	g := newMaker(6)
	var list []api.Atom
	for range 500 {
		a := api.Atom{Name: []string{"p", "q", "pq"}[g.random.IntN(3)]}
		for range g.random.IntN(4) {
			a.Args = append(a.Args, g.term(2))
		}
		list = append(list, a)
	}
	for _, a := range list {
		for _, b := range list {
			if c, want := CompareAtom(a, b), signAtom(a, b); c != want || SameAtom(a, b) != (want == 0) {
				t.Fatalf("CompareAtom(%v, %v) = %d, want %d, SameAtom %v", a, b, c, want, SameAtom(a, b))
			}
		}
	}
}

// signAtom compares two constraints, independently of the package.
func signAtom(a, b api.Atom) int {
	if a.Name != b.Name {
		if lessBytes(a.Name, b.Name) {
			return -1
		}
		return 1
	}
	return sign(cells(Fun("", a.Args...)), cells(Fun("", b.Args...)))
}

func TestP3_4P3_5Vars(t *testing.T) {
	junk := api.Term{Kind: api.TInt, Args: some(1, Var(9))}
	for _, x := range []struct {
		args []api.Term
		want []int
	}{
		{nil, nil},
		{[]api.Term{Int(3), Fun("a"), Fun("f", Int(0))}, nil},
		{[]api.Term{Var(1), Var(0)}, []int{1, 0}},
		{[]api.Term{Var(0), Fun("+", Var(1), Var(0))}, []int{0, 1}},
		{[]api.Term{Fun("f", Var(4), Fun("g", Var(2)), Var(4)), Var(2), Var(3), Fun("g", Var(0))}, []int{4, 2, 3, 0}},
		{[]api.Term{junk, Var(7), {Kind: 5, Args: some(1, Var(8))}, Var(7), Var(-1)}, []int{7, -1}},
		{append(some(8, Var(2)), Var(1)), []int{2, 1}},
	} {
		for _, name := range []string{"p", "", "X"} {
			if got := AtomVars(atom(name, x.args...)); !slices.Equal(got, x.want) {
				t.Errorf("AtomVars(%s, %v) = %v, want %v", name, x.args, got, x.want)
			}
			for _, op := range append([]int{0, 1, 2, 3, 4, 5, 6, 7, 8, 9, 10, 11, 12}, unknownOps...) {
				if got := GoalVars(api.Goal{Op: op, Name: name, Args: x.args}); !slices.Equal(got, x.want) {
					t.Errorf("GoalVars(%d, %s, %v) = %v, want %v", op, name, x.args, got, x.want)
				}
			}
		}
	}
}

func TestP3_4P3_5Calls(t *testing.T) {
	g := newMaker(7)
	for range 1000 {
		g.start()
		args := []api.Term{g.term(3), g.term(4)}
		var copied []api.Term
		for _, arg := range args {
			copied = append(copied, deepCopy(arg))
		}
		a, x := atom("p", args...), goal(api.OpUnify, args...)
		for _, list := range [][]int{AtomVars(a), GoalVars(x)} {
			if !slices.Equal(list, g.vars) {
				t.Fatalf("%v, want %v", list, g.vars)
			}
			for i := range list {
				list[i] = -77
			}
		}
		RightAtom(a)
		RightGoal(x)
		if CompareAtom(a, a) != 0 || !SameAtom(a, a) || !SameGoal(x, x) || !slices.Equal(AtomVars(a), g.vars) || !slices.Equal(GoalVars(x), g.vars) {
			t.Fatalf("%v", a)
		}
		if !reflect.DeepEqual(args, copied) {
			t.Fatalf("changed: %v, %v", args, copied)
		}
	}
}

func TestP3_5RightOperators(t *testing.T) {
	for op, arity := range operations() {
		for count := range 10 {
			for _, arg := range []api.Term{Int(0), Var(api.MaxVar), Fun("a"), Fun("f", Var(0), Fun("-", Int(1), Int(2)))} {
				args := some(count, arg)
				if got := RightGoal(goal(op, args...)); got != (count == arity) {
					t.Errorf("RightGoal of the operator %d with %d arguments: %v", op, count, got)
				}
				for _, name := range []string{"p", "true", "+", " ", "X"} {
					if x := (api.Goal{Op: op, Name: name, Args: args}); RightGoal(x) {
						t.Errorf("RightGoal(%v) = true", x)
					}
				}
			}
		}
		if !RightGoal(api.Goal{Op: op, Args: append([]api.Term{}, some(arity, Var(0))...)}) {
			t.Errorf("the operator %d with %d arguments", op, arity)
		}
	}
	if RightGoal(goal(api.OpInt, Var(0), Var(1))) {
		t.Error("int with two arguments")
	}
	if RightGoal(goal(api.OpCall)) || RightGoal(goal(api.OpCall, Int(1))) || RightGoal(api.Goal{}) {
		t.Error("a constraint without a name")
	}
}

func TestP3_5RightUnknownOperators(t *testing.T) {
	for _, op := range unknownOps {
		for count := range 4 {
			for _, name := range []string{"", "p"} {
				if x := (api.Goal{Op: op, Name: name, Args: some(count, Int(0))}); RightGoal(x) {
					t.Errorf("RightGoal(%v) = true", x)
				}
			}
		}
	}
}

func TestP3_5RightArguments(t *testing.T) {
	for op, arity := range operations() {
		for place := range arity {
			for _, bad := range invalid() {
				args := some(arity, Int(1))
				args[place] = bad
				if x := goal(op, args...); RightGoal(x) {
					t.Errorf("RightGoal(%v) = true", x)
				}
			}
			for n := 1; n <= 202; n++ {
				args := some(arity, Int(1))
				args[place] = sized(n, Var(0))
				if x := goal(op, args...); RightGoal(x) != (n+arity-1 <= 200) {
					t.Errorf("the operator %d with %d nodes in place %d: %v", op, n, place, RightGoal(x))
				}
			}
			for depth := 18; depth <= 23; depth++ {
				args := some(arity, Int(1))
				args[place] = nested(depth-1, Fun("a"))
				if x := goal(op, args...); RightGoal(x) != (depth <= 20) {
					t.Errorf("the operator %d with the depth %d in place %d: %v", op, depth, place, RightGoal(x))
				}
			}
		}
		if arity == 2 {
			if !RightGoal(goal(op, sized(100, Var(0)), sized(100, Var(0)))) || RightGoal(goal(op, sized(100, Var(0)), sized(101, Var(0)))) {
				t.Errorf("the operator %d with two arguments of 100 nodes", op)
			}
		}
	}
}

// different are goals of which no two are identical.
func different() []api.Goal {
	var list []api.Goal
	for _, op := range append([]int{0, 1, 2, 3, 4, 5, 6, 7, 8, 9, 10, 11, 12}, unknownOps...) {
		for _, name := range []string{"", "p", "q"} {
			for _, args := range [][]api.Term{
				nil, {Var(0)}, {Var(1)}, {Int(0)}, {Fun("p")}, {Fun("p", Var(0))}, {{Kind: 3}}, {{Kind: 3, Int: 1}}, {Var(0), Var(0)}, {Var(0), Var(1)}, {Var(1), Var(0)},
				{Var(0), Fun("f", Int(1))}, {Var(0), Fun("f", Int(2))}, {Var(0), Var(0), Var(0)}, some(8, Var(0)),
			} {
				list = append(list, api.Goal{Op: op, Name: name, Args: args})
			}
		}
	}
	return list
}

func TestP3_5SameGoal(t *testing.T) {
	list := different()
	for i, a := range list {
		hidden := disguisedAtom(api.Atom{Name: a.Name, Args: a.Args})
		for k, b := range list {
			if SameGoal(a, b) != (i == k) || SameGoal(api.Goal{Op: a.Op, Name: a.Name, Args: hidden.Args}, b) != (i == k) {
				t.Fatalf("SameGoal(%v, %v) = %v", a, b, i != k)
			}
		}
	}
}
