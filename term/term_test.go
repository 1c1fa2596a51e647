package term

import (
	"fmt"
	"math"
	"reflect"
	"slices"
	"strings"
	"testing"

	"constraint/api"
)

var (
	reservedWords = []string{"constraint", "true", "fail", "is", "int", "ground"}
	operators     = []string{"+", "-", "*", "/", "%"}
	names         = []string{"a", "f", "leq2", "isA", "x_1", "ints", "v12", "z", strings.Repeat("a", 40), "p" + strings.Repeat("Z", 39)}
	noNames       = []string{
		"", "A", "F", "_", "_x", "X1", "V0", "1", "1x", "p-q", "p q", " p", "p ", "p\x00", "\x00", "p\xff", "\xe4", "p\u00e4", "\u00e4",
		"++", "+ ", " +", "+-", "=", "<", "^", "f(", strings.Repeat("a", 41), strings.Repeat("a", 1<<20),
	}
	unknownKinds = []int{-1, 3, 4, 5, 99, -99, 1 << 32, 1<<32 + 1, math.MaxInt, math.MinInt}
	leaves       = []api.Term{Int(-7), Var(3), Fun("a")}
)

// sized returns a valid term with a number of nodes (if it is not too large), which is as flat as the arity permits.
func sized(nodes int, leaf api.Term) api.Term {
	if nodes == 1 {
		return leaf
	}
	count := min(nodes-1, api.MaxArity)
	var args []api.Term
	for i := range count {
		share := (nodes - 1) / count
		if i < (nodes-1)%count {
			share++
		}
		args = append(args, sized(share, leaf))
	}
	return Fun("f", args...)
}

// nested puts a term inside of functors with one argument.
func nested(levels int, t api.Term) api.Term {
	for range levels {
		t = Fun("g", t)
	}
	return t
}

// leftDeep and rightDeep return an operator term with a depth.
func leftDeep(depth int) api.Term {
	t := Int(1)
	for range depth - 1 {
		t = Fun("-", t, Var(0))
	}
	return t
}

func rightDeep(depth int) api.Term {
	t := Int(1)
	for range depth - 1 {
		t = Fun("*", Var(0), t)
	}
	return t
}

func some(count int, t api.Term) []api.Term {
	return slices.Repeat([]api.Term{t}, count)
}

// around puts a term in each argument place of functors and operators, also deep inside.
func around(t api.Term) []api.Term {
	list := []api.Term{nested(1, t), nested(2, t), nested(19, t)}
	for arity := 1; arity <= api.MaxArity; arity++ {
		for place := range arity {
			args := some(arity, Var(1))
			args[place] = t
			list = append(list, Fun("h", args...), Fun("f", Int(0), Fun("h", args...), Fun("a")))
		}
	}
	for _, op := range operators {
		list = append(list, Fun(op, t, Int(1)), Fun(op, Int(1), t), Fun(op, Int(2), Fun(op, t, Var(0))))
	}
	return list
}

// short writes a value that may be too large for a message.
func short(x any) string {
	return fmt.Sprintf("%.200s", fmt.Sprint(x))
}

// checkRight checks the validity of a term, and that a term with an invalid part is not valid.
func checkRight(t *testing.T, x api.Term, want bool) {
	t.Helper()
	if got := Right(x); got != want {
		t.Errorf("Right(%s) = %v", short(x), got)
	}
	if want {
		return
	}
	for _, outer := range around(x) {
		if Right(outer) {
			t.Errorf("Right(%s) = true, with the invalid part %s", short(outer), short(x))
		}
	}
}

func TestP3_1IntVar(t *testing.T) {
	for _, n := range []int{0, 1, -1, 3, api.MaxVar, api.MaxVar + 1, api.MaxInt, api.MaxInt + 1, -api.MaxInt, -api.MaxInt - 1, math.MaxInt, math.MinInt} {
		if got := Int(n); !reflect.DeepEqual(got, api.Term{Kind: api.TInt, Int: n}) {
			t.Errorf("Int(%d) = %#v", n, got)
		}
		if got := Var(n); !reflect.DeepEqual(got, api.Term{Kind: api.TVar, Int: n}) {
			t.Errorf("Var(%d) = %#v", n, got)
		}
	}
}

func TestP3_1Fun(t *testing.T) {
	odd := api.Term{Kind: 77, Int: -5, Name: "q", Args: []api.Term{Var(1)}}
	for _, name := range slices.Concat(names, noNames, reservedWords, operators) {
		if got := Fun(name); got.Kind != api.TFun || got.Int != 0 || got.Name != name || len(got.Args) != 0 {
			t.Errorf("Fun(%q) = %#v", name, got)
		}
		for _, args := range [][]api.Term{{Var(0), Int(3)}, {odd}, {Int(1), odd, Fun("a"), Fun("a"), Var(-1)}, some(6, Var(2)), some(7, Int(1)), some(300, Var(2))} {
			want := api.Term{Kind: api.TFun, Name: name, Args: args}
			if got := Fun(name, args...); !reflect.DeepEqual(got, want) {
				t.Errorf("Fun(%q, %v) = %#v", name, args, got)
			}
		}
	}
	if x := Fun("f", Var(0), Int(3)); !Right(x) || x.Args[0].Kind != api.TVar || x.Args[1].Int != 3 {
		t.Errorf("f(V0, 3) is %#v", x)
	}
}

// A list that is passed as arguments belongs to the caller: neither side sees what the other one does with it.
func TestP3_1FunKeepsNoList(t *testing.T) {
	list := append(make([]api.Term, 0, 9), Var(0), Int(3))
	x := Fun("f", list...)
	want := api.Term{Kind: api.TFun, Name: "f", Args: []api.Term{Var(0), Int(3)}}
	list[0] = Int(9)
	list = append(list, Int(8))
	if !reflect.DeepEqual(x, want) {
		t.Errorf("changed with the list of the caller: %v", x)
	}
	_ = append(x.Args, Int(7))
	x.Args[1] = Var(5)
	if !reflect.DeepEqual(list, []api.Term{Int(9), Int(3), Int(8)}) {
		t.Errorf("the list of the caller changed: %v", list)
	}
	for count := range 70 {
		y := Fun("f", some(count, Var(0))...)
		one, two := append(y.Args, Int(1)), append(y.Args, Int(2))
		if one[count].Int != 1 || two[count].Int != 2 {
			t.Errorf("what is added to %d arguments is overwritten: %v, %v", count, one[count], two[count])
		}
	}
}

func TestP3_1RightNumbers(t *testing.T) {
	for n, want := range map[int][2]bool{
		0: {true, true}, 1: {true, true}, -1: {true, false}, -2: {true, false},
		api.MaxVar - 1: {true, true}, api.MaxVar: {true, true}, api.MaxVar + 1: {true, false}, api.MaxVar + 2: {true, false}, -api.MaxVar: {true, false},
		api.MaxInt - 1: {true, false}, api.MaxInt: {true, false}, 1 - api.MaxInt: {true, false}, -api.MaxInt: {true, false},
		api.MaxInt + 1: {false, false}, api.MaxInt + 2: {false, false}, -api.MaxInt - 1: {false, false}, -api.MaxInt - 2: {false, false},
		1 << 32: {false, false}, 1<<32 + 1: {false, false}, -1 << 32: {false, false}, 1 << 62: {false, false},
		math.MaxInt: {false, false}, math.MinInt: {false, false}, math.MinInt + 1: {false, false},
	} {
		checkRight(t, Int(n), want[0])
		checkRight(t, Var(n), want[1])
	}
	if api.MaxInt != 2147483648 || api.MaxVar != 1048576 {
		t.Error("limits", api.MaxInt, api.MaxVar)
	}
}

func TestP3_1RightUnusedFields(t *testing.T) {
	for _, kind := range []int{api.TInt, api.TVar} {
		for n := range 3 {
			checkRight(t, api.Term{Kind: kind, Int: n, Args: []api.Term{}}, true)
			for _, name := range []string{"a", "+", " ", "X", "true"} {
				checkRight(t, api.Term{Kind: kind, Int: n, Name: name}, false)
			}
			for count := 1; count < 8; count++ {
				checkRight(t, api.Term{Kind: kind, Int: n, Args: some(count, Int(0))}, false)
				checkRight(t, api.Term{Kind: kind, Int: n, Name: "f", Args: some(count, Int(0))}, false)
			}
		}
	}
	for _, n := range []int{1, -1, 2, 7, api.MaxInt, math.MaxInt, math.MinInt} {
		checkRight(t, api.Term{Kind: api.TFun, Int: n, Name: "a"}, false)
		checkRight(t, api.Term{Kind: api.TFun, Int: n, Name: "f", Args: []api.Term{Var(0)}}, false)
		checkRight(t, api.Term{Kind: api.TFun, Int: n, Name: "+", Args: []api.Term{Var(0), Int(1)}}, false)
	}
	checkRight(t, api.Term{}, true)
	checkRight(t, api.Term{Kind: api.TFun, Name: "a", Args: []api.Term{}}, true)
	checkRight(t, api.Term{Kind: api.TFun}, false)
}

func TestP3_1RightNames(t *testing.T) {
	for arity := range 10 {
		for _, name := range names {
			checkRight(t, Fun(name, some(arity, Var(0))...), arity <= 6)
		}
		for _, name := range slices.Concat(noNames, reservedWords) {
			checkRight(t, Fun(name, some(arity, Int(0))...), false)
		}
		for _, name := range operators {
			checkRight(t, Fun(name, some(arity, Int(2))...), arity == 2)
		}
	}
	if api.MaxArity != 6 {
		t.Error("MaxArity", api.MaxArity)
	}
}

func TestP3_1RightUnknownKinds(t *testing.T) {
	for _, kind := range unknownKinds {
		for _, n := range []int{0, 1, -1} {
			for _, name := range []string{"", "a", "+"} {
				checkRight(t, api.Term{Kind: kind, Int: n, Name: name}, false)
				checkRight(t, api.Term{Kind: kind, Int: n, Name: name, Args: some(2, Int(1))}, false)
			}
		}
	}
}

func TestP3_1RightNodes(t *testing.T) {
	for _, leaf := range leaves {
		for n := 1; n <= 210; n++ {
			if x := sized(n, leaf); Right(x) != (n <= 200) || Size(x) != n {
				t.Errorf("a term with %d nodes: Right %v, Size %d", n, Right(x), Size(x))
			}
		}
		for first := 1; first <= 201; first++ {
			for _, all := range []int{199, 200, 201, 202} {
				second := all - 1 - first
				if second < 1 {
					continue
				}
				a, b := sized(first, leaf), sized(second, leaf)
				if Right(Fun("f", a, b)) != (all <= 200) || Right(Fun("+", a, b)) != (all <= 200) {
					t.Errorf("1 + %d + %d nodes: Right %v, %v", first, second, Right(Fun("f", a, b)), Right(Fun("+", a, b)))
				}
			}
		}
	}
	// The last argument is the one that does not fit.
	for _, last := range []int{3, 4, 5, 6} {
		args := append(some(5, sized(39, Var(0))), sized(last, Var(1)))
		if Right(Fun("f", args...)) != (last <= 4) {
			t.Errorf("1 + 5 * 39 + %d nodes: Right %v", last, Right(Fun("f", args...)))
		}
	}
	if api.MaxNodes != 200 {
		t.Error("MaxNodes", api.MaxNodes)
	}
}

func TestP3_1RightDepth(t *testing.T) {
	for _, leaf := range leaves {
		for depth := 1; depth <= 30; depth++ {
			x := nested(depth-1, leaf)
			checkDepth(t, x, depth)
			checkDepth(t, Fun("f", x, leaf), depth+1)
			checkDepth(t, Fun("f", leaf, x), depth+1)
			checkDepth(t, Fun("f", leaf, x, leaf), depth+1)
			checkDepth(t, Fun("f", nested(depth, leaf), x), depth+2)
			checkDepth(t, Fun("f", x, nested(depth, leaf)), depth+2)
			checkDepth(t, Fun("/", x, Fun("%", x, leaf)), depth+2)
			checkDepth(t, leftDeep(depth), depth)
			checkDepth(t, rightDeep(depth), depth)
		}
	}
	// Both limits at once: 19 levels above an atom or a functor, with all nodes in the deepest place or beside it.
	for _, nodes := range []int{180, 181, 182} {
		x := Fun("f", nested(18, Int(0)), sized(nodes-1, Var(0)))
		if Right(x) != (nodes <= 181) {
			t.Errorf("depth 20, %d nodes: Right %v", Size(x), Right(x))
		}
	}
	if api.MaxDepth != 20 {
		t.Error("MaxDepth", api.MaxDepth)
	}
}

func checkDepth(t *testing.T, x api.Term, depth int) {
	t.Helper()
	if Depth(x) != depth || Right(x) != (depth <= 20) {
		t.Errorf("a term with the depth %d: Depth %d, Right %v", depth, Depth(x), Right(x))
	}
}

func TestP3_1RightLarge(t *testing.T) {
	wide := api.Term{Kind: api.TFun, Name: "f", Args: make([]api.Term, 1<<20)}
	for _, x := range []api.Term{wide, nested(1<<16-1, Int(0)), sized(1<<18, Var(1)), leftDeep(1 << 16), rightDeep(1 << 16)} {
		checkRight(t, x, false)
	}
}

func TestP3_1Examples(t *testing.T) {
	if !Right(Int(2147483648)) || Right(Int(-2147483649)) {
		t.Error("example 1")
	}
	if Right(Fun("+", Int(1))) {
		t.Error("+ with one argument")
	}
}

func TestP3_2Measures(t *testing.T) {
	junk := []api.Term{Var(8), Fun("f", Var(9), Int(1))}
	for _, x := range []struct {
		t           api.Term
		size, depth int
		vars        []int
	}{
		{Int(5), 1, 1, nil},
		{Var(5), 1, 1, []int{5}},
		{Var(-5), 1, 1, []int{-5}},
		{Fun("a"), 1, 1, nil},
		{Fun("f", Var(0), Fun("g", Int(3))), 4, 3, []int{0}},
		{Fun("f", Var(2), Var(0), Var(2)), 4, 2, []int{2, 0}},
		{Fun("f", Var(2), Fun("g", Var(2), Var(0), Var(4)), Var(0), Var(1)), 8, 3, []int{2, 0, 4, 1}},
		{Fun("+", Fun("*", Var(1), Int(2)), Fun("a")), 5, 3, []int{1}},
		{Fun("-", Int(1), Fun("/", Fun("a"), Fun("%", Var(3), Var(1)))), 7, 4, []int{3, 1}},
		{Fun("f", Fun("g", Fun("h", Var(7))), Fun("g", Var(7)), Fun("a")), 7, 4, []int{7}},
		{Fun("f", Fun("a"), Fun("g", Fun("h", Fun("b"))), Int(0)), 6, 4, nil},
		{Fun("", some(9, Var(math.MinInt))...), 10, 2, []int{math.MinInt}},
		{Fun("is", Var(math.MaxInt), Var(-1), Var(0), Var(math.MaxInt)), 5, 2, []int{math.MaxInt, -1, 0}},
		{Fun("+", Var(4)), 2, 2, []int{4}},
		{api.Term{}, 1, 1, nil},
		{api.Term{Kind: api.TFun}, 1, 1, nil},
		{api.Term{Kind: api.TInt, Int: 3, Name: "f", Args: junk}, 1, 1, nil},
		{api.Term{Kind: api.TVar, Int: 3, Name: "f", Args: junk}, 1, 1, []int{3}},
		{api.Term{Kind: api.TFun, Int: 3, Name: "f", Args: junk}, 5, 3, []int{8, 9}},
		{api.Term{Kind: 3, Int: 3, Name: "f", Args: junk}, 1, 1, nil},
		{api.Term{Kind: -1, Int: 3, Name: "f", Args: junk}, 1, 1, nil},
		{Fun("f", api.Term{Kind: 4, Args: junk}, Var(1), api.Term{Args: junk}, api.Term{Kind: api.TVar, Int: 0, Args: junk}), 5, 2, []int{1, 0}},
	} {
		checkMeasures(t, x.t, x.size, x.depth, x.vars)
	}
}

func checkMeasures(t *testing.T, x api.Term, size, depth int, vars []int) {
	t.Helper()
	if Size(x) != size || Depth(x) != depth {
		t.Errorf("%v: Size %d, Depth %d, want %d, %d", x, Size(x), Depth(x), size, depth)
	}
	if got := Vars(x); !slices.Equal(got, vars) {
		t.Errorf("Vars(%v) = %v, want %v", x, got, vars)
	}
	if got := Ground(x); got != (len(vars) == 0) {
		t.Errorf("Ground(%v) = %v", x, got)
	}
	for _, v := range append([]int{-1, 0, 1, 2, 3, 4, 5, 6, 7, 8, 9, 10, math.MinInt, math.MaxInt}, vars...) {
		if got := Occurs(v, x); got != slices.Contains(vars, v) {
			t.Errorf("Occurs(%d, %v) = %v", v, x, got)
		}
	}
}

// The measures of random terms, which are counted while the terms are made.
func TestP3_2RandomTerms(t *testing.T) {
	g := newMaker(1)
	for range 20000 {
		g.start()
		x := g.term(5)
		checkMeasures(t, x, g.size, g.depth, g.vars)
	}
}

// A functor has the measures of its arguments.
func TestP3_2Functors(t *testing.T) {
	g := newMaker(2)
	for range 5000 {
		size, depth := 1, 0
		var args []api.Term
		var vars []int
		for range g.random.IntN(8) {
			g.start()
			args = append(args, g.term(4))
			size += Size(args[len(args)-1])
			depth = max(depth, Depth(args[len(args)-1]))
			for _, v := range Vars(args[len(args)-1]) {
				if !slices.Contains(vars, v) {
					vars = append(vars, v)
				}
			}
		}
		checkMeasures(t, Fun("f", args...), size, depth+1, vars)
	}
}

func TestP3_2LargeTerms(t *testing.T) {
	var args []api.Term
	for n := range 1 << 16 {
		args = append(args, Var(n), Var(n/2), Fun("g", Var(1<<16-n)))
	}
	x := Fun("f", args...)
	if vars := Vars(x); len(vars) != 1<<16+1 || Size(x) != 1+1<<18 || Depth(x) != 3 || Ground(x) || !Occurs(1<<16, x) || Occurs(1<<16+1, x) {
		t.Error("many variables", len(vars), Size(x), Depth(x))
	}
	deep := nested(1<<16-1, Var(7))
	if Size(deep) != 1<<16 || Depth(deep) != 1<<16 || !slices.Equal(Vars(deep), []int{7}) || Ground(deep) || !Occurs(7, deep) || Occurs(8, deep) {
		t.Error("deep term", Size(deep), Depth(deep))
	}
	if !Same(deep, nested(1<<16-1, Var(7))) || Compare(deep, nested(1<<16-1, Var(6))) != 1 || Compare(deep, nested(1<<16, Var(7))) != -1 {
		t.Error("deep terms are not compared")
	}
}

// Results are the caller's own, and arguments stay as they are.
func TestP3_2Calls(t *testing.T) {
	g := newMaker(3)
	for range 1000 {
		g.start()
		x := g.term(5)
		copied := deepCopy(x)
		vars := Vars(x)
		for i := range vars {
			vars[i] = -77
		}
		Right(x)
		Size(x)
		Depth(x)
		Ground(x)
		Occurs(1, x)
		Compare(x, x)
		Same(x, copied)
		if !slices.Equal(Vars(x), g.vars) || !reflect.DeepEqual(x, copied) {
			t.Fatalf("changed: %v, %v", x, copied)
		}
	}
}

func deepCopy(t api.Term) api.Term {
	var args []api.Term
	for _, arg := range t.Args {
		args = append(args, deepCopy(arg))
	}
	t.Args = args
	return t
}
