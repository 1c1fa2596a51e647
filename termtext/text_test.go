package termtext

import (
	"slices"
	"strings"
	"testing"

	"constraint/api"
)

func checkText(t *testing.T, x api.Term, want string) {
	t.Helper()
	if got := Text(x); got != want {
		t.Errorf("Text(%.300s) = %q, not %q", written(x), got, want)
	}
}

func TestP5_1Table(t *testing.T) {
	v, n, f := variable, number, functor
	for _, x := range []struct {
		term api.Term
		want string
	}{
		{n(0), "0"}, {n(7), "7"}, {n(-7), "-7"}, {n(api.MaxInt), "2147483648"}, {n(-api.MaxInt), "-2147483648"},
		{v(0), "V0"}, {v(12), "V12"}, {v(api.MaxVar), "V1048576"},
		{f("a"), "a"}, {f("aB_1"), "aB_1"}, {f(strings.Repeat("z", api.MaxName)), strings.Repeat("z", api.MaxName)},
		{api.Term{Kind: api.TFun, Name: "a", Args: []api.Term{}}, "a"}, {api.Term{Kind: api.TInt, Int: 3, Args: []api.Term{}}, "3"},
		{f("f", n(1)), "f(1)"}, {f("f", n(-1)), "f(-1)"}, {f("f", v(3), f("a")), "f(V3, a)"}, {f("f", f("g", f("h", n(-1)))), "f(g(h(-1)))"},
		{f("f", n(1), n(-2), v(3), f("a"), f("g", v(0)), f("+", n(1), n(2))), "f(1, -2, V3, a, g(V0), 1 + 2)"},
		{f("f", f("+", n(1), n(2)), f("*", n(1), f("-", n(2), n(3)))), "f(1 + 2, 1 * (2 - 3))"},
		{f("+", n(1), n(2)), "1 + 2"}, {f("-", n(1), n(2)), "1 - 2"}, {f("*", n(1), n(2)), "1 * 2"}, {f("/", n(1), n(2)), "1 / 2"}, {f("%", n(1), n(2)), "1 % 2"},
		{f("-", f("-", n(7), n(2)), n(1)), "7 - 2 - 1"}, {f("-", n(7), f("-", n(2), n(1))), "7 - (2 - 1)"},
		{f("*", f("+", v(0), n(1)), f("f", f("a"), f("%", v(2), n(2)))), "(V0 + 1) * f(a, V2 % 2)"},
		{f("*", v(0), f("-", n(1), n(-2))), "V0 * (1 - -2)"},
		{f("+", f("*", n(1), n(2)), f("/", n(3), n(4))), "1 * 2 + 3 / 4"}, {f("*", f("+", n(1), n(2)), f("-", n(3), n(4))), "(1 + 2) * (3 - 4)"},
		{f("*", f("f", f("+", n(1), n(2))), f("a")), "f(1 + 2) * a"}, {f("+", f("a"), f("f", f("*", v(1), v(2)))), "a + f(V1 * V2)"},
		{f("-", f("*", f("-", n(1), n(2)), n(3)), f("%", n(4), f("+", n(5), n(6)))), "(1 - 2) * 3 - 4 % (5 + 6)"},
	} {
		checkText(t, x.term, x.want)
	}
}

// places says for each inner operator (+ - * / % from top to bottom), as an operand of each outer one (+ - * / % from left
// to right), whether it is in parentheses.
var (
	firstPlaces  = []string{"__XXX", "__XXX", "_____", "_____", "_____"}
	secondPlaces = []string{"XXXXX", "XXXXX", "__XXX", "__XXX", "__XXX"}
)

func inPlace(s string, mark byte) string {
	if mark == 'X' {
		return "(" + s + ")"
	}
	return s
}

func TestP5_1Operators(t *testing.T) {
	for i, inner := range operators {
		for j, outer := range operators {
			x, s := functor(inner, number(-1), variable(1)), "-1 "+inner+" V1"
			first, second := inPlace(s, firstPlaces[i][j]), inPlace(s, secondPlaces[i][j])
			checkText(t, functor(outer, x, number(-3)), first+" "+outer+" -3")
			checkText(t, functor(outer, number(-3), x), "-3 "+outer+" "+second)
			checkText(t, functor(outer, x, x), first+" "+outer+" "+second)
			checkText(t, functor("f", functor(outer, functor("g", x), x)), "f(g("+s+") "+outer+" "+second+")")
		}
	}
}

func TestP5_1Chains(t *testing.T) {
	for _, op := range operators {
		checkText(t, chain(op, api.MaxDepth, true), "1"+strings.Repeat(" "+op+" 1", api.MaxDepth-1))
		inner := api.MaxDepth - 2
		checkText(t, chain(op, api.MaxDepth, false), strings.Repeat("1 "+op+" (", inner)+"1 "+op+" 1"+strings.Repeat(")", inner))
		checkText(t, chain(op, api.MaxDepth+1, true), "")
		checkText(t, chain(op, api.MaxDepth+1, false), "")
	}
}

func TestP5_1Limits(t *testing.T) {
	checkText(t, wide(api.MaxNodes), wantText(wide(api.MaxNodes)))
	checkText(t, wide(api.MaxNodes+1), "")
	checkText(t, high(api.MaxDepth), strings.Repeat("f(", api.MaxDepth-1)+"a"+strings.Repeat(")", api.MaxDepth-1))
	checkText(t, high(api.MaxDepth+1), "")
	if n := strings.Count(Text(wide(api.MaxNodes)), "f"); n != api.MaxNodes {
		t.Errorf("%d nodes", n)
	}
}

func TestP5_1Invalid(t *testing.T) {
	for _, x := range invalidTerms() {
		checkText(t, x, "")
		checkText(t, functor("f", number(1), x), "")
		checkText(t, functor("+", x, number(1)), "")
		checkText(t, functor("*", number(1), x), "")
		checkAtomText(t, atom("p", number(1), x), "")
		checkGoalText(t, goal(api.OpInt, x), "")
		checkGoalText(t, goal(api.OpIs, number(1), x), "")
		checkGoalText(t, api.Goal{Name: "p", Args: []api.Term{x}}, "")
	}
}

// A term that contains itself has no text, but also no end.
func TestP5_1Endless(t *testing.T) {
	args := []api.Term{functor("f"), functor("f")}
	for i := range args {
		args[i].Args = args
	}
	checkText(t, args[0], "")
	checkAtomText(t, atom("p", args...), "")
	checkGoalText(t, goal(api.OpUnify, args...), "")
}

func TestP5_1Random(t *testing.T) {
	g := newMaker(1)
	for range 20000 {
		x := g.term(1 + g.random.IntN(7))
		if size(x) > api.MaxNodes {
			checkText(t, x, "")
			continue
		}
		before := copyOf(x)
		checkText(t, x, wantText(x))
		if written(x) != written(before) {
			t.Fatalf("%s was changed to %s", written(before), written(x))
		}
		checkText(t, g.broken(x), "")
	}
}

func checkAtomText(t *testing.T, a api.Atom, want string) {
	t.Helper()
	if got := TextAtom(a); got != want {
		t.Errorf("TextAtom(%.300s) = %q, not %q", written(a), got, want)
	}
}

func TestP5_1Atoms(t *testing.T) {
	v, n := variable, number
	for _, x := range []struct {
		atom api.Atom
		want string
	}{
		{atom("p"), "p"}, {atom("p", []api.Term{}...), "p"}, {atom("leq", v(0), v(1)), "leq(V0, V1)"}, {atom("p", n(-1)), "p(-1)"},
		{atom("p", functor("+", n(1), n(-2)), functor("*", n(1), functor("+", v(1), v(2)))), "p(1 + -2, 1 * (V1 + V2))"},
		{atom("p", n(1), n(2), n(3), n(4), n(5), n(6)), "p(1, 2, 3, 4, 5, 6)"}, {atom("p", n(1), n(2), n(3), n(4), n(5), n(6), n(7)), ""},
		{atom(strings.Repeat("z", api.MaxName)), strings.Repeat("z", api.MaxName)}, {atom(strings.Repeat("z", api.MaxName+1)), ""},
		{atom("isA", functor("p")), "isA(p)"}, {atom(""), ""}, {atom("V0"), ""}, {atom("P"), ""}, {atom("_"), ""}, {atom("p "), ""}, {atom("p(1)"), ""},
		{atom("p", high(api.MaxDepth)), "p(" + wantText(high(api.MaxDepth)) + ")"}, {atom("p", high(api.MaxDepth+1)), ""},
		{atom("p", wide(100), wide(100)), "p(" + wantText(wide(100)) + ", " + wantText(wide(100)) + ")"}, {atom("p", wide(100), wide(101)), ""},
		{atom("p", wide(api.MaxNodes)), "p(" + wantText(wide(api.MaxNodes)) + ")"}, {atom("p", wide(api.MaxNodes), n(1)), ""},
	} {
		checkAtomText(t, x.atom, x.want)
	}
	for _, word := range slices.Concat(reserved, operators) {
		checkAtomText(t, atom(word), "")
		checkAtomText(t, atom(word, n(1)), "")
		checkAtomText(t, atom(word, n(1), n(2)), "")
	}
}

func checkGoalText(t *testing.T, g api.Goal, want string) {
	t.Helper()
	if got := TextGoal(g); got != want {
		t.Errorf("TextGoal(%.300s) = %q, not %q", written(g), got, want)
	}
}

// comparisons are the symbols of the goals with two arguments.
var comparisons = map[int]string{
	api.OpUnify: "=", api.OpIs: "is", api.OpSame: "==", api.OpApart: `\=`, api.OpLess: "<", api.OpLeq: "=<", api.OpEqual: "=:=", api.OpUnequal: `=\=`,
}

func TestP5_1Comparisons(t *testing.T) {
	a, b := functor("*", number(-1), functor("+", variable(0), number(2))), functor("-", number(1), number(-2))
	for op, symbol := range comparisons {
		checkGoalText(t, goal(op, variable(0), number(-3)), "V0 "+symbol+" -3")
		checkGoalText(t, goal(op, a, b), "-1 * (V0 + 2) "+symbol+" 1 - -2")
		checkGoalText(t, goal(op, b, a), "1 - -2 "+symbol+" -1 * (V0 + 2)")
		checkGoalText(t, goal(op, functor("f", b), functor("a")), "f(1 - -2) "+symbol+" a")
		checkGoalText(t, goal(op, wide(100), wide(100)), wantText(wide(100))+" "+symbol+" "+wantText(wide(100)))
		checkGoalText(t, goal(op, wide(100), wide(101)), "")
		checkGoalText(t, goal(op, high(api.MaxDepth), high(api.MaxDepth+1)), "")
		checkGoalText(t, api.Goal{Op: op, Name: "p", Args: []api.Term{a, b}}, "")
		for _, arity := range []int{0, 1, 3} {
			checkGoalText(t, goal(op, make([]api.Term, arity)...), "")
		}
	}
}

func TestP5_1Goals(t *testing.T) {
	sum := functor("+", variable(0), number(-1))
	for _, x := range []struct {
		goal api.Goal
		want string
	}{
		{goal(api.OpTrue), "true"}, {goal(api.OpFail), "fail"}, {goal(api.OpTrue, []api.Term{}...), "true"},
		{goal(api.OpTrue, sum), ""}, {goal(api.OpFail, sum), ""}, {api.Goal{Op: api.OpTrue, Name: "true"}, ""}, {api.Goal{Op: api.OpFail, Name: "fail"}, ""},
		{goal(api.OpInt, variable(0)), "int(V0)"}, {goal(api.OpGround, variable(0)), "ground(V0)"}, {goal(api.OpInt, number(-1)), "int(-1)"},
		{goal(api.OpInt, sum), "int(V0 + -1)"}, {goal(api.OpGround, functor("f", sum)), "ground(f(V0 + -1))"},
		{goal(api.OpInt, wide(api.MaxNodes)), "int(" + wantText(wide(api.MaxNodes)) + ")"}, {goal(api.OpGround, high(api.MaxDepth)), "ground(" + wantText(high(api.MaxDepth)) + ")"},
		{goal(api.OpInt), ""}, {goal(api.OpGround), ""}, {goal(api.OpInt, sum, sum), ""}, {goal(api.OpGround, sum, sum), ""}, {api.Goal{Op: api.OpInt, Name: "int", Args: []api.Term{sum}}, ""},
		{api.Goal{Name: "p"}, "p"}, {api.Goal{Name: "p", Args: []api.Term{sum, sum}}, "p(V0 + -1, V0 + -1)"},
		{api.Goal{Name: "p", Args: []api.Term{wide(api.MaxNodes)}}, "p(" + wantText(wide(api.MaxNodes)) + ")"},
		{api.Goal{}, ""}, {api.Goal{Name: "true"}, ""}, {api.Goal{Name: "int", Args: []api.Term{sum}}, ""}, {api.Goal{Name: "+", Args: []api.Term{sum, sum}}, ""},
		{api.Goal{Name: "p", Args: make([]api.Term, api.MaxArity)}, "p(0, 0, 0, 0, 0, 0)"}, {api.Goal{Name: "p", Args: make([]api.Term, api.MaxArity+1)}, ""},
		{goal(-1), ""}, {goal(13), ""}, {goal(13, sum), ""}, {goal(13, sum, sum), ""}, {goal(-1, sum, sum), ""}, {goal(1<<62, sum, sum), ""}, {goal(-1<<63, sum), ""},
	} {
		checkGoalText(t, x.goal, x.want)
	}
}
