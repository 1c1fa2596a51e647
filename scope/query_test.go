package scope

import (
	"math"
	"testing"

	"constraint/api"
)

// checkQuery checks the error of a query.
func checkQuery(t *testing.T, decls []api.Decl, l []api.Goal, vars int, want api.Errno) {
	t.Helper()
	defer watch(t, &decls)()
	defer watch(t, &l)()
	for range 2 {
		if got := CheckQuery(decls, l, vars); got != want {
			t.Errorf("CheckQuery of %s with %d variables is %d instead of %d", short(l), vars, int(got), int(want))
		}
	}
	if oracle := wantQuery(decls, l, vars); oracle != want {
		t.Errorf("%s with %d variables is expected to be %d and %d", short(l), vars, int(oracle), int(want))
	}
}

func TestP15_3Table(t *testing.T) {
	for _, x := range []struct {
		text string
		vars int
		want api.Errno
	}{
		{"", 0, api.OK}, {"", 100, api.OK}, {"", 101, api.ErrSize}, {"", -1, api.ErrSize},
		{"p(A), A < B", 2, api.ErrKind}, {"leq(A, B), leq(B, C), leq(C, A)", 3, api.OK}, {"leq(A, B), leq(B, C), leq(C, A)", 2, api.ErrVar}, {"leq(A, B), leq(B, C), leq(C, A)", 4, api.OK}, {"leq(A, B), leq(B, C), leq(C, A)", 0, api.ErrVar},
		{"gcd(9), gcd(6)", 0, api.OK}, {"gcd(9), gcd(6, 7)", 0, api.ErrArity}, {"gcd(9), gdc(6)", 0, api.ErrName}, {"gcd(9), gdc(6), gcd", 0, api.ErrName}, {"gcd(9), gcd, gdc(6)", 0, api.ErrArity},
		{"p(X), X = f(Y), Z is 1 + 2, true, fail", 3, api.OK}, {"p(X), X = f(Y), Z is 1 + 2, true, fail", 2, api.ErrVar}, {"true", 0, api.OK}, {"fail", 0, api.OK}, {"1 = 2", 0, api.OK}, {"1 is 2", 0, api.OK}, {"r", 0, api.OK}, {"r(1)", 0, api.ErrArity},
		{"p(f(g(X), Y))", 1, api.ErrVar}, {"p(f(g(X), Y))", 2, api.OK}, {"int(1)", 0, api.ErrKind}, {"int(X), u", 0, api.ErrName}, {"int(X), r(1)", 0, api.ErrArity}, {"int(X), r", 0, api.ErrKind}, {"r, int(X), int(X)", 1, api.ErrKind},
	} {
		l := goalsFrom(x.text)
		checkQuery(t, declared, l, x.vars, x.want)
		checkQuery(t, roomy(declared), roomy(l), x.vars, x.want)
	}
	checkQuery(t, nil, nil, 0, api.OK)
	checkQuery(t, nil, goalsFrom("true, X = 1"), 1, api.OK)
	checkQuery(t, nil, goalsFrom("r"), 1, api.ErrName)
	checkQuery(t, declared, []api.Goal{}, 7, api.OK)
	// The variable 3 of a query with 3 variables, and before it variables that are not there.
	checkQuery(t, declared, []api.Goal{call("p", variable(3))}, 3, api.ErrVar)
	checkQuery(t, declared, []api.Goal{call("p", variable(2))}, 3, api.OK)
}

func TestP15_3Counts(t *testing.T) {
	for _, g := range []api.Goal{call("p", variable(0)), goal(api.OpTrue), goal(api.OpUnify, variable(0), number(1)), goal(api.OpInt, number(1)), call("u"), {Op: 99}, call("p", variable(9))} {
		for _, count := range []int{0, 1, 2, 39, 40, 41, 42, 80, 1000} {
			for _, vars := range []int{math.MinInt, -1 << 32, -100, -2, -1, 0, 1, 2, 99, 100, 101, 102, 200, api.MaxVar, 1 << 32, 1<<32 + 1, math.MaxInt} {
				l := times(count, g)
				want := api.ErrSize
				if count <= 40 && vars >= 0 && vars <= 100 {
					want = wantQuery(declared, l[:min(1, count)], vars)
				}
				checkQuery(t, declared, l, vars, want)
			}
		}
	}
}

// Variables next to the number of variables, in each place of a query.
func TestP15_3Variables(t *testing.T) {
	for _, vars := range []int{0, 1, 2, 3, 10, 50, 98, 99, 100} {
		for _, v := range []int{0, 1, 2, vars - 2, vars - 1, vars, vars + 1, vars + 2, 99, 100, 101, api.MaxVar - 1, api.MaxVar} {
			if v < 0 {
				continue
			}
			want := api.OK
			if v >= vars {
				want = api.ErrVar
			}
			x := variable(v)
			for _, g := range []api.Goal{
				call("p", x), call("q", x, number(1)), call("q", functor("a"), x), call("p", functor("f", number(1), functor("g", x))), goal(api.OpUnify, x, number(1)), goal(api.OpUnify, x, x), goal(api.OpIs, number(1), functor("+", number(2), x)),
			} {
				for _, l := range insertions(g, goalsFrom("r, p(1)")...) {
					checkQuery(t, declared, l, vars, want)
				}
			}
			if vars > 0 {
				// Other variables before it, behind it and in the same goal.
				checkQuery(t, declared, []api.Goal{call("q", variable(0), variable(vars-1)), call("p", x)}, vars, want)
				checkQuery(t, declared, []api.Goal{call("p", x), call("q", variable(vars-1), variable(0))}, vars, want)
				checkQuery(t, declared, []api.Goal{call("q", x, variable(0))}, vars, want)
				checkQuery(t, declared, []api.Goal{goal(api.OpIs, variable(0), x)}, vars, want)
			}
		}
	}
}

func TestP15_3InvalidGoals(t *testing.T) {
	for _, x := range invalidGoals() {
		for _, l := range insertions(x, goalsFrom("r, p(X)")...) {
			for _, vars := range []int{0, 1, 2, 100} {
				checkQuery(t, declared, l, vars, api.ErrArg)
			}
		}
	}
	for _, x := range atLimits() {
		for _, g := range []api.Goal{call("p", x), goal(api.OpUnify, x, number(0)), goal(api.OpIs, variable(0), x)} {
			want := api.OK
			if len(wantNodes(g.Args)) > api.MaxNodes {
				want = api.ErrArg
			}
			checkQuery(t, declared, []api.Goal{g}, 1, want)
		}
	}
}

// Each goal, alone and among others.
func TestP15_3Kinds(t *testing.T) {
	for op, arity := range wantArities {
		g := goal(op, times(max(arity, 0), number(1))...)
		want := api.OK
		switch op {
		case api.OpCall:
			g.Name = "r"
		case api.OpSame, api.OpApart, api.OpLess, api.OpLeq, api.OpEqual, api.OpUnequal, api.OpInt, api.OpGround:
			want = api.ErrKind
		}
		for _, l := range insertions(g, goalsFrom("p(X), true, X = 1")...) {
			checkQuery(t, declared, l, 1, want)
		}
	}
}

func TestP15_3Declared(t *testing.T) {
	for _, x := range []struct {
		decls string
		want  api.Errno
	}{
		{"w/2", api.OK}, {"w/1 w/2", api.OK}, {"w/2 w/3 w/2", api.OK}, {"", api.ErrName}, {"v/2", api.ErrName}, {"W/2 ww/2", api.ErrName}, {"w/1", api.ErrArity}, {"w/3 v/2", api.ErrArity}, {"w/0 w/1 w/3 w/-2", api.ErrArity},
	} {
		decls := append(declsOf(x.decls), api.Decl{Name: "u"})
		for _, l := range insertions(call("w", variableList(0, 1)...), goalsFrom("u, true, X = Y")...) {
			checkQuery(t, decls, l, 2, x.want)
		}
		for count := 1; count <= 40; count += 13 {
			l := times(count, call("u"))
			l[count-1] = call("w", variableList(0, 1)...)
			checkQuery(t, decls, l, 2, x.want)
		}
	}
}

// queryFault is a change that makes a query invalid.
type queryFault struct {
	rank   int
	want   api.Errno
	change func(l *[]api.Goal, vars *int)
}

// queryFaults are the faults of a query, in the order in which they are found.
var queryFaults = []queryFault{
	{1, api.ErrSize, func(l *[]api.Goal, vars *int) { *l = append(*l, times(40, goal(api.OpTrue))...) }},
	{1, api.ErrSize, func(l *[]api.Goal, vars *int) { *vars = -1 }},
	{1, api.ErrSize, func(l *[]api.Goal, vars *int) { *vars = 101 }},
	{2, api.ErrArg, func(l *[]api.Goal, vars *int) { *l = append(*l, call("p", variable(-1))) }},
	{2, api.ErrArg, func(l *[]api.Goal, vars *int) { *l = append(*l, goal(api.OpInt)) }},
	{2, api.ErrArg, func(l *[]api.Goal, vars *int) { *l = append([]api.Goal{{Op: 13}}, *l...) }},
	// In front of the others, so that it counts if it is put there last.
	{3, api.ErrName, func(l *[]api.Goal, vars *int) { *l = append([]api.Goal{call("u", variable(100))}, *l...) }},
	{3, api.ErrArity, func(l *[]api.Goal, vars *int) { *l = append([]api.Goal{call("p")}, *l...) }},
	{4, api.ErrKind, func(l *[]api.Goal, vars *int) { *l = append(*l, goal(api.OpLess, variable(3), number(1))) }},
	{4, api.ErrKind, func(l *[]api.Goal, vars *int) { *l = append([]api.Goal{goal(api.OpGround, number(1))}, *l...) }},
	{5, api.ErrVar, func(l *[]api.Goal, vars *int) { *l = append(*l, call("p", variable(3))) }},
	{5, api.ErrVar, func(l *[]api.Goal, vars *int) {
		*l = append([]api.Goal{goal(api.OpUnify, variable(100), number(1))}, *l...)
	}},
}

// Each error together with each later one, and with two.
func TestP15_3Pairs(t *testing.T) {
	for i, first := range queryFaults {
		for k, second := range queryFaults[i:] {
			for _, third := range queryFaults[i+k:] {
				l, vars := goalsFrom("p(X), q(X, Y), r, X = Z, true"), 3
				checkQuery(t, declared, l, vars, api.OK)
				third.change(&l, &vars)
				second.change(&l, &vars)
				first.change(&l, &vars)
				checkQuery(t, declared, l, vars, first.want)
			}
		}
	}
}

// All lists of up to three of some goals.
func TestP15_3Small(t *testing.T) {
	t.Parallel()
	goals := []api.Goal{call("r"), call("p", variable(0)), call("q", variable(2), variable(1)), goal(api.OpTrue), goal(api.OpUnify, variable(1), number(1)), goal(api.OpInt, variable(0)), goal(api.OpFail, number(1)), call("u"), call("r", variable(1)), call("P")}
	lists := [][]api.Goal{nil}
	for at := 0; at < len(lists); at++ {
		for vars := -1; vars < 4; vars++ {
			if got, want := CheckQuery(declared, lists[at], vars), wantQuery(declared, lists[at], vars); got != want {
				t.Errorf("CheckQuery of %s with %d variables is %d instead of %d", short(lists[at]), vars, int(got), int(want))
			}
		}
		for _, g := range goals {
			if len(lists[at]) < 3 {
				lists = append(lists, append(lists[at][:len(lists[at]):len(lists[at])], g))
			}
		}
	}
	if len(lists) != 1+10+100+1000 {
		t.Errorf("%d lists", len(lists))
	}
}

func TestP15_3Large(t *testing.T) {
	t.Parallel()
	many := times(300000, variable(0))
	for _, x := range []api.Term{high(1<<16-3, variable(0)), functor("f", many...), circle()} {
		for _, g := range []api.Goal{call("p", x), goal(api.OpUnify, number(1), x), goal(api.OpInt, x)} {
			if e := CheckQuery(declared, []api.Goal{call("r"), g}, 1); e != api.ErrArg {
				t.Errorf("CheckQuery of a query with a large term is %d", int(e))
			}
		}
	}
	checkQuery(t, declared, []api.Goal{call("p", many...)}, 1, api.ErrArg)
	checkQuery(t, declared, times(300000, call("r")), 1, api.ErrSize)
	checkQuery(t, append(times(300000, api.Decl{Name: "r", Arity: 1}), api.Decl{Name: "r"}), times(40, call("r")), 1, api.OK)
}

func TestP15_3Random(t *testing.T) {
	t.Parallel()
	g := newMaker(3)
	counts := map[api.Errno]int{}
	for range 20000 {
		decls, vars := g.decls(), pick(g, 0, 1, 2, 3, 4, 99, 100)
		l := listOf(g.upTo(40), func() api.Goal { return g.goal(decls, vars, callOps...) })
		for g.seldom(2) {
			pick(g, queryFaults...).change(&l, &vars)
		}
		want := wantQuery(decls, l, vars)
		counts[want]++
		checkQuery(t, decls, l, vars, want)
	}
	for _, e := range []api.Errno{api.OK, api.ErrSize, api.ErrArg, api.ErrName, api.ErrArity, api.ErrKind, api.ErrVar} {
		if counts[e] < 150 {
			t.Errorf("only %d queries with the error %d: %v", counts[e], int(e), counts)
		}
	}
}
