package scope

import (
	"math"
	"slices"
	"strings"
	"testing"

	"constraint/api"
)

// declared are the declarations of most tests.
var declared = declsOf("p/1 q/2 r/0 q/0 gcd/1 leq/2")

// checkRule checks the error of a rule.
func checkRule(t *testing.T, decls []api.Decl, r api.Rule, want api.Errno) {
	t.Helper()
	defer watch(t, &decls)()
	defer watch(t, &r)()
	// Twice, because nothing is kept from one call to the next.
	for range 2 {
		if got := CheckRule(decls, r); got != want {
			t.Errorf("CheckRule of %s is %d instead of %d", short(r), int(got), int(want))
		}
	}
	if oracle := wantRule(decls, r); oracle != want {
		t.Errorf("%s is expected to be %d and %d", short(r), int(oracle), int(want))
	}
}

func TestP15_2Table(t *testing.T) {
	for _, x := range []struct {
		decls, rule string
		want        api.Errno
	}{
		{"p/1", "p(X) <=> X = Y.", api.OK},
		{"p/1", "p(X) <=> X < Y | true.", api.ErrVar},
		{"p/1 q/1", "p(X) <=> q(X) | true.", api.ErrKind},
		{"p/1", "p(X) <=> q(X) | true.", api.ErrName},
		{"p/1 q/0 q/2", "p(X) <=> q(X) | true.", api.ErrArity},
		{"leq/2", "leq(X, X) <=> true.", api.OK},
		{"leq/2", "leq(X, Y), leq(Y, X) <=> X = Y.", api.OK},
		{"leq/2", "leq(X, Y) \\ leq(X, Y) <=> true.", api.OK},
		{"leq/2", "leq(X, Y), leq(Y, Z) ==> leq(X, Z).", api.OK},
		{"gcd/1", "gcd(0) <=> true.", api.OK},
		{"gcd/1", "gcd(N) \\ gcd(M) <=> 0 < N, N =< M | L is M - N, gcd(L).", api.OK},
		{"gcd/1", "gcd(N) \\ gcd(M) <=> 0 < N, N =< M | L is M - N, gcd(L, L).", api.ErrArity},
		{"gcd/1", "gcd(N) \\ gcd(M) <=> 0 < N, L is M - N | gcd(L).", api.ErrKind},
		{"gcd/1", "gcd(N) \\ gcd(M) <=> 0 < N, N =< L | L is M - N, gcd(L).", api.ErrVar},
		{"r/0", "r <=> r.", api.OK},
		{"r/0", "r ==> r, r, r.", api.OK},
		{"r/1", "r <=> true.", api.ErrArity},
		{"", "r <=> true.", api.ErrName},
		{"r/0", "r <=> X is 1, Y = f(X, Z).", api.OK},
		{"r/0", "r <=> ground(X) | X = 1.", api.ErrVar},
		{"p/1 q/6", "p(f(X, g(Y))) ==> int(Y) | q(X, Y, Z, 1, a, f(Z)).", api.OK},
		{"p/1", "p(f(X, g(Y))) ==> int(Z) | true.", api.ErrVar},
		// Functors need no declaration, and have no part in that of a constraint.
		{"p/1", "p(q(X)) <=> X = q(1), p(r).", api.OK},
		{"p/1 q/2", "p(q(1)) <=> p(q(1, 2)).", api.OK},
		// Declarations are not checked.
		{"p/1 p/1 P/0 is/3 q/7 q/-1", "p(X) <=> true.", api.OK},
		{"is/0 q/7 q/-1", "q <=> true.", api.ErrArity},
	} {
		decls, r := declsOf(x.decls), ruleOf(x.rule)
		checkRule(t, decls, r, x.want)
		checkRule(t, roomy(decls), roomy(r), x.want)
	}
}

// The number of heads is that of the kept and the removed ones together.
func TestP15_2Heads(t *testing.T) {
	p, q := atom("p", variable(0)), atom("q", number(1), variable(0))
	for kept := range api.MaxHeads + 3 {
		for removed := range api.MaxHeads + 3 {
			r := api.Rule{Name: "n", Keep: times(kept, p), Remove: times(removed, q), Guard: goalsFrom("int(X)"), Body: goalsFrom("p(X)"), Vars: 1}
			want := api.OK
			if kept+removed == 0 || kept+removed > 4 {
				want = api.ErrSize
			}
			checkRule(t, declared, r, want)
		}
	}
	for _, many := range []int{5, 6, 100, 1000} {
		checkRule(t, declared, api.Rule{Keep: times(many, p), Vars: 1}, api.ErrSize)
		checkRule(t, declared, api.Rule{Remove: times(many, p), Vars: 1}, api.ErrSize)
	}
	checkRule(t, declared, api.Rule{}, api.ErrSize)
	checkRule(t, nil, api.Rule{Keep: []api.Atom{}, Remove: []api.Atom{}, Body: goalsFrom("r")}, api.ErrSize)
}

func TestP15_2Counts(t *testing.T) {
	for _, guard := range []int{0, 1, 2, 11, 12, 13, 14, 24, 100} {
		for _, body := range []int{0, 1, 2, 11, 12, 13, 14, 24, 100} {
			want := api.OK
			if guard > 12 || body > 12 {
				want = api.ErrSize
			}
			r := ruleOf("p(X) <=> true.")
			r.Guard, r.Body = times(guard, goal(api.OpInt, variable(0))), times(body, call("r"))
			checkRule(t, declared, r, want)
			r.Guard, r.Body = times(guard, goal(api.OpTrue)), times(body, goal(api.OpTrue))
			checkRule(t, declared, r, want)
		}
	}
}

func TestP15_2InvalidHeads(t *testing.T) {
	p, q := atom("p", variable(0)), atom("q", variableList(0, 1)...)
	for _, a := range invalidAtoms() {
		for _, heads := range insertions(a, p, q) {
			for _, r := range []api.Rule{{Keep: heads}, {Remove: heads}, {Keep: []api.Atom{q}, Remove: heads}, {Keep: heads, Remove: []api.Atom{q}}} {
				r.Body = goalsFrom("q(X, Y)")
				for r.Vars = range 3 {
					checkRule(t, declared, r, api.ErrArg)
				}
			}
		}
	}
}

func TestP15_2InvalidGoals(t *testing.T) {
	isTrue, isInt, q := goal(api.OpTrue), goal(api.OpInt, variable(0)), call("q", variableList(0, 1)...)
	for _, x := range invalidGoals() {
		for vars := range 3 {
			for _, list := range insertions(x, isTrue, isInt) {
				checkRule(t, declared, api.Rule{Keep: []api.Atom{atom("p", variable(0))}, Guard: list, Vars: vars}, api.ErrArg)
				checkRule(t, declared, api.Rule{Remove: []api.Atom{atom("q", q.Args...)}, Guard: list, Body: []api.Goal{q}, Vars: vars}, api.ErrArg)
			}
			for _, list := range insertions(x, q, isTrue) {
				checkRule(t, declared, api.Rule{Keep: []api.Atom{atom("p", variable(0))}, Body: list, Vars: vars}, api.ErrArg)
				checkRule(t, declared, api.Rule{Remove: []api.Atom{atom("q", q.Args...)}, Guard: []api.Goal{isInt}, Body: list, Vars: vars}, api.ErrArg)
			}
		}
	}
}

// Terms, constraints and goals at their limits.
func TestP15_2Limits(t *testing.T) {
	for _, x := range atLimits() {
		vars := len(wantVars([]api.Term{x}))
		for _, r := range []api.Rule{
			{Keep: []api.Atom{atom("p", x)}}, {Remove: []api.Atom{atom("p", x)}}, {Remove: []api.Atom{atom("p", x)}, Guard: []api.Goal{goal(api.OpGround, x)}},
			{Keep: []api.Atom{atom("r")}, Body: []api.Goal{call("p", x)}}, {Keep: []api.Atom{atom("r")}, Remove: []api.Atom{atom("p", x)}, Body: []api.Goal{call("p", x)}},
		} {
			r.Vars = vars
			checkRule(t, declared, r, api.OK)
			r.Vars++
			checkRule(t, declared, r, api.ErrArg)
		}
	}
	for _, nodes := range []int{100, 101} {
		x, y := wide(100, variable(0)), wide(nodes, number(-1))
		want := api.OK
		if nodes > 100 {
			want = api.ErrArg
		}
		for _, r := range []api.Rule{
			{Keep: []api.Atom{atom("q", x, y)}}, {Remove: []api.Atom{atom("r"), atom("q", y, x)}}, {Keep: []api.Atom{atom("p", variable(0))}, Guard: []api.Goal{goal(api.OpLess, x, y)}},
			{Keep: []api.Atom{atom("r")}, Body: []api.Goal{call("q", y, x)}}, {Keep: []api.Atom{atom("r")}, Body: []api.Goal{goal(api.OpUnify, x, y)}},
		} {
			r.Vars = 1
			checkRule(t, declared, r, want)
		}
	}
	// As many variables as a rule can have, and constraints that are as wide as possible.
	var all []api.Term
	for i := range api.MaxArity {
		list := functor("f")
		for k := range api.MaxArity {
			list.Args = append(list.Args, functor("f", variable(12*i+2*k), variable(12*i+2*k+1)))
		}
		all = append(all, list)
	}
	r := api.Rule{Remove: []api.Atom{atom("w", all...)}, Vars: 72}
	checkRule(t, declsOf("w/6"), r, api.OK)
	checkRule(t, declsOf("w/5"), r, api.ErrArity)
	for i := range 100 {
		r.Body = []api.Goal{call("w", variableList(0, 71, 72, i, 73, 74)...)}
		want := api.ErrArg
		if i <= 73 {
			want = api.OK
		}
		r.Vars = 75
		checkRule(t, declsOf("w/6"), r, want)
	}
}

// One variable in each of the four parts, with all numbers, and with all numbers of variables.
func TestP15_2Numbering(t *testing.T) {
	valid := 0
	numbers := []int{-1, 0, 1, 2, 3, 4}
	for _, kept := range numbers {
		for _, removed := range numbers {
			for _, guard := range numbers {
				for _, body := range numbers {
					r := api.Rule{Keep: []api.Atom{atom("p", variable(kept))}, Remove: []api.Atom{atom("p", functor("f", variable(removed)))}, Guard: []api.Goal{goal(api.OpInt, variable(guard))}, Body: []api.Goal{call("p", variable(body))}}
					for vars := -1; vars < 6; vars++ {
						r.Vars = vars
						want := wantRule(declared, r)
						checkRule(t, declared, r, want)
						if want == api.OK {
							valid++
						}
					}
				}
			}
		}
	}
	// p(0) \ p(f(0)) with 0 or 1 in the body, and p(0) \ p(f(1)) with two choices for the guard and three for the body.
	if valid != 2+6 {
		t.Errorf("%d rules are valid", valid)
	}
}

func TestP15_2NumberingTable(t *testing.T) {
	vars := variableList
	for _, x := range []struct {
		numbers []api.Term
		count   int
	}{
		{vars(), 0}, {vars(0), 1}, {vars(0, 0), 1}, {vars(0, 1), 2}, {vars(0, 1, 0, 2), 3}, {vars(0, 1, 2, 3, 2, 1), 4}, {vars(1), -1}, {vars(1, 0), -1}, {vars(0, 2), -1}, {vars(0, 2, 1), -1}, {vars(1, 2, 3), -1}, {vars(0, 0, 2, 1), -1},
		{vars(0, 1, 3), -1}, {vars(5), -1}, {vars(api.MaxVar), -1}, {vars(0, api.MaxVar), -1}, {vars(2, 1, 0), -1},
		{[]api.Term{functor("f", vars(0, 1)...), functor("g", functor("h", variable(2)), variable(1)), number(7), variable(3)}, 4},
		{[]api.Term{functor("f", vars(1, 0)...)}, -1}, {[]api.Term{functor("f", variable(1)), variable(0)}, -1}, {[]api.Term{number(4), functor("a"), functor("+", number(1), variable(0))}, 1},
	} {
		name := "w"
		decls := []api.Decl{{Name: name, Arity: len(x.numbers)}, {Name: "r"}}
		for _, r := range []api.Rule{
			{Keep: []api.Atom{atom(name, x.numbers...)}}, {Remove: []api.Atom{atom(name, x.numbers...)}}, {Keep: []api.Atom{atom("r"), atom(name, x.numbers...)}}, {Keep: []api.Atom{atom("r")}, Remove: []api.Atom{atom(name, x.numbers...), atom("r")}},
			{Keep: []api.Atom{atom("r")}, Body: []api.Goal{call(name, x.numbers...)}}, {Remove: []api.Atom{atom("r")}, Guard: []api.Goal{goal(api.OpTrue)}, Body: []api.Goal{goal(api.OpTrue), call(name, x.numbers...), call("r")}},
		} {
			for _, r.Vars = range []int{x.count, 0, 1, 2, 3, 4, 5, 6, -1, -2, api.MaxVar, api.MaxVar + 1, 1 << 32, 1<<32 + 1, math.MaxInt, math.MinInt} {
				want := api.ErrArg
				if r.Vars == x.count && x.count >= 0 {
					want = api.OK
				}
				checkRule(t, decls, r, want)
			}
		}
	}
}

func TestP15_2Names(t *testing.T) {
	for _, text := range []string{"p(X) <=> true.", "p(X) \\ r <=> int(X) | q(X, Y).", "r ==> fail."} {
		r := ruleOf(text)
		checkRule(t, declared, r, api.OK)
		for _, r.Name = range append(goodNames, "p", "q", "r", "undeclared") {
			checkRule(t, declared, r, api.OK)
		}
		for _, r.Name = range append(badNames, strings.Repeat("n", 1<<20)) {
			checkRule(t, declared, r, api.ErrName)
		}
	}
}

// A constraint in each of the four parts, declared in each way.
func TestP15_2Declared(t *testing.T) {
	for arity := range api.MaxArity + 1 {
		args := times(arity, number(1))
		for _, x := range []struct {
			decls []api.Decl
			want  api.Errno
		}{
			{[]api.Decl{{Name: "w", Arity: arity}}, api.OK},
			{[]api.Decl{{Name: "w", Arity: arity + 1}, {Name: "w", Arity: arity}}, api.OK},
			{[]api.Decl{{Name: "w", Arity: arity}, {Name: "w", Arity: arity - 1}}, api.OK},
			{[]api.Decl{{Name: "w", Arity: arity}, {Name: "w", Arity: arity}}, api.OK},
			{nil, api.ErrName},
			{[]api.Decl{{Name: "v", Arity: arity}, {Name: "ww", Arity: arity}, {Name: "", Arity: arity}}, api.ErrName},
			{[]api.Decl{{Name: "W", Arity: arity}, {Name: "w_", Arity: arity}}, api.ErrName},
			{[]api.Decl{{Name: "w", Arity: arity + 1}}, api.ErrArity},
			{[]api.Decl{{Name: "w", Arity: arity - 1}, {Name: "v", Arity: arity}}, api.ErrArity},
			{[]api.Decl{{Name: "v", Arity: arity}, {Name: "w", Arity: -arity - 1}, {Name: "w", Arity: arity + 7}}, api.ErrArity},
		} {
			w, u := atom("w", args...), atom("u")
			inGuard := x.want
			if inGuard == api.OK {
				inGuard = api.ErrKind
			}
			for _, decls := range insertions(api.Decl{Name: "u"}, x.decls...) {
				if len(decls) <= len(x.decls) {
					continue
				}
				checkRule(t, decls, api.Rule{Keep: []api.Atom{w}}, x.want)
				checkRule(t, decls, api.Rule{Remove: []api.Atom{w}}, x.want)
				checkRule(t, decls, api.Rule{Keep: []api.Atom{u, w}, Remove: []api.Atom{u, u}}, x.want)
				checkRule(t, decls, api.Rule{Keep: []api.Atom{u}, Remove: []api.Atom{u, w}}, x.want)
				checkRule(t, decls, api.Rule{Keep: []api.Atom{u}, Body: []api.Goal{call("w", args...)}}, x.want)
				checkRule(t, decls, api.Rule{Remove: []api.Atom{u}, Body: []api.Goal{goal(api.OpTrue), call("u"), call("w", args...), goal(api.OpFail)}}, x.want)
				checkRule(t, decls, api.Rule{Keep: []api.Atom{u}, Guard: []api.Goal{call("w", args...)}}, inGuard)
				checkRule(t, decls, api.Rule{Keep: []api.Atom{u}, Guard: []api.Goal{goal(api.OpTrue), call("w", args...)}, Body: []api.Goal{call("u")}}, inGuard)
			}
		}
	}
}

// Two constraints that are not declared, in each two places: the first one has the error.
func TestP15_2FirstConstraint(t *testing.T) {
	place := func(r *api.Rule, at int, name string) {
		switch at / 2 {
		case 0:
			r.Keep = slices.Insert(r.Keep, at%2, atom(name))
		case 1:
			r.Remove = slices.Insert(r.Remove, at%2, atom(name))
		case 2:
			r.Guard = slices.Insert(r.Guard, 2*(at%2), call(name))
		case 3:
			r.Body = slices.Insert(r.Body, 2*(at%2), call(name))
		}
	}
	decls := declsOf("r/0 s/1")
	for first := range 8 {
		for second := first + 1; second < 8; second++ {
			for name, want := range map[string]api.Errno{"s": api.ErrArity, "t": api.ErrName} {
				other := map[string]string{"s": "t", "t": "s"}[name]
				r := api.Rule{Keep: []api.Atom{atom("r")}, Remove: []api.Atom{atom("r")}, Guard: goalsFrom("true, true"), Body: goalsFrom("r, fail")}
				// The later place first, so that the earlier one remains where it is.
				place(&r, second, other)
				place(&r, first, name)
				checkRule(t, decls, r, want)
			}
		}
	}
}

// Each goal in a guard and in a body, alone and among others.
func TestP15_2Kinds(t *testing.T) {
	for op, arity := range wantArities {
		args := times(max(arity, 0), variable(0))
		g := goal(op, args...)
		inGuard, inBody := api.ErrKind, api.OK
		switch op {
		case api.OpCall:
			g.Name = "r"
		case api.OpTrue:
			inGuard = api.OK
		case api.OpSame, api.OpApart, api.OpLess, api.OpLeq, api.OpEqual, api.OpUnequal, api.OpInt, api.OpGround:
			inGuard, inBody = api.OK, api.ErrKind
		}
		for _, list := range insertions(g, goalsFrom("int(X), true")...) {
			checkRule(t, declared, api.Rule{Remove: []api.Atom{atom("p", variable(0))}, Guard: list, Vars: 1}, inGuard)
			checkRule(t, declared, api.Rule{Keep: []api.Atom{atom("p", variable(0))}, Guard: list, Body: goalsFrom("fail, X is 1"), Vars: 1}, inGuard)
		}
		for _, list := range insertions(g, goalsFrom("p(X), true")...) {
			checkRule(t, declared, api.Rule{Keep: []api.Atom{atom("p", variable(0))}, Body: list, Vars: 1}, inBody)
			checkRule(t, declared, api.Rule{Remove: []api.Atom{atom("p", variable(0))}, Guard: goalsFrom("true, X < 1"), Body: list, Vars: 1}, inBody)
		}
	}
}

func TestP15_2GuardVariables(t *testing.T) {
	for op := api.OpSame; op <= api.OpGround; op++ {
		for place := range wantArities[op] {
			for _, x := range []struct {
				text string
				v    int
				want api.Errno
			}{
				{"p(X) ==> true.", 0, api.OK}, {"p(X) <=> true.", 0, api.OK}, {"p(X) \\ p(Y) <=> true.", 0, api.OK}, {"p(X) \\ p(Y) <=> true.", 1, api.OK}, {"p(f(X, g(Y))) ==> true.", 1, api.OK},
				{"q(1, X), r \\ r, p(Y) <=> true.", 1, api.OK}, {"p(X) ==> true.", 1, api.ErrVar}, {"p(X) <=> p(Y).", 1, api.ErrVar}, {"p(X) \\ p(Y) <=> q(Y, Z).", 2, api.ErrVar}, {"r <=> p(X).", 0, api.ErrVar}, {"r ==> true.", 0, api.ErrVar},
			} {
				for _, nested := range []bool{false, true} {
					r, g := ruleOf(x.text), goal(op, times(wantArities[op], number(3))...)
					g.Args[place] = variable(x.v)
					if nested {
						g.Args[place] = functor("f", number(1), functor("-", number(2), variable(x.v)))
					}
					r.Vars = max(r.Vars, x.v+1)
					for _, r.Guard = range insertions(g, goalsFrom("1 < 2, ground(a)")...) {
						checkRule(t, declared, r, x.want)
					}
				}
			}
		}
	}
	// The first, a later one, and the last variable of a goal, and of a guard.
	checkRule(t, declared, ruleOf("q(X, Y) <=> X < Y, ground(f(X, Y, X)), Y == X | true."), api.OK)
	checkRule(t, declared, ruleOf("q(X, Y) <=> X < Y, ground(f(X, Y, Z)), Y == X | true."), api.ErrVar)
	checkRule(t, declared, ruleOf("q(X, Y) <=> ground(f(Z, X, Y)), Y == X | q(Z, Z)."), api.ErrVar)
	checkRule(t, declared, ruleOf("q(X, Y) <=> X < Y, X < Y, Y == Z | r."), api.ErrVar)
}

// What is not valid may be very large, or endless.
func TestP15_2Large(t *testing.T) {
	t.Parallel()
	p := []api.Atom{atom("p", variable(0))}
	many := times(300000, variable(0))
	for _, x := range []api.Term{high(1<<16-3, variable(0)), functor("f", many...), circle(), functor("f", functor("f", many...), functor("f", many...))} {
		for _, r := range []api.Rule{
			{Keep: []api.Atom{atom("p", x)}}, {Remove: []api.Atom{atom("q", number(1), x)}}, {Keep: p, Guard: []api.Goal{goal(api.OpInt, x)}}, {Keep: p, Body: []api.Goal{call("p", x)}}, {Keep: p, Body: []api.Goal{goal(api.OpUnify, x, x)}},
		} {
			for r.Vars = range 2 {
				if e := CheckRule(declared, r); e != api.ErrArg {
					t.Errorf("CheckRule of a rule with a large term is %d", int(e))
				}
			}
		}
	}
	checkRule(t, declared, api.Rule{Keep: []api.Atom{atom("p", many...)}, Vars: 1}, api.ErrArg)
	checkRule(t, declared, api.Rule{Keep: times(300000, p[0]), Vars: 1}, api.ErrSize)
	checkRule(t, declared, api.Rule{Keep: p, Guard: times(300000, goal(api.OpTrue)), Vars: 1}, api.ErrSize)
	checkRule(t, declared, api.Rule{Keep: p, Body: times(300000, goal(api.OpTrue)), Vars: 1}, api.ErrSize)
	decls := append(times(300000, api.Decl{Name: "q", Arity: 1}), declsOf("p/0 p/1 p/2")...)
	checkRule(t, decls, ruleOf("p(X) <=> X < 1 | p(1), p(X, X)."), api.OK)
	checkRule(t, decls, ruleOf("p(X) <=> X < 1 | p(1), q(X, X)."), api.ErrArity)
	checkRule(t, decls, ruleOf("p(X) <=> X < 1 | p(1), r(X, X)."), api.ErrName)
}

// ruleFault is a change that makes a rule invalid. It leaves alone what other faults need, where this is possible.
type ruleFault struct {
	// rank is the check that finds the fault, and the place at which it does.
	rank   int
	want   api.Errno
	change func(r *api.Rule)
}

// ruleFaults are the faults of a rule, in the order in which they are found.
var ruleFaults = []ruleFault{
	{10, api.ErrSize, func(r *api.Rule) { r.Keep, r.Remove = nil, nil }},
	{10, api.ErrSize, func(r *api.Rule) { r.Keep = append(times(5, atom("r")), r.Keep...) }},
	{10, api.ErrSize, func(r *api.Rule) { r.Remove = append(r.Remove, times(5, atom("r"))...) }},
	{10, api.ErrSize, func(r *api.Rule) { r.Guard = append(r.Guard, times(13, goal(api.OpTrue))...) }},
	{10, api.ErrSize, func(r *api.Rule) { r.Body = append(r.Body, times(13, goal(api.OpTrue))...) }},
	{20, api.ErrArg, func(r *api.Rule) { r.Keep = append(r.Keep, atom("P")) }},
	{20, api.ErrArg, func(r *api.Rule) { r.Remove = append(r.Remove, atom("r", functor("is"))) }},
	{20, api.ErrArg, func(r *api.Rule) { r.Guard = append(r.Guard, goal(api.OpInt)) }},
	{20, api.ErrArg, func(r *api.Rule) { r.Body = append(r.Body, api.Goal{Op: api.OpFail, Name: "fail"}) }},
	{30, api.ErrArg, func(r *api.Rule) { r.Vars++ }},
	{30, api.ErrArg, func(r *api.Rule) { r.Vars = -1 }},
	{30, api.ErrArg, func(r *api.Rule) {
		r.Body = append(r.Body, goal(api.OpUnify, variable(api.MaxVar), number(1)))
		r.Vars++
	}},
	{40, api.ErrName, func(r *api.Rule) { r.Name = "N" }},
	{40, api.ErrName, func(r *api.Rule) { r.Name = "ground" }},
	{50, api.ErrName, func(r *api.Rule) { r.Keep = append(r.Keep, atom("unknown")) }},
	{50, api.ErrArity, func(r *api.Rule) { r.Keep = append(r.Keep, atom("p", number(0), number(0), number(0))) }},
	{51, api.ErrName, func(r *api.Rule) { r.Remove = append(r.Remove, atom("unknown")) }},
	{51, api.ErrArity, func(r *api.Rule) { r.Remove = append(r.Remove, atom("p", number(0), number(0), number(0))) }},
	{52, api.ErrName, func(r *api.Rule) { r.Guard = append(r.Guard, call("unknown")) }},
	{52, api.ErrArity, func(r *api.Rule) { r.Guard = append(r.Guard, call("p", number(0), number(0), number(0))) }},
	{53, api.ErrName, func(r *api.Rule) { r.Body = append(r.Body, call("unknown")) }},
	{53, api.ErrArity, func(r *api.Rule) { r.Body = append(r.Body, call("p", number(0), number(0), number(0))) }},
	{60, api.ErrKind, func(r *api.Rule) { r.Guard = append(r.Guard, goal(api.OpFail)) }},
	{60, api.ErrKind, func(r *api.Rule) { r.Guard = append(r.Guard, goal(api.OpUnify, number(1), number(1))) }},
	{60, api.ErrKind, func(r *api.Rule) { r.Guard = append(r.Guard, call("r")) }},
	{60, api.ErrKind, func(r *api.Rule) { r.Body = append(r.Body, goal(api.OpGround, number(1))) }},
	{60, api.ErrKind, func(r *api.Rule) { r.Body = append(r.Body, goal(api.OpSame, number(1), number(1))) }},
	// Of a rule whose last variable occurs in the body alone, first.
	{70, api.ErrVar, func(r *api.Rule) { r.Guard = append(r.Guard, goal(api.OpInt, variable(r.Vars-1))) }},
}

// Each error together with each later one, and with two.
func TestP15_2Pairs(t *testing.T) {
	t.Parallel()
	// Few heads, so that there is room for three more.
	base := ruleOf("n @ p(X) <=> X < 1 | p(Z), Z = X.")
	checkRule(t, declared, base, api.OK)
	for i, first := range ruleFaults {
		for k, second := range ruleFaults[i:] {
			for _, third := range ruleFaults[i+k:] {
				if second.rank == first.rank && second.want != first.want || third.rank == first.rank && third.want != first.want {
					continue
				}
				r := copyOf(base)
				// The earlier faults last, because they undo later ones rather than the other way round.
				third.change(&r)
				second.change(&r)
				first.change(&r)
				checkRule(t, declared, r, first.want)
			}
		}
	}
}

// smallRules calls visit for all rules of some small parts.
func smallRules(visit func(r api.Rule)) {
	atoms := []api.Atom{atom("r"), atom("p", variable(0)), atom("p", variable(1)), atom("q", variable(0), variable(1)), atom("p"), atom("u"), atom("P")}
	heads := [][]api.Atom{nil}
	for _, a := range atoms {
		heads = append(heads, []api.Atom{a})
	}
	guards, bodies := [][]api.Goal{nil}, [][]api.Goal{nil}
	for _, g := range []api.Goal{
		goal(api.OpTrue), goal(api.OpFail), goal(api.OpInt, variable(0)), goal(api.OpLess, variable(1), variable(0)), goal(api.OpUnify, variable(0), variable(2)), goal(api.OpInt), call("p", variable(1)), call("q", variable(2), variable(1)), call("u"), call("r", variable(0)),
	} {
		guards, bodies = append(guards, []api.Goal{g}), append(bodies, []api.Goal{g})
	}
	for _, keep := range heads {
		for _, remove := range heads {
			for _, guard := range guards {
				for _, body := range bodies {
					for vars := range 4 {
						visit(api.Rule{Keep: keep, Remove: remove, Guard: guard, Body: body, Vars: vars})
					}
				}
			}
		}
	}
}

func TestP15_2Small(t *testing.T) {
	t.Parallel()
	counts := map[api.Errno]int{}
	smallRules(func(r api.Rule) {
		got, want := CheckRule(declared, r), wantRule(declared, r)
		if got != want {
			t.Errorf("CheckRule of %s is %d instead of %d", short(r), int(got), int(want))
		}
		counts[want]++
	})
	for _, e := range []api.Errno{api.OK, api.ErrSize, api.ErrArg, api.ErrName, api.ErrArity, api.ErrKind, api.ErrVar} {
		if counts[e] < 20 {
			t.Errorf("only %d rules with the error %d: %v", counts[e], int(e), counts)
		}
	}
}

func TestP15_2Random(t *testing.T) {
	t.Parallel()
	g := newMaker(2)
	counts := map[api.Errno]int{}
	for range 20000 {
		decls := g.decls()
		r := g.rule(decls)
		for g.seldom(3) {
			pick(g, ruleFaults...).change(&r)
		}
		want := wantRule(decls, r)
		counts[want]++
		checkRule(t, decls, r, want)
	}
	for _, e := range []api.Errno{api.OK, api.ErrSize, api.ErrArg, api.ErrName, api.ErrArity, api.ErrKind, api.ErrVar} {
		if counts[e] < 150 {
			t.Errorf("only %d rules with the error %d: %v", counts[e], int(e), counts)
		}
	}
}
