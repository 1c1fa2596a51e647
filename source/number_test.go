package source

import (
	"math"
	"testing"

	"constraint/api"
)

// checkNumber checks the result of Number, and that it shares no memory. The check that the argument is as before comes after
// the result was overwritten, which they would share.
func checkNumber(t *testing.T, r, want api.Rule) {
	t.Helper()
	defer watch(t, &r)()
	got := Number(r)
	if shown(got) != shown(want) {
		t.Errorf("Number(%s) is\n%s instead of\n%s", short(r), short(got), short(want))
	}
	again := Number(r)
	if oracle := wantNumber(r); shown(oracle) != shown(want) {
		t.Errorf("%s is expected to be %s and %s", short(r), short(oracle), short(want))
	}
	checkOwn(t, &got)
	scribble(&got)
	if shown(again) != shown(want) || shown(Number(r)) != shown(want) {
		t.Errorf("Number(%s) is first %s and then %s", short(r), short(want), short(again))
	}
}

// numbered is ruleOf with a number of variables.
func numbered(vars int, name, keep, remove, guard, body string) api.Rule {
	r := ruleOf(name, keep, remove, guard, body)
	r.Vars = vars
	return r
}

func TestP14_1Table(t *testing.T) {
	for _, x := range []struct{ rule, want api.Rule }{
		{ruleOf("", "p(V5)", "q(V5, V2)", "V2 < 1", "r(V7)"), numbered(3, "", "p(V0)", "q(V0, V1)", "V1 < 1", "r(V2)")},
		{ruleOf("r", "p(V0)", "q(V0, V1)", "V1 < 1", "r(V2)"), numbered(3, "r", "p(V0)", "q(V0, V1)", "V1 < 1", "r(V2)")},
		{api.Rule{}, api.Rule{}},
		// Without variables.
		{ruleOf("a", "p", "q", "true", "fail"), numbered(0, "a", "p", "q", "true", "fail")},
		{ruleOf("", "p(1, a)", "q(f(-1))", "int(1); 1 < 2", "p(a)"), numbered(0, "", "p(1, a)", "q(f(-1))", "int(1); 1 < 2", "p(a)")},
		// In each of the parts alone.
		{ruleOf("", "p(V9, V4); p(V4, V3)", "", "", ""), numbered(3, "", "p(V0, V1); p(V1, V2)", "", "", "")},
		{ruleOf("", "", "p(V9, V4); p(V4, V3)", "", ""), numbered(3, "", "", "p(V0, V1); p(V1, V2)", "", "")},
		{ruleOf("", "", "", "V9 < V4; V4 < V3", ""), numbered(3, "", "", "", "V0 < V1; V1 < V2", "")},
		{ruleOf("", "", "", "", "V9 = V4; p(V4, V3)"), numbered(3, "", "", "", "", "V0 = V1; p(V1, V2)")},
		{ruleOf("", "p(V9)", "q(1)", "1 < 2", "p"), numbered(1, "", "p(V0)", "q(1)", "1 < 2", "p")},
		{ruleOf("", "p", "q(V9)", "1 < 2", "p"), numbered(1, "", "p", "q(V0)", "1 < 2", "p")},
		{ruleOf("", "p", "q(1)", "int(V9)", "p"), numbered(1, "", "p", "q(1)", "int(V0)", "p")},
		{ruleOf("", "p", "q(1)", "1 < 2", "p(V9)"), numbered(1, "", "p", "q(1)", "1 < 2", "p(V0)")},
		// The order of the parts.
		{ruleOf("", "p(V3)", "p(V2)", "int(V1)", "p(V0)"), numbered(4, "", "p(V0)", "p(V1)", "int(V2)", "p(V3)")},
		{ruleOf("", "p(V3); p(V2)", "p(V2); p(V3)", "int(V2); int(V3)", "p(V3); p(V2)"), numbered(2, "", "p(V0); p(V1)", "p(V1); p(V0)", "int(V1); int(V0)", "p(V0); p(V1)")},
		{ruleOf("", "", "p(V1, V0)", "V0 < V1", "p(V0, V1)"), numbered(2, "", "", "p(V0, V1)", "V1 < V0", "p(V1, V0)")},
		{ruleOf("", "", "", "ground(V2)", "p(V0, V2, V1)"), numbered(3, "", "", "", "ground(V0)", "p(V1, V0, V2)")},
		{ruleOf("", "p(V1)", "p(V1)", "int(V1)", "p(V1)"), numbered(1, "", "p(V0)", "p(V0)", "int(V0)", "p(V0)")},
		{ruleOf("", "p(V1)", "", "", "p(V1); V0 is V1 + 1; p(V0)"), numbered(2, "", "p(V0)", "", "", "p(V0); V1 is V0 + 1; p(V1)")},
		// From the left to the right, whatever the nesting.
		{ruleOf("", "p(f(V8, g(V6, V8)), V7, V6)", "", "", ""), numbered(3, "", "p(f(V0, g(V1, V0)), V2, V1)", "", "", "")},
		{ruleOf("", "", "p((V8 - 1) * V2 + V8)", "V1 == f(V2, f(V3))", "V8 = f(V3, V1)"), numbered(4, "", "", "p((V0 - 1) * V1 + V0)", "V2 == f(V1, f(V3))", "V0 = f(V3, V2)")},
		// Large numbers.
		{ruleOf("", "p(V1048576, V1048575)", "", "", "p(V0, V1048576)"), numbered(3, "", "p(V0, V1)", "", "", "p(V2, V0)")},
	} {
		for _, vars := range []int{0, 1, 3, 7, -1, api.MaxVar + 1, math.MaxInt, math.MinInt} {
			x.rule.Vars = vars
			checkNumber(t, x.rule, x.want)
		}
		checkNumber(t, roomy(x.rule), x.want)
	}
}

// Numbers that no variable of a valid term has.
func TestP14_1Numbers(t *testing.T) {
	vars := variables(math.MaxInt, -1, 0, math.MinInt, -1, api.MaxVar+1, math.MaxInt, 1<<32, 2, 1, -1<<32)
	want := variables(0, 1, 2, 3, 1, 4, 0, 5, 6, 7, 8)
	for i := range vars {
		checkNumber(t, api.Rule{Keep: []api.Atom{atom("p", vars[i])}}, api.Rule{Keep: []api.Atom{atom("p", variable(0))}, Vars: 1})
	}
	checkNumber(t, api.Rule{Keep: []api.Atom{atom("p", vars...)}}, api.Rule{Keep: []api.Atom{atom("p", want...)}, Vars: 9})
	checkNumber(t, api.Rule{Remove: []api.Atom{atom("p"), atom("q", vars...)}}, api.Rule{Remove: []api.Atom{atom("p"), atom("q", want...)}, Vars: 9})
	checkNumber(t, api.Rule{Guard: []api.Goal{goal(api.OpLess, vars...)}}, api.Rule{Guard: []api.Goal{goal(api.OpLess, want...)}, Vars: 9})
	checkNumber(t, api.Rule{Keep: []api.Atom{atom("p", vars[:3]...)}, Remove: []api.Atom{atom("p", vars[3:5]...)}, Guard: []api.Goal{call("p", vars[5:8]...)}, Body: []api.Goal{call("p", vars[8:]...)}},
		api.Rule{Keep: []api.Atom{atom("p", want[:3]...)}, Remove: []api.Atom{atom("p", want[3:5]...)}, Guard: []api.Goal{call("p", want[5:8]...)}, Body: []api.Goal{call("p", want[8:]...)}, Vars: 9})
}

// A rule keeps everything but its variables, also what is not valid.
func TestP14_1InvalidRules(t *testing.T) {
	for _, name := range append(badNames, "", "p") {
		r := api.Rule{Name: name, Keep: []api.Atom{atom(name, variables(3, 1)...)}, Remove: []api.Atom{atom(name, variables(1, 4)...)}, Guard: []api.Goal{call(name, functor(name, variable(2), variable(4)))}}
		want := api.Rule{Name: name, Keep: []api.Atom{atom(name, variables(0, 1)...)}, Remove: []api.Atom{atom(name, variables(1, 2)...)}, Guard: []api.Goal{call(name, functor(name, variable(3), variable(2)))}, Vars: 4}
		checkNumber(t, r, want)
		for op := range 15 {
			r.Guard, r.Body = []api.Goal{{Op: op, Name: name, Args: variables(6, 7, 1)}, goal(op)}, []api.Goal{{Op: -op, Name: name, Args: variables(5, 3)}, {Op: op, Args: variables(9)}}
			want.Guard, want.Body = []api.Goal{{Op: op, Name: name, Args: variables(3, 4, 1)}, goal(op)}, []api.Goal{{Op: -op, Name: name, Args: variables(5, 0)}, {Op: op, Args: variables(6)}}
			want.Vars = 7
			checkNumber(t, r, want)
		}
	}
	many := api.Rule{Keep: times(9, atom("p", variable(8))), Remove: times(9, atom("p", variable(7))), Guard: times(50, call("p", variable(6))), Body: times(50, goal(api.OpTrue, variable(5)))}
	checkNumber(t, many, api.Rule{Keep: times(9, atom("p", variable(0))), Remove: times(9, atom("p", variable(1))), Guard: times(50, call("p", variable(2))), Body: times(50, goal(api.OpTrue, variable(3))), Vars: 4})
	checkNumber(t, api.Rule{Keep: []api.Atom{}, Remove: []api.Atom{}, Guard: []api.Goal{}, Body: []api.Goal{{Args: []api.Term{}}}, Vars: 3}, api.Rule{Body: []api.Goal{{}}})
}

// inEachPart returns rules, each with a term in one of its parts, and one with it in all of them.
func inEachPart(x api.Term) []api.Rule {
	p, g := []api.Atom{atom("p", x)}, []api.Goal{goal(api.OpInt, x)}
	return []api.Rule{{Keep: p}, {Remove: p}, {Guard: g}, {Body: g}, {Keep: p, Remove: p, Guard: g, Body: g}}
}

// What a term does not use stays as it is, and variables in it are none of the rule.
func TestP14_1Fields(t *testing.T) {
	check := func(x, want api.Term, vars int) {
		t.Helper()
		after := inEachPart(want)
		for i, r := range inEachPart(x) {
			after[i].Vars = vars
			checkNumber(t, r, after[i])
		}
	}
	renamed := filled(variable(3))
	renamed.Int = 0
	check(filled(variable(3)), renamed, 1)
	check(functor("g", filled(variable(3)), filled(number(1)), variable(3), variable(0)), functor("g", renamed, filled(number(1)), variable(0), variable(1)), 2)
	check(filled(functor("f", variable(7), filled(variable(3)), variable(3))), filled(functor("f", variable(0), filled(variable(1)), variable(1))), 2)
	for _, x := range []api.Term{filled(number(3)), filled(functor("a")), {Kind: api.TInt, Int: 2, Args: variables(2)}, {Kind: api.TInt, Args: []api.Term{functor("f", variables(1, 2)...)}}, {Kind: api.TInt, Int: -7, Name: "V1"}} {
		check(x, x, 0)
	}
	for _, kind := range unknownKinds {
		for _, x := range []api.Term{unknown(kind), {Kind: kind}, {Kind: kind, Int: 3, Name: "V0"}, filled(unknown(kind))} {
			check(x, x, 0)
			check(functor("f", x, variable(1), x), functor("f", x, variable(0), x), 1)
		}
	}
	for _, x := range invalidTerms() {
		for _, r := range inEachPart(x) {
			checkNumber(t, r, wantNumber(r))
		}
	}
}

// A list that stands in an argument at several places is several lists in the result.
func TestP14_1Shared(t *testing.T) {
	args := variables(4, 1)
	x := functor("f", functor("g", args...), functor("g", args...), api.Term{Kind: api.TInt, Args: args}, api.Term{Kind: api.TVar, Args: args})
	y := functor("f", functor("g", variables(0, 1)...), functor("g", variables(0, 1)...), api.Term{Kind: api.TInt, Args: args}, api.Term{Kind: api.TVar, Int: 2, Args: args})
	p, g, q, h := []api.Atom{atom("p", x), atom("q", args...)}, []api.Goal{call("p", x), call("q", args...)}, []api.Atom{atom("p", y), atom("q", variables(0, 1)...)}, []api.Goal{call("p", y), call("q", variables(0, 1)...)}
	checkNumber(t, api.Rule{Keep: p, Remove: p, Guard: g, Body: g}, api.Rule{Keep: q, Remove: q, Guard: h, Body: h, Vars: 3})
}

func TestP14_1Random(t *testing.T) {
	t.Parallel()
	g := newMaker(1)
	for range 4000 {
		r := roomy(g.rule())
		checkNumber(t, r, wantNumber(r))
	}
}

// veryHigh returns a term that is about as deep as the bound permits.
func veryHigh(levels int) api.Term {
	x := functor("f", variable(6), number(1))
	for range levels {
		x = functor("s", x)
	}
	return x
}

// A term that is very deep, and many variables.
func TestP14_1Large(t *testing.T) {
	t.Parallel()
	const levels, many = 1<<16 - 3, 200000
	got := Number(api.Rule{Body: []api.Goal{call("p", veryHigh(levels))}})
	inner := got.Body[0].Args[0]
	for range levels {
		inner = inner.Args[0]
	}
	if shown(inner) != shown(functor("f", variable(0), number(1))) || got.Vars != 1 {
		t.Error("a deep term becomes another one")
	}
	var args []api.Term
	for i := range many {
		args = append(args, variable(3*many-i), variable(i))
	}
	got = Number(api.Rule{Remove: []api.Atom{atom("p", args...)}})
	for i, x := range got.Remove[0].Args {
		if x.Int != i {
			t.Errorf("V%d instead of V%d", x.Int, i)
			return
		}
	}
	if got.Vars != 2*many {
		t.Errorf("%d variables", got.Vars)
	}
}
