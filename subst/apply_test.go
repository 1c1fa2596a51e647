package subst

import (
	"math"
	"slices"
	"testing"

	"constraint/api"
)

// wantTerm finds the first binding of a variable from the end of the list, which leaves the first one for the last.
func wantTerm(b api.Binds, v int) (found api.Term, ok bool) {
	for i := len(b) - 1; i >= 0; i-- {
		if b[i].Var == v {
			found, ok = b[i].Term, true
		}
	}
	return found, ok
}

// wantApply replaces variables in a copy of a term, which it walks through level by level. What it put in is not looked at.
func wantApply(b api.Binds, t api.Term) api.Term {
	result := copyTerm(t)
	todo := []*api.Term{&result}
	for i := 0; i < len(todo); i++ {
		at := todo[i]
		if at.Kind == api.TFun {
			for j := range at.Args {
				todo = append(todo, &at.Args[j])
			}
		}
		if bound, ok := wantTerm(b, at.Int); ok && at.Kind == api.TVar {
			*at = copyTerm(bound)
		}
	}
	return result
}

func wantApplyAll(b api.Binds, list []api.Term) []api.Term {
	var applied []api.Term
	for _, t := range list {
		applied = append(applied, wantApply(b, t))
	}
	return applied
}

func checkLookup(t *testing.T, b api.Binds, v int, want api.Term, wantOK bool) {
	t.Helper()
	defer watch(t, b)()
	got, ok := Lookup(b, v)
	if ok != wantOK || !equal(got, want) {
		t.Errorf("Lookup(%s, %d) = %s, %v, not %s, %v", short(b), v, short(got), ok, short(want), wantOK)
	}
	scribble(got.Args)
}

// checkApply applies a substitution to a term, and to constraints and goals with it. The check that arguments are as
// before comes after the results were overwritten, which they would share.
func checkApply(t *testing.T, b api.Binds, x, want api.Term) {
	t.Helper()
	defer watch(t, b)()
	defer watchTerms(t, x)()
	got := Apply(b, x)
	if !equal(got, want) {
		t.Errorf("Apply(%s, %s) = %s, not %s", short(b), short(x), short(got), short(want))
	}
	scribble(got.Args)
	args := []api.Term{number(1), x, functor("g", x)}
	wantArgs := []api.Term{number(1), want, functor("g", want)}
	checkApplyAtom(t, b, atom("p", args...), atom("p", wantArgs...))
	checkApplyGoal(t, b, api.Goal{Op: api.OpCall, Name: "p", Args: args}, api.Goal{Op: api.OpCall, Name: "p", Args: wantArgs})
	checkApplyGoal(t, b, goal(api.OpLess, args[1:]...), goal(api.OpLess, wantArgs[1:]...))
}

func checkApplyAtom(t *testing.T, b api.Binds, a, want api.Atom) {
	t.Helper()
	defer watchTerms(t, functor(a.Name, a.Args...))()
	got := ApplyAtom(b, a)
	if got.Name != want.Name || !slices.EqualFunc(got.Args, want.Args, equal) {
		t.Errorf("ApplyAtom(%s, %s) = %s, not %s", short(b), short(a), short(got), short(want))
	}
	scribble(got.Args)
}

func checkApplyGoal(t *testing.T, b api.Binds, g, want api.Goal) {
	t.Helper()
	defer watchTerms(t, functor(g.Name, g.Args...))()
	got := ApplyGoal(b, g)
	if got.Op != want.Op || got.Name != want.Name || !slices.EqualFunc(got.Args, want.Args, equal) {
		t.Errorf("ApplyGoal(%s, %s) = %s, not %s", short(b), short(g), short(got), short(want))
	}
	scribble(got.Args)
}

// loose is not in solved form: its variables descend, and some are bound twice, are no variables of valid terms, or are
// bound to terms that are not valid.
func loose() api.Binds {
	return api.Binds{
		bind(9, number(9)), bind(4, functor("f", variable(4), variable(9))), bind(9, functor("b")), bind(4, number(4)), bind(0, variable(9)),
		bind(-1, functor("m")), bind(math.MaxInt, number(api.MaxInt+1)), bind(api.MaxVar, functor("A")), bind(api.MaxVar+1, unknown(7)),
		bind(math.MinInt, filled(variable(9))), bind(1, functor("+")), bind(0, number(0)), bind(2, filled(number(2))), bind(3, filled(functor("f", variable(3)))),
	}
}

func TestP6_2Lookup(t *testing.T) {
	b := api.Binds{bind(0, functor("f", variable(1))), bind(2, variable(1)), bind(api.MaxVar, number(-7))}
	checkLookup(t, b, 0, functor("f", variable(1)), true)
	checkLookup(t, b, 2, variable(1), true)
	checkLookup(t, b, api.MaxVar, number(-7), true)
	for _, v := range append([]int{1, 3, api.MaxVar - 1}, noVars...) {
		checkLookup(t, b, v, api.Term{}, false)
	}
	for _, v := range append([]int{0, 1, 2, api.MaxVar}, noVars...) {
		checkLookup(t, nil, v, api.Term{}, false)
		checkLookup(t, api.Binds{}, v, api.Term{}, false)
		checkLookup(t, api.Binds{bind(v, functor("a"))}, v, functor("a"), true)
		checkLookup(t, api.Binds{bind(5, number(1)), bind(v, functor("a")), bind(v, number(1)), bind(4, number(1))}, v, functor("a"), true)
	}
}

func TestP6_2LookupLoose(t *testing.T) {
	for _, x := range []api.Bind{
		bind(9, number(9)), bind(4, functor("f", variable(4), variable(9))), bind(0, variable(9)), bind(-1, functor("m")), bind(math.MaxInt, number(api.MaxInt+1)),
		bind(api.MaxVar, functor("A")), bind(api.MaxVar+1, unknown(7)), bind(math.MinInt, filled(variable(9))), bind(1, functor("+")), bind(2, filled(number(2))), bind(3, filled(functor("f", variable(3)))),
	} {
		checkLookup(t, loose(), x.Var, x.Term, true)
		checkLookup(t, roomy(loose()), x.Var, x.Term, true)
		checkApply(t, loose(), variable(x.Var), x.Term)
		checkApply(t, loose(), functor("g", number(1), variable(x.Var)), functor("g", number(1), x.Term))
	}
	checkLookup(t, loose(), 5, api.Term{}, false)
	checkLookup(t, loose(), -2, api.Term{}, false)
}

func TestP6_2Table(t *testing.T) {
	v, f := variable, functor
	solved := api.Binds{bind(0, f("f", v(1))), bind(2, v(1)), bind(5, number(3)), bind(api.MaxVar, f("a"))}
	for _, x := range []struct {
		b       api.Binds
		t, want api.Term
	}{
		{solved, f("g", v(0), v(2)), f("g", f("f", v(1)), v(1))},
		{api.Binds{bind(0, f("f", v(1)))}, f("g", v(0), v(2)), f("g", f("f", v(1)), v(2))},
		{api.Binds{bind(0, v(1))}, f("f", v(0), v(1)), f("f", v(1), v(1))},
		{solved, v(0), f("f", v(1))}, {solved, v(1), v(1)}, {solved, v(3), v(3)}, {solved, v(api.MaxVar), f("a")}, {solved, v(api.MaxVar - 1), v(api.MaxVar - 1)},
		{solved, f("a"), f("a")}, {solved, f("f"), f("f")}, {solved, number(0), number(0)}, {solved, number(5), number(5)}, {solved, api.Term{}, api.Term{}},
		{solved, f("+", v(5), f("*", v(5), f("-", v(2), v(4)))), f("+", number(3), f("*", number(3), f("-", v(1), v(4))))},
		{solved, f("h", v(0), v(0), v(0), v(2), v(0), v(1)), f("h", f("f", v(1)), f("f", v(1)), f("f", v(1)), v(1), f("f", v(1)), v(1))},
		// no bindings
		{nil, f("f", v(0), number(1)), f("f", v(0), number(1))}, {api.Binds{}, v(0), v(0)}, {nil, api.Term{}, api.Term{}},
		// terms of bindings are not replaced again
		{api.Binds{bind(0, v(1)), bind(1, number(3))}, f("f", v(0), v(1)), f("f", v(1), number(3))}, {api.Binds{bind(0, v(1)), bind(1, v(0))}, f("f", v(0), v(1)), f("f", v(1), v(0))},
		{api.Binds{bind(0, f("f", v(0)))}, f("f", v(0)), f("f", f("f", v(0)))}, {api.Binds{bind(0, v(0))}, v(0), v(0)},
		{api.Binds{bind(0, f("f", v(1), v(2))), bind(1, f("f", v(2))), bind(2, v(0))}, f("g", v(2), v(1), v(0)), f("g", v(0), f("f", v(2)), f("f", v(1), v(2)))},
		// the first binding counts, in any order
		{api.Binds{bind(0, number(1)), bind(0, number(2))}, v(0), number(1)}, {api.Binds{bind(1, number(1)), bind(0, number(2)), bind(1, number(3)), bind(0, number(4))}, f("f", v(0), v(1)), f("f", number(2), number(1))},
		{api.Binds{bind(3, number(1)), bind(2, number(2)), bind(1, number(3)), bind(0, number(4))}, f("f", v(0), v(1), v(2), v(3), v(4)), f("f", number(4), number(3), number(2), number(1), v(4))},
		// results that are not valid
		{api.Binds{bind(0, number(api.MaxInt+1))}, f("f", v(0)), f("f", number(api.MaxInt+1))}, {api.Binds{bind(0, high(15, v(1)))}, high(15, v(0)), high(30, v(1))},
		{api.Binds{bind(0, wide(api.MaxNodes, v(0)))}, f("f", v(0), v(0)), f("f", wide(api.MaxNodes, v(0)), wide(api.MaxNodes, v(0)))},
		{solved, f("A", v(5), v(5), v(5), v(5), v(5), v(5), v(5)), f("A", number(3), number(3), number(3), number(3), number(3), number(3), number(3))}, {solved, f("+", v(5)), f("+", number(3))}, {solved, f("", v(5)), f("", number(3))},
	} {
		checkApply(t, x.b, x.t, x.want)
		checkApply(t, roomy(x.b), roomyTerm(x.t), x.want)
		checkApply(t, x.b, f("k", v(17), f("k", x.t)), f("k", v(17), f("k", x.want)))
	}
}

func TestP6_2OtherTerms(t *testing.T) {
	b := api.Binds{bind(-1, functor("m")), bind(0, functor("z")), bind(1, functor("o")), bind(2, functor("t"))}
	for _, kind := range unknownKinds {
		for _, x := range []api.Term{unknown(kind), {Kind: kind}, {Kind: kind, Int: 1, Name: "f"}, {Kind: kind, Int: -1, Args: []api.Term{variable(0), functor("f", variable(1))}}} {
			checkApply(t, b, x, x)
			checkApply(t, b, functor("f", variable(0), x, variable(1)), functor("f", functor("z"), x, functor("o")))
			checkApply(t, api.Binds{bind(0, x)}, functor("f", variable(0)), functor("f", x))
		}
	}
	// Unused fields stay as they are, but a variable that is replaced is replaced as a whole.
	checkApply(t, b, filled(number(0)), filled(number(0)))
	checkApply(t, b, filled(variable(7)), filled(variable(7)))
	checkApply(t, b, filled(variable(2)), functor("t"))
	checkApply(t, b, filled(functor("a")), filled(functor("a")))
	checkApply(t, b, filled(functor("f", filled(variable(0)), filled(number(1)))), filled(functor("f", functor("z"), filled(number(1)))))
	checkApply(t, api.Binds{bind(0, filled(number(5))), bind(1, filled(functor("f", filled(variable(0)))))}, functor("f", variable(0), variable(1)), functor("f", filled(number(5)), filled(functor("f", filled(variable(0))))))
	checkApply(t, b, functor("f", variable(-1), variable(-2), variable(math.MinInt)), functor("f", functor("m"), variable(-2), variable(math.MinInt)))
}

func TestP6_2Atoms(t *testing.T) {
	b := api.Binds{bind(0, functor("f", variable(1))), bind(2, variable(0))}
	args := []api.Term{variable(2), variable(0), number(0), variable(1)}
	want := []api.Term{variable(0), functor("f", variable(1)), number(0), variable(1)}
	for _, name := range []string{"p", "f", "leq_2", "", "P", "true", "+", "\xff"} {
		checkApplyAtom(t, b, atom(name, args...), atom(name, want...))
		checkApplyAtom(t, b, atom(name), atom(name))
		checkApplyAtom(t, nil, atom(name, args...), atom(name, args...))
		checkApplyAtom(t, loose(), atom(name, variable(9), variable(4)), atom(name, number(9), functor("f", variable(4), variable(9))))
		for _, op := range []int{api.OpCall, api.OpTrue, api.OpUnify, api.OpGround, 13, -1, math.MaxInt, math.MinInt} {
			checkApplyGoal(t, b, api.Goal{Op: op, Name: name, Args: args}, api.Goal{Op: op, Name: name, Args: want})
		}
	}
}

func TestP6_2Goals(t *testing.T) {
	b := api.Binds{bind(0, functor("f", variable(1))), bind(2, variable(0))}
	args := []api.Term{variable(2), variable(0), number(0), variable(1)}
	want := []api.Term{variable(0), functor("f", variable(1)), number(0), variable(1)}
	for op := api.OpCall; op <= api.OpGround; op++ {
		for count := range len(args) + 1 {
			checkApplyGoal(t, b, goal(op, args[:count]...), goal(op, want[:count]...))
			checkApplyGoal(t, nil, goal(op, args[:count]...), goal(op, args[:count]...))
			checkApplyGoal(t, loose(), goal(op, variable(4), variable(9)), goal(op, functor("f", variable(4), variable(9)), number(9)))
		}
	}
}

// A caller who changes the result at one place does not change it at another one.
func TestP6_2OwnMemory(t *testing.T) {
	b := api.Binds{bind(0, functor("g", variable(1), functor("h", variable(2))))}
	want := copyTerm(b[0].Term)
	for i := range 3 {
		got := Apply(b, functor("f", variable(0), functor("f", variable(0)), variable(0)))
		places := []*api.Term{&got.Args[0], &got.Args[1].Args[0], &got.Args[2]}
		scribble(places[i].Args)
		for j, at := range places {
			if i != j && !equal(*at, want) {
				t.Errorf("changing the place %d changes the place %d to %v", i, j, *at)
			}
		}
	}
}

// Searching the whole list for each variable would take far too long here.
func TestP6_2Many(t *testing.T) {
	const count = 100000
	var b api.Binds
	var list, want []api.Term
	for i := range count {
		b = append(b, bind(i, number(i)))
		list = append(list, variable(count-i), variable(i), variable(count+i))
		want = append(want, number(count-i), number(i), variable(count+i))
	}
	want[0] = variable(count)
	check := func(b api.Binds) {
		t.Helper()
		if got := Apply(b, functor("f", list...)); !equal(got, functor("f", want...)) {
			t.Error("Apply of many bindings")
		}
		if got := ApplyAtom(b, atom("f", list...)); !slices.EqualFunc(got.Args, want, equal) {
			t.Error("ApplyAtom of many bindings")
		}
		if got := ApplyGoal(b, goal(api.OpCall, list...)); !slices.EqualFunc(got.Args, want, equal) {
			t.Error("ApplyGoal of many bindings")
		}
	}
	check(b)
	again := slices.Clone(b)
	for i := range again {
		again[i].Term = functor("a")
	}
	check(append(slices.Clone(b), again...))
	slices.Reverse(b)
	check(b)
	check(append(b, again...))
}

func TestP6_2Deep(t *testing.T) {
	const deep = 65000
	b := api.Binds{bind(0, high(500, functor("a"))), bind(1, high(deep, variable(0)))}
	if got := Apply(b, high(deep, variable(0))); !equal(got, high(deep+500, functor("a"))) {
		t.Error("Apply to a deep term")
	}
	if got := Apply(b, functor("f", variable(1))); !equal(got, functor("f", high(deep, variable(0)))) {
		t.Error("Apply of a deep term")
	}
	if got, ok := Lookup(b, 1); !ok || !equal(got, high(deep, variable(0))) {
		t.Error("Lookup of a deep term")
	}
}

func TestP6_2Random(t *testing.T) {
	g := newMaker(2)
	for i := range 30000 {
		g.valid = i%3 == 0
		b, x := g.binds(7, 4), roomyTerm(g.term(1+i%6))
		checkApply(t, b, x, wantApply(b, x))
		v := g.variable()
		want, ok := wantTerm(b, v)
		checkLookup(t, b, v, want, ok)
		a := atom(pick(g, "p", "A", ""), roomyTerms(g.list(4))...)
		checkApplyAtom(t, b, a, atom(a.Name, wantApplyAll(b, a.Args)...))
		y := api.Goal{Op: g.random.IntN(15) - 1, Name: a.Name, Args: roomyTerms(g.list(5))}
		checkApplyGoal(t, b, y, api.Goal{Op: y.Op, Name: y.Name, Args: wantApplyAll(b, y.Args)})
	}
}

func TestP6_2Twice(t *testing.T) {
	g := newMaker(3)
	for i := range 30000 {
		b := g.solved(4)
		g.valid = i%2 == 0
		x := g.term(6)
		once := Apply(b, x)
		if twice := Apply(b, once); !equal(once, twice) {
			t.Errorf("applying %v to %v once is %v, and twice is %v", b, x, once, twice)
		}
		for _, v := range []int{0, 1, 2, 3, 4, api.MaxVar} {
			_, ok := Lookup(b, v)
			if ok && wantOccurs(v, once) {
				t.Errorf("applying %v to %v leaves the variable %d", b, x, v)
			}
		}
		a := ApplyAtom(b, atom("p", x, number(1)))
		checkApplyAtom(t, b, a, a)
		y := ApplyGoal(b, goal(api.OpSame, x, x))
		checkApplyGoal(t, b, y, y)
	}
}
