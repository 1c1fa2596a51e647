package unify

import (
	"slices"
	"testing"

	"constraint/api"
)

// checkUnify calls Unify, and overwrites the result before it looks whether the arguments are as before.
func checkUnify(t *testing.T, a, b api.Term, want api.Binds, wantE api.Errno) {
	t.Helper()
	terms := roomy([]api.Term{a, b})
	defer watch(t, terms)()
	got, e := Unify(terms[0], terms[1])
	if e != wantE || !equalBinds(got, want) {
		t.Errorf("Unify(%s, %s) = %s, %d, not %s, %d", short(a), short(b), short(got), e, short(want), wantE)
	}
	scribbleBinds(got)
}

// checkBoth does so for both orders of the terms, and compares the result with that of the definition.
func checkBoth(t *testing.T, a, b api.Term, want api.Binds, wantE api.Errno) {
	t.Helper()
	if solved, e := wantAll([]api.Term{a}, []api.Term{b}); e != wantE || !equalBinds(solved, want) {
		t.Errorf("the solved form of %s and %s is %s, %d, not %s, %d", short(a), short(b), short(solved), e, short(want), wantE)
	}
	checkUnify(t, a, b, want, wantE)
	checkUnify(t, b, a, want, wantE)
}

func TestP7_1Table(t *testing.T) {
	for _, x := range [][3]string{
		{"f(V2, V1)", "f(V1, g(V0))", "V1 = g(V0); V2 = g(V0)"}, {"f(V3, V3)", "f(V1, V2)", "V2 = V1; V3 = V1"},
		// variables
		{"V0", "V0", ""}, {"V1048576", "V1048576", ""}, {"V5", "V2", "V5 = V2"}, {"V0", "V1", "V1 = V0"}, {"V0", "V1048576", "V1048576 = V0"}, {"V1048575", "V1048576", "V1048576 = V1048575"},
		{"f(V0, V1)", "f(V0, V1)", ""}, {"f(V0, V1)", "f(V1, V0)", "V1 = V0"}, {"f(V0, V1, V2)", "f(V1, V2, V0)", "V1 = V0; V2 = V0"}, {"f(V2, V1, V0)", "f(V3, V3, V3)", "V1 = V0; V2 = V0; V3 = V0"},
		{"f(V9, V8)", "f(V7, V6)", "V8 = V6; V9 = V7"}, {"f(V6, V8)", "f(V9, V7)", "V8 = V7; V9 = V6"},
		// a variable and another term
		{"V0", "3", "V0 = 3"}, {"V1048576", "-2147483648", "V1048576 = -2147483648"}, {"V0", "a", "V0 = a"}, {"V3", "f(V4, 1 + V2)", "V3 = f(V4, 1 + V2)"}, {"V0", "f(V1048576)", "V0 = f(V1048576)"}, {"V1048576", "f(V0)", "V1048576 = f(V0)"},
		{"f(V0, V1)", "f(1, 2)", "V0 = 1; V1 = 2"}, {"f(V5, V4, V3)", "f(1, 2, 3)", "V3 = 3; V4 = 2; V5 = 1"}, {"f(V0, 2)", "f(1, V1)", "V0 = 1; V1 = 2"},
		// no variables
		{"3", "3", ""}, {"0", "0", ""}, {"2147483648", "2147483648", ""}, {"a", "a", ""}, {"f(a, g(1), 2 * 3)", "f(a, g(1), 2 * 3)", ""},
		// operators
		{"V0 + 1", "2 + V1", "V0 = 2; V1 = 1"}, {"V0 / V1", "V1 / V2", "V1 = V0; V2 = V0"}, {"V0 - V0", "V1 * 2 - 3 * V2", "V0 = 3 * 2; V1 = 3; V2 = 2"}, {"V0 % (V1 + 1)", "a % V2", "V0 = a; V2 = V1 + 1"},
		// the terms of variables that become equal are unified, too
		{"f(V0, V0)", "f(g(V1), g(V2))", "V0 = g(V1); V2 = V1"}, {"f(V0, V0, V0)", "f(g(V3, V4), g(a, V2), V1)", "V0 = g(a, V2); V1 = g(a, V2); V3 = a; V4 = V2"},
		{"f(V0, V1, V0)", "f(g(V2), g(V3), V1)", "V0 = g(V2); V1 = g(V2); V3 = V2"}, {"f(V0, g(V1))", "f(g(V2), V0)", "V0 = g(V1); V2 = V1"},
		// a later argument changes an earlier binding
		{"f(V1, V0)", "f(g(V0), 3)", "V0 = 3; V1 = g(3)"}, {"f(V5, V4, V3)", "f(V4, V3, a)", "V3 = a; V4 = a; V5 = a"}, {"f(V5, V4, V2)", "f(g(V4, V3), V3, 1)", "V2 = 1; V4 = V3; V5 = g(V3, V3)"},
		{"f(V3, V2, V1)", "f(g(V2, V2), g(V1, V1), g(V0, V0))", "V1 = g(V0, V0); V2 = g(g(V0, V0), g(V0, V0)); V3 = g(g(g(V0, V0), g(V0, V0)), g(g(V0, V0), g(V0, V0)))"},
		{"f(V3, V4, V0)", "f(V4, V2, V4)", "V2 = V0; V3 = V0; V4 = V0"}, {"f(V1, V3, V1)", "f(V2, V4, V4)", "V2 = V1; V3 = V1; V4 = V1"}, {"f(g(V7, V8), V9)", "f(V9, g(V8, V6))", "V7 = V6; V8 = V6; V9 = g(V6, V6)"},
		// the same arguments again
		{"f(V0, V0, V0)", "f(g(V1), g(V1), g(V1))", "V0 = g(V1)"}, {"f(V1, V1, V1)", "f(V0, V0, V0)", "V1 = V0"}, {"f(V0, V1, V0, V1)", "f(V1, V0, V0, V1)", "V1 = V0"},
	} {
		checkBoth(t, read(t, x[0]), read(t, x[1]), bindings(t, x[2]), api.OK)
	}
}

func TestP7_1None(t *testing.T) {
	for _, x := range [][2]string{
		// different functors and numbers
		{"a", "b"}, {"f(V0)", "g(V0)"}, {"f(V0)", "f(V0, V1)"}, {"f", "f(V0)"}, {"f", "f(f)"}, {"1", "2"}, {"0", "1"}, {"1", "-1"}, {"2147483648", "-2147483648"}, {"1", "a"}, {"1", "f(1)"}, {"0", "a"}, {"0", "f(V0)"}, {"1 + 2", "3"}, {"1 + 2", "2 + 1"}, {"V0 + V1", "V0 - V1"}, {"V0 * V1", "V0 / V1"}, {"V0 % V1", "f(V0, V1)"},
		{"f(1, V0)", "f(2, V0)"}, {"f(V0, 1)", "f(V0, 2)"}, {"f(V0, g(a))", "f(V0, g(b))"}, {"f(g(V0))", "f(h(V0))"}, {"f(V0, V1, V2, V3, V4, a)", "f(V1, V2, V3, V4, V5, b)"},
		// a variable would be two terms
		{"f(V0, V0)", "f(1, 2)"}, {"f(V0, V0)", "f(a, b)"}, {"f(V0, V0)", "f(g(V1), h(V1))"}, {"f(V0, V0)", "f(g(V1), g(V1, V1))"}, {"f(V0, V1, V0)", "f(1, 2, V1)"}, {"f(V0, V1, V2, V0)", "f(V1, V2, 3, 4)"}, {"f(V0, V0, V1)", "f(g(V1), g(a), b)"}, {"f(V0, V0)", "f(0, a)"},
		// a variable would contain itself
		{"V0", "f(V0)"}, {"V1048576", "f(V1048576)"}, {"V3", "g(a, f(1, V3))"}, {"V0", "V0 + 0"}, {"f(V0, V0)", "f(V1, g(V1))"}, {"f(V0, V1)", "f(g(V1), g(V0))"}, {"f(V0, V1)", "f(f(V1), f(V0))"}, {"f(V0, V1, V2)", "f(g(V1), g(V2), g(V0))"}, {"f(V0, V1, V2)", "f(V1, V2, g(V0))"},
		{"f(V0, V0)", "f(g(V1), g(g(V1)))"}, {"f(V0, V1, V0)", "f(V2, g(V2), V1)"}, {"f(V1, V2, V1)", "f(h(V0, a), h(a, V0), g(V2))"}, {"f(g(V0), V0)", "f(V0, V0)"}, {"f(V0, V0)", "f(g(V1, 1), g(g(V1, 1), 1))"}, {"f(V3, V2)", "f(V2, g(a, V3))"}, {"f(V3, V1)", "f(g(V1), g(V3))"},
		{"f(V1, V0, V5)", "f(g(V0), V5, V1)"}, {"g(V0, V1)", "g(V1, g(V1, V0))"},
	} {
		checkBoth(t, read(t, x[0]), read(t, x[1]), nil, api.ErrNone)
	}
}

func TestP7_1Invalid(t *testing.T) {
	valid := []api.Term{variable(0), variable(5), number(3), functor("a"), functor("f", variable(1))}
	for _, bad := range invalidTerms() {
		for _, bad := range []api.Term{bad, functor("f", bad), functor("f", number(1), functor("g", bad), number(2)), functor("f", number(2), functor("g", number(1), bad))} {
			for _, other := range append(valid, bad, functor("f", number(1), functor("g", number(2)), number(3)), functor("f", number(3), functor("g", number(2), bad))) {
				checkBoth(t, bad, other, nil, api.ErrArg)
			}
		}
	}
	// A term is valid or not as a whole: a subterm may be large or deep.
	checkBoth(t, functor("f", wide(100, variable(0)), wide(100, variable(0))), variable(5), nil, api.ErrArg)
	checkBoth(t, functor("f", number(1), high(api.MaxDepth-1, variable(0))), functor("f", number(2), variable(3)), nil, api.ErrArg)
}

// The solved form is as large or as deep as the limits allow, or one node or level beyond.
func TestP7_1Limits(t *testing.T) {
	v, f, n := variable, functor, number(1)
	deep := func(levels ...int) (a, b api.Term) {
		a, b = f("f"), f("f")
		for i, count := range levels {
			a, b = f("f", append(a.Args, v(i))...), f("f", append(b.Args, high(count, v(i+1)))...)
		}
		return a, b
	}
	pair := func(a, b api.Term) [2]api.Term { return [2]api.Term{a, b} }
	for _, x := range []struct {
		terms [2]api.Term
		want  api.Errno
	}{
		{pair(v(0), wide(200, v(1))), api.OK}, {pair(v(0), high(19, v(1))), api.OK}, {pair(v(0), high(19, n)), api.OK}, {pair(wide(200, v(0)), wide(200, n)), api.OK}, {pair(high(19, v(0)), high(19, n)), api.OK}, {pair(wide(200, v(0)), wide(200, v(0))), api.OK},
		// depths
		{pair(deep(10, 9)), api.OK}, {pair(deep(10, 10)), api.ErrSize}, {pair(deep(1, 18)), api.OK}, {pair(deep(2, 18)), api.ErrSize}, {pair(deep(18, 1)), api.OK}, {pair(deep(18, 2)), api.ErrSize}, {pair(deep(0, 18)), api.OK}, {pair(deep(18, 18)), api.ErrSize},
		{pair(deep(7, 6, 6)), api.OK}, {pair(deep(7, 6, 7)), api.ErrSize}, {pair(deep(1, 9, 10)), api.ErrSize}, {pair(deep(1, 8, 10)), api.OK}, {pair(deep(4, 4, 4, 4, 3)), api.OK}, {pair(deep(4, 4, 4, 4, 4)), api.ErrSize}, {pair(deep(3, 3, 3, 3, 3, 4)), api.OK}, {pair(deep(4, 3, 3, 3, 3, 4)), api.ErrSize},
		{pair(f("f", v(0), v(1)), f("f", f("g", n, high(9, v(1)), v(1)), high(9, v(2)))), api.OK}, {pair(f("f", v(0), v(1)), f("f", f("g", n, high(9, v(1)), v(1)), high(10, v(2)))), api.ErrSize},
		{pair(f("f", v(0), v(1)), f("f", f("g", high(9, v(1)), n, v(2)), high(9, f("a")))), api.OK}, {pair(f("f", v(0), v(1)), f("f", f("g", high(9, v(1)), n, v(2)), high(10, f("a")))), api.ErrSize}, {pair(f("f", v(3), v(1)), f("f", f("g", high(9, v(1)), n, v(2)), high(10, f("a")))), api.ErrSize},
		// nodes
		{pair(f("f", v(0), v(1)), f("f", f("g", v(1), v(1)), wide(99, v(2)))), api.OK}, {pair(f("f", v(0), v(1)), f("f", f("g", v(1), v(1)), wide(100, v(2)))), api.ErrSize}, {pair(f("f", v(0), v(1)), f("f", f("g", v(1), v(1), n), wide(99, v(2)))), api.OK}, {pair(f("f", v(0), v(1)), f("f", f("g", v(1), v(1), f("a"), n), wide(99, n))), api.ErrSize},
		{pair(f("f", v(0), v(1)), f("f", f("g", v(1), v(1), n, n, n), wide(98, v(2)))), api.OK}, {pair(f("f", v(0), v(1)), f("f", f("g", n, v(1), n, n, v(1), n), wide(98, v(2)))), api.ErrSize}, {pair(f("f", v(1), v(0)), f("f", f("g", v(0), v(0), v(2)), wide(99, n))), api.OK}, {pair(f("f", v(1), v(0)), f("f", f("g", v(0), v(0), f("g", v(2))), wide(99, n))), api.ErrSize},
		{pair(f("f", v(0), v(1), v(2)), f("f", f("g", v(1), v(1), n), f("h", v(2), v(2)), wide(49, n))), api.OK}, {pair(f("f", v(0), v(1), v(2)), f("f", f("g", v(1), v(1), n, n), f("h", v(2), v(2)), wide(49, n))), api.ErrSize}, {pair(f("f", v(0), v(1), v(2)), f("f", f("g", v(1), v(2), f("h", n, n)), f("h", v(2), v(2)), wide(65, n))), api.OK}, {pair(f("f", v(0), v(1), v(2)), f("f", f("g", v(1), v(2), f("h", n, n, n)), f("h", v(2), v(2)), wide(65, n))), api.ErrSize},
		// terms that become too large, but are not bound to a variable
		{pair(f("f", high(10, v(1)), v(1)), f("f", high(10, v(2)), high(12, v(3)))), api.OK}, {pair(f("f", v(1), high(18, v(1))), f("f", high(18, v(0)), high(18, v(2)))), api.OK}, {pair(f("f", f("g", v(0), v(0), v(0)), v(0)), f("f", f("g", v(1), v(2), v(3)), wide(150, v(4)))), api.OK},
		{pair(f("f", f("g", v(0), v(0), v(0)), v(0), v(5)), f("f", f("g", v(1), v(2), v(3)), wide(150, v(4)), f("g", v(0)))), api.OK}, {pair(f("f", f("g", v(0), v(0), v(0)), v(0), v(5)), f("f", f("g", v(1), v(2), v(3)), wide(150, v(4)), f("g", v(0), v(1)))), api.ErrSize},
	} {
		a, b := x.terms[0], x.terms[1]
		want, e := wantAll([]api.Term{a}, []api.Term{b})
		if e != x.want {
			t.Errorf("unifying %s and %s is %d", short(a), short(b), e)
		}
		checkBoth(t, a, b, want, x.want)
	}
}

func TestP7_1OrderOfErrors(t *testing.T) {
	large := "V0 = f(V1, V1, V1, V1, V1, V1); V1 = f(V2, V2, V2, V2, V2, V2); V2 = f(V3, V3, V3, V3, V3, V3)"
	for _, x := range []struct {
		text string
		want api.Errno
	}{
		{large, api.ErrSize}, {large + "; V3 = V4", api.ErrSize}, {"V4 = V4; " + large, api.ErrSize}, {large + "; V3 = 3", api.ErrSize}, {"V3 = f(V4); " + large, api.ErrSize},
		// no unifier, as an earlier or a later argument shows
		{large + "; 1 = 2", api.ErrNone}, {"f(V5) = f(V5, V5); " + large, api.ErrNone}, {large + "; V0 = V1", api.ErrNone}, {large + "; V3 = f(V0)", api.ErrNone}, {large + "; V3 = V2", api.ErrNone}, {"V4 = g(V4); " + large, api.ErrNone}, {large + "; V2 = f(1, 2, 3, 4, 5, 6)", api.ErrNone},
	} {
		a, b := equations(t, x.text)
		checkBoth(t, functor("f", a...), functor("f", b...), nil, x.want)
		// an argument that is not valid
		a[len(a)-1] = number(api.MaxInt + 1)
		checkBoth(t, functor("f", a...), functor("f", b...), nil, api.ErrArg)
	}
}

// smallTerms returns all terms of some leaves with up to two levels of functors above them.
func smallTerms(leaves, inner []api.Term) []api.Term {
	level := func(below []api.Term) []api.Term {
		list := slices.Clone(leaves)
		for _, x := range below {
			list = append(list, functor("g", x))
			for _, y := range below {
				list = append(list, functor("f", x, y))
			}
		}
		return list
	}
	return level(append(slices.Clone(leaves), inner...))
}

func TestP7_1All(t *testing.T) {
	v, f := variable, functor
	inner := []api.Term{f("g", v(0)), f("g", v(2)), f("g", f("a")), f("f", v(1), v(0)), f("f", v(2), v(2)), f("f", f("a"), v(1))}
	terms := smallTerms([]api.Term{v(0), v(1), v(2), v(api.MaxVar), f("a"), number(3)}, inner)
	kinds := map[api.Errno]int{}
	for _, a := range terms {
		for _, b := range terms {
			want, e := wantAll([]api.Term{a}, []api.Term{b})
			got, e2 := Unify(a, b)
			if e != e2 || !equalBinds(got, want) {
				t.Errorf("Unify(%v, %v) = %v, %d, not %v, %d", a, b, got, e2, want, e)
			}
			kinds[e]++
		}
	}
	if kinds[api.OK] < 5000 || kinds[api.ErrNone] < 5000 {
		t.Errorf("%d of the pairs of %d terms have a unifier", kinds[api.OK], len(terms))
	}
}

func TestP7_1Random(t *testing.T) {
	g := newMaker(1, 0, 1, 2, 3, 7, api.MaxVar)
	bad := invalidTerms()
	kinds := map[api.Errno]int{}
	for i := range 60000 {
		a, b := g.pair(2 + i%5)
		if i%20 == 0 {
			b = functor("f", b, pick(g, bad...))
		}
		want, e := wantAll([]api.Term{a}, []api.Term{b})
		checkBoth(t, a, b, want, e)
		kinds[e]++
	}
	if min(kinds[api.OK], kinds[api.ErrNone], kinds[api.ErrArg]) < 1000 {
		t.Errorf("errors of random pairs: %v", kinds)
	}
}

// stairs returns equations between variables and terms with later variables, in any order, so that their solved form is
// large or deep.
func (g *maker) stairs(count int) (a, b []api.Term) {
	vars := g.random.Perm(count + 1)
	for i := range count {
		later := func() api.Term { return variable(vars[i+1+g.random.IntN(count-i)]) }
		a = append(a, variable(vars[i]))
		b = append(b, pick(g, high(g.random.IntN(16), later()), functor("f", later(), later(), later()), functor("g", wide(1+g.random.IntN(30), number(1)), later(), later()), functor("h", later(), number(2), later(), later(), later())))
	}
	g.random.Shuffle(count, func(i, k int) { a[i], a[k], b[i], b[k] = a[k], a[i], b[k], b[i] })
	return a, b
}

func TestP7_1RandomSizes(t *testing.T) {
	g := newMaker(2)
	kinds := map[api.Errno]int{}
	for range 10000 {
		a, b := g.stairs(2 + g.random.IntN(5))
		if g.random.IntN(4) == 0 {
			a[0] = functor("g", variable(g.random.IntN(4)), variable(g.random.IntN(4)))
		}
		x, y := functor("f", a...), functor("f", b...)
		want, e := wantAll([]api.Term{x}, []api.Term{y})
		checkBoth(t, x, y, want, e)
		kinds[e]++
	}
	if min(kinds[api.OK], kinds[api.ErrNone], kinds[api.ErrSize]) < 300 {
		t.Errorf("errors of random pairs of larger terms: %v", kinds)
	}
}

// No two lists of the result are the same memory, so that a caller may change each one.
func TestP7_1OwnMemory(t *testing.T) {
	a, b := read(t, "f(V0, V1, V2, V3, V4, V5)"), read(t, "f(g(h(V6), V7), V0, g(V0, V0), V2, V3, g(V1, h(a)))")
	want, _ := Unify(a, b)
	for i := range want {
		got, e := Unify(a, b)
		if e != api.OK || len(got) != 6 {
			t.Fatalf("Unify(%v, %v) = %v, %d", a, b, got, e)
		}
		scribble(got[i].Term.Args)
		for k := range got {
			if k != i && !equal(got[k].Term, want[k].Term) {
				t.Errorf("a change of the term of V%d changes that of V%d", got[i].Var, got[k].Var)
			}
		}
	}
	got, _ := Unify(a, b)
	list := got[2].Term.Args
	scribble(list[0].Args)
	if !equal(list[1], want[2].Term.Args[1]) {
		t.Error("a change of an argument changes another one")
	}
}
