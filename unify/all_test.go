package unify

import (
	"slices"
	"testing"

	"constraint/api"
)

// checkAll calls All, and overwrites the result before it looks whether the arguments are as before.
func checkAll(t *testing.T, a, b []api.Term, want api.Binds, wantE api.Errno) {
	t.Helper()
	a, b = roomy(a), roomy(b)
	defer watch(t, a, b)()
	got, e := All(a, b)
	if e != wantE || !equalBinds(got, want) {
		t.Errorf("All(%s, %s) = %s, %d, not %s, %d", short(a), short(b), short(got), e, short(want), wantE)
	}
	scribbleBinds(got)
}

// checkOrders does so for some orders of the equations and of their sides, also with repeated ones, and compares the
// result with that of the definition.
func checkOrders(t *testing.T, a, b []api.Term, want api.Binds, wantE api.Errno) {
	t.Helper()
	if solved, e := wantAll(a, b); e != wantE || !equalBinds(solved, want) {
		t.Errorf("the solved form of %s and %s is %s, %d, not %s, %d", short(a), short(b), short(solved), e, short(want), wantE)
	}
	g := newMaker(uint64(len(a)))
	a, b = slices.Clone(a), slices.Clone(b)
	for range 10 {
		checkAll(t, a, b, want, wantE)
		checkAll(t, b, a, want, wantE)
		if len(a) != len(b) {
			return
		}
		checkAll(t, append(slices.Clone(a), b...), append(slices.Clone(b), a...), want, wantE)
		g.random.Shuffle(len(a), func(i, k int) { a[i], a[k], b[i], b[k] = b[k], b[i], a[k], a[i] })
	}
}

func TestP7_2Table(t *testing.T) {
	for _, x := range [][2]string{
		{"", ""}, {"V0 = V0", ""}, {"3 = 3; a = a; f(V1) = f(V1)", ""}, {"f(V2, V1) = f(V1, g(V0))", "V1 = g(V0); V2 = g(V0)"}, {"V2 = V1; V1 = g(V0)", "V1 = g(V0); V2 = g(V0)"}, {"V3 = V1; V3 = V2", "V2 = V1; V3 = V1"},
		{"V0 = 1", "V0 = 1"}, {"V0 = 1; V1 = 2", "V0 = 1; V1 = 2"}, {"V1048576 = V0; V1 = V1048576", "V1 = V0; V1048576 = V0"}, {"V0 = V1048576; V1048576 = a", "V0 = a; V1048576 = a"},
		// chains of variables
		{"V0 = V1; V1 = V2; V2 = V3", "V1 = V0; V2 = V0; V3 = V0"}, {"V3 = V2; V2 = V1; V1 = V0", "V1 = V0; V2 = V0; V3 = V0"}, {"V2 = V3; V0 = V1; V1 = V2", "V1 = V0; V2 = V0; V3 = V0"}, {"V9 = V4; V9 = V2; V4 = V7; V8 = V5", "V4 = V2; V7 = V2; V8 = V5; V9 = V2"},
		{"V0 = V1; V1 = V2; V2 = V0", "V1 = V0; V2 = V0"}, {"V0 = V1; V1 = V2; V2 = a", "V0 = a; V1 = a; V2 = a"}, {"V3 = V5; V4 = V6; V6 = V5", "V4 = V3; V5 = V3; V6 = V3"},
		// bindings that a later equation changes
		{"V0 = f(V1); V1 = 3", "V0 = f(3); V1 = 3"}, {"V1 = f(V0); V0 = 3", "V0 = 3; V1 = f(3)"}, {"V5 = g(V6, V7); V6 = V7; V7 = V8; V8 = a", "V5 = g(a, a); V6 = a; V7 = a; V8 = a"}, {"V1 = f(V9); V9 = V3; V3 = V4", "V1 = f(V3); V4 = V3; V9 = V3"},
		{"V0 = f(V1); V0 = f(V2)", "V0 = f(V1); V2 = V1"}, {"V0 = f(V2, V3); V1 = f(V4, V5); V0 = V1", "V0 = f(V2, V3); V1 = f(V2, V3); V4 = V2; V5 = V3"}, {"V0 = f(V2, V3); V1 = f(V4, V5); V0 = V1; V5 = V4; V3 = 1", "V0 = f(1, 1); V1 = f(1, 1); V2 = 1; V3 = 1; V4 = 1; V5 = 1"},
		{"V1 = f(V0, V0); V2 = f(V1, V1); V0 = a", "V0 = a; V1 = f(a, a); V2 = f(f(a, a), f(a, a))"},
		// equations that repeat
		{"V0 = 1; V0 = 1", "V0 = 1"}, {"V0 = V1; V1 = V0; V0 = V1", "V1 = V0"}, {"V0 = f(V1); f(V1) = V0; V0 = f(V1); f(V0) = f(f(V1))", "V0 = f(V1)"},
	} {
		a, b := equations(t, x[0])
		checkOrders(t, a, b, bindings(t, x[1]), api.OK)
	}
	checkAll(t, nil, []api.Term{}, nil, api.OK)
	checkAll(t, []api.Term{}, nil, nil, api.OK)
	for _, list := range [][]api.Term{nil, {}} {
		if got, e := All(list, list); len(got) > 0 || e != api.OK {
			t.Errorf("All of no equations is %v, %d", got, e)
		}
	}
}

func TestP7_2None(t *testing.T) {
	for _, text := range []string{
		"1 = 2", "a = b; V0 = 1", "V0 = 1; V0 = 2", "V0 = a; V1 = b; V0 = V1", "V0 = 1; V1 = 2; V2 = V0; V3 = V1; V2 = V3", "V0 = f(V1); V0 = g(V1)", "V0 = f(V1); V0 = f(V1, V1)", "V0 = f; V0 = f(V1)", "V0 = 0; V0 = a", "V0 = f(V1); V2 = f(V3); V0 = V2; V1 = 1; V3 = 2",
		"V0 = f(V0)", "V0 = f(V1); V1 = V0", "V0 = f(V1); V1 = f(V0)", "V0 = V1; V1 = V2; V2 = f(V0)", "V0 = V1; V2 = V3; V3 = f(V0); V1 = V2", "V0 = f(V1); V1 = f(V2); V2 = f(V3); V3 = f(a, V0)", "V0 = V1; V0 = f(V2); V1 = f(V3); V2 = f(V3)", "V1048576 = f(V0); V0 = f(V1048576)",
		"V5 = 1; V6 = f(V7); V7 = f(V8); V8 = f(V6)", "V0 = f(V1, V2); V2 = a; V1 = g(V3); V3 = V0",
	} {
		a, b := equations(t, text)
		checkOrders(t, a, b, nil, api.ErrNone)
	}
}

func TestP7_2Arity(t *testing.T) {
	list := []api.Term{variable(0), variable(1), number(3), functor("f", variable(2)), functor("a")}
	for i := range len(list) + 1 {
		for k := range len(list) + 1 {
			if i != k {
				checkOrders(t, list[:i], list[:k], nil, api.ErrArity)
				checkOrders(t, list[:i], list[len(list)-k:], nil, api.ErrArity)
			}
		}
	}
	if got, e := All(nil, list); len(got) > 0 || e != api.ErrArity {
		t.Errorf("All of no term and of %d terms is %v, %d", len(list), got, e)
	}
	// Equations without a unifier, or with one that is too large, do not matter.
	checkAll(t, []api.Term{number(1), variable(0)}, []api.Term{number(2)}, nil, api.ErrArity)
	checkAll(t, []api.Term{variable(0)}, []api.Term{functor("f", variable(0)), number(2)}, nil, api.ErrArity)
	checkAll(t, []api.Term{variable(0), variable(1), variable(2)}, []api.Term{high(10, variable(1)), high(10, variable(2))}, nil, api.ErrArity)
}

func TestP7_2Invalid(t *testing.T) {
	good := []api.Term{number(1), variable(0), functor("f", variable(0)), functor("a")}
	other := []api.Term{number(2), functor("f", variable(0)), variable(1), functor("b")}
	for _, bad := range invalidTerms() {
		for i := range len(good) + 1 {
			list := slices.Insert(slices.Clone(good), i, bad)
			checkAll(t, list, list, nil, api.ErrArg)
			// The other list is longer, as long, shorter or empty, and the equations before this one have no unifier.
			for _, shorter := range [][]api.Term{append(slices.Clone(other), other...), append(slices.Clone(other), number(1)), other, other[:i], nil} {
				checkAll(t, list, shorter, nil, api.ErrArg)
				checkAll(t, shorter, list, nil, api.ErrArg)
			}
		}
		checkAll(t, []api.Term{bad}, nil, nil, api.ErrArg)
		checkAll(t, nil, []api.Term{bad}, nil, api.ErrArg)
	}
	// Terms are valid or not one by one, however large they are together.
	checkAll(t, []api.Term{wide(200, number(1)), wide(200, number(1))}, []api.Term{variable(0), variable(1)}, api.Binds{bind(0, wide(200, number(1))), bind(1, wide(200, number(1)))}, api.OK)
}

// The terms of the solved form have the nodes or the depth that the limits allow, or one more.
func TestP7_2Limits(t *testing.T) {
	v, f := variable, functor
	type list = []api.Term
	for _, x := range []struct {
		a, b list
		want api.Errno
	}{
		{list{v(0)}, list{wide(200, v(1))}, api.OK}, {list{v(0), v(1)}, list{wide(200, v(1)), v(2)}, api.OK}, {list{v(0), v(1)}, list{wide(200, v(1)), f("g", v(2))}, api.ErrSize}, {list{v(0), v(1)}, list{wide(200, v(1)), number(3)}, api.OK},
		{list{v(0), v(1)}, list{f("g", wide(100, number(1)), v(1)), wide(99, v(2))}, api.OK}, {list{v(0), v(1)}, list{f("g", wide(100, number(1)), v(1)), wide(100, v(2))}, api.ErrSize}, {list{v(1), v(0)}, list{f("g", v(0), wide(100, number(1))), wide(100, v(2))}, api.ErrSize},
		{list{v(0), v(1)}, list{f("g", v(1), v(1), number(1)), wide(99, v(2))}, api.OK}, {list{v(0), v(1)}, list{f("g", v(1), v(1), f("h", number(1))), wide(99, v(2))}, api.ErrSize}, {list{v(0), v(1)}, list{f("g", v(1), v(1)), wide(100, v(2))}, api.ErrSize},
		{list{v(0), v(1)}, list{wide(181, v(1)), f("g", v(2))}, api.ErrSize}, {list{v(0), v(1)}, list{f("g", f("g", v(1), v(1)), f("g", v(1), v(1), number(1))), wide(49, v(2))}, api.OK}, {list{v(0), v(1)}, list{f("g", f("g", v(1), v(1)), f("g", v(1), v(1), number(1))), wide(50, v(2))}, api.ErrSize},
		{list{v(0), v(1)}, list{high(10, v(1)), high(9, v(2))}, api.OK}, {list{v(0), v(1)}, list{high(10, v(1)), high(10, v(2))}, api.ErrSize}, {list{v(0), v(1)}, list{high(19, v(1)), v(2)}, api.OK}, {list{v(0), v(1)}, list{high(19, v(1)), f("a")}, api.OK}, {list{v(0), v(1)}, list{high(19, v(1)), f("g", v(2))}, api.ErrSize}, {list{v(0), v(1)}, list{f("g", v(1)), high(19, v(2))}, api.ErrSize},
		{list{v(0), v(1)}, list{f("g", high(9, v(1)), high(10, v(2))), high(9, v(2))}, api.OK}, {list{v(0), v(1)}, list{f("g", high(9, v(1)), high(10, v(2))), high(10, v(2))}, api.ErrSize}, {list{v(0), v(1)}, list{f("g", high(10, v(2)), high(9, v(1))), high(10, v(2))}, api.ErrSize},
		// a later equation, or one in between, makes a term too large
		{list{v(0), v(5), v(1), v(6)}, list{high(10, v(5)), v(1), high(9, v(6)), number(1)}, api.OK}, {list{v(0), v(5), v(1), v(6)}, list{high(10, v(5)), v(1), high(9, v(6)), f("g", number(1))}, api.ErrSize},
		{list{v(0), v(0)}, list{f("g", v(1), high(18, v(2))), f("g", v(3), v(4))}, api.OK}, {list{v(0), v(0), v(1)}, list{f("g", v(1), v(4)), f("g", high(18, v(2)), v(5)), v(6)}, api.OK}, {list{v(0), v(0), v(2)}, list{f("g", v(1)), f("g", high(18, v(2))), f("h", v(3))}, api.ErrSize},
		// terms that become too large, but are not bound to a variable
		{list{high(19, v(0)), v(0)}, list{high(19, v(1)), high(19, v(2))}, api.OK}, {list{wide(200, v(0)), v(1)}, list{wide(200, v(1)), wide(200, v(2))}, api.OK}, {list{high(19, v(0)), v(0), v(3)}, list{high(19, v(1)), high(19, v(2)), f("g", v(1))}, api.ErrSize},
		{list{v(0), v(1), v(2), v(3)}, list{high(9, v(1)), high(9, v(2)), high(1, v(3)), v(4)}, api.OK}, {list{v(0), v(1), v(2), v(3)}, list{high(9, v(1)), high(9, v(2)), high(1, v(3)), f("g", v(4))}, api.ErrSize},
	} {
		want, e := wantAll(x.a, x.b)
		if e != x.want {
			t.Errorf("unifying %s and %s is %d", short(x.a), short(x.b), e)
		}
		checkOrders(t, x.a, x.b, want, x.want)
	}
}

func TestP7_2OrderOfErrors(t *testing.T) {
	large := "V0 = f(V1, V1, V1); V1 = f(V2, V2, V2); V2 = f(V3, V3, V3); V3 = f(V4, V4, V4); V4 = f(V5, V5, V5)"
	for _, x := range []struct {
		text string
		want api.Errno
	}{
		{large, api.ErrSize}, {large + "; V5 = V6; V7 = 1", api.ErrSize}, {large + "; 1 = 2", api.ErrNone}, {large + "; V5 = f(V0)", api.ErrNone}, {large + "; V8 = f(V8)", api.ErrNone}, {large + "; V7 = 1; V6 = V7; V6 = 2", api.ErrNone}, {large + "; V0 = 1", api.ErrNone},
	} {
		a, b := equations(t, x.text)
		checkOrders(t, a, b, nil, x.want)
		checkAll(t, append(a, variable(0)), b, nil, api.ErrArity)
		checkAll(t, a, append(b, variable(0)), nil, api.ErrArity)
		checkAll(t, append(a, variable(-1)), b, nil, api.ErrArg)
		checkAll(t, a[1:], append(b, functor("F")), nil, api.ErrArg)
	}
}

// All triples of equations between some terms.
func TestP7_2AllTriples(t *testing.T) {
	v, f := variable, functor
	terms := []api.Term{v(0), v(1), v(2), f("a"), f("g", v(0)), f("g", v(1)), f("f", v(2), v(0))}
	var pairs [][2]api.Term
	for i, x := range terms {
		for _, y := range terms[i:] {
			pairs = append(pairs, [2]api.Term{x, y})
		}
	}
	kinds := map[api.Errno]int{}
	for _, x := range pairs {
		for _, y := range pairs {
			for _, z := range pairs {
				a, b := []api.Term{x[0], y[1], z[0]}, []api.Term{x[1], y[0], z[1]}
				want, e := wantAll(a, b)
				if got, e2 := All(a, b); e != e2 || !equalBinds(got, want) {
					t.Errorf("All(%v, %v) = %v, %d, not %v, %d", a, b, got, e2, want, e)
				}
				kinds[e]++
			}
		}
	}
	if min(kinds[api.OK], kinds[api.ErrNone]) < 2000 {
		t.Errorf("%d of the triples have a unifier", kinds[api.OK])
	}
}

func TestP7_2Random(t *testing.T) {
	g := newMaker(3, 0, 1, 2, 3, 4, 5, 6, 7, 8, api.MaxVar)
	bad := invalidTerms()
	kinds := map[api.Errno]int{}
	for i := range 20000 {
		a, b := g.pairs(6, 2+i%3)
		switch i % 20 {
		case 0:
			a = append(a, g.term(3))
		case 1:
			b = slices.Insert(b, g.random.IntN(len(b)+1), pick(g, bad...))
		case 2, 3, 4:
			a, b = g.stairs(4 + g.random.IntN(8))
		}
		want, e := wantAll(a, b)
		checkAll(t, a, b, want, e)
		checkAll(t, b, a, want, e)
		kinds[e]++
	}
	if min(kinds[api.OK], kinds[api.ErrNone], kinds[api.ErrArg], kinds[api.ErrArity], kinds[api.ErrSize]) < 500 {
		t.Errorf("errors of random lists: %v", kinds)
	}
}

func TestP7_2RandomOrders(t *testing.T) {
	g := newMaker(4, 0, 1, 2, 3, 4, 5, 6, 7, 8, 9, 10, 11)
	for i := range 1000 {
		a, b := g.pairs(8, 2+i%2)
		want, e := wantAll(a, b)
		checkOrders(t, a, b, want, e)
	}
}

// chain returns the equations between each variable and the next one, in some order.
func chain(order []int) (a, b []api.Term) {
	for _, i := range order {
		a, b = append(a, variable(i+3)), append(b, variable(i+4))
	}
	return a, b
}

// The equations are so many that they must not take quadratic time.
func TestP7_2ManyVariables(t *testing.T) {
	const count = 150000
	g := newMaker(5)
	up := make([]int, count)
	for i := range up {
		up[i] = i
	}
	down := slices.Clone(up)
	slices.Reverse(down)
	var free, bound api.Binds
	for i := range count + 1 {
		bound = append(bound, bind(i+3, functor("c", variable(2))))
		if i > 0 {
			free = append(free, bind(i+3, variable(3)))
		}
	}
	for _, order := range [][]int{up, down, g.random.Perm(count)} {
		a, b := chain(order)
		checkAll(t, a, b, free, api.OK)
		end := functor("c", variable(2))
		checkAll(t, append(b, end), append(a, variable(count+3)), bound, api.OK)
		checkAll(t, append([]api.Term{end}, a...), append([]api.Term{variable(count / 2)}, b...), bound, api.OK)
		checkAll(t, append(a, functor("c", variable(count/2))), append(b, variable(count/3)), nil, api.ErrNone)
		checkAll(t, append(a, number(1), variable(count)), append(b, variable(3), number(2)), nil, api.ErrNone)
	}
}

// All variables of a list, and of a deep one, and equations that are the same again and again.
func TestP7_2ManyTerms(t *testing.T) {
	const count = 40000
	var a, b, repeated []api.Term
	var want api.Binds
	for i := range count {
		a, b = append(a, functor("f", variable(i), functor("g", variable(count+i)))), append(b, functor("f", number(i), functor("g", variable(0))))
		repeated = append(repeated, functor("f", variable(1), high(5, variable(0))))
		want = append(want, bind(i, number(i)))
	}
	for i := range count {
		want = append(want, bind(count+i, number(0)))
	}
	checkAll(t, a, b, want, api.OK)
	checkAll(t, append(a, number(7)), append(b, variable(5)), nil, api.ErrNone)
	checkAll(t, repeated, repeated, nil, api.OK)
	same := slices.Repeat([]api.Term{functor("f", number(3), variable(2))}, count)
	checkAll(t, slices.Repeat([]api.Term{variable(1)}, count), same, api.Binds{bind(1, functor("f", number(3), variable(2)))}, api.OK)
	same[count-1] = functor("f", number(3), functor("g", variable(1)))
	checkAll(t, slices.Repeat([]api.Term{variable(1)}, count), same, nil, api.ErrNone)
}

// The terms of the solved form would be so deep or large that they cannot be built, or followed by calls within calls.
func TestP7_2ManyLevels(t *testing.T) {
	const count = 50000
	for _, term := range []func(v int) api.Term{
		func(v int) api.Term { return high(5, variable(v)) },
		func(v int) api.Term { return functor("f", variable(v), variable(v)) },
	} {
		var a, b []api.Term
		for i := range count {
			a, b = append(a, variable(i)), append(b, term(i+1))
		}
		checkAll(t, a, b, nil, api.ErrSize)
		checkAll(t, append(a, variable(count)), append(b, term(0)), nil, api.ErrNone)
		checkAll(t, append(a, number(1)), append(b, variable(0)), nil, api.ErrNone)
		slices.Reverse(a)
		slices.Reverse(b)
		checkAll(t, a, b, nil, api.ErrSize)
		checkAll(t, append(a, variable(count)), append(b, variable(0)), nil, api.ErrNone)
	}
}

// In each equation between two terms one is a variable, although both contain variables in two places.
func TestP7_2TwoLarge(t *testing.T) {
	f := functor
	for _, count := range []int{10, 100, 10000} {
		var a, b []api.Term
		for i := range count {
			v, w := 10*i+10, 10*i+11
			a = append(a, variable(v), variable(w))
			b = append(b, f("f", f("h", variable(v+10), variable(v+10)), f("h", variable(v+10), variable(v+10))), f("h", f("f", variable(w+10), variable(w+10)), f("f", variable(w+10), variable(w+10))))
		}
		for _, x := range []struct {
			last api.Term
			want api.Errno
		}{{f("f", variable(11), variable(11)), api.ErrSize}, {f("f", variable(11), variable(1)), api.ErrSize}, {f("f", variable(11), variable(21)), api.ErrNone}, {f("f", variable(11), variable(10)), api.ErrNone}} {
			checkAll(t, append(a, variable(10)), append(b, x.last), nil, x.want)
			checkAll(t, append([]api.Term{x.last}, a...), append([]api.Term{variable(10)}, b...), nil, x.want)
		}
	}
}
