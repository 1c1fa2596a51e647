package binds

import (
	"slices"
	"testing"

	"constraint/api"
)

// checkTell calls Tell, and overwrites the result before it looks whether the arguments are as before.
func checkTell(t *testing.T, b api.Binds, x, y api.Term, want api.Binds, wantBound []int, wantE api.Errno) {
	t.Helper()
	b, terms := roomy(b), roomyTerms([]api.Term{x, y})
	defer watch(t, terms, b)()
	got, bound, e := Tell(b, terms[0], terms[1])
	if e != wantE || !equalBinds(got, want) || !slices.Equal(bound, wantBound) {
		t.Errorf("Tell(%s, %s, %s) = %s, %s, %d, not %s, %s, %d", short(b), short(x), short(y), short(got), short(bound), e, short(want), short(wantBound), wantE)
	}
	scribble(got)
	if e != api.OK && (len(got) > 0 || len(bound) > 0) {
		t.Errorf("Tell(%s, %s, %s) returns %s and %s together with %d", short(b), short(x), short(y), short(got), short(bound), e)
	}
}

// checkTold does so for both orders of the terms, and compares the result with that of the definition.
func checkTold(t *testing.T, b api.Binds, x, y api.Term, want api.Binds, wantBound []int, wantE api.Errno) {
	t.Helper()
	if c, bound, e := wantTell(b, x, y); e != wantE || !equalBinds(c, want) || !slices.Equal(bound, wantBound) {
		t.Errorf("the store %s and %s = %s are solved by %s, %v, %d, not %s, %v, %d", short(b), short(x), short(y), short(c), bound, e, short(want), wantBound, wantE)
	}
	checkTell(t, b, x, y, want, wantBound, wantE)
	checkTell(t, b, y, x, want, wantBound, wantE)
}

func TestP10_1Table(t *testing.T) {
	for _, x := range []struct {
		store, equation, want string
		bound                 []int
	}{
		{"", "f(V0, 1) = f(2, V1)", "V0 = 2; V1 = 1", []int{0, 1}}, {"V2 = f(V1)", "V2 = V0", "V0 = f(V1); V2 = f(V1)", []int{0}},
		// the empty store
		{"", "V0 = V0", "", nil}, {"", "3 = 3", "", nil}, {"", "f(V5, a) = f(V5, a)", "", nil}, {"", "V0 = 3", "V0 = 3", []int{0}}, {"", "V1048576 = f(V3)", "V1048576 = f(V3)", []int{1048576}}, {"", "V0 = V1", "V1 = V0", []int{1}}, {"", "V5 = V1048576", "V1048576 = V5", []int{1048576}}, {"", "f(V9, V8, V7) = f(1, V6, V5)", "V7 = V5; V8 = V6; V9 = 1", []int{7, 8, 9}},
		{"", "f(V2, V1) = f(V1, g(V0))", "V1 = g(V0); V2 = g(V0)", []int{1, 2}}, {"", "f(V3, V3) = f(V1, V2)", "V2 = V1; V3 = V1", []int{2, 3}},
		// an equation that holds already
		{"V0 = 3", "V0 = 3", "V0 = 3", nil}, {"V0 = 3; V5 = f(V2)", "V9 = V9", "V0 = 3; V5 = f(V2)", nil}, {"V1 = V0", "V0 = V1", "V1 = V0", nil}, {"V1 = V0; V2 = V0", "f(V0, V1, V2) = f(V2, V0, V1)", "V1 = V0; V2 = V0", nil}, {"V3 = f(V0); V4 = g(f(V0))", "V4 = g(V3)", "V3 = f(V0); V4 = g(f(V0))", nil}, {"V0 = a; V1 = a", "V0 = V1", "V0 = a; V1 = a", nil},
		// a variable that the store binds against one that it does not bind
		{"V2 = 7", "V2 = V0", "V0 = 7; V2 = 7", []int{0}}, {"V2 = 7", "V2 = V5", "V2 = 7; V5 = 7", []int{5}}, {"V2 = V1", "V2 = V0", "V1 = V0; V2 = V0", []int{1}}, {"V2 = V1", "V2 = V5", "V2 = V1; V5 = V1", []int{5}}, {"V5 = V1", "V5 = V3", "V3 = V1; V5 = V1", []int{3}}, {"V2 = f(V4)", "V2 = V9", "V2 = f(V4); V9 = f(V4)", []int{9}},
		// two variables that the store binds
		{"V2 = f(V0); V3 = f(V1)", "V2 = V3", "V1 = V0; V2 = f(V0); V3 = f(V0)", []int{1}}, {"V2 = f(V0); V3 = f(7)", "V3 = V2", "V0 = 7; V2 = f(7); V3 = f(7)", []int{0}}, {"V4 = V1; V5 = V2", "V4 = V5", "V2 = V1; V4 = V1; V5 = V1", []int{2}}, {"V4 = V1; V5 = a", "V4 = V5", "V1 = a; V4 = a; V5 = a", []int{1}},
		// a binding changes the terms of the store
		{"V2 = f(V0, V1)", "V0 = 3", "V0 = 3; V2 = f(3, V1)", []int{0}}, {"V2 = f(V0, V1)", "V1 = V0", "V1 = V0; V2 = f(V0, V0)", []int{1}}, {"V2 = V1; V5 = g(V1)", "V1 = f(V0)", "V1 = f(V0); V2 = f(V0); V5 = g(f(V0))", []int{1}}, {"V2 = f(V0, V1)", "V2 = f(1, g(V3))", "V0 = 1; V1 = g(V3); V2 = f(1, g(V3))", []int{0, 1}}, {"V7 = f(V4)", "f(V2, V4) = f(g(V3), V2)", "V2 = g(V3); V4 = g(V3); V7 = f(g(V3))", []int{2, 4}},
		{"V1048576 = V1048575", "V1048575 = V0", "V1048575 = V0; V1048576 = V0", []int{1048575}}, {"V3 = f(V2); V9 = f(V8)", "f(V3, V7) = f(V9, V2)", "V3 = f(V2); V7 = V2; V8 = V2; V9 = f(V2)", []int{7, 8}},
		// the store binds variables to greater ones
		{"V0 = V1", "V5 = V5", "V1 = V0", []int{1}}, {"V0 = V1", "V0 = V1", "V1 = V0", []int{1}}, {"V0 = V1", "V0 = 3", "V0 = 3; V1 = 3", []int{1}}, {"V0 = V1", "V1 = 3", "V0 = 3; V1 = 3", []int{1}}, {"V0 = V5; V1 = V5", "a = a", "V1 = V0; V5 = V0", []int{5}}, {"V0 = V5; V1 = V5; V2 = f(V5)", "V3 = V9", "V1 = V0; V2 = f(V0); V5 = V0; V9 = V3", []int{5, 9}}, {"V3 = V1048576", "V3 = V7", "V7 = V3; V1048576 = V3", []int{7, 1048576}},
		{"V0 = V3; V2 = V3; V4 = V1", "V2 = V4", "V1 = V0; V2 = V0; V3 = V0; V4 = V0", []int{1, 3}}, {"V1 = V2; V5 = f(V2)", "V2 = V0", "V1 = V0; V2 = V0; V5 = f(V0)", []int{2}}, {"V4 = V6; V5 = 1", "V6 = V2", "V4 = V2; V5 = 1; V6 = V2", []int{6}},
		// operators and integers
		{"V0 = 2", "V1 = V0 + 1", "V0 = 2; V1 = 2 + 1", []int{1}}, {"V1 = V0 + 1", "V1 = 3 + V2", "V0 = 3; V1 = 3 + 1; V2 = 1", []int{0, 2}}, {"V0 = -2147483648", "V1 = 2147483648", "V0 = -2147483648; V1 = 2147483648", []int{1}}, {"V0 = f(V1)", "V0 = f(-2147483648)", "V0 = f(-2147483648); V1 = -2147483648", []int{1}},
	} {
		a, b := equation(t, x.equation)
		checkTold(t, store(t, x.store), a, b, store(t, x.want), x.bound, api.OK)
	}
	checkTell(t, api.Binds{}, variable(1), variable(1), nil, nil, api.OK)
	if got, bound, e := Tell(nil, number(3), number(3)); len(got) > 0 || len(bound) > 0 || e != api.OK {
		t.Errorf("Tell of 3 = 3 to no store is %v, %v, %d", got, bound, e)
	}
}

func TestP10_1None(t *testing.T) {
	for _, x := range [][2]string{
		// different names, numbers of arguments and integers
		{"", "a = b"}, {"", "f(V0) = g(V0)"}, {"", "f(V0) = f(V0, V1)"}, {"", "f = f(V0)"}, {"", "1 = 2"}, {"", "0 = a"}, {"", "0 = -2147483648"}, {"", "V0 + V1 = V0 - V1"}, {"", "f(V0, V0) = f(1, 2)"}, {"", "1 + 2 = 3"},
		// the same under the store
		{"V0 = 1", "V0 = 2"}, {"V0 = a", "V0 = b"}, {"V0 = f(V1)", "V0 = f(V1, V2)"}, {"V0 = f(V1)", "V0 = g(V1)"}, {"V0 = 1; V1 = 2", "V0 = V1"}, {"V0 = f(V2, 1); V1 = f(3, V2)", "V0 = V1"}, {"V0 = 2", "V0 + 1 = 3"}, {"V3 = V0; V4 = V0", "f(V3, V4) = f(1, 2)"}, {"V0 = f(g(a))", "V0 = f(g(V0))"}, {"V0 = V5", "f(V0, V5) = f(a, b)"},
		// a variable against a term that contains it
		{"", "V0 = f(V0)"}, {"", "V1048576 = g(1, f(V1048576))"}, {"V1 = 3", "V0 = f(V0)"}, {"", "f(V0, V1) = f(g(V1), g(V0))"}, {"", "V0 = V0 + 0"},
		// only under the store
		{"V1 = f(V0)", "V0 = V1"}, {"V1 = f(V0)", "V0 = g(V1)"}, {"V1 = V0", "V0 = f(V1)"}, {"V0 = V1", "V1 = f(V0)"}, {"V2 = f(V0); V3 = f(V1)", "f(V0, V1) = f(V3, V2)"}, {"V0 = f(V1)", "V1 = g(a, V0)"}, {"V3 = g(V2, 1)", "V3 = V2"}, {"V0 = V1; V2 = V1", "V0 = f(V2)"}, {"V4 = f(V1); V5 = f(f(V1))", "V4 = V5"},
	} {
		a, b := equation(t, x[1])
		checkTold(t, store(t, x[0]), a, b, nil, nil, api.ErrNone)
	}
}

func TestP10_1Invalid(t *testing.T) {
	v, f := variable, functor
	equations := [][2]api.Term{{v(0), v(0)}, {v(4), v(5)}, {v(0), number(3)}, {number(1), number(2)}, {v(6), f("f", v(6))}, {v(1), variable(-1)}}
	for _, b := range invalidStores() {
		for _, x := range equations {
			checkTold(t, b, x[0], x[1], nil, nil, api.ErrArg)
		}
	}
	for _, bad := range invalidTerms() {
		for _, b := range []api.Binds{nil, {bind(0, number(1))}, {bind(0, v(1)), bind(3, v(2))}} {
			for _, x := range [][2]api.Term{{bad, v(5)}, {bad, bad}, {bad, number(1)}, {f("f", bad), v(5)}, {f("f", bad, number(1)), f("f", bad, number(2))}, {v(5), f("f", v(5), bad)}} {
				checkTold(t, b, x[0], x[1], nil, nil, api.ErrArg)
			}
		}
	}
	// A store that ends with a term that contains itself is not valid, either.
	for _, x := range []struct {
		b    api.Binds
		s, t api.Term
	}{{nil, cyclic(), v(0)}, {nil, v(0), cyclic()}, {nil, cyclic(), cyclic()}, {api.Binds{bind(0, cyclic())}, v(1), v(1)}, {api.Binds{bind(0, v(1)), bind(2, cyclic())}, cyclic(), v(1)}} {
		if got, bound, e := Tell(x.b, x.s, x.t); len(got) > 0 || len(bound) > 0 || e != api.ErrArg {
			t.Errorf("Tell of a term that contains itself is %v, %v, %d", got, bound, e)
		}
	}
}

// The terms of the solved form have the nodes or the depth that the limits allow, or one more, where all terms are valid
// each for itself.
func TestP10_1Limits(t *testing.T) {
	v, f, n := variable, functor, number(1)
	for _, x := range []struct {
		b    api.Binds
		s, t api.Term
		want api.Errno
	}{
		{nil, v(0), wide(200, v(1)), api.OK}, {nil, v(0), high(19, v(1)), api.OK}, {nil, v(api.MaxVar), wide(200, n), api.OK},
		{nil, f("f", v(0), v(1)), f("f", high(10, v(1)), high(9, n)), api.OK}, {nil, f("f", v(0), v(1)), f("f", high(10, v(1)), high(10, n)), api.ErrSize},
		// depths
		{api.Binds{bind(0, high(10, v(1)))}, v(1), high(9, v(2)), api.OK}, {api.Binds{bind(0, high(10, v(1)))}, v(1), high(10, v(2)), api.ErrSize}, {api.Binds{bind(0, high(19, v(1)))}, v(1), f("a"), api.OK}, {api.Binds{bind(0, high(19, v(1)))}, v(1), f("g", v(2)), api.ErrSize}, {api.Binds{bind(0, high(19, v(1)))}, v(1), v(2), api.OK}, {api.Binds{bind(0, high(19, v(1)))}, v(1), v(0), api.ErrNone},
		{api.Binds{bind(5, high(10, v(1))), bind(6, high(11, v(1)))}, v(1), high(9, n), api.ErrSize}, {api.Binds{bind(5, high(10, v(1))), bind(6, high(10, v(1)))}, v(1), high(9, n), api.OK}, {api.Binds{bind(5, high(9, n))}, v(0), high(10, v(5)), api.OK}, {api.Binds{bind(5, high(9, n))}, v(0), high(11, v(5)), api.ErrSize},
		// nodes
		{api.Binds{bind(0, f("g", v(1), v(1), n))}, v(1), wide(99, v(2)), api.OK}, {api.Binds{bind(0, f("g", v(1), v(1), n))}, v(1), wide(100, v(2)), api.ErrSize}, {api.Binds{bind(0, f("g", v(1), v(1), n, n))}, v(1), wide(99, n), api.ErrSize}, {api.Binds{bind(0, wide(200, v(1)))}, v(1), number(3), api.OK}, {api.Binds{bind(0, wide(200, v(1)))}, v(1), f("g", v(2)), api.ErrSize},
		{api.Binds{bind(3, wide(99, n))}, v(0), f("g", v(3), v(3), n), api.OK}, {api.Binds{bind(3, wide(100, n))}, v(0), f("g", v(3), v(3)), api.ErrSize}, {api.Binds{bind(3, wide(100, n)), bind(4, wide(99, n))}, v(0), f("g", v(3), v(4)), api.OK}, {api.Binds{bind(3, wide(100, n)), bind(4, wide(99, n))}, v(0), f("g", v(4), v(3), n), api.ErrSize},
		// a store that binds a variable to a greater one
		{api.Binds{bind(0, v(3)), bind(1, high(10, v(3)))}, v(0), high(9, n), api.OK}, {api.Binds{bind(0, v(3)), bind(1, high(10, v(3)))}, v(0), high(10, n), api.ErrSize},
		// terms that become too large, but are not bound to a variable
		{api.Binds{bind(3, wide(200, n))}, f("g", v(3), v(3)), f("g", v(3), wide(198, n)), api.ErrNone}, {api.Binds{bind(3, wide(198, n))}, f("g", v(3), v(3)), f("g", v(3), wide(198, n)), api.OK}, {api.Binds{bind(3, high(19, v(1)))}, high(19, v(3)), high(19, v(2)), api.OK}, {api.Binds{bind(3, high(19, v(1)))}, high(18, v(2)), high(19, v(3)), api.ErrSize}, {api.Binds{bind(3, wide(200, n))}, f("g", v(3), v(3), v(4)), f("g", v(3), v(3), f("h", v(3))), api.ErrSize},
	} {
		c, bound, e := wantTell(x.b, x.s, x.t)
		if e != x.want {
			t.Errorf("telling %s = %s to %s is %d", short(x.s), short(x.t), short(x.b), e)
		}
		checkTold(t, x.b, x.s, x.t, c, bound, x.want)
	}
}

func TestP10_1OrderOfErrors(t *testing.T) {
	v, f := variable, functor
	b := api.Binds{bind(0, high(15, v(1))), bind(2, v(3))}
	large := high(15, v(4))
	for _, x := range []struct {
		s, t api.Term
		want api.Errno
	}{
		{v(1), large, api.ErrSize},
		// too large, and without a unifier because of an earlier or a later argument
		{f("f", v(1), number(1)), f("f", large, number(2)), api.ErrNone}, {f("f", number(1), v(1)), f("f", number(2), large), api.ErrNone}, {f("f", v(1), v(4)), f("f", large, v(0)), api.ErrNone}, {f("f", v(1), v(2)), f("f", large, f("g", v(3))), api.ErrNone},
		// besides not valid
		{f("f", v(1), number(1)), f("f", large, number(api.MaxInt+1)), api.ErrArg}, {f("f", v(1), v(-1)), f("f", large, number(2)), api.ErrArg}, {f("f", v(1), number(1), f("F")), f("f", large, number(2), f("F")), api.ErrArg}, {number(1), f("int"), api.ErrArg},
	} {
		checkTold(t, b, x.s, x.t, nil, nil, x.want)
		checkTold(t, append(slices.Clone(b), bind(2, v(3))), x.s, x.t, nil, nil, api.ErrArg)
	}
}

func TestP10_1All(t *testing.T) {
	stores, terms := smallStores(), smallTerms()
	kinds := map[api.Errno]int{}
	for _, b := range stores {
		for _, x := range terms {
			for _, y := range terms {
				want, wantBound, wantE := wantTell(b, x, y)
				got, bound, e := Tell(b, x, y)
				if e != wantE || !equalBinds(got, want) || !slices.Equal(bound, wantBound) {
					t.Fatalf("Tell(%v, %v, %v) = %v, %v, %d, not %v, %v, %d", b, x, y, got, bound, e, want, wantBound, wantE)
				}
				kinds[e]++
			}
		}
	}
	checkCounts(t, kinds, 20000, api.OK, api.ErrNone)
}

func TestP10_1Random(t *testing.T) {
	g := newMaker(1, 0, 1, 2, 3, 4, 5, 6, 7, api.MaxVar-1, api.MaxVar)
	badTerms, badStores := invalidTerms(), invalidStores()
	kinds := map[api.Errno]int{}
	for i := range 20000 {
		b := g.store(6, 2+i%3)
		x, y := g.pair(2 + i%4)
		switch i % 20 {
		case 0:
			x = functor("f", x, pick(g, badTerms...))
		case 1:
			b = pick(g, badStores...)
		case 2, 3, 4, 5:
			b, x, y = g.climbed(2 + g.random.IntN(7))
		}
		want, bound, e := wantTell(b, x, y)
		checkTold(t, b, x, y, want, bound, e)
		kinds[e]++
	}
	checkCounts(t, kinds, 500, api.OK, api.ErrNone, api.ErrArg, api.ErrSize)
}

// What is told takes no quadratic time, also in a store with many bindings.
func TestP10_1ManyBindings(t *testing.T) {
	const count = 150000
	var same, terms, sameAfter, termsAfter, turned, turnedAfter api.Binds
	var bound []int
	for i := range count {
		same, sameAfter = append(same, bind(i+5, variable(4))), append(sameAfter, bind(i+5, number(3)))
		terms, termsAfter = append(terms, bind(i+5, functor("f", variable(4)))), append(termsAfter, bind(i+5, functor("f", number(3))))
		turned, turnedAfter = append(turned, bind(i, variable(i+count))), append(turnedAfter, bind(i+count, variable(i)))
		bound = append(bound, i+count)
	}
	four := api.Binds{bind(4, number(3))}
	checkTell(t, same, variable(4), number(3), append(slices.Clone(four), sameAfter...), []int{4}, api.OK)
	checkTell(t, same, number(3), variable(count), append(slices.Clone(four), sameAfter...), []int{4}, api.OK)
	checkTell(t, terms, variable(count), functor("f", number(3)), append(slices.Clone(four), termsAfter...), []int{4}, api.OK)
	checkTell(t, terms, variable(count), variable(count/2), terms, nil, api.OK)
	checkTell(t, terms, variable(count), variable(4), nil, nil, api.ErrNone)
	checkTell(t, turned, number(3), number(3), turnedAfter, bound, api.OK)
	checkTell(t, turned, number(3), number(4), nil, nil, api.ErrNone)
	checkTell(t, append(terms, bind(2*count, variable(count))), number(3), number(3), nil, nil, api.ErrArg)
}

func TestP10_1OwnMemory(t *testing.T) {
	b := store(t, "V1 = g(h(V6), V7); V2 = f(g(V7), g(V7)); V4 = f(h(V5), g(V5, h(a)))")
	x, y := equation(t, "f(V8, V9, V5, V3, V0) = f(V1, V2, h(V6), V4, g(V1, V2, h(V6)))")
	checkOwnMemory(t, func() api.Binds {
		c, _, e := Tell(b, x, y)
		if len(c) != 8 || e != api.OK {
			t.Fatalf("Tell(%v, %v, %v) = %v, %d", b, x, y, c, e)
		}
		return c
	})
	first, bound, _ := Tell(b, x, y)
	second, _, _ := Tell(b, x, y)
	scribble(first)
	bound[0] = 99
	if third, bound, _ := Tell(b, x, y); !equalBinds(second, third) || bound[0] != 0 {
		t.Errorf("after a change of the result of Tell it returns %v, %v", third, bound)
	}
}
