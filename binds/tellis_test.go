package binds

import (
	"math"
	"slices"
	"testing"

	"constraint/api"
)

// checkTellIs compares TellIs with the wanted result and with that of the definition, and overwrites the result before it
// looks whether the arguments are as before.
func checkTellIs(t *testing.T, b api.Binds, x, y api.Term, want api.Binds, wantBound []int, wantE api.Errno) {
	t.Helper()
	if c, bound, e := wantTellIs(b, x, y); e != wantE || !equalBinds(c, want) || !slices.Equal(bound, wantBound) {
		t.Errorf("the store %s and %s is %s are solved by %s, %v, %d, not %s, %v, %d", short(b), short(x), short(y), short(c), bound, e, short(want), wantBound, wantE)
	}
	b, terms := roomy(b), roomyTerms([]api.Term{x, y})
	defer watch(t, terms, b)()
	got, bound, e := TellIs(b, terms[0], terms[1])
	if e != wantE || !equalBinds(got, want) || !slices.Equal(bound, wantBound) {
		t.Errorf("TellIs(%s, %s, %s) = %s, %v, %d, not %s, %v, %d", short(b), short(x), short(y), short(got), bound, e, short(want), wantBound, wantE)
	}
	scribble(got)
	if e != api.OK && (len(got) > 0 || len(bound) > 0) {
		t.Errorf("TellIs(%s, %s, %s) returns %s and %v together with %d", short(b), short(x), short(y), short(got), bound, e)
	}
}

func TestP10_2Table(t *testing.T) {
	for _, x := range []struct {
		store, left, right, want string
		bound                    []int
	}{
		{"V0 = 2", "V1", "V0 + 1", "V0 = 2; V1 = 3", []int{1}}, {"", "V0", "7 - 2 - 1", "V0 = 4", []int{0}}, {"", "V0", "-7 / 2", "V0 = -4", []int{0}}, {"", "V0", "-7 % 2", "V0 = 1", []int{0}}, {"", "V0", "7 % -2", "V0 = -1", []int{0}}, {"", "V1048576", "(1 + 2) * (3 + 4)", "V1048576 = 21", []int{1048576}},
		// a variable as expression, bound to an integer or an expression
		{"V0 = 2", "V1", "V0", "V0 = 2; V1 = 2", []int{1}}, {"V1 = 2", "V0", "V1", "V0 = 2; V1 = 2", []int{0}}, {"V0 = 2 + 3", "V1", "V0", "V0 = 2 + 3; V1 = 5", []int{1}}, {"V0 = 2 + 3", "V1", "V0 * V0", "V0 = 2 + 3; V1 = 25", []int{1}}, {"V0 = 2", "V0", "V0", "V0 = 2", nil}, {"V0 = 7; V1 = 7", "V0", "V1", "V0 = 7; V1 = 7", nil}, {"V0 = -3; V2 = 2 * 5", "V1", "V2 / V0", "V0 = -3; V1 = -4; V2 = 2 * 5", []int{1}},
		// the value against a variable that is bound to another one
		{"V3 = V1; V5 = 4", "V3", "V5 - 1", "V1 = 3; V3 = 3; V5 = 4", []int{1}}, {"V1 = V3", "V1", "8", "V1 = 8; V3 = 8", []int{3}}, {"V1 = V3", "V0", "8", "V0 = 8; V3 = V1", []int{0, 3}}, {"V1 = V3", "8", "8", "V3 = V1", []int{3}}, {"V4 = f(V2); V5 = g(V2, V0)", "V2", "0 - 1", "V2 = -1; V4 = f(-1); V5 = g(-1, V0)", []int{2}},
		// the value against an integer
		{"", "3", "3", "", nil}, {"", "3", "1 + 2", "", nil}, {"V0 = 3", "V0", "1 + 2", "V0 = 3", nil}, {"V0 = 1; V1 = 2", "3", "V0 + V1", "V0 = 1; V1 = 2", nil},
		// the ends of the range
		{"", "V0", "2147483648", "V0 = 2147483648", []int{0}}, {"", "V0", "-2147483648", "V0 = -2147483648", []int{0}}, {"", "V0", "2147483647 + 1", "V0 = 2147483648", []int{0}}, {"", "V0", "-2147483647 - 1", "V0 = -2147483648", []int{0}}, {"", "V0", "65536 * 32768", "V0 = 2147483648", []int{0}}, {"", "V0", "0 - 2147483648", "V0 = -2147483648", []int{0}}, {"V1 = 2147483648", "V0", "V1 / -1", "V0 = -2147483648; V1 = 2147483648", []int{0}}, {"", "V0", "2147483648 - 2147483648", "V0 = 0", []int{0}}, {"", "V0", "2147483648 - 1 + 1", "V0 = 2147483648", []int{0}},
	} {
		checkTellIs(t, store(t, x.store), read(t, x.left), read(t, x.right), store(t, x.want), x.bound, api.OK)
	}
	if got, bound, e := TellIs(nil, number(3), number(3)); len(got) > 0 || len(bound) > 0 || e != api.OK {
		t.Errorf("TellIs of 3 and 3 with no store is %v, %v, %d", got, bound, e)
	}
}

func TestP10_2Errors(t *testing.T) {
	for _, x := range []struct {
		store, left, right string
		want               api.Errno
	}{
		// a variable that is not bound, or bound to one that is not
		{"", "V0", "V1", api.ErrVar}, {"", "V0", "V0", api.ErrVar}, {"V0 = 2", "V0", "V1", api.ErrVar}, {"V0 = 2", "V1", "V0 + V2", api.ErrVar}, {"V1 = V0", "V2", "V1", api.ErrVar}, {"V0 = V1", "V2", "V0", api.ErrVar}, {"V0 = V2 + 1", "V1", "V0", api.ErrVar}, {"V0 = 2", "2", "V1048576", api.ErrVar},
		// no expression
		{"", "V0", "a", api.ErrType}, {"V1 = a", "V0", "V1", api.ErrType}, {"V1 = f(V2)", "V0", "V1", api.ErrType}, {"V1 = a", "V0", "1 + V1", api.ErrType}, {"", "V0", "f(1, 2)", api.ErrType}, {"", "a", "a", api.ErrType}, {"V0 = a", "V0", "V0", api.ErrType},
		// division by zero
		{"", "V0", "1 / 0", api.ErrZero}, {"", "V0", "1 % 0", api.ErrZero}, {"V1 = 0", "V0", "5 / V1", api.ErrZero}, {"V1 = 0", "V0", "V1 % V1", api.ErrZero}, {"V1 = 3", "V0", "1 / (V1 - 3)", api.ErrZero}, {"", "V0", "2147483648 / 0", api.ErrZero}, {"V0 = 3 - 3", "V1", "7 / V0", api.ErrZero},
		// beyond the range
		{"", "V0", "2147483648 + 1", api.ErrRange}, {"", "V0", "-2147483648 - 1", api.ErrRange}, {"", "V0", "65536 * 65536", api.ErrRange}, {"", "V0", "2147483648 * -2147483648", api.ErrRange}, {"V1 = 2147483648", "V0", "V1 + 1 - 1", api.ErrRange}, {"V1 = -2147483648", "V0", "V1 + V1", api.ErrRange},
		// the first one from left to right
		{"", "V0", "1 / 0 + V0", api.ErrZero}, {"", "V0", "V0 + 1 / 0", api.ErrVar}, {"", "V0", "a + V0", api.ErrType}, {"V1 = 0", "V0", "a + 1 / V1", api.ErrType}, {"V1 = 0", "V0", "1 / V1 + a", api.ErrZero}, {"V1 = 1", "V0", "(2147483648 + V1) + V2", api.ErrRange}, {"V1 = a", "V0", "V2 + V1", api.ErrVar}, {"V1 = a", "V0", "V1 + V2", api.ErrType}, {"", "V0", "V0 / 0", api.ErrVar}, {"", "V0", "a % 0", api.ErrType},
		// another value than the left side has, or a left side that is no integer
		{"", "3", "1 + 3", api.ErrNone}, {"V0 = 3", "V0", "V0 + 1", api.ErrNone}, {"V0 = 3", "V0", "-3", api.ErrNone}, {"", "a", "1", api.ErrNone}, {"V0 = a", "V0", "1", api.ErrNone}, {"", "f(V0)", "1", api.ErrNone}, {"V0 = 2", "V0 + 1", "3", api.ErrNone}, {"", "1 + 2", "3", api.ErrNone}, {"", "1 + 2", "1 + 2", api.ErrNone}, {"V0 = 1 + 2", "V0", "3", api.ErrNone}, {"V0 = 1 + 2", "V0", "V0", api.ErrNone}, {"V1 = V0; V2 = 3", "f(V1)", "V2", api.ErrNone},
		// an error of the expression before that of the equation
		{"", "a", "V0", api.ErrVar}, {"", "f(V0)", "1 / 0", api.ErrZero}, {"V0 = 3", "V0", "V0 * a", api.ErrType}, {"V0 = 3", "V0", "2147483648 * 2", api.ErrRange}, {"", "1", "V0", api.ErrVar},
	} {
		checkTellIs(t, store(t, x.store), read(t, x.left), read(t, x.right), nil, nil, x.want)
	}
}

func TestP10_2Invalid(t *testing.T) {
	v, f := variable, functor
	// Also expressions without a value, and ones with another value than the left side has.
	pairs := [][2]api.Term{{v(4), number(1)}, {v(0), v(5)}, {v(4), f("a")}, {v(4), f("/", number(1), number(0))}, {number(1), number(2)}, {f("a"), f("+", number(api.MaxInt), number(1))}}
	for _, b := range invalidStores() {
		for _, x := range pairs {
			checkTellIs(t, b, x[0], x[1], nil, nil, api.ErrArg)
		}
	}
	for _, bad := range invalidTerms() {
		for _, b := range []api.Binds{nil, {bind(0, number(1))}, {bind(0, v(1)), bind(3, v(2))}} {
			for _, x := range pairs {
				checkTellIs(t, b, bad, x[1], nil, nil, api.ErrArg)
				checkTellIs(t, b, x[0], bad, nil, nil, api.ErrArg)
				checkTellIs(t, b, f("f", bad), x[1], nil, nil, api.ErrArg)
				checkTellIs(t, b, x[0], f("+", x[1], bad), nil, nil, api.ErrArg)
			}
			checkTellIs(t, b, bad, bad, nil, nil, api.ErrArg)
		}
	}
	for _, x := range []struct {
		b    api.Binds
		s, t api.Term
	}{{nil, cyclic(), number(1)}, {nil, v(0), cyclic()}, {nil, cyclic(), cyclic()}, {api.Binds{bind(0, cyclic())}, v(1), v(0)}} {
		if got, bound, e := TellIs(x.b, x.s, x.t); len(got) > 0 || len(bound) > 0 || e != api.ErrArg {
			t.Errorf("TellIs of a term that contains itself is %v, %v, %d", got, bound, e)
		}
	}
}

// sum returns an expression with a number of leaves.
func sum(leaves int, leaf api.Term) api.Term {
	if leaves == 1 {
		return leaf
	}
	return functor("+", sum(leaves/2, leaf), sum(leaves-leaves/2, leaf))
}

// chain returns an expression with a number of levels above a leaf.
func chain(levels int, leaf api.Term) api.Term {
	for range levels {
		leaf = functor("+", leaf, number(1))
	}
	return leaf
}

// The expression under the store has a value even if it is too large or too deep for a valid term.
func TestP10_2LargeExpressions(t *testing.T) {
	b := api.Binds{bind(0, sum(100, number(1))), bind(2, chain(19, number(1)))}
	for _, x := range []struct {
		t    api.Term
		want int
	}{{functor("+", variable(0), variable(0)), 200}, {sum(99, variable(0)), 9900}, {chain(18, variable(2)), 38}, {functor("-", variable(2), sum(98, variable(0))), 20 - 9800}, {functor("*", variable(2), variable(2)), 400}} {
		if wantValid(wantApplied(b, x.t)) {
			t.Errorf("%s is valid under the store", short(x.t))
		}
		checkTellIs(t, b, variable(1), x.t, api.Binds{b[0], bind(1, number(x.want)), b[1]}, []int{1}, api.OK)
		checkTellIs(t, b, number(x.want), x.t, b, nil, api.OK)
		checkTellIs(t, b, number(x.want-1), x.t, nil, nil, api.ErrNone)
		checkTellIs(t, b, variable(1), functor("/", x.t, variable(1)), nil, nil, api.ErrVar)
		checkTellIs(t, b, variable(1), functor("/", x.t, number(0)), nil, nil, api.ErrZero)
	}
	for _, leaf := range []struct {
		term api.Term
		want api.Errno
	}{{functor("a"), api.ErrType}, {variable(9), api.ErrVar}, {number(api.MaxInt), api.ErrRange}} {
		b := api.Binds{bind(0, sum(100, leaf.term))}
		checkTellIs(t, b, variable(1), sum(100, variable(0)), nil, nil, leaf.want)
	}
}

// Terms of the store that are as large as possible stay so, because a value is no larger than a variable.
func TestP10_2Limits(t *testing.T) {
	for _, x := range []func(leaf api.Term) api.Term{
		func(leaf api.Term) api.Term { return wide(api.MaxNodes, leaf) },
		func(leaf api.Term) api.Term { return high(api.MaxDepth-1, leaf) },
	} {
		b := api.Binds{bind(0, x(variable(1))), bind(5, number(api.MaxInt))}
		checkTellIs(t, b, variable(1), functor("-", variable(5), number(1)), api.Binds{bind(0, x(number(api.MaxInt-1))), bind(1, number(api.MaxInt-1)), b[1]}, []int{1}, api.OK)
		checkTellIs(t, b, x(variable(2)), number(1), nil, nil, api.ErrNone)
	}
}

func TestP10_2All(t *testing.T) {
	v, f := variable, functor
	lefts := []api.Term{v(0), v(1), v(2), v(3), number(2), number(4), f("a"), f("f", v(0), v(1)), f("+", v(0), number(2))}
	rights := []api.Term{v(0), v(1), v(2), v(3), number(4), f("a"), f("g", v(0)), f("+", v(0), number(2)), f("/", number(8), v(1)), f("*", v(0), v(1)), f("-", v(2), v(0)), f("%", v(1), f("-", v(0), v(1)))}
	kinds := map[api.Errno]int{}
	for _, b := range smallStores() {
		for _, x := range lefts {
			for _, y := range rights {
				want, wantBound, wantE := wantTellIs(b, x, y)
				got, bound, e := TellIs(b, x, y)
				if e != wantE || !equalBinds(got, want) || !slices.Equal(bound, wantBound) {
					t.Fatalf("TellIs(%v, %v, %v) = %v, %v, %d, not %v, %v, %d", b, x, y, got, bound, e, want, wantBound, wantE)
				}
				kinds[e]++
			}
		}
	}
	checkCounts(t, kinds, 50, api.OK, api.ErrNone, api.ErrVar, api.ErrType, api.ErrZero)
}

func TestP10_2Random(t *testing.T) {
	g := newMaker(2, 0, 1, 2, 3, 4, 5, api.MaxVar)
	badTerms, badStores := invalidTerms(), invalidStores()
	kinds := map[api.Errno]int{}
	for i := range 30000 {
		b := g.values()
		x, y := variable(pick(g, g.vars...)), g.expression(1+i%4)
		switch i % 20 {
		case 0:
			x = functor("f", x, pick(g, badTerms...))
		case 1:
			b = pick(g, badStores...)
		case 2, 3:
			x = g.term(2)
		case 4, 5, 6:
			x = number(pick(g, 0, 1, 3, -7, math.MaxInt32))
		}
		want, bound, e := wantTellIs(b, x, y)
		checkTellIs(t, b, x, y, want, bound, e)
		kinds[e]++
	}
	checkCounts(t, kinds, 500, api.OK, api.ErrArg, api.ErrNone, api.ErrVar, api.ErrType, api.ErrZero, api.ErrRange)
}

func TestP10_2OwnMemory(t *testing.T) {
	b := store(t, "V1 = g(h(V6), V7); V2 = f(g(V7), g(V7)); V4 = f(h(V5), g(V5, h(a)))")
	checkOwnMemory(t, func() api.Binds {
		c, _, e := TellIs(b, variable(7), functor("+", number(1), number(2)))
		if len(c) != 4 || e != api.OK {
			t.Fatalf("TellIs to %v is %v, %d", b, c, e)
		}
		return c
	})
}

func TestP10_2ManyBindings(t *testing.T) {
	const count = 150000
	var b, after api.Binds
	for i := range count {
		b, after = append(b, bind(i+5, functor("f", variable(4)))), append(after, bind(i+5, functor("f", number(5))))
	}
	b, after = append(b, bind(2*count, number(2))), append(after, bind(2*count, number(2)))
	terms := functor("+", variable(2*count), number(3))
	got, bound, e := TellIs(b, variable(4), terms)
	if want := append(api.Binds{bind(4, number(5))}, after...); !equalBinds(got, want) || !slices.Equal(bound, []int{4}) || e != api.OK {
		t.Errorf("TellIs to a store with many bindings is %s, %v, %d", short(got), bound, e)
	}
	for right, want := range map[int]api.Errno{count: api.ErrType, 4: api.ErrVar} {
		if got, bound, e := TellIs(b, variable(4), functor("+", terms, variable(right))); len(got) > 0 || len(bound) > 0 || e != want {
			t.Errorf("TellIs to a store with many bindings is %s, %v, %d, not %d", short(got), bound, e, want)
		}
	}
}
