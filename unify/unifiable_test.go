package unify

import (
	"testing"

	"constraint/api"
)

func checkUnifiable(t *testing.T, a, b api.Term, want bool) {
	t.Helper()
	terms := roomy([]api.Term{a, b})
	defer watch(t, terms)()
	if Unifiable(terms[0], terms[1]) != want || Unifiable(terms[1], terms[0]) != want {
		t.Errorf("Unifiable(%s, %s) is not %v", short(a), short(b), want)
	}
}

func TestP7_3Table(t *testing.T) {
	for _, x := range []struct {
		a, b string
		want bool
	}{
		{"V0", "V0", true}, {"V0", "V1048576", true}, {"V0", "3", true}, {"a", "a", true}, {"f(V2, V1)", "f(V1, g(V0))", true}, {"f(V3, V3)", "f(V1, V2)", true}, {"V0 + V1", "1 + 2", true}, {"f(V0, V1)", "f(g(V1), V2)", true},
		{"V0", "f(V0)", false}, {"a", "b", false}, {"1", "2", false}, {"0", "a", false}, {"f(V0)", "f(V0, V1)", false}, {"f(V0, V0)", "f(1, 2)", false}, {"f(V0, V1)", "f(g(V1), g(V0))", false}, {"V0 + V1", "V0 - V1", false}, {"f(V0, V0)", "f(V1, g(V1))", false},
	} {
		checkUnifiable(t, read(t, x.a), read(t, x.b), x.want)
	}
}

func TestP7_3Invalid(t *testing.T) {
	for _, bad := range invalidTerms() {
		for _, other := range []api.Term{variable(0), variable(5), number(1), functor("f", variable(3)), bad} {
			checkUnifiable(t, bad, other, false)
			checkUnifiable(t, functor("f", bad), functor("f", other), false)
			checkUnifiable(t, functor("f", variable(5), bad), variable(6), false)
		}
	}
}

// doubling returns two terms for which each variable is bound to a term that contains the next one several times.
func doubling(count, arity int) (a, b api.Term) {
	a, b = functor("e"), functor("e")
	for i := count; i > 0; i-- {
		inner := functor("f")
		for range arity {
			inner.Args = append(inner.Args, variable(i+1))
		}
		a, b = functor("f", variable(i), a), functor("f", inner, b)
	}
	return a, b
}

func TestP7_3Large(t *testing.T) {
	for _, x := range []struct{ count, arity int }{{9, 2}, {18, 2}, {18, 6}, {18, 5}, {1, 6}, {2, 6}, {18, 1}, {6, 2}, {7, 2}} {
		a, b := doubling(x.count, x.arity)
		if !wantValid(a) || !wantValid(b) {
			t.Errorf("doubling %d times is not valid", x.count)
		}
		checkUnifiable(t, a, b, true)
		nodes := 1
		for range x.count {
			nodes = min(nodes*x.arity+1, api.MaxNodes+1)
		}
		want := api.OK
		if nodes > api.MaxNodes {
			want = api.ErrSize
		}
		for _, pair := range [][2]api.Term{{a, b}, {b, a}} {
			if got, e := Unify(pair[0], pair[1]); e != want || e != api.OK && len(got) > 0 {
				t.Errorf("Unify of %d terms that contain the next one %d times is %d", x.count, x.arity, e)
			}
		}
		// The last variable contains the first one, so that each one contains itself.
		last := functor("g", variable(1))
		checkUnifiable(t, functor("f", a, variable(x.count+1)), functor("f", b, last), false)
		checkUnifiable(t, functor("f", variable(x.count+1), a), functor("f", last, b), false)
		checkUnifiable(t, functor("f", a, variable(1)), functor("f", b, number(1)), false)
	}
}

// Two terms that are each far too large are compared: all variables of the one are found equal to those of the other, or
// only the last ones differ.
func TestP7_3TwoLarge(t *testing.T) {
	one, other := functor("e"), functor("e")
	for i := 9; i > 0; i-- {
		one = functor("f", one, functor("f", variable(i), variable(20+i)))
		other = functor("f", other, functor("f", functor("f", variable(i+1), variable(i+1)), functor("f", variable(21+i), variable(21+i))))
	}
	for _, x := range []struct {
		a, b string
		want bool
	}{
		{"V1", "V21", true}, {"V1", "f(V22, V22)", true}, {"f(V2, V22)", "f(V22, V2)", true}, {"f(V10, V30, V1)", "f(1, 2, V21)", false}, {"f(V1, V10, V30)", "f(V21, 1, 2)", false}, {"f(V1, V10)", "f(V21, g(V30))", false}, {"V1", "V22", true}, {"f(V1, V30)", "f(V22, V10)", false}, {"f(V1, V10)", "f(V21, V30)", true},
	} {
		checkUnifiable(t, functor("f", one, read(t, x.a)), functor("f", other, read(t, x.b)), x.want)
		checkUnifiable(t, functor("f", read(t, x.a), one), functor("f", read(t, x.b), other), x.want)
		want := api.ErrNone
		if x.want {
			want = api.ErrSize
		}
		checkUnify(t, functor("f", one, read(t, x.a)), functor("f", other, read(t, x.b)), nil, want)
		checkUnify(t, functor("f", read(t, x.a), one), functor("f", read(t, x.b), other), nil, want)
	}
}

// Unifiable agrees with Unify, except that sizes do not matter.
func TestP7_3Random(t *testing.T) {
	g := newMaker(6, 0, 1, 2, 3, 4, api.MaxVar)
	bad := invalidTerms()
	count := map[bool]int{}
	for i := range 20000 {
		a, b := g.pair(2 + i%4)
		switch i % 10 {
		case 0:
			b = functor("f", pick(g, bad...), b)
		case 1, 2, 3:
			x, y := g.stairs(2 + g.random.IntN(5))
			a, b = functor("f", x...), functor("f", y...)
		}
		_, e := wantAll([]api.Term{a}, []api.Term{b})
		want := e == api.OK || e == api.ErrSize
		checkUnifiable(t, a, b, want)
		count[want]++
	}
	if min(count[true], count[false]) < 2000 {
		t.Errorf("%d of the random pairs are unifiable", count[true])
	}
}
