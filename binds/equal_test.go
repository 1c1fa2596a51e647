package binds

import (
	"testing"

	"constraint/api"
)

// checkEqual compares Equal, for both orders of the terms, with the wanted result and with that of the definition.
func checkEqual(t *testing.T, b api.Binds, x, y api.Term, want int) {
	t.Helper()
	if got := wantEqual(b, x, y); got != want {
		t.Errorf("under %s the terms %s and %s are %d, not %d", short(b), short(x), short(y), got, want)
	}
	b, terms := roomy(b), roomyTerms([]api.Term{x, y})
	defer watch(t, terms, b)()
	if got := Equal(b, terms[0], terms[1]); got != want {
		t.Errorf("Equal(%s, %s, %s) = %d, not %d", short(b), short(x), short(y), got, want)
	}
	if got := Equal(b, terms[1], terms[0]); got != want {
		t.Errorf("Equal(%s, %s, %s) = %d, not %d", short(b), short(y), short(x), got, want)
	}
}

func TestP10_3Table(t *testing.T) {
	for want, list := range map[int][][3]string{
		api.Entailed: {
			{"", "V0", "V0"}, {"", "3", "3"}, {"", "a", "a"}, {"", "f(V0, g(V1))", "f(V0, g(V1))"}, {"", "V1048576", "V1048576"},
			// only under the store
			{"V1 = V0", "V0", "V1"}, {"V0 = V1", "V0", "V1"}, {"V2 = V0; V5 = V0", "V5", "V2"}, {"V0 = V5; V2 = V5", "V0", "V2"}, {"V0 = 3", "V0", "3"}, {"V0 = a; V1 = a", "V0", "V1"}, {"V0 = f(V1)", "V0", "f(V1)"}, {"V0 = f(V1); V2 = V1", "V0", "f(V2)"}, {"V0 = f(V1); V2 = g(f(V1), 1)", "V2", "g(V0, 1)"}, {"V0 = f(V1); V2 = f(V1)", "g(V0, V2)", "g(V2, V0)"}, {"V0 = 2", "V0 + 1", "2 + 1"}, {"V0 = 1; V1 = 1; V2 = V3", "f(V0, V1, V2)", "f(V1, 1, V3)"},
		},
		api.Unknown: {
			{"", "V0", "V1"}, {"", "V0", "a"}, {"", "V0", "3"}, {"", "V0", "f(V1)"}, {"", "f(V0, 1)", "f(2, V1)"}, {"", "f(V2, V1)", "f(V1, g(V0))"}, {"", "f(V0, V0)", "f(V1, V2)"},
			{"V1 = V0", "V0", "a"}, {"V1 = V0", "V1", "V2"}, {"V0 = V5", "V0", "V1"}, {"V0 = f(V1)", "V0", "f(V2)"}, {"V0 = f(V1)", "V0", "f(3)"}, {"V0 = f(V1); V2 = f(V3)", "V0", "V2"}, {"V0 = f(V1)", "V2", "V0"}, {"V0 = f(V1)", "V2", "V1"}, {"V0 = 1", "f(V0, V1)", "f(1, V2)"}, {"V2 = V1 + 1", "V2", "V0 + V0"},
			// entailed by other equations
			{"V0 = 3", "V1", "V2"}, {"V1 = f(V0)", "f(V0)", "f(V2)"}, {"V0 = f(V2, V3)", "V2", "V3"},
		},
		api.Refuted: {
			// other names, numbers of arguments and integers
			{"", "a", "b"}, {"", "1", "2"}, {"", "0", "a"}, {"", "f(V0)", "g(V0)"}, {"", "f(V0)", "f(V0, V1)"}, {"", "f", "f(V0)"}, {"", "f(V0, V0)", "f(1, 2)"}, {"", "1 + 2", "3"}, {"", "V0 + V1", "V0 - V1"},
			// the same under the store
			{"V0 = a", "V0", "b"}, {"V0 = 1", "V0", "2"}, {"V0 = 1; V1 = 2", "V0", "V1"}, {"V0 = f(V2)", "V0", "f(V1, V2)"}, {"V0 = f(V1)", "V0", "3"}, {"V1 = V0", "f(V0, V1)", "f(1, 2)"}, {"V0 = V1", "f(V0, V1)", "f(a, b)"}, {"V0 = f(1, V2); V1 = f(V2, 2)", "V0", "V1"}, {"V0 = 1 + 2", "V0", "3"}, {"V0 = g(f(V2), V2)", "V0", "g(V1, f(V1))"},
			// a variable and a term that contains it, directly or only under the store
			{"", "V0", "f(V0)"}, {"", "V0", "g(1, f(V0))"}, {"V1 = V0", "f(V0)", "V1"}, {"V0 = V1", "f(V0)", "V1"}, {"V1 = f(V0)", "V0", "V1"}, {"V1 = f(V0)", "g(V1)", "V0"}, {"V2 = f(V0); V3 = f(V1)", "f(V0, V1)", "f(V3, V2)"}, {"V4 = f(V1); V5 = f(f(V1))", "V4", "V5"},
		},
	} {
		for _, x := range list {
			checkEqual(t, store(t, x[0]), read(t, x[1]), read(t, x[2]), want)
		}
	}
}

func TestP10_3Invalid(t *testing.T) {
	v, f := variable, functor
	// Of each kind of result one, if the store were valid.
	for _, b := range invalidStores() {
		for _, x := range [][2]api.Term{{v(4), v(4)}, {number(1), number(1)}, {v(4), number(1)}, {f("a"), f("b")}, {v(4), f("f", v(4))}, {v(0), v(0)}, {v(0), number(7)}} {
			checkEqual(t, b, x[0], x[1], api.Unknown)
		}
	}
	for _, bad := range invalidTerms() {
		for _, b := range []api.Binds{nil, {bind(0, number(1))}, {bind(0, v(1)), bind(3, v(2))}} {
			for _, x := range [][2]api.Term{{bad, bad}, {f("f", bad), f("f", bad)}, {bad, v(5)}, {bad, number(1)}, {f("f", bad, number(1)), f("f", bad, number(2))}, {f("f", bad), f("g", bad)}, {v(5), f("f", v(5), bad)}} {
				checkEqual(t, b, x[0], x[1], api.Unknown)
			}
		}
	}
	for _, x := range []struct {
		b    api.Binds
		s, t api.Term
	}{{nil, cyclic(), number(1)}, {nil, v(0), cyclic()}, {nil, cyclic(), cyclic()}, {api.Binds{bind(0, cyclic())}, v(1), v(1)}, {api.Binds{bind(0, cyclic())}, v(0), v(0)}} {
		if got := Equal(x.b, x.s, x.t); got != api.Unknown {
			t.Errorf("Equal for a term that contains itself is %d", got)
		}
	}
}

// The terms may be too large or too deep under the store, and the unifier may have terms that are.
func TestP10_3Large(t *testing.T) {
	v, f := variable, functor
	b := api.Binds{bind(0, wide(150, v(1))), bind(2, high(15, v(1))), bind(6, v(5))}
	for _, x := range []struct {
		s, t api.Term
		want int
	}{
		// terms that are too large under the store
		{f("f", v(0), v(0)), f("f", v(0), v(0)), api.Entailed}, {f("f", v(0), v(0)), f("f", v(0), wide(150, v(1))), api.Entailed}, {high(10, v(2)), high(10, v(2)), api.Entailed}, {high(10, v(2)), high(9, high(1, v(2))), api.Entailed}, {f("f", v(0), v(0), v(5)), f("f", v(0), v(0), v(6)), api.Entailed},
		{f("f", v(0), v(0), number(1)), f("f", v(0), v(0), number(2)), api.Refuted}, {high(10, v(2)), high(11, v(2)), api.Refuted}, {f("f", v(0), v(0), v(1)), f("f", v(0), v(0), f("g", v(2))), api.Refuted}, {high(10, v(2)), v(1), api.Refuted}, {f("f", v(0), v(0)), f("f", v(0), v(1)), api.Refuted}, {f("f", number(1), v(0), v(0)), f("f", number(2), v(0), v(0)), api.Refuted},
		{f("f", v(0), v(0), v(7)), f("f", v(0), v(0), number(2)), api.Unknown}, {high(10, v(2)), high(10, v(3)), api.Unknown},
		// unifiers that have a term that is too large or too deep
		{v(7), f("f", v(0), v(0)), api.Unknown}, {v(7), high(10, v(2)), api.Unknown}, {v(1), f("g", number(1)), api.Unknown}, {v(1), high(10, v(8)), api.Unknown}, {f("f", v(1), v(7)), f("f", high(10, v(7)), v(5)), api.Unknown},
		// .. and no unifiers, as another argument shows
		{f("f", v(7), number(1)), f("f", f("f", v(0), v(0)), number(2)), api.Refuted}, {f("f", number(1), v(1)), f("f", number(2), high(10, v(8))), api.Refuted}, {f("f", v(1), v(8)), f("f", high(10, v(8)), v(2)), api.Refuted}, {f("f", v(7), v(7)), f("f", f("f", v(0), v(0)), v(0)), api.Refuted},
	} {
		checkEqual(t, b, x.s, x.t, x.want)
	}
	if !wantStore(b) || wantValid(wantApplied(b, functor("f", v(0), v(0)))) || wantValid(wantApplied(b, high(10, v(2)))) {
		t.Error("the terms are not large or deep")
	}
}

func TestP10_3All(t *testing.T) {
	terms := smallTerms()
	counts := map[int]int{}
	for _, b := range smallStores() {
		for _, x := range terms {
			for _, y := range terms {
				want := wantEqual(b, x, y)
				if got := Equal(b, x, y); got != want {
					t.Fatalf("Equal(%v, %v, %v) = %d, not %d", b, x, y, got, want)
				}
				counts[want]++
			}
		}
	}
	checkCounts(t, counts, 5000, api.Unknown, api.Entailed, api.Refuted)
}

func TestP10_3Random(t *testing.T) {
	g := newMaker(3, 0, 1, 2, 3, 4, 5, 6, 7, api.MaxVar)
	badTerms, badStores := invalidTerms(), invalidStores()
	counts := map[int]int{}
	for i := range 20000 {
		b := g.store(6, 2+i%3)
		x, y := g.pair(2 + i%4)
		switch i % 20 {
		case 0:
			x = functor("f", x, pick(g, badTerms...))
		case 1:
			b = pick(g, badStores...)
		case 2, 3, 4, 5:
			y = wantApplied(b, x)
		case 6, 7, 8:
			b, x, y = g.climbed(2 + g.random.IntN(7))
		}
		want := wantEqual(b, x, y)
		checkEqual(t, b, x, y, want)
		counts[want]++
	}
	checkCounts(t, counts, 2000, api.Unknown, api.Entailed, api.Refuted)
}

func TestP10_3ManyBindings(t *testing.T) {
	const count = 150000
	v, f := variable, functor
	var b api.Binds
	for i := range count {
		b = append(b, bind(i+5, f("f", v(4))))
	}
	for _, x := range []struct {
		s, t api.Term
		want int
	}{{v(5), v(count), api.Entailed}, {f("f", v(4)), v(count), api.Entailed}, {v(3), v(count), api.Unknown}, {v(count), f("f", v(3)), api.Unknown}, {v(4), v(count), api.Refuted}, {f("g", v(4)), v(count / 2), api.Refuted}} {
		if got := Equal(b, x.s, x.t); got != x.want {
			t.Errorf("Equal of %v and %v under many bindings is %d, not %d", x.s, x.t, got, x.want)
		}
	}
}
