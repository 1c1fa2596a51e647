package variant

import (
	"math"
	"testing"

	"constraint/api"
	"constraint/term"
)

// checkVariants compares two lists in both orders.
func checkVariants(t *testing.T, a, b []api.Term, want bool) {
	t.Helper()
	defer watch(t, a, b)()
	if Variants(a, b) != want || Variants(b, a) != want {
		t.Errorf("%s and %s: %v, %v, not %v", short(a), short(b), Variants(a, b), Variants(b, a), want)
	}
}

// checkOwn checks that a list is a variant of itself, of itself numbered, and of itself shifted if no number leaves the
// range.
func checkOwn(t *testing.T, list []api.Term) {
	t.Helper()
	checkVariants(t, list, list, true)
	checkVariants(t, list, copyTerms(list), true)
	m, _ := Number(list)
	checkVariants(t, list, m, true)
	for _, k := range shifts {
		inRange := true
		for _, v := range wantVars(list) {
			_, ok := wantSum(v, k)
			inRange = inRange && ok
		}
		var shifted []api.Term
		for _, x := range list {
			shifted = append(shifted, Shift(x, k))
		}
		checkVariants(t, list, shifted, inRange || wantVariants(list, shifted))
	}
}

func TestP9_3Table(t *testing.T) {
	for _, x := range []struct {
		a, b string
		want bool
	}{
		{"V1; f(V1, V0)", "V0; f(V0, V3)", true},
		{"V1; V1", "V0; V1", false},
		{"", "", true},
		{"", "V0", false},
		{"V0", "V0; V1", false},
		{"V0; 3", "V0", false},
		{"a", "a; a", false},
		{"V0", "V0", true},
		{"V0", "V7", true},
		{"3", "3", true},
		{"3", "4", false},
		{"3", "-3", false},
		{"V3", "3", false},
		{"a", "a", true},
		{"a", "b", false},
		{"V0", "a", false},
		{"a", "f(a)", false},
		{"f(V0)", "g(V0)", false},
		{"f(V0)", "f(V0, V0)", false},
		{"f(V0, V0)", "f(V0)", false},
		{"f(V0, V1)", "f(V0, V0)", false},
		{"f(V2, V2)", "f(V0, V0)", true},
		{"f(V0, 1)", "f(V0, 2)", false},
		{"f(V0, 1)", "f(1, V0)", false},
		{"V0 + V1", "V1 + V0", true},
		{"V0 + V1", "V0 - V1", false},
		// Variants one by one, but not together.
		{"f(V0, V1)", "f(V1, V0)", true},
		{"f(V0, V1); V0", "f(V1, V0); V0", false},
		{"f(V0, V1); V0", "f(V1, V0); V1", true},
		{"V0; V1", "V1; V1", false},
		{"V0; V1", "V5; V2", true},
		{"f(V0); f(V0)", "f(V0); f(V1)", false},
		{"g(V0, V1); g(V1, V0)", "g(V3, V4); g(V3, V4)", false},
		{"g(V0, V1); g(V1, V0)", "g(V3, V4); g(V4, V3)", true},
		// Two variables against one, at several places.
		{"f(V0, V1, V0)", "f(V0, V1, V1)", false},
		{"f(V0, V1, V0)", "f(V1, V0, V1)", true},
		{"f(V0, g(V1))", "f(V0, g(V0))", false},
		{"V0; V1; V2", "V0; V1; V0", false},
		{"V0; V1; V2; V1", "V0; V1; V0; V1", false},
		// A renaming that exchanges variables, or moves them in a circle.
		{"V0; V1; f(V0, V1)", "V1; V0; f(V1, V0)", true},
		{"V0; V1; f(V0, V1)", "V1; V0; f(V0, V1)", false},
		{"V0; V1; V2", "V1; V2; V0", true},
		{"V0; V1; V2; f(V0, V1, V2)", "V1; V2; V0; f(V1, V2, V0)", true},
		{"V0; V1; V2; f(V0, V1, V2)", "V1; V2; V0; f(V1, V0, V2)", false},
		// A renaming maps variables to variables.
		{"f(V0)", "f(a)", false},
		{"f(V0, V0)", "f(g(V1), g(V1))", false},
		// The order of the terms.
		{"V0; a", "a; V0", false},
		{"f(V0); g(V0)", "g(V0); f(V0)", false},
	} {
		a, b := read(t, x.a), read(t, x.b)
		checkVariants(t, roomyTerms(a), roomyTerms(b), x.want)
		checkVariants(t, a, b, wantVariants(a, b))
		checkOwn(t, a)
		checkOwn(t, b)
	}
	checkVariants(t, nil, []api.Term{}, true)
}

func TestP9_3BeyondVariables(t *testing.T) {
	checkVariants(t, variables(-1, 0, -1), variables(math.MaxInt, math.MinInt, math.MaxInt), true)
	checkVariants(t, variables(-1, 0, -1), variables(math.MaxInt, math.MinInt, math.MinInt), false)
	checkVariants(t, variables(math.MaxInt), variables(math.MinInt), true)
	checkVariants(t, variables(math.MaxInt, math.MaxInt-1), variables(math.MaxInt, math.MaxInt), false)
	checkVariants(t, variables(0, 1<<32), variables(0, 0), false)
	// A shift that keeps one number only is a renaming, unless the other one becomes the same.
	checkVariants(t, variables(math.MaxInt, 0), []api.Term{Shift(variable(math.MaxInt), 1), Shift(variable(0), 1)}, true)
	checkVariants(t, variables(math.MaxInt, math.MaxInt-1), []api.Term{Shift(variable(math.MaxInt), 1), Shift(variable(math.MaxInt-1), 1)}, false)
}

// What a term does not use does not count.
func TestP9_3Fields(t *testing.T) {
	checkVariants(t, []api.Term{filled(variable(0)), variable(0)}, variables(6, 6), true)
	checkVariants(t, []api.Term{filled(variable(0)), variable(6)}, variables(6, 0), true)
	checkVariants(t, []api.Term{filled(number(4))}, []api.Term{number(4)}, true)
	checkVariants(t, []api.Term{filled(functor("f", variable(0)))}, []api.Term{functor("f", variable(1))}, true)
	checkVariants(t, []api.Term{functor("f", variables(0, 1)...)}, []api.Term{{Kind: api.TInt, Name: "f", Args: variables(0, 1)}}, false)
	for _, kind := range unknownKinds {
		x := unknown(kind)
		other, int, name := x, x, x
		other.Args, int.Int, name.Name = variables(1), 6, "g"
		checkVariants(t, []api.Term{x}, []api.Term{other}, true)
		checkVariants(t, []api.Term{x}, []api.Term{int}, false)
		checkVariants(t, []api.Term{x}, []api.Term{name}, false)
		checkVariants(t, []api.Term{x}, []api.Term{unknown(5)}, kind == 5)
		checkVariants(t, []api.Term{x, variable(0)}, []api.Term{x, variable(7)}, true)
		checkVariants(t, []api.Term{x}, variables(5), false)
		checkVariants(t, []api.Term{x}, []api.Term{number(5)}, false)
		checkVariants(t, []api.Term{x}, []api.Term{functor("f", x.Args...)}, false)
	}
}

// All small lists: what Variants says of each two of them, and that this is reflexive, symmetric and transitive.
func TestP9_3Equivalence(t *testing.T) {
	lists := smallLists()
	for _, x := range append(smallTerms(2), invalidTerms()...) {
		lists = append(lists, []api.Term{x})
	}
	related := make([][]bool, len(lists))
	for i, a := range lists {
		related[i] = make([]bool, len(lists))
		for k, b := range lists {
			related[i][k] = Variants(a, b)
			if related[i][k] != wantVariants(a, b) {
				t.Errorf("%s and %s: %v", short(a), short(b), related[i][k])
			}
		}
	}
	for i := range lists {
		if !related[i][i] {
			t.Errorf("%s is no variant of itself", short(lists[i]))
		}
		for k := range lists {
			if related[i][k] != related[k][i] {
				t.Errorf("%s and %s: %v, %v", short(lists[i]), short(lists[k]), related[i][k], related[k][i])
			}
			for l := range lists {
				if related[i][k] && related[k][l] && !related[i][l] {
					t.Errorf("%s, %s, %s: the first and the last one are no variants", short(lists[i]), short(lists[k]), short(lists[l]))
				}
			}
		}
	}
}

func TestP9_3Small(t *testing.T) {
	for _, list := range smallLists() {
		checkOwn(t, list)
	}
	list := smallTerms(3)
	for i, x := range list {
		checkOwn(t, []api.Term{x})
		for k, y := range list {
			if (i+k)%7 == 0 {
				if got := Variants([]api.Term{x}, []api.Term{y}); got != wantVariants([]api.Term{x}, []api.Term{y}) {
					t.Errorf("%s and %s: %v", short(x), short(y), got)
				}
			}
		}
	}
	for _, x := range invalidTerms() {
		checkOwn(t, []api.Term{x})
		checkOwn(t, []api.Term{variable(0), x, variable(5)})
	}
}

func TestP9_3Random(t *testing.T) {
	g := newMaker(3)
	variants, others := 0, 0
	for range 20000 {
		a := roomyTerms(g.list(5))
		b, c := roomyTerms(g.renamed(a)), roomyTerms(g.list(4))
		want := wantVariants(a, b)
		checkVariants(t, a, b, want)
		checkVariants(t, a, c, wantVariants(a, c))
		checkOwn(t, a)
		if m, _ := Number(a); want && len(m) > 0 {
			n, _ := Number(b)
			if !term.Same(functor("f", m...), functor("f", n...)) {
				t.Errorf("%s and %s are %s and %s", short(a), short(b), short(m), short(n))
			}
		}
		switch {
		case want && !equalTerms(a, b):
			variants++
		case !want:
			others++
		}
	}
	if variants < 3000 || others < 1000 {
		t.Errorf("%d are variants, %d are not", variants, others)
	}
}

func TestP9_3Large(t *testing.T) {
	const levels, many = 1<<16 - 3, 200000
	up := []api.Term{wide(many, variable)}
	down := []api.Term{wide(many, func(i int) api.Term { return variable(many - i) })}
	twice := []api.Term{wide(many, func(i int) api.Term { return variable(max(1, i)) })}
	if !Variants(up, down) || Variants(up, twice) || Variants(twice, up) {
		t.Error("wide terms")
	}
	a, b, c := high(levels, functor("f", variables(0, 1)...)), high(levels, functor("f", variables(1, 0)...)), high(levels, functor("f", variables(1, 1)...))
	if !Variants([]api.Term{a}, []api.Term{b}) || Variants([]api.Term{a, a}, []api.Term{a, b}) || Variants([]api.Term{a}, []api.Term{c}) {
		t.Error("deep terms")
	}
}
