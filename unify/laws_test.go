package unify

import (
	"slices"
	"testing"

	"constraint/api"
	"constraint/subst"
	"constraint/term"
)

// smallPairs returns all pairs of some terms with a few variables.
func smallPairs() (pairs [][2]api.Term) {
	v, f := variable, functor
	terms := smallTerms([]api.Term{v(0), v(1), v(2), f("a")}, []api.Term{f("g", v(1)), f("g", f("a")), f("f", v(0), v(2)), f("f", v(1), v(1))})
	for _, a := range terms {
		for _, b := range terms {
			pairs = append(pairs, [2]api.Term{a, b})
		}
	}
	return pairs
}

// checkUnifier reports whether two terms have a unifier that is not too large.
func checkUnifier(t *testing.T, a, b api.Term) bool {
	t.Helper()
	b1, e := Unify(a, b)
	if e != api.OK {
		if len(b1) > 0 {
			t.Errorf("Unify(%v, %v) returns %v and %d", a, b, b1, e)
		}
		return false
	}
	if x, y := subst.Apply(b1, a), subst.Apply(b1, b); !subst.Right(b1) || !equal(x, y) {
		t.Errorf("the unifier %v of %v and %v makes them %v and %v", b1, a, b, x, y)
	}
	vars := append(term.Vars(a), term.Vars(b)...)
	for _, x := range b1 {
		if x.Term.Kind == api.TVar && x.Term.Int >= x.Var {
			t.Errorf("the unifier %v of %v and %v binds a variable to a greater one", b1, a, b)
		}
		for _, v := range append(term.Vars(x.Term), x.Var) {
			if !slices.Contains(vars, v) {
				t.Errorf("the unifier %v of %v and %v contains another variable", b1, a, b)
			}
		}
	}
	return true
}

func TestP7_4AllUnifiers(t *testing.T) {
	count := 0
	for _, x := range smallPairs() {
		if checkUnifier(t, x[0], x[1]) {
			count++
		}
	}
	if count < 1000 {
		t.Errorf("only %d pairs of small terms have a unifier", count)
	}
}

func TestP7_4Unifiers(t *testing.T) {
	g := newMaker(7, 0, 1, 2, 3, 9, 77, api.MaxVar-1, api.MaxVar)
	count := 0
	for i := range 60000 {
		if a, b := g.pair(2 + i%5); checkUnifier(t, a, b) {
			count++
		}
	}
	for range 5000 {
		x, y := g.stairs(2 + g.random.IntN(5))
		if checkUnifier(t, functor("f", x...), functor("f", y...)) {
			count++
		}
	}
	if count < 10000 {
		t.Errorf("only %d of the random pairs have a unifier", count)
	}
}

func TestP7_4Lists(t *testing.T) {
	g := newMaker(8, 0, 1, 2, 3, 4, 5, 6, 7, 8, 9)
	count := 0
	for i := range 20000 {
		x, y := g.pairs(6, 2+i%3)
		b, e := All(x, y)
		if e != api.OK {
			continue
		}
		count++
		if !subst.Right(b) {
			t.Errorf("the unifier %v of %v and %v is not in solved form", b, x, y)
		}
		for k := range x {
			if !equal(subst.Apply(b, x[k]), subst.Apply(b, y[k])) {
				t.Errorf("the unifier %v of %v and %v does not make %v and %v identical", b, x, y, x[k], y[k])
			}
		}
	}
	if count < 2000 {
		t.Errorf("only %d of the random lists have a unifier", count)
	}
}

// smallSolved returns all substitutions of three variables in solved form to some terms.
func smallSolved() (solved []api.Binds) {
	v, f := variable, functor
	all := []api.Binds{nil}
	for i := range 3 {
		for _, b := range all {
			for _, x := range []api.Term{f("a"), v(0), v(1), v(2), v(3), f("g", v(0)), f("g", v(1)), f("g", v(2)), f("g", f("a")), f("f", v(0), v(2)), f("f", v(3), v(2)), f("f", f("a"), f("a"))} {
				all = append(all, append(slices.Clip(b), bind(i, x)))
			}
		}
	}
	for _, b := range all {
		if subst.Right(b) {
			solved = append(solved, b)
		}
	}
	return solved
}

// checkGeneral reports whether a substitution in solved form makes two terms identical.
func checkGeneral(t *testing.T, b api.Binds, x, y api.Term) bool {
	t.Helper()
	if !equal(subst.Apply(b, x), subst.Apply(b, y)) {
		return false
	}
	first, e := Unify(x, y)
	if !Unifiable(x, y) || e != api.OK {
		t.Errorf("%v makes %v and %v identical, but Unify returns %d", b, x, y, e)
	}
	for _, v := range append(term.Vars(x), append(term.Vars(y), 0, 1, 2, 3)...) {
		if !equal(subst.Apply(b, subst.Apply(first, variable(v))), subst.Apply(b, variable(v))) {
			t.Errorf("%v makes %v and %v identical, but does not make V%d what it is after %v", b, x, y, v, first)
		}
	}
	return true
}

func TestP7_5AllSubstitutions(t *testing.T) {
	solved := smallSolved()
	count := 0
	for _, x := range smallPairs() {
		for _, b := range solved {
			if checkGeneral(t, b, x[0], x[1]) {
				count++
			}
		}
	}
	if len(solved) < 200 || count < 20000 {
		t.Errorf("%d substitutions make pairs of terms identical %d times", len(solved), count)
	}
}

// A term and what becomes of it under a substitution, in different places of it, are identical under the substitution.
func TestP7_5Random(t *testing.T) {
	g := newMaker(9, 0, 1, 2, 3, 4)
	solved := smallSolved()
	count := 0
	for i := range 60000 {
		b := pick(g, solved...)
		if x := g.term(2 + i%4); checkGeneral(t, b, g.partly(b, x), g.partly(b, x)) {
			count++
		}
	}
	if count != 60000 {
		t.Errorf("only %d of the random substitutions make the terms identical", count)
	}
}

// partly applies a substitution in solved form to some places of a term.
func (g *maker) partly(b api.Binds, t api.Term) api.Term {
	if t.Kind == api.TVar && g.random.IntN(2) == 0 {
		return subst.Apply(b, t)
	}
	var args []api.Term
	for _, arg := range t.Args {
		args = append(args, g.partly(b, arg))
	}
	t.Args = args
	return t
}

// A substitution that binds fewer variables, or keeps more of them apart, is no unifier.
func TestP7_5Bindings(t *testing.T) {
	for _, x := range smallPairs() {
		b, e := Unify(x[0], x[1])
		if e != api.OK {
			continue
		}
		for i := range b {
			if fewer := slices.Delete(slices.Clone(b), i, i+1); equal(subst.Apply(fewer, x[0]), subst.Apply(fewer, x[1])) {
				t.Errorf("the unifier %v of %v and %v binds V%d, but need not", b, x[0], x[1], b[i].Var)
			}
		}
	}
}

func checkSymmetric(t *testing.T, a, b []api.Term) api.Errno {
	t.Helper()
	got, e := All(a, b)
	other, e2 := All(b, a)
	if e != e2 || !equalBinds(got, other) {
		t.Errorf("All(%s, %s) = %s, %d, but %s, %d for the other order", short(a), short(b), short(got), e, short(other), e2)
	}
	if len(a) == 1 && len(b) == 1 {
		got, e2 = Unify(a[0], b[0])
		if e2 != e || !equalBinds(got, other) {
			t.Errorf("Unify(%s, %s) = %s, %d, but All returns %s, %d", short(a), short(b), short(got), e2, short(other), e)
		}
		other, e2 = Unify(b[0], a[0])
		if e2 != e || !equalBinds(got, other) || Unifiable(a[0], b[0]) != Unifiable(b[0], a[0]) {
			t.Errorf("Unify(%s, %s) = %s, %d, but %s, %d for the other order", short(a), short(b), short(got), e, short(other), e2)
		}
	}
	return e
}

func TestP7_6AllPairs(t *testing.T) {
	for _, x := range smallPairs() {
		checkSymmetric(t, x[:1], x[1:])
	}
}

func TestP7_6Random(t *testing.T) {
	g := newMaker(10, 0, 1, 2, 3, 4, 5, 6, 7, 8, api.MaxVar)
	bad := invalidTerms()
	kinds := map[api.Errno]int{}
	for i := range 60000 {
		a, b := g.pairs(4, 2+i%4)
		switch i % 10 {
		case 0:
			x, y := g.pair(2 + i%5)
			a, b = []api.Term{x}, []api.Term{y}
		case 1:
			a = append(a, g.term(2))
		case 2:
			a, b = append(a, pick(g, bad...)), append(b, g.term(2))
		case 3:
			a, b = g.stairs(4 + g.random.IntN(8))
		}
		kinds[checkSymmetric(t, a, b)]++
	}
	if min(kinds[api.OK], kinds[api.ErrNone], kinds[api.ErrArg], kinds[api.ErrArity], kinds[api.ErrSize]) < 1000 {
		t.Errorf("errors of random lists: %v", kinds)
	}
}

// checkFunctors compares the unifier of two lists with those of terms made of them.
func checkFunctors(t *testing.T, a, b []api.Term) {
	t.Helper()
	names := []string{"f", "g2"}
	if len(a) == 2 {
		names = append(names, operators...)
	}
	want, wantE := All(a, b)
	for _, name := range names {
		x, y := functor(name, a...), functor(name, b...)
		if !wantValid(x) || !wantValid(y) {
			continue
		}
		if got, e := Unify(x, y); e != wantE || !equalBinds(got, want) || Unifiable(x, y) != (e == api.OK || e == api.ErrSize) {
			t.Errorf("Unify(%s, %s) = %s, %d, but for the arguments %s, %d", short(x), short(y), short(got), e, short(want), wantE)
		}
		for _, other := range []api.Term{functor("h", b...), functor(name+"h", b...), number(0), functor("a")} {
			if got, e := Unify(x, other); wantValid(other) && len(a) > 0 && (e != api.ErrNone || len(got) > 0 || Unifiable(x, other)) {
				t.Errorf("Unify(%s, %s) = %s, %d", short(x), short(other), short(got), e)
			}
		}
	}
}

func TestP7_7AllFunctors(t *testing.T) {
	terms := []api.Term{variable(0), variable(1), variable(2), functor("a"), number(3), functor("g", variable(1)), functor("f", variable(2), variable(0))}
	for _, a := range terms {
		for _, b := range terms {
			for _, c := range terms {
				for _, d := range terms {
					checkFunctors(t, []api.Term{a, b}, []api.Term{c, d})
				}
			}
		}
	}
	checkFunctors(t, nil, nil)
}

func TestP7_7Random(t *testing.T) {
	g := newMaker(11, 0, 1, 2, 3, 4, 5, api.MaxVar)
	for i := range 6000 {
		a, b := g.pairs(api.MaxArity, 2+i%4)
		if i%3 == 0 {
			a, b = g.stairs(1 + g.random.IntN(api.MaxArity))
		}
		checkFunctors(t, a, b)
		// The last argument is left out, so that the numbers of arguments are different.
		if x, y := functor("f", a...), functor("f", b...); len(a) > 0 && wantValid(x) && wantValid(y) {
			y.Args = y.Args[:len(b)-1]
			checkBoth(t, x, y, nil, api.ErrNone)
		}
	}
}
