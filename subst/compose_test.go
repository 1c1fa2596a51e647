package subst

import (
	"maps"
	"slices"
	"testing"

	"constraint/api"
)

// wantCompose looks, for each variable, what becomes of it.
func wantCompose(a, c api.Binds) (api.Binds, api.Errno) {
	if !wantRight(a) || !wantRight(c) {
		return nil, api.ErrArg
	}
	becomes := map[int]api.Term{}
	for _, x := range append(slices.Clone(a), c...) {
		becomes[x.Var] = wantApply(c, wantApply(a, variable(x.Var)))
	}
	var composed api.Binds
	for _, v := range slices.Sorted(maps.Keys(becomes)) {
		if !equal(becomes[v], variable(v)) {
			composed = append(composed, bind(v, becomes[v]))
		}
	}
	for _, x := range composed {
		if !wantValid(x.Term) {
			return nil, api.ErrSize
		}
	}
	if !wantRight(composed) {
		return nil, api.ErrArg
	}
	return composed, api.OK
}

// checkCompose overwrites the result before it looks whether the arguments are as before.
func checkCompose(t *testing.T, a, c, want api.Binds, wantE api.Errno) {
	t.Helper()
	defer watch(t, a, c)()
	got, e := Compose(a, c)
	if e != wantE || !equalBinds(got, want) {
		t.Errorf("Compose(%s, %s) = %s, %d, not %s, %d", short(a), short(c), short(got), e, short(want), wantE)
	}
	scribbleBinds(got)
}

func TestP6_3Table(t *testing.T) {
	v, f, n := variable, functor, number
	type binds = api.Binds
	for _, x := range []struct{ a, c, want binds }{
		{binds{bind(0, f("f", v(1)))}, binds{bind(1, n(3))}, binds{bind(0, f("f", n(3))), bind(1, n(3))}},
		{binds{bind(0, v(1))}, binds{bind(1, v(0))}, binds{bind(1, v(0))}},
		{nil, nil, nil}, {nil, binds{}, nil}, {binds{}, nil, nil}, {binds{}, binds{}, nil},
		{nil, binds{bind(1, v(0)), bind(4, f("f", v(3)))}, binds{bind(1, v(0)), bind(4, f("f", v(3)))}},
		{binds{bind(1, v(0)), bind(4, f("f", v(3)))}, nil, binds{bind(1, v(0)), bind(4, f("f", v(3)))}},
		{binds{bind(0, f("f", v(1))), bind(2, v(1))}, binds{bind(1, n(3))}, binds{bind(0, f("f", n(3))), bind(1, n(3)), bind(2, n(3))}},
		// the order of the variables
		{binds{bind(5, n(5))}, binds{bind(2, n(2)), bind(8, n(8))}, binds{bind(2, n(2)), bind(5, n(5)), bind(8, n(8))}},
		{binds{bind(0, v(9)), bind(4, n(4)), bind(6, v(7))}, binds{bind(2, n(2)), bind(5, n(5)), bind(7, f("b")), bind(9, f("c"))}, binds{bind(0, f("c")), bind(2, n(2)), bind(4, n(4)), bind(5, n(5)), bind(6, f("b")), bind(7, f("b")), bind(9, f("c"))}},
		{binds{bind(api.MaxVar, v(0))}, binds{bind(0, v(api.MaxVar-1))}, binds{bind(0, v(api.MaxVar-1)), bind(api.MaxVar, v(api.MaxVar-1))}},
		// a variable that both bind
		{binds{bind(0, n(1))}, binds{bind(0, n(2))}, binds{bind(0, n(1))}}, {binds{bind(0, v(1))}, binds{bind(0, n(2))}, binds{bind(0, v(1))}},
		{binds{bind(0, v(1))}, binds{bind(0, n(2)), bind(1, n(3))}, binds{bind(0, n(3)), bind(1, n(3))}}, {binds{bind(1, n(1)), bind(2, n(1))}, binds{bind(0, v(7)), bind(1, v(7)), bind(2, v(7)), bind(3, v(7))}, binds{bind(0, v(7)), bind(1, n(1)), bind(2, n(1)), bind(3, v(7))}},
		// bindings that become ones of a variable to itself
		{binds{bind(0, v(1)), bind(2, v(1))}, binds{bind(1, v(0))}, binds{bind(1, v(0)), bind(2, v(0))}}, {binds{bind(0, v(1)), bind(2, v(1))}, binds{bind(1, v(2))}, binds{bind(0, v(2)), bind(1, v(2))}},
		{binds{bind(0, v(1)), bind(2, v(3)), bind(4, v(5))}, binds{bind(1, v(0)), bind(3, v(2)), bind(5, v(4))}, binds{bind(1, v(0)), bind(3, v(2)), bind(5, v(4))}},
		{binds{bind(0, v(1))}, binds{bind(1, v(0)), bind(2, v(0))}, binds{bind(1, v(0)), bind(2, v(0))}}, {binds{bind(0, v(1))}, binds{bind(0, v(1))}, binds{bind(0, v(1))}},
		{binds{bind(0, n(0)), bind(3, n(3))}, nil, binds{bind(0, n(0)), bind(3, n(3))}},
		// terms of the second one are not replaced again
		{binds{bind(0, v(1)), bind(3, n(3))}, binds{bind(1, f("f", v(2), v(2)))}, binds{bind(0, f("f", v(2), v(2))), bind(1, f("f", v(2), v(2))), bind(3, n(3))}},
	} {
		checkCompose(t, x.a, x.c, x.want, api.OK)
		checkCompose(t, roomy(x.a), roomy(x.c), x.want, api.OK)
	}
}

func TestP6_3NotSolved(t *testing.T) {
	v, f := variable, functor
	type binds = api.Binds
	for _, x := range []struct{ a, c binds }{
		{binds{bind(0, v(1))}, binds{bind(1, f("f", v(0)))}}, {binds{bind(0, f("f", v(1)))}, binds{bind(1, v(0))}}, {binds{bind(0, f("f", v(1)))}, binds{bind(1, f("g", v(0)))}},
		// a variable in the term of another one
		{binds{bind(0, f("f", v(1)))}, binds{bind(2, v(0))}}, {binds{bind(2, number(3))}, binds{bind(0, f("f", v(1), v(2)))}}, {binds{bind(0, v(2))}, binds{bind(1, v(0))}},
		{binds{bind(0, v(1)), bind(2, v(4))}, binds{bind(1, v(0)), bind(3, f("f", v(2)))}}, {binds{bind(0, v(1)), bind(3, v(2))}, binds{bind(2, v(0))}},
		{binds{bind(5, v(1))}, binds{bind(1, v(6)), bind(2, v(5))}}, {binds{bind(1, number(1))}, binds{bind(0, v(1))}}, {binds{bind(1, number(1))}, binds{bind(2, v(1))}},
	} {
		if !wantRight(x.a) || !wantRight(x.c) {
			t.Errorf("%v or %v is not in solved form", x.a, x.c)
		}
		checkCompose(t, x.a, x.c, nil, api.ErrArg)
		checkCompose(t, roomy(x.a), roomy(x.c), nil, api.ErrArg)
	}
}

// invalidBinds returns substitutions that are not in solved form.
func invalidBinds() []api.Binds {
	list := []api.Binds{
		{bind(1, number(3)), bind(0, number(3))}, {bind(1, number(3)), bind(1, number(3))}, {bind(0, variable(0))}, {bind(0, functor("f", variable(0)))},
		{bind(0, variable(1)), bind(1, number(3))}, {bind(0, number(3)), bind(1, variable(0))}, {bind(0, variable(1)), bind(1, variable(0))}, loose(),
	}
	for _, v := range noVars {
		list = append(list, api.Binds{bind(v, number(1))})
	}
	for _, x := range invalidTerms() {
		list = append(list, api.Binds{bind(0, x)}, api.Binds{bind(0, number(1)), bind(4, functor("f", x))})
	}
	return list
}

func TestP6_3Invalid(t *testing.T) {
	for _, b := range invalidBinds() {
		for _, other := range []api.Binds{nil, {bind(9, number(1))}, {bind(0, number(1)), bind(1, number(1)), bind(4, number(1))}, b} {
			checkCompose(t, b, other, nil, api.ErrArg)
			checkCompose(t, other, b, nil, api.ErrArg)
		}
	}
}

// A term of the result has the nodes or the depth that the limits allow, or one more.
func TestP6_3Limits(t *testing.T) {
	leaf := variable(1)
	for _, x := range []struct {
		outer, inner api.Term
		want         api.Errno
	}{
		{high(15, leaf), high(4, variable(2)), api.OK}, {high(15, leaf), high(5, variable(2)), api.ErrSize}, {high(19, leaf), number(1), api.OK}, {high(19, leaf), high(1, number(1)), api.ErrSize},
		{leaf, high(19, variable(2)), api.OK}, {high(1, leaf), high(19, variable(2)), api.ErrSize},
		{functor("f", wide(100, number(1)), leaf), wide(99, number(1)), api.OK}, {functor("f", wide(100, number(1)), leaf), wide(100, number(1)), api.ErrSize},
		{functor("f", leaf, leaf, functor("a")), wide(99, number(1)), api.OK}, {functor("f", leaf, leaf, functor("g", number(1))), wide(99, number(1)), api.ErrSize},
		{wide(200, leaf), number(1), api.OK}, {wide(200, leaf), functor("g", number(1)), api.ErrSize}, {wide(200, leaf), wide(200, number(1)), api.ErrSize}, {leaf, wide(200, number(1)), api.OK},
	} {
		a, c := api.Binds{bind(0, x.outer)}, api.Binds{bind(1, x.inner)}
		for _, a := range []api.Binds{a, {bind(0, x.outer), bind(3, leaf)}, {bind(0, leaf), bind(3, x.outer)}} {
			want, e := wantCompose(a, c)
			if e != x.want {
				t.Errorf("composing %s and %s is %d", short(a), short(c), e)
			}
			checkCompose(t, a, c, want, x.want)
		}
	}
	// Terms that are not composed stay valid.
	full := api.Binds{bind(0, wide(api.MaxNodes, leaf)), bind(3, high(api.MaxDepth-1, leaf))}
	checkCompose(t, full, nil, full, api.OK)
	checkCompose(t, nil, full, full, api.OK)
	checkCompose(t, full, api.Binds{bind(2, number(1))}, api.Binds{full[0], bind(2, number(1)), full[1]}, api.OK)
	checkCompose(t, api.Binds{bind(2, number(1))}, full, api.Binds{full[0], bind(2, number(1)), full[1]}, api.OK)
}

func TestP6_3OrderOfErrors(t *testing.T) {
	deep, more := high(15, variable(1)), api.Binds{bind(1, high(5, variable(0)))}
	type binds = api.Binds
	for _, x := range []struct {
		a, c binds
		want api.Errno
	}{
		// an argument that is not in solved form, and a term that would be too large
		{binds{bind(2, deep), bind(2, number(1))}, more, api.ErrArg}, {binds{bind(2, deep), bind(0, number(1))}, more, api.ErrArg}, {binds{bind(2, deep), bind(3, unknown(3))}, more, api.ErrArg},
		{binds{bind(2, deep)}, append(more, bind(1, number(3))), api.ErrArg}, {binds{bind(2, deep)}, append(more, bind(2, variable(2))), api.ErrArg}, {binds{bind(2, deep), bind(3, high(20, deep))}, more, api.ErrArg},
		// a term that is too large, and a result that is not in solved form: because of the same binding, an earlier or a later one
		{binds{bind(0, deep)}, more, api.ErrSize}, {binds{bind(0, variable(1)), bind(2, deep)}, more, api.ErrSize}, {binds{bind(0, variable(2)), bind(3, deep)}, append(more, bind(2, functor("f", variable(0)))), api.ErrSize},
		{binds{bind(2, deep), bind(7, functor("f", variable(8)))}, append(more, bind(8, variable(7))), api.ErrSize}, {binds{bind(2, deep)}, append(more, bind(8, variable(2))), api.ErrSize},
		// the same without the term that is too large
		{binds{bind(0, variable(1))}, more, api.ErrArg}, {binds{bind(7, functor("f", variable(8)))}, append(more, bind(8, variable(7))), api.ErrArg},
		// a variable that is bound to itself only if its term is not too large
		{binds{bind(0, variable(1)), bind(2, deep)}, binds{bind(1, variable(0))}, api.OK}, {binds{bind(0, variable(1)), bind(2, deep)}, binds{bind(1, high(4, variable(0)))}, api.ErrArg},
	} {
		want, e := wantCompose(x.a, x.c)
		if e != x.want {
			t.Errorf("composing %s and %s is %d", short(x.a), short(x.c), e)
		}
		checkCompose(t, x.a, x.c, want, x.want)
	}
}

// The terms of the result are too large, so that they would fill the memory all together; or they are too many to search
// for a variable in all bindings.
func TestP6_3Many(t *testing.T) {
	const count = 200000
	var a, c, want api.Binds
	for i := range count {
		a = append(a, bind(i, variable(2*count+i)))
		c = append(c, bind(2*count+i, number(i)))
		want = append(want, bind(i, number(i)))
	}
	checkCompose(t, a, c, append(want, c...), api.OK)
	checkCompose(t, a, append(c, bind(3*count, variable(count))), append(append(want, c...), bind(3*count, variable(count))), api.OK)
	checkCompose(t, a, append(c, bind(3*count, variable(count-1))), nil, api.ErrArg)
	outer := wide(api.MaxNodes, variable(api.MaxVar))
	for i := range a {
		a[i].Term = outer
	}
	if got, e := Compose(a[:20000], api.Binds{bind(api.MaxVar, wide(api.MaxNodes, number(1)))}); e != api.ErrSize || len(got) > 0 {
		t.Errorf("composing many large terms is %d", e)
	}
}

// smallBinds returns all substitutions of a few variables, in ascending order, to some terms.
func smallBinds(vars int, terms []api.Term) []api.Binds {
	all := []api.Binds{nil}
	for v := range vars {
		for _, b := range all {
			for _, x := range terms {
				all = append(all, append(slices.Clip(b), bind(v, x)))
			}
		}
	}
	return all
}

func TestP6_3All(t *testing.T) {
	f := functor
	terms := []api.Term{number(1), variable(0), variable(1), variable(2), f("f", variable(0)), f("f", variable(1)), f("f", variable(3), variable(2))}
	all := smallBinds(3, terms)
	kinds := map[api.Errno]int{}
	for _, a := range all {
		for _, c := range all {
			want, e := wantCompose(a, c)
			checkCompose(t, a, c, want, e)
			kinds[e]++
		}
	}
	if len(all) != 512 || kinds[api.OK] < 1000 {
		t.Errorf("%d compositions of %d substitutions", kinds[api.OK], len(all))
	}
}

// larger makes some of the terms of a substitution deeper or larger, so that compositions exceed the limits.
func (g *maker) larger(b api.Binds) api.Binds {
	list := copyBinds(b)
	for i, x := range list {
		switch g.random.IntN(3) {
		case 0:
			list[i].Term = high(g.random.IntN(14), x.Term)
		case 1:
			if x.Term.Kind == api.TVar {
				list[i].Term = wide(1+g.random.IntN(50), x.Term)
			}
		}
	}
	return roomy(list)
}

func TestP6_3Random(t *testing.T) {
	g := newMaker(4)
	kinds := map[api.Errno]int{}
	for i := range 60000 {
		a, c := g.solved(1+i%7), g.solved(1+i%6)
		if i%3 == 0 {
			a, c = g.larger(a), g.larger(c)
		}
		if g.valid = i%2 == 0; i%10 == 0 {
			a = g.binds(3, 3)
		}
		if i%10 == 1 {
			c = g.binds(3, 3)
		}
		want, e := wantCompose(a, c)
		checkCompose(t, a, c, want, e)
		kinds[e]++
	}
	if min(kinds[api.OK], kinds[api.ErrArg], kinds[api.ErrSize]) < 1000 {
		t.Errorf("%d compositions, %d errors ErrArg and %d errors ErrSize", kinds[api.OK], kinds[api.ErrArg], kinds[api.ErrSize])
	}
}

func TestP6_4Applied(t *testing.T) {
	g := newMaker(5)
	count := 0
	for i := range 60000 {
		a, c := g.solved(1+i%5), g.solved(1+i%4)
		composed, e := Compose(a, c)
		if e != api.OK {
			continue
		}
		count++
		g.valid = i%3 > 0
		x := g.term(4)
		once := Apply(composed, x)
		twice := Apply(c, Apply(a, x))
		// A variable that becomes another one and then itself loses its unused fields, which the composition leaves.
		if usedText(once) != usedText(twice) || g.valid && !equal(once, twice) {
			t.Errorf("%v is %v under the composition of %v and %v, not %v", x, once, a, c, twice)
		}
		checkApplyAtom(t, composed, atom("p", x), atom("p", once))
		checkApplyGoal(t, composed, goal(api.OpInt, x), goal(api.OpInt, once))
		if !Right(composed) {
			t.Errorf("the composition %v of %v and %v is not in solved form", composed, a, c)
		}
		// What is composed is bound already.
		checkCompose(t, composed, composed, composed, api.OK)
	}
	if count < 5000 {
		t.Errorf("only %d of the random compositions succeed", count)
	}
}

func TestP6_4Neutral(t *testing.T) {
	g := newMaker(6)
	for i := range 20000 {
		b := g.solved(1 + i%6)
		checkCompose(t, nil, b, b, api.OK)
		checkCompose(t, b, nil, b, api.OK)
		checkCompose(t, b, b, b, api.OK)
	}
	for _, b := range invalidBinds() {
		checkCompose(t, b, b, nil, api.ErrArg)
	}
}

// checkAssociative composes three substitutions in both ways, and reports whether all of the compositions succeed.
func checkAssociative(t *testing.T, a, b, c api.Binds) bool {
	t.Helper()
	left, e1 := Compose(a, b)
	right, e2 := Compose(b, c)
	if e1 != api.OK || e2 != api.OK {
		return false
	}
	left, e1 = Compose(left, c)
	right, e2 = Compose(a, right)
	if e1 != api.OK || e2 != api.OK {
		return false
	}
	if !Same(left, right) || !equalBinds(left, right) {
		t.Errorf("the composition of %v, %v and %v is %v or %v", a, b, c, left, right)
	}
	return true
}

func TestP6_4AllAssociative(t *testing.T) {
	var solved []api.Binds
	for _, b := range smallBinds(3, []api.Term{number(1), variable(0), variable(1), variable(2), functor("f", variable(0))}) {
		if Right(b) {
			solved = append(solved, b)
		}
	}
	count := 0
	for _, a := range solved {
		for _, b := range solved {
			for _, c := range solved {
				if checkAssociative(t, a, b, c) {
					count++
				}
			}
		}
	}
	if count < 5000 {
		t.Errorf("only %d compositions of three of %d substitutions succeed", count, len(solved))
	}
}

func TestP6_4Associative(t *testing.T) {
	g := newMaker(7)
	count := 0
	for i := range 60000 {
		if checkAssociative(t, g.solved(1+i%4), g.solved(1+i%3), g.solved(1+i%5)) {
			count++
		}
	}
	if count < 1000 {
		t.Errorf("only %d of the random compositions of three succeed", count)
	}
}
