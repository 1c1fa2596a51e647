package binds

import (
	"slices"
	"testing"

	"constraint/api"
	"constraint/subst"
)

// sorted reports whether a store binds no variable to one with a greater number.
func sorted(b api.Binds) bool {
	return !slices.ContainsFunc(b, func(x api.Bind) bool { return x.Term.Kind == api.TVar && x.Term.Int > x.Var })
}

func hasVar(b api.Binds, v int) bool {
	return slices.ContainsFunc(b, func(x api.Bind) bool { return x.Var == v })
}

// checkHolds checks that an equation holds under a store.
func checkHolds(t *testing.T, b api.Binds, x, y api.Term) {
	t.Helper()
	if !equal(wantApplied(b, x), wantApplied(b, y)) || !equal(subst.Apply(b, x), subst.Apply(b, y)) {
		t.Errorf("%s does not make %s and %s identical", short(b), short(x), short(y))
	}
	if e := Equal(b, x, y); e != api.Entailed {
		t.Errorf("Equal(%s, %s, %s) = %d", short(b), short(x), short(y), e)
	}
}

// checkKeeps checks P10.5 for an equation that is told, and returns whether it can be told.
func checkKeeps(t *testing.T, b api.Binds, x, y api.Term) bool {
	t.Helper()
	c, bound, e := Tell(b, x, y)
	if e != api.OK {
		return false
	}
	if !wantStore(c) || !subst.Right(c) || !sorted(c) {
		t.Errorf("Tell(%s, %s, %s) = %s, which is not in solved form", short(b), short(x), short(y), short(c))
	}
	checkHolds(t, c, x, y)
	for _, old := range b {
		checkHolds(t, c, variable(old.Var), old.Term)
	}
	var want []int
	for _, x := range c {
		if !hasVar(b, x.Var) {
			want = append(want, x.Var)
		}
	}
	if !slices.Equal(bound, want) {
		t.Errorf("Tell(%s, %s, %s) binds %v, but returns %v", short(b), short(x), short(y), want, bound)
	}
	return true
}

func TestP10_5All(t *testing.T) {
	terms := smallTerms()
	count := 0
	for _, b := range smallStores() {
		for i, x := range terms {
			for _, y := range terms[i:] {
				if checkKeeps(t, b, x, y) {
					count++
				}
			}
		}
	}
	if count < 10000 {
		t.Errorf("only %d equations can be told to small stores", count)
	}
}

func TestP10_5Random(t *testing.T) {
	g := newMaker(5, 0, 1, 2, 3, 4, 5, 6, 7, api.MaxVar)
	count := 0
	for i := range 10000 {
		b := g.store(6, 2+i%3)
		x, y := g.pair(2 + i%4)
		if i%4 == 0 {
			b, x, y = g.climbed(2 + g.random.IntN(7))
		}
		if checkKeeps(t, b, x, y) {
			count++
		}
	}
	if count < 5000 {
		t.Errorf("only %d of the random equations can be told", count)
	}
}

// What TellIs tells holds, too.
func TestP10_5Values(t *testing.T) {
	g := newMaker(6, 0, 1, 2, 3, 4, 5)
	count := 0
	for i := range 10000 {
		b := g.values()
		x, y := variable(pick(g, g.vars...)), g.expression(1+i%3)
		c, bound, e := TellIs(b, x, y)
		if e != api.OK {
			continue
		}
		count++
		value, _ := wantValue(wantApplied(b, y))
		checkHolds(t, c, x, number(int(value.Int64())))
		for _, old := range b {
			checkHolds(t, c, variable(old.Var), old.Term)
		}
		if told, boundToo, e := Tell(b, x, number(int(value.Int64()))); e != api.OK || !equalBinds(c, told) || !slices.Equal(bound, boundToo) {
			t.Errorf("TellIs(%v, %v, %v) = %v, %v, but telling the value leads to %v, %v", b, x, y, c, bound, told, boundToo)
		}
	}
	if count < 1000 {
		t.Errorf("only %d of the random expressions have a value that can be told", count)
	}
}

// tellBoth tells two equations, one after the other.
func tellBoth(b api.Binds, x, y [2]api.Term) (api.Binds, api.Errno) {
	c, _, e := Tell(b, x[0], x[1])
	if e != api.OK {
		return nil, e
	}
	d, _, e := Tell(c, y[0], y[1])
	return d, e
}

// checkOrder checks P10.6 for two equations, and returns whether they can be told in both orders.
func checkOrder(t *testing.T, b api.Binds, x, y [2]api.Term) bool {
	t.Helper()
	first, e1 := tellBoth(b, x, y)
	second, e2 := tellBoth(b, y, x)
	if e1 != api.OK || e2 != api.OK {
		return false
	}
	if !equalBinds(first, second) {
		t.Errorf("telling %v and %v to %v leads to %v, but in the other order to %v", x, y, b, first, second)
	}
	return true
}

func TestP10_6All(t *testing.T) {
	v, f := variable, functor
	equations := [][2]api.Term{{v(0), v(1)}, {v(1), v(2)}, {v(2), v(0)}, {v(3), v(1)}, {v(0), f("a")}, {v(1), f("g", v(2))}, {v(2), f("g", v(0))}, {f("f", v(0), v(1)), f("f", v(1), v(2))}, {v(1), f("f", v(2), v(3))}, {f("g", v(3)), v(0)}, {number(2), v(2)}}
	count := 0
	for _, b := range smallStores() {
		for i, x := range equations {
			for _, y := range equations[i:] {
				if checkOrder(t, b, x, y) {
					count++
				}
			}
		}
	}
	if count < 5000 {
		t.Errorf("only %d pairs of equations can be told to small stores in both orders", count)
	}
}

func TestP10_6Random(t *testing.T) {
	g := newMaker(7, 0, 1, 2, 3, 4, 5, 6, 7, 8, 9, api.MaxVar)
	count := 0
	for i := range 10000 {
		b := g.store(5, 2+i%3)
		var x, y [2]api.Term
		x[0], x[1] = g.pair(2 + i%4)
		y[0], y[1] = g.pair(2 + i%4)
		if i%4 == 0 {
			list := g.stairs(3 + g.random.IntN(5))
			b, x, y = g.told(list[2:]), list[0], list[1]
		}
		if checkOrder(t, b, x, y) {
			count++
		}
	}
	if count < 2000 {
		t.Errorf("only %d of the random pairs of equations can be told in both orders", count)
	}
}

// checkAgain checks P10.7 for an equation and a store that binds no variable to a greater one, and returns whether the
// equation is entailed.
func checkAgain(t *testing.T, b api.Binds, x, y api.Term) bool {
	t.Helper()
	c, bound, e := Tell(b, x, y)
	if Equal(b, x, y) == api.Entailed {
		if e != api.OK || !equalBinds(c, b) || len(bound) > 0 {
			t.Errorf("Tell(%s, %s, %s) = %s, %v, %d, although the equation is entailed", short(b), short(x), short(y), short(c), bound, e)
		}
		return true
	}
	if e != api.OK {
		return false
	}
	if len(bound) == 0 {
		t.Errorf("Tell(%s, %s, %s) = %s, which binds nothing, although the equation is not entailed", short(b), short(x), short(y), short(c))
	}
	for _, old := range b {
		if !hasVar(c, old.Var) {
			t.Errorf("Tell(%s, %s, %s) = %s, which does not bind V%d any more", short(b), short(x), short(y), short(c), old.Var)
		}
	}
	if !checkAgain(t, c, x, y) {
		t.Errorf("after Tell(%s, %s, %s) the equation is not entailed", short(b), short(x), short(y))
	}
	return false
}

func TestP10_7All(t *testing.T) {
	terms := smallTerms()
	count := map[bool]int{}
	for _, b := range smallStores() {
		if !sorted(b) {
			continue
		}
		for i, x := range terms {
			for _, y := range terms[i:] {
				count[checkAgain(t, b, x, y)]++
			}
		}
	}
	if min(count[true], count[false]) < 2000 {
		t.Errorf("%d equations are entailed by small stores, %d are not", count[true], count[false])
	}
}

func TestP10_7Random(t *testing.T) {
	g := newMaker(8, 0, 1, 2, 3, 4, 5, 6, 7, api.MaxVar)
	count := map[bool]int{}
	for i := range 10000 {
		b := g.store(6, 2+i%3)
		x, y := g.pair(2 + i%4)
		if i%4 == 0 {
			b, x, y = g.climbed(2 + g.random.IntN(7))
		}
		// After any equation was told, no variable is bound to a greater one.
		b, _, e := Tell(b, number(1), number(1))
		if e != api.OK || !sorted(b) {
			t.Fatalf("Tell of 1 = 1 is %s, %d", short(b), e)
		}
		if applied := wantApplied(b, x); i%3 == 0 && wantValid(applied) {
			y = applied
		}
		count[checkAgain(t, b, x, y)]++
		for _, x := range b {
			checkAgain(t, b, variable(x.Var), x.Term)
		}
	}
	if min(count[true], count[false]) < 1000 {
		t.Errorf("%d of the random equations are entailed, %d are not", count[true], count[false])
	}
}

// checkMergedAgain checks P10.8 for a store that binds no variable to a greater one.
func checkMergedAgain(t *testing.T, b api.Binds) {
	t.Helper()
	if got, e := Merge(b, b); e != api.OK || !equalBinds(got, b) {
		t.Errorf("merging %s with itself leads to %s, %d", short(b), short(got), e)
	}
}

func TestP10_8All(t *testing.T) {
	count := 0
	for _, b := range smallStores() {
		if sorted(b) {
			checkMergedAgain(t, b)
			count++
		}
	}
	if count < 100 {
		t.Errorf("only %d small stores bind no variable to a greater one", count)
	}
}

func TestP10_8Random(t *testing.T) {
	g := newMaker(9, 0, 1, 2, 3, 4, 5, 6, 7, api.MaxVar)
	for i := range 6000 {
		b := g.store(8, 2+i%4)
		if i%3 == 0 {
			b, _, _ = g.climbed(2 + g.random.IntN(7))
		}
		c, _, e := Tell(b, number(1), number(1))
		if e != api.OK {
			t.Fatalf("Tell of 1 = 1 to %s is %d", short(b), e)
		}
		checkMergedAgain(t, c)
		// A store with the same unifiers does not change it, either, but what it binds to greater variables is turned.
		for _, x := range [][2]api.Binds{{b, c}, {c, b}} {
			if got, e := Merge(x[0], x[1]); len(b) > 0 && (e != api.OK || !equalBinds(got, c)) {
				t.Errorf("Merge(%s, %s) = %s, %d", short(x[0]), short(x[1]), short(got), e)
			}
		}
	}
}
