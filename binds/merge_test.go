package binds

import (
	"slices"
	"testing"

	"constraint/api"
)

// checkMerge calls Merge, and overwrites the result before it looks whether the arguments are as before.
func checkMerge(t *testing.T, b, c, want api.Binds, wantE api.Errno) {
	t.Helper()
	b, c = roomy(b), roomy(c)
	defer watch(t, nil, b, c)()
	got, e := Merge(b, c)
	if e != wantE || !equalBinds(got, want) {
		t.Errorf("Merge(%s, %s) = %s, %d, not %s, %d", short(b), short(c), short(got), e, short(want), wantE)
	}
	scribble(got)
}

// checkMerged does so, and compares the result with that of the definition and that of telling the equations one after the
// other.
func checkMerged(t *testing.T, b, c, want api.Binds, wantE api.Errno) {
	t.Helper()
	if merged, e := wantMerge(b, c); e != wantE || !equalBinds(merged, want) {
		t.Errorf("the stores %s and %s are solved by %s, %d, not %s, %d", short(b), short(c), short(merged), e, short(want), wantE)
	}
	checkMerge(t, b, c, want, wantE)
	if !wantStore(b) || !wantStore(c) {
		return
	}
	told, e := b, api.OK
	for _, x := range c {
		if e == api.OK {
			told, _, e = Tell(told, variable(x.Var), x.Term)
		}
	}
	if e != wantE || !equalBinds(told, want) {
		t.Errorf("telling %s to %s leads to %s, %d, not %s, %d", short(c), short(b), short(told), e, short(want), wantE)
	}
}

func TestP10_4Table(t *testing.T) {
	for _, x := range [][3]string{
		// empty stores
		{"", "", ""}, {"V0 = 1; V3 = f(V2)", "", "V0 = 1; V3 = f(V2)"}, {"", "V0 = 1; V3 = f(V2)", "V0 = 1; V3 = f(V2)"}, {"V1 = V0", "", "V1 = V0"}, {"", "V1 = V0", "V1 = V0"},
		// other variables
		{"V0 = 1", "V1 = 2", "V0 = 1; V1 = 2"}, {"V1 = 2", "V0 = 1", "V0 = 1; V1 = 2"}, {"V1 = 2; V7 = a", "V0 = 1; V3 = b; V9 = 4", "V0 = 1; V1 = 2; V3 = b; V7 = a; V9 = 4"}, {"V1048576 = 1", "V1048575 = 2", "V1048575 = 2; V1048576 = 1"}, {"V0 = f(V1)", "V2 = g(V1)", "V0 = f(V1); V2 = g(V1)"},
		// the same variables
		{"V0 = 1", "V0 = 1", "V0 = 1"}, {"V0 = V1", "V0 = 3", "V0 = 3; V1 = 3"}, {"V3 = V1", "V3 = V2", "V2 = V1; V3 = V1"}, {"V3 = V2", "V3 = V1", "V2 = V1; V3 = V1"}, {"V0 = f(V1)", "V0 = f(V2)", "V0 = f(V1); V2 = V1"}, {"V0 = f(V3, 1)", "V0 = f(2, V4)", "V0 = f(2, 1); V3 = 2; V4 = 1"}, {"V0 = f(V1, V1); V5 = a", "V0 = f(V2, g(V3)); V5 = a", "V0 = f(g(V3), g(V3)); V1 = g(V3); V2 = g(V3); V5 = a"},
		// equations that change the terms of the other store
		{"V0 = f(V1)", "V1 = 3", "V0 = f(3); V1 = 3"}, {"V1 = 3", "V0 = f(V1)", "V0 = f(3); V1 = 3"}, {"V2 = f(V1)", "V1 = V0", "V1 = V0; V2 = f(V0)"}, {"V0 = f(V1); V2 = g(V3)", "V1 = V3", "V0 = f(V1); V2 = g(V1); V3 = V1"},
		{"V3 = f(V0); V4 = f(V1)", "V4 = V3", "V1 = V0; V3 = f(V0); V4 = f(V0)"}, {"V1 = V0; V3 = V2; V5 = V4", "V2 = V1; V4 = V3", "V1 = V0; V2 = V0; V3 = V0; V4 = V0; V5 = V0"}, {"V0 = f(V1); V3 = g(V4)", "V1 = g(V2); V4 = 5", "V0 = f(g(V2)); V1 = g(V2); V3 = g(5); V4 = 5"},
		// variables that are bound to greater ones: only telling turns them
		{"V0 = V1", "", "V0 = V1"}, {"V0 = V5; V1 = V5; V2 = f(V5)", "", "V0 = V5; V1 = V5; V2 = f(V5)"}, {"", "V0 = V1", "V1 = V0"}, {"", "V0 = V5; V1 = V5; V2 = f(V5)", "V1 = V0; V2 = f(V0); V5 = V0"}, {"V0 = V1", "V2 = a", "V1 = V0; V2 = a"}, {"V0 = V1", "V0 = V1", "V1 = V0"}, {"V0 = V1", "V1 = V0", "V1 = V0"}, {"V1 = V0", "V0 = V1", "V1 = V0"}, {"V0 = V2", "V1 = V2", "V1 = V0; V2 = V0"}, {"V0 = V3; V4 = f(V3)", "V3 = V9", "V3 = V0; V4 = f(V0); V9 = V0"},
	} {
		checkMerged(t, store(t, x[0]), store(t, x[1]), store(t, x[2]), api.OK)
	}
	for _, b := range []api.Binds{nil, {}} {
		for _, c := range []api.Binds{nil, {}} {
			if got, e := Merge(b, c); len(got) > 0 || e != api.OK {
				t.Errorf("Merge of empty stores is %v, %d", got, e)
			}
		}
	}
}

func TestP10_4None(t *testing.T) {
	for _, x := range [][2]string{
		{"V0 = 1", "V0 = 2"}, {"V0 = 2", "V0 = a"}, {"V0 = f(V1)", "V0 = f(V1, V2)"}, {"V0 = f(V1)", "V0 = g(V1)"}, {"V0 = f(V1, 1)", "V0 = f(2, V1)"}, {"V0 = 1; V5 = 6", "V0 = 1; V5 = 7"}, {"V5 = 6", "V1 = 3; V5 = 7; V6 = 8"}, {"V0 = 1; V1 = 2", "V1 = V0"}, {"V0 = 1; V1 = 2", "V0 = V9; V1 = V9"},
		// a variable would contain itself
		{"V0 = f(V1)", "V1 = V0"}, {"V0 = f(V1)", "V1 = f(V0)"}, {"V0 = V1", "V0 = f(V1)"}, {"V0 = V1; V3 = V1", "V0 = g(1, V3)"}, {"V0 = f(V1); V4 = V5", "V1 = g(V4); V5 = V0"}, {"V2 = f(V0); V3 = f(V1)", "V0 = V3; V1 = V2"},
	} {
		b, c := store(t, x[0]), store(t, x[1])
		checkMerged(t, b, c, nil, api.ErrNone)
		checkMerged(t, c, b, nil, api.ErrNone)
	}
}

func TestP10_4Size(t *testing.T) {
	v, f, n := variable, functor, number(1)
	deep := api.Binds{bind(0, high(10, v(1))), bind(3, high(5, v(1)))}
	large := api.Binds{bind(0, f("g", v(1), v(1), n)), bind(3, v(1))}
	for _, x := range []struct {
		b, c api.Binds
		want api.Errno
	}{
		{deep, api.Binds{bind(1, high(9, v(2)))}, api.OK}, {deep, api.Binds{bind(1, high(10, v(2)))}, api.ErrSize}, {deep, api.Binds{bind(1, high(9, v(2))), bind(4, high(15, v(2)))}, api.OK}, {deep, api.Binds{bind(1, high(9, v(2))), bind(4, high(10, v(1)))}, api.ErrArg}, {deep, api.Binds{bind(1, high(9, v(2))), bind(4, high(4, v(3)))}, api.OK}, {deep, api.Binds{bind(1, high(9, v(2))), bind(4, high(6, v(3)))}, api.ErrSize},
		{large, api.Binds{bind(1, wide(99, n))}, api.OK}, {large, api.Binds{bind(1, wide(100, n))}, api.ErrSize}, {large, api.Binds{bind(3, wide(99, n))}, api.OK}, {large, api.Binds{bind(3, wide(100, n))}, api.ErrSize}, {api.Binds{bind(0, wide(200, v(1)))}, api.Binds{bind(1, n)}, api.OK}, {api.Binds{bind(0, wide(200, v(1)))}, api.Binds{bind(1, v(2)), bind(3, n)}, api.OK}, {api.Binds{bind(0, wide(200, v(1)))}, api.Binds{bind(1, v(2)), bind(3, v(2))}, api.OK}, {api.Binds{bind(0, wide(200, v(1)))}, api.Binds{bind(1, f("g", v(2)))}, api.ErrSize},
		// only all equations of the second store together are too much, so that the last one has the error
		{api.Binds{bind(0, high(7, v(1)))}, api.Binds{bind(1, high(6, v(2))), bind(3, high(6, v(2)))}, api.OK}, {api.Binds{bind(0, high(7, v(1))), bind(2, high(6, v(4)))}, api.Binds{bind(1, high(6, v(2))), bind(4, high(1, v(5)))}, api.ErrSize}, {api.Binds{bind(0, high(7, v(1))), bind(2, high(6, v(4)))}, api.Binds{bind(1, high(6, v(2))), bind(4, v(5))}, api.OK},
	} {
		want, e := wantMerge(x.b, x.c)
		if e != x.want {
			t.Errorf("merging %s and %s is %d", short(x.b), short(x.c), e)
		}
		checkMerged(t, x.b, x.c, want, x.want)
	}
}

// The error is that of the first equation that cannot be told, whatever the equations after it lead to.
func TestP10_4FirstError(t *testing.T) {
	v, n := variable, number
	b := api.Binds{bind(0, high(15, v(1))), bind(2, n(7)), bind(6, n(7)), bind(9, n(7)), bind(11, high(15, v(10)))}
	large, none, good := api.Binds{bind(1, high(15, v(20)))}, api.Binds{bind(2, n(8))}, api.Binds{bind(3, n(1)), bind(4, v(22)), bind(5, v(22))}
	for _, x := range []struct {
		c    api.Binds
		want api.Errno
	}{
		{large, api.ErrSize}, {none, api.ErrNone}, {good, api.OK},
		{slices.Concat(large, none), api.ErrSize}, {slices.Concat(large, none, good), api.ErrSize}, {slices.Concat(none, good), api.ErrNone}, {slices.Concat(large, good), api.ErrSize}, {slices.Concat(large, good, api.Binds{bind(6, n(8)), bind(9, n(8))}), api.ErrSize},
		// the last equation has the first error
		{append(slices.Clone(good), bind(6, n(8))), api.ErrNone}, {append(slices.Clone(good), bind(10, high(15, v(20)))), api.ErrSize}, {append(slices.Clone(good), bind(6, n(7)), bind(9, n(8))), api.ErrNone}, {append(slices.Clone(good), bind(6, n(7)), bind(9, n(7)), bind(10, high(5, v(20)))), api.ErrSize},
		// one in between has
		{append(slices.Clone(good), bind(6, n(8)), bind(9, n(8)), bind(10, high(15, v(20)))), api.ErrNone}, {append(slices.Clone(good), bind(9, n(8)), bind(10, high(15, v(20))), bind(11, n(3))), api.ErrNone}, {append(slices.Clone(good), bind(10, high(15, v(20))), bind(11, n(3))), api.ErrSize}, {append(slices.Clone(good), bind(10, high(15, v(20))), bind(12, n(3))), api.ErrSize}, {append(slices.Clone(none), bind(10, high(15, v(20)))), api.ErrNone},
	} {
		want, e := wantMerge(b, x.c)
		if e != x.want {
			t.Errorf("merging %s and %s is %d", short(b), short(x.c), e)
		}
		checkMerged(t, b, x.c, want, x.want)
		checkMerged(t, b, append(slices.Clone(x.c), bind(0, n(1))), nil, api.ErrArg)
		checkMerged(t, append(slices.Clone(b), bind(0, n(1))), x.c, nil, api.ErrArg)
	}
}

func TestP10_4Invalid(t *testing.T) {
	for _, bad := range invalidStores() {
		for _, b := range append([]api.Binds{nil, {bind(0, number(1))}, {bind(0, variable(1)), bind(3, variable(2))}, {bind(0, functor("a")), bind(1, number(7))}, bad}, invalidStores()[:20]...) {
			checkMerged(t, b, bad, nil, api.ErrArg)
			checkMerged(t, bad, b, nil, api.ErrArg)
		}
	}
	loop := api.Binds{bind(0, cyclic())}
	for _, x := range [][2]api.Binds{{loop, nil}, {nil, loop}, {loop, loop}, {{bind(0, number(1))}, loop}} {
		if got, e := Merge(x[0], x[1]); len(got) > 0 || e != api.ErrArg {
			t.Errorf("Merge of a store with a term that contains itself is %v, %d", got, e)
		}
	}
}

func TestP10_4All(t *testing.T) {
	stores := smallStores()
	kinds := map[api.Errno]int{}
	for _, b := range stores {
		for _, c := range stores {
			want, wantE := wantMerge(b, c)
			if got, e := Merge(b, c); e != wantE || !equalBinds(got, want) {
				t.Fatalf("Merge(%v, %v) = %v, %d, not %v, %d", b, c, got, e, want, wantE)
			}
			kinds[wantE]++
		}
	}
	checkCounts(t, kinds, 20000, api.OK, api.ErrNone)
}

func TestP10_4Random(t *testing.T) {
	g := newMaker(4, 0, 1, 2, 3, 4, 5, 6, 7, 8, 9, 10, 11, api.MaxVar)
	badStores := invalidStores()
	kinds := map[api.Errno]int{}
	for i := range 12000 {
		b, c := g.store(5, 2+i%3), g.store(5, 2+i%3)
		switch i % 20 {
		case 0:
			b = pick(g, badStores...)
		case 1:
			c = pick(g, badStores...)
		case 2, 3, 4, 5:
			list := g.stairs(4 + g.random.IntN(6))
			b, c = g.told(list[:len(list)/2]), g.told(list[len(list)/2:])
		case 6, 7:
			// Mostly what b holds, with another equation or without one.
			c = slices.Clone(b)
			if len(c) > 0 {
				at := g.random.IntN(len(c))
				c[at].Term = g.term(2)
				if !wantStore(c) {
					c = slices.Delete(c, at, at+1)
				}
			}
		}
		want, e := wantMerge(b, c)
		checkMerged(t, b, c, want, e)
		kinds[e]++
	}
	checkCounts(t, kinds, 400, api.OK, api.ErrNone, api.ErrArg, api.ErrSize)
}

// Merging takes no quadratic time, whether it succeeds, fails at the end, or fails at the beginning.
func TestP10_4ManyBindings(t *testing.T) {
	const count = 20000
	v, f := variable, functor
	var even, odd, all, chained, linked api.Binds
	for i := range count {
		even, odd = append(even, bind(2*i, f("f", v(2*count)))), append(odd, bind(2*i+1, f("f", v(2*count))))
		all = append(all, even[i], odd[i])
		chained = append(chained, bind(2*i+1, v(2*i)))
		if i > 0 {
			linked = append(linked, bind(2*i, v(2*i-1)))
		}
	}
	checkMerge(t, even, odd, all, api.OK)
	checkMerge(t, even, even, even, api.OK)
	checkMerge(t, all, odd, all, api.OK)
	checkMerge(t, even, nil, even, api.OK)
	checkMerge(t, nil, even, even, api.OK)
	// Together both form one chain of all variables.
	var together api.Binds
	for i := range 2*count - 1 {
		together = append(together, bind(i+1, v(0)))
	}
	checkMerge(t, chained, linked, together, api.OK)
	for _, at := range []int{0, count / 2, count - 1} {
		none := slices.Clone(even)
		none[at].Term = number(3)
		checkMerge(t, even, none, nil, api.ErrNone)
		large := slices.Clone(odd)
		large[at].Term = v(2*count + 1)
		checkMerge(t, append(all, bind(3*count, high(19, v(2*count+1)))), large, nil, api.ErrSize)
		large[count-1].Term = number(3)
		want := api.ErrSize
		if at == count-1 {
			want = api.ErrNone
		}
		checkMerge(t, append(all, bind(3*count, high(19, v(2*count+1)))), large, nil, want)
	}
}

func TestP10_4OwnMemory(t *testing.T) {
	b := store(t, "V1 = g(h(V6), V7); V2 = f(g(V7), g(V7)); V4 = f(h(V5), g(V5, h(a)))")
	for _, text := range []string{"", "V0 = V1; V3 = g(V4, V4)", "V1 = g(h(V6), V8)"} {
		c := store(t, text)
		checkOwnMemory(t, func() api.Binds {
			merged, e := Merge(b, c)
			if len(merged) < 3 || e != api.OK {
				t.Fatalf("Merge(%v, %v) = %v, %d", b, c, merged, e)
			}
			return merged
		})
	}
}
