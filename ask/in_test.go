package ask

import (
	"slices"
	"testing"

	"constraint/api"
)

// checkIn compares In with the wanted result and with that of the definition.
func checkIn(t *testing.T, b api.Binds, known []api.Goal, g api.Goal, want int) {
	t.Helper()
	if result := wantIn(b, known, g); result != want {
		t.Errorf("under %s and %s the result of %s is %d, not %d", short(b), short(known), short(g), result, want)
	}
	b, known = roomyBinds(b), roomyGoals(known)
	list := roomyGoals([]api.Goal{g})
	defer watch(t, b, known, list)()
	if got := In(b, known, list[0]); got != want {
		t.Errorf("In(%s, %s, %s) = %d, not %d", short(b), short(known), short(g), got, want)
	}
}

// checkInTable does so for texts of a store, assumptions and a goal for each result.
func checkInTable(t *testing.T, table map[int][][3]string) {
	t.Helper()
	for want, list := range table {
		for _, x := range list {
			checkIn(t, store(t, x[0]), goals(t, x[1]), goal(t, x[2]), want)
		}
	}
}

func TestP11_2Store(t *testing.T) {
	checkInTable(t, map[int][][3]string{
		api.Entailed: {
			{"", "", "3 < 5"}, {"V1 = 5", "", "V1 < 6"}, {"V0 = 2; V1 = 5", "", "V0 * V1 =:= 10"}, {"V0 = 1 + 2", "", "V0 =:= 3"}, {"V0 = V1", "", "V0 == V1"}, {"V1 = V0", "", "V0 == V1"}, {"V0 = a; V1 = a", "", "V0 == V1"}, {"V0 = f(V2); V1 = g(V2)", "", `V0 \= V1`}, {"V0 = 3", "", "int(V0)"}, {"V0 = f(a)", "", "ground(g(V0))"}, {"V0 = 3", "", "ground(V0 + 1)"}, {"V0 = f(V1)", "", `V1 \= V0`}, {"V1048576 = 2", "", "int(V1048576)"}, {"V0 = 1", "", "true"},
		},
		api.Unknown: {
			{"", "", "V0 < 5"}, {"V1 = 5", "", "V0 < V1"}, {"V0 = V1", "", "V0 < V1"}, {"V0 = V1", "", "int(V0)"}, {"V0 = f(V1)", "", "ground(V0)"}, {"V0 = f(V1)", "", "V0 == f(a)"}, {"V0 = V1; V2 = V3", "", "V0 == V2"}, {"V5 = 1", "", `V0 \= V1`}, {"V0 = V1 + 1", "", "V0 =:= 2"}, {"V1 = V0 / 0", "", "V1 < 1"},
		},
		api.Refuted: {
			{"V1 = 5", "", "V1 < 5"}, {"V0 = a", "", "V0 < V1"}, {"V0 = f(1)", "", "V1 =< V0 + 1"}, {"V0 = 0", "", "1 / V0 =:= 1"}, {"V0 = 2147483648", "", "V0 + 1 < 5"}, {"V0 = a; V1 = b", "", "V0 == V1"}, {"V0 = V1", "", `V0 \= V1`}, {"V0 = f(V1)", "", "V0 == V1"}, {"V0 = 1 + 2", "", "V0 == 3"}, {"V0 = 1 + 2", "", "int(V0)"}, {"V0 = a", "", "int(V0)"},
			// goals that are no tests
			{"V0 = 1", "", "fail"}, {"V0 = 1", "", "V0 = 1"}, {"V0 = 1", "", "V0 is 1"}, {"V0 = 1", "", "p(V0)"},
		},
	})
}

// The store need not be in solved form: the first binding of each variable counts, and its term is not replaced again.
func TestP11_2Loose(t *testing.T) {
	checkInTable(t, map[int][][3]string{
		api.Entailed: {
			{"V0 = V0", "", "V0 == V0"}, {"V0 = 1; V0 = a", "", "int(V0)"}, {"V1 = 2; V0 = 1", "", "V0 < V1"}, {"V0 = V1; V1 = V0", "", "V0 == V0"}, {"V0 = V1; V1 = a", "", "V1 == a"}, {"V3 = 1; V0 = 2; V3 = 4; V1 = 3; V0 = a", "", "V3 < V0"}, {"V0 = V1; V1 = V0", "V0 < V1", "V0 < V1"},
		},
		api.Unknown: {
			{"V0 = V0", "", "V0 < 1"}, {"V0 = V0", "", "int(V0)"}, {"V0 = V1; V1 = 3", "", "int(V0)"}, {"V0 = V1; V1 = 3", "", "V0 == V1"}, {"V0 = V1; V1 = V0", "", "V0 == V1"}, {"V0 = V1; V0 = 1", "", "int(V0)"}, {"V1 = V0; V0 = V1", "", `V0 \= V1`}, {"V2 = V1; V1 = 7; V0 = V2", "", "ground(V0)"},
		},
		api.Refuted: {
			{"V0 = f(V0)", "", "V0 == f(V0)"}, {"V0 = a; V0 = 1", "", "int(V0)"}, {"V0 = a; V0 = 1", "", "V0 < 3"}, {"V1 = 2; V0 = 3", "", "V0 < V1"}, {"V1 = a; V0 = b; V1 = b", "", "V0 == V1"}, {"V0 = V1; V1 = V0", "", `V0 \= V0`},
		},
	})
}

// A goal may become valid, or not valid, only by the store.
func TestP11_2Valid(t *testing.T) {
	v, n, f := variable, number, functor
	for _, bad := range noVars {
		for _, x := range []struct {
			g    api.Goal
			want int
		}{{goalOf(api.OpInt, v(bad)), api.Entailed}, {goalOf(api.OpLess, v(bad), n(4)), api.Entailed}, {goalOf(api.OpApart, v(bad), v(0)), api.Unknown}, {goalOf(api.OpLess, n(4), v(bad)), api.Refuted}, {goalOf(api.OpSame, f("f", v(bad)), f("f", v(bad))), api.Entailed}} {
			checkIn(t, api.Binds{bind(bad, n(3))}, nil, x.g, x.want)
			checkIn(t, nil, nil, x.g, api.Refuted)
			checkIn(t, api.Binds{bind(0, n(3))}, nil, x.g, api.Refuted)
			checkIn(t, api.Binds{bind(5, n(3)), bind(bad, n(3))}, []api.Goal{x.g}, x.g, api.Entailed)
		}
	}
	filled := api.Term{Kind: api.TVar, Int: 0, Name: "x", Args: []api.Term{v(1)}}
	checkIn(t, api.Binds{bind(0, n(3))}, nil, goalOf(api.OpInt, filled), api.Entailed)
	checkIn(t, api.Binds{bind(1, n(3))}, nil, goalOf(api.OpInt, filled), api.Refuted)
	for _, bad := range invalidTerms() {
		b := api.Binds{bind(0, bad)}
		for _, g := range []api.Goal{goalOf(api.OpInt, v(0)), goalOf(api.OpGround, f("f", v(0))), goalOf(api.OpSame, v(0), v(0)), goalOf(api.OpApart, v(0), f("f", v(0))), goalOf(api.OpLess, v(0), n(1)), goalOf(api.OpEqual, v(0), v(0))} {
			checkIn(t, b, nil, g, api.Refuted)
			// .. even under an assumption that is identical
			checkIn(t, b, []api.Goal{g}, g, api.Refuted)
			checkIn(t, b, []api.Goal{wantUnder(b, g)}, g, api.Refuted)
		}
		checkIn(t, b, nil, goalOf(api.OpInt, v(1)), api.Unknown)
		checkIn(t, b, nil, goalOf(api.OpSame, v(1), n(1)), api.Unknown)
		checkIn(t, b, []api.Goal{goalOf(api.OpInt, v(0))}, goalOf(api.OpInt, v(1)), api.Unknown)
		checkIn(t, nil, []api.Goal{goalOf(api.OpInt, bad)}, goalOf(api.OpInt, bad), api.Refuted)
	}
	large := api.Binds{bind(0, wide(100, v(1))), bind(2, wide(101, v(1))), bind(3, high(19, v(1)))}
	for _, x := range []struct {
		g    api.Goal
		want int
	}{
		{goalOf(api.OpSame, v(0), v(0)), api.Entailed}, {goalOf(api.OpApart, v(0), v(2)), api.Refuted}, {goalOf(api.OpSame, v(2), v(2)), api.Refuted}, {goalOf(api.OpGround, f("f", v(0))), api.Unknown}, {goalOf(api.OpGround, f("f", v(0), v(2))), api.Refuted}, {goalOf(api.OpGround, v(3)), api.Unknown}, {goalOf(api.OpGround, f("s", v(3))), api.Refuted}, {goalOf(api.OpApart, v(2), n(1)), api.Entailed}, {goalOf(api.OpApart, v(2), v(2)), api.Refuted},
	} {
		checkIn(t, large, nil, x.g, x.want)
	}
	checkIn(t, large, []api.Goal{goalOf(api.OpGround, v(3)), goalOf(api.OpGround, f("s", v(3))), goalOf(api.OpGround, v(0))}, goalOf(api.OpGround, f("s", v(3))), api.Refuted)
	checkIn(t, large, []api.Goal{goalOf(api.OpGround, v(3)), goalOf(api.OpGround, f("s", v(3))), goalOf(api.OpGround, v(0))}, goalOf(api.OpGround, v(0)), api.Entailed)
}

func TestP11_2Known(t *testing.T) {
	checkInTable(t, map[int][][3]string{
		api.Entailed: {
			{"V1 = 5", "V0 < V1", "V0 < 5"}, {"", "V0 < V1", "V0 < V1"}, {"", "V5 == V6; V0 < V1; int(V2)", "V0 < V1"}, {"", "V5 == V6; V0 < V1; int(V2)", "V5 == V6"}, {"", "V5 == V6; V0 < V1; int(V2)", "int(V2)"}, {"", `V0 \= a`, `V0 \= a`}, {"", "ground(f(V0))", "ground(f(V0))"}, {"", "V0 =< 1; V0 =\\= 3; V0 =:= 2", "V0 =:= 2"}, {"", "V0 =< 1; V0 =\\= 3; V0 =:= 2", "V0 =\\= 3"}, {"", "V0 =< 1; V0 =\\= 3; V0 =:= 2", "V0 =< 1"},
			// the same only under the store
			{"V0 = V1", "int(V0)", "int(V1)"}, {"V0 = V1", "int(V1)", "int(V0)"}, {"V1 = V0; V3 = V2", "V0 < V2", "V1 < V3"}, {"V0 = f(V1)", "V0 == V2", "f(V1) == V2"}, {"V0 = f(V1)", `f(V1) \= V2`, `V0 \= V2`}, {"V0 = 1; V1 = 1", "V2 < V0", "V2 < V1"}, {"V0 = 1 + V1", "V0 =< 3", "1 + V1 =< 3"}, {"V0 = V1; V1 = V0", "V1 < 2", "V1 < 2"},
			// what is assumed holds, whatever the values are
			{"", "2 < 1", "2 < 1"}, {"", "a == b", "a == b"}, {"V0 = 2; V1 = 1", "V0 < V1", "V0 < V1"}, {"V0 = a", "int(V0)", "int(V0)"}, {"V0 = a", "V0 < 1", "V0 < 1"}, {"", "1 / 0 =:= 1", "1 / 0 =:= 1"}, {"V0 = 2", "V0 < 1", "2 < 1"},
			// assumptions that do not matter
			{"", "V0 < 1", "3 < 5"}, {"", "5 =< 3", "3 < 5"}, {"", "p; fail; V0 = 1", "3 < 5"}, {"", "fail", "true"}, {"", "true", "true"},
		},
		api.Unknown: {
			{"V1 = 5", "V0 < V1", "V0 < 6"}, {"", "V0 < 5", "V0 < 6"}, {"", "V0 < V1", "V0 =< V1"}, {"", "V0 < V1", "V1 < V0"}, {"", "V0 == V1", "V1 == V0"}, {"", "V0 == V1", `V0 \= V1`}, {"", "V1 =< V0", "V0 < V1"}, {"", "V0 == a; V1 == a", "V0 == V1"}, {"", "V0 == V1; int(V0)", "int(V1)"}, {"", "V0 + 1 < 3", "1 + V0 < 3"}, {"", "int(V0)", "ground(V0)"}, {"", "V0 = 1", "V0 == 1"}, {"", "p(V0)", "int(V0)"}, {"", "", "V0 < V1"}, {"V0 = V1", "V0 < V1", "V0 < V2"}, {"", "V0 < V1; V0 < V3", "V0 < V2"}, {"V0 = 1", "V0 < V1", "V1 < V0"}, {"V0 = V1; V1 = 2", "int(V1)", "int(V0)"}, {"", "V0 =:= V1; V0 =\\= V1", "V0 =< V1"},
		},
		api.Refuted: {
			{"", "V0 < 1", "2 < 1"}, {"", "1 < 2", "2 < 1"}, {"", `a \= b`, "a == b"}, {"V0 = a", "int(V1)", "int(V0)"}, {"V0 = 3", "V0 < 2", "V0 < 1"}, {"", "true", "2 < 1"},
			// goals that are no tests are not assumed, and assumptions that are none are of no use
			{"", "p", "p"}, {"", "p(V0)", "p(V0)"}, {"", "fail", "fail"}, {"", "V0 = V1", "V0 = V1"}, {"", "1 = 1", "1 = 1"}, {"", "V0 is 1", "V0 is 1"},
		},
	})
}

// What is assumed may be invalid, which matters only for fields that are not used.
func TestP11_2KnownInvalid(t *testing.T) {
	v, n := variable, number
	for _, g := range invalidGoals() {
		checkIn(t, nil, []api.Goal{g}, g, api.Refuted)
		checkIn(t, nil, []api.Goal{g}, goalOf(api.OpInt, v(7)), api.Unknown)
		checkIn(t, nil, []api.Goal{g}, goalOf(api.OpLess, n(1), n(2)), api.Entailed)
		checkIn(t, nil, []api.Goal{g, goalOf(api.OpInt, v(7)), g}, goalOf(api.OpInt, v(7)), api.Entailed)
		checkIn(t, nil, []api.Goal{g}, goalOf(api.OpTrue), api.Entailed)
	}
	filled := func(t api.Term) api.Term {
		if t.Kind == api.TFun {
			t.Int = 5
			return t
		}
		t.Name, t.Args = "x", []api.Term{v(1), functor("b")}
		return t
	}
	for _, x := range []api.Term{v(0), n(3), functor("a")} {
		checkIn(t, nil, []api.Goal{goalOf(api.OpInt, filled(x))}, goalOf(api.OpInt, x), api.Entailed)
		checkIn(t, nil, []api.Goal{goalOf(api.OpLess, filled(x), n(1))}, goalOf(api.OpLess, x, n(1)), api.Entailed)
		checkIn(t, nil, []api.Goal{goalOf(api.OpInt, x)}, goalOf(api.OpInt, filled(x)), api.Refuted)
	}
	for _, x := range []struct {
		known api.Goal
		want  int
	}{
		{goalOf(api.OpSame, v(0), n(1)), api.Entailed}, {goalOf(api.OpSame, v(0), n(1), n(1)), api.Unknown}, {goalOf(api.OpSame, v(0)), api.Unknown}, {goalOf(api.OpSame), api.Unknown}, {api.Goal{Op: api.OpSame, Name: "p", Args: []api.Term{v(0), n(1)}}, api.Unknown}, {goalOf(api.OpCall, v(0), n(1)), api.Unknown}, {goalOf(api.OpSame, v(0), api.Term{Kind: 5, Int: 1}), api.Unknown},
	} {
		checkIn(t, nil, []api.Goal{x.known}, goalOf(api.OpSame, v(0), n(1)), x.want)
	}
}

func TestP11_2All(t *testing.T) {
	counts := map[int]int{}
	list := smallGoals()
	stores := smallStores()
	for i, b := range stores {
		// All goals for each store would take too long.
		for k := i % 41; k < len(list); k += 41 {
			var known []api.Goal
			for at := range i % 5 {
				known = append(known, list[(i*7+at*11+k)%len(list)])
			}
			if k%2 == 0 {
				known = append(known, wantUnder(b, list[k]))
			}
			for _, a := range [][]api.Goal{nil, known} {
				want := wantIn(b, a, list[k])
				if got := In(b, a, list[k]); got != want {
					t.Fatalf("In(%v, %v, %v) = %d, not %d", b, a, list[k], got, want)
				}
				counts[want]++
			}
		}
	}
	checkCounts(t, counts, 2000)
}

func TestP11_2Random(t *testing.T) {
	g := newMaker(2, 0, 1, 2, 3, api.MaxVar)
	badTerms, badGoals := invalidTerms(), invalidGoals()
	counts := map[int]int{}
	for i := range 30000 {
		b := g.store(6, 1+i%3)
		x := g.goal(1 + i%3)
		switch i % 20 {
		case 0:
			x = pick(g, badGoals...)
		case 1:
			b = append(b, bind(pick(g, g.vars...), pick(g, badTerms...)))
			g.random.Shuffle(len(b), func(i, k int) { b[i], b[k] = b[k], b[i] })
		}
		var known []api.Goal
		for range g.random.IntN(5) {
			known = append(known, g.related(b, x))
		}
		if i%10 == 3 {
			known = append(known, pick(g, badGoals...))
		}
		want := wantIn(b, known, x)
		checkIn(t, b, known, x, want)
		counts[want]++
	}
	checkCounts(t, counts, 3000)
}

// Many bindings and many assumptions take no quadratic time, in any order.
func TestP11_2Many(t *testing.T) {
	const count = 60000
	v, n, f := variable, number, functor
	var b api.Binds
	var known []api.Goal
	for i := range count {
		b = append(b, bind(2*i, f("f", v(2*i+1), n(i))))
		known = append(known, goalOf(api.OpSame, v(2*i), n(i)))
	}
	for range 3 {
		for _, at := range []int{0, 1, count / 2, count - 1} {
			for _, x := range []struct {
				g    api.Goal
				want int
			}{
				{goalOf(api.OpSame, f("f", v(2*at+1), n(at)), n(at)), api.Entailed}, {goalOf(api.OpSame, v(2*at), n(at)), api.Entailed}, {goalOf(api.OpSame, v(2*at), n(at+1)), api.Refuted}, {goalOf(api.OpSame, v(2*at+1), n(at)), api.Unknown},
			} {
				if got := In(b, known, x.g); got != x.want {
					t.Errorf("In(.., .., %v) with many bindings and assumptions is %d, not %d", x.g, got, x.want)
				}
			}
		}
		slices.Reverse(b)
		slices.Reverse(known[:count/2])
	}
}
