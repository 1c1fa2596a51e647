package source

import (
	"testing"

	"constraint/api"
)

// checkGoals checks the text of goals, and what follows from it (P14.4).
func checkGoals(t *testing.T, l []api.Goal, want string) {
	t.Helper()
	defer watch(t, &l)()
	got := Goals(l)
	if got != want {
		t.Errorf("Goals(%s) is\n%.400s instead of\n%.400s", short(l), got, want)
	}
	if oracle := wantGoals(l); oracle != want {
		t.Errorf("%s is expected to be\n%.400s and\n%.400s", short(l), oracle, want)
	}
	checkGoalsLaws(t, l)
}

func TestP14_2Goals(t *testing.T) {
	for _, x := range []struct{ goals, want string }{
		{"", ""},
		{"V2 = a; p(V2)", "V2 = a, p(V2)"},
		{"p", "p"},
		{"p; q; p", "p, q, p"},
		{"true", "true"},
		{"true; true", "true, true"},
		{"fail; true; p", "fail, true, p"},
		// Variables keep their numbers.
		{"p(V7, V3, V7)", "p(V7, V3, V7)"},
		{"p(V1048576); q(V0); V1048575 is V0 + V1048576", "p(V1048576), q(V0), V1048575 is V0 + V1048576"},
		{"q(V1); V0 < V2; r(f(V5, V1))", "q(V1), V0 < V2, r(f(V5, V1))"},
		{"V3 is (V1 + 2) * -3 - (1 - V1); int(V3); ground(f(V1, a))", "V3 is (V1 + 2) * -3 - (1 - V1), int(V3), ground(f(V1, a))"},
	} {
		checkGoals(t, goalsOf(x.goals), x.want)
		checkGoals(t, roomy(goalsOf(x.goals)), x.want)
	}
	checkGoals(t, []api.Goal{}, "")
	for _, op := range comparisons {
		text := "V4 " + goalWords[op] + " V2 - V4"
		checkGoals(t, goalsOf(text), text)
		checkGoals(t, goalsOf("p;"+text+"; q(V2)"), "p, "+text+", q(V2)")
	}
	for _, s := range goodNames {
		checkGoals(t, []api.Goal{call(s), call("p", functor(s, variable(9)))}, s+", p("+s+"(V9))")
	}
}

func TestP14_2GoalsCounts(t *testing.T) {
	for _, text := range []string{"p", "true", "fail", "p(V3, 1)", "V3 < V4"} {
		for count := range 50 {
			want := repeated(text, count)
			if count > 40 {
				want = ""
			}
			checkGoals(t, times(count, goalOf(text)), want)
		}
		checkGoals(t, times(400, goalOf(text)), "")
	}
}

func TestP14_2GoalsInvalid(t *testing.T) {
	list := invalidGoals()
	// What becomes valid in a rule, where variables get other numbers.
	for _, v := range noVars {
		list = append(list, call("p", variable(v)), goal(api.OpInt, functor("f", variable(v))), goal(api.OpUnify, variable(1), variable(v)))
	}
	for _, x := range list {
		for _, l := range insertions(x, goal(api.OpTrue), call("q", variable(1))) {
			checkGoals(t, l, "")
		}
	}
	for _, x := range atLimits() {
		for _, l := range insertions(call("p", x), goal(api.OpTrue), goal(api.OpLess, variable(3), number(-1))) {
			if wantGoals(l) == "" {
				t.Errorf("%s has no text", short(l))
			}
			checkGoals(t, l, wantGoals(l))
		}
	}
	for _, nodes := range []int{100, 101} {
		l := []api.Goal{goal(api.OpIs, wide(100, variable(3)), wide(nodes, number(-1)))}
		if (Goals(l) == "") != (nodes == 101) {
			t.Errorf("%d nodes: %s", nodes, short(Goals(l)))
		}
		checkGoals(t, l, wantGoals(l))
	}
}

// stretchedGoals returns goals that are longer, so that their text has a number of bytes.
func stretchedGoals(t *testing.T, l []api.Goal, bytes int) []api.Goal {
	t.Helper()
	l = copyOf(l)
	var names []*string
	for _, g := range l {
		names = append(names, namesIn(g.Args)...)
	}
	stretch(t, names, bytes-len(wantList(l, wantGoal)))
	return l
}

func TestP14_2GoalsTooLong(t *testing.T) {
	t.Parallel()
	large := call("q", wide(api.MaxNodes, variable(api.MaxVar)))
	for _, l := range [][]api.Goal{longBody(3), longBody(10), append(longBody(3), large, large), append(times(35, call("p")), longBody(5)...)} {
		for _, bytes := range []int{16383, 16384, 16385, 16386} {
			l := stretchedGoals(t, l, bytes)
			got := Goals(l)
			if bytes > 16384 && got != "" || bytes <= 16384 && len(got) != bytes {
				t.Errorf("a text of %d bytes has %d", bytes, len(got))
			}
			checkGoals(t, l, wantGoals(l))
		}
	}
	checkGoals(t, stretchedGoals(t, longBody(40), 100000), "")
	// The numbers of variables count as they are, not as they would be in a rule.
	l := times(15, large)
	if len(Rule(api.Rule{Keep: []api.Atom{atom("p")}, Body: l[:12]})) < 5000 {
		t.Error("the rule has no text")
	}
	checkGoals(t, l, "")
}

// Each reason for the empty text together with each other one.
func TestP14_2GoalsPairs(t *testing.T) {
	t.Parallel()
	faults := []func(l []api.Goal) []api.Goal{
		func(l []api.Goal) []api.Goal { return append(l, times(40, call("p"))...) },
		func(l []api.Goal) []api.Goal { return append(l, goal(api.OpInt)) },
		func(l []api.Goal) []api.Goal { return append([]api.Goal{call("P")}, l...) },
		func(l []api.Goal) []api.Goal { return append(l, call("p", variable(-1))) },
		func(l []api.Goal) []api.Goal { return append(l, stretchedGoals(t, longBody(12), 16400)...) },
	}
	for _, change := range faults {
		for _, other := range faults {
			checkGoals(t, change(goalsOf("p; q")), "")
			checkGoals(t, other(change(goalsOf("p; q"))), "")
		}
	}
}

func TestP14_2GoalsRandom(t *testing.T) {
	t.Parallel()
	g := newMaker(5)
	count := 0
	for range 3000 {
		l := listUpTo(g, api.MaxQuery, g.goal)
		want := wantGoals(l)
		checkGoals(t, l, want)
		count += min(1, len(want))
	}
	if count < 1000 || count > 2900 {
		t.Errorf("%d texts", count)
	}
}
