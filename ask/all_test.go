package ask

import (
	"slices"
	"testing"

	"constraint/api"
)

// checkAll compares All with the wanted result and with that of the definition.
func checkAll(t *testing.T, b api.Binds, known, l []api.Goal, want int) {
	t.Helper()
	if result := wantAll(b, known, l); result != want {
		t.Errorf("under %s and %s the result of %s is %d, not %d", short(b), short(known), short(l), result, want)
	}
	b, known, l = roomyBinds(b), roomyGoals(known), roomyGoals(l)
	defer watch(t, b, known, l)()
	if got := All(b, known, l); got != want {
		t.Errorf("All(%s, %s, %s) = %d, not %d", short(b), short(known), short(l), got, want)
	}
}

func TestP11_2Conjunction(t *testing.T) {
	for want, list := range map[int][][3]string{
		api.Entailed: {
			{"", "", ""}, {"V0 = 1", "V1 < 2", ""}, {"", "", "3 < 5"}, {"", "", "true"}, {"", "", "3 < 5; int(2); true; V0 == V0"}, {"V0 = 3", "", "V0 < 5; int(V0); ground(V0)"}, {"", "V0 < 1; int(V0)", "int(V0); V0 < 1"}, {"V1 = V0", "V0 < 1; int(V1)", "int(V0); V1 < 1; int(V1); V0 < 1; true"},
		},
		api.Unknown: {
			{"", "", "V0 < 1"}, {"", "", "V0 < 1; true"}, {"", "", "true; V0 < 1"}, {"", "", "V0 < 1; V1 < 1"}, {"", "", "true; V0 < 1; 3 < 5; int(V3)"}, {"V0 = 3", "", "V0 < 5; V1 < 5"}, {"", "V0 < 1", "V0 < 1; V1 < 1"}, {"", "V0 < 1", "V0 < 2; V0 < 1"},
		},
		api.Refuted: {
			{"", "", "fail"}, {"", "", "p"}, {"", "", "V0 < 1; 2 < 1"}, {"", "", "2 < 1; V0 < 1"}, {"", "", "true; 2 < 1"}, {"", "", "2 < 1; true"}, {"", "", "true; V0 < 1; 2 < 1"}, {"", "", "V0 < 1; 2 < 1; true"}, {"", "", "V0 < 1; fail; V1 < 1"}, {"V0 = 3", "", "V1 < 1; V0 < 1"}, {"", "V0 < 1", "V0 < 1; p"}, {"", "V0 < 1; 2 < 1", "V0 < 1; 2 < 1; 3 < 1"}, {"", "", "V0 = 1; true"}, {"", "", "true; V0 is 1"},
		},
	} {
		for _, x := range list {
			checkAll(t, store(t, x[0]), goals(t, x[1]), goals(t, x[2]), want)
		}
	}
	for _, l := range [][]api.Goal{nil, {}} {
		if got := All(nil, nil, l); got != api.Entailed {
			t.Errorf("All of no goals is %d", got)
		}
	}
}

// All orders of up to four goals with each result.
func TestP11_2Orders(t *testing.T) {
	one := map[int]api.Goal{api.Unknown: goal(t, "V0 < 1"), api.Entailed: goal(t, "int(2)"), api.Refuted: goal(t, "a == b")}
	lists := [][]int{nil}
	for at := 0; at < len(lists); at++ {
		var l []api.Goal
		for _, result := range lists[at] {
			l = append(l, one[result])
		}
		want := api.Entailed
		switch {
		case slices.Contains(lists[at], api.Refuted):
			want = api.Refuted
		case slices.Contains(lists[at], api.Unknown):
			want = api.Unknown
		}
		checkAll(t, nil, nil, l, want)
		if len(l) < 4 {
			for result := range one {
				lists = append(lists, append(slices.Clip(lists[at]), result))
			}
		}
	}
	if len(lists) != 1+3+9+27+81 {
		t.Errorf("there are %d lists", len(lists))
	}
}

func TestP11_2ConjunctionInvalid(t *testing.T) {
	good := []api.Goal{goal(t, "true"), goal(t, "V7 < 1"), goal(t, "int(2)")}
	for _, bad := range invalidGoals() {
		checkAll(t, nil, nil, []api.Goal{bad}, api.Refuted)
		for at := range len(good) + 1 {
			checkAll(t, nil, []api.Goal{bad}, slices.Insert(slices.Clone(good), at, bad), api.Refuted)
		}
		checkAll(t, nil, []api.Goal{bad}, good, api.Unknown)
	}
	b := store(t, "V0 = 3; V2 = 4")
	b[1].Term = number(api.MaxInt + 1)
	checkAll(t, b, nil, goals(t, "int(V0); V1 < 1"), api.Unknown)
	checkAll(t, b, nil, goals(t, "int(V0); V1 < 1; ground(V2)"), api.Refuted)
}

func TestP11_2ConjunctionRandom(t *testing.T) {
	g := newMaker(3, 0, 1, 2, 3, api.MaxVar)
	badGoals := invalidGoals()
	counts := map[int]int{}
	for i := range 20000 {
		b := g.store(5, 1+i%3)
		var known, l []api.Goal
		for range g.random.IntN(5) {
			x := g.goal(1 + i%3)
			// Refuted goals would mostly decide.
			if wantIn(b, nil, x) == api.Refuted && g.random.IntN(6) > 0 {
				x = goalOf(api.OpTrue)
			}
			l = append(l, x)
			if g.random.IntN(2) == 0 {
				known = append(known, g.related(b, x))
			}
		}
		if i%40 == 0 {
			known, l = append(known, pick(g, badGoals...)), append(l, pick(g, badGoals...))
		}
		g.random.Shuffle(len(known), func(i, k int) { known[i], known[k] = known[k], known[i] })
		want := wantAll(b, known, l)
		checkAll(t, b, known, l, want)
		counts[want]++
	}
	checkCounts(t, counts, 1500)
}

// Many goals, bindings and assumptions take no quadratic time.
func TestP11_2ConjunctionMany(t *testing.T) {
	const count = 60000
	v, n, f := variable, number, functor
	var b api.Binds
	var known, l []api.Goal
	for i := range count {
		b = append(b, bind(2*i, f("f", v(2*i+1), n(i))))
		known = append(known, goalOf(api.OpSame, n(i), v(2*i)))
		l = append(l, goalOf(api.OpSame, n(i), f("f", v(2*i+1), n(i))))
	}
	for range 3 {
		for _, x := range []struct {
			known []api.Goal
			more  api.Goal
			want  int
		}{{known, goalOf(api.OpTrue), api.Entailed}, {known, goalOf(api.OpInt, v(1)), api.Unknown}, {known, goalOf(api.OpInt, v(2)), api.Refuted}, {known[1:], goalOf(api.OpTrue), api.Refuted}} {
			if got := All(b, x.known, append(slices.Clip(l), x.more)); got != x.want {
				t.Errorf("All for many goals and %v is %d, not %d", x.more, got, x.want)
			}
		}
		slices.Reverse(b)
		slices.Reverse(known)
	}
}
