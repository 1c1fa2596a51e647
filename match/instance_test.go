package match

import (
	"math"
	"slices"
	"testing"

	"constraint/api"
)

// checkInstance builds the instance of a term, and of constraints and goals with it. The check that arguments are as
// before comes after the results were overwritten, which they would share.
func checkInstance(t *testing.T, env []api.Bind, fresh int, x, want api.Term) {
	t.Helper()
	defer watch(t, env, x)()
	got := Instance(env, fresh, x)
	if !equal(got, want) {
		t.Errorf("Instance(%s, %d, %s) = %s, not %s", short(env), fresh, short(x), short(got), short(want))
	}
	memory{}.check(t, got.Args)
	scribble(got.Args)
	args := []api.Term{number(1), x, functor("g", x)}
	wantArgs := []api.Term{number(1), want, functor("g", want)}
	checkInstanceAtom(t, env, fresh, atom("p", args...), atom("p", wantArgs...))
	checkInstanceGoal(t, env, fresh, api.Goal{Op: api.OpCall, Name: "p", Args: args}, api.Goal{Op: api.OpCall, Name: "p", Args: wantArgs})
	checkInstanceGoal(t, env, fresh, goal(api.OpLess, args[1:]...), goal(api.OpLess, wantArgs[1:]...))
}

func checkInstanceAtom(t *testing.T, env []api.Bind, fresh int, a, want api.Atom) {
	t.Helper()
	defer watch(t, env, functor(a.Name, a.Args...))()
	got := InstanceAtom(env, fresh, a)
	if got.Name != want.Name || !slices.EqualFunc(got.Args, want.Args, equal) {
		t.Errorf("InstanceAtom(%s, %d, %s) = %s, not %s", short(env), fresh, short(a), short(got), short(want))
	}
	memory{}.check(t, got.Args)
	scribble(got.Args)
}

func checkInstanceGoal(t *testing.T, env []api.Bind, fresh int, g, want api.Goal) {
	t.Helper()
	defer watch(t, env, functor(g.Name, g.Args...))()
	got := InstanceGoal(env, fresh, g)
	if got.Op != want.Op || got.Name != want.Name || !slices.EqualFunc(got.Args, want.Args, equal) {
		t.Errorf("InstanceGoal(%s, %d, %s) = %s, not %s", short(env), fresh, short(g), short(got), short(want))
	}
	memory{}.check(t, got.Args)
	scribble(got.Args)
}

func TestP8_3Table(t *testing.T) {
	for _, x := range []struct {
		env   string
		fresh int
		term  string
		want  string
	}{
		{"V0 = g(V5)", 10, "f(V0, V1)", "f(g(V5), V11)"},
		{"", 0, "f(V0, V1)", "f(V0, V1)"},
		{"", 3, "f(V0, V1)", "f(V3, V4)"},
		{"", 3, "V7", "V10"},
		{"", -3, "V7", "V4"},
		{"", 3, "a", "a"},
		{"", 3, "5", "5"},
		{"", 3, "-5", "-5"},
		{"V5 = a", 3, "5", "5"},
		{"V3 = a", 3, "V0", "V3"},
		{"V3 = a", 3, "f(V0, V3)", "f(V3, a)"},
		// The terms of entries are not changed, and not replaced again.
		{"V0 = V1; V1 = V0", 10, "f(V0, V1, V2)", "f(V1, V0, V12)"},
		{"V0 = V0", 10, "g(V0, V0)", "g(V0, V0)"},
		{"V0 = f(V0, V1, V2); V1 = 3", 10, "V0 + V1 * V2", "f(V0, V1, V2) + 3 * V12"},
		{"V0 = f(V0)", 10, "f(f(V0))", "f(f(f(V0)))"},
		// The first binding counts, in any order.
		{"V1 = 1; V1 = 2", 10, "f(V1)", "f(1)"},
		{"V4 = 1; V2 = 2; V4 = 3; V0 = 0; V2 = 5", 10, "f(V0, V1, V2, V3, V4, V5)", "f(0, V11, 2, V13, 1, V15)"},
		{"V2 = f(V9); V9 = 1", 1, "f(V2, g(V9, V2), V8)", "f(f(V9), g(1, f(V9)), V9)"},
	} {
		env, term, want := bindings(t, x.env), read(t, x.term), read(t, x.want)
		checkInstance(t, roomy(env), x.fresh, roomyTerm(term), want)
		checkInstance(t, env, x.fresh, term, wantInstance(env, x.fresh, term))
	}
}

// A sum may be no number of a valid variable, and even beyond the range of int.
func TestP8_3Numbers(t *testing.T) {
	for _, x := range []struct{ fresh, v, want int }{
		{0, 0, 0}, {0, math.MaxInt, math.MaxInt}, {0, math.MinInt, math.MinInt}, {math.MaxInt, 0, math.MaxInt}, {math.MinInt, 0, math.MinInt},
		{1, math.MaxInt - 1, math.MaxInt}, {1, math.MaxInt, math.MaxInt}, {math.MaxInt, 1, 1}, {math.MaxInt - 1, 1, math.MaxInt}, {math.MaxInt, 2, 2},
		{math.MaxInt, math.MaxInt, math.MaxInt}, {math.MaxInt/2 + 1, math.MaxInt / 2, math.MaxInt}, {math.MaxInt/2 + 1, math.MaxInt/2 + 1, math.MaxInt/2 + 1},
		{-1, math.MinInt + 1, math.MinInt}, {-1, math.MinInt, math.MinInt}, {math.MinInt, -1, -1}, {math.MinInt + 1, -1, math.MinInt}, {math.MinInt, -2, -2},
		{math.MinInt, math.MinInt, math.MinInt}, {math.MinInt / 2, math.MinInt / 2, math.MinInt}, {math.MinInt / 2, math.MinInt/2 - 1, math.MinInt/2 - 1},
		{math.MinInt, math.MaxInt, -1}, {math.MaxInt, math.MinInt, -1}, {math.MinInt, 1, math.MinInt + 1}, {math.MaxInt, -1, math.MaxInt - 1}, {1, math.MinInt, math.MinInt + 1}, {-1, math.MaxInt, math.MaxInt - 1},
		{1, api.MaxVar, api.MaxVar + 1}, {api.MaxVar + 1, 0, api.MaxVar + 1}, {-1, 0, -1}, {-7, 3, -4}, {5, -5, 0}, {5, -8, -3}, {1 << 62, 1 << 62, 1 << 62}, {-1 << 62, -1 << 62, math.MinInt},
	} {
		checkInstance(t, nil, x.fresh, variable(x.v), variable(x.want))
		checkInstance(t, nil, x.fresh, functor("f", variable(x.v), number(x.v)), functor("f", variable(x.want), number(x.v)))
		checkInstance(t, []api.Bind{bind(x.v, functor("a"))}, x.fresh, variable(x.v), functor("a"))
		checkInstance(t, []api.Bind{bind(x.v, variable(x.fresh))}, x.fresh, variable(x.v), variable(x.fresh))
	}
	numbers := append([]int{0, 1, 2, 5, math.MaxInt - 1, math.MinInt + 1, math.MaxInt / 2, math.MinInt / 2}, noVars...)
	for _, fresh := range numbers {
		for _, v := range numbers {
			checkInstance(t, nil, fresh, variable(v), variable(wantSum(fresh, v)))
		}
	}
}

// Fields that the kind of a term does not use are not those of its instance, but those of the terms of entries stay.
func TestP8_3Fields(t *testing.T) {
	checkInstance(t, nil, 4, filled(number(3)), number(3))
	checkInstance(t, nil, 4, filled(variable(3)), variable(7))
	checkInstance(t, nil, math.MaxInt, filled(variable(3)), variable(3))
	checkInstance(t, nil, 4, filled(functor("f", filled(variable(1)), filled(number(2)))), functor("f", variable(5), number(2)))
	checkInstance(t, nil, 4, filled(functor("a")), functor("a"))
	for _, x := range []api.Term{number(3), variable(3), functor("a"), functor("f", variable(0)), unknown(5), {Kind: -1, Int: 7}} {
		checkInstance(t, []api.Bind{bind(0, filled(x))}, 4, variable(0), filled(x))
		checkInstance(t, []api.Bind{bind(0, filled(x))}, 4, filled(variable(0)), filled(x))
		checkInstance(t, []api.Bind{bind(0, functor("h", filled(x)))}, 4, functor("g", variable(0), variable(0)), functor("g", functor("h", filled(x)), functor("h", filled(x))))
	}
	for _, kind := range unknownKinds {
		for _, x := range []api.Term{unknown(kind), {Kind: kind}, {Kind: kind, Int: 3, Name: "V0", Args: []api.Term{filled(variable(0)), functor("f", variable(0))}}} {
			checkInstance(t, []api.Bind{bind(0, number(1)), bind(3, number(2))}, 4, x, x)
			checkInstance(t, nil, 4, functor("f", x), functor("f", x))
		}
	}
}

func TestP8_3OtherFieldsOfAtomsAndGoals(t *testing.T) {
	env := []api.Bind{bind(0, functor("b"))}
	args, want := []api.Term{variable(0), variable(1)}, []api.Term{functor("b"), variable(6)}
	for _, name := range []string{"p", "", "P", "+", "true"} {
		checkInstanceAtom(t, env, 5, atom(name, args...), atom(name, want...))
		checkInstanceAtom(t, env, 5, atom(name), atom(name))
		for _, op := range []int{api.OpCall, api.OpTrue, api.OpFail, api.OpUnify, api.OpIs, api.OpSame, api.OpApart, api.OpLess, api.OpLeq, api.OpEqual, api.OpUnequal, api.OpInt, api.OpGround, -1, 13, 99, math.MaxInt, math.MinInt} {
			checkInstanceGoal(t, env, 5, api.Goal{Op: op, Name: name, Args: args}, api.Goal{Op: op, Name: name, Args: want})
			checkInstanceGoal(t, env, 5, api.Goal{Op: op, Name: name}, api.Goal{Op: op, Name: name})
			checkInstanceGoal(t, env, 5, api.Goal{Op: op, Name: name, Args: []api.Term{}}, api.Goal{Op: op, Name: name})
		}
	}
	checkInstanceAtom(t, nil, 5, api.Atom{Args: []api.Term{}}, api.Atom{})
}

func TestP8_3SmallTerms(t *testing.T) {
	for _, env := range smallEnvs() {
		for _, x := range smallTerms(2) {
			for _, fresh := range []int{0, 1, -1, 7} {
				checkInstance(t, env, fresh, x, wantInstance(env, fresh, x))
			}
		}
	}
}

func TestP8_3Invalid(t *testing.T) {
	env := []api.Bind{bind(0, number(api.MaxInt+1)), bind(1, functor("A")), bind(5, filled(number(1)))}
	for _, x := range invalidTerms() {
		for _, fresh := range []int{0, 7, -7, api.MaxVar, math.MaxInt, math.MinInt} {
			checkInstance(t, env, fresh, x, wantInstance(env, fresh, x))
			checkInstance(t, nil, fresh, x, wantInstance(nil, fresh, x))
		}
		checkInstance(t, []api.Bind{bind(5, x)}, 3, functor("f", variable(5), variable(5)), functor("f", x, x))
	}
}

func TestP8_3Random(t *testing.T) {
	g := newMaker(3)
	for range 30000 {
		env, x := g.env(6), roomyTerm(g.term(4))
		fresh := pick(g, 0, 1, 7, 7, -2, api.MaxVar, math.MaxInt, math.MaxInt-2, math.MinInt, g.random.Int())
		checkInstance(t, env, fresh, x, wantInstance(env, fresh, x))
		list := roomyTerms(g.list(3))
		checkInstanceAtom(t, env, fresh, atom("p", list...), atom("p", wantInstances(env, fresh, list)...))
		checkInstanceGoal(t, env, fresh, goal(api.OpIs, list...), goal(api.OpIs, wantInstances(env, fresh, list)...))
	}
}

// Many entries, in any order, which would take too long if all of them were looked at for each variable.
func TestP8_3ManyEntries(t *testing.T) {
	const many = 200000
	x := wide(2*many, func(i int) api.Term { return variable(i) })
	for name, v := range map[string]func(i int) int{
		"up": func(i int) int { return 2 * i }, "down": func(i int) int { return 2 * (many - 1 - i) }, "mixed": func(i int) int { return 2 * (i * 7919 % many) },
	} {
		t.Run(name, func(t *testing.T) {
			var env []api.Bind
			for i := range many {
				env = append(env, bind(v(i), number(-v(i))))
			}
			for i := range many {
				env = append(env, bind(v(i), functor("second")))
			}
			for _, got := range [][]api.Term{Instance(env, 10, x).Args, InstanceAtom(env, 10, atom("p", x.Args...)).Args, InstanceGoal(env, 10, goal(api.OpCall, x.Args...)).Args} {
				if len(got) != 2*many {
					t.Fatalf("%d arguments", len(got))
				}
				for i := range many {
					if !equal(got[2*i], number(-2*i)) || !equal(got[2*i+1], variable(2*i+11)) {
						t.Fatalf("the arguments from %d on are %v and %v", 2*i, got[2*i], got[2*i+1])
					}
				}
			}
		})
	}
}

func TestP8_3Deep(t *testing.T) {
	const levels = 1 << 16
	deep := high(levels/2, variable(1))
	got := Instance([]api.Bind{bind(0, deep)}, 5, high(levels/2-1, functor("f", variable(0), variable(1))))
	if want := high(levels/2-1, functor("f", deep, variable(6))); !equal(got, want) {
		t.Error("the instance of a deep term is another one")
	}
}
