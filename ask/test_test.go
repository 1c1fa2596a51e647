package ask

import (
	"slices"
	"strings"
	"testing"

	"constraint/api"
)

// checkTest compares Test with the wanted result and with that of the definition.
func checkTest(t *testing.T, g api.Goal, want int) {
	t.Helper()
	if result := wantTest(g); result != want {
		t.Errorf("the result of %s is %d, not %d", short(g), result, want)
	}
	list := roomyGoals([]api.Goal{g})
	defer watch(t, nil, list)()
	if got := Test(list[0]); got != want {
		t.Errorf("Test(%s) = %d, not %d", short(g), got, want)
	}
}

// checkTable does so for a list of goals for each result.
func checkTable(t *testing.T, table map[int][]string) {
	t.Helper()
	for want, list := range table {
		for _, text := range list {
			checkTest(t, goal(t, text), want)
		}
	}
}

// checkBoth checks == and \= for two terms, in both orders.
func checkBoth(t *testing.T, a, b api.Term, want int) {
	t.Helper()
	opposite := map[int]int{api.Unknown: api.Unknown, api.Entailed: api.Refuted, api.Refuted: api.Entailed}[want]
	for _, x := range [][2]api.Term{{a, b}, {b, a}} {
		checkTest(t, goalOf(api.OpSame, x[0], x[1]), want)
		checkTest(t, goalOf(api.OpApart, x[0], x[1]), opposite)
	}
}

func TestP11_1Same(t *testing.T) {
	for want, list := range map[int][][2]string{
		api.Entailed: {
			{"V0", "V0"}, {"V1048576", "V1048576"}, {"a", "a"}, {"3", "3"}, {"-3", "-3"}, {"2147483648", "2147483648"}, {"f(V0, g(V1))", "f(V0, g(V1))"}, {"1 + V0", "1 + V0"}, {"1 / 0", "1 / 0"},
		},
		api.Unknown: {
			{"V0", "V1"}, {"V0", "V1048576"}, {"V0", "a"}, {"V0", "3"}, {"V0", "f(V1)"}, {"V0", "f(V1, V1)"}, {"f(V0)", "f(V1)"}, {"f(V0, 1)", "f(2, V1)"}, {"f(V0, V0)", "f(V1, V2)"}, {"f(V2, V1)", "f(V1, g(V0))"}, {"f(V0, V0)", "f(g(V1), g(V2))"}, {"V0 + 1", "2 + V1"}, {"f(a, V0)", "f(a, 1)"},
		},
		api.Refuted: {
			{"a", "b"}, {"1", "2"}, {"1", "-1"}, {"0", "a"}, {"f(V0)", "g(V0)"}, {"f(V0)", "f(V0, V0)"}, {"f", "f(V0)"}, {"3", "f(3)"}, {"1 + 2", "2 + 1"}, {"1 + 2", "3"}, {"V0 + V1", "V0 - V1"}, {"f(V0, V0)", "f(1, 2)"}, {"f(V0, V0)", "f(a, g(V1))"}, {"f(1, V0)", "f(2, V1)"}, {"f(V0, 1)", "f(V1, 2)"}, {"f(g(1, h(V0, 2)))", "f(g(1, h(V0, 3)))"},
			// a variable and a term that contains it, at once or after others
			{"V0", "f(V0)"}, {"V0", "V0 + 1"}, {"V0", "g(1, f(V1, V0))"}, {"f(V0, V1)", "f(g(V1), g(V0))"}, {"f(V0, V0)", "f(V1, g(V1))"}, {"f(V0, V1, V2)", "f(V1, V2, g(V0))"}, {"f(V0, V1, V2)", "f(g(V1), g(V2), g(V0))"},
		},
	} {
		for _, x := range list {
			checkBoth(t, read(t, x[0]), read(t, x[1]), want)
		}
	}
	checkTable(t, map[int][]string{
		api.Unknown: {"V0 == a"}, api.Entailed: {`f(V0) \= g(V0)`, "V0 == V0", `V0 \= f(V0)`, `1 \= 2`}, api.Refuted: {`V0 \= V0`, "f(V0) == g(V0)", "V0 == f(V0)", `a \= a`},
	})
}

// Terms as large and as deep as goals permit, and unifiers with terms that are not valid, even with terms that are far too
// large to be built.
func TestP11_1Large(t *testing.T) {
	v, f, n := variable, functor, number
	for _, leaf := range []api.Term{v(1), n(1)} {
		checkBoth(t, wide(100, leaf), wide(100, leaf), api.Entailed)
		checkBoth(t, wide(199, leaf), n(1), api.Refuted)
		checkBoth(t, high(19, leaf), high(19, leaf), api.Entailed)
		checkBoth(t, high(19, leaf), high(18, leaf), api.Refuted)
		checkBoth(t, wide(199, leaf), v(0), api.Unknown)
	}
	checkBoth(t, wide(100, v(1)), wide(100, v(2)), api.Unknown)
	checkBoth(t, wide(100, v(1)), wide(100, n(2)), api.Unknown)
	checkBoth(t, wide(100, v(1)), wide(99, v(1)), api.Refuted)
	checkBoth(t, high(19, v(0)), high(19, v(1)), api.Unknown)
	for _, x := range [][2]api.Term{
		{f("f", v(0), v(1)), f("f", high(15, v(1)), high(15, v(2)))}, {f("f", v(0), v(1)), f("f", wide(90, v(1)), f("g", v(2), v(2), v(2)))}, {f("f", v(0), v(0)), f("f", wide(60, v(1)), wide(60, f("a")))},
	} {
		checkBoth(t, x[0], x[1], api.Unknown)
		checkBoth(t, f("g", x[0], v(5)), f("g", x[1], n(2)), api.Unknown)
		checkBoth(t, f("g", x[0], n(1)), f("g", x[1], n(2)), api.Refuted)
		checkBoth(t, f("g", x[0], v(0)), f("g", x[1], f("h", v(0))), api.Refuted)
	}
	for _, count := range []int{8, 20, 35} {
		a, b := doubled(count)
		if !wantValid(a, b, n(1), n(2)) {
			t.Fatalf("%s and %s are too large", short(a), short(b))
		}
		for _, x := range []struct {
			s, t api.Term
			want int
		}{
			{a, b, api.Unknown}, {f("g", a, n(1)), f("g", b, n(2)), api.Refuted}, {f("g", a, v(0)), f("g", b, v(count)), api.Refuted}, {f("g", a, v(50)), f("g", b, v(count)), api.Unknown}, {f("g", a), f("h", b), api.Refuted},
		} {
			opposite := map[int]int{api.Unknown: api.Unknown, api.Refuted: api.Entailed}[x.want]
			if same, apart := Test(goalOf(api.OpSame, x.s, x.t)), Test(goalOf(api.OpApart, x.s, x.t)); same != x.want || apart != opposite {
				t.Errorf("the results of == and \\= for %s and %s are %d and %d", short(x.s), short(x.t), same, apart)
			}
		}
	}
}

func TestP11_1Values(t *testing.T) {
	// The results of <, =<, =:= and =\= for values that are less, equal and greater.
	for order, pairs := range map[string][][2]string{
		"<": {{"3", "5"}, {"-5", "3"}, {"-5", "-3"}, {"-1", "0"}, {"-2147483648", "2147483648"}, {"2147483647", "2147483648"}, {"1 + 1", "1 + 2"}, {"7 - 2 - 1", "7 - (2 - 1)"}, {"-7 / 2", "-3"}, {"7 % -2", "0"}, {"2 * 3", "7 % 8 + 0 * 5"}, {"10 - 20", "1"}},
		"=": {{"5", "5"}, {"0", "0"}, {"-7", "-7"}, {"2147483648", "2147483648"}, {"1 + 2", "2 + 1"}, {"1 + 2", "3"}, {"-7 % 2", "1"}, {"-7 / 2", "-4"}, {"7 / -2", "-4"}, {"7 % -2", "-1"}, {"2 * 3", "12 / 2"}, {"2147483647 + 1", "1073741824 * 2"}, {"-2147483648", "-2147483647 - 1"}, {"0 * 5", "5 - 5"}, {"7 - 2 - 1", "4"}},
		">": {{"5", "3"}, {"3", "-5"}, {"0", "-1"}, {"2147483648", "2147483647"}, {"2 * 3", "5"}, {"-7 / 2", "-5"}, {"8 % 3", "1"}},
	} {
		for _, x := range pairs {
			for symbol, entailed := range map[string]string{"<": "<", "=<": "<=", "=:=": "=", `=\=`: "<>"} {
				want := api.Refuted
				if strings.Contains(entailed, order) {
					want = api.Entailed
				}
				checkTest(t, goal(t, x[0]+" "+symbol+" "+x[1]), want)
			}
		}
	}
}

func TestP11_1NoValues(t *testing.T) {
	list := map[int][][2]string{
		api.Unknown: {
			{"V0", "V0"}, {"V0", "V1"}, {"V0", "3"}, {"3", "V0"}, {"V1048576", "0"}, {"V0 + 1", "3"}, {"3", "V0 * V1"}, {"2 - (1 + V0)", "V1"}, {"2147483648", "V0"}, {"V0 + 1", "V0"},
			// no value next to a variable, in the same operand or in the other one
			{"1 / 0", "V0"}, {"V0", "1 % 0"}, {"V0 / 0", "1"}, {"1 / 0 + V0", "1"}, {"V0 + 1 / 0", "1"}, {"V0", "2147483648 * 2"}, {"2147483648 + 1 + V0", "1"}, {"V0 + 2147483648 * 2", "1 / 0"}, {"1 / 0", "V0 / 0"},
		},
		api.Refuted: {
			// no number terms
			{"a", "a"}, {"a", "1"}, {"a", "b"}, {"f(1)", "f(1)"}, {"3", "f(V0)"}, {"V0 + a", "3"}, {"V0", "a"}, {"a", "V0"}, {"V0", "f(1)"}, {"f(V0)", "V0"}, {"1 + a", "1 + a"}, {"1 + (2 - (3 * f(4)))", "1"}, {"f(1) + 2", "1"}, {"V0 + (V1 - (V2 * f(V3)))", "V0"}, {"V0 * (1 + a)", "1"}, {"1 / 0 + a", "1"}, {"a + 1 / 0", "V0"}, {"V0 / 0 + a", "1"}, {"f(1 + 2)", "3"}, {"g(1, 2)", "3"},
			// no value and no variable
			{"1 / 0", "1"}, {"1", "1 % 0"}, {"1 / 0", "1 / 0"}, {"1 + 2 / (3 - 3)", "1"}, {"0 % 0", "0"}, {"2147483648 + 1", "1"}, {"1", "-2147483648 - 1"}, {"2147483648 * 2", "2147483648 * 2"}, {"2147483648 + 1 - 1", "2147483648"}, {"-2147483648 / -1 + 1", "0"}, {"65536 * 65536", "1"}, {"1 / (2147483648 * 2)", "0"}, {"0 * (1 / 0)", "0"},
		},
	}
	for want, pairs := range list {
		for _, x := range pairs {
			for _, op := range comparisons {
				checkTest(t, goalOf(op, read(t, x[0]), read(t, x[1])), want)
				checkTest(t, goalOf(op, read(t, x[1]), read(t, x[0])), want)
			}
		}
	}
	// A functor that is none of a number at any depth, and an operator with one or three arguments.
	v, n, f := variable, number, functor
	for levels := range 10 {
		for _, bad := range []api.Term{f("a"), f("f", n(1), n(2)), f("+", n(1)), f("*", n(1), n(2), n(3)), f("plus", n(1), n(2))} {
			x := bad
			for range levels {
				x = f("-", v(0), f("+", x, n(2)))
			}
			for _, op := range comparisons {
				checkTest(t, goalOf(op, x, n(1)), api.Refuted)
				checkTest(t, goalOf(op, v(0), x), api.Refuted)
			}
		}
	}
	for _, op := range comparisons {
		checkTest(t, goalOf(op, sumOf(99, n(1)), n(99)), map[bool]int{true: api.Entailed, false: api.Refuted}[op == api.OpLeq || op == api.OpEqual])
		checkTest(t, goalOf(op, sumOf(50, v(1)), sumOf(50, n(1))), api.Unknown)
		checkTest(t, goalOf(op, sumOf(50, n(1)), f("+", sumOf(48, n(1)), f("a"))), api.Refuted)
	}
}

func TestP11_1IntGround(t *testing.T) {
	checkTable(t, map[int][]string{
		api.Entailed: {"int(0)", "int(2)", "int(-2147483648)", "int(2147483648)", "ground(0)", "ground(-3)", "ground(a)", "ground(2 + 1)", "ground(1 / 0)", "ground(f(a, g(1)))"},
		api.Unknown:  {"int(V0)", "int(V1048576)", "ground(V0)", "ground(V1048576)", "ground(f(V0))", "ground(f(a, g(1, V3)))", "ground(V0 + 1)", "ground(1 - V0)", "ground(f(V0, V0))"},
		api.Refuted:  {"int(a)", "int(2 + 1)", "int(f(2))", "int(f(V0))", "int(V0 + 1)", "int(0 - 1)", "int(1 / 0)"},
	})
	v, n := variable, number
	for _, x := range []struct {
		arg         api.Term
		int, ground int
	}{
		{wide(200, n(1)), api.Refuted, api.Entailed}, {wide(200, v(1)), api.Refuted, api.Unknown}, {high(19, n(1)), api.Refuted, api.Entailed}, {high(19, v(1)), api.Refuted, api.Unknown}, {wide(201, n(1)), api.Refuted, api.Refuted}, {wide(201, v(1)), api.Refuted, api.Refuted}, {high(20, n(1)), api.Refuted, api.Refuted}, {high(20, v(1)), api.Refuted, api.Refuted},
		{v(api.MaxVar + 1), api.Refuted, api.Refuted}, {n(api.MaxInt + 1), api.Refuted, api.Refuted}, {n(-api.MaxInt - 1), api.Refuted, api.Refuted},
	} {
		checkTest(t, goalOf(api.OpInt, x.arg), x.int)
		checkTest(t, goalOf(api.OpGround, x.arg), x.ground)
	}
}

func TestP11_1Others(t *testing.T) {
	checkTable(t, map[int][]string{
		api.Entailed: {"true"},
		api.Refuted:  {"fail", "V0 = V0", "1 = 1", "V0 = a", "V0 is 1", "1 is 1", "3 is 1 + 2", "p", "p(V0)", "q(1, 2)", "leq(V0, V0)"},
	})
	for _, g := range invalidGoals() {
		if wantValidGoal(g) {
			t.Errorf("%s is valid", short(g))
		}
		checkTest(t, g, api.Refuted)
	}
	loop := cyclic()
	for _, op := range append(slices.Clone(tests), others...) {
		for _, args := range [][]api.Term{{loop}, {loop, loop}, {number(1), loop}, {loop, variable(0)}} {
			if got := Test(goalOf(op, args...)); got != api.Refuted {
				t.Errorf("the result of the operator %d for a term that contains itself is %d", op, got)
			}
		}
	}
}

// Each operator has each result, except that ground is refuted only if it is not valid.
func TestP11_1All(t *testing.T) {
	counts := map[int]map[int]int{}
	total := map[int]int{}
	for _, g := range smallGoals() {
		want := wantTest(g)
		checkTest(t, g, want)
		if counts[g.Op] == nil {
			counts[g.Op] = map[int]int{}
		}
		counts[g.Op][want]++
		total[want]++
	}
	checkCounts(t, total, 100)
	for _, op := range tests {
		for _, result := range []int{api.Unknown, api.Entailed, api.Refuted} {
			if counts[op][result] == 0 && (op != api.OpGround || result != api.Refuted) {
				t.Errorf("no goal with the operator %d has the result %d", op, result)
			}
		}
	}
}

func TestP11_1Random(t *testing.T) {
	g := newMaker(1, 0, 1, 2, 3, 4, api.MaxVar)
	badTerms, badGoals := invalidTerms(), invalidGoals()
	counts := map[int]int{}
	for i := range 60000 {
		x := g.goal(1 + i%4)
		switch i % 20 {
		case 0:
			x = pick(g, badGoals...)
		case 1:
			if len(x.Args) > 0 {
				x.Args[g.random.IntN(len(x.Args))] = functor("f", g.term(2), pick(g, badTerms...))
			}
		}
		want := wantTest(x)
		checkTest(t, x, want)
		counts[want]++
	}
	checkCounts(t, counts, 5000)
}

// The result is that of all terms that the variables may stand for: a test that is entailed or refuted holds for all or none
// of them.
func TestP11_1Meaning(t *testing.T) {
	values := []api.Term{number(0), number(-1), number(2), functor("a"), functor("f", number(0)), functor("f", functor("f", functor("a"))), functor("g", number(2), number(2))}
	for _, g := range smallGoals() {
		result := Test(g)
		if result == api.Unknown || !wantTestGoal(g) {
			continue
		}
		for _, x := range values {
			for _, y := range values {
				closed := wantUnder(api.Binds{bind(0, x), bind(1, y)}, g)
				if got := Test(closed); got != result {
					t.Errorf("the result of %v is %d, but that of %v is %d", g, result, closed, got)
				}
			}
		}
	}
}
