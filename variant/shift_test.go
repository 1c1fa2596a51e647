package variant

import (
	"math"
	"testing"

	"constraint/api"
)

// shifts are numbers to shift by.
var shifts = []int{0, 1, -1, 3, -3, 7, 1000, api.MaxVar, -api.MaxVar, math.MaxInt, math.MaxInt - 1, math.MinInt, math.MinInt + 1}

// checkShift shifts a term, also in a rule. The check that arguments are as before comes after the result was overwritten,
// which they would share.
func checkShift(t *testing.T, x api.Term, k int, want api.Term) {
	t.Helper()
	defer watch(t, []api.Term{x})()
	got := Shift(x, k)
	if !equal(got, want) {
		t.Errorf("Shift(%s, %d) = %s, not %s", short(x), k, short(got), short(want))
	}
	memory{}.check(t, []api.Term{got})
	scribble(got.Args)
	r, wantRule := api.Rule{Keep: []api.Atom{atom("p", x, number(3))}, Body: []api.Goal{call("p", x)}}, api.Rule{Keep: []api.Atom{atom("p", want, number(3))}, Body: []api.Goal{call("p", want)}}
	checkShiftRule(t, r, k, wantRule)
}

func checkShiftRule(t *testing.T, r api.Rule, k int, want api.Rule) {
	t.Helper()
	defer watchRule(t, r)()
	got := ShiftRule(r, k)
	if !equalRules(got, want) {
		t.Errorf("ShiftRule(%s, %d) = %s, not %s", short(r), k, short(got), short(want))
	}
	m := memory{}
	for _, args := range places(&got) {
		m.check(t, *args)
	}
	scribbleRule(got)
}

// checkBack checks that a shift by a number and then by its opposite is the identity, if no sum leaves the range.
func checkBack(t *testing.T, r api.Rule, k int) {
	t.Helper()
	if k == math.MinInt {
		return
	}
	for _, args := range places(&r) {
		for _, v := range wantVars(*args) {
			if _, ok := wantSum(v, k); !ok {
				return
			}
		}
		for _, x := range *args {
			if back := Shift(Shift(x, k), -k); !equal(back, x) {
				t.Errorf("%s becomes %s by a shift by %d and back", short(x), short(back), k)
			}
		}
	}
	if back := ShiftRule(ShiftRule(r, k), -k); !equalRules(back, r) {
		t.Errorf("%s becomes %s by a shift by %d and back", short(r), short(back), k)
	}
}

func TestP9_1Table(t *testing.T) {
	for _, x := range []struct {
		term string
		k    int
		want string
	}{
		{"f(V0, V2)", 3, "f(V3, V5)"},
		{"f(V0, V2)", 0, "f(V0, V2)"},
		{"f(V3, V5)", -3, "f(V0, V2)"},
		{"V0", 1, "V1"},
		{"V7", -7, "V0"},
		{"V7", -6, "V1"},
		{"V0", api.MaxVar, "V1048576"},
		{"V1048576", -1, "V1048575"},
		{"7", 3, "7"},
		{"-7", 3, "-7"},
		{"0", -3, "0"},
		{"a", 3, "a"},
		{"f(1, b, g(2))", 3, "f(1, b, g(2))"},
		{"f(V1, V1, 1)", 4, "f(V5, V5, 1)"},
		{"f(V1, g(V0, h(V1, 2)), V2)", 10, "f(V11, g(V10, h(V11, 2)), V12)"},
		{"V0 + V1 * 2 - V0", 5, "V5 + V6 * 2 - V5"},
		{"(V3 - 3) % V3", -2, "(V1 - 3) % V1"},
	} {
		got, want := read(t, x.term)[0], read(t, x.want)[0]
		checkShift(t, roomy(got), x.k, want)
		checkShift(t, got, x.k, wantShift([]api.Term{got}, x.k)[0])
	}
}

// A sum may be no number of a valid variable, and even beyond the range of int.
func TestP9_1Numbers(t *testing.T) {
	for _, x := range []struct{ v, k, want int }{
		{0, -1, -1}, {0, -5, -5}, {3, -4, -1}, {-1, 1, 0}, {-5, -5, -10}, {api.MaxVar, 1, api.MaxVar + 1}, {0, api.MaxVar + 1, api.MaxVar + 1}, {0, 1 << 40, 1 << 40},
		{math.MaxInt, 0, math.MaxInt}, {math.MaxInt, 1, math.MaxInt}, {math.MaxInt - 1, 1, math.MaxInt}, {math.MaxInt - 1, 2, math.MaxInt - 1}, {math.MaxInt, -1, math.MaxInt - 1},
		{math.MaxInt, math.MaxInt, math.MaxInt}, {1, math.MaxInt, 1}, {0, math.MaxInt, math.MaxInt}, {-1, math.MaxInt, math.MaxInt - 1}, {2, math.MaxInt - 1, 2}, {1, math.MaxInt - 1, math.MaxInt},
		{1 << 62, 1 << 62, 1 << 62}, {1 << 62, 1<<62 - 1, math.MaxInt}, {math.MaxInt, math.MinInt, -1}, {math.MinInt, math.MaxInt, -1},
		{math.MinInt, 0, math.MinInt}, {math.MinInt, -1, math.MinInt}, {math.MinInt + 1, -1, math.MinInt}, {math.MinInt + 1, -2, math.MinInt + 1}, {math.MinInt, 1, math.MinInt + 1},
		{math.MinInt, math.MinInt, math.MinInt}, {-1, math.MinInt, -1}, {0, math.MinInt, math.MinInt}, {1, math.MinInt, math.MinInt + 1}, {-2, math.MinInt + 1, -2}, {-1, math.MinInt + 1, math.MinInt},
		{-1 << 62, -1 << 62, math.MinInt}, {-1 << 62, -1<<62 - 1, -1 << 62}, {-1<<62 - 1, -1 << 62, -1<<62 - 1},
	} {
		checkShift(t, variable(x.v), x.k, variable(x.want))
		checkShift(t, functor("f", variable(x.v), number(x.v)), x.k, functor("f", variable(x.want), number(x.v)))
	}
	// A variable that keeps its number stands next to one that does not.
	checkShift(t, functor("f", variables(math.MaxInt, 0, math.MaxInt-4, math.MaxInt-5, math.MinInt)...), 5, functor("f", variables(math.MaxInt, 5, math.MaxInt-4, math.MaxInt, math.MinInt+5)...))
	checkShift(t, functor("f", variables(math.MinInt, 0, math.MinInt+4, math.MinInt+5, math.MaxInt)...), -5, functor("f", variables(math.MinInt, -5, math.MinInt+4, math.MinInt, math.MaxInt-5)...))
	for _, v := range append([]int{0, 1, 2, 5, math.MaxInt / 2, math.MinInt / 2}, noVars...) {
		for _, k := range append(shifts, noVars...) {
			checkShift(t, variable(v), k, wantShift(variables(v), k)[0])
		}
	}
}

// What a term does not use stays as it is, and variables in it are none of the term.
func TestP9_1Fields(t *testing.T) {
	shifted := filled(variable(3))
	shifted.Int = 8
	checkShift(t, filled(variable(3)), 5, shifted)
	checkShift(t, functor("g", filled(variable(3)), filled(number(1)), variable(3)), 5, functor("g", shifted, filled(number(1)), variable(8)))
	checkShift(t, filled(functor("f", variable(0), filled(variable(3)))), 5, filled(functor("f", variable(5), shifted)))
	for _, x := range []api.Term{filled(number(3)), filled(functor("a")), {Kind: api.TInt, Int: 2, Args: variables(2)}, {Kind: api.TInt, Args: []api.Term{functor("f", variables(1, 2)...)}}} {
		for _, k := range shifts {
			checkShift(t, x, k, x)
		}
	}
	for _, kind := range unknownKinds {
		for _, x := range []api.Term{unknown(kind), {Kind: kind}, {Kind: kind, Int: 3, Name: "V0"}, filled(unknown(kind))} {
			for _, k := range shifts {
				checkShift(t, x, k, x)
			}
			checkShift(t, functor("f", x, variable(1)), 4, functor("f", x, variable(5)))
		}
	}
}

func TestP9_1Rules(t *testing.T) {
	x, y := functor("f", variables(0, 1, 0)...), functor("f", variables(4, 5, 4)...)
	for _, z := range [][2]api.Rule{
		{{}, {}},
		{{Name: "a", Vars: 2}, {Name: "a", Vars: 2}},
		{{Name: "a", Vars: -7, Keep: []api.Atom{}, Remove: []api.Atom{}, Guard: []api.Goal{}, Body: []api.Goal{}}, {Name: "a", Vars: -7}},
		{{Vars: 2, Keep: []api.Atom{atom("p", x, variable(2)), atom("q")}}, {Vars: 2, Keep: []api.Atom{atom("p", y, variable(6)), atom("q")}}},
		{{Vars: 2, Remove: []api.Atom{atom("p"), atom("q", variable(2), x)}}, {Vars: 2, Remove: []api.Atom{atom("p"), atom("q", variable(6), y)}}},
		{{Vars: 2, Guard: []api.Goal{goal(api.OpTrue), goal(api.OpLess, x, variable(2))}}, {Vars: 2, Guard: []api.Goal{goal(api.OpTrue), goal(api.OpLess, y, variable(6))}}},
		{{Vars: 2, Body: []api.Goal{call("p", x, variable(2)), goal(api.OpFail)}}, {Vars: 2, Body: []api.Goal{call("p", y, variable(6)), goal(api.OpFail)}}},
		{
			{Name: "R", Vars: 4, Keep: []api.Atom{atom("p", variable(0), x)}, Remove: []api.Atom{atom("q", variable(1)), atom("q", variable(0))}, Guard: []api.Goal{goal(api.OpInt, variable(1))}, Body: []api.Goal{goal(api.OpIs, variable(2), functor("+", variable(1), number(1))), call("p", variable(3))}},
			{Name: "R", Vars: 4, Keep: []api.Atom{atom("p", variable(4), y)}, Remove: []api.Atom{atom("q", variable(5)), atom("q", variable(4))}, Guard: []api.Goal{goal(api.OpInt, variable(5))}, Body: []api.Goal{goal(api.OpIs, variable(6), functor("+", variable(5), number(1))), call("p", variable(7))}},
		},
		// A rule without variables, and with numbers beyond its own.
		{{Vars: 1, Keep: []api.Atom{atom("p", number(1))}, Body: []api.Goal{call("p", functor("a"))}}, {Vars: 1, Keep: []api.Atom{atom("p", number(1))}, Body: []api.Goal{call("p", functor("a"))}}},
		{{Vars: 1, Keep: []api.Atom{atom("p", variables(9, -9, math.MaxInt)...)}}, {Vars: 1, Keep: []api.Atom{atom("p", variables(13, -5, math.MaxInt)...)}}},
	} {
		checkShiftRule(t, roomyRule(z[0]), 4, z[1])
		checkShiftRule(t, z[0], 4, z[1])
		checkShiftRule(t, z[0], 0, z[0])
		checkBack(t, z[0], 4)
		checkBack(t, z[0], -11)
	}
}

// A rule keeps everything but its variables, also what is not valid.
func TestP9_1InvalidRules(t *testing.T) {
	for _, name := range []string{"", "p", "P", "+", "true", "V0"} {
		for _, n := range []int{0, 1, -1, api.MaxVar + 1, math.MaxInt, math.MinInt} {
			for op := -2; op < 16; op++ {
				r := api.Rule{Name: name, Vars: n, Keep: []api.Atom{atom(name, variable(1))}, Remove: []api.Atom{atom(name, variable(2))}, Guard: []api.Goal{{Op: op, Name: name, Args: variables(3, 4, 5)}}, Body: []api.Goal{{Op: op, Name: name, Args: variables(6)}, goal(op)}}
				want := api.Rule{Name: name, Vars: n, Keep: []api.Atom{atom(name, variable(2))}, Remove: []api.Atom{atom(name, variable(3))}, Guard: []api.Goal{{Op: op, Name: name, Args: variables(4, 5, 6)}}, Body: []api.Goal{{Op: op, Name: name, Args: variables(7)}, goal(op)}}
				checkShiftRule(t, r, 1, want)
				checkBack(t, r, 1)
			}
		}
	}
}

func TestP9_1Small(t *testing.T) {
	for _, x := range append(smallTerms(3), invalidTerms()...) {
		for _, k := range shifts {
			checkShift(t, x, k, wantShift([]api.Term{x}, k)[0])
			checkBack(t, api.Rule{Guard: []api.Goal{goal(api.OpInt, x)}}, k)
		}
	}
}

func TestP9_1Random(t *testing.T) {
	g := newMaker(1)
	for range 20000 {
		x, k := roomy(g.term(4)), g.shift()
		checkShift(t, x, k, wantShift([]api.Term{x}, k)[0])
		r := roomyRule(g.rule())
		checkShiftRule(t, r, k, wantShiftRule(r, k))
		checkBack(t, r, k)
	}
}

// A list that stands in an argument at several places is several lists in the result.
func TestP9_1Shared(t *testing.T) {
	args := variables(0, 1)
	x := functor("f", functor("g", args...), functor("g", args...), api.Term{Kind: api.TInt, Args: args})
	checkShift(t, x, 2, functor("f", functor("g", variables(2, 3)...), functor("g", variables(2, 3)...), api.Term{Kind: api.TInt, Args: args}))
	checkShiftRule(t, api.Rule{Keep: []api.Atom{atom("p", args...)}, Remove: []api.Atom{atom("p", args...)}, Guard: []api.Goal{call("p", args...)}, Body: []api.Goal{call("p", args...)}}, -2,
		api.Rule{Keep: []api.Atom{atom("p", variables(-2, -1)...)}, Remove: []api.Atom{atom("p", variables(-2, -1)...)}, Guard: []api.Goal{call("p", variables(-2, -1)...)}, Body: []api.Goal{call("p", variables(-2, -1)...)}})
}

func TestP9_1Large(t *testing.T) {
	const levels, many = 1<<16 - 3, 300000
	got := Shift(high(levels, functor("f", variable(1), number(1))), 6)
	if !equal(got, high(levels, functor("f", variable(7), number(1)))) {
		t.Error("a deep term becomes another one")
	}
	got = Shift(wide(many, variable), -5)
	if !equal(got, wide(many, func(i int) api.Term { return variable(i - 5) })) {
		t.Error("a wide term becomes another one")
	}
}
