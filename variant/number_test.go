package variant

import (
	"math"
	"slices"
	"testing"

	"constraint/api"
	"constraint/subst"
	"constraint/term"
)

// checkNumber numbers terms. The check that arguments are as before comes after the result was overwritten, which they
// would share.
func checkNumber(t *testing.T, list, want []api.Term, wantVars []int) {
	t.Helper()
	defer watch(t, list)()
	m, vars := Number(list)
	if !equalTerms(m, want) || !slices.Equal(vars, wantVars) {
		t.Errorf("Number(%s) = %s, %s, not %s, %s", short(list), short(m), short(vars), short(want), short(wantVars))
	}
	memory{}.check(t, m)
	checkNumbered(t, list)
	scribble(m)
}

// checkNumbered checks that the result of Number is numbered already, and that replacing its variables restores the terms.
func checkNumbered(t *testing.T, list []api.Term) {
	t.Helper()
	m, vars := Number(list)
	again, numbers := Number(m)
	if !equalTerms(again, m) || len(numbers) != len(vars) {
		t.Errorf("Number(%s) = %s, %s", short(m), short(again), short(numbers))
	}
	var b api.Binds
	for i, v := range vars {
		if i >= len(numbers) || numbers[i] != i {
			t.Errorf("the variable %d of %s has the number %s", i, short(m), short(numbers))
		}
		b = append(b, api.Bind{Var: i, Term: variable(v)})
	}
	for i, x := range m {
		if back := subst.Apply(b, x); !term.Same(back, list[i]) {
			t.Errorf("%s becomes %s, not %s", short(x), short(back), short(list[i]))
		}
	}
	for _, at := range wantNodes(m) {
		if at.Kind == api.TVar {
			at.Int = vars[at.Int]
		}
	}
	if !equalTerms(m, list) {
		t.Errorf("the terms are %s, not %s", short(m), short(list))
	}
}

func checkTop(t *testing.T, list []api.Term, want int) {
	t.Helper()
	defer watch(t, list)()
	if got := Top(list); got != want {
		t.Errorf("Top(%s) = %d, not %d", short(list), got, want)
	}
}

func TestP9_2NumberTable(t *testing.T) {
	for _, x := range []struct {
		list, want string
		vars       []int
	}{
		{"f(V5, V2); V5", "f(V0, V1); V0", []int{5, 2}},
		{"", "", nil},
		{"3", "3", nil},
		{"a; f(b, 1); -2", "a; f(b, 1); -2", nil},
		{"V0", "V0", []int{0}},
		{"V9", "V0", []int{9}},
		{"V1048576", "V0", []int{api.MaxVar}},
		{"V0; V1; V2", "V0; V1; V2", []int{0, 1, 2}},
		{"V2; V1; V0", "V0; V1; V2", []int{2, 1, 0}},
		{"V1; V0; V1; V1; V0", "V0; V1; V0; V0; V1", []int{1, 0}},
		{"V3; V3; V3", "V0; V0; V0", []int{3}},
		{"f(V3, g(V3), V3)", "f(V0, g(V0), V0)", []int{3}},
		{"V7; f(V8, V7); g(V9, h(V8))", "V0; f(V1, V0); g(V2, h(V1))", []int{7, 8, 9}},
		// From left to right, and not level by level.
		{"f(g(V4), V3)", "f(g(V0), V1)", []int{4, 3}},
		{"f(V3, g(V4))", "f(V0, g(V1))", []int{3, 4}},
		{"f(g(h(V2), V6), V1); V6", "f(g(h(V0), V1), V2); V1", []int{2, 6, 1}},
		{"f(g(V1, V0), V0, V1)", "f(g(V0, V1), V1, V0)", []int{1, 0}},
		{"V2 - V1 * V0", "V0 - V1 * V2", []int{2, 1, 0}},
		{"1; V1; 0; V0", "1; V0; 0; V1", []int{1, 0}},
	} {
		list, want := read(t, x.list), read(t, x.want)
		checkNumber(t, roomyTerms(list), want, x.vars)
		m, vars := wantNumber(list)
		checkNumber(t, list, m, vars)
	}
	checkNumber(t, []api.Term{}, nil, nil)
}

func TestP9_2NumberBeyondVariables(t *testing.T) {
	checkNumber(t, variables(-1, 0, -1, -2), variables(0, 1, 0, 2), []int{-1, 0, -2})
	checkNumber(t, variables(math.MinInt, math.MaxInt, math.MinInt+1, math.MaxInt-1, math.MaxInt), variables(0, 1, 2, 3, 1), []int{math.MinInt, math.MaxInt, math.MinInt + 1, math.MaxInt - 1})
	checkNumber(t, []api.Term{functor("f", variables(math.MaxInt, api.MaxVar+1)...), variable(api.MaxVar + 1), variable(1 << 32), variable(0)}, []api.Term{functor("f", variables(0, 1)...), variable(1), variable(2), variable(3)}, []int{math.MaxInt, api.MaxVar + 1, 1 << 32, 0})
}

// What a term does not use stays as it is, and variables in it are none of the term.
func TestP9_2NumberFields(t *testing.T) {
	x, y := filled(variable(3)), filled(variable(0))
	checkNumber(t, []api.Term{x, variable(6), variable(3)}, []api.Term{y, variable(1), variable(0)}, []int{3, 6})
	checkNumber(t, []api.Term{filled(number(3)), variable(6)}, []api.Term{filled(number(3)), variable(0)}, []int{6})
	checkNumber(t, []api.Term{filled(functor("f", x, variable(1))), variable(1)}, []api.Term{filled(functor("f", y, variable(1))), variable(1)}, []int{3, 1})
	for _, kind := range unknownKinds {
		for _, z := range []api.Term{unknown(kind), {Kind: kind, Int: 7}, {Kind: kind, Int: 7, Name: "V7", Args: variables(7, 8)}} {
			checkNumber(t, []api.Term{z, functor("f", z, variable(7)), variable(0)}, []api.Term{z, functor("f", z, variable(0)), variable(1)}, []int{7, 0})
		}
	}
}

func TestP9_2NumberSmall(t *testing.T) {
	for _, list := range smallLists() {
		m, vars := wantNumber(list)
		checkNumber(t, list, m, vars)
	}
	for _, x := range append(smallTerms(3), invalidTerms()...) {
		for _, list := range [][]api.Term{{x}, {variable(1), x}, {x, variable(1), x}} {
			m, vars := wantNumber(list)
			checkNumber(t, list, m, vars)
		}
	}
}

func TestP9_2Random(t *testing.T) {
	g := newMaker(2)
	renamed := 0
	for range 30000 {
		list := roomyTerms(g.list(5))
		m, vars := wantNumber(list)
		checkNumber(t, list, m, vars)
		checkTop(t, list, wantTop(list))
		if len(vars) > 2 && !equalTerms(m, list) {
			renamed++
		}
	}
	if renamed < 3000 {
		t.Errorf("%d lists were renamed", renamed)
	}
}

// A list that stands in the arguments at several places is several lists in the result.
func TestP9_2NumberShared(t *testing.T) {
	args := variables(4, 1)
	checkNumber(t, []api.Term{functor("f", args...), functor("f", args...)}, []api.Term{functor("f", variables(0, 1)...), functor("f", variables(0, 1)...)}, []int{4, 1})
	m, vars := Number(args)
	scribble(m)
	vars = vars[:cap(vars)]
	for i := range vars {
		vars[i] = 98
	}
	checkNumber(t, args, variables(0, 1), []int{4, 1})
}

// Many variables, which would take too long if each one were looked for in a list.
func TestP9_2Large(t *testing.T) {
	const levels, many = 1<<16 - 3, 300000
	list := []api.Term{wide(many, func(i int) api.Term { return variable(i * 7919 % many) }), wide(many, variable)}
	m, vars := Number(list)
	if len(m) != 2 || len(vars) != many || Top(list) != many {
		t.Fatalf("%d terms, %d variables, below %d", len(m), len(vars), Top(list))
	}
	for i, v := range vars {
		if v != i*7919%many || !equal(m[0].Args[i], variable(i)) || !equal(m[1].Args[v], variable(i)) {
			t.Fatalf("the variable %d was %d", i, v)
		}
	}
	deep := high(levels, functor("f", variables(8, 3, 8)...))
	m, vars = Number([]api.Term{deep, variable(3)})
	if !equalTerms(m, []api.Term{high(levels, functor("f", variables(0, 1, 0)...)), variable(1)}) || !slices.Equal(vars, []int{8, 3}) || Top([]api.Term{deep}) != 9 {
		t.Error("a deep term has other variables")
	}
}

func TestP9_2TopTable(t *testing.T) {
	for _, x := range []struct {
		list string
		want int
	}{
		{"V4; f(V1)", 5},
		{"7", 0},
		{"", 0},
		{"a; f(b, 1); -2", 0},
		{"V0", 1},
		{"V1; V4", 5},
		{"V4; V1", 5},
		{"f(V4, V1); V2; g(3)", 5},
		{"f(V1, g(V6, V2)); V2", 7},
		{"V0 + V1 * V2", 3},
		{"V1048576; V3", api.MaxVar + 1},
		{"f(9, V2)", 3},
	} {
		list := read(t, x.list)
		checkTop(t, roomyTerms(list), x.want)
		checkTop(t, list, wantTop(list))
	}
	checkTop(t, []api.Term{}, 0)
}

func TestP9_2TopBeyondVariables(t *testing.T) {
	for _, x := range []struct {
		vars []int
		want int
	}{
		{[]int{-1}, 0}, {[]int{-5, -2}, 0}, {[]int{math.MinInt}, 0}, {[]int{math.MinInt, -1}, 0}, {[]int{-3, 0}, 1}, {[]int{-3, 8, -3}, 9},
		{[]int{api.MaxVar + 1}, api.MaxVar + 2}, {[]int{1 << 32, 3}, 1<<32 + 1}, {[]int{math.MaxInt - 1}, math.MaxInt}, {[]int{math.MaxInt - 2, 1}, math.MaxInt - 1},
		{[]int{math.MaxInt}, math.MaxInt}, {[]int{math.MaxInt, 1}, math.MaxInt}, {[]int{1, math.MaxInt}, math.MaxInt}, {[]int{math.MaxInt, math.MaxInt - 1}, math.MaxInt}, {[]int{math.MinInt, math.MaxInt, 0}, math.MaxInt},
	} {
		checkTop(t, variables(x.vars...), x.want)
		checkTop(t, []api.Term{number(3), functor("f", variables(x.vars...)...)}, x.want)
	}
}

func TestP9_2TopFields(t *testing.T) {
	checkTop(t, []api.Term{filled(number(30))}, 0)
	checkTop(t, []api.Term{filled(variable(3))}, 4)
	checkTop(t, []api.Term{filled(functor("f", filled(variable(3)), filled(number(7))))}, 4)
	for _, kind := range unknownKinds {
		checkTop(t, []api.Term{unknown(kind), {Kind: kind, Int: 9}}, 0)
		checkTop(t, []api.Term{functor("f", unknown(kind), variable(2))}, 3)
	}
}

func TestP9_2TopSmall(t *testing.T) {
	for _, list := range smallLists() {
		checkTop(t, list, wantTop(list))
	}
	for _, x := range append(smallTerms(3), invalidTerms()...) {
		checkTop(t, []api.Term{x}, wantTop([]api.Term{x}))
		checkTop(t, []api.Term{variable(1), x}, wantTop([]api.Term{variable(1), x}))
	}
}
