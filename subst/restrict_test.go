package subst

import (
	"math"
	"slices"
	"strings"
	"testing"

	"constraint/api"
)

func wantRestrict(b api.Binds, vars []int) api.Binds {
	return slices.DeleteFunc(copyBinds(b), func(x api.Bind) bool { return !slices.Contains(vars, x.Var) })
}

// checkRestrict overwrites the result before it looks whether the arguments are as before.
func checkRestrict(t *testing.T, b api.Binds, vars []int, want api.Binds) {
	t.Helper()
	defer watch(t, b)()
	before := slices.Clone(vars[:cap(vars)])
	got := Restrict(b, vars)
	if !equalBinds(got, want) {
		t.Errorf("Restrict(%s, %s) = %s, not %s", short(b), short(vars), short(got), short(want))
	}
	scribbleBinds(got)
	if !slices.Equal(vars[:cap(vars)], before) {
		t.Errorf("the variables %s were changed to %s", short(before), short(vars))
	}
}

func TestP6_5Restrict(t *testing.T) {
	b := api.Binds{bind(0, functor("f", variable(1))), bind(2, variable(1)), bind(5, number(2)), bind(api.MaxVar, functor("a"))}
	for _, x := range []struct {
		b    api.Binds
		vars []int
		want api.Binds
	}{
		{b, []int{5, 2}, b[1:3]}, {b, []int{0}, b[:1]}, {b, []int{api.MaxVar}, b[3:]}, {b, []int{0, 2, 5, api.MaxVar}, b}, {b, []int{api.MaxVar, 5, 2, 0}, b},
		// no variable, repeated ones, and ones that are not bound
		{b, nil, nil}, {b, []int{}, nil}, {b, []int{2, 2, 2}, b[1:2]}, {b, []int{5, 0, 5, 0}, api.Binds{b[0], b[2]}}, {b, []int{1}, nil}, {b, []int{1, 3, 4, api.MaxVar - 1}, nil},
		{b, []int{1, 2, 3}, b[1:2]}, {b, noVars, nil}, {b, append(slices.Clone(noVars), 0), b[:1]}, {nil, nil, nil}, {nil, []int{0, 1}, nil}, {api.Binds{}, []int{0, -1}, nil},
		// lists that are not in solved form
		{api.Binds{bind(3, number(1)), bind(1, number(2)), bind(2, number(3)), bind(1, number(4)), bind(3, number(5))}, []int{1, 3}, api.Binds{bind(3, number(1)), bind(1, number(2)), bind(1, number(4)), bind(3, number(5))}},
		{api.Binds{bind(1, number(1)), bind(1, number(1))}, []int{1}, api.Binds{bind(1, number(1)), bind(1, number(1))}}, {loose(), []int{9, -1, math.MaxInt}, api.Binds{loose()[0], loose()[2], loose()[5], loose()[6]}},
		{loose(), []int{math.MinInt, 2, api.MaxVar + 1, 2}, api.Binds{loose()[8], loose()[9], loose()[12]}}, {loose(), []int{4, 3, -2}, api.Binds{loose()[1], loose()[3], loose()[13]}},
	} {
		checkRestrict(t, x.b, x.vars, x.want)
		checkRestrict(t, roomy(x.b), append(make([]int, 0, 9), x.vars...), x.want)
	}
}

func TestP6_5RestrictMany(t *testing.T) {
	const count = 200000
	var b, want api.Binds
	var vars []int
	for i := range count {
		b = append(b, bind(i, variable(i)))
		vars = append(vars, 2*count-2*i)
		if i > 0 && i%2 == 0 {
			want = append(want, b[i])
		}
	}
	checkRestrict(t, b, vars, want)
}

func TestP6_5RestrictSolved(t *testing.T) {
	g := newMaker(8)
	for i := range 30000 {
		b := g.solved(1 + i%4)
		if i%3 == 0 {
			g.valid = false
			b = g.binds(8, 3)
		}
		var vars []int
		for range g.random.IntN(5) {
			vars = append(vars, g.variable())
		}
		got := Restrict(b, vars)
		if Right(b) && !Right(got) {
			t.Errorf("the restriction %v of %v is not in solved form", got, b)
		}
		checkRestrict(t, b, vars, wantRestrict(b, vars))
	}
}

func checkSame(t *testing.T, a, c api.Binds, want bool) {
	t.Helper()
	defer watch(t, a, c)()
	if got, back := Same(a, c), Same(c, a); got != want || back != want {
		t.Errorf("Same(%s, %s) = %v, and the other way round %v", short(a), short(c), got, back)
	}
}

func TestP6_5Same(t *testing.T) {
	v, n, f := variable, number, functor
	type binds = api.Binds
	list := []binds{
		nil, {bind(0, n(1))}, {bind(0, n(2))}, {bind(1, n(1))}, {bind(-1, n(1))}, {bind(0, v(1))}, {bind(0, f("a"))}, {bind(0, f("b"))}, {bind(0, f("a", n(1)))}, {bind(0, f("a", v(1)))},
		{bind(0, n(1)), bind(0, n(1))}, {bind(0, n(1)), bind(1, n(1))}, {bind(1, n(1)), bind(0, n(1))}, {bind(0, n(1)), bind(0, n(2))}, {bind(0, n(2)), bind(0, n(1))},
		{bind(0, n(1)), bind(1, n(1)), bind(2, n(1))}, {bind(0, n(1)), bind(1, n(2)), bind(2, n(1))}, {bind(0, n(1)), bind(1, n(1)), bind(2, n(2))}, {bind(0, n(1)), bind(1, n(1)), bind(3, n(1))},
		{bind(0, api.Term{Kind: 3})}, {bind(0, api.Term{Kind: 4})}, {bind(0, api.Term{Kind: 3, Int: 1})}, {bind(0, api.Term{Kind: 3, Name: "a"})}, {bind(math.MaxInt, v(-1))}, {bind(math.MinInt, v(-1))}, loose(), loose()[1:],
		{bind(0, f("+", f("f", v(1), n(1)), n(2)))}, {bind(0, f("+", f("f", v(2), n(1)), n(2)))}, {bind(0, f("+", f("f", v(1), n(1)), n(3)))}, {bind(0, f("-", f("f", v(1), n(1)), n(2)))},
	}
	for i, a := range list {
		for j, c := range list {
			checkSame(t, a, roomy(c), i == j)
		}
	}
	checkSame(t, nil, binds{}, true)
	// Fields that a term does not use do not count.
	for _, x := range []api.Term{n(1), v(1), f("a"), f("f", v(1), n(2)), {Kind: 3, Int: 1, Name: "f"}, {Kind: -1}} {
		y := x
		if x.Kind == api.TFun {
			y.Int = 7
		} else {
			y.Args = []api.Term{v(0)}
		}
		checkSame(t, binds{bind(0, x)}, binds{bind(0, y)}, true)
		checkSame(t, binds{bind(0, n(1)), bind(0, f("f", x))}, binds{bind(0, n(1)), bind(0, f("f", y))}, true)
		checkSame(t, binds{bind(0, x)}, binds{bind(0, y), bind(0, y)}, false)
		checkSame(t, binds{bind(0, x)}, binds{bind(1, y)}, false)
	}
	checkSame(t, binds{bind(0, n(1))}, binds{bind(0, api.Term{Kind: api.TInt, Int: 1, Name: "a"})}, true)
	checkSame(t, binds{bind(0, f("a"))}, binds{bind(0, api.Term{Kind: api.TFun, Name: "a", Args: []api.Term{}})}, true)
}

// usedText writes what a term uses.
func usedText(t api.Term) string {
	switch t.Kind {
	case api.TInt, api.TVar:
		return short(api.Term{Kind: t.Kind, Int: t.Int})
	case api.TFun:
		var args []string
		for _, arg := range t.Args {
			args = append(args, usedText(arg))
		}
		return "[" + t.Name + "](" + strings.Join(args, ",") + ")"
	}
	return short(api.Term{Kind: t.Kind, Int: t.Int, Name: t.Name})
}

func TestP6_5SameRandom(t *testing.T) {
	g := newMaker(9)
	g.vars = 2
	same := 0
	for range 60000 {
		a, c := g.binds(3, 2), g.binds(3, 2)
		want := slices.EqualFunc(a, c, func(x, y api.Bind) bool { return x.Var == y.Var && usedText(x.Term) == usedText(y.Term) })
		checkSame(t, a, c, want)
		checkSame(t, a, copyBinds(a), true)
		if want {
			same++
		}
	}
	if same < 2000 {
		t.Errorf("only %d pairs of random substitutions are equal", same)
	}
}
