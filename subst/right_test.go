package subst

import (
	"math"
	"regexp"
	"slices"
	"testing"

	"constraint/api"
)

var word = regexp.MustCompile(`^[a-z][a-zA-Z0-9_]{0,39}$`)

// wantValid is the validity of a term as the document defines it. Only terms of tests, which are not too large, are
// measured as a whole.
func wantValid(t api.Term) bool {
	nodes, deepest := 0, 0
	var visit func(t api.Term, depth int) bool
	visit = func(t api.Term, depth int) bool {
		nodes++
		deepest = max(deepest, depth)
		switch t.Kind {
		case api.TInt:
			return t.Name == "" && len(t.Args) == 0 && -1<<31 <= t.Int && t.Int <= 1<<31
		case api.TVar:
			return t.Name == "" && len(t.Args) == 0 && 0 <= t.Int && t.Int <= 1<<20
		case api.TFun:
			isName := word.MatchString(t.Name) && !slices.Contains(reserved, t.Name) && len(t.Args) <= 6
			isOperator := slices.Contains(operators, t.Name) && len(t.Args) == 2
			ok := t.Int == 0 && (isName || isOperator)
			for _, arg := range t.Args {
				ok = visit(arg, depth+1) && ok
			}
			return ok
		}
		return false
	}
	return visit(t, 1) && nodes <= 200 && deepest <= 20
}

// wantOccurs reports whether a variable is in a term, in any way.
func wantOccurs(v int, t api.Term) bool {
	return t.Kind == api.TVar && t.Int == v || t.Kind == api.TFun && slices.ContainsFunc(t.Args, func(arg api.Term) bool { return wantOccurs(v, arg) })
}

// wantRight compares each binding with each other one.
func wantRight(b api.Binds) bool {
	for i, x := range b {
		if x.Var < 0 || x.Var > 1<<20 || !wantValid(x.Term) {
			return false
		}
		for j, y := range b {
			if i < j && x.Var >= y.Var || wantOccurs(x.Var, y.Term) {
				return false
			}
		}
	}
	return true
}

func checkRight(t *testing.T, b api.Binds, want bool) {
	t.Helper()
	defer watch(t, b)()
	if got := Right(b); got != want {
		t.Errorf("Right(%s) = %v", short(b), got)
	}
}

func TestP6_1Table(t *testing.T) {
	v := variable
	for _, x := range []struct {
		b    api.Binds
		want bool
	}{
		{nil, true}, {api.Binds{}, true},
		{api.Binds{bind(0, functor("f", v(1))), bind(2, v(1))}, true},
		{api.Binds{bind(0, v(1)), bind(1, number(3))}, false},
		{api.Binds{bind(0, number(3))}, true}, {api.Binds{bind(0, functor("a"))}, true}, {api.Binds{bind(7, v(0))}, true}, {api.Binds{bind(0, v(7))}, true},
		{api.Binds{bind(0, functor("+", v(3), functor("f", v(4), v(3)))), bind(1, v(3)), bind(2, number(-5))}, true},
		// the order of the variables
		{api.Binds{bind(1, number(3)), bind(0, number(3))}, false}, {api.Binds{bind(0, number(3)), bind(2, number(3)), bind(1, number(3))}, false},
		{api.Binds{bind(5, number(3)), bind(1, number(3)), bind(2, number(3))}, false}, {api.Binds{bind(0, number(3)), bind(1, number(3)), bind(2, number(3))}, true},
		// two bindings of a variable
		{api.Binds{bind(1, number(3)), bind(1, number(3))}, false}, {api.Binds{bind(1, v(0)), bind(1, v(0))}, false},
		{api.Binds{bind(0, number(3)), bind(1, v(2)), bind(1, number(4))}, false}, {api.Binds{bind(0, number(3)), bind(1, v(2)), bind(0, number(3))}, false},
		// a variable in its own term, or in another one
		{api.Binds{bind(0, v(0))}, false}, {api.Binds{bind(0, functor("f", v(0)))}, false}, {api.Binds{bind(3, functor("f", v(2), functor("-", number(1), v(3))))}, false},
		{api.Binds{bind(0, number(3)), bind(1, v(0))}, false}, {api.Binds{bind(0, v(1)), bind(1, v(0))}, false},
		{api.Binds{bind(0, functor("f", number(1), functor("g", v(4)), v(2))), bind(1, v(4)), bind(2, v(3))}, false},
		{api.Binds{bind(0, v(9)), bind(1, v(9)), bind(2, functor("f", functor("f", v(1))))}, false},
		{api.Binds{bind(0, v(9)), bind(1, v(9)), bind(2, functor("f", functor("f", v(3))))}, true},
		{api.Binds{bind(0, v(9)), bind(1, v(9)), bind(2, functor("f", functor("f", v(9)), v(2)))}, false},
		// not a variable, although its number is bound
		{api.Binds{bind(0, number(1)), bind(1, number(0))}, true}, {api.Binds{bind(3, functor("f", number(3)))}, true},
	} {
		checkRight(t, x.b, x.want)
		checkRight(t, roomy(x.b), x.want)
	}
}

func TestP6_1Variables(t *testing.T) {
	for _, v := range []int{0, 1, 2, api.MaxVar - 1, api.MaxVar} {
		checkRight(t, api.Binds{bind(v, number(1))}, true)
		checkRight(t, api.Binds{bind(7, variable(v))}, true)
	}
	checkRight(t, api.Binds{bind(0, variable(api.MaxVar-1)), bind(api.MaxVar, variable(api.MaxVar-1))}, true)
	checkRight(t, api.Binds{bind(0, variable(api.MaxVar)), bind(api.MaxVar, number(1))}, false)
	for _, v := range noVars {
		checkRight(t, api.Binds{bind(v, number(1))}, false)
		checkRight(t, api.Binds{bind(v, number(1)), bind(5, number(1))}, false)
		checkRight(t, api.Binds{bind(5, number(1)), bind(v, number(1))}, false)
	}
	checkRight(t, api.Binds{bind(math.MinInt, number(1)), bind(math.MaxInt, number(1))}, false)
}

func TestP6_1Terms(t *testing.T) {
	for _, x := range invalidTerms() {
		for _, b := range []api.Binds{
			{bind(0, x)}, {bind(1, functor("g", number(1), x))}, {bind(0, x), bind(1, number(1))},
			{bind(0, number(1)), bind(1, x)}, {bind(0, variable(3)), bind(1, x), bind(2, variable(3))},
		} {
			checkRight(t, b, false)
		}
	}
	for _, x := range []api.Term{wide(api.MaxNodes, variable(1)), high(api.MaxDepth-1, variable(1)), number(api.MaxInt), number(-api.MaxInt)} {
		checkRight(t, api.Binds{bind(0, x)}, true)
		checkRight(t, api.Binds{bind(0, x), bind(2, x), bind(3, x)}, true)
	}
	checkRight(t, api.Binds{bind(0, wide(api.MaxNodes+1, variable(1)))}, false)
	checkRight(t, api.Binds{bind(0, high(api.MaxDepth, variable(1)))}, false)
	checkRight(t, api.Binds{bind(1, high(api.MaxDepth-1, variable(1)))}, false)
}

// Bindings are too many here to compare each one with each other one.
func TestP6_1Many(t *testing.T) {
	var b api.Binds
	for v := range 300000 {
		b = append(b, bind(v, variable(api.MaxVar)))
	}
	last := len(b) - 1
	for _, x := range []struct {
		at   int
		term api.Term
		want bool
	}{
		{0, number(0), true}, {0, variable(last), false}, {0, functor("f", variable(last/2)), false}, {0, variable(0), false}, {last, variable(0), false}, {last, variable(last), false},
		{last / 2, variable(last - 1), false}, {last / 3, variable(1), false}, {last, variable(api.MaxVar + 1), false},
	} {
		before := b[x.at]
		b[x.at].Term = x.term
		if got := Right(b); got != x.want {
			t.Errorf("Right of many bindings, %v at %d, is %v", x.term, x.at, got)
		}
		b[x.at] = before
	}
	if b = append(b, bind(api.MaxVar, number(1))); Right(b) || !Right(b[:last+1]) || !Right(b[5:last+1]) {
		t.Error("Right of many bindings")
	}
	if b[9].Var = 8; Right(b[:last+1]) {
		t.Error("Right of many bindings, two of them of one variable")
	}
}

// smallTerms returns terms with variables below a number.
func smallTerms(vars int) []api.Term {
	list := []api.Term{number(1), functor("a")}
	for v := range vars {
		list = append(list, variable(v), functor("f", variable(v)), functor("f", number(0), functor("g", variable(v))))
	}
	return list
}

// lists returns all lists with at most a length of some bindings.
func lists(length int, bindings []api.Bind) []api.Binds {
	all := []api.Binds{nil}
	last := all
	for range length {
		var next []api.Binds
		for _, b := range last {
			for _, x := range bindings {
				next = append(next, append(slices.Clip(b), x))
			}
		}
		all = append(all, next...)
		last = next
	}
	return all
}

func TestP6_1All(t *testing.T) {
	var bindings []api.Bind
	for v := range 3 {
		for _, x := range smallTerms(3) {
			bindings = append(bindings, bind(v, x))
		}
	}
	bindings = append(bindings, bind(-1, number(1)), bind(0, functor("A")), bind(2, unknown(3)))
	for _, b := range lists(3, bindings) {
		checkRight(t, b, wantRight(b))
	}
}

func TestP6_1Random(t *testing.T) {
	g := newMaker(1)
	right := 0
	for i := range 60000 {
		g.valid = i%4 > 0
		b := g.binds(6, 4)
		want := wantRight(b)
		checkRight(t, b, want)
		if want {
			right++
		}
		checkRight(t, g.solved(5), true)
	}
	if right < 5000 {
		t.Errorf("only %d of the random substitutions are in solved form", right)
	}
}
