package arith

import (
	"reflect"
	"slices"
	"testing"

	"constraint/api"
)

// wantFold is Fold as the document defines it, from the outermost subterm to the innermost ones.
func wantFold(t api.Term) api.Term {
	if n, e := wantEval(t); e == api.OK {
		return number(n)
	}
	if t.Kind != api.TFun {
		return copyOf(t)
	}
	var args []api.Term
	for _, arg := range t.Args {
		args = append(args, wantFold(arg))
	}
	t.Args = args
	return t
}

// wantExpr is Expr by another way: it removes all variables that are operands, and looks for other terms.
func wantExpr(t api.Term) bool {
	todo := []api.Term{t}
	for i := 0; i < len(todo); i++ {
		switch x := todo[i]; {
		case x.Kind == api.TInt, x.Kind == api.TVar && i > 0:
		case x.Kind == api.TFun && len(x.Args) == 2 && slices.Contains(operators, x.Name):
			todo = append(todo, x.Args...)
		default:
			return false
		}
	}
	return true
}

func checkUnchanged(t *testing.T, x, before api.Term) {
	t.Helper()
	if !equal(x, before) {
		t.Errorf("the argument %s was changed to %s", short(before), short(x))
	}
}

// equal compares all fields of two terms, also those that are not used. An empty list may be nil.
func equal(a, b api.Term) bool {
	if len(a.Args) == 0 && len(b.Args) == 0 {
		a.Args, b.Args = nil, nil
		return reflect.DeepEqual(a, b)
	}
	return a.Kind == b.Kind && a.Int == b.Int && a.Name == b.Name && slices.EqualFunc(a.Args, b.Args, equal)
}

func checkFold(t *testing.T, x, want api.Term) {
	t.Helper()
	before := copyOf(x)
	if got := Fold(x); !equal(got, want) {
		t.Errorf("Fold(%s) = %s, not %s", short(x), short(got), short(want))
	}
	checkUnchanged(t, x, before)
}

func TestP4_3Table(t *testing.T) {
	v, zero := variable(0), binary("/", 1, 0)
	for _, x := range []struct{ t, want api.Term }{
		{functor("f", functor("*", binary("+", 1, 2), v)), functor("f", functor("*", number(3), v))},
		{number(3), number(3)}, {v, v}, {functor("a"), functor("a")}, {binary("+", 1, 2), number(3)},
		{functor("-", binary("-", 7, 2), number(1)), number(4)},
		// folded in part
		{functor("+", v, binary("*", 2, 3)), functor("+", v, number(6))},
		{functor("+", binary("+", 1, 2), functor("-", v, binary("/", -7, 2))), functor("+", number(3), functor("-", v, number(-4)))},
		{functor("+", functor("+", v, number(1)), number(2)), functor("+", functor("+", v, number(1)), number(2))},
		{functor("+", number(1), functor("+", number(2), v)), functor("+", number(1), functor("+", number(2), v))},
		// an operator that has no value, although its operands have one
		{zero, zero}, {functor("/", binary("+", 1, 2), binary("-", 3, 3)), functor("/", number(3), number(0))},
		{functor("+", binary("+", 1, 1), zero), functor("+", number(2), zero)},
		{functor("+", number(api.MaxInt), binary("-", 2, 1)), binary("+", api.MaxInt, 1)},
		{functor("-", binary("+", api.MaxInt, 1), number(1)), functor("-", binary("+", api.MaxInt, 1), number(1))},
		{functor("*", zero, binary("%", 7, -2)), functor("*", zero, number(-1))},
		// operators and names that have no value, or another number of arguments
		{functor("-", binary("+", 1, 2)), functor("-", number(3))}, {functor("+"), functor("+")},
		{functor("+", number(1), number(2), binary("+", 3, 4)), functor("+", number(1), number(2), number(7))},
		{functor("+", binary("+", 1, 1), functor("-", number(1))), functor("+", number(2), functor("-", number(1)))},
		{functor("f", binary("+", 1, 2), binary("*", 2, 2)), functor("f", number(3), number(4))},
		{functor("f", functor("g", binary("+", 1, 2), v), functor("h", functor("k", binary("*", 5, 5)))), functor("f", functor("g", number(3), v), functor("h", functor("k", number(25))))},
		{functor("+", functor("f", binary("+", 1, 2)), binary("+", 1, 2)), functor("+", functor("f", number(3)), number(3))},
		{functor("+", functor("a"), number(1)), functor("+", functor("a"), number(1))},
		// integers that are out of range
		{functor("f", number(api.MaxInt+1), binary("+", api.MaxInt, 0)), functor("f", number(api.MaxInt+1), number(api.MaxInt))},
		{binary("-", api.MaxInt+1, 1), binary("-", api.MaxInt+1, 1)}, {binary("*", 0, api.MaxInt+1), binary("*", 0, api.MaxInt+1)},
	} {
		checkFold(t, x.t, x.want)
		checkFold(t, functor("f", v, x.t), functor("f", v, x.want))
		checkFold(t, functor("-", x.t, v), functor("-", x.want, v))
	}
}

// An integer in range is replaced, so that its unused fields are zero; other terms keep theirs.
func TestP4_3UnusedFields(t *testing.T) {
	for _, n := range atLimits {
		checkFold(t, filled(number(n)), number(n))
		checkFold(t, functor("f", filled(number(n))), functor("f", number(n)))
		checkFold(t, functor("+", filled(number(n)), filled(variable(0))), functor("+", number(n), filled(variable(0))))
	}
	for _, n := range outOfRange {
		checkFold(t, filled(number(n)), filled(number(n)))
		checkFold(t, functor("-", filled(number(n)), filled(number(1))), functor("-", filled(number(n)), number(1)))
	}
	for _, kind := range unknownKinds {
		checkFold(t, unknown(kind), unknown(kind))
		checkFold(t, filled(unknown(kind)), filled(unknown(kind)))
		checkFold(t, functor("+", filled(unknown(kind)), binary("+", 1, 2)), functor("+", filled(unknown(kind)), number(3)))
	}
	checkFold(t, filled(variable(4)), filled(variable(4)))
	checkFold(t, filled(functor("a")), filled(functor("a")))
	checkFold(t, filled(binary("+", 1, 2)), number(3))
	checkFold(t, filled(binary("/", 1, 0)), filled(binary("/", 1, 0)))
	checkFold(t, filled(functor("f", filled(binary("+", 1, 2)))), filled(functor("f", number(3))))
}

// A caller who changes the result, or appends to its arguments, does not change the argument.
func TestP4_3KeepsArguments(t *testing.T) {
	list := append(make([]api.Term, 0, 9), binary("+", 1, 2), functor("g", variable(1), binary("*", 2, 3)), variable(0))
	behind := list[:4]
	for _, x := range []api.Term{functor("f", list...), functor("+", list[1:3]...), functor("f", list[:0]...)} {
		before := copyOf(functor("k", behind...))
		got := Fold(x)
		scribble(got)
		if !equal(functor("k", behind...), before) {
			t.Errorf("changing Fold(%s) changes its argument to %s", short(before), short(behind))
		}
	}
}

// scribble overwrites the arguments of a term, and what is behind them.
func scribble(t api.Term) {
	_ = append(t.Args, number(99))
	for i := range t.Args {
		scribble(t.Args[i])
		t.Args[i] = number(98)
	}
}

func TestP4_3Wide(t *testing.T) {
	args := slices.Repeat([]api.Term{binary("+", 1, 2)}, 100000)
	want := slices.Repeat([]api.Term{number(3)}, 100000)
	checkFold(t, functor("+", args...), functor("+", want...))
	checkFold(t, functor("f", append(args, variable(0))...), functor("f", append(want, variable(0))...))
}

// Folding takes far too long here if it looks for the value of each subterm anew.
func TestP4_3Deep(t *testing.T) {
	for _, build := range []func(int, string, api.Term) api.Term{leftDeep, rightDeep} {
		for _, inner := range []api.Term{variable(0), functor("a"), binary("/", 1, 0), number(api.MaxInt + 1), unknown(9)} {
			x := build(deep, "+", inner)
			checkFold(t, x, x)
		}
		checkFold(t, build(deep, "+", binary("*", 2, 3)), number(6+deep))
		checkFold(t, functor("f", variable(0), build(deep, "+", number(0))), functor("f", variable(0), number(deep)))
	}
}

func TestP4_3Random(t *testing.T) {
	g := newMaker(4)
	for i := range 40000 {
		x := g.term(1 + i%7)
		checkFold(t, x, wantFold(x))
	}
}

func TestP4_4Table(t *testing.T) {
	v, one := variable(0), number(1)
	for _, x := range []struct {
		t    api.Term
		want bool
	}{
		{one, true}, {number(0), true}, {number(api.MaxInt + 1), true}, {number(-api.MaxInt - 1), true}, {api.Term{}, true},
		{v, false}, {variable(-1), false}, {functor("a"), false}, {functor("f", one), false}, {functor("f", one, one), false}, {functor("", one, one), false},
		{functor("+", v, one), true}, {functor("+", one, v), true}, {functor("+", v, v), true}, {functor("+", variable(-5), variable(api.MaxVar+1)), true},
		{functor("+", one, functor("a")), false}, {functor("+", functor("a"), one), false}, {functor("+", functor("f", one, one), one), false},
		{functor("+", v, functor("-", one, v)), true}, {functor("*", functor("/", v, v), functor("%", one, v)), true},
		{functor("*", functor("/", v, functor("a")), one), false}, {functor("*", one, functor("/", v, functor("-", v, functor("f", v)))), false},
		{binary("/", 1, 0), true}, {binary("+", api.MaxInt, 1), true}, {binary("+", api.MaxInt+1, 1), true},
		{filled(one), true}, {filled(v), false}, {filled(functor("+", v, one)), true}, {functor("+", filled(v), filled(one)), true},
		{filled(functor("a")), false}, {functor("f", binary("+", 1, 1), binary("+", 1, 1)), false},
	} {
		if got := Expr(x.t); got != x.want {
			t.Errorf("Expr(%s) = %v", short(x.t), got)
		}
	}
}

func TestP4_4Operators(t *testing.T) {
	one := number(1)
	for _, op := range operators {
		for count, want := range []bool{false, false, true, false, false, false, false, false} {
			for _, arg := range []api.Term{one, variable(0)} {
				if got := Expr(functor(op, slices.Repeat([]api.Term{arg}, count)...)); got != want {
					t.Errorf("Expr of %q with %d arguments is %v", op, count, got)
				}
			}
		}
	}
	for _, name := range noOperators {
		for count := range 4 {
			if x := functor(name, slices.Repeat([]api.Term{one}, count)...); Expr(x) || Expr(functor("+", one, x)) || Expr(functor("+", x, one)) {
				t.Errorf("Expr of %q with %d arguments, or of its sum with 1, is true", name, count)
			}
		}
	}
	for _, kind := range unknownKinds {
		for _, x := range []api.Term{unknown(kind), {Kind: kind}, {Kind: kind, Name: "+", Args: []api.Term{one, one}}} {
			if Expr(x) || Expr(functor("+", one, x)) || Expr(functor("+", x, one)) {
				t.Errorf("Expr of a term of the kind %d, or of its sum with 1, is true", kind)
			}
		}
	}
}

func TestP4_4Deep(t *testing.T) {
	for _, build := range []func(int, string, api.Term) api.Term{leftDeep, rightDeep} {
		if !Expr(build(deep, "-", variable(0))) || Expr(build(deep, "-", functor("a"))) || !Expr(build(deep, "/", number(0))) {
			t.Error("Expr of a deep term")
		}
	}
}

func TestP4_4Random(t *testing.T) {
	g := newMaker(5)
	count := 0
	for i := range 60000 {
		g.exprs = i%2 == 0
		x := g.term(1 + i%7)
		before := copyOf(x)
		want := wantExpr(x)
		if got := Expr(x); got != want {
			t.Errorf("Expr(%s) = %v", short(x), got)
		}
		checkUnchanged(t, x, before)
		if want {
			count++
		}
	}
	if count < 10000 {
		t.Errorf("only %d of the random terms are expressions", count)
	}
}

func TestP4_6Folding(t *testing.T) {
	g := newMaker(6)
	for i := range 40000 {
		g.values = i%4 == 0
		x := g.term(1 + i%7)
		folded := Fold(x)
		if again := Fold(folded); !equal(again, folded) {
			t.Errorf("Fold(%s) = %s", short(folded), short(again))
		}
		n, e := Eval(x)
		if foldedN, foldedE := Eval(folded); foldedN != n || foldedE != e {
			t.Errorf("Eval(%s) = %d, %d, and %d, %d when it is folded", short(x), n, e, foldedN, foldedE)
		}
		if e == api.OK && !equal(folded, number(n)) {
			t.Errorf("Fold(%s) = %s, and the value is %d", short(x), short(folded), n)
		}
	}
}

func containsVariable(t api.Term) bool {
	return t.Kind == api.TVar || t.Kind == api.TFun && slices.ContainsFunc(t.Args, containsVariable)
}

func TestP4_7Closed(t *testing.T) {
	g := newMaker(7)
	for i := range 60000 {
		g.exprs, g.values = i%2 == 0, i%4 == 0
		x := g.term(1 + i%7)
		_, e := Eval(x)
		if Expr(x) && (e == api.ErrType || e == api.ErrVar && !containsVariable(x)) {
			t.Errorf("Eval(%s) has the error %d", short(x), e)
		}
	}
}
