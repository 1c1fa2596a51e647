package arith

import (
	"slices"
	"strings"
	"testing"

	"constraint/api"
)

// wantEval is Eval by another way: it reads the term in the order of evaluation, and keeps the values in a list.
func wantEval(t api.Term) (int, api.Errno) {
	type step struct {
		t     api.Term
		apply bool
	}
	todo := []step{{t: t}}
	var values []int
	for len(todo) > 0 {
		next := todo[len(todo)-1]
		todo = todo[:len(todo)-1]
		t := next.t
		switch {
		case next.apply:
			n, e := wantApply(t.Name, values[len(values)-2], values[len(values)-1])
			if e != api.OK {
				return 0, e
			}
			values = append(values[:len(values)-2], n)
		case t.Kind == api.TInt && (t.Int < -api.MaxInt || t.Int > api.MaxInt):
			return 0, api.ErrRange
		case t.Kind == api.TInt:
			values = append(values, t.Int)
		case t.Kind == api.TVar:
			return 0, api.ErrVar
		case t.Kind == api.TFun && len(t.Args) == 2 && slices.Contains(operators, t.Name):
			todo = append(todo, step{t, true}, step{t: t.Args[1]}, step{t: t.Args[0]})
		default:
			return 0, api.ErrType
		}
	}
	return values[0], api.OK
}

func checkEval(t *testing.T, x api.Term, want int, wantErr api.Errno) {
	t.Helper()
	if n, e := Eval(x); n != want || e != wantErr {
		t.Errorf("Eval(%s) = %d, %d, not %d, %d", short(x), n, e, want, wantErr)
	}
}

func TestP4_2Values(t *testing.T) {
	v := number(5)
	for _, x := range []struct {
		t    api.Term
		want int
	}{
		{number(0), 0}, {number(-7), -7}, {number(api.MaxInt), api.MaxInt}, {number(-api.MaxInt), -api.MaxInt},
		{functor("-", binary("-", 7, 2), number(1)), 4}, {functor("-", number(7), binary("-", 2, 1)), 6},
		{functor("+", number(1), binary("*", 2, 3)), 7}, {functor("*", binary("+", 1, 2), number(3)), 9},
		{binary("/", -7, 2), -4}, {binary("%", -7, 2), 1}, {binary("/", 7, -2), -4}, {binary("%", 7, -2), -1},
		{functor("/", functor("-", number(0), v), number(2)), -3}, {functor("%", v, functor("-", number(0), number(3))), -1},
		{functor("-", binary("+", api.MaxInt-1, 1), binary("-", -1, -api.MaxInt)), 1},
		{functor("*", binary("*", 32768, 32768), binary("/", 9, 4)), api.MaxInt},
	} {
		checkEval(t, x.t, x.want, api.OK)
	}
	for _, a := range atLimits {
		checkEval(t, number(a), a, api.OK)
		for _, b := range atLimits {
			for _, op := range operators {
				want, wantErr := wantApply(op, a, b)
				checkEval(t, binary(op, a, b), want, wantErr)
			}
		}
	}
}

// faulty returns terms without a value, each with its error. Several of them contain other errors that are not the first one.
func faulty() map[api.Errno][]api.Term {
	zero, v, atom := binary("/", 1, 0), variable(0), functor("a")
	list := map[api.Errno][]api.Term{
		api.ErrVar: {
			v, variable(-1), variable(api.MaxVar), variable(api.MaxVar + 1), functor("+", v, zero), functor("/", v, number(0)), functor("%", number(1), v),
			functor("-", v, atom), functor("*", v, number(api.MaxInt+1)), functor("+", number(api.MaxInt), functor("+", v, number(1))),
		},
		api.ErrZero: {
			zero, binary("%", 0, 0), functor("+", zero, v), functor("*", zero, atom), functor("/", binary("+", 1, 2), binary("-", 3, 3)),
			functor("-", zero, number(api.MaxInt+1)), functor("+", zero, binary("+", api.MaxInt, 1)), functor("/", binary("%", 5, 0), number(0)),
		},
		api.ErrRange: {
			binary("+", api.MaxInt, 1), binary("*", -65536, 65536), binary("/", api.MaxInt+1, 0), binary("/", 0, api.MaxInt+1), functor("-", binary("*", api.MaxInt, 2), v),
			functor("+", number(-api.MaxInt-1), atom), functor("/", binary("-", -api.MaxInt, 1), number(0)), functor("-", binary("+", api.MaxInt, 1), number(1)),
			functor("*", number(0), number(api.MaxInt+1)),
		},
		api.ErrType: {
			atom, functor(""), functor("V0"), functor("f", number(1)), functor("f", number(1), number(2)), functor("f", v, zero), functor("a", zero, v),
			functor("+", atom, v), functor("+", atom, zero), functor("/", atom, number(0)), functor("-", functor("f", v, v), number(api.MaxInt+1)),
			functor("+", number(1), functor("-", number(1))), functor("/", number(1), functor("a", number(0))),
		},
	}
	for _, n := range outOfRange {
		list[api.ErrRange] = append(list[api.ErrRange], number(n))
	}
	for _, kind := range unknownKinds {
		list[api.ErrType] = append(list[api.ErrType], unknown(kind), filled(unknown(kind)))
	}
	for _, op := range operators {
		// one, no, three and more arguments: values, variables, or terms with another error
		for _, args := range [][]api.Term{{}, {number(1)}, {v}, {zero}, {number(1), number(2), number(3)}, {v, v, v}, {zero, number(1), v}, slices.Repeat([]api.Term{number(1)}, 300)} {
			list[api.ErrType] = append(list[api.ErrType], functor(op, args...))
		}
	}
	for _, name := range noOperators {
		list[api.ErrType] = append(list[api.ErrType], functor(name, number(1), number(2)), functor(name, v, number(2)))
	}
	list[api.ErrType] = append(list[api.ErrType], functor(strings.Repeat("+", 1<<20), number(1), number(1)))
	return list
}

func TestP4_2Errors(t *testing.T) {
	for e, list := range faulty() {
		for _, x := range list {
			checkEval(t, x, 0, e)
			checkEval(t, filled(x), 0, e)
		}
	}
}

// The first operand with an error decides, whatever the operator and the second operand are.
func TestP4_2Order(t *testing.T) {
	lists := faulty()
	for first, list := range lists {
		for _, x := range list {
			for _, op := range operators {
				checkEval(t, functor(op, x, number(0)), 0, first)
				checkEval(t, functor(op, number(0), x), 0, first)
				checkEval(t, functor("/", binary("*", 2, 3), functor(op, number(2), x)), 0, first)
				for _, others := range lists {
					checkEval(t, functor(op, x, others[0]), 0, first)
					checkEval(t, functor(op, functor("-", number(1), x), functor("+", others[0], x)), 0, first)
				}
			}
		}
	}
}

func TestP4_2UnusedFields(t *testing.T) {
	checkEval(t, filled(number(7)), 7, api.OK)
	checkEval(t, filled(variable(0)), 0, api.ErrVar)
	checkEval(t, filled(binary("-", 7, 2)), 5, api.OK)
	checkEval(t, filled(functor("-", filled(number(7)), filled(binary("+", 1, 1)))), 5, api.OK)
	checkEval(t, filled(functor("a")), 0, api.ErrType)
	for _, kind := range unknownKinds {
		checkEval(t, api.Term{Kind: kind, Name: "+", Args: []api.Term{number(1), number(2)}}, 0, api.ErrType)
		checkEval(t, api.Term{Kind: kind, Int: 3}, 0, api.ErrType)
	}
}

func TestP4_2Deep(t *testing.T) {
	for _, build := range []func(int, string, api.Term) api.Term{leftDeep, rightDeep} {
		for _, op := range operators {
			for _, inner := range []api.Term{number(1), variable(0), functor("a"), binary("/", 1, 0)} {
				x := build(deep, op, inner)
				want, wantErr := wantEval(x)
				checkEval(t, x, want, wantErr)
			}
		}
	}
	checkEval(t, leftDeep(deep, "+", number(1)), 1+deep, api.OK)
}

func TestP4_2Random(t *testing.T) {
	g := newMaker(3)
	values := 0
	for i := range 60000 {
		g.values = i%2 == 0
		x := g.term(1 + i%7)
		before := copyOf(x)
		want, wantErr := wantEval(x)
		checkEval(t, x, want, wantErr)
		checkUnchanged(t, x, before)
		if wantErr == api.OK {
			values++
		}
	}
	if values < 10000 {
		t.Errorf("only %d of the random terms have a value", values)
	}
}
