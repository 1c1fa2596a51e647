package arith

import (
	"fmt"
	"math"
	"math/rand/v2"

	"constraint/api"
)

var (
	operators    = []string{"+", "-", "*", "/", "%"}
	noOperators  = []string{"", " ", "a", "f", "^", "++", "+ ", " +", "-+", "//", "**", "%%", "=", "<", "is", "mod", "\x00", "+\x00", "\xe2\x88\x92", "\u00f7", "\u00d7"}
	unknownKinds = []int{3, 4, 9, -1, -2, 99, 1 << 32, 1<<32 + 1, 1<<32 + 2, math.MaxInt, math.MinInt}
	outOfRange   = []int{api.MaxInt + 1, -api.MaxInt - 1, 1 << 32, -1 << 32, 1 << 40, 1 << 62, -1 << 62, math.MaxInt, math.MinInt, math.MinInt + 1}
	atLimits     = []int{
		0, 1, -1, 2, -2, 3, -3, 7, -7, 10, -10, 46340, 46341, -46340, -46341, 65535, 65536, -65536, 65537, 32768, -32768,
		api.MaxInt/2 - 1, api.MaxInt / 2, api.MaxInt/2 + 1, -api.MaxInt/2 - 1, -api.MaxInt / 2,
		api.MaxInt - 1, api.MaxInt, -api.MaxInt + 1, -api.MaxInt,
	}
)

// number, variable, functor and unknown build terms, whatever package term does.
func number(n int) api.Term { return api.Term{Kind: api.TInt, Int: n} }

func variable(n int) api.Term { return api.Term{Kind: api.TVar, Int: n} }

func functor(name string, args ...api.Term) api.Term {
	return api.Term{Kind: api.TFun, Name: name, Args: args}
}

func unknown(kind int) api.Term { return api.Term{Kind: kind, Int: 1, Name: "+"} }

// binary returns an operator term of two integers.
func binary(op string, a, b int) api.Term { return functor(op, number(a), number(b)) }

// filled returns a term whose fields, as far as its kind does not use them, are not zero. The arguments would have a value
// and be folded if they were looked at.
func filled(t api.Term) api.Term {
	if t.Kind != api.TFun {
		t.Args = []api.Term{binary("+", 1, 2), binary("*", 3, 4)}
	}
	switch t.Kind {
	case api.TInt, api.TVar:
		t.Name = "+"
	case api.TFun:
		t.Int = 5
	}
	return t
}

// copyOf returns a copy that shares no memory with a term.
func copyOf(t api.Term) api.Term {
	if t.Args == nil {
		return t
	}
	args := make([]api.Term, 0, len(t.Args))
	for _, arg := range t.Args {
		args = append(args, copyOf(arg))
	}
	t.Args = args
	return t
}

// short writes a value that may be too large for a message.
func short(x any) string { return fmt.Sprintf("%.200s", fmt.Sprint(x)) }

// deep is a number of levels near the deepest nesting for which the document promises anything. It is a multiple of 3,
// so that the sum of the numbers of leftDeep and rightDeep is deep, too.
const deep = 65532

// leftDeep and rightDeep return a term with an operator at each of a number of levels, around an innermost term.
func leftDeep(levels int, op string, inner api.Term) api.Term {
	for i := range levels {
		inner = functor(op, inner, number(i%3))
	}
	return inner
}

func rightDeep(levels int, op string, inner api.Term) api.Term {
	for i := range levels {
		inner = functor(op, number(i%3), inner)
	}
	return inner
}

// maker makes random terms, valid or not.
type maker struct {
	random *rand.Rand
	// values and exprs leave out what has no value by its form, and what is no expression.
	values, exprs bool
}

func newMaker(seed uint64) *maker { return &maker{random: rand.New(rand.NewPCG(seed, 4))} }

// term returns a term with at most a number of levels.
func (g *maker) term(levels int) api.Term {
	kind := g.random.IntN(20)
	if kind < 12 && levels > 1 {
		return g.maybeFilled(functor(g.operator(), g.term(levels-1), g.term(levels-1)))
	}
	switch {
	case g.values, kind < 14:
		return g.maybeFilled(number(g.integer()))
	case g.exprs, kind < 16:
		return g.maybeFilled(variable(g.random.IntN(4)))
	case kind < 17:
		return g.maybeFilled(unknown(pick(g, unknownKinds)))
	case kind < 18:
		return g.maybeFilled(functor(g.operator(), g.list(levels, g.random.IntN(5))...))
	}
	return g.maybeFilled(functor(pick(g, noOperators), g.list(levels, g.random.IntN(4))...))
}

func (g *maker) list(levels, count int) []api.Term {
	var list []api.Term
	for range count {
		if levels > 1 {
			list = append(list, g.term(levels-1))
		}
	}
	return list
}

func (g *maker) operator() string { return pick(g, operators) }

// integer returns mostly small numbers, for which most operators have a result in range.
func (g *maker) integer() int {
	switch g.random.IntN(24) {
	case 0:
		return pick(g, atLimits)
	case 1:
		if !g.values {
			return pick(g, outOfRange)
		}
	}
	return g.random.IntN(19) - 9
}

func (g *maker) maybeFilled(t api.Term) api.Term {
	if g.random.IntN(6) == 0 {
		return filled(t)
	}
	return t
}

func pick[T any](g *maker, list []T) T { return list[g.random.IntN(len(list))] }
