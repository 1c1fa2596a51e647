package termtext

import (
	"fmt"
	"math"
	"math/rand/v2"
	"strings"

	"constraint/api"
)

var (
	operators = []string{"+", "-", "*", "/", "%"}
	reserved  = []string{"constraint", "true", "fail", "is", "int", "ground"}
)

// number, variable and functor build terms, whatever package term does.
func number(n int) api.Term { return api.Term{Kind: api.TInt, Int: n} }

func variable(n int) api.Term { return api.Term{Kind: api.TVar, Int: n} }

func functor(name string, args ...api.Term) api.Term {
	return api.Term{Kind: api.TFun, Name: name, Args: args}
}

func atom(name string, args ...api.Term) api.Atom { return api.Atom{Name: name, Args: args} }

func goal(op int, args ...api.Term) api.Goal { return api.Goal{Op: op, Args: args} }

// wide returns a term with a number of nodes, which is as flat as MaxArity permits.
func wide(nodes int) api.Term {
	t := functor("f")
	for left, places := nodes-1, api.MaxArity; left > 0; places-- {
		share := (left + places - 1) / places
		t.Args = append(t.Args, wide(share))
		left -= share
	}
	return t
}

// high returns a term with a depth.
func high(depth int) api.Term {
	t := functor("a")
	for range depth - 1 {
		t = functor("f", t)
	}
	return t
}

// chain returns an operator term with operands 1, which associates to the left or to the right.
func chain(op string, operands int, toLeft bool) api.Term {
	t := number(1)
	for range operands - 1 {
		if toLeft {
			t = functor(op, t, number(1))
		} else {
			t = functor(op, number(1), t)
		}
	}
	return t
}

// copyOf returns a copy that shares no memory with a term.
func copyOf(t api.Term) api.Term {
	if t.Args == nil {
		return t
	}
	args := make([]api.Term, 0, len(t.Args))
	for _, arg := range t.Args {
		args = append(args, copyOf(arg))
	}
	t.Args = args
	return t
}

// written writes all fields of a value, so that two values are identical if what is written is.
func written(x any) string {
	// Lists may be nil or empty (rule 3 of DOC.md).
	return strings.ReplaceAll(fmt.Sprintf("%#v", x), "[]api.Term(nil)", "[]api.Term{}")
}

// maker makes random valid terms, and texts of them.
type maker struct{ random *rand.Rand }

func newMaker(seed uint64) *maker { return &maker{rand.New(rand.NewPCG(seed, 5))} }

func pick[T any](g *maker, list ...T) T { return list[g.random.IntN(len(list))] }

// term returns a term with at most a number of levels. It is valid if it does not have too many nodes.
func (g *maker) term(levels int) api.Term {
	kind := g.random.IntN(12)
	switch {
	case levels > 1 && kind < 6:
		return functor(pick(g, operators...), g.term(levels-1), g.term(levels-1))
	case levels > 1 && kind < 8:
		return functor(g.name(), g.list(levels-1)...)
	case kind < 9:
		return variable(pick(g, 0, 1, 2, 3, 10, 99, api.MaxVar-1, api.MaxVar))
	case kind < 10:
		return functor(g.name())
	}
	return number(pick(g, 0, 1, -1, 2, 7, -7, 10, -100, api.MaxInt, -api.MaxInt, api.MaxInt-1))
}

func (g *maker) list(levels int) []api.Term {
	var list []api.Term
	for range g.random.IntN(pick(g, 3, api.MaxArity+1)) {
		list = append(list, g.term(levels))
	}
	return list
}

func (g *maker) name() string {
	return pick(g, "a", "b", "f", "g", "fX_1", "i", "isnt", "v0", "trueV0", "x_", strings.Repeat("z", api.MaxName))
}

// broken returns a term that is not valid, because of one of its subterms.
func (g *maker) broken(t api.Term) api.Term {
	t = copyOf(t)
	at := &t
	for len(at.Args) > 0 && g.random.IntN(4) > 0 {
		at = &at.Args[g.random.IntN(len(at.Args))]
	}
	*at = pick(g, invalidTerms()...)
	return t
}

// invalidTerms returns terms that are not valid by themselves.
func invalidTerms() []api.Term {
	list := []api.Term{
		number(api.MaxInt + 1), number(-api.MaxInt - 1), number(math.MaxInt), number(math.MinInt),
		variable(-1), variable(api.MaxVar + 1), variable(math.MaxInt), variable(math.MinInt),
		{Kind: api.TInt, Name: "a"}, {Kind: api.TInt, Args: []api.Term{number(1)}}, {Kind: api.TInt, Name: "+"},
		{Kind: api.TVar, Name: "a"}, {Kind: api.TVar, Args: []api.Term{number(1)}}, {Kind: api.TVar, Name: "V0"},
		{Kind: api.TFun, Name: "a", Int: 1}, {Kind: api.TFun, Name: "a", Int: -1},
		{Kind: 3}, {Kind: -1}, {Kind: 3, Name: "a"}, {Kind: math.MaxInt}, {Kind: math.MinInt, Name: "+", Args: []api.Term{number(1), number(1)}},
		functor(""), functor("A"), functor("V0"), functor("_"), functor("1"), functor("a b"), functor("a "), functor("é"), functor("f("), functor("="),
		functor(strings.Repeat("z", api.MaxName+1)), wide(api.MaxNodes + 1), high(api.MaxDepth + 1),
		functor("f", make([]api.Term, api.MaxArity+1)...),
	}
	for _, word := range reserved {
		list = append(list, functor(word), functor(word, number(1)))
	}
	for _, op := range operators {
		list = append(list, functor(op), functor(op, number(1)), functor(op, make([]api.Term, 3)...))
	}
	return list
}
