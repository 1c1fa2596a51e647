package unify

import (
	"fmt"
	"math"
	"math/rand/v2"
	"regexp"
	"slices"
	"strings"
	"testing"

	"constraint/api"
	"constraint/termtext"
)

var (
	operators    = []string{"+", "-", "*", "/", "%"}
	reserved     = []string{"constraint", "true", "fail", "is", "int", "ground"}
	unknownKinds = []int{3, 4, 9, -1, -2, 99, 1 << 32, 1<<32 + 1, 1<<32 + 2, math.MaxInt, math.MinInt}
	// noVars are numbers that no variable of a valid term has.
	noVars = []int{-1, -2, api.MaxVar + 1, api.MaxVar + 2, 1 << 32, -1 << 32, math.MaxInt, math.MinInt}
	word   = regexp.MustCompile(`^[a-z][a-zA-Z0-9_]{0,39}$`)
)

// number, variable and functor build terms, whatever package term does.
func number(n int) api.Term { return api.Term{Kind: api.TInt, Int: n} }

func variable(n int) api.Term { return api.Term{Kind: api.TVar, Int: n} }

func functor(name string, args ...api.Term) api.Term {
	return api.Term{Kind: api.TFun, Name: name, Args: args}
}

func bind(v int, t api.Term) api.Bind { return api.Bind{Var: v, Term: t} }

// read returns the term of a text.
func read(t *testing.T, text string) api.Term {
	t.Helper()
	x, e := termtext.Parse(text)
	if e != api.OK {
		t.Fatalf("%q is no term", text)
	}
	return x
}

// equations reads equations such as "f(V0) = V1; V2 = 3".
func equations(t *testing.T, text string) (a, b []api.Term) {
	t.Helper()
	if text == "" {
		return nil, nil
	}
	for _, one := range strings.Split(text, ";") {
		left, right, _ := strings.Cut(one, "=")
		a, b = append(a, read(t, left)), append(b, read(t, right))
	}
	return a, b
}

// bindings reads a substitution such as "V0 = f(V2); V1 = 3".
func bindings(t *testing.T, text string) api.Binds {
	t.Helper()
	a, b := equations(t, text)
	var list api.Binds
	for i, x := range a {
		list = append(list, bind(x.Int, b[i]))
	}
	return list
}

// wide returns a term with a number of nodes, which is as flat as MaxArity permits; its leaves are copies of a term of
// one node.
func wide(nodes int, leaf api.Term) api.Term {
	if nodes == 1 {
		return leaf
	}
	t := functor("f")
	for left, places := nodes-1, api.MaxArity; left > 0; places-- {
		share := (left + places - 1) / places
		t.Args = append(t.Args, wide(share, leaf))
		left -= share
	}
	return t
}

// high returns a term with a number of levels above another term.
func high(levels int, inner api.Term) api.Term {
	for range levels {
		inner = functor("s", inner)
	}
	return inner
}

// invalidTerms returns terms that are not valid by themselves.
func invalidTerms() []api.Term {
	other := []api.Term{variable(0)}
	list := []api.Term{
		number(api.MaxInt + 1), number(-api.MaxInt - 1), number(math.MaxInt), number(math.MinInt),
		{Kind: api.TInt, Name: "f"}, {Kind: api.TInt, Args: other}, {Kind: api.TVar, Name: "f"}, {Kind: api.TVar, Args: other}, {Kind: api.TFun, Name: "a", Int: 1}, {Kind: api.TFun, Name: "f", Int: -1, Args: other},
		functor(""), functor("A"), functor("V0"), functor("_"), functor("1"), functor("f("), functor(strings.Repeat("z", api.MaxName+1)),
		wide(api.MaxNodes+1, number(1)), wide(api.MaxNodes+1, variable(1)), high(api.MaxDepth, number(1)), high(api.MaxDepth, variable(1)), functor("f", make([]api.Term, api.MaxArity+1)...),
	}
	for _, v := range noVars {
		list = append(list, variable(v))
	}
	for _, kind := range unknownKinds {
		list = append(list, api.Term{Kind: kind, Name: "f", Args: other}, api.Term{Kind: kind})
	}
	for _, word := range reserved {
		list = append(list, functor(word))
	}
	for _, op := range operators {
		list = append(list, functor(op), functor(op, number(1)), functor(op, make([]api.Term, 3)...))
	}
	return list
}

// wantValid is the validity of a term as the document defines it.
func wantValid(t api.Term) bool {
	nodes, deepest := 0, 0
	var visit func(t api.Term, depth int) bool
	visit = func(t api.Term, depth int) bool {
		nodes++
		deepest = max(deepest, depth)
		switch t.Kind {
		case api.TInt:
			return t.Name == "" && len(t.Args) == 0 && -1<<31 <= t.Int && t.Int <= 1<<31
		case api.TVar:
			return t.Name == "" && len(t.Args) == 0 && 0 <= t.Int && t.Int <= 1<<20
		case api.TFun:
			isName := word.MatchString(t.Name) && !slices.Contains(reserved, t.Name) && len(t.Args) <= 6
			isOperator := slices.Contains(operators, t.Name) && len(t.Args) == 2
			ok := t.Int == 0 && (isName || isOperator)
			for _, arg := range t.Args {
				ok = visit(arg, depth+1) && ok
			}
			return ok
		}
		return false
	}
	return visit(t, 1) && nodes <= 200 && deepest <= 20
}

// equal compares all fields of two terms, also those that are not used. An empty list may be nil.
func equal(a, b api.Term) bool {
	return a.Kind == b.Kind && a.Int == b.Int && a.Name == b.Name && slices.EqualFunc(a.Args, b.Args, equal)
}

func equalBinds(a, c api.Binds) bool {
	return slices.EqualFunc(a, c, func(x, y api.Bind) bool { return x.Var == y.Var && equal(x.Term, y.Term) })
}

// short writes a value that may be too large for a message.
func short(x any) string { return fmt.Sprintf("%.300s", fmt.Sprint(x)) }

// roomy returns a copy whose lists have room behind their ends, with terms in it that would be noticed if they were used.
func roomy(terms []api.Term) []api.Term {
	list := make([]api.Term, 0, len(terms)+1)
	for _, t := range terms {
		if len(t.Args) > 0 {
			t.Args = roomy(t.Args)
		}
		list = append(list, t)
	}
	_ = append(list, functor("behind"))
	return list
}

// whole returns a copy with what is behind the ends of the lists.
func whole(terms []api.Term) []api.Term {
	var list []api.Term
	for _, t := range terms[:cap(terms)] {
		t.Args = whole(t.Args)
		list = append(list, t)
	}
	return list
}

// watch returns a function that reports whether lists of terms have changed since.
func watch(t *testing.T, lists ...[]api.Term) func() {
	t.Helper()
	var before [][]api.Term
	for _, list := range lists {
		before = append(before, whole(list))
	}
	return func() {
		t.Helper()
		for i, list := range lists {
			if !slices.EqualFunc(whole(list), before[i], equal) {
				t.Errorf("the terms %s were changed to %s", short(before[i]), short(whole(list)))
			}
		}
	}
}

// scribble overwrites the lists of terms, and what is behind them.
func scribble(list []api.Term) {
	list = list[:cap(list)]
	for i := range list {
		scribble(list[i].Args)
		list[i] = number(98)
	}
}

func scribbleBinds(b api.Binds) {
	b = b[:cap(b)]
	for i := range b {
		scribble(b[i].Term.Args)
		b[i] = bind(97, number(98))
	}
}

// maker makes random terms.
type maker struct {
	random *rand.Rand
	// vars are the variables of the terms.
	vars []int
}

func newMaker(seed uint64, vars ...int) *maker {
	return &maker{random: rand.New(rand.NewPCG(seed, 7)), vars: vars}
}

func pick[T any](g *maker, list ...T) T { return list[g.random.IntN(len(list))] }

// term returns a term with at most a number of levels.
func (g *maker) term(levels int) api.Term {
	kind := g.random.IntN(12)
	switch {
	case levels > 1 && kind < 6:
		return g.functor(pick(g, "f", "f", "g", "+"), levels)
	case kind < 10:
		return variable(pick(g, g.vars...))
	case kind < 11:
		return functor(pick(g, "a", "b"))
	}
	return number(pick(g, 0, 1, -3, api.MaxInt))
}

// functor returns a term with a functor whose number of arguments is mostly the same.
func (g *maker) functor(name string, levels int) api.Term {
	t := functor(name)
	for range map[string]int{"f": 2, "g": 1, "+": 2}[name] {
		t.Args = append(t.Args, g.term(levels-1))
	}
	if name == "f" && g.random.IntN(30) == 0 {
		t.Args = append(t.Args, g.term(levels-1))
	}
	return t
}

// blurred returns a term with variables in the place of some of its subterms, as the term and the result probably have a
// unifier.
func (g *maker) blurred(t api.Term) api.Term {
	if g.random.IntN(5) == 0 {
		return variable(pick(g, g.vars...))
	}
	var args []api.Term
	for _, arg := range t.Args {
		args = append(args, g.blurred(arg))
	}
	t.Args = args
	return t
}

// pair returns two terms that are related more or less.
func (g *maker) pair(levels int) (a, b api.Term) {
	switch g.random.IntN(4) {
	case 0:
		return g.term(levels), g.term(levels)
	case 1:
		a = g.term(levels)
		return a, g.blurred(a)
	}
	a = g.term(levels)
	return g.blurred(a), g.blurred(a)
}

// pairs returns two lists of the same length.
func (g *maker) pairs(length, levels int) (a, b []api.Term) {
	for range g.random.IntN(length + 1) {
		x, y := g.pair(levels)
		a, b = append(a, x), append(b, y)
	}
	return a, b
}
