package subst

import (
	"cmp"
	"fmt"
	"math"
	"math/rand/v2"
	"slices"
	"strings"
	"testing"

	"constraint/api"
)

var (
	operators    = []string{"+", "-", "*", "/", "%"}
	reserved     = []string{"constraint", "true", "fail", "is", "int", "ground"}
	unknownKinds = []int{3, 4, 9, -1, -2, 99, 1 << 32, 1<<32 + 1, 1<<32 + 2, math.MaxInt, math.MinInt}
	// noVars are numbers that no variable of a valid term has.
	noVars = []int{-1, -2, api.MaxVar + 1, api.MaxVar + 2, 1 << 32, -1 << 32, math.MaxInt, math.MinInt}
)

// number, variable, functor and unknown build terms, whatever package term does.
func number(n int) api.Term { return api.Term{Kind: api.TInt, Int: n} }

func variable(n int) api.Term { return api.Term{Kind: api.TVar, Int: n} }

func functor(name string, args ...api.Term) api.Term {
	return api.Term{Kind: api.TFun, Name: name, Args: args}
}

// unknown returns a term of an unknown kind, which has no arguments, although the variable 0 is in its list.
func unknown(kind int) api.Term {
	return api.Term{Kind: kind, Int: 0, Name: "f", Args: []api.Term{variable(0)}}
}

func atom(name string, args ...api.Term) api.Atom { return api.Atom{Name: name, Args: args} }

func goal(op int, args ...api.Term) api.Goal { return api.Goal{Op: op, Args: args} }

func bind(v int, t api.Term) api.Bind { return api.Bind{Var: v, Term: t} }

// filled returns a term whose fields, as far as its kind does not use them, are not zero.
func filled(t api.Term) api.Term {
	if t.Kind == api.TFun {
		t.Int = 1
		return t
	}
	t.Args = []api.Term{variable(0), functor("g", variable(1), variable(2))}
	if t.Kind == api.TInt || t.Kind == api.TVar {
		t.Name = "f"
	}
	return t
}

// wide returns a term with a number of nodes, which is as flat as MaxArity permits; its leaves are copies of a term of
// one node.
func wide(nodes int, leaf api.Term) api.Term {
	if nodes == 1 {
		return leaf
	}
	t := functor("f")
	for left, places := nodes-1, api.MaxArity; left > 0; places-- {
		share := (left + places - 1) / places
		t.Args = append(t.Args, wide(share, leaf))
		left -= share
	}
	return t
}

// high returns a term with a number of levels above another term.
func high(levels int, inner api.Term) api.Term {
	for range levels {
		inner = functor("s", inner)
	}
	return inner
}

// invalidTerms returns terms that are not valid by themselves.
func invalidTerms() []api.Term {
	list := []api.Term{
		number(api.MaxInt + 1), number(-api.MaxInt - 1), number(math.MaxInt), number(math.MinInt),
		filled(number(1)), filled(variable(5)), filled(functor("a")), filled(functor("f", variable(5))),
		functor(""), functor("A"), functor("V0"), functor("_"), functor("1"), functor("f("), functor(strings.Repeat("z", api.MaxName+1)),
		wide(api.MaxNodes+1, number(1)), high(api.MaxDepth, number(1)), functor("f", make([]api.Term, api.MaxArity+1)...),
	}
	for _, v := range noVars {
		list = append(list, variable(v))
	}
	for _, kind := range unknownKinds {
		list = append(list, unknown(kind), api.Term{Kind: kind})
	}
	for _, word := range reserved {
		list = append(list, functor(word))
	}
	for _, op := range operators {
		list = append(list, functor(op), functor(op, number(1)), functor(op, make([]api.Term, 3)...))
	}
	return list
}

// copyTerm and copyBinds return copies that share no memory with a value.
func copyTerm(t api.Term) api.Term {
	if t.Args == nil {
		return t
	}
	args := make([]api.Term, 0, len(t.Args))
	for _, arg := range t.Args {
		args = append(args, copyTerm(arg))
	}
	t.Args = args
	return t
}

func copyBinds(b api.Binds) api.Binds {
	var list api.Binds
	for _, x := range b {
		list = append(list, bind(x.Var, copyTerm(x.Term)))
	}
	return list
}

// equal compares all fields of two terms, also those that are not used. An empty list may be nil.
func equal(a, b api.Term) bool {
	return a.Kind == b.Kind && a.Int == b.Int && a.Name == b.Name && slices.EqualFunc(a.Args, b.Args, equal)
}

func equalBinds(a, c api.Binds) bool {
	return slices.EqualFunc(a, c, func(x, y api.Bind) bool { return x.Var == y.Var && equal(x.Term, y.Term) })
}

// short writes a value that may be too large for a message.
func short(x any) string { return fmt.Sprintf("%.300s", fmt.Sprint(x)) }

// roomy returns a substitution and a term whose lists, as far as they are not empty, have room behind their ends, with
// bindings and terms in it that would be noticed if they were used.
func roomy(b api.Binds) api.Binds {
	list := make(api.Binds, 0, len(b)+2)
	for _, x := range b {
		list = append(list, bind(x.Var, roomyTerm(x.Term)))
	}
	_ = append(list, bind(0, number(77)), bind(1, number(78)))
	return list
}

func roomyTerm(t api.Term) api.Term {
	if len(t.Args) > 0 {
		t.Args = roomyTerms(t.Args)
	}
	return t
}

func roomyTerms(terms []api.Term) []api.Term {
	list := make([]api.Term, 0, len(terms)+1)
	for _, t := range terms {
		list = append(list, roomyTerm(t))
	}
	_ = append(list, variable(0))
	return list
}

// whole and wholeTerm return copies with what is behind the ends of the lists.
func whole(b api.Binds) api.Binds {
	var list api.Binds
	for _, x := range b[:cap(b)] {
		list = append(list, bind(x.Var, wholeTerm(x.Term)))
	}
	return list
}

func wholeTerm(t api.Term) api.Term {
	t.Args = wholeTerms(t.Args)
	return t
}

func wholeTerms(terms []api.Term) []api.Term {
	var list []api.Term
	for _, t := range terms[:cap(terms)] {
		list = append(list, wholeTerm(t))
	}
	return list
}

// watch returns a function that reports whether substitutions have changed since.
func watch(t *testing.T, lists ...api.Binds) func() {
	t.Helper()
	var before []api.Binds
	for _, b := range lists {
		before = append(before, whole(b))
	}
	return func() {
		t.Helper()
		for i, b := range lists {
			if !equalBinds(whole(b), before[i]) {
				t.Errorf("the substitution %s was changed to %s", short(before[i]), short(whole(b)))
			}
		}
	}
}

// watchTerms does the same for terms.
func watchTerms(t *testing.T, list ...api.Term) func() {
	t.Helper()
	before := wholeTerms(list)
	return func() {
		t.Helper()
		if !slices.EqualFunc(wholeTerms(list), before, equal) {
			t.Errorf("the terms %s were changed to %s", short(before), short(wholeTerms(list)))
		}
	}
}

// scribble overwrites the lists of terms, and what is behind them.
func scribble(list []api.Term) {
	list = list[:cap(list)]
	for i := range list {
		scribble(list[i].Args)
		list[i] = number(98)
	}
}

func scribbleBinds(b api.Binds) {
	b = b[:cap(b)]
	for i := range b {
		scribble(b[i].Term.Args)
		b[i] = bind(97, number(98))
	}
}

// maker makes random terms and substitutions, valid or not.
type maker struct {
	random *rand.Rand
	// valid leaves out what is not valid.
	valid bool
	// vars is the number of different variables of terms and substitutions.
	vars int
}

func newMaker(seed uint64) *maker {
	return &maker{random: rand.New(rand.NewPCG(seed, 6)), vars: 6}
}

func pick[T any](g *maker, list ...T) T { return list[g.random.IntN(len(list))] }

// variable returns the number of a variable: one of a few, so that different parts have the same ones.
func (g *maker) variable() int {
	v := g.random.IntN(g.vars)
	switch {
	case !g.valid && g.random.IntN(20) == 0:
		return pick(g, noVars...)
	case v == 5:
		return api.MaxVar
	}
	return v
}

// term returns a term with at most a number of levels.
func (g *maker) term(levels int) api.Term {
	if !g.valid && g.random.IntN(12) == 0 {
		return filled(g.rightTerm(levels))
	}
	if !g.valid && g.random.IntN(12) == 0 {
		return pick(g, unknown(pick(g, unknownKinds...)), api.Term{Kind: pick(g, unknownKinds...)}, functor("F", g.list(levels)...), functor("+", g.list(levels)...))
	}
	return g.rightTerm(levels)
}

func (g *maker) rightTerm(levels int) api.Term {
	kind := g.random.IntN(10)
	switch {
	case levels > 1 && kind < 3:
		return functor(pick(g, "f", "g"), g.list(levels)...)
	case levels > 1 && kind < 4:
		return functor(pick(g, operators...), g.term(levels-1), g.term(levels-1))
	case kind < 8:
		return variable(g.variable())
	case kind < 9:
		return functor("a")
	}
	return number(pick(g, 0, 1, 2, -3, api.MaxInt))
}

func (g *maker) list(levels int) []api.Term {
	var list []api.Term
	for range g.random.IntN(4) {
		if levels > 1 {
			list = append(list, g.term(levels-1))
		}
	}
	return list
}

// binds returns a list of at most a number of bindings, mostly in ascending order.
func (g *maker) binds(length, levels int) api.Binds {
	var b api.Binds
	for range g.random.IntN(length + 1) {
		b = append(b, bind(g.variable(), g.term(g.random.IntN(levels)+1)))
	}
	if g.random.IntN(4) > 0 {
		slices.SortStableFunc(b, func(x, y api.Bind) int { return cmp.Compare(x.Var, y.Var) })
	}
	return roomy(b)
}

// solved returns a substitution in solved form.
func (g *maker) solved(levels int) api.Binds {
	g.valid = true
	var bound, free []int
	for _, v := range []int{0, 1, 2, 3, 4, api.MaxVar} {
		if g.random.IntN(2) == 0 {
			bound = append(bound, v)
		} else {
			free = append(free, v)
		}
	}
	var b api.Binds
	for _, v := range bound {
		b = append(b, bind(v, onlyVars(g.term(levels), free)))
	}
	return roomy(b)
}

// onlyVars returns a term with its variables replaced by those of a list, or by an integer if the list is empty.
func onlyVars(t api.Term, vars []int) api.Term {
	if t.Kind == api.TVar && len(vars) == 0 {
		return number(4)
	}
	if t.Kind == api.TVar {
		return variable(vars[t.Int%len(vars)])
	}
	var args []api.Term
	for _, arg := range t.Args {
		args = append(args, onlyVars(arg, vars))
	}
	t.Args = args
	return t
}
