package match

import (
	"cmp"
	"fmt"
	"math"
	"math/rand/v2"
	"slices"
	"strings"
	"testing"

	"constraint/api"
	"constraint/termtext"
)

var (
	operators    = []string{"+", "-", "*", "/", "%"}
	reserved     = []string{"constraint", "true", "fail", "is", "int", "ground"}
	unknownKinds = []int{3, 4, 9, -1, -2, 99, 1 << 32, 1<<32 + 1, 1<<32 + 2, math.MaxInt, math.MinInt}
	// noVars are numbers that no variable of a valid term has.
	noVars = []int{-1, -2, api.MaxVar + 1, api.MaxVar + 2, 1 << 32, -1 << 32, math.MaxInt, math.MinInt}
)

// number, variable, functor and unknown build terms, whatever package term does.
func number(n int) api.Term { return api.Term{Kind: api.TInt, Int: n} }

func variable(n int) api.Term { return api.Term{Kind: api.TVar, Int: n} }

func functor(name string, args ...api.Term) api.Term {
	return api.Term{Kind: api.TFun, Name: name, Args: args}
}

// unknown returns a term of an unknown kind, which has no arguments, although the variable 0 is in its list.
func unknown(kind int) api.Term {
	return api.Term{Kind: kind, Int: 0, Name: "f", Args: []api.Term{variable(0)}}
}

func atom(name string, args ...api.Term) api.Atom { return api.Atom{Name: name, Args: args} }

func goal(op int, args ...api.Term) api.Goal { return api.Goal{Op: op, Args: args} }

func bind(v int, t api.Term) api.Bind { return api.Bind{Var: v, Term: t} }

// filled returns a term whose fields, as far as its kind does not use them, are not zero.
func filled(t api.Term) api.Term {
	if t.Kind == api.TFun {
		t.Int = 1
		return t
	}
	t.Args = []api.Term{variable(0), functor("g", variable(1), variable(2))}
	if t.Kind == api.TInt || t.Kind == api.TVar {
		t.Name = "f"
	}
	return t
}

// wide returns a functor with arguments that a function makes of their numbers.
func wide(args int, arg func(i int) api.Term) api.Term {
	t := functor("w")
	for i := range args {
		t.Args = append(t.Args, arg(i))
	}
	return t
}

// high returns a term with a number of levels above another term.
func high(levels int, inner api.Term) api.Term {
	for range levels {
		inner = functor("s", inner)
	}
	return inner
}

// invalidTerms returns terms that are not valid by themselves.
func invalidTerms() []api.Term {
	list := []api.Term{
		number(api.MaxInt + 1), number(-api.MaxInt - 1), number(math.MaxInt), number(math.MinInt),
		filled(number(1)), filled(variable(5)), filled(functor("a")), filled(functor("f", variable(5))), filled(unknown(9)),
		functor(""), functor("A"), functor("V0"), functor("_"), functor("1"), functor("f("), functor(strings.Repeat("z", api.MaxName+1)),
		wide(api.MaxNodes, number), wide(api.MaxNodes, variable), high(api.MaxDepth, number(1)), functor("f", make([]api.Term, api.MaxArity+1)...),
	}
	for _, v := range noVars {
		list = append(list, variable(v))
	}
	for _, kind := range unknownKinds {
		list = append(list, unknown(kind), api.Term{Kind: kind})
	}
	for _, word := range reserved {
		list = append(list, functor(word))
	}
	for _, op := range operators {
		list = append(list, functor(op), functor(op, number(1)), functor(op, make([]api.Term, 3)...))
	}
	return list
}

// smallTerms returns all terms with at most a number of levels, made of a few leaves and functors.
func smallTerms(levels int) []api.Term {
	list := []api.Term{variable(0), variable(1), number(0), functor("a")}
	if levels == 1 {
		return list
	}
	below := smallTerms(levels - 1)
	for _, x := range below {
		list = append(list, functor("f", x))
		for _, y := range below {
			list = append(list, functor("f", x, y))
		}
	}
	return append(list, functor("g", variable(0), functor("a")))
}

// smallEnvs returns environments of all lists of at most two bindings of a few variables, and some longer ones.
func smallEnvs() [][]api.Bind {
	list := [][]api.Bind{nil, {}}
	values := []api.Term{variable(0), functor("a"), functor("f", variable(1))}
	vars := []int{0, 1, 2}
	for _, v := range vars {
		for _, x := range values {
			list = append(list, []api.Bind{bind(v, x)})
			for _, w := range vars {
				list = append(list, []api.Bind{bind(v, x), bind(w, functor("a"))}, []api.Bind{bind(v, x), bind(w, number(0))})
			}
		}
	}
	return append(list, []api.Bind{bind(3, number(1)), bind(0, functor("a")), bind(3, number(2)), bind(0, number(0)), bind(-1, number(3))})
}

// read returns the term of a text.
func read(t *testing.T, text string) api.Term {
	t.Helper()
	x, e := termtext.Parse(text)
	if e != api.OK {
		t.Fatalf("%q is no term", text)
	}
	return x
}

// bindings reads an environment such as "V0 = f(V2); V1 = 3", in any order.
func bindings(t *testing.T, text string) []api.Bind {
	t.Helper()
	var list []api.Bind
	for _, one := range strings.Split(text, ";") {
		if left, right, ok := strings.Cut(one, "="); ok {
			list = append(list, bind(read(t, left).Int, read(t, right)))
		}
	}
	return list
}

// copyTerm and copyEnv return copies that share no memory with a value.
func copyTerm(t api.Term) api.Term {
	if t.Args == nil {
		return t
	}
	args := make([]api.Term, 0, len(t.Args))
	for _, arg := range t.Args {
		args = append(args, copyTerm(arg))
	}
	t.Args = args
	return t
}

func copyEnv(env []api.Bind) []api.Bind {
	var list []api.Bind
	for _, x := range env {
		list = append(list, bind(x.Var, copyTerm(x.Term)))
	}
	return list
}

// equal compares all fields of two terms, also those that are not used. An empty list may be nil.
func equal(a, b api.Term) bool {
	return a.Kind == b.Kind && a.Int == b.Int && a.Name == b.Name && slices.EqualFunc(a.Args, b.Args, equal)
}

func equalEnvs(a, c []api.Bind) bool {
	return slices.EqualFunc(a, c, func(x, y api.Bind) bool { return x.Var == y.Var && equal(x.Term, y.Term) })
}

// short writes a value that may be too large for a message.
func short(x any) string { return fmt.Sprintf("%.300s", fmt.Sprint(x)) }

// roomy returns an environment whose lists, as far as they are not empty, have room behind their ends, with bindings and
// terms in it that would be noticed if they were used.
func roomy(env []api.Bind) []api.Bind {
	list := make([]api.Bind, 0, len(env)+2)
	for _, x := range env {
		list = append(list, bind(x.Var, roomyTerm(x.Term)))
	}
	_ = append(list, bind(0, number(77)), bind(1, number(78)))
	return list
}

func roomyTerm(t api.Term) api.Term {
	if len(t.Args) > 0 {
		t.Args = roomyTerms(t.Args)
	}
	return t
}

func roomyTerms(terms []api.Term) []api.Term {
	list := make([]api.Term, 0, len(terms)+1)
	for _, t := range terms {
		list = append(list, roomyTerm(t))
	}
	_ = append(list, variable(0))
	return list
}

// whole and wholeTerms return copies with what is behind the ends of the lists.
func whole(env []api.Bind) []api.Bind {
	var list []api.Bind
	for _, x := range env[:cap(env)] {
		x.Term.Args = wholeTerms(x.Term.Args)
		list = append(list, x)
	}
	return list
}

func wholeTerms(terms []api.Term) []api.Term {
	var list []api.Term
	for _, t := range terms[:cap(terms)] {
		t.Args = wholeTerms(t.Args)
		list = append(list, t)
	}
	return list
}

// watch returns a function that reports whether an environment and terms have changed since.
func watch(t *testing.T, env []api.Bind, list ...api.Term) func() {
	t.Helper()
	envBefore, before := whole(env), wholeTerms(list)
	return func() {
		t.Helper()
		if !equalEnvs(whole(env), envBefore) {
			t.Errorf("the environment %s was changed to %s", short(envBefore), short(whole(env)))
		}
		if !slices.EqualFunc(wholeTerms(list), before, equal) {
			t.Errorf("the terms %s were changed to %s", short(before), short(wholeTerms(list)))
		}
	}
}

// memory checks that no two lists of a result share memory.
type memory map[*api.Term]bool

func (m memory) check(t *testing.T, list []api.Term) {
	t.Helper()
	if cap(list) == 0 {
		return
	}
	first := &list[:1][0]
	if m[first] {
		t.Errorf("two lists of a result share memory: %s", short(list))
	}
	m[first] = true
	for _, x := range list {
		m.check(t, x.Args)
	}
}

// scribble overwrites the lists of terms, and what is behind them.
func scribble(list []api.Term) {
	list = list[:cap(list)]
	for i := range list {
		scribble(list[i].Args)
		list[i] = number(98)
	}
}

func scribbleEnv(env []api.Bind) {
	env = env[:cap(env)]
	for i := range env {
		scribble(env[i].Term.Args)
		env[i] = bind(97, number(98))
	}
}

// maker makes random terms and environments, valid or not.
type maker struct{ random *rand.Rand }

func newMaker(seed uint64) *maker { return &maker{random: rand.New(rand.NewPCG(seed, 8))} }

func pick[T any](g *maker, list ...T) T { return list[g.random.IntN(len(list))] }

// variable returns the number of a variable: one of a few, so that different parts have the same ones.
func (g *maker) variable() int {
	if g.random.IntN(20) == 0 {
		return pick(g, noVars...)
	}
	return pick(g, 0, 1, 2, 3, 4, api.MaxVar)
}

// term returns a term with at most a number of levels.
func (g *maker) term(levels int) api.Term {
	switch g.random.IntN(16) {
	case 0:
		return filled(g.rightTerm(levels))
	case 1:
		return pick(g, unknown(pick(g, unknownKinds...)), api.Term{Kind: pick(g, unknownKinds...)}, functor("F", g.list(levels)...), functor("+", g.list(levels)...))
	}
	return g.rightTerm(levels)
}

func (g *maker) rightTerm(levels int) api.Term {
	kind := g.random.IntN(10)
	switch {
	case levels > 1 && kind < 3:
		return functor(pick(g, "f", "g"), g.list(levels)...)
	case levels > 1 && kind < 4:
		return functor(pick(g, operators...), g.term(levels-1), g.term(levels-1))
	case kind < 8:
		return variable(g.variable())
	case kind < 9:
		return functor("a")
	}
	return number(pick(g, 0, 1, 2, -3, api.MaxInt))
}

func (g *maker) list(levels int) []api.Term {
	var list []api.Term
	for range g.random.IntN(4) {
		if levels > 1 {
			list = append(list, g.term(levels-1))
		}
	}
	return list
}

// env returns a list of at most a number of bindings, mostly in ascending order.
func (g *maker) env(length int) []api.Bind {
	var env []api.Bind
	for range g.random.IntN(length + 1) {
		env = append(env, bind(g.variable(), g.term(g.random.IntN(3)+1)))
	}
	if g.random.IntN(4) > 0 {
		slices.SortStableFunc(env, func(x, y api.Bind) int { return cmp.Compare(x.Var, y.Var) })
	}
	return roomy(env)
}

// target returns a term that a pattern probably matches in an environment: the pattern with terms in the place of its
// variables, most of the time the same ones for the same variable.
func (g *maker) target(env []api.Bind, pattern api.Term) api.Term {
	return roomyTerm(g.fill(wantEntries(env), copyTerm(pattern)))
}

func (g *maker) fill(values map[int]api.Term, t api.Term) api.Term {
	if g.random.IntN(25) == 0 {
		return g.term(2)
	}
	if t.Kind == api.TFun {
		for i := range t.Args {
			t.Args[i] = g.fill(values, t.Args[i])
		}
		return t
	}
	if t.Kind != api.TVar {
		return t
	}
	if _, ok := values[t.Int]; !ok {
		values[t.Int] = g.term(3)
	}
	return copyTerm(values[t.Int])
}
