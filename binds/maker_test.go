package binds

import (
	"cmp"
	"fmt"
	"math"
	"math/rand/v2"
	"reflect"
	"slices"
	"strings"
	"testing"

	"constraint/api"
	"constraint/termtext"
)

var (
	operators    = []string{"+", "-", "*", "/", "%"}
	reserved     = []string{"constraint", "true", "fail", "is", "int", "ground"}
	unknownKinds = []int{3, 4, 9, -1, -2, 99, 1 << 32, 1<<32 + 1, 1<<32 + 2, math.MaxInt, math.MinInt}
	// noVars are numbers that no variable of a valid term has.
	noVars = []int{-1, -2, api.MaxVar + 1, api.MaxVar + 2, 1 << 32, -1 << 32, math.MaxInt, math.MinInt}
)

// number, variable and functor build terms, whatever package term does.
func number(n int) api.Term { return api.Term{Kind: api.TInt, Int: n} }

func variable(n int) api.Term { return api.Term{Kind: api.TVar, Int: n} }

func functor(name string, args ...api.Term) api.Term {
	return api.Term{Kind: api.TFun, Name: name, Args: args}
}

func bind(v int, t api.Term) api.Bind { return api.Bind{Var: v, Term: t} }

// read returns the term of a text.
func read(t *testing.T, text string) api.Term {
	t.Helper()
	x, e := termtext.Parse(strings.TrimSpace(text))
	if e != api.OK {
		t.Fatalf("%q is no term", text)
	}
	return x
}

// equation reads an equation such as "f(V0) = V1".
func equation(t *testing.T, text string) (left, right api.Term) {
	t.Helper()
	a, b, _ := strings.Cut(text, "=")
	return read(t, a), read(t, b)
}

// store reads a list of bindings such as "V0 = f(V2); V1 = 3".
func store(t *testing.T, text string) api.Binds {
	t.Helper()
	var list api.Binds
	for _, one := range strings.Split(text, ";") {
		if text != "" {
			left, right := equation(t, one)
			list = append(list, bind(left.Int, right))
		}
	}
	return list
}

// wide returns a term with a number of nodes, which is as flat as MaxArity permits; its leaves are copies of a term of
// one node.
func wide(nodes int, leaf api.Term) api.Term {
	if nodes == 1 {
		return leaf
	}
	t := functor("f")
	for left, places := nodes-1, api.MaxArity; left > 0; places-- {
		share := (left + places - 1) / places
		t.Args = append(t.Args, wide(share, leaf))
		left -= share
	}
	return t
}

// high returns a term with a number of levels above another term.
func high(levels int, inner api.Term) api.Term {
	for range levels {
		inner = functor("s", inner)
	}
	return inner
}

// invalidTerms returns terms that are not valid.
func invalidTerms() []api.Term {
	other := []api.Term{variable(0)}
	list := []api.Term{
		number(api.MaxInt + 1), number(-api.MaxInt - 1), number(math.MaxInt), number(math.MinInt),
		{Kind: api.TInt, Name: "f"}, {Kind: api.TInt, Args: other}, {Kind: api.TVar, Name: "f"}, {Kind: api.TVar, Args: other}, {Kind: api.TFun, Name: "a", Int: 1}, {Kind: api.TFun, Name: "f", Int: -1, Args: other},
		functor(""), functor("A"), functor("V0"), functor("_"), functor("1"), functor("f("), functor(strings.Repeat("z", api.MaxName+1)),
		wide(api.MaxNodes+1, number(1)), wide(api.MaxNodes+1, variable(1)), high(api.MaxDepth, number(1)), high(api.MaxDepth, variable(1)), functor("f", make([]api.Term, api.MaxArity+1)...),
		functor("f", number(1), variable(-1)), functor("f", functor("g", number(1), functor("F"))), functor("+", number(1), number(api.MaxInt+1)),
	}
	for _, v := range noVars {
		list = append(list, variable(v))
	}
	for _, kind := range unknownKinds {
		list = append(list, api.Term{Kind: kind, Name: "f", Args: other}, api.Term{Kind: kind})
	}
	for _, word := range reserved {
		list = append(list, functor(word))
	}
	for _, op := range operators {
		list = append(list, functor(op), functor(op, number(1)), functor(op, make([]api.Term, 3)...))
	}
	return list
}

// invalidStores returns lists of bindings that are not in solved form.
func invalidStores() []api.Binds {
	a, v, f := functor("a"), variable, functor
	list := []api.Binds{
		// descending or repeated variables
		{bind(1, a), bind(0, a)}, {bind(0, a), bind(0, a)}, {bind(0, a), bind(0, number(1))}, {bind(0, v(9)), bind(0, v(9))}, {bind(0, a), bind(3, a), bind(2, a)}, {bind(0, a), bind(3, a), bind(3, a)}, {bind(5, a), bind(3, a), bind(4, a)}, {bind(api.MaxVar, a), bind(0, a)},
		// a variable that occurs in its own term, in an earlier one and in a later one
		{bind(0, v(0))}, {bind(0, f("f", v(0)))}, {bind(3, f("f", number(1), f("g", v(3))))}, {bind(api.MaxVar, v(api.MaxVar))},
		{bind(0, v(1)), bind(1, a)}, {bind(0, a), bind(1, v(0))}, {bind(0, f("f", v(1))), bind(1, v(2))}, {bind(0, v(2)), bind(1, f("f", a, v(0)))}, {bind(0, a), bind(1, v(3)), bind(2, f("g", f("g", v(1))))}, {bind(0, v(1)), bind(1, v(0))}, {bind(0, f("f", v(1))), bind(1, f("f", v(0)))}, {bind(2, v(1)), bind(3, v(2))},
	}
	for _, n := range noVars {
		list = append(list, api.Binds{bind(n, a)}, api.Binds{bind(0, a), bind(n, number(1))}, api.Binds{bind(n, a), bind(3, a)})
	}
	for _, bad := range invalidTerms() {
		list = append(list, api.Binds{bind(0, bad)}, api.Binds{bind(2, bad)}, api.Binds{bind(0, a), bind(3, bad), bind(7, v(8))}, api.Binds{bind(3, functor("f", number(1), bad))})
	}
	return list
}

// cyclic returns a term that contains itself.
func cyclic() api.Term {
	t := functor("f", number(1), number(2))
	t.Args[1] = t
	return t
}

// equal compares all fields of two terms, also those that are not used. An empty list may be nil.
func equal(a, b api.Term) bool {
	return a.Kind == b.Kind && a.Int == b.Int && a.Name == b.Name && slices.EqualFunc(a.Args, b.Args, equal)
}

func equalBinds(a, c api.Binds) bool {
	return slices.EqualFunc(a, c, func(x, y api.Bind) bool { return x.Var == y.Var && equal(x.Term, y.Term) })
}

// short writes a value that may be too large for a message.
func short(x any) string { return fmt.Sprintf("%.300s", fmt.Sprint(x)) }

// checkCounts checks that random or small arguments led often enough to each of some results.
func checkCounts[T api.Errno | int](t *testing.T, counts map[T]int, least int, kinds ...T) {
	t.Helper()
	for _, kind := range kinds {
		if counts[kind] < least {
			t.Errorf("only %d calls returned %d", counts[kind], kind)
		}
	}
}

// roomyTerms returns a copy whose lists have room behind their ends, with terms in it that would be noticed if they were
// used.
func roomyTerms(terms []api.Term) []api.Term {
	list := make([]api.Term, 0, len(terms)+1)
	for _, t := range terms {
		if len(t.Args) > 0 {
			t.Args = roomyTerms(t.Args)
		}
		list = append(list, t)
	}
	_ = append(list, functor("behind"))
	return list
}

// roomy does the same for a store.
func roomy(b api.Binds) api.Binds {
	list := make(api.Binds, 0, len(b)+1)
	for _, x := range b {
		list = append(list, bind(x.Var, roomyTerms([]api.Term{x.Term})[0]))
	}
	_ = append(list, bind(96, functor("behind")))
	return list
}

// wholeTerms returns a copy with what is behind the ends of the lists.
func wholeTerms(terms []api.Term) []api.Term {
	var list []api.Term
	for _, t := range terms[:cap(terms)] {
		t.Args = wholeTerms(t.Args)
		list = append(list, t)
	}
	return list
}

// whole does the same for a store.
func whole(b api.Binds) api.Binds {
	var list api.Binds
	for _, x := range b[:cap(b)] {
		list = append(list, bind(x.Var, wholeTerms([]api.Term{x.Term})[0]))
	}
	return list
}

// watch returns a function that reports whether stores and terms have changed since.
func watch(t *testing.T, terms []api.Term, stores ...api.Binds) func() {
	t.Helper()
	termsBefore := wholeTerms(terms)
	var before []api.Binds
	for _, b := range stores {
		before = append(before, whole(b))
	}
	return func() {
		t.Helper()
		if !reflect.DeepEqual(wholeTerms(terms), termsBefore) {
			t.Errorf("the terms %s were changed to %s", short(termsBefore), short(wholeTerms(terms)))
		}
		for i, b := range stores {
			if !reflect.DeepEqual(whole(b), before[i]) {
				t.Errorf("the store %s was changed to %s", short(before[i]), short(whole(b)))
			}
		}
	}
}

// scribbleTerms overwrites the lists of terms, and what is behind them.
func scribbleTerms(list []api.Term) {
	list = list[:cap(list)]
	for i := range list {
		scribbleTerms(list[i].Args)
		list[i] = number(98)
	}
}

// scribble does the same for a store.
func scribble(b api.Binds) {
	b = b[:cap(b)]
	for i := range b {
		scribbleTerms(b[i].Term.Args)
		b[i] = bind(97, number(98))
	}
}

// checkOwnMemory checks that no two lists of a store, which make returns anew each time, are the same memory.
func checkOwnMemory(t *testing.T, make func() api.Binds) {
	t.Helper()
	want := make()
	for i := range want {
		got := make()
		scribbleTerms(got[i].Term.Args)
		for k := range got {
			if k != i && !equal(got[k].Term, want[k].Term) {
				t.Errorf("a change of the term of V%d changes that of V%d", want[i].Var, want[k].Var)
			}
		}
		for k := range want[i].Term.Args {
			got = make()
			args := got[i].Term.Args
			scribbleTerms(args[k].Args)
			args[k] = want[i].Term.Args[k]
			if !equal(got[i].Term, want[i].Term) {
				t.Errorf("a change of argument %d of the term of V%d changes another one", k, want[i].Var)
			}
		}
	}
}

// maker makes random terms and stores.
type maker struct {
	random *rand.Rand
	// vars are the variables of the terms.
	vars []int
}

func newMaker(seed uint64, vars ...int) *maker {
	return &maker{random: rand.New(rand.NewPCG(seed, 10)), vars: vars}
}

func pick[T any](g *maker, list ...T) T { return list[g.random.IntN(len(list))] }

// term returns a term with at most a number of levels.
func (g *maker) term(levels int) api.Term {
	kind := g.random.IntN(12)
	switch {
	case levels > 1 && kind < 6:
		return g.functor(pick(g, "f", "f", "g", "+"), levels)
	case kind < 10:
		return variable(pick(g, g.vars...))
	case kind < 11:
		return functor(pick(g, "a", "b"))
	}
	return number(pick(g, 0, 1, -3, api.MaxInt))
}

func (g *maker) functor(name string, levels int) api.Term {
	t := functor(name)
	for range map[string]int{"f": 2, "g": 1, "+": 2}[name] {
		t.Args = append(t.Args, g.term(levels-1))
	}
	return t
}

// expression returns a term that is mostly an arithmetic expression.
func (g *maker) expression(levels int) api.Term {
	kind := g.random.IntN(20)
	switch {
	case levels > 1 && kind < 12:
		return functor(pick(g, operators...), g.expression(levels-1), g.expression(levels-1))
	case kind < 14:
		return variable(pick(g, g.vars...))
	case kind < 19:
		return number(pick(g, 0, 1, 2, 3, -7, 46341, api.MaxInt, -api.MaxInt))
	}
	return g.term(levels)
}

// blurred returns a term with variables in the place of some of its subterms, as the term and the result probably have a
// unifier.
func (g *maker) blurred(t api.Term) api.Term {
	if g.random.IntN(5) == 0 {
		return variable(pick(g, g.vars...))
	}
	var args []api.Term
	for _, arg := range t.Args {
		args = append(args, g.blurred(arg))
	}
	t.Args = args
	return t
}

// pair returns two terms that are related more or less.
func (g *maker) pair(levels int) (s, t api.Term) {
	t = g.term(levels)
	switch g.random.IntN(4) {
	case 0:
		return g.term(levels), t
	case 1:
		return t, g.blurred(t)
	}
	return g.blurred(t), g.blurred(t)
}

// told returns a store to which some equations were told, one after the other, as far as this is possible.
func (g *maker) told(equations [][2]api.Term) api.Binds {
	var b api.Binds
	for _, x := range equations {
		if c, _, e := wantTell(b, x[0], x[1]); e == api.OK {
			b = c
		}
	}
	return g.turned(b)
}

// store returns a store that may bind variables to greater ones.
func (g *maker) store(count, levels int) api.Binds {
	var equations [][2]api.Term
	for range g.random.IntN(count + 1) {
		x, y := g.pair(levels)
		equations = append(equations, [2]api.Term{x, y})
	}
	return g.told(equations)
}

// values returns a store that binds variables to integers and expressions.
func (g *maker) values() api.Binds {
	var equations [][2]api.Term
	for range 6 {
		t := g.expression(2)
		if g.random.IntN(2) == 0 {
			t = number(pick(g, 0, 1, 2, -5, api.MaxInt))
		}
		equations = append(equations, [2]api.Term{variable(pick(g, g.vars...)), t})
	}
	return g.told(equations)
}

// stairs returns equations between variables and terms with later variables, in any order, so that their solved form is
// large or deep.
func (g *maker) stairs(count int) (list [][2]api.Term) {
	vars := g.random.Perm(count + 1)
	for i := range count {
		later := func() api.Term { return variable(vars[i+1+g.random.IntN(count-i)]) }
		t := pick(g, high(g.random.IntN(16), later()), functor("f", later(), later(), later()), functor("g", wide(1+g.random.IntN(30), number(1)), later(), later()), functor("h", later(), number(2), later(), later(), later()))
		list = append(list, [2]api.Term{variable(vars[i]), t})
	}
	g.random.Shuffle(count, func(i, k int) { list[i], list[k] = list[k], list[i] })
	return list
}

// climbed returns a store with large or deep terms, and an equation that often makes one of them too large or too deep.
func (g *maker) climbed(count int) (b api.Binds, s, t api.Term) {
	for _, x := range g.stairs(count) {
		s, t = x[0], x[1]
		c, _, e := wantTell(b, s, t)
		if e != api.OK {
			break
		}
		b = c
	}
	return g.turned(b), s, t
}

// turned turns some of the bindings of a variable to a variable, so that the store has the same unifiers.
func (g *maker) turned(b api.Binds) api.Binds {
	b = slices.Clone(b)
	for i, x := range b {
		if x.Term.Kind != api.TVar || g.random.IntN(2) == 0 {
			continue
		}
		for k := range b {
			b[k].Term = wantReplaced(b[k].Term, x.Term.Int, variable(x.Var))
		}
		b[i] = bind(x.Term.Int, variable(x.Var))
	}
	slices.SortFunc(b, func(x, y api.Bind) int { return cmp.Compare(x.Var, y.Var) })
	return b
}

// smallStores returns all stores that bind three variables at most to some terms.
func smallStores() (list []api.Binds) {
	v, f := variable, functor
	all := []api.Binds{nil}
	for i := range 3 {
		for _, b := range all {
			for _, x := range []api.Term{f("a"), number(2), v(0), v(1), v(2), v(3), f("g", v(0)), f("g", v(1)), f("g", v(2)), f("g", f("a")), f("f", v(1), v(2)), f("f", v(0), v(2)), f("f", v(3), v(3))} {
				all = append(all, append(slices.Clip(b), bind(i, x)))
			}
		}
	}
	for _, b := range all {
		if wantStore(b) {
			list = append(list, b)
		}
	}
	return list
}

// smallTerms returns some terms whose variables those stores have.
func smallTerms() []api.Term {
	v, f := variable, functor
	return []api.Term{v(0), v(1), v(2), v(3), f("a"), number(2), f("g", v(0)), f("g", v(1)), f("g", v(2)), f("g", f("g", v(0))), f("f", v(0), v(1)), f("f", v(1), v(0)), f("f", v(2), v(2)), f("f", f("a"), v(3)), f("f", v(0), f("g", v(1)))}
}
