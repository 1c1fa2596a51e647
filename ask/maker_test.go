package ask

import (
	"fmt"
	"math"
	"math/rand/v2"
	"reflect"
	"slices"
	"strings"
	"testing"

	"constraint/api"
	"constraint/termtext"
)

var (
	operators    = []string{"+", "-", "*", "/", "%"}
	reserved     = []string{"constraint", "true", "fail", "is", "int", "ground"}
	unknownKinds = []int{3, 4, 9, -1, -2, 99, 1 << 32, 1<<32 + 1, 1<<32 + 2, math.MaxInt, math.MinInt}
	// noVars are numbers that no variable of a valid term has.
	noVars = []int{-1, -2, api.MaxVar + 1, api.MaxVar + 2, 1 << 32, -1 << 32, math.MaxInt, math.MinInt}
	// noOps are numbers that no operator of a goal has.
	noOps = []int{-1, -2, -5, -8, 13, 14, 100, 1<<32 + 5, 1<<32 + 8, -1 << 32, math.MaxInt, math.MinInt}
	// tests are the operators of tests, comparisons those that compare values, and others those of other valid goals.
	tests       = []int{api.OpSame, api.OpApart, api.OpLess, api.OpLeq, api.OpEqual, api.OpUnequal, api.OpInt, api.OpGround}
	comparisons = []int{api.OpLess, api.OpLeq, api.OpEqual, api.OpUnequal}
	others      = []int{api.OpCall, api.OpTrue, api.OpFail, api.OpUnify, api.OpIs}
)

// number, variable and functor build terms, whatever package term does.
func number(n int) api.Term { return api.Term{Kind: api.TInt, Int: n} }

func variable(n int) api.Term { return api.Term{Kind: api.TVar, Int: n} }

func functor(name string, args ...api.Term) api.Term {
	return api.Term{Kind: api.TFun, Name: name, Args: args}
}

func bind(v int, t api.Term) api.Bind { return api.Bind{Var: v, Term: t} }

func goalOf(op int, args ...api.Term) api.Goal { return api.Goal{Op: op, Args: args} }

// read returns the term of a text.
func read(t *testing.T, text string) api.Term {
	t.Helper()
	x, e := termtext.Parse(strings.TrimSpace(text))
	if e != api.OK {
		t.Fatalf("%q is no term", text)
	}
	return x
}

// goal reads a goal such as "V0 < 3", "int(V0)" or "p(V0, a)".
func goal(t *testing.T, text string) api.Goal {
	t.Helper()
	for op, symbol := range map[int]string{api.OpUnify: "=", api.OpIs: "is", api.OpSame: "==", api.OpApart: `\=`, api.OpLess: "<", api.OpLeq: "=<", api.OpEqual: "=:=", api.OpUnequal: `=\=`} {
		if left, right, ok := strings.Cut(text, " "+symbol+" "); ok {
			return goalOf(op, read(t, left), read(t, right))
		}
	}
	for op, word := range map[int]string{api.OpInt: "int", api.OpGround: "ground"} {
		if rest, ok := strings.CutPrefix(text, word+"("); ok {
			return goalOf(op, read(t, strings.TrimSuffix(rest, ")")))
		}
	}
	switch text {
	case "true":
		return goalOf(api.OpTrue)
	case "fail":
		return goalOf(api.OpFail)
	}
	a, e := termtext.ParseAtom(text)
	if e != api.OK {
		t.Fatalf("%q is no goal", text)
	}
	return api.Goal{Op: api.OpCall, Name: a.Name, Args: a.Args}
}

// goals reads a list of goals such as "V0 < 3; p".
func goals(t *testing.T, text string) (list []api.Goal) {
	t.Helper()
	for _, one := range strings.Split(text, ";") {
		if text != "" {
			list = append(list, goal(t, strings.TrimSpace(one)))
		}
	}
	return list
}

// store reads a list of bindings, in solved form or not, such as "V0 = f(V2); V1 = 3".
func store(t *testing.T, text string) (b api.Binds) {
	t.Helper()
	for _, g := range goals(t, text) {
		b = append(b, bind(g.Args[0].Int, g.Args[1]))
	}
	return b
}

// wide returns a term with a number of nodes, which is as flat as MaxArity permits; its leaves are copies of a term of
// one node.
func wide(nodes int, leaf api.Term) api.Term {
	if nodes == 1 {
		return leaf
	}
	t := functor("f")
	for left, places := nodes-1, api.MaxArity; left > 0; places-- {
		share := (left + places - 1) / places
		t.Args = append(t.Args, wide(share, leaf))
		left -= share
	}
	return t
}

// high returns a term with a number of levels above another term.
func high(levels int, inner api.Term) api.Term {
	for range levels {
		inner = functor("s", inner)
	}
	return inner
}

// tuple returns a term that contains the terms of a list.
func tuple(list []api.Term) api.Term {
	if len(list) == 1 {
		return list[0]
	}
	t := functor("t")
	for part := range slices.Chunk(list, (len(list)+api.MaxArity-1)/api.MaxArity) {
		t.Args = append(t.Args, tuple(part))
	}
	return t
}

// doubled returns two terms whose unifier has terms that are far too large to be built.
func doubled(count int) (a, b api.Term) {
	var left, right []api.Term
	for i := range count {
		left, right = append(left, variable(i+1)), append(right, functor("f", variable(i), variable(i)))
	}
	return tuple(left), tuple(right)
}

// invalidTerms returns terms that are not valid.
func invalidTerms() []api.Term {
	other := []api.Term{variable(0)}
	list := []api.Term{
		number(api.MaxInt + 1), number(-api.MaxInt - 1), number(math.MaxInt), number(math.MinInt),
		{Kind: api.TInt, Name: "f"}, {Kind: api.TInt, Args: other}, {Kind: api.TVar, Name: "f"}, {Kind: api.TVar, Args: other}, {Kind: api.TFun, Name: "a", Int: 1}, {Kind: api.TFun, Name: "f", Int: -1, Args: other}, {Kind: api.TFun, Name: "+", Int: 2, Args: []api.Term{number(1), number(2)}},
		functor(""), functor("A"), functor("V0"), functor("_"), functor("1"), functor("f("), functor("^", number(1), number(2)), functor(strings.Repeat("z", api.MaxName+1)),
		wide(api.MaxNodes+1, number(1)), wide(api.MaxNodes+1, variable(1)), high(api.MaxDepth, number(1)), high(api.MaxDepth, variable(1)), functor("f", make([]api.Term, api.MaxArity+1)...),
		functor("f", number(1), variable(-1)), functor("f", functor("g", number(1), functor("F"))), functor("+", number(1), number(api.MaxInt+1)), functor("+", number(1), functor("+", number(1))),
	}
	for _, v := range noVars {
		list = append(list, variable(v))
	}
	for _, kind := range unknownKinds {
		list = append(list, api.Term{Kind: kind, Name: "f", Args: other}, api.Term{Kind: kind}, api.Term{Kind: kind, Int: 1})
	}
	for _, word := range reserved {
		list = append(list, functor(word))
	}
	for _, op := range operators {
		list = append(list, functor(op), functor(op, number(1)), functor(op, make([]api.Term, 3)...))
	}
	return list
}

// invalidGoals returns goals that are not valid, with operators of all kinds. Most would have another result than Refuted
// if they were.
func invalidGoals() (list []api.Goal) {
	n, v := number(1), variable(0)
	named := func(name string, op int, args ...api.Term) api.Goal { return api.Goal{Op: op, Name: name, Args: args} }
	list = append(list, goalOf(api.OpTrue, v), goalOf(api.OpTrue, n, n), named("true", api.OpTrue), named("p", api.OpTrue), goalOf(api.OpFail, v), named("p", api.OpFail), goalOf(api.OpCall), named("P", api.OpCall), named("+", api.OpCall, n, n), named("p", api.OpCall, make([]api.Term, api.MaxArity+1)...))
	for _, op := range []int{api.OpInt, api.OpGround} {
		list = append(list, goalOf(op), goalOf(op, n, n), goalOf(op, v, v), goalOf(op, n, n, n), named("int", op, n), named("p", op, v), goalOf(op, wide(api.MaxNodes+1, n)), goalOf(op, high(api.MaxDepth, v)))
	}
	for _, op := range []int{api.OpUnify, api.OpIs, api.OpSame, api.OpApart, api.OpLess, api.OpLeq, api.OpEqual, api.OpUnequal} {
		list = append(list, goalOf(op), goalOf(op, n), goalOf(op, v), goalOf(op, n, n, n), goalOf(op, v, v, v), goalOf(op, n, number(2), n), named("p", op, n, n), named("p", op, n, number(2)), named("is", op, v, v))
		// arguments that are valid, each for itself, and the greatest ones that are together
		for _, leaf := range []api.Term{n, v} {
			list = append(list, goalOf(op, wide(100, leaf), wide(101, leaf)), goalOf(op, wide(101, leaf), wide(101, leaf)), goalOf(op, wide(200, leaf), leaf), goalOf(op, leaf, wide(200, leaf)), goalOf(op, sumOf(100, leaf), functor("+", leaf, leaf)), goalOf(op, sumOf(100, leaf), sumOf(100, leaf)))
		}
	}
	for _, bad := range invalidTerms() {
		for _, op := range tests {
			if op == api.OpInt || op == api.OpGround {
				list = append(list, goalOf(op, bad), goalOf(op, functor("f", bad)))
				continue
			}
			list = append(list, goalOf(op, bad, bad), goalOf(op, bad, n), goalOf(op, v, bad), goalOf(op, functor("f", bad), functor("g", bad)), goalOf(op, functor("+", bad, n), functor("+", bad, n)))
		}
		list = append(list, goalOf(api.OpUnify, bad, v), goalOf(api.OpIs, v, bad), named("p", api.OpCall, bad))
	}
	for _, op := range noOps {
		list = append(list, goalOf(op), goalOf(op, n), goalOf(op, n, n), goalOf(op, v, v), goalOf(op, n, number(2)), named("p", op, n))
	}
	return list
}

// sumOf returns a sum of a number of copies of a term, which is as flat as possible.
func sumOf(count int, t api.Term) api.Term {
	if count == 1 {
		return t
	}
	return functor("+", sumOf(count/2, t), sumOf(count-count/2, t))
}

// cyclic returns a term that contains itself.
func cyclic() api.Term {
	t := functor("f", number(1), number(2))
	t.Args[1] = t
	return t
}

// equal compares all fields of two terms, also those that are not used. An empty list may be nil.
func equal(a, b api.Term) bool {
	return a.Kind == b.Kind && a.Int == b.Int && a.Name == b.Name && slices.EqualFunc(a.Args, b.Args, equal)
}

// short writes a value that may be too large for a message.
func short(x any) string { return fmt.Sprintf("%.300s", fmt.Sprint(x)) }

// checkCounts checks that random or small arguments led often enough to each of some results.
func checkCounts(t *testing.T, counts map[int]int, least int) {
	t.Helper()
	for _, result := range []int{api.Unknown, api.Entailed, api.Refuted} {
		if counts[result] < least {
			t.Errorf("only %d calls returned %d", counts[result], result)
		}
	}
}

// roomyTerms returns a copy whose lists have room behind their ends, with terms in it that would be noticed if they were
// used.
func roomyTerms(terms []api.Term) []api.Term {
	list := make([]api.Term, 0, len(terms)+1)
	for _, t := range terms {
		if len(t.Args) > 0 {
			t.Args = roomyTerms(t.Args)
		}
		list = append(list, t)
	}
	_ = append(list, functor("behind"))
	return list
}

// roomyGoals does the same for goals.
func roomyGoals(goals []api.Goal) []api.Goal {
	list := make([]api.Goal, 0, len(goals)+1)
	for _, g := range goals {
		list = append(list, api.Goal{Op: g.Op, Name: g.Name, Args: roomyTerms(g.Args)})
	}
	_ = append(list, goalOf(api.OpFail))
	return list
}

// roomyBinds does the same for a store.
func roomyBinds(b api.Binds) api.Binds {
	list := make(api.Binds, 0, len(b)+1)
	for _, x := range b {
		list = append(list, bind(x.Var, roomyTerms([]api.Term{x.Term})[0]))
	}
	_ = append(list, bind(96, functor("behind")))
	return list
}

// wholeTerms returns a copy with what is behind the ends of the lists.
func wholeTerms(terms []api.Term) []api.Term {
	var list []api.Term
	for _, t := range terms[:cap(terms)] {
		t.Args = wholeTerms(t.Args)
		list = append(list, t)
	}
	return list
}

// wholeGoals does the same for goals.
func wholeGoals(goals []api.Goal) []api.Goal {
	var list []api.Goal
	for _, g := range goals[:cap(goals)] {
		list = append(list, api.Goal{Op: g.Op, Name: g.Name, Args: wholeTerms(g.Args)})
	}
	return list
}

// wholeBinds does the same for a store.
func wholeBinds(b api.Binds) api.Binds {
	var list api.Binds
	for _, x := range b[:cap(b)] {
		list = append(list, bind(x.Var, wholeTerms([]api.Term{x.Term})[0]))
	}
	return list
}

// watch returns a function that reports whether a store and lists of goals have changed since.
func watch(t *testing.T, b api.Binds, lists ...[]api.Goal) func() {
	t.Helper()
	storeBefore := wholeBinds(b)
	var before [][]api.Goal
	for _, list := range lists {
		before = append(before, wholeGoals(list))
	}
	return func() {
		t.Helper()
		if !reflect.DeepEqual(wholeBinds(b), storeBefore) {
			t.Errorf("the store %s was changed to %s", short(storeBefore), short(wholeBinds(b)))
		}
		for i, list := range lists {
			if !reflect.DeepEqual(wholeGoals(list), before[i]) {
				t.Errorf("the goals %s were changed to %s", short(before[i]), short(wholeGoals(list)))
			}
		}
	}
}

// maker makes random terms, goals and stores.
type maker struct {
	random *rand.Rand
	// vars are the variables of the terms.
	vars []int
}

func newMaker(seed uint64, vars ...int) *maker {
	return &maker{random: rand.New(rand.NewPCG(seed, 11)), vars: vars}
}

func pick[T any](g *maker, list ...T) T { return list[g.random.IntN(len(list))] }

// term returns a term with at most a number of levels.
func (g *maker) term(levels int) api.Term {
	kind := g.random.IntN(12)
	switch {
	case levels > 1 && kind < 6:
		return g.functor(pick(g, "f", "f", "g", "+"), levels)
	case kind < 10:
		return variable(pick(g, g.vars...))
	case kind < 11:
		return functor(pick(g, "a", "b"))
	}
	return number(pick(g, 0, 1, -3, api.MaxInt))
}

func (g *maker) functor(name string, levels int) api.Term {
	t := functor(name)
	for range map[string]int{"f": 2, "g": 1, "+": 2}[name] {
		t.Args = append(t.Args, g.term(levels-1))
	}
	return t
}

// expression returns a term that is mostly a number term.
func (g *maker) expression(levels int) api.Term {
	kind := g.random.IntN(40)
	switch {
	case levels > 1 && kind < 24:
		return functor(pick(g, operators...), g.expression(levels-1), g.expression(levels-1))
	case kind < 27:
		return variable(pick(g, g.vars...))
	case kind < 39:
		return number(pick(g, 0, 1, 2, 3, -2, -7, 46341, api.MaxInt, -api.MaxInt))
	}
	return g.term(levels)
}

// blurred returns a term with variables in the place of some of its subterms, as the term and the result probably have a
// unifier.
func (g *maker) blurred(t api.Term) api.Term {
	if g.random.IntN(5) == 0 {
		return variable(pick(g, g.vars...))
	}
	var args []api.Term
	for _, arg := range t.Args {
		args = append(args, g.blurred(arg))
	}
	t.Args = args
	return t
}

// pair returns two terms that are related more or less.
func (g *maker) pair(levels int) (s, t api.Term) {
	t = g.term(levels)
	switch g.random.IntN(6) {
	case 0:
		return g.term(levels), t
	case 1:
		return t, g.blurred(t)
	case 2:
		return t, t
	}
	return g.blurred(t), g.blurred(t)
}

// test returns a test.
func (g *maker) test(levels int) api.Goal {
	op := pick(g, tests...)
	switch op {
	case api.OpInt, api.OpGround:
		return goalOf(op, g.term(levels))
	case api.OpSame, api.OpApart:
		x, y := g.pair(levels)
		return goalOf(op, x, y)
	}
	return goalOf(op, g.expression(levels), g.expression(levels))
}

// goal returns a goal of any kind, which is mostly a test.
func (g *maker) goal(levels int) api.Goal {
	if g.random.IntN(12) > 0 {
		return g.test(levels)
	}
	switch op := pick(g, others...); op {
	case api.OpCall:
		return api.Goal{Op: op, Name: pick(g, "p", "q"), Args: []api.Term{g.term(levels)}}
	case api.OpTrue, api.OpFail:
		return goalOf(op)
	default:
		return goalOf(op, g.term(levels), g.expression(levels))
	}
}

// store returns a list of bindings, in any order, in which variables may be repeated, and occur in terms.
func (g *maker) store(count, levels int) (b api.Binds) {
	for range g.random.IntN(count + 1) {
		b = append(b, bind(pick(g, g.vars...), pick(g, g.term(levels), g.expression(levels), number(g.random.IntN(4)))))
	}
	return b
}

// related returns a goal that often becomes the same as another one under a store.
func (g *maker) related(b api.Binds, other api.Goal) api.Goal {
	switch g.random.IntN(5) {
	case 0:
		return g.goal(2)
	case 1:
		return wantUnder(b, other)
	case 2:
		other.Args = slices.Clone(other.Args)
		slices.Reverse(other.Args)
		return other
	case 3:
		other.Op = pick(g, tests...)
		return other
	}
	return other
}

// smallTerms returns some terms with two variables.
func smallTerms() []api.Term {
	v, n, f := variable, number, functor
	return []api.Term{
		v(0), v(1), n(0), n(2), f("a"), f("b"), f("f", v(0)), f("f", v(1)), f("f", f("a")), f("f", f("f", v(0))), f("g", v(0), v(1)), f("g", v(1), v(1)), f("g", v(0), n(2)), f("g", f("f", v(1)), v(0)),
		f("+", n(1), n(1)), f("+", v(0), n(2)), f("+", v(0), f("a")), f("/", n(1), n(0)), f("/", v(1), n(0)), f("%", n(-7), n(3)), f("*", n(api.MaxInt), n(2)),
	}
}

// smallGoals returns all tests with those terms, and a few other goals.
func smallGoals() []api.Goal {
	list := []api.Goal{goalOf(api.OpTrue), goalOf(api.OpFail), {Op: api.OpCall, Name: "p"}, goalOf(api.OpUnify, variable(0), variable(0)), goalOf(api.OpIs, variable(0), number(1))}
	for _, op := range tests {
		for _, x := range smallTerms() {
			if op == api.OpInt || op == api.OpGround {
				list = append(list, goalOf(op, x))
				continue
			}
			for _, y := range smallTerms() {
				list = append(list, goalOf(op, x, y))
			}
		}
	}
	return list
}

// smallStores returns stores that bind those variables, in solved form or not.
func smallStores() []api.Binds {
	list := []api.Binds{nil}
	terms := append(smallTerms(), variable(2), functor("f", variable(2)), number(-1), variable(-1), number(api.MaxInt+1))
	for v := range 2 {
		for _, b := range list {
			for _, x := range terms {
				list = append(list, append(slices.Clip(b), bind(v, x)))
			}
		}
	}
	return append(list, api.Binds{bind(1, number(1)), bind(0, number(2)), bind(1, number(3))}, api.Binds{bind(0, variable(1)), bind(0, variable(0))})
}
