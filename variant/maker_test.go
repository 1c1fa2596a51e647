package variant

import (
	"fmt"
	"math"
	"math/rand/v2"
	"slices"
	"strings"
	"testing"

	"constraint/api"
	"constraint/termtext"
)

var (
	operators    = []string{"+", "-", "*", "/", "%"}
	unknownKinds = []int{3, 4, 9, -1, -2, 99, 1 << 32, 1<<32 + 1, 1<<32 + 2, math.MaxInt, math.MinInt}
	// noVars are numbers that no variable of a valid term has.
	noVars = []int{-1, -2, api.MaxVar + 1, api.MaxVar + 2, 1 << 32, -1 << 32, math.MaxInt - 1, math.MaxInt, math.MinInt + 1, math.MinInt}
)

// number, variable, functor and unknown build terms, whatever package term does.
func number(n int) api.Term { return api.Term{Kind: api.TInt, Int: n} }

func variable(n int) api.Term { return api.Term{Kind: api.TVar, Int: n} }

func variables(numbers ...int) []api.Term {
	var list []api.Term
	for _, n := range numbers {
		list = append(list, variable(n))
	}
	return list
}

func functor(name string, args ...api.Term) api.Term {
	return api.Term{Kind: api.TFun, Name: name, Args: args}
}

// unknown returns a term of an unknown kind, which has no arguments, although variables are in its list.
func unknown(kind int) api.Term {
	return api.Term{Kind: kind, Int: 5, Name: "f", Args: []api.Term{variable(0), functor("g", variable(7))}}
}

func atom(name string, args ...api.Term) api.Atom { return api.Atom{Name: name, Args: args} }

func call(name string, args ...api.Term) api.Goal { return api.Goal{Name: name, Args: args} }

func goal(op int, args ...api.Term) api.Goal { return api.Goal{Op: op, Args: args} }

// filled returns a term whose fields, as far as its kind does not use them, are not zero.
func filled(t api.Term) api.Term {
	if t.Kind == api.TFun {
		t.Int = 1
		return t
	}
	t.Args = []api.Term{variable(0), functor("g", variable(6), variable(2)), {Kind: api.TVar, Int: 8, Args: variables(9)}}
	if t.Kind == api.TInt || t.Kind == api.TVar {
		t.Name = "f"
	}
	return t
}

// wide returns a functor with arguments that a function makes of their numbers.
func wide(args int, arg func(i int) api.Term) api.Term {
	t := functor("w")
	for i := range args {
		t.Args = append(t.Args, arg(i))
	}
	return t
}

// high returns a term with a number of levels above another term.
func high(levels int, inner api.Term) api.Term {
	for range levels {
		inner = functor("s", inner)
	}
	return inner
}

// invalidTerms returns terms that are not valid by themselves.
func invalidTerms() []api.Term {
	list := []api.Term{
		number(api.MaxInt + 1), number(-api.MaxInt - 1), number(math.MaxInt), number(math.MinInt),
		filled(number(1)), filled(variable(5)), filled(functor("a")), filled(functor("f", variable(5))), filled(unknown(9)),
		functor("f", filled(variable(5)), filled(number(5)), variable(0), variable(5)), {Kind: api.TVar, Int: 2, Args: variables(2)}, {Kind: api.TInt, Int: 2, Args: variables(2)},
		functor(""), functor("A", variable(1)), functor("V0"), functor("_"), functor("true", variable(1)), functor(strings.Repeat("z", api.MaxName+1), variable(1)),
		wide(api.MaxNodes, number), wide(api.MaxNodes, variable), high(api.MaxDepth, number(1)), high(api.MaxDepth, variable(1)), functor("f", make([]api.Term, api.MaxArity+1)...),
	}
	for _, v := range noVars {
		list = append(list, variable(v), functor("f", variable(v), variable(0), filled(variable(v))))
	}
	for _, kind := range unknownKinds {
		list = append(list, unknown(kind), api.Term{Kind: kind}, api.Term{Kind: kind, Int: 3}, functor("f", unknown(kind), variable(5)))
	}
	for _, op := range operators {
		list = append(list, functor(op), functor(op, variable(1)), functor(op, variables(4, 1, 4)...))
	}
	return list
}

// smallTerms returns all terms with at most a number of levels, made of a few leaves and functors.
func smallTerms(levels int) []api.Term {
	list := []api.Term{variable(0), variable(1), variable(2), number(0), functor("a")}
	if levels == 1 {
		return list
	}
	below := smallTerms(levels - 1)
	for _, x := range below {
		list = append(list, functor("f", x))
		for _, y := range below {
			list = append(list, functor("f", x, y))
		}
	}
	return list
}

// smallLists returns all lists of at most two terms of a few, and some of three.
func smallLists() [][]api.Term {
	some := []api.Term{variable(0), variable(1), variable(3), variable(-1), number(0), functor("a"), functor("f", variable(0)), functor("f", variables(0, 1)...), functor("f", variables(1, 0)...), functor("f", variables(1, 1)...)}
	list := [][]api.Term{nil, {}}
	for _, x := range some {
		list = append(list, []api.Term{x})
		for _, y := range some {
			list = append(list, []api.Term{x, y})
			if x.Kind == api.TVar && y.Kind == api.TVar {
				list = append(list, []api.Term{x, y, x}, []api.Term{x, y, y}, []api.Term{x, functor("f", y, x), variable(1)})
			}
		}
	}
	return list
}

// read returns the terms of a text such as "f(V0, V1); V0".
func read(t *testing.T, text string) []api.Term {
	t.Helper()
	var list []api.Term
	for _, one := range strings.Split(text, ";") {
		if one == "" {
			continue
		}
		x, e := termtext.Parse(one)
		if e != api.OK {
			t.Fatalf("%q is no term", one)
		}
		list = append(list, x)
	}
	return list
}

// copyTerm and copyTerms return copies that share no memory with a value.
func copyTerm(t api.Term) api.Term {
	t.Args = copyTerms(t.Args)
	return t
}

func copyTerms(list []api.Term) []api.Term {
	var copied []api.Term
	for _, t := range list {
		copied = append(copied, copyTerm(t))
	}
	return copied
}

func copyRule(r api.Rule) api.Rule {
	r.Keep, r.Remove = slices.Clone(r.Keep), slices.Clone(r.Remove)
	r.Guard, r.Body = slices.Clone(r.Guard), slices.Clone(r.Body)
	for _, args := range places(&r) {
		*args = copyTerms(*args)
	}
	return r
}

// places returns the lists of arguments of a rule, wherever they are.
func places(r *api.Rule) []*[]api.Term {
	var list []*[]api.Term
	for i := range r.Keep {
		list = append(list, &r.Keep[i].Args)
	}
	for i := range r.Remove {
		list = append(list, &r.Remove[i].Args)
	}
	for i := range r.Guard {
		list = append(list, &r.Guard[i].Args)
	}
	for i := range r.Body {
		list = append(list, &r.Body[i].Args)
	}
	return list
}

// equal compares all fields of two terms, also those that are not used. An empty list may be nil.
func equal(a, b api.Term) bool {
	return a.Kind == b.Kind && a.Int == b.Int && a.Name == b.Name && equalTerms(a.Args, b.Args)
}

func equalTerms(a, b []api.Term) bool { return slices.EqualFunc(a, b, equal) }

func equalRules(a, b api.Rule) bool {
	sameAtom := func(x, y api.Atom) bool { return x.Name == y.Name && equalTerms(x.Args, y.Args) }
	sameGoal := func(x, y api.Goal) bool { return x.Op == y.Op && x.Name == y.Name && equalTerms(x.Args, y.Args) }
	return a.Name == b.Name && a.Vars == b.Vars && slices.EqualFunc(a.Keep, b.Keep, sameAtom) && slices.EqualFunc(a.Remove, b.Remove, sameAtom) &&
		slices.EqualFunc(a.Guard, b.Guard, sameGoal) && slices.EqualFunc(a.Body, b.Body, sameGoal)
}

// short writes a value that may be too large for a message.
func short(x any) string { return fmt.Sprintf("%.300s", fmt.Sprint(x)) }

// withRoom returns a copy of a list with room behind its end, and a value in it that would be noticed if it were used.
func withRoom[T any](list []T, item func(x T) T, behind T) []T {
	copied := make([]T, 0, len(list)+1)
	for _, x := range list {
		copied = append(copied, item(x))
	}
	_ = append(copied, behind)
	return copied
}

// roomy, roomyTerms and roomyRule return copies whose lists, except the empty ones of terms, have room behind their ends.
func roomy(t api.Term) api.Term {
	if len(t.Args) > 0 {
		t.Args = roomyTerms(t.Args)
	}
	return t
}

func roomyTerms(list []api.Term) []api.Term { return withRoom(list, roomy, variable(77)) }

func roomyRule(r api.Rule) api.Rule {
	roomyAtom := func(a api.Atom) api.Atom { return atom(a.Name, roomyTerms(a.Args)...) }
	roomyGoal := func(g api.Goal) api.Goal { return api.Goal{Op: g.Op, Name: g.Name, Args: roomyTerms(g.Args)} }
	r.Keep, r.Remove = withRoom(r.Keep, roomyAtom, atom("p", variable(77))), withRoom(r.Remove, roomyAtom, atom("p", variable(77)))
	r.Guard, r.Body = withRoom(r.Guard, roomyGoal, goal(api.OpInt, variable(77))), withRoom(r.Body, roomyGoal, call("p", variable(77)))
	return r
}

// whole and wholeRule return copies with what is behind the ends of the lists.
func whole(list []api.Term) []api.Term {
	var all []api.Term
	for _, t := range list[:cap(list)] {
		t.Args = whole(t.Args)
		all = append(all, t)
	}
	return all
}

func wholeRule(r api.Rule) api.Rule {
	r.Keep, r.Remove = slices.Clone(r.Keep[:cap(r.Keep)]), slices.Clone(r.Remove[:cap(r.Remove)])
	r.Guard, r.Body = slices.Clone(r.Guard[:cap(r.Guard)]), slices.Clone(r.Body[:cap(r.Body)])
	for _, args := range places(&r) {
		*args = whole(*args)
	}
	return r
}

// watch returns a function that reports whether lists of terms have changed since.
func watch(t *testing.T, lists ...[]api.Term) func() {
	t.Helper()
	var before [][]api.Term
	for _, list := range lists {
		before = append(before, whole(list))
	}
	return func() {
		t.Helper()
		for i, list := range lists {
			if !equalTerms(whole(list), before[i]) {
				t.Errorf("the terms %s were changed to %s", short(before[i]), short(whole(list)))
			}
		}
	}
}

func watchRule(t *testing.T, r api.Rule) func() {
	t.Helper()
	before := wholeRule(r)
	return func() {
		t.Helper()
		if !equalRules(wholeRule(r), before) {
			t.Errorf("the rule %s was changed to %s", short(before), short(wholeRule(r)))
		}
	}
}

// memory checks that no two lists of a result share memory.
type memory map[*api.Term]bool

func (m memory) check(t *testing.T, list []api.Term) {
	t.Helper()
	if cap(list) == 0 {
		return
	}
	first := &list[:1][0]
	if m[first] {
		t.Errorf("two lists of a result share memory: %s", short(list))
	}
	m[first] = true
	for _, x := range list {
		m.check(t, x.Args)
	}
}

// scribble overwrites the lists of terms, and what is behind them.
func scribble(list []api.Term) {
	list = list[:cap(list)]
	for i := range list {
		scribble(list[i].Args)
		list[i] = number(98)
	}
}

func scribbleRule(r api.Rule) {
	for _, args := range places(&r) {
		scribble(*args)
	}
	for _, atoms := range [][]api.Atom{r.Keep, r.Remove} {
		for i := range atoms[:cap(atoms)] {
			atoms[:cap(atoms)][i] = atom("scribbled")
		}
	}
	for _, goals := range [][]api.Goal{r.Guard, r.Body} {
		for i := range goals[:cap(goals)] {
			goals[:cap(goals)][i] = call("scribbled")
		}
	}
}

// maker makes random terms and rules, valid or not.
type maker struct{ random *rand.Rand }

func newMaker(seed uint64) *maker { return &maker{random: rand.New(rand.NewPCG(seed, 9))} }

func pick[T any](g *maker, list ...T) T { return list[g.random.IntN(len(list))] }

// variable returns the number of a variable: one of a few, so that different parts have the same ones.
func (g *maker) variable() int {
	if g.random.IntN(20) == 0 {
		return pick(g, noVars...)
	}
	return pick(g, 0, 1, 2, 3, 4, api.MaxVar)
}

// shift returns a number to shift by.
func (g *maker) shift() int {
	return pick(g, 0, 1, 3, -1, -3, 10, api.MaxVar, -api.MaxVar, math.MaxInt, math.MaxInt-2, math.MinInt, math.MinInt+2, g.random.Int(), -g.random.Int())
}

// term returns a term with at most a number of levels.
func (g *maker) term(levels int) api.Term {
	switch g.random.IntN(16) {
	case 0:
		return filled(g.usual(levels))
	case 1:
		return pick(g, unknown(pick(g, unknownKinds...)), api.Term{Kind: pick(g, unknownKinds...)}, functor("F", g.list(levels)...), functor("+", g.list(levels)...))
	}
	return g.usual(levels)
}

func (g *maker) usual(levels int) api.Term {
	kind := g.random.IntN(10)
	switch {
	case levels > 1 && kind < 4:
		return functor(pick(g, "f", "g"), g.list(levels)...)
	case levels > 1 && kind < 5:
		return functor(pick(g, operators...), g.term(levels-1), g.term(levels-1))
	case kind < 8:
		return variable(g.variable())
	case kind < 9:
		return functor("a")
	}
	return number(pick(g, 0, 1, 2, -3, api.MaxInt))
}

func (g *maker) list(levels int) []api.Term {
	var list []api.Term
	for range g.random.IntN(4) {
		if levels > 1 {
			list = append(list, g.term(levels-1))
		}
	}
	return list
}

func (g *maker) rule() api.Rule {
	r := api.Rule{Name: pick(g, "", "a", "B"), Vars: pick(g, 0, 1, 5, -1, api.MaxVar)}
	for range g.random.IntN(3) {
		r.Keep = append(r.Keep, atom(pick(g, "p", "q", ""), g.list(3)...))
	}
	for range g.random.IntN(3) {
		r.Remove = append(r.Remove, atom(pick(g, "p", "q", ""), g.list(3)...))
	}
	for range g.random.IntN(3) {
		r.Guard = append(r.Guard, goal(g.random.IntN(15)-1, g.list(3)...))
	}
	for range g.random.IntN(4) {
		r.Body = append(r.Body, api.Goal{Op: g.random.IntN(15) - 1, Name: pick(g, "p", "q", ""), Args: g.list(3)})
	}
	return r
}

// renamed returns a copy of terms in which each number of a variable is replaced by another one, mostly one of its own.
func (g *maker) renamed(list []api.Term) []api.Term {
	numbers, free := map[int]int{}, []int{3, 0, 7, 1, api.MaxVar, 4, -2, 9, 2, 5, math.MinInt, 12, 13, 14, 15, 16, 17, 18}
	g.random.Shuffle(len(free), func(i, k int) { free[i], free[k] = free[k], free[i] })
	copied := copyTerms(list)
	for _, at := range wantNodes(copied) {
		if at.Kind != api.TVar {
			continue
		}
		if _, ok := numbers[at.Int]; !ok {
			numbers[at.Int], free = free[0], free[1:]
		}
		if at.Int = numbers[at.Int]; g.random.IntN(6) == 0 {
			at.Int = g.variable()
		}
	}
	return copied
}
