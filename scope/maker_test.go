package scope

import (
	"fmt"
	"math"
	"math/rand/v2"
	"slices"
	"strings"

	"constraint/api"
	"constraint/syntax"
)

var (
	operators = []string{"+", "-", "*", "/", "%"}
	reserved  = []string{"constraint", "true", "fail", "is", "int", "ground"}
	// badNames are not names; the empty string is none, too.
	badNames = append([]string{"A", "True", "V0", "X1", "_", "_p", "1", "1p", "p q", "p ", " p", "p-", "p.", "é", "pé", "\x00", "=", "+", "f(", "@", strings.Repeat("z", 41), "Z" + strings.Repeat("z", 39)}, reserved...)
	// goodNames are names, except for those of the constraints that the tests declare.
	goodNames    = []string{"a", "z", "pQ_1", "p1", "p_", "isA", "truex", "constraint1", "v0", "int_", "groundX", strings.Repeat("z", 40)}
	badArities   = []int{-1, -2, 7, 8, 10, 100, 1 << 32, 1<<32 + 1, -1 << 32, math.MaxInt, math.MinInt}
	unknownKinds = []int{3, 4, -1, 99, 1 << 32, 1<<32 + 1, 1<<32 + 2, math.MaxInt, math.MinInt}
	// noVars are numbers that no variable of a valid term has.
	noVars = []int{-1, -2, -9, api.MaxVar + 1, 1 << 32, -1 << 32, math.MaxInt - 1, math.MaxInt, math.MinInt + 1, math.MinInt}
	// noOps are no operators of goals.
	noOps = []int{-1, -2, 13, 14, 99, 1 << 32, 1<<32 + 1, 1<<32 + 5, math.MaxInt, math.MinInt}
)

// number, variable and functor build terms, whatever package term does.
func number(n int) api.Term { return api.Term{Kind: api.TInt, Int: n} }

func variable(n int) api.Term { return api.Term{Kind: api.TVar, Int: n} }

func variableList(numbers ...int) []api.Term {
	var list []api.Term
	for _, n := range numbers {
		list = append(list, variable(n))
	}
	return list
}

func functor(name string, args ...api.Term) api.Term {
	return api.Term{Kind: api.TFun, Name: name, Args: args}
}

func atom(name string, args ...api.Term) api.Atom { return api.Atom{Name: name, Args: args} }

func call(name string, args ...api.Term) api.Goal { return api.Goal{Name: name, Args: args} }

func goal(op int, args ...api.Term) api.Goal { return api.Goal{Op: op, Args: args} }

func times[T any](count int, x T) []T {
	var list []T
	for range count {
		list = append(list, x)
	}
	return list
}

// insertions returns lists with an element in each place of a list with few others.
func insertions[T any](x T, others ...T) [][]T {
	all := [][]T{{x}}
	for i := range len(others) + 1 {
		all = append(all, slices.Insert(slices.Clone(others), i, x))
	}
	return all
}

// unknown returns a term of an unknown kind, which has no arguments, although variables are in its list.
func unknown(kind int) api.Term {
	return api.Term{Kind: kind, Int: 5, Name: "f", Args: []api.Term{variable(0), functor("g", variable(7))}}
}

// filled returns a term whose fields, as far as its kind does not use them, are not zero.
func filled(t api.Term) api.Term {
	if t.Kind == api.TFun {
		t.Int = 1
		return t
	}
	t.Args = []api.Term{variable(0), functor("g", variable(6), variable(2)), {Kind: api.TVar, Int: 8, Args: variableList(9)}}
	if t.Kind == api.TInt || t.Kind == api.TVar {
		t.Name = "f"
	}
	return t
}

// wide returns a term with a number of nodes, which is as flat as MaxArity permits.
func wide(nodes int, leaf api.Term) api.Term {
	if nodes == 1 {
		return leaf
	}
	t := functor("f")
	for left, places := nodes-1, api.MaxArity; left > 0; places-- {
		share := (left + places - 1) / places
		t.Args = append(t.Args, wide(share, leaf))
		left -= share
	}
	return t
}

// high returns a term with a depth.
func high(depth int, leaf api.Term) api.Term {
	t := leaf
	for range depth - 1 {
		t = functor("f", t)
	}
	return t
}

// circle returns a term that contains itself.
func circle() api.Term {
	t := functor("f", number(1), number(2))
	t.Args[1] = t
	return t
}

// ruleOf makes a rule of its text.
func ruleOf(text string) api.Rule { return must(syntax.ParseRule(text)) }

func programOf(text string) api.Program { return must(syntax.Parse(text)) }

// goalsFrom makes goals of a text; their variables are numbered.
func goalsFrom(text string) []api.Goal {
	if text == "" {
		return nil
	}
	l, _, at, e := syntax.ParseGoals(text)
	return must(l, at, e)
}

func must[T any](x T, at int, e api.Errno) T {
	if e != api.OK {
		panic(fmt.Sprintf("the error %d at %d of a text", int(e), at))
	}
	return x
}

// declsOf makes declarations of a text such as "p/1 q/0".
func declsOf(text string) []api.Decl {
	var list []api.Decl
	for _, x := range strings.Fields(text) {
		var d api.Decl
		before, arity, _ := strings.Cut(x, "/")
		d.Name = before
		fmt.Sscan(arity, &d.Arity)
		list = append(list, d)
	}
	return list
}

// invalidTerms returns terms that are not valid. If they have variables, these are 0 or 1, as far as they count.
func invalidTerms() []api.Term {
	list := []api.Term{
		number(api.MaxInt + 1), number(-api.MaxInt - 1), number(math.MaxInt), number(math.MinInt), filled(number(1)), filled(variable(0)), filled(functor("a")), filled(functor("f", variable(0))),
		{Kind: api.TInt, Name: "a"}, {Kind: api.TInt, Name: "V0"}, {Kind: api.TInt, Int: 2, Args: variableList(0)}, {Kind: api.TVar, Name: "a"}, {Kind: api.TVar, Name: "V0"}, {Kind: api.TVar, Args: variableList(0)},
		{Kind: api.TFun, Name: "a", Int: -1}, {Kind: api.TFun, Name: "+", Int: 2, Args: variableList(0, 1)}, functor(""), functor("", variable(0)),
		wide(api.MaxNodes+1, number(1)), wide(api.MaxNodes+1, variable(0)), high(api.MaxDepth+1, functor("a")), high(api.MaxDepth+1, variable(0)), functor("f", make([]api.Term, api.MaxArity+1)...), functor("<", variableList(0, 1)...),
	}
	for _, kind := range unknownKinds {
		list = append(list, unknown(kind), api.Term{Kind: kind}, api.Term{Kind: kind, Int: 3}, api.Term{Kind: kind, Name: "a"})
	}
	for _, s := range badNames {
		if s != "+" {
			list = append(list, functor(s), functor(s, variableList(0, 1)...))
		}
	}
	for _, op := range operators {
		list = append(list, functor(op), functor(op, variable(0)), functor(op, variableList(0, 1, 0)...))
	}
	for _, v := range noVars {
		list = append(list, variable(v), functor("g", number(1), variable(v)))
	}
	return list
}

// atLimits returns terms that are valid, as large as possible in one way, with the variable 0 at most.
func atLimits() []api.Term {
	return []api.Term{
		number(api.MaxInt), number(-api.MaxInt), variable(0), wide(api.MaxNodes, functor("a")), wide(api.MaxNodes, variable(0)), high(api.MaxDepth, number(0)), high(api.MaxDepth, variable(0)), functor("f", make([]api.Term, api.MaxArity)...),
		functor(strings.Repeat("f", api.MaxName), number(0)), functor("+", wide(99, variable(0)), wide(100, number(-7))),
	}
}

// invalidGoals returns goals that are not valid.
func invalidGoals() []api.Goal {
	var list []api.Goal
	for _, x := range invalidTerms() {
		list = append(list, call("p", x), call("q", variable(0), functor("f", number(1), x)), goal(api.OpInt, x), goal(api.OpLess, x, variable(0)), goal(api.OpUnify, variable(0), x))
	}
	for op, arity := range wantArities {
		if op == api.OpCall {
			continue
		}
		for count := range 5 {
			if count != arity {
				list = append(list, goal(op, times(count, variable(0))...))
			}
		}
		for _, s := range []string{"p", "P", "is", "true", "fail", "=", " "} {
			list = append(list, api.Goal{Op: op, Name: s, Args: times(arity, variable(0))})
		}
	}
	for _, op := range noOps {
		list = append(list, goal(op), goal(op, variable(0)), goal(op, times(2, variable(0))...), api.Goal{Op: op, Name: "p", Args: variableList(0)})
	}
	for _, s := range append(badNames, "") {
		list = append(list, call(s), call(s, variable(0)), call(s, times(2, variable(0))...))
	}
	return append(list, call("p", make([]api.Term, api.MaxArity+1)...), call("q", wide(100, number(1)), wide(101, number(1))), goal(api.OpSame, wide(101, variable(0)), wide(100, variable(0))))
}

// invalidAtoms returns constraints that are not valid.
func invalidAtoms() []api.Atom {
	var list []api.Atom
	for _, g := range invalidGoals() {
		if g.Op == api.OpCall {
			list = append(list, atom(g.Name, g.Args...))
		}
	}
	return list
}

// maker makes random programs and queries, of which many are valid.
type maker struct{ random *rand.Rand }

func newMaker(seed uint64) *maker { return &maker{rand.New(rand.NewPCG(seed, 15))} }

func pick[T any](g *maker, list ...T) T { return list[g.random.IntN(len(list))] }

// seldom returns true once in a number of times.
func (g *maker) seldom(times int) bool { return g.random.IntN(times) == 0 }

// upTo returns a number from 0 to most, of which the small ones and the greatest one are frequent.
func (g *maker) upTo(most int) int {
	return min(most, pick(g, 0, 0, 1, 1, 2, g.random.IntN(most+1), most))
}

// decls returns declarations, each once.
func (g *maker) decls() []api.Decl {
	all := declsOf("p/1 p/2 q/0 q/2 q/3 r/0 s/1 s/6 t/2")
	g.random.Shuffle(len(all), func(i, k int) { all[i], all[k] = all[k], all[i] })
	return all[:2+g.random.IntN(len(all)-1)]
}

// term returns a term with variables below vars and at most a number of levels.
func (g *maker) term(vars, levels int) api.Term {
	kind := g.random.IntN(10)
	switch {
	case levels > 1 && kind < 2:
		return functor(pick(g, operators...), g.term(vars, levels-1), g.term(vars, levels-1))
	case levels > 1 && kind < 4:
		return functor(pick(g, goodNames...), g.terms(g.random.IntN(3), vars, levels-1)...)
	case vars > 0 && kind < 8:
		return variable(g.random.IntN(vars))
	}
	return number(g.random.IntN(5) - 2)
}

func (g *maker) terms(count, vars, levels int) []api.Term {
	var list []api.Term
	for range count {
		list = append(list, g.term(vars, levels))
	}
	return list
}

// atom returns a constraint, which is nearly always declared.
func (g *maker) atom(decls []api.Decl, vars int) api.Atom {
	d := pick(g, decls...)
	if g.seldom(150) {
		d = api.Decl{Name: pick(g, "p", "q", "r", "s", "u"), Arity: g.random.IntN(7)}
	}
	return atom(d.Name, g.terms(d.Arity, vars, 1+g.random.IntN(3))...)
}

// goal returns a goal with one of some operators.
func (g *maker) goal(decls []api.Decl, vars int, ops ...int) api.Goal {
	op := pick(g, ops...)
	if op == api.OpCall {
		a := g.atom(decls, vars)
		return call(a.Name, a.Args...)
	}
	return goal(op, g.terms(wantArities[op], vars, 1+g.random.IntN(3))...)
}

var (
	testOps  = []int{api.OpTrue, api.OpSame, api.OpApart, api.OpLess, api.OpLeq, api.OpEqual, api.OpUnequal, api.OpInt, api.OpGround}
	otherOps = []int{api.OpCall, api.OpCall, api.OpCall, api.OpTrue, api.OpFail, api.OpUnify, api.OpIs}
	callOps  = []int{api.OpCall, api.OpCall, api.OpUnify, api.OpIs}
)

func listOf[T any](count int, one func() T) []T {
	var list []T
	for range count {
		list = append(list, one())
	}
	return list
}

// rule returns a rule that is valid in most cases.
func (g *maker) rule(decls []api.Decl) api.Rule {
	kept := g.random.IntN(4)
	removed := g.upTo(4 - kept)
	if kept+removed == 0 {
		removed = 1
	}
	head := func() api.Atom { return g.atom(decls, 3) }
	// Numbered before there are goals, which then have the numbers of the variables of the heads.
	r := wantNumbered(api.Rule{Keep: listOf(kept, head), Remove: listOf(removed, head)})
	inHeads, inGuard := r.Vars, r.Vars
	if g.seldom(15) {
		inGuard++
	}
	r.Guard = listOf(g.upTo(12), func() api.Goal { return g.goal(decls, inGuard, testOps...) })
	r.Body = listOf(g.upTo(12), func() api.Goal { return g.goal(decls, inHeads+2, otherOps...) })
	if g.seldom(3) {
		r.Name = pick(g, goodNames...)
	}
	return wantNumbered(r)
}

// program returns a program that is valid in some cases, and has few faults otherwise.
func (g *maker) program() api.Program {
	p := api.Program{Decls: g.decls()}
	for range pick(g, 0, 1, 2, 3, 5, 8, api.MaxRules) {
		p.Rules = append(p.Rules, g.rule(p.Decls))
	}
	for i := range p.Rules {
		if g.seldom(3 * len(p.Rules)) {
			pick(g, ruleFaults...).change(&p.Rules[i])
		}
	}
	if g.seldom(6) {
		pick(g, programFaults...).change(&p)
	}
	return p
}
