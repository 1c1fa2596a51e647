package source

import (
	"math"
	"math/rand/v2"
	"strings"

	"constraint/api"
	"constraint/termtext"
)

var (
	operators    = []string{"+", "-", "*", "/", "%"}
	reserved     = []string{"constraint", "true", "fail", "is", "int", "ground"}
	badNames     = append([]string{"A", "True", "V0", "_", "_p", "1", "1p", "p q", "p ", " p", "p-", "p.", "é", "pé", "\x00", "=", "+", "f(", "@", strings.Repeat("z", 41), "Z" + strings.Repeat("z", 39)}, reserved...)
	goodNames    = []string{"a", "z", "p", "pQ_1", "p1", "p_", "isA", "truex", "constraint1", "v0", "int_", "groundX", strings.Repeat("z", 40)}
	unknownKinds = []int{3, 4, -1, 99, 1 << 32, 1<<32 + 1, 1<<32 + 2, math.MaxInt, math.MinInt}
	// noVars are numbers that no variable of a valid term has.
	noVars = []int{-1, -2, -9, api.MaxVar + 1, 1 << 32, -1 << 32, math.MaxInt - 1, math.MaxInt, math.MinInt + 1, math.MinInt}
	// noOps are no operators of goals.
	noOps = []int{-1, -2, 13, 14, 99, 1 << 32, 1<<32 + 1, math.MaxInt, math.MinInt}
	// tests and comparisons are operators with one argument and with two.
	tests       = []int{api.OpInt, api.OpGround}
	comparisons = []int{api.OpUnify, api.OpIs, api.OpSame, api.OpApart, api.OpLess, api.OpLeq, api.OpEqual, api.OpUnequal}
)

// number, variable and functor build terms, whatever package term does.
func number(n int) api.Term { return api.Term{Kind: api.TInt, Int: n} }

func variable(n int) api.Term { return api.Term{Kind: api.TVar, Int: n} }

func variables(numbers ...int) []api.Term {
	var list []api.Term
	for _, n := range numbers {
		list = append(list, variable(n))
	}
	return list
}

func functor(name string, args ...api.Term) api.Term {
	return api.Term{Kind: api.TFun, Name: name, Args: args}
}

func atom(name string, args ...api.Term) api.Atom { return api.Atom{Name: name, Args: args} }

func call(name string, args ...api.Term) api.Goal { return api.Goal{Name: name, Args: args} }

func goal(op int, args ...api.Term) api.Goal { return api.Goal{Op: op, Args: args} }

func times[T any](count int, x T) []T {
	var list []T
	for range count {
		list = append(list, x)
	}
	return list
}

// unknown returns a term of an unknown kind, which has no arguments, although variables are in its list.
func unknown(kind int) api.Term {
	return api.Term{Kind: kind, Int: 5, Name: "f", Args: []api.Term{variable(0), functor("g", variable(7))}}
}

// filled returns a term whose fields, as far as its kind does not use them, are not zero.
func filled(t api.Term) api.Term {
	if t.Kind == api.TFun {
		t.Int = 1
		return t
	}
	t.Args = []api.Term{variable(0), functor("g", variable(6), variable(2)), {Kind: api.TVar, Int: 8, Args: variables(9)}}
	if t.Kind == api.TInt || t.Kind == api.TVar {
		t.Name = "f"
	}
	return t
}

// wide returns a term with a number of nodes, which is as flat as MaxArity permits.
func wide(nodes int, leaf api.Term) api.Term {
	if nodes == 1 {
		return leaf
	}
	t := functor("f")
	for left, places := nodes-1, api.MaxArity; left > 0; places-- {
		share := (left + places - 1) / places
		t.Args = append(t.Args, wide(share, leaf))
		left -= share
	}
	return t
}

// high returns a term with a depth.
func high(depth int) api.Term {
	t := functor("a")
	for range depth - 1 {
		t = functor("f", t)
	}
	return t
}

// The five functions below make values of texts, in which elements are separated by semicolons.
func termOf(text string) api.Term {
	t, e := termtext.Parse(text)
	if e != api.OK {
		panic("no term: " + text)
	}
	return t
}

func atomOf(text string) api.Atom {
	a, e := termtext.ParseAtom(text)
	if e != api.OK {
		panic("no constraint: " + text)
	}
	return a
}

func goalOf(text string) api.Goal {
	for op, word := range goalWords {
		left, right, isBetween := strings.Cut(text, " "+word+" ")
		inner, isCall := strings.CutPrefix(text, word+"(")
		switch {
		case text == word:
			return goal(op)
		case isBetween:
			return goal(op, termOf(left), termOf(right))
		case isCall:
			return goal(op, termOf(strings.TrimSuffix(inner, ")")))
		}
	}
	a := atomOf(text)
	return call(a.Name, a.Args...)
}

func listOf[T any](text string, one func(text string) T) []T {
	var list []T
	for _, x := range strings.Split(text, ";") {
		if x = strings.TrimSpace(x); x != "" {
			list = append(list, one(x))
		}
	}
	return list
}

// ruleOf makes a rule of its name and its parts: kept heads, removed heads, guard and body.
func ruleOf(name, keep, remove, guard, body string) api.Rule {
	return api.Rule{Name: name, Keep: listOf(keep, atomOf), Remove: listOf(remove, atomOf), Guard: listOf(guard, goalOf), Body: listOf(body, goalOf)}
}

func goalsOf(text string) []api.Goal { return listOf(text, goalOf) }

// invalidTerms returns terms that are not valid, whatever the numbers of their variables are.
func invalidTerms() []api.Term {
	list := []api.Term{
		number(api.MaxInt + 1), number(-api.MaxInt - 1), number(math.MaxInt), number(math.MinInt), filled(number(1)), filled(variable(5)), filled(functor("a")), filled(functor("f", variable(5))),
		{Kind: api.TInt, Name: "a"}, {Kind: api.TInt, Name: "V0"}, {Kind: api.TInt, Int: 2, Args: variables(2)}, {Kind: api.TVar, Name: "a"}, {Kind: api.TVar, Name: "V0"}, {Kind: api.TVar, Int: 2, Args: variables(2)},
		{Kind: api.TFun, Name: "a", Int: -1}, {Kind: api.TFun, Name: "+", Int: 2, Args: variables(1, 2)}, functor(""), functor("", variable(1)),
		wide(api.MaxNodes+1, number(1)), wide(api.MaxNodes+1, variable(1)), high(api.MaxDepth + 1), functor("f", make([]api.Term, api.MaxArity+1)...), functor("<", variables(0, 1)...),
	}
	for _, kind := range unknownKinds {
		list = append(list, unknown(kind), api.Term{Kind: kind}, api.Term{Kind: kind, Int: 3}, api.Term{Kind: kind, Name: "a"})
	}
	for _, s := range badNames {
		if s != "+" {
			list = append(list, functor(s), functor(s, variables(1, 2)...))
		}
	}
	for _, op := range operators {
		list = append(list, functor(op), functor(op, variable(1)), functor(op, variables(4, 1, 4)...))
	}
	return list
}

// atLimits returns terms that are valid, as large as possible in one way.
func atLimits() []api.Term {
	return []api.Term{
		number(api.MaxInt), number(-api.MaxInt), variable(0), variable(api.MaxVar), wide(api.MaxNodes, functor("a")), wide(api.MaxNodes, variable(4)), high(api.MaxDepth), functor("f", make([]api.Term, api.MaxArity)...),
		functor(strings.Repeat("f", api.MaxName), number(0)), functor("+", wide(99, variable(3)), wide(100, number(-7))),
	}
}

// invalidGoals returns goals that are not valid, whatever the numbers of their variables are.
func invalidGoals() []api.Goal {
	var list []api.Goal
	for _, x := range invalidTerms() {
		list = append(list, call("p", x), call("p", number(1), functor("f", variable(0), x)), goal(api.OpInt, x), goal(api.OpLess, x, variable(1)), goal(api.OpUnify, variable(1), x))
	}
	for _, op := range append(tests, comparisons...) {
		for count := range 5 {
			if count != len(wantArgs(op)) {
				list = append(list, goal(op, times(count, variable(2))...))
			}
		}
		for _, s := range []string{"p", "P", "is", "=", " "} {
			list = append(list, api.Goal{Op: op, Name: s, Args: wantArgs(op)})
		}
	}
	for _, op := range []int{api.OpTrue, api.OpFail} {
		list = append(list, goal(op, variable(0)), goal(op, variables(0, 1)...), api.Goal{Op: op, Name: "p"}, api.Goal{Op: op, Name: "true"}, api.Goal{Op: op, Name: "fail"})
	}
	for _, op := range noOps {
		list = append(list, goal(op), goal(op, variable(0)), goal(op, variables(0, 1)...), api.Goal{Op: op, Name: "p"})
	}
	for _, s := range append(badNames, "") {
		list = append(list, call(s), call(s, variable(0)), call(s, variables(0, 1)...))
	}
	return append(list, call("p", make([]api.Term, api.MaxArity+1)...), call("p", wide(100, number(1)), wide(101, number(1))), goal(api.OpSame, wide(101, variable(1)), wide(100, variable(1))))
}

// invalidAtoms returns constraints that are not valid, whatever the numbers of their variables are.
func invalidAtoms() []api.Atom {
	var list []api.Atom
	for _, g := range invalidGoals() {
		if g.Op == api.OpCall {
			list = append(list, atom(g.Name, g.Args...))
		}
	}
	return list
}

// maker makes random rules, of which most are valid.
type maker struct{ random *rand.Rand }

func newMaker(seed uint64) *maker { return &maker{rand.New(rand.NewPCG(seed, 14))} }

func pick[T any](g *maker, list ...T) T { return list[g.random.IntN(len(list))] }

// seldom returns true once in a number of times.
func (g *maker) seldom(times int) bool { return g.random.IntN(times) == 0 }

// variable returns the number of a variable: one of a few, so that different parts have the same ones.
func (g *maker) variable() int {
	if g.seldom(10) {
		return pick(g, noVars...)
	}
	return pick(g, 0, 1, 2, 3, 7, 10, 12, 123, 4567, api.MaxVar)
}

// term returns a term with at most a number of levels. It has the text of a valid one, if it does not say otherwise.
func (g *maker) term(levels int) api.Term {
	kind := g.random.IntN(12)
	switch {
	case levels > 1 && kind < 4:
		return functor(pick(g, operators...), g.term(levels-1), g.term(levels-1))
	case levels > 1 && kind < 6:
		return functor(pick(g, goodNames...), g.list(levels-1)...)
	case kind < 9:
		return variable(g.variable())
	case kind < 10:
		return functor(pick(g, goodNames...))
	}
	return number(pick(g, 0, 1, -1, 2, -7, 10, api.MaxInt, -api.MaxInt))
}

func (g *maker) list(levels int) []api.Term {
	var list []api.Term
	for range g.random.IntN(pick(g, 1, 3, 4, api.MaxArity+1)) {
		list = append(list, g.term(levels))
	}
	return list
}

func (g *maker) atom() api.Atom {
	if g.seldom(200) {
		return pick(g, invalidAtoms()...)
	}
	return atom(pick(g, goodNames...), g.list(1+g.random.IntN(3))...)
}

func (g *maker) goal() api.Goal {
	switch g.random.IntN(12) {
	case 0:
		return goal(pick(g, api.OpTrue, api.OpFail))
	case 1:
		return goal(pick(g, tests...), g.term(3))
	case 2, 3, 4, 5:
		return goal(pick(g, comparisons...), g.term(3), g.term(3))
	case 6:
		if g.seldom(10) {
			return pick(g, invalidGoals()...)
		}
	}
	a := g.atom()
	return call(a.Name, a.Args...)
}

// listUpTo returns up to a number of values, few more often than many, and seldom one more.
func listUpTo[T any](g *maker, most int, one func() T) []T {
	count := pick(g, 0, 0, 1, 1, 1, 2, 2, 3, g.random.IntN(most+1), most)
	if g.seldom(80) {
		count = most + 1
	}
	var list []T
	for range count {
		list = append(list, one())
	}
	return list
}

func (g *maker) rule() api.Rule {
	r := api.Rule{Vars: pick(g, 0, 1, 5, -1, api.MaxVar, math.MaxInt)}
	if g.seldom(3) {
		r.Name = pick(g, goodNames...)
	}
	if g.seldom(40) {
		r.Name = pick(g, badNames...)
	}
	r.Keep, r.Remove = listUpTo(g, 2, g.atom), listUpTo(g, 2, g.atom)
	r.Guard, r.Body = listUpTo(g, api.MaxGoals, g.goal), listUpTo(g, api.MaxGoals, g.goal)
	return r
}

func (g *maker) decl() api.Decl {
	if g.seldom(100) {
		return pick(g, api.Decl{Name: pick(g, append(badNames, "")...)}, api.Decl{Name: "p", Arity: pick(g, -1, api.MaxArity+1, math.MaxInt, math.MinInt)})
	}
	return api.Decl{Name: pick(g, goodNames...), Arity: g.random.IntN(api.MaxArity + 1)}
}

// program returns a program, of which few rules have no text.
func (g *maker) program() api.Program {
	p := api.Program{Decls: listUpTo(g, api.MaxDecls, g.decl)}
	for range pick(g, 0, 1, 2, 3, 4, g.random.IntN(12)) {
		r := g.rule()
		for range 3 {
			if wantRule(r) == "" {
				r = g.rule()
			}
		}
		p.Rules = append(p.Rules, r)
	}
	return p
}
