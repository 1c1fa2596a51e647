package scope

import (
	"cmp"
	"regexp"
	"slices"

	"constraint/api"
)

// This file decides as DOC.md and the chapter say, with nothing of the packages that scope calls. It looks for all reasons why
// something is not valid, in any order, and takes the first one of them.

// goalWords are what stands before the argument of a goal, or between its arguments.
var goalWords = map[int]string{
	api.OpTrue: "true", api.OpFail: "fail", api.OpUnify: "=", api.OpIs: "is", api.OpSame: "==", api.OpApart: "\\=", api.OpLess: "<", api.OpLeq: "=<", api.OpEqual: "=:=", api.OpUnequal: "=\\=",
	api.OpInt: "int", api.OpGround: "ground",
}

var (
	wantArities = []int{api.OpCall: -1, api.OpTrue: 0, api.OpFail: 0, api.OpUnify: 2, api.OpIs: 2, api.OpSame: 2, api.OpApart: 2, api.OpLess: 2, api.OpLeq: 2, api.OpEqual: 2, api.OpUnequal: 2, api.OpInt: 1, api.OpGround: 1}
	namePattern = regexp.MustCompile(`^[a-z][a-zA-Z0-9_]{0,39}$`)
)

func isName(s string) bool { return namePattern.MatchString(s) && !slices.Contains(reserved, s) }

// node is a node of a term, and its level in it.
type node struct {
	term  *api.Term
	level int
}

// wantNodes returns the nodes of terms from left to right, without what terms do not use. A functor gives way to its
// arguments in a list, instead of a call of the function for each of them.
func wantNodes(list []api.Term) []node {
	var nodes, open []node
	push := func(terms []api.Term, level int) {
		for i := range slices.Backward(terms) {
			open = append(open, node{&terms[i], level})
		}
	}
	push(list, 1)
	for len(open) > 0 {
		at := open[len(open)-1]
		open = open[:len(open)-1]
		nodes = append(nodes, at)
		if at.term.Kind == api.TFun {
			push(at.term.Args, at.level+1)
		}
	}
	return nodes
}

// wantVars returns the numbers of the variables of lists of arguments, each once.
func wantVars(lists ...[]api.Term) []int {
	list, known := []int{}, map[int]bool{}
	for _, args := range lists {
		for _, at := range wantNodes(args) {
			if v := at.term.Int; at.term.Kind == api.TVar && !known[v] {
				known[v] = true
				list = append(list, v)
			}
		}
	}
	return list
}

// argumentsOf returns the lists of arguments of atoms or goals.
func argumentsOf[T any](list []T, args func(x T) []api.Term) [][]api.Term {
	var all [][]api.Term
	for _, x := range list {
		all = append(all, args(x))
	}
	return all
}

func headArguments(r api.Rule) [][]api.Term {
	return argumentsOf(append(r.Keep[:len(r.Keep):len(r.Keep)], r.Remove...), func(a api.Atom) []api.Term { return a.Args })
}

func goalArguments(list []api.Goal) [][]api.Term {
	return argumentsOf(list, func(g api.Goal) []api.Term { return g.Args })
}

// wantLocals returns the variables of goals that are not those of heads.
func wantLocals(heads, goals [][]api.Term) []int {
	own, taken := []int{}, map[int]bool{}
	for _, v := range wantVars(heads...) {
		taken[v] = true
	}
	for _, v := range wantVars(goals...) {
		if !taken[v] {
			own = append(own, v)
		}
	}
	return own
}

// areRight decides whether arguments are valid together.
func areRight(args []api.Term) bool {
	nodes := wantNodes(args)
	for _, at := range nodes {
		t := at.term
		right := false
		switch t.Kind {
		case api.TInt:
			right = t.Int >= -1<<31 && t.Int <= 1<<31 && t.Name == "" && len(t.Args) == 0
		case api.TVar:
			right = t.Int >= 0 && t.Int <= 1<<20 && t.Name == "" && len(t.Args) == 0
		case api.TFun:
			right = t.Int == 0 && (isName(t.Name) && len(t.Args) <= 6 || slices.Contains(operators, t.Name) && len(t.Args) == 2)
		}
		if !right || at.level > 20 {
			return false
		}
	}
	return len(nodes) <= 200
}

func isRightAtom(a api.Atom) bool { return isName(a.Name) && len(a.Args) <= 6 && areRight(a.Args) }

func isRightGoal(g api.Goal) bool {
	if g.Op == api.OpCall {
		return isRightAtom(atom(g.Name, g.Args...))
	}
	return goalWords[g.Op] != "" && g.Name == "" && len(g.Args) == wantArities[g.Op] && areRight(g.Args)
}

// reason is why something is not valid: the number of the check that finds it, and the place of what is found.
type reason struct {
	check, place int
	e            api.Errno
}

type reasons []reason

func (l *reasons) add(check, place int, e api.Errno, applies bool) {
	if applies {
		*l = append(*l, reason{check, place, e})
	}
}

// addCalls adds the reasons why constraints are not declared.
func (l *reasons) addCalls(check int, decls []api.Decl, list []api.Goal) {
	for i, g := range list {
		arities := []int{}
		for _, d := range decls {
			if d.Name == g.Name {
				arities = append(arities, d.Arity)
			}
		}
		isCall, isKnown := g.Op == api.OpCall, slices.Contains(arities, len(g.Args))
		l.add(check, i, api.ErrName, isCall && len(arities) == 0)
		l.add(check, i, api.ErrArity, isCall && len(arities) > 0 && !isKnown)
	}
}

func (l *reasons) first() api.Errno {
	if len(*l) == 0 {
		return api.OK
	}
	return slices.MinFunc(*l, func(a, b reason) int { return cmp.Or(a.check-b.check, a.place-b.place) }).e
}

func isTestWord(op int) bool { return op >= 5 && op <= 12 }

func wantRule(decls []api.Decl, r api.Rule) api.Errno {
	var l reasons
	var constraints []api.Goal
	for _, list := range [][]api.Atom{r.Keep, r.Remove} {
		for _, a := range list {
			l.add(2, 0, api.ErrArg, !isRightAtom(a))
			constraints = append(constraints, call(a.Name, a.Args...))
		}
	}
	heads := len(constraints)
	l.add(1, 0, api.ErrSize, heads == 0 || heads > 4 || len(r.Guard) > 12 || len(r.Body) > 12)
	for i, list := range [][]api.Goal{r.Guard, r.Body} {
		for _, g := range list {
			l.add(2, 0, api.ErrArg, !isRightGoal(g))
			l.add(6, 0, api.ErrKind, i == 0 && g.Op != 1 && !isTestWord(g.Op))
			l.add(6, 0, api.ErrKind, i == 1 && isTestWord(g.Op))
			constraints = append(constraints, g)
		}
	}
	vars := wantVars(goalArguments(constraints)...)
	for i, v := range vars {
		l.add(3, 0, api.ErrArg, i != v)
	}
	l.add(3, 0, api.ErrArg, len(vars) != r.Vars)
	l.add(4, 0, api.ErrName, r.Name != "" && !isName(r.Name))
	l.addCalls(5, decls, constraints)
	l.add(7, 0, api.ErrVar, len(wantLocals(headArguments(r), goalArguments(r.Guard))) > 0)
	return l.first()
}

func wantQuery(decls []api.Decl, list []api.Goal, vars int) api.Errno {
	var l reasons
	l.add(1, 0, api.ErrSize, len(list) > 40 || vars < 0 || vars > 100)
	for _, g := range list {
		l.add(2, 0, api.ErrArg, !isRightGoal(g))
		l.add(4, 0, api.ErrKind, isTestWord(g.Op))
		for _, v := range wantVars(g.Args) {
			l.add(5, 0, api.ErrVar, v >= vars)
		}
	}
	l.addCalls(3, decls, list)
	return l.first()
}

func wantCheck(p api.Program) (int, api.Errno) {
	var l reasons
	l.add(1, 0, api.ErrSize, len(p.Decls) > 30)
	for i, d := range p.Decls {
		l.add(2, 3*i, api.ErrName, !isName(d.Name))
		l.add(2, 3*i+1, api.ErrArity, d.Arity < 0 || d.Arity > 6)
		l.add(2, 3*i+2, api.ErrTwice, slices.Index(p.Decls, d) < i)
	}
	l.add(3, 0, api.ErrSize, len(p.Rules) > 40)
	if e := l.first(); e != api.OK {
		return -1, e
	}
	i := slices.IndexFunc(p.Rules, func(r api.Rule) bool { return wantRule(p.Decls, r) != api.OK })
	if i < 0 {
		return 0, api.OK
	}
	return i, wantRule(p.Decls, p.Rules[i])
}

// wantNumbered returns a copy of a rule whose variables have the numbers that their order gives them.
func wantNumbered(r api.Rule) api.Rule {
	r = copyOf(r)
	lists := slices.Concat(headArguments(r), goalArguments(r.Guard), goalArguments(r.Body))
	vars := wantVars(lists...)
	for _, args := range lists {
		for _, at := range wantNodes(args) {
			if at.term.Kind == api.TVar {
				at.term.Int = slices.Index(vars, at.term.Int)
			}
		}
	}
	r.Vars = len(vars)
	return r
}
