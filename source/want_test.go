package source

import (
	"fmt"
	"regexp"
	"slices"
	"strconv"
	"strings"

	"constraint/api"
)

// This file writes values as DOC.md and the chapter say, with nothing of the packages that source calls.

// goalWords are what stands before the argument of a goal, or between its arguments.
var goalWords = map[int]string{
	api.OpTrue: "true", api.OpFail: "fail", api.OpUnify: "=", api.OpIs: "is", api.OpSame: "==", api.OpApart: "\\=", api.OpLess: "<", api.OpLeq: "=<", api.OpEqual: "=:=", api.OpUnequal: "=\\=",
	api.OpInt: "int", api.OpGround: "ground",
}

var strengths = map[string]int{"+": 1, "-": 1, "*": 2, "/": 2, "%": 2}

// wantArgs returns arguments of a goal with an operator other than OpCall, as many as it has.
func wantArgs(op int) []api.Term {
	switch {
	case slices.Contains(tests, op):
		return variables(1)
	case slices.Contains(comparisons, op):
		return variables(1, 2)
	}
	return nil
}

var namePattern = regexp.MustCompile(`^[a-z][a-zA-Z0-9_]{0,39}$`)

func isName(s string) bool { return namePattern.MatchString(s) && !slices.Contains(reserved, s) }

// node is a node of a term, and its level in it.
type node struct {
	term  *api.Term
	level int
}

// wantNodes returns the nodes of terms from left to right, without what terms do not use. A functor gives way to its
// arguments in a list, instead of a call of the function for each of them.
func wantNodes(list []api.Term) []node {
	var nodes, open []node
	push := func(terms []api.Term, level int) {
		for i := range slices.Backward(terms) {
			open = append(open, node{&terms[i], level})
		}
	}
	push(list, 1)
	for len(open) > 0 {
		at := open[len(open)-1]
		open = open[:len(open)-1]
		nodes = append(nodes, at)
		if at.term.Kind == api.TFun {
			push(at.term.Args, at.level+1)
		}
	}
	return nodes
}

// wantNumber looks for each variable in the list of those before it.
func wantNumber(r api.Rule) api.Rule {
	r = copyOf(r)
	numbers, count := map[int]int{}, 0
	for _, args := range argumentsOf(&r) {
		for _, at := range wantNodes(*args) {
			if at.term.Kind != api.TVar {
				continue
			}
			if _, ok := numbers[at.term.Int]; !ok {
				numbers[at.term.Int] = count
				count++
			}
			at.term.Int = numbers[at.term.Int]
		}
	}
	r.Vars = count
	return r
}

// argumentsOf returns the lists of arguments of a rule, in the order of its parts.
func argumentsOf(r *api.Rule) []*[]api.Term {
	var list []*[]api.Term
	for _, atoms := range [][]api.Atom{r.Keep, r.Remove} {
		for i := range atoms {
			list = append(list, &atoms[i].Args)
		}
	}
	for _, goals := range [][]api.Goal{r.Guard, r.Body} {
		for i := range goals {
			list = append(list, &goals[i].Args)
		}
	}
	return list
}

// areRight decides whether arguments are valid together.
func areRight(args []api.Term) bool {
	nodes := wantNodes(args)
	for _, at := range nodes {
		t := at.term
		right := false
		switch t.Kind {
		case api.TInt:
			right = t.Int >= -1<<31 && t.Int <= 1<<31 && t.Name == "" && len(t.Args) == 0
		case api.TVar:
			right = t.Int >= 0 && t.Int <= 1<<20 && t.Name == "" && len(t.Args) == 0
		case api.TFun:
			right = t.Int == 0 && (isName(t.Name) && len(t.Args) <= 6 || strengths[t.Name] > 0 && len(t.Args) == 2)
		}
		if !right || at.level > 20 {
			return false
		}
	}
	return len(nodes) <= 200
}

func isRightAtom(a api.Atom) bool { return isName(a.Name) && len(a.Args) <= 6 && areRight(a.Args) }

func isRightGoal(g api.Goal) bool {
	if g.Op == api.OpCall {
		return isRightAtom(atom(g.Name, g.Args...))
	}
	return goalWords[g.Op] != "" && g.Name == "" && len(g.Args) == len(wantArgs(g.Op)) && areRight(g.Args)
}

// wantTerm writes a term, in parentheses if it is weaker than what its place needs.
func wantTerm(t api.Term, needs int) string {
	own := strengths[t.Name]
	switch {
	case t.Kind == api.TInt:
		return strconv.Itoa(t.Int)
	case t.Kind == api.TVar:
		return "V" + strconv.Itoa(t.Int)
	case own == 0:
		return wantCall(t.Name, t.Args)
	case own < needs:
		return "(" + wantTerm(t, 0) + ")"
	}
	return wantTerm(t.Args[0], own) + " " + t.Name + " " + wantTerm(t.Args[1], own+1)
}

func wantCall(word string, args []api.Term) string {
	if len(args) == 0 {
		return word
	}
	return word + "(" + wantList(args, func(x api.Term) string { return wantTerm(x, 0) }) + ")"
}

func wantGoal(g api.Goal) string {
	if slices.Contains(comparisons, g.Op) {
		return wantTerm(g.Args[0], 0) + " " + goalWords[g.Op] + " " + wantTerm(g.Args[1], 0)
	}
	return wantCall(goalWords[g.Op]+g.Name, g.Args)
}

func wantList[T any](list []T, one func(x T) string) string {
	s := ""
	for _, x := range list {
		s += one(x) + ", "
	}
	return strings.TrimSuffix(s, ", ")
}

func wantAtoms(list []api.Atom) string {
	return wantList(list, func(a api.Atom) string { return wantCall(a.Name, a.Args) })
}

// rejection returns why a rule with numbered variables has no text, and the empty string if it has one.
func rejection(r api.Rule) string {
	heads := slices.Concat(r.Keep, r.Remove)
	for why, applies := range map[string]bool{
		"the name":         r.Name != "" && !isName(r.Name),
		"no heads":         len(heads) == 0,
		"many heads":       len(heads) > 4,
		"a head":           !every(heads, isRightAtom),
		"many in a guard":  len(r.Guard) > 12,
		"many in a body":   len(r.Body) > 12,
		"a goal":           !every(slices.Concat(r.Guard, r.Body), isRightGoal),
		"true is the body": len(r.Body) == 1 && r.Body[0].Op == api.OpTrue,
	} {
		if applies {
			return why
		}
	}
	return ""
}

func every[T any](list []T, is func(x T) bool) bool {
	for _, x := range list {
		if !is(x) {
			return false
		}
	}
	return true
}

// textOf writes a rule as it is, with its variables and however long.
func textOf(r api.Rule) string {
	keep, remove, guard, body := wantAtoms(r.Keep), wantAtoms(r.Remove), wantList(r.Guard, wantGoal), wantList(r.Body, wantGoal)
	s := ""
	for _, piece := range []struct {
		text    string
		applies bool
	}{
		{r.Name + " @ ", r.Name != ""},
		{keep, true},
		{" \\ ", keep != "" && remove != ""},
		{remove, true},
		{" <=> ", remove != ""},
		{" ==> ", remove == ""},
		{guard + " | ", guard != ""},
		{body, true},
		{"true", body == ""},
		{".", true},
	} {
		if piece.applies {
			s += piece.text
		}
	}
	return s
}

func fits(s string) string {
	if len(s) > 16384 {
		return ""
	}
	return s
}

func wantRule(r api.Rule) string {
	r = wantNumber(r)
	if rejection(r) != "" {
		return ""
	}
	return fits(textOf(r))
}

func wantGoals(l []api.Goal) string {
	if len(l) > 40 || !every(l, isRightGoal) {
		return ""
	}
	return fits(wantList(l, wantGoal))
}

func wantProgram(p api.Program) string {
	decls, lines := "", ""
	for _, d := range p.Decls {
		if !isName(d.Name) || d.Arity < 0 || d.Arity > 6 {
			return ""
		}
		decls += fmt.Sprintf(", %s/%d", d.Name, d.Arity)
	}
	if decls != "" {
		lines = "constraint " + strings.TrimPrefix(decls, ", ") + ".\n"
	}
	for _, r := range p.Rules {
		s := wantRule(r)
		if s == "" {
			return ""
		}
		lines += s + "\n"
	}
	if len(p.Decls) > 30 || len(p.Rules) > 40 {
		return ""
	}
	return fits(lines)
}
