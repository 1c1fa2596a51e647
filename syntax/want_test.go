package syntax

import (
	"slices"
	"strconv"
	"strings"

	"constraint/api"
	"constraint/token"
)

// This file says what is expected, independently of the package: the grammar decides which tokens can follow each other, and
// limits are counted between tokens.

var reserved = []string{"constraint", "true", "fail", "is", "int", "ground"}

func wantParse(s string) string {
	n, at, e := wantTree("program", api.MaxGoals, s)
	if e != api.OK {
		return outcome("", "", at, e)
	}
	return shownProgram(programOf(n))
}

func wantRule(s string) string {
	n, at, e := wantTree("onerule", api.MaxGoals, s)
	if e != api.OK {
		return outcome("", "", at, e)
	}
	return shownRule(ruleOf(n.parts[0]))
}

func wantGoals(s string) string {
	n, at, e := wantTree("query", api.MaxQuery, s)
	if e != api.OK {
		return outcome("", "", at, e)
	}
	goals := goalsOf(n.parts[0])
	return shownQuery(goals, number(goalTerms(goals)))
}

// reading is a text of which the first tokens have been read.
type reading struct {
	tokens                     []api.Token
	chart                      *chart
	most                       int         // goals that may follow each other
	decls, rules, heads, goals int         // how many there are
	large                      map[int]int // heads and goals that are not valid: their first token, by the token behind them
}

// wantTree returns the tree of a text, or the first error.
func wantTree(symbol string, most int, s string) (*node, int, api.Errno) {
	tokens, at, e := token.Scan(s)
	if e != api.OK {
		return nil, at, e
	}
	r := &reading{tokens: tokens, chart: newChart(symbol), most: most, large: map[int]int{}}
	for i, x := range tokens {
		if first, ok := r.large[i]; ok {
			return nil, tokens[first].At, api.ErrSize
		}
		isName := r.chart.expects("NAME")
		isArity := r.chart.expects("arity")
		if r.isTooMuch(i) {
			return nil, x.At, api.ErrSize
		}
		r.measure(i)
		digits := strings.TrimLeft(x.Text, "0")
		switch ok := r.chart.step(x); {
		case !ok && isName && slices.Contains(reserved, x.Text):
			return nil, x.At, api.ErrName
		case !ok:
			return nil, x.At, api.ErrSyntax
		case isArity && (len(digits) > 1 || digits > "6"):
			return nil, x.At, api.ErrSize
		}
	}
	return r.chart.tree(symbol), 0, api.OK
}

// isTooMuch counts what begins at a token, and reports whether there are too many of it.
func (r *reading) isTooMuch(i int) bool {
	if i > 0 {
		switch r.tokens[i-1].Text {
		case "@":
			// What seemed to be a head was the name of the rule.
			r.heads = 0
		case "<=>", "==>", "|":
			r.goals = 0
		case ".":
			r.heads = 0
		}
	}
	for _, x := range []struct {
		symbol string
		count  *int
		most   int
	}{{"place", &r.decls, api.MaxDecls}, {"head", &r.heads, api.MaxHeads}, {"goal", &r.goals, r.most}} {
		if r.chart.expects(x.symbol) {
			if *x.count == x.most {
				return true
			}
			*x.count++
		}
	}
	x := r.tokens[i]
	isDecl := r.chart.expects("decl") && x.Text == "constraint"
	if r.chart.expects("rule") && x.Kind != api.KEnd && !isDecl {
		r.rules++
	}
	return r.rules > api.MaxRules
}

// measure finds out whether a head or a goal that begins at a token will have been read completely, and is not valid.
func (r *reading) measure(i int) {
	for _, symbol := range []string{"head", "goal"} {
		if !r.chart.expects(symbol) {
			continue
		}
		c, end := newChart(symbol), i
		for c.step(r.tokens[end]) {
			end++
		}
		if n := c.tree(symbol); n != nil && isLarge(argsOf(n)) {
			r.large[end] = i
		}
	}
}

// isLarge reports whether the arguments of a head or a goal are not valid.
func isLarge(args []api.Term) bool {
	nodes := 0
	for _, t := range args {
		nodes += size(t)
		if depth(t) > api.MaxDepth || arity(t) > api.MaxArity {
			return true
		}
	}
	return nodes > api.MaxNodes || len(args) > api.MaxArity
}

func size(t api.Term) int {
	n := 1
	for _, arg := range t.Args {
		n += size(arg)
	}
	return n
}

func depth(t api.Term) int {
	n := 0
	for _, arg := range t.Args {
		n = max(n, depth(arg))
	}
	return n + 1
}

// arity returns the greatest number of arguments in a term.
func arity(t api.Term) int {
	n := len(t.Args)
	for _, arg := range t.Args {
		n = max(n, arity(arg))
	}
	return n
}

// elements returns the elements of a list, whose nodes begin with the rest of it.
func elements(n *node) []*node {
	var list []*node
	for ; n.parts[0].form != nil && n.parts[0].form.left == n.form.left; n = n.parts[0] {
		list = append(list, n)
	}
	list = append(list, n)
	slices.Reverse(list)
	return list
}

// lasts returns the last parts of the elements of a list.
func lasts(n *node) []*node {
	var list []*node
	for _, x := range elements(n) {
		list = append(list, x.parts[len(x.parts)-1])
	}
	return list
}

func programOf(n *node) api.Program {
	var p api.Program
	for _, part := range n.parts {
		switch {
		case part.form == nil:
		case part.form.left == "decls":
			for _, decl := range lasts(part) {
				p.Decls = append(p.Decls, declsOf(decl)...)
			}
		default:
			for _, rule := range lasts(part) {
				p.Rules = append(p.Rules, ruleOf(rule))
			}
		}
	}
	return p
}

func declsOf(n *node) []api.Decl {
	var list []api.Decl
	for _, x := range elements(n.parts[1]) {
		parts := x.parts[len(x.parts)-3:]
		arity, _ := strconv.Atoi(parts[2].parts[0].token.Text)
		list = append(list, api.Decl{Name: parts[0].parts[0].token.Text, Arity: arity})
	}
	return list
}

func ruleOf(n *node) api.Rule {
	var r api.Rule
	parts := n.parts
	if len(parts) == 5 {
		r.Name = parts[0].token.Text
		parts = parts[2:]
	}
	switch heads := parts[0].parts; {
	case len(heads) == 4:
		r.Keep, r.Remove = atomsOf(heads[0]), atomsOf(heads[2])
	case heads[1].token.Text == "==>":
		r.Keep = atomsOf(heads[0])
	default:
		r.Remove = atomsOf(heads[0])
	}
	goals := parts[1].parts
	if len(goals) == 3 {
		r.Guard = goalsOf(goals[0])
	}
	r.Body = goalsOf(goals[len(goals)-1])
	if shownList(r.Body, shownGoal) == "True" {
		r.Body = nil
	}
	terms := append(atomTerms(r.Keep), atomTerms(r.Remove)...)
	terms = append(terms, goalTerms(r.Guard)...)
	r.Vars = len(number(append(terms, goalTerms(r.Body)...)))
	return r
}

func atomsOf(n *node) []api.Atom {
	var list []api.Atom
	for _, x := range lasts(n) {
		t := termOf(x.parts[0])
		list = append(list, api.Atom{Name: t.Name, Args: t.Args})
	}
	return list
}

func goalsOf(n *node) []api.Goal {
	var list []api.Goal
	for _, x := range lasts(n) {
		list = append(list, goalOf(x))
	}
	return list
}

func goalOf(n *node) api.Goal {
	if first := n.parts[0]; first.form == nil {
		g := api.Goal{Op: map[string]int{"true": api.OpTrue, "fail": api.OpFail, "int": api.OpInt, "ground": api.OpGround}[first.token.Text]}
		if len(n.parts) > 1 {
			g.Args = []api.Term{termOf(n.parts[2])}
		}
		return g
	}
	a := termOf(n.parts[0])
	if len(n.parts) == 1 {
		return api.Goal{Name: a.Name, Args: a.Args}
	}
	symbol, b := n.parts[1].token.Text, termOf(n.parts[2])
	if symbol[0] == '>' {
		a, b = b, a
	}
	op := map[string]int{
		"=": api.OpUnify, "is": api.OpIs, "==": api.OpSame, "\\=": api.OpApart, "<": api.OpLess, ">": api.OpLess, "=<": api.OpLeq,
		">=": api.OpLeq, "=:=": api.OpEqual, "=\\=": api.OpUnequal,
	}[symbol]
	return api.Goal{Op: op, Args: []api.Term{a, b}}
}

// argsOf returns the arguments of a head or a goal.
func argsOf(n *node) []api.Term {
	if n.form.left == "head" {
		return termOf(n.parts[0]).Args
	}
	return goalOf(n).Args
}

// termOf returns the term of an expression, an operand or an atom. Its variables have names instead of numbers.
func termOf(n *node) api.Term {
	parts := n.parts
	switch {
	case n.form == nil && n.token.Kind == api.KVar:
		return api.Term{Kind: api.TVar, Name: n.token.Text}
	case n.form == nil:
		value, _ := strconv.Atoi(n.token.Text)
		return api.Term{Kind: api.TInt, Int: value}
	case n.form.left == "atom":
		t := api.Term{Kind: api.TFun, Name: parts[0].token.Text}
		if len(parts) > 1 {
			for _, x := range lasts(parts[2]) {
				t.Args = append(t.Args, termOf(x))
			}
		}
		return t
	case len(parts) == 1:
		return termOf(parts[0])
	case len(parts) == 2:
		value, _ := strconv.Atoi("-" + parts[1].token.Text)
		return api.Term{Kind: api.TInt, Int: value}
	case parts[0].form == nil:
		return termOf(parts[1])
	}
	return api.Term{Kind: api.TFun, Name: parts[1].token.Text, Args: []api.Term{termOf(parts[0]), termOf(parts[2])}}
}

func atomTerms(list []api.Atom) []*api.Term {
	var terms []*api.Term
	for _, a := range list {
		terms = append(terms, pointers(a.Args)...)
	}
	return terms
}

func goalTerms(list []api.Goal) []*api.Term {
	var terms []*api.Term
	for _, g := range list {
		terms = append(terms, pointers(g.Args)...)
	}
	return terms
}

// pointers returns pointers to all terms in a list, from left to right.
func pointers(list []api.Term) []*api.Term {
	var terms []*api.Term
	for i := range list {
		terms = append(append(terms, &list[i]), pointers(list[i].Args)...)
	}
	return terms
}

// number replaces the names of variables by numbers, and returns the names.
func number(terms []*api.Term) []string {
	var names []string
	for _, t := range terms {
		if t.Kind != api.TVar {
			continue
		}
		i := slices.Index(names, t.Name)
		if i < 0 || t.Name == "_" {
			i = len(names)
			names = append(names, t.Name)
		}
		t.Int, t.Name = i, ""
	}
	return names
}
