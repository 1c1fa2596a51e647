package syntax

import (
	"math"
	"strconv"

	"constraint/api"
	"constraint/name"
	"constraint/term"
)

// parser reads tokens from left to right. Its methods return the first error, after which none of them is called again, and
// with which their other result has no meaning. The error is at the token that is the next one then.
type parser struct {
	tokens []api.Token
	at     int
}

// query is what ParseGoals returns.
type query struct {
	goals []api.Goal
	names []string
}

func (p *parser) program() (api.Program, api.Errno) {
	var program api.Program
	for p.accept("constraint") {
		decls, e := p.declaration(api.MaxDecls - len(program.Decls))
		if e != api.OK {
			return program, e
		}
		program.Decls = append(program.Decls, decls...)
	}
	for p.next().Kind != api.KEnd {
		if len(program.Rules) == api.MaxRules {
			return program, api.ErrSize
		}
		rule, e := p.rule()
		if e != api.OK {
			return program, e
		}
		program.Rules = append(program.Rules, rule)
	}
	return program, api.OK
}

// declaration reads a declaration of up to a number of constraints, from behind its first word on.
func (p *parser) declaration(most int) ([]api.Decl, api.Errno) {
	decls, e := list(p, most, p.declared)
	if e == api.OK {
		e = p.expect(".")
	}
	return decls, e
}

// declared reads one of the constraints of a declaration.
func (p *parser) declared() (api.Decl, api.Errno) {
	word, e := p.name()
	if e == api.OK {
		e = p.expect("/")
	}
	if e != api.OK {
		return api.Decl{}, e
	}
	if p.next().Kind != api.KInt {
		return api.Decl{}, api.ErrSyntax
	}
	arity := value(p.next())
	if arity > api.MaxArity {
		return api.Decl{}, api.ErrSize
	}
	p.at++
	return api.Decl{Name: word, Arity: arity}, api.OK
}

func (p *parser) rule() (api.Rule, api.Errno) {
	var r api.Rule
	var e api.Errno
	r.Name, e = p.ruleName()
	if e == api.OK {
		e = p.heads(&r)
	}
	if e == api.OK {
		e = p.goals(&r)
	}
	if e == api.OK {
		e = p.expect(".")
	}
	if e == api.OK {
		numberRule(p.tokens, &r)
	}
	return r, e
}

// ruleName reads the name of a rule and the symbol behind it, if the rule has a name.
func (p *parser) ruleName() (string, api.Errno) {
	first := p.at
	word, e := p.name()
	if e == api.OK && !p.accept("@") {
		// Only now it is known to be the name of the first head, where it is read once more.
		p.at = first
		return "", api.OK
	}
	return word, e
}

// heads reads the heads of a rule and the arrow behind them.
func (p *parser) heads(r *api.Rule) api.Errno {
	heads, e := list(p, api.MaxHeads, p.head)
	switch {
	case e != api.OK:
		return e
	case p.accept("<=>"):
		r.Remove = heads
		return api.OK
	case p.accept("==>"):
		r.Keep = heads
		return api.OK
	case !p.accept(`\`):
		return api.ErrSyntax
	}
	r.Keep = heads
	r.Remove, e = list(p, api.MaxHeads-len(r.Keep), p.head)
	if e == api.OK {
		e = p.expect("<=>")
	}
	return e
}

// goals reads the guard of a rule, if it has one, and the body.
func (p *parser) goals(r *api.Rule) api.Errno {
	goals, e := list(p, api.MaxGoals, p.goal)
	if e == api.OK && p.accept("|") {
		r.Guard = goals
		goals, e = list(p, api.MaxGoals, p.goal)
	}
	if len(goals) != 1 || goals[0].Op != api.OpTrue {
		r.Body = goals
	}
	return e
}

func (p *parser) query() (query, api.Errno) {
	goals, e := list(p, api.MaxQuery, p.goal)
	if e != api.OK {
		return query{}, e
	}
	return query{goals, numberGoals(p.tokens, goals)}, api.OK
}

func (p *parser) head() (api.Atom, api.Errno) { return checked(p, p.atom, term.RightAtom) }

func (p *parser) goal() (api.Goal, api.Errno) { return checked(p, p.anyGoal, term.RightGoal) }

// anyGoal reads a goal that may be too large.
func (p *parser) anyGoal() (api.Goal, api.Errno) {
	switch {
	case p.accept("true"):
		return api.Goal{Op: api.OpTrue}, api.OK
	case p.accept("fail"):
		return api.Goal{Op: api.OpFail}, api.OK
	case p.accept("int"):
		return p.check(api.OpInt)
	case p.accept("ground"):
		return p.check(api.OpGround)
	}
	return p.comparison()
}

// check reads the argument of a goal with one argument, in its parentheses.
func (p *parser) check(op int) (api.Goal, api.Errno) {
	e := p.expect("(")
	if e != api.OK {
		return api.Goal{}, e
	}
	t, e := p.group()
	return api.Goal{Op: op, Args: []api.Term{t}}, e
}

// comparison reads a goal that begins with an expression: a comparison or a call.
func (p *parser) comparison() (api.Goal, api.Errno) {
	first := p.next()
	left, e := p.expr()
	if e != api.OK {
		return api.Goal{}, e
	}
	op, exchanged := comparisonOp(p.next().Text)
	if op == api.OpCall {
		// An expression that begins with a name is an atom, or an operator with this atom as its first operand.
		if first.Kind != api.KName || name.Operator(left.Name) {
			return api.Goal{}, api.ErrSyntax
		}
		return api.Goal{Op: api.OpCall, Name: left.Name, Args: left.Args}, api.OK
	}
	p.at++
	right, e := p.expr()
	if exchanged {
		left, right = right, left
	}
	return api.Goal{Op: op, Args: []api.Term{left, right}}, e
}

func (p *parser) expr() (api.Term, api.Errno) { return p.chain(adds, p.product) }

func (p *parser) product() (api.Term, api.Errno) { return p.chain(multiplies, p.operand) }

// chain reads operands with operators of one strength between them.
func (p *parser) chain(links func(s string) bool, operand func() (api.Term, api.Errno)) (api.Term, api.Errno) {
	t, e := operand()
	for e == api.OK && links(p.next().Text) {
		operator := p.next().Text
		p.at++
		first := t
		t, e = operand()
		t = term.Fun(operator, first, t)
	}
	return t, e
}

func (p *parser) operand() (api.Term, api.Errno) {
	t := p.next()
	switch {
	case t.Kind == api.KInt:
		p.at++
		return term.Int(value(t)), api.OK
	case t.Kind == api.KVar:
		p.at++
		// Its number is found when the rule is complete, because > and >= exchange their arguments.
		return term.Var(p.at - 1), api.OK
	case p.accept("("):
		return p.group()
	case p.accept("-"):
		return p.negative(t.At + 1)
	}
	a, e := p.atom()
	return term.Fun(a.Name, a.Args...), e
}

// group reads an expression and the closing parenthesis behind it.
func (p *parser) group() (api.Term, api.Errno) {
	t, e := p.expr()
	if e == api.OK {
		e = p.expect(")")
	}
	return t, e
}

// negative reads the digits behind a minus sign, which begin at an offset.
func (p *parser) negative(at int) (api.Term, api.Errno) {
	t := p.next()
	if t.Kind != api.KInt || t.At != at {
		return api.Term{}, api.ErrSyntax
	}
	p.at++
	return term.Int(-value(t)), api.OK
}

// atom reads a name and, if there are any, its arguments.
func (p *parser) atom() (api.Atom, api.Errno) {
	word, e := p.name()
	if e != api.OK || !p.accept("(") {
		return api.Atom{Name: word}, e
	}
	// Too many arguments are an error of the head or the goal as a whole.
	args, e := list(p, math.MaxInt, p.expr)
	if e == api.OK {
		e = p.expect(")")
	}
	return api.Atom{Name: word, Args: args}, e
}

// name reads a name that is not reserved.
func (p *parser) name() (string, api.Errno) {
	t := p.next()
	switch {
	case t.Kind != api.KName:
		return "", api.ErrSyntax
	case name.Reserved(t.Text):
		return "", api.ErrName
	}
	p.at++
	return t.Text, api.OK
}

func (p *parser) next() api.Token { return p.tokens[p.at] }

// accept skips a symbol or a reserved word, if it is next, and reports whether it did.
func (p *parser) accept(text string) bool {
	if p.next().Text != text {
		return false
	}
	p.at++
	return true
}

// expect skips a symbol.
func (p *parser) expect(text string) api.Errno {
	if !p.accept(text) {
		return api.ErrSyntax
	}
	return api.OK
}

// list reads up to a number of elements with commas between them.
func list[T any](p *parser, most int, read func() (T, api.Errno)) ([]T, api.Errno) {
	var elements []T
	for {
		// Before it is read, because one that is too much is an error whatever it is.
		if len(elements) == most {
			return nil, api.ErrSize
		}
		x, e := read()
		if e != api.OK {
			return nil, e
		}
		elements = append(elements, x)
		if !p.accept(",") {
			return elements, api.OK
		}
	}
}

// checked reads a head or a goal, and checks whether it is valid.
func checked[T any](p *parser, read func() (T, api.Errno), right func(x T) bool) (T, api.Errno) {
	first := p.at
	x, e := read()
	if e == api.OK && !right(x) {
		p.at = first
		e = api.ErrSize
	}
	return x, e
}

// value returns the value of an integer, which is in the range of int, because token.Scan permits no other ones.
func value(t api.Token) int {
	n, _ := strconv.Atoi(t.Text)
	return n
}

// comparisonOp returns the operator of goals that a symbol or a word represents, and whether its arguments are exchanged. For
// all other texts it returns OpCall.
func comparisonOp(s string) (op int, exchanged bool) {
	switch s {
	case "=":
		return api.OpUnify, false
	case "is":
		return api.OpIs, false
	case "==":
		return api.OpSame, false
	case `\=`:
		return api.OpApart, false
	case "<":
		return api.OpLess, false
	case "=<":
		return api.OpLeq, false
	case ">":
		return api.OpLess, true
	case ">=":
		return api.OpLeq, true
	case "=:=":
		return api.OpEqual, false
	case `=\=`:
		return api.OpUnequal, false
	}
	return api.OpCall, false
}

func adds(s string) bool { return s == "+" || s == "-" }

func multiplies(s string) bool { return s == "*" || s == "/" || s == "%" }
