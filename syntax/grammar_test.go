package syntax

import (
	"slices"
	"strings"

	"constraint/api"
)

// grammar is that of DOC.md, one form in each line, the shortest one of a word first. NAME, VAR, INT, DIGITS (an integer that
// begins at the next offset) and END are kinds of tokens; what stands for no form is a token.
const grammar = `
program: END
program: decls END
program: rules END
program: decls rules END
onerule: rule END
query: goals END
decls: decl
decls: decls decl
decl: constraint declared .
declared: place / arity
declared: declared , place / arity
place: NAME
arity: INT
rules: rule
rules: rules rule
rule: heads body .
rule: NAME @ heads body .
heads: atoms <=>
heads: atoms ==>
heads: atoms \ atoms <=>
body: goals
body: goals | goals
atoms: head
atoms: atoms , head
head: atom
atom: NAME
atom: NAME ( exprs )
exprs: expr
exprs: exprs , expr
goals: goal
goals: goals , goal
goal: true
goal: fail
goal: atom
goal: int ( expr )
goal: ground ( expr )
goal: expr = expr
goal: expr is expr
goal: expr == expr
goal: expr \= expr
goal: expr < expr
goal: expr =< expr
goal: expr > expr
goal: expr >= expr
goal: expr =:= expr
goal: expr =\= expr
expr: product
expr: expr + product
expr: expr - product
product: operand
product: product * operand
product: product / operand
product: product % operand
operand: INT
operand: VAR
operand: atom
operand: - DIGITS
operand: ( expr )
`

// production is a form of a word of the grammar.
type production struct {
	left  string
	right []string
}

var productions = readGrammar()

func readGrammar() map[string][]*production {
	all := map[string][]*production{}
	for line := range strings.Lines(strings.TrimSpace(grammar)) {
		left, right, _ := strings.Cut(line, ":")
		all[left] = append(all[left], &production{left, strings.Fields(right)})
	}
	return all
}

// node is what has been read for a symbol of the grammar: a token, or the parts of a form.
type node struct {
	form  *production
	token api.Token
	parts []*node
}

// entry is a form of which the parts before the dot have been read, from a token on. before is the entry with the dot one
// place further to the left, and part what has been read between the two.
type entry struct {
	form      *production
	dot, from int
	before    *entry
	part      *node
}

// wants returns the symbol behind the dot, or nothing at the end.
func (x *entry) wants() string {
	if x.dot == len(x.form.right) {
		return ""
	}
	return x.form.right[x.dot]
}

func (x *entry) advance(part *node) *entry { return &entry{x.form, x.dot + 1, x.from, x, part} }

// node returns the node of an entry with the dot at the end.
func (x *entry) node() *node {
	n := &node{form: x.form}
	for y := x; y.before != nil; y = y.before {
		n.parts = append(n.parts, y.part)
	}
	slices.Reverse(n.parts)
	return n
}

// chart reads tokens by the grammar, following all forms at the same time (an Earley parser): sets contain what can have been
// read before each token. The grammar is unambiguous, and has no empty forms, so that no entry comes up twice.
type chart struct {
	sets [][]*entry
	last api.Token
}

func newChart(symbol string) *chart {
	c := &chart{last: api.Token{At: -2}}
	c.push(begin(nil, symbol, 0))
	return c
}

// begin adds the forms of a symbol, which begin at a token, to a set.
func begin(set []*entry, symbol string, from int) []*entry {
	for _, form := range productions[symbol] {
		set = append(set, &entry{form: form, from: from})
	}
	return set
}

func (c *chart) top() []*entry { return c.sets[len(c.sets)-1] }

// step reads a token, and reports whether the tokens before it can be continued with it.
func (c *chart) step(x api.Token) bool {
	var set []*entry
	for _, y := range c.top() {
		if c.matches(y.wants(), x) {
			set = append(set, y.advance(&node{token: x}))
		}
	}
	if len(set) == 0 {
		return false
	}
	c.last = x
	c.push(set)
	return true
}

// push appends a set, together with what follows from its entries.
func (c *chart) push(set []*entry) {
	var begun []string
	for i := 0; i < len(set); i++ {
		x := set[i]
		symbol := x.wants()
		switch {
		case symbol == "":
			n := x.node()
			for _, y := range c.sets[x.from] {
				if y.wants() == x.form.left {
					set = append(set, y.advance(n))
				}
			}
		case productions[symbol] != nil && !slices.Contains(begun, symbol):
			begun = append(begun, symbol)
			set = begin(set, symbol, len(c.sets))
		}
	}
	c.sets = append(c.sets, set)
}

func (c *chart) matches(symbol string, x api.Token) bool {
	switch symbol {
	case "":
		return false
	case "NAME":
		return x.Kind == api.KName && !slices.Contains(reserved, x.Text)
	case "VAR":
		return x.Kind == api.KVar
	case "INT":
		return x.Kind == api.KInt
	case "DIGITS":
		return x.Kind == api.KInt && x.At == c.last.At+1
	case "END":
		return x.Kind == api.KEnd
	}
	return x.Text == symbol && productions[symbol] == nil
}

// expects reports whether a symbol may be next.
func (c *chart) expects(symbol string) bool {
	return slices.ContainsFunc(c.top(), func(x *entry) bool { return x.wants() == symbol })
}

// tree returns what has been read as a whole, or nil if it is not complete.
func (c *chart) tree(symbol string) *node {
	for _, x := range c.top() {
		if x.wants() == "" && x.form.left == symbol && x.from == 0 {
			return x.node()
		}
	}
	return nil
}
