package syntax

import (
	"math/rand/v2"
	"slices"
	"strings"

	"constraint/api"
	"constraint/token"
)

// universe contains each symbol, each reserved word, and further tokens of each kind.
var universe = append(strings.Fields(`@ , . ( ) | / \ + - * % = == \= < =< > >= =:= =\= <=> ==> p qX_1 X _ Xy 0 7 007 2147483648`), reserved...)

// wide returns the text of a term with a number of nodes, which is as flat as MaxArity permits.
func wide(nodes int) string {
	var args []string
	for left, places := nodes-1, api.MaxArity; left > 0; places-- {
		share := (left + places - 1) / places
		args = append(args, wide(share))
		left -= share
	}
	if len(args) == 0 {
		return "a"
	}
	return "f(" + strings.Join(args, ", ") + ")"
}

// high returns the text of a term with a depth.
func high(depth int) string {
	return strings.Repeat("f(", depth-1) + "a" + strings.Repeat(")", depth-1)
}

// repeated returns a text, a number of times, with a separator between.
func repeated(s, separator string, count int) string {
	return strings.Join(slices.Repeat([]string{s}, count), separator)
}

// words returns the texts of the tokens of a text, if it has no error.
func words(s string) []string {
	tokens, _, _ := token.Scan(s)
	var list []string
	for _, x := range tokens {
		if x.Kind != api.KEnd {
			list = append(list, x.Text)
		}
	}
	return list
}

// maker makes random texts.
type maker struct{ random *rand.Rand }

func newMaker(seed uint64) *maker { return &maker{rand.New(rand.NewPCG(seed, 13))} }

func pick[T any](g *maker, list ...T) T { return list[g.random.IntN(len(list))] }

// derive returns the tokens of a random text of a symbol of the grammar. The integers behind minus signs have a - as well, so
// that they stay together.
func (g *maker) derive(symbol string, left int) []string {
	forms := productions[symbol]
	if forms == nil {
		return []string{g.terminal(symbol)}
	}
	form := forms[0]
	// Lists and expressions of one element half the time, because few of the long ones are valid.
	if isChain := forms[len(forms)-1].right[0] == symbol; left > 0 && (!isChain || g.random.IntN(2) > 0) {
		form = pick(g, forms...)
	}
	if symbol == "operand" && form.right[0] == "-" {
		return []string{"-" + g.terminal("INT")}
	}
	var list []string
	for _, x := range form.right {
		list = append(list, g.derive(x, left-1)...)
	}
	return list
}

func (g *maker) terminal(symbol string) string {
	switch symbol {
	case "NAME":
		return pick(g, "p", "q", "r", "f", "pX", "leq2", "isA", "true_", strings.Repeat("z", api.MaxName))
	case "VAR":
		return pick(g, "X", "X", "Y", "Z", "_", "_", "Xy", "XY", "__", "_1", "_x", strings.Repeat("X", api.MaxName))
	case "INT":
		return pick(g, "0", "1", "2", "7", "00", "012", "2147483647", "2147483648")
	case "END":
		return ""
	}
	return symbol
}

// gap returns white space and comments.
func (g *maker) gap() string {
	s := ""
	for range 1 + g.random.IntN(3) {
		s += pick(g, " ", " ", " ", "\t", "\n", "\r\n", "  ", "#\n", "# p(X) <=> true.\n", "#: \"\xff\n", " # is 7 # 2147483649\n")
	}
	return s
}

// join writes tokens with random gaps between them, where some may be empty.
func (g *maker) join(list []string) string {
	var s strings.Builder
	tight := pick(g, 0, 50, 100)
	for i, x := range list {
		if i == 0 || g.random.IntN(100) >= tight || !isApart(list[i-1], x) {
			s.WriteString(pick(g, " ", " ", g.gap()))
		}
		s.WriteString(x)
	}
	return s.String() + pick(g, "", "", g.gap(), "#", "# all")
}

// isApart reports whether two tokens stay apart when nothing is between them.
func isApart(a, b string) bool {
	a, b = strings.TrimPrefix(a, "-"), strings.TrimPrefix(b, "-")
	return len(words(a+b)) == len(words(a))+len(words(b))
}

// change deletes, inserts or replaces a token, or cuts the tokens off.
func (g *maker) change(list []string) []string {
	if len(list) == 0 {
		return []string{pick(g, universe...)}
	}
	i := g.random.IntN(len(list))
	switch g.random.IntN(5) {
	case 0:
		return slices.Delete(slices.Clone(list), i, i+1)
	case 1:
		return slices.Insert(slices.Clone(list), i, pick(g, universe...))
	case 2:
		return list[:i]
	case 3:
		return slices.Insert(slices.Clone(list), i, list[g.random.IntN(len(list))])
	}
	list = slices.Clone(list)
	list[i] = pick(g, universe...)
	return list
}

// rule returns the tokens of a random rule, and program those of a random program.
func (g *maker) rule() []string { return g.derive("rule", 4+g.random.IntN(16)) }

func (g *maker) program() []string {
	var list []string
	for range g.random.IntN(3) {
		list = append(list, g.derive("decl", 1+g.random.IntN(8))...)
	}
	for i, x := range list {
		if x == "/" {
			list[i+1] = pick(g, "0", "1", "2", "3", "006", "6", "6", "6", "6", "7")
		}
	}
	for range g.random.IntN(5) {
		list = append(list, g.rule()...)
	}
	return list
}

func (g *maker) query() []string { return g.derive("goals", 4+g.random.IntN(16)) }

// text returns the text of a random program, rule or query, of which some have an error.
func (g *maker) text() string {
	list := pick(g, g.program, g.rule, g.query)()
	for range pick(g, 0, 0, 1, 1, 2) {
		list = g.change(list)
	}
	return g.join(list)
}
