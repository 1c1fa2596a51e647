package termtext

import (
	"strings"
	"testing"

	"constraint/api"
)

// loosely writes a term with spaces between its parts, and with more parentheses.
func (g *maker) loosely(t api.Term) string {
	s := ""
	switch {
	case len(t.Args) == 0:
		s = wantText(t)
	case t.Name >= "a":
		s = t.Name + g.spaces() + "(" + g.looselyAll(t.Args) + ")"
	default:
		s = g.operand(t, 0) + t.Name + g.operand(t, 1)
	}
	for g.random.IntN(3) == 0 {
		s = "(" + g.spaces() + s + g.spaces() + ")"
	}
	return g.spaces() + s + g.spaces()
}

func (g *maker) looselyAll(list []api.Term) string {
	var texts []string
	for _, t := range list {
		texts = append(texts, g.loosely(t))
	}
	return strings.Join(texts, ",")
}

// operand writes an operand, in parentheses at least if it is an operator term.
func (g *maker) operand(t api.Term, i int) string {
	s := g.loosely(t.Args[i])
	if t.Args[i].Name < "a" && len(t.Args[i].Args) > 0 {
		return "(" + s + ")"
	}
	return s
}

func (g *maker) spaces() string { return strings.Repeat(" ", pick(g, 0, 0, 0, 1, 2)) }

// spaced writes spaces before, between and after the parts of a text.
func (g *maker) spaced(s string) string {
	var text strings.Builder
	for i, c := range []byte(s) {
		isPart := strings.ContainsRune("(),+*/% ", rune(c))
		// A minus sign belongs to the digits that directly follow it; before it there may be spaces.
		if isPart || c == '-' || i == 0 {
			text.WriteString(g.spaces())
		}
		text.WriteByte(c)
		if isPart {
			text.WriteString(g.spaces())
		}
	}
	return text.String() + g.spaces()
}

func TestP5_3Terms(t *testing.T) {
	g := newMaker(3)
	for range 20000 {
		x := g.term(1 + g.random.IntN(6))
		s := Text(x)
		if s == "" {
			continue
		}
		checkParse(t, s, x, api.OK)
		checkParse(t, "("+s+")", x, api.OK)
		for _, s := range []string{g.spaced(s), g.loosely(x)} {
			if len(s) <= api.MaxSource {
				checkParse(t, s, x, api.OK)
			}
		}
	}
}

func TestP5_3Atoms(t *testing.T) {
	g := newMaker(4)
	for range 10000 {
		a := api.Atom{Name: g.name(), Args: g.list(1 + g.random.IntN(4))}
		s := TextAtom(a)
		if s == "" {
			continue
		}
		checkParseAtom(t, s, a, api.OK)
		checkParseAtom(t, g.spaced(s), a, api.OK)
		if len(a.Args) == 0 {
			continue
		}
		if s := g.spaces() + a.Name + g.spaces() + "(" + g.looselyAll(a.Args) + ")" + g.spaces(); len(s) <= api.MaxSource {
			checkParseAtom(t, s, a, api.OK)
		}
	}
}

func TestP5_3Limits(t *testing.T) {
	for _, x := range []api.Term{
		wide(api.MaxNodes), high(api.MaxDepth), chain("-", api.MaxDepth, true), chain("-", api.MaxDepth, false), chain("%", api.MaxDepth, false),
		number(api.MaxInt), number(-api.MaxInt), variable(api.MaxVar), functor("f", make([]api.Term, api.MaxArity)...),
	} {
		checkParse(t, Text(x), x, api.OK)
		checkParseAtom(t, TextAtom(atom("p", x)), atom("p", x), api.OK)
	}
	checkParseAtom(t, TextAtom(atom("p", wide(100), wide(100))), atom("p", wide(100), wide(100)), api.OK)
}

// small returns all terms with at most a number of levels, of a few parts.
func small(levels int) []api.Term {
	list := []api.Term{number(1), number(-1), variable(1), functor("a")}
	if levels == 1 {
		return list
	}
	inner := small(levels - 1)
	for _, x := range inner {
		list = append(list, functor("f", x))
		for _, y := range inner {
			for _, name := range []string{"+", "-", "*", "/", "f"} {
				list = append(list, functor(name, x, y))
			}
		}
	}
	return list
}

func TestP5_3Different(t *testing.T) {
	terms := map[string]api.Term{}
	for _, x := range small(3) {
		s := Text(x)
		if s == "" {
			t.Fatalf("%s has no text", written(x))
		}
		if y, ok := terms[s]; ok {
			t.Fatalf("%s and %s have the text %q", written(x), written(y), s)
		}
		terms[s] = x
	}
}

// Each pair of parentheses around an operand is needed.
func TestP5_3Needed(t *testing.T) {
	for _, x := range small(3) {
		s := Text(x)
		for at, c := range s {
			if c != '(' || at > 0 && s[at-1] == 'f' {
				continue
			}
			end := at + strings.IndexByte(s[at:], ')')
			without := s[:at] + s[at+1:end] + s[end+1:]
			if y, e := Parse(without); e == api.OK && written(y) == written(x) {
				t.Fatalf("%q and %q are read as the same", s, without)
			}
		}
	}
}

// grouped returns X o Y p Z with the parentheses that P5.4 says.
func grouped(o, p string, x, y, z api.Term) api.Term {
	if strings.Contains("+-", o) && strings.Contains("*/%", p) {
		return functor(o, x, functor(p, y, z))
	}
	return functor(p, functor(o, x, y), z)
}

func TestP5_4Chains(t *testing.T) {
	g := newMaker(5)
	for _, o := range operators {
		for _, p := range operators {
			checkParse(t, "V1"+o+"V2"+p+"V3", grouped(o, p, variable(1), variable(2), variable(3)), api.OK)
			checkParse(t, "-1"+o+"-2"+p+"-3", grouped(o, p, number(-1), number(-2), number(-3)), api.OK)
			for range 200 {
				x, y, z := g.term(3), g.term(3), g.term(3)
				want := grouped(o, p, x, y, z)
				if size(want) > api.MaxNodes {
					continue
				}
				checkParse(t, "("+Text(x)+") "+o+" ("+Text(y)+") "+p+" ("+Text(z)+")", want, api.OK)
				checkParse(t, "("+Text(x)+")"+o+"("+Text(y)+")"+p+"("+Text(z)+")", want, api.OK)
			}
		}
	}
}

// Chains of three and more operators are read pair by pair.
func TestP5_4Long(t *testing.T) {
	for _, x := range []struct{ text, want string }{
		{"1 + 2 * 3 * 4 - 5", "((1) + ((2 * 3) * 4)) - 5"}, {"1 * 2 + 3 * 4 + 5", "((1 * 2) + (3 * 4)) + 5"}, {"1 - 2 / 3 - 4 % 5 * 6", "(1 - (2 / 3)) - ((4 % 5) * 6)"}, {"1 - 2 + 3 - 4", "((1 - 2) + 3) - 4"}, {"1 / 2 % 3 * 4", "((1 / 2) % 3) * 4"}, {"1+2-3*4/5%6", "(1 + 2) - (((3 * 4) / 5) % 6)"},
	} {
		want, e := wantParse(x.want)
		checkParse(t, x.text, want, e)
		checkParse(t, x.want, want, api.OK)
	}
	for _, op := range operators {
		checkParse(t, strings.Repeat("1"+op, api.MaxDepth-1)+"1", chain(op, api.MaxDepth, true), api.OK)
		checkParse(t, strings.Repeat("1"+op, api.MaxDepth)+"1", api.Term{}, api.ErrSize)
	}
}
