package termtext

import (
	"math/big"
	"regexp"
	"slices"
	"strconv"
	"strings"

	"constraint/api"
)

// This file says what is expected, independently of the package: it reads texts with stacks and regular expressions, and
// it writes parentheses only where the tree is read differently without them.

var (
	integerForm = regexp.MustCompile(`^(0|-?[1-9][0-9]*)`)
	wordForm    = regexp.MustCompile(`^[A-Za-z_][A-Za-z0-9_]*`)
	labelForm   = regexp.MustCompile(`^V(0|[1-9][0-9]{0,6})$`)
	nameForm    = regexp.MustCompile(`^[a-z][A-Za-z0-9_]{0,39}$`)
	callForm    = regexp.MustCompile(`^ *\(`)
	atomStart   = regexp.MustCompile(`^ *[a-z]`)
)

// level is what has been read within a pair of parentheses.
type level struct {
	name     string // with a name, the parentheses contain arguments
	args     []api.Term
	operands []api.Term
	pending  []string
}

// reduce builds the terms of the pending operators that bind at least as strongly as an operator.
func (l *level) reduce(op string) {
	for n := len(l.pending); n > 0 && (multiplies(l.pending[n-1]) || !multiplies(op)); n-- {
		last := len(l.operands) - 2
		t := functor(l.pending[n-1], slices.Clone(l.operands[last:])...)
		l.operands = append(l.operands[:last], t)
		l.pending = l.pending[:n-1]
	}
}

// close returns the term that the level contains as a whole.
func (l *level) close() api.Term {
	l.reduce("")
	if l.name == "" {
		return l.operands[0]
	}
	return functor(l.name, append(l.args, l.operands[0])...)
}

func multiplies(op string) bool { return op == "*" || op == "/" || op == "%" }

func wantParse(s string) (api.Term, api.Errno) {
	t, e := wantRead(s, true)
	if e == api.OK && (size(t) > api.MaxNodes || depth(t) > api.MaxDepth || arity(t) > api.MaxArity) {
		return api.Term{}, api.ErrSize
	}
	return t, e
}

func wantParseAtom(s string) (api.Atom, api.Errno) {
	if len(s) <= api.MaxSource && !atomStart.MatchString(s) {
		return api.Atom{}, api.ErrSyntax
	}
	t, e := wantRead(s, false)
	if e == api.OK && (size(t) > api.MaxNodes+1 || depth(t) > api.MaxDepth+1 || arity(t) > api.MaxArity) {
		return api.Atom{}, api.ErrSize
	}
	return api.Atom{Name: t.Name, Args: t.Args}, e
}

// wantRead reads a term, whatever its size; without operators outside of parentheses, if they are not permitted.
func wantRead(s string, outer bool) (api.Term, api.Errno) {
	if len(s) > api.MaxSource {
		return api.Term{}, api.ErrSize
	}
	levels := []*level{{}}
	awaitsOperand := true
	for s = strings.TrimLeft(s, " "); s != ""; s = strings.TrimLeft(s, " ") {
		top := levels[len(levels)-1]
		c := s[:1]
		switch {
		case awaitsOperand && c == "(":
			levels = append(levels, &level{})
			s = s[1:]
		case awaitsOperand:
			t, length, e := wantOperand(s)
			if e != api.OK {
				return api.Term{}, e
			}
			s = s[length:]
			if open := callForm.FindString(s); t.Kind == api.TFun && open != "" {
				levels = append(levels, &level{name: t.Name})
				s = s[len(open):]
				continue
			}
			top.operands = append(top.operands, t)
			awaitsOperand = false
		case strings.Contains("+-*/%", c) && (outer || len(levels) > 1):
			top.reduce(c)
			top.pending = append(top.pending, c)
			awaitsOperand = true
			s = s[1:]
		case c == "," && top.name != "":
			top.reduce("")
			top.args = append(top.args, top.operands...)
			top.operands = nil
			awaitsOperand = true
			s = s[1:]
		case c == ")" && len(levels) > 1:
			levels = levels[:len(levels)-1]
			outside := levels[len(levels)-1]
			outside.operands = append(outside.operands, top.close())
			s = s[1:]
		default:
			return api.Term{}, api.ErrSyntax
		}
	}
	if awaitsOperand || len(levels) > 1 {
		return api.Term{}, api.ErrSyntax
	}
	return levels[0].close(), api.OK
}

// wantOperand reads an integer, a label or a name without arguments, and returns its length.
func wantOperand(s string) (api.Term, int, api.Errno) {
	if digits := integerForm.FindString(s); digits != "" {
		n, _ := new(big.Int).SetString(digits, 10)
		if n.CmpAbs(big.NewInt(api.MaxInt)) > 0 {
			return api.Term{}, 0, api.ErrRange
		}
		return number(int(n.Int64())), len(digits), api.OK
	}
	word := wordForm.FindString(s)
	switch {
	case word == "":
		return api.Term{}, 0, api.ErrSyntax
	case labelForm.MatchString(word):
		if n, _ := strconv.Atoi(word[1:]); n <= api.MaxVar {
			return variable(n), len(word), api.OK
		}
	case nameForm.MatchString(word) && !slices.Contains(reserved, word):
		return functor(word), len(word), api.OK
	}
	return api.Term{}, 0, api.ErrName
}

func size(t api.Term) int {
	n := 1
	for _, arg := range t.Args {
		n += size(arg)
	}
	return n
}

func depth(t api.Term) int {
	n := 0
	for _, arg := range t.Args {
		n = max(n, depth(arg))
	}
	return n + 1
}

// arity returns the greatest number of arguments in a term.
func arity(t api.Term) int {
	n := len(t.Args)
	for _, arg := range t.Args {
		n = max(n, arity(arg))
	}
	return n
}

// wantText writes a valid term.
func wantText(t api.Term) string {
	switch {
	case t.Kind == api.TInt:
		return strconv.Itoa(t.Int)
	case t.Kind == api.TVar:
		return "V" + strconv.Itoa(t.Int)
	case len(t.Args) == 0:
		return t.Name
	}
	var texts []string
	for _, arg := range t.Args {
		texts = append(texts, wantText(arg))
	}
	if !slices.Contains(operators, t.Name) {
		return t.Name + "(" + strings.Join(texts, ", ") + ")"
	}
	x := variable(0)
	if !isReadAs(texts[0]+t.Name+"V0", functor(t.Name, t.Args[0], x)) {
		texts[0] = "(" + texts[0] + ")"
	}
	if !isReadAs("V0"+t.Name+texts[1], functor(t.Name, x, t.Args[1])) {
		texts[1] = "(" + texts[1] + ")"
	}
	return texts[0] + " " + t.Name + " " + texts[1]
}

func isReadAs(s string, t api.Term) bool {
	got, e := wantRead(s, true)
	return e == api.OK && written(got) == written(t)
}
