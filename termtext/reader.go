package termtext

import (
	"strconv"

	"constraint/api"
	"constraint/name"
	"constraint/term"
)

// reader reads a text from the left to the right. Its methods return the first error, after which none of them is called
// again, and with which their other result has no meaning.
type reader struct {
	text string
	at   int
}

// whole reads a text from its beginning to its end, and checks what it represents.
func whole[T any](r *reader, read func() (T, api.Errno), right func(t T) bool) (T, api.Errno) {
	var none T
	if len(r.text) > api.MaxSource {
		return none, api.ErrSize
	}
	result, e := read()
	switch {
	case e != api.OK:
		return none, e
	case !r.atEnd():
		return none, api.ErrSyntax
	// Not before, because every error in the text precedes this one.
	case !right(result):
		return none, api.ErrSize
	}
	return result, api.OK
}

func (r *reader) expr() (api.Term, api.Errno) { return r.chain(weak, r.product) }

func (r *reader) product() (api.Term, api.Errno) { return r.chain(strong, r.operand) }

// chain reads operands with operators of one strength between them.
func (r *reader) chain(own int, operand func() (api.Term, api.Errno)) (api.Term, api.Errno) {
	t, e := operand()
	for e == api.OK {
		operator := string(r.next())
		if operatorStrength(operator) != own {
			break
		}
		r.at++
		first := t
		t, e = operand()
		t = term.Fun(operator, first, t)
	}
	return t, e
}

func (r *reader) operand() (api.Term, api.Errno) {
	switch c := r.next(); {
	case c == '(':
		return r.group()
	case c == '-' || isDigit(c):
		return r.integer()
	case c == '_' || isUpper(c):
		return r.label()
	}
	a, e := r.atom()
	return term.Fun(a.Name, a.Args...), e
}

// group reads an expression in parentheses.
func (r *reader) group() (api.Term, api.Errno) {
	r.at++
	t, e := r.expr()
	if e == api.OK && !r.accept(')') {
		e = api.ErrSyntax
	}
	return t, e
}

// integer reads digits, or a minus sign and the digits that directly follow it.
func (r *reader) integer() (api.Term, api.Errno) {
	start := r.at
	if r.text[r.at] == '-' {
		r.at++
	}
	digits := r.take(isDigit)
	s := r.text[start:r.at]
	if digits == "" || digits[0] == '0' && s != "0" {
		return api.Term{}, api.ErrSyntax
	}
	n, err := strconv.Atoi(s)
	if err != nil || n < -api.MaxInt || n > api.MaxInt {
		return api.Term{}, api.ErrRange
	}
	return term.Int(n), api.OK
}

func (r *reader) label() (api.Term, api.Errno) {
	v, ok := name.Number(r.take(isWordByte))
	if !ok {
		return api.Term{}, api.ErrName
	}
	return term.Var(v), api.OK
}

// atom reads a name and, if there are any, its arguments.
func (r *reader) atom() (api.Atom, api.Errno) {
	if !isLower(r.next()) {
		return api.Atom{}, api.ErrSyntax
	}
	word := r.take(isWordByte)
	if !name.Right(word) {
		return api.Atom{}, api.ErrName
	}
	if !r.accept('(') {
		return api.Atom{Name: word}, api.OK
	}
	args, e := r.arguments()
	return api.Atom{Name: word, Args: args}, e
}

// arguments reads arguments, from behind the opening parenthesis on.
func (r *reader) arguments() ([]api.Term, api.Errno) {
	var args []api.Term
	for {
		arg, e := r.expr()
		if e != api.OK {
			return nil, e
		}
		args = append(args, arg)
		if r.accept(')') {
			return args, api.OK
		}
		if !r.accept(',') {
			return nil, api.ErrSyntax
		}
	}
}

func (r *reader) skipSpaces() {
	for r.at < len(r.text) && r.text[r.at] == ' ' {
		r.at++
	}
}

// atEnd reports whether only spaces remain.
func (r *reader) atEnd() bool {
	r.skipSpaces()
	return r.at == len(r.text)
}

// next returns the next byte that is no space. At the end of the text it returns a byte with which nothing begins.
func (r *reader) next() byte {
	if r.atEnd() {
		return 0
	}
	return r.text[r.at]
}

// accept skips a byte, if it is the next one that is no space, and reports whether it did.
func (r *reader) accept(c byte) bool {
	if r.next() != c {
		return false
	}
	r.at++
	return true
}

// take reads the bytes of one kind that follow directly.
func (r *reader) take(isOfKind func(c byte) bool) string {
	start := r.at
	for r.at < len(r.text) && isOfKind(r.text[r.at]) {
		r.at++
	}
	return r.text[start:r.at]
}

func isDigit(c byte) bool { return c >= '0' && c <= '9' }

func isLower(c byte) bool { return c >= 'a' && c <= 'z' }

func isUpper(c byte) bool { return c >= 'A' && c <= 'Z' }

func isWordByte(c byte) bool { return isLower(c) || isUpper(c) || isDigit(c) || c == '_' }
