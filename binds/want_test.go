package binds

import (
	"cmp"
	"math/big"
	"regexp"
	"slices"

	"constraint/api"
)

var word = regexp.MustCompile(`^[a-z][a-zA-Z0-9_]{0,39}$`)

// wantValid is the validity of a term as the document defines it.
func wantValid(t api.Term) bool {
	nodes, deepest := 0, 0
	var visit func(t api.Term, depth int) bool
	visit = func(t api.Term, depth int) bool {
		nodes++
		deepest = max(deepest, depth)
		switch t.Kind {
		case api.TInt:
			return t.Name == "" && len(t.Args) == 0 && -1<<31 <= t.Int && t.Int <= 1<<31
		case api.TVar:
			return t.Name == "" && len(t.Args) == 0 && 0 <= t.Int && t.Int <= 1<<20
		case api.TFun:
			isName := word.MatchString(t.Name) && !slices.Contains(reserved, t.Name) && len(t.Args) <= 6
			isOperator := slices.Contains(operators, t.Name) && len(t.Args) == 2
			ok := t.Int == 0 && (isName || isOperator)
			for _, arg := range t.Args {
				ok = visit(arg, depth+1) && ok
			}
			return ok
		}
		return false
	}
	return visit(t, 1) && nodes <= 200 && deepest <= 20
}

// wantOccurs reports whether a variable is in a valid term.
func wantOccurs(v int, t api.Term) bool {
	return t.Kind == api.TVar && t.Int == v || slices.ContainsFunc(t.Args, func(arg api.Term) bool { return wantOccurs(v, arg) })
}

// wantReplaced returns a valid term with a variable replaced.
func wantReplaced(t api.Term, v int, by api.Term) api.Term {
	return solution{v: by}.apply(t)
}

// wantStore reports whether a list of a few bindings is in solved form.
func wantStore(b api.Binds) bool {
	for i, x := range b {
		if x.Var < 0 || x.Var > 1<<20 || !wantValid(x.Term) || i > 0 && b[i-1].Var >= x.Var {
			return false
		}
	}
	for _, x := range b {
		for _, y := range b {
			if wantOccurs(x.Var, y.Term) {
				return false
			}
		}
	}
	return true
}

// solution is what some equations make of variables. No term contains a variable that has a term, and of two variables
// that are equal the greater one has the other one as its term.
type solution map[int]api.Term

// apply replaces the variables of a valid term.
func (m solution) apply(t api.Term) api.Term {
	if x, ok := m[t.Int]; ok && t.Kind == api.TVar {
		return x
	}
	var args []api.Term
	for _, arg := range t.Args {
		args = append(args, m.apply(arg))
	}
	t.Args = args
	return t
}

// add adds the equation of two valid terms, and reports whether all equations have a unifier.
func (m solution) add(s, t api.Term) bool {
	s, t = m.apply(s), m.apply(t)
	switch {
	case equal(s, t):
		return true
	case t.Kind == api.TVar && (s.Kind != api.TVar || s.Int < t.Int):
		return m.set(t.Int, s)
	case s.Kind == api.TVar:
		return m.set(s.Int, t)
	case s.Kind != t.Kind || s.Int != t.Int || s.Name != t.Name || len(s.Args) != len(t.Args):
		return false
	}
	for i, arg := range s.Args {
		if !m.add(arg, t.Args[i]) {
			return false
		}
	}
	return true
}

func (m solution) set(v int, t api.Term) bool {
	for w, x := range m {
		m[w] = wantReplaced(x, v, t)
	}
	m[v] = t
	return !wantOccurs(v, t)
}

// store returns the solution as a list.
func (m solution) store() (b api.Binds) {
	for v, t := range m {
		b = append(b, bind(v, t))
	}
	slices.SortFunc(b, func(x, y api.Bind) int { return cmp.Compare(x.Var, y.Var) })
	return b
}

// wantApplied is a term under a store.
func wantApplied(b api.Binds, t api.Term) api.Term {
	m := solution{}
	for _, x := range b {
		m[x.Var] = x.Term
	}
	return m.apply(t)
}

// wantTell is what Tell returns.
func wantTell(b api.Binds, s, t api.Term) (c api.Binds, bound []int, e api.Errno) {
	if !wantStore(b) || !wantValid(s) || !wantValid(t) {
		return nil, nil, api.ErrArg
	}
	m := solution{}
	for _, x := range b {
		m.add(variable(x.Var), x.Term)
	}
	if !m.add(s, t) {
		return nil, nil, api.ErrNone
	}
	for _, x := range m.store() {
		if !wantValid(x.Term) {
			return nil, nil, api.ErrSize
		}
		if !slices.ContainsFunc(b, func(y api.Bind) bool { return y.Var == x.Var }) {
			bound = append(bound, x.Var)
		}
	}
	return m.store(), bound, api.OK
}

// wantValue is the value of an expression, and the first error from left to right.
func wantValue(t api.Term) (*big.Int, api.Errno) {
	switch {
	case t.Kind == api.TVar:
		return nil, api.ErrVar
	case t.Kind == api.TInt:
		return big.NewInt(int64(t.Int)), api.OK
	case !slices.Contains(operators, t.Name):
		return nil, api.ErrType
	}
	a, e := wantValue(t.Args[0])
	if e != api.OK {
		return nil, e
	}
	b, e := wantValue(t.Args[1])
	if e != api.OK {
		return nil, e
	}
	var value *big.Int
	switch t.Name {
	case "+":
		value = new(big.Int).Add(a, b)
	case "-":
		value = new(big.Int).Sub(a, b)
	case "*":
		value = new(big.Int).Mul(a, b)
	case "/", "%":
		if b.Sign() == 0 {
			return nil, api.ErrZero
		}
		value = wantDivided(t.Name, a, b)
	}
	if value.CmpAbs(big.NewInt(1<<31)) > 0 {
		return nil, api.ErrRange
	}
	return value, api.OK
}

// wantDivided is a quotient that is rounded down, or the remainder for it.
func wantDivided(op string, a, b *big.Int) *big.Int {
	q, r := new(big.Int).QuoRem(a, b, new(big.Int))
	if r.Sign() != 0 && r.Sign() != b.Sign() {
		q.Sub(q, big.NewInt(1))
		r.Add(r, b)
	}
	if op == "/" {
		return q
	}
	return r
}

// wantTellIs is what TellIs returns.
func wantTellIs(b api.Binds, s, t api.Term) (c api.Binds, bound []int, e api.Errno) {
	if !wantStore(b) || !wantValid(s) || !wantValid(t) {
		return nil, nil, api.ErrArg
	}
	value, e := wantValue(wantApplied(b, t))
	if e != api.OK {
		return nil, nil, e
	}
	return wantTell(b, s, number(int(value.Int64())))
}

// wantEqual is what Equal returns.
func wantEqual(b api.Binds, s, t api.Term) int {
	_, _, e := wantTell(b, s, t)
	switch {
	case e == api.ErrArg:
		return api.Unknown
	case equal(wantApplied(b, s), wantApplied(b, t)):
		return api.Entailed
	case e == api.ErrNone:
		return api.Refuted
	}
	return api.Unknown
}

// wantMerge is what Merge returns.
func wantMerge(b, c api.Binds) (api.Binds, api.Errno) {
	if !wantStore(b) || !wantStore(c) {
		return nil, api.ErrArg
	}
	e := api.OK
	for _, x := range c {
		b, _, e = wantTell(b, variable(x.Var), x.Term)
		if e != api.OK {
			return nil, e
		}
	}
	return b, api.OK
}
