package ask

import (
	"math/big"
	"regexp"
	"slices"

	"constraint/api"
)

var word = regexp.MustCompile(`^[a-z][a-zA-Z0-9_]{0,39}$`)

// arities are the numbers of arguments of the operators of goals other than constraints.
var arities = map[int]int{api.OpTrue: 0, api.OpFail: 0, api.OpUnify: 2, api.OpIs: 2, api.OpSame: 2, api.OpApart: 2, api.OpLess: 2, api.OpLeq: 2, api.OpEqual: 2, api.OpUnequal: 2, api.OpInt: 1, api.OpGround: 1}

func isName(s string) bool { return word.MatchString(s) && !slices.Contains(reserved, s) }

// wantValid reports whether some terms are valid and have few enough nodes together.
func wantValid(list ...api.Term) bool {
	nodes := 0
	var visit func(t api.Term, depth int) bool
	visit = func(t api.Term, depth int) bool {
		nodes++
		switch {
		case nodes > 200 || depth > 20:
			return false
		case t.Kind == api.TInt:
			return t.Name == "" && len(t.Args) == 0 && -1<<31 <= t.Int && t.Int <= 1<<31
		case t.Kind == api.TVar:
			return t.Name == "" && len(t.Args) == 0 && 0 <= t.Int && t.Int <= 1<<20
		case t.Kind != api.TFun || t.Int != 0:
			return false
		case slices.Contains(operators, t.Name) && len(t.Args) != 2, !slices.Contains(operators, t.Name) && (!isName(t.Name) || len(t.Args) > 6):
			return false
		}
		return !slices.ContainsFunc(t.Args, func(arg api.Term) bool { return !visit(arg, depth+1) })
	}
	return !slices.ContainsFunc(list, func(t api.Term) bool { return !visit(t, 1) })
}

func wantValidGoal(g api.Goal) bool {
	if g.Op == api.OpCall {
		return isName(g.Name) && len(g.Args) <= 6 && wantValid(g.Args...)
	}
	arity, ok := arities[g.Op]
	return ok && g.Name == "" && len(g.Args) == arity && wantValid(g.Args...)
}

func wantTestGoal(g api.Goal) bool { return slices.Contains(tests, g.Op) && wantValidGoal(g) }

// wantVars returns the variables of a valid term.
func wantVars(t api.Term) map[int]bool {
	vars := map[int]bool{}
	if t.Kind == api.TVar {
		vars[t.Int] = true
	}
	for _, arg := range t.Args {
		for v := range wantVars(arg) {
			vars[v] = true
		}
	}
	return vars
}

// wantReplaced returns a valid term with a variable replaced.
func wantReplaced(t api.Term, v int, by api.Term) api.Term {
	if t.Kind == api.TVar && t.Int == v {
		return by
	}
	var args []api.Term
	for _, arg := range t.Args {
		args = append(args, wantReplaced(arg, v, by))
	}
	t.Args = args
	return t
}

// wantUnifiable reports whether valid terms have a unifier, one by one. It replaces one variable after the other.
func wantUnifiable(left, right []api.Term) bool {
	left, right = slices.Clone(left), slices.Clone(right)
	for len(left) > 0 {
		a, b := left[0], right[0]
		left, right = left[1:], right[1:]
		if a.Kind != api.TVar {
			a, b = b, a
		}
		switch {
		case equal(a, b):
		case a.Kind == api.TVar:
			if wantVars(b)[a.Int] {
				return false
			}
			for i := range left {
				left[i], right[i] = wantReplaced(left[i], a.Int, b), wantReplaced(right[i], a.Int, b)
			}
		case a.Kind != b.Kind || a.Int != b.Int || a.Name != b.Name || len(a.Args) != len(b.Args):
			return false
		default:
			left, right = append(left, a.Args...), append(right, b.Args...)
		}
	}
	return true
}

// wantNumber reports whether a valid term is a number term.
func wantNumber(t api.Term) bool {
	isPart := t.Kind != api.TFun || slices.Contains(operators, t.Name)
	return isPart && !slices.ContainsFunc(t.Args, func(arg api.Term) bool { return !wantNumber(arg) })
}

// wantValue returns the value of a number term without variables, or nil if there is none.
func wantValue(t api.Term) *big.Int {
	if t.Kind == api.TInt {
		return big.NewInt(int64(t.Int))
	}
	a, b := wantValue(t.Args[0]), wantValue(t.Args[1])
	if a == nil || b == nil {
		return nil
	}
	var value *big.Int
	switch t.Name {
	case "+":
		value = new(big.Int).Add(a, b)
	case "-":
		value = new(big.Int).Sub(a, b)
	case "*":
		value = new(big.Int).Mul(a, b)
	case "/", "%":
		if b.Sign() == 0 {
			return nil
		}
		value = wantDivided(t.Name, a, b)
	}
	if value.CmpAbs(big.NewInt(1<<31)) > 0 {
		return nil
	}
	return value
}

// wantDivided is a quotient that is rounded down, or the remainder for it.
func wantDivided(op string, a, b *big.Int) *big.Int {
	q, r := new(big.Int).QuoRem(a, b, new(big.Int))
	if r.Sign() != 0 && r.Sign() != b.Sign() {
		q.Sub(q, big.NewInt(1))
		r.Add(r, b)
	}
	if op == "/" {
		return q
	}
	return r
}

// wantTest is what Test returns.
func wantTest(g api.Goal) int {
	if !wantValidGoal(g) || g.Op != api.OpTrue && !slices.Contains(tests, g.Op) {
		return api.Refuted
	}
	hasVars := slices.ContainsFunc(g.Args, func(t api.Term) bool { return len(wantVars(t)) > 0 })
	entailed, refuted := false, false
	switch g.Op {
	case api.OpTrue:
		entailed = true
	case api.OpSame:
		entailed, refuted = equal(g.Args[0], g.Args[1]), !wantUnifiable(g.Args[:1], g.Args[1:])
	case api.OpApart:
		entailed, refuted = !wantUnifiable(g.Args[:1], g.Args[1:]), equal(g.Args[0], g.Args[1])
	case api.OpInt:
		entailed, refuted = g.Args[0].Kind == api.TInt, g.Args[0].Kind == api.TFun
	case api.OpGround:
		entailed = !hasVars
	default:
		if !wantNumber(g.Args[0]) || !wantNumber(g.Args[1]) {
			return api.Refuted
		}
		if hasVars {
			return api.Unknown
		}
		a, b := wantValue(g.Args[0]), wantValue(g.Args[1])
		if a != nil && b != nil {
			// The bits of a comparison tell which signs of the difference it permits: less, equal, greater.
			permitted := map[int]string{api.OpLess: "100", api.OpLeq: "110", api.OpEqual: "010", api.OpUnequal: "101"}[g.Op]
			entailed = permitted[a.Cmp(b)+1] == '1'
		}
		refuted = !entailed
	}
	switch {
	case entailed:
		return api.Entailed
	case refuted:
		return api.Refuted
	}
	return api.Unknown
}

// wantApplied is a term under a list of bindings. It looks at the last binding of a variable last.
func wantApplied(b api.Binds, t api.Term) api.Term {
	if t.Kind == api.TVar {
		for i := range b {
			if x := b[len(b)-1-i]; x.Var == t.Int && !slices.ContainsFunc(b[:len(b)-1-i], func(y api.Bind) bool { return y.Var == x.Var }) {
				return x.Term
			}
		}
	}
	if t.Kind == api.TFun {
		var args []api.Term
		for _, arg := range t.Args {
			args = append(args, wantApplied(b, arg))
		}
		t.Args = args
	}
	return t
}

func wantUnder(b api.Binds, g api.Goal) api.Goal {
	var args []api.Term
	for _, t := range g.Args {
		args = append(args, wantApplied(b, t))
	}
	g.Args = args
	return g
}

// wantSame reports whether two terms are identical, which does not depend on fields that are not used.
func wantSame(a, b api.Term) bool {
	switch {
	case a.Kind != b.Kind:
		return false
	case a.Kind == api.TInt || a.Kind == api.TVar:
		return a.Int == b.Int
	case a.Kind == api.TFun:
		return a.Name == b.Name && slices.EqualFunc(a.Args, b.Args, wantSame)
	}
	return a.Int == b.Int && a.Name == b.Name
}

func wantSameGoal(a, b api.Goal) bool {
	return a.Op == b.Op && a.Name == b.Name && slices.EqualFunc(a.Args, b.Args, wantSame)
}

// wantIn is what In returns.
func wantIn(b api.Binds, known []api.Goal, g api.Goal) int {
	g = wantUnder(b, g)
	for _, a := range known {
		if wantTestGoal(g) && wantSameGoal(wantUnder(b, a), g) {
			return api.Entailed
		}
	}
	return wantTest(g)
}

// wantAll is what All returns.
func wantAll(b api.Binds, known []api.Goal, l []api.Goal) int {
	counts := map[int]int{}
	for _, g := range l {
		counts[wantIn(b, known, g)]++
	}
	switch {
	case counts[api.Refuted] > 0:
		return api.Refuted
	case counts[api.Unknown] > 0:
		return api.Unknown
	}
	return api.Entailed
}

// follows are the rows of the table: two operators, and whether the arguments are exchanged.
var follows = []struct {
	from, to  int
	exchanged bool
}{
	{api.OpLess, api.OpLeq, false}, {api.OpLess, api.OpUnequal, false}, {api.OpLess, api.OpUnequal, true},
	{api.OpEqual, api.OpLeq, false}, {api.OpEqual, api.OpLeq, true}, {api.OpEqual, api.OpEqual, true},
	{api.OpUnequal, api.OpUnequal, true}, {api.OpSame, api.OpSame, true}, {api.OpApart, api.OpApart, true},
}

// wantFollows is what Follows returns.
func wantFollows(a, g api.Goal) bool {
	if !wantTestGoal(a) || !wantTestGoal(g) {
		return false
	}
	for _, row := range follows {
		if a.Op != row.from || g.Op != row.to {
			continue
		}
		first, second := a.Args[0], a.Args[1]
		if row.exchanged {
			first, second = second, first
		}
		if equal(first, g.Args[0]) && equal(second, g.Args[1]) {
			return true
		}
	}
	return wantSameGoal(a, g)
}
