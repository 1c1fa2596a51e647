package scope

import (
	"math/rand/v2"
	"slices"
	"testing"

	"constraint/api"
)

// isValid reports whether a program is valid, and checks that a program without an error has the index 0.
func isValid(t *testing.T, p api.Program) bool {
	t.Helper()
	i, e := Check(p)
	if e == api.OK && i != 0 {
		t.Errorf("Check of a valid program is %d", i)
	}
	wantIndex, want := wantCheck(p)
	if i != wantIndex || e != want {
		t.Errorf("Check of %s is %d, %d instead of %d, %d", short(p), i, int(e), wantIndex, int(want))
	}
	return e == api.OK
}

// checkLaws checks P15.5 for a program, if it is valid, or for what stands before its first invalid rule.
func checkLaws(t *testing.T, p api.Program) {
	t.Helper()
	i, e := Check(p)
	if e == api.OK {
		checkValidLaws(t, p)
		return
	}
	if i < 0 {
		return
	}
	if other := CheckRule(p.Decls, p.Rules[i]); other != e {
		t.Errorf("CheckRule of the rule %d of %s is %d, and Check is %d", i, short(p), int(other), int(e))
	}
	for _, r := range p.Rules[:i] {
		if other := CheckRule(p.Decls, r); other != api.OK {
			t.Errorf("CheckRule of %s, which is before the first invalid rule, is %d", short(r), int(other))
		}
		if !isValid(t, api.Program{Decls: p.Decls, Rules: []api.Rule{r}}) {
			t.Errorf("%s, which is before the first invalid rule, is not valid alone", short(r))
		}
	}
	for _, k := range places(len(p.Rules)) {
		// The rules before the first invalid one are valid, and with it they are not.
		if isValid(t, api.Program{Decls: p.Decls, Rules: p.Rules[:k+1]}) != (k < i) {
			t.Errorf("the first %d rules of %s, of which the rule %d is not valid", k+1, short(p), i)
		}
	}
	checkValidLaws(t, api.Program{Decls: p.Decls, Rules: p.Rules[:i]})
}

func checkValidLaws(t *testing.T, p api.Program) {
	t.Helper()
	if !isValid(t, p) {
		t.Errorf("%s is not valid", short(p))
	}
	for i, rules := range shorter(p.Rules) {
		if !isValid(t, api.Program{Decls: p.Decls, Rules: rules}) {
			t.Errorf("%s is not valid with other rules (%d)", short(p), i)
		}
	}
	for i, decls := range reordered(p.Decls) {
		if !isValid(t, api.Program{Decls: decls, Rules: p.Rules}) {
			t.Errorf("%s is not valid with the declarations in another order (%d)", short(p), i)
		}
	}
	if len(p.Decls) == api.MaxDecls {
		return
	}
	for _, d := range []api.Decl{{Name: "extra"}, {Name: "p", Arity: 6}, {Name: "q", Arity: 5}, {Name: "extra", Arity: 3}} {
		if slices.Contains(p.Decls, d) {
			continue
		}
		for _, at := range []int{0, len(p.Decls) / 2, len(p.Decls)} {
			if !isValid(t, api.Program{Decls: slices.Insert(slices.Clone(p.Decls), at, d), Rules: p.Rules}) {
				t.Errorf("%s is not valid with %s/%d as the declaration %d", short(p), d.Name, d.Arity, at)
			}
		}
	}
}

// places returns all indices of a short list, and some of a long one.
func places(length int) []int {
	var list []int
	for i := range length {
		if length <= 6 || i < 2 || i >= length-2 || i == length/2 {
			list = append(list, i)
		}
	}
	return list
}

// shorter returns lists that lack some rules: one of them, all, those behind or before one, and every second.
func shorter(rules []api.Rule) [][]api.Rule {
	list := [][]api.Rule{nil}
	for _, i := range places(len(rules)) {
		list = append(list, slices.Delete(slices.Clone(rules), i, i+1), rules[:i], rules[i:], rules[i:i+1])
	}
	for first := range min(2, len(rules)) {
		var some []api.Rule
		for i := first; i < len(rules); i += 2 {
			some = append(some, rules[i])
		}
		list = append(list, some)
	}
	return list
}

// reordered returns declarations in other orders: all orders of a few, and some of many.
func reordered(decls []api.Decl) [][]api.Decl {
	if len(decls) <= 4 {
		return orders(decls)
	}
	var list [][]api.Decl
	random := rand.New(rand.NewPCG(15, 5))
	for i := range 10 {
		other := slices.Clone(decls)
		if i == 0 {
			slices.Reverse(other)
		} else {
			random.Shuffle(len(other), func(i, k int) { other[i], other[k] = other[k], other[i] })
		}
		list = append(list, other)
	}
	return list
}

func orders[T any](list []T) [][]T {
	if len(list) == 0 {
		return [][]T{nil}
	}
	var all [][]T
	for _, rest := range orders(list[1:]) {
		all = append(all, insertions(list[0], rest...)[1:]...)
	}
	return all
}

func TestP15_5Table(t *testing.T) {
	for _, text := range []string{
		"", "constraint p/1.", "constraint p/0, p/1, p/2.", "constraint leq/2. leq(X, X) <=> true. leq(X, Y), leq(Y, X) <=> X = Y. leq(X, Y) \\ leq(X, Y) <=> true. leq(X, Y), leq(Y, Z) ==> leq(X, Z).",
		"constraint gcd/1, p/3. gcd(0) <=> true. gcd(N) \\ gcd(M) <=> 0 < N, N =< M | L is M - N, gcd(L).", "constraint p/1, q/0, p/0, r/2. p(X) <=> p. p, p ==> q. r(X, Y) <=> X == Y | r(Z, 1), Z = X.",
	} {
		p := programOf(text)
		checkProgram(t, p, 0, api.OK)
		for i := range len(p.Rules) + 1 {
			for _, bad := range []string{"unknown <=> true.", "p(X) <=> int(Y) | true.", "gcd(X) ==> fail | true.", "q <=> int(1).", "r(1) <=> true."} {
				r := ruleOf(bad)
				e := wantRule(p.Decls, r)
				if e == api.OK {
					t.Errorf("%s is valid", bad)
				}
				checkProgram(t, api.Program{Decls: p.Decls, Rules: slices.Insert(slices.Clone(p.Rules), i, r)}, i, e)
			}
		}
	}
}

// With the greatest numbers of declarations and rules.
func TestP15_5Limits(t *testing.T) {
	p := api.Program{Decls: numbered(30), Rules: times(40, ruleOf("p0, p0 \\ p7 <=> true | p14, p21."))}
	checkProgram(t, p, 0, api.OK)
	p.Decls = p.Decls[:29]
	checkProgram(t, p, 0, api.OK)
	p.Decls = append(p.Decls, numbered(31)[29:]...)
	checkProgram(t, p, -1, api.ErrSize)
}

func TestP15_5Random(t *testing.T) {
	t.Parallel()
	g := newMaker(5)
	valid := 0
	for range 1500 {
		p := api.Program{Decls: g.decls()}
		for range g.random.IntN(6) {
			p.Rules = append(p.Rules, g.rule(p.Decls))
		}
		i, e := wantCheck(p)
		checkProgram(t, p, i, e)
		if e == api.OK {
			valid++
		}
	}
	if valid < 400 || valid > 1450 {
		t.Errorf("%d programs are valid", valid)
	}
}
