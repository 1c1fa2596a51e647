package scope

import (
	"math"
	"slices"
	"strings"
	"testing"

	"constraint/api"
)

// checkLocals checks the local variables of a rule.
func checkLocals(t *testing.T, r api.Rule, want ...int) {
	t.Helper()
	defer watch(t, &r)()
	got := Locals(r)
	if !slices.Equal(got, want) {
		t.Errorf("Locals of %s are %v instead of %v", short(r), got, want)
	}
	if oracle := wantLocals(headArguments(r), goalArguments(slices.Concat(r.Guard, r.Body))); !slices.Equal(oracle, want) {
		t.Errorf("%s is expected to have %v and %v", short(r), oracle, want)
	}
	// A caller may change a result, also behind its end.
	again := slices.Clone(got)
	for i := range got[:cap(got)] {
		got[:cap(got)][i] = -77
	}
	if other := Locals(r); !slices.Equal(other, again) {
		t.Errorf("Locals of %s are first %v and then %v", short(r), again, other)
	}
}

func TestP15_4Locals(t *testing.T) {
	for _, x := range []struct {
		text string
		want []int
	}{
		{"p(X) <=> X = Y.", []int{1}}, {"p(X) <=> true.", nil}, {"p(X) ==> int(X) | q(X).", nil}, {"r <=> true.", nil}, {"r <=> s(X, Y, X).", []int{0, 1}}, {"p(X) <=> X < Y | true.", []int{1}}, {"p(X) <=> X < Y | s(Z, Y).", []int{1, 2}},
		{"p(X) \\ p(Y) <=> X < Y | Z is Y - X, p(Z).", []int{2}}, {"p(X), p(Y) ==> s(f(W, X, g(V)), Y), s(V, U).", []int{2, 3, 4}}, {"gcd(N) \\ gcd(M) <=> 0 < N, N =< M | L is M - N, gcd(L).", []int{2}}, {"p(f(X, g(Y))) <=> s(Y, X).", nil},
		{"p <=> int(X), int(Y), X < Y | s(Y, X).", []int{0, 1}}, {"p(A, B) ==> int(C) | C = D.", []int{2, 3}}, {"p(_, _) ==> _ = _.", []int{2, 3}},
	} {
		r := ruleOf(x.text)
		checkLocals(t, r, x.want...)
		checkLocals(t, roomy(r), x.want...)
		// Neither the name nor the number of variables matters.
		r.Name, r.Vars = "N", -5
		checkLocals(t, r, x.want...)
	}
}

func TestP15_4LocalsInvalid(t *testing.T) {
	vars := variableList
	for _, x := range []struct {
		r    api.Rule
		want []int
	}{
		{api.Rule{}, nil}, {api.Rule{Vars: 7}, nil},
		{api.Rule{Remove: []api.Atom{atom("p", variable(0))}, Body: []api.Goal{goal(api.OpUnify, vars(2, 0)...), call("q", variable(1))}}, []int{2, 1}},
		{api.Rule{Body: []api.Goal{call("P", vars(5, 3, 5, -1, 3, math.MaxInt, math.MinInt)...)}}, []int{5, 3, -1, math.MaxInt, math.MinInt}},
		{api.Rule{Guard: []api.Goal{goal(99, vars(4, 2)...)}, Body: []api.Goal{goal(api.OpTrue, vars(2, 7)...), goal(-1, vars(4, 1)...)}}, []int{4, 2, 7, 1}},
		{api.Rule{Keep: []api.Atom{atom("", vars(3, -1)...)}, Remove: []api.Atom{atom("is", functor("+", variable(8)))}, Guard: []api.Goal{goal(api.OpInt, vars(8, 9)...)}, Body: []api.Goal{call("", vars(-1, 3, 2)...)}}, []int{9, 2}},
		// What a term does not use is none of its variables, in a head as in a goal.
		{api.Rule{Keep: []api.Atom{atom("p", unknown(3), filled(number(1)))}, Body: []api.Goal{call("p", vars(7, 6, 0, 2, 5)...)}}, []int{7, 6, 0, 2, 5}},
		{api.Rule{Keep: []api.Atom{atom("p", filled(variable(4)))}, Body: []api.Goal{call("p", vars(4, 6)...)}}, []int{6}},
		{api.Rule{Guard: []api.Goal{goal(api.OpInt, unknown(-1))}, Body: []api.Goal{call("p", filled(number(1)), filled(variable(4)), filled(functor("f", variable(3))))}}, []int{4, 3}},
		{api.Rule{Keep: times(9, atom("p", variable(1))), Guard: times(20, goal(api.OpInt, variable(2))), Body: times(20, call("p", vars(1, 2, 3)...))}, []int{2, 3}},
	} {
		checkLocals(t, x.r, x.want...)
		checkLocals(t, roomy(x.r), x.want...)
	}
	for _, x := range invalidTerms() {
		for _, v := range []int{0, 1, 9} {
			r := api.Rule{Keep: []api.Atom{atom("p", variable(v))}, Body: []api.Goal{call("q", x, variable(10)), call("q", variable(v), x)}}
			checkLocals(t, r, wantLocals(headArguments(r), goalArguments(r.Body))...)
			r = api.Rule{Remove: []api.Atom{atom("p", variable(v), x)}, Guard: []api.Goal{goal(api.OpLess, variable(0), variable(v))}, Body: []api.Goal{call("q", variable(1), x)}}
			checkLocals(t, r, wantLocals(headArguments(r), goalArguments(append(r.Guard, r.Body...)))...)
		}
	}
}

// All choices of variables in the four parts.
func TestP15_4LocalsSmall(t *testing.T) {
	t.Parallel()
	var lists [][]api.Term
	for _, numbers := range [][]int{nil, {0}, {1}, {2}, {0, 1}, {1, 0}, {2, 0}, {1, 2}, {2, 1}, {2, 2}, {0, 1, 2}, {2, 1, 0}} {
		lists = append(lists, variableList(numbers...))
	}
	for _, keep := range lists {
		for _, remove := range lists {
			for _, guard := range lists {
				for _, body := range lists {
					r := api.Rule{Keep: []api.Atom{atom("p", keep...)}, Remove: []api.Atom{atom("q", functor("f", remove...))}, Guard: []api.Goal{goal(api.OpSame, guard...)}, Body: []api.Goal{call("r"), call("p", functor("g", body...))}}
					want := wantLocals([][]api.Term{keep, remove}, [][]api.Term{guard, body})
					if got := Locals(r); !slices.Equal(got, want) {
						t.Errorf("Locals of %s are %v instead of %v", short(r), got, want)
					}
				}
			}
		}
	}
}

func TestP15_4LocalsRandom(t *testing.T) {
	t.Parallel()
	g := newMaker(4)
	some := 0
	for range 10000 {
		r := g.rule(g.decls())
		for g.seldom(2) {
			pick(g, ruleFaults...).change(&r)
		}
		want := wantLocals(headArguments(r), goalArguments(slices.Concat(r.Guard, r.Body)))
		checkLocals(t, r, want...)
		some += min(1, len(want))
	}
	if some < 3000 {
		t.Errorf("only %d rules have local variables", some)
	}
}

// Many variables, heads and goals take no quadratic time, and deep terms are permitted.
func TestP15_4LocalsLarge(t *testing.T) {
	t.Parallel()
	var r api.Rule
	var want []int
	for i := range 200000 {
		r.Keep = append(r.Keep, atom("p", variable(3*i)))
		r.Body = append(r.Body, call("p", variable(3*i), variable(-i-1)))
		want = append(want, -i-1)
	}
	if got := Locals(r); !slices.Equal(got, want) {
		t.Errorf("%d local variables of a large rule", len(got))
	}
	deep := high(1<<16-3, variable(4))
	checkLocals(t, api.Rule{Keep: []api.Atom{atom("p", variable(3))}, Guard: []api.Goal{goal(api.OpInt, deep)}}, 4)
	checkLocals(t, api.Rule{Keep: []api.Atom{atom("p", deep)}, Guard: []api.Goal{call("p", variable(4), variable(5))}}, 5)
}

func TestP15_4Declared(t *testing.T) {
	for _, x := range []struct {
		decls, name string
		arity       int
		want        bool
	}{
		{"", "p", 1, false}, {"", "", 0, false}, {"p/1", "p", 1, true}, {"p/1", "p", 0, false}, {"p/1", "p", 2, false}, {"p/1", "p", -1, false}, {"p/1", "q", 1, false}, {"p/1", "P", 1, false}, {"p/1", "", 1, false}, {"p/1", "pp", 1, false},
		{"p/1 q/1 q/2", "q", 2, true}, {"p/1 q/1 q/2", "q", 1, true}, {"p/1 q/1 q/2", "p", 2, false}, {"p/0 p/2 p/1", "p", 1, true}, {"p/0 p/2 p/1", "p", 3, false}, {"p/3 p/3", "p", 3, true}, {"p/1 q/2", "p", 2, false}, {"q/2 p/1", "q", 1, false},
		// Declarations and what is looked for need not be valid.
		{"p/7 q/-1", "p", 7, true}, {"p/7 q/-1", "q", -1, true}, {"is/3 X/9", "X", 9, true}, {"is/3 X/9", "is", 3, true}, {"is/3 X/9", "is", 9, false},
	} {
		decls := declsOf(x.decls)
		for _, list := range [][]api.Decl{decls, roomy(decls)} {
			if got := Declared(list, x.name, x.arity); got != x.want {
				t.Errorf("Declared of %s, %q and %d is %v", x.decls, x.name, x.arity, got)
			}
		}
	}
	odd := []api.Decl{{Name: ""}, {Name: "", Arity: math.MinInt}, {Name: "p", Arity: math.MaxInt}, {Name: "p", Arity: 1 << 32}, {Name: "é", Arity: 1}, {Name: strings.Repeat("z", 50), Arity: 2}}
	for i, d := range odd {
		if !Declared(odd, d.Name, d.Arity) || !Declared(odd[i:], d.Name, d.Arity) || !Declared(odd[:i+1], d.Name, d.Arity) || Declared(odd[:i], d.Name, d.Arity) || Declared(odd[i+1:], d.Name, d.Arity) {
			t.Errorf("%q/%d", d.Name, d.Arity)
		}
	}
	if Declared(odd, "p", 0) || Declared(odd, "p", -1) || Declared(nil, "", 0) || !Declared(append(times(300000, api.Decl{Name: "p"}), api.Decl{Name: "p", Arity: 1}), "p", 1) {
		t.Error("declarations that are not valid, none, or many")
	}
}

// All pairs of declarations, with all constraints of a few.
func TestP15_4DeclaredSmall(t *testing.T) {
	var all []api.Decl
	for _, s := range []string{"", "p", "q", "pq"} {
		for arity := -1; arity < 3; arity++ {
			all = append(all, api.Decl{Name: s, Arity: arity})
		}
	}
	for _, a := range all {
		for _, b := range all {
			for _, x := range all {
				want := a.Name == x.Name && a.Arity == x.Arity || b.Name == x.Name && b.Arity == x.Arity
				list := []api.Decl{a, b}
				got := Declared(list, x.Name, x.Arity)
				if got != want || list[0] != a || list[1] != b {
					t.Errorf("Declared of %v and %v is %v", list, x, got)
				}
			}
		}
	}
}
