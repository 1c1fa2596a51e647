package match

import (
	"fmt"
	"math"
	"slices"
	"testing"

	"constraint/api"
)

// checkTerm matches a pattern with a term, and checks that the result is new memory: the check that arguments are as
// before comes after the result was overwritten, which they would share.
func checkTerm(t *testing.T, env []api.Bind, pattern, x api.Term, want []api.Bind, wantOK bool) {
	t.Helper()
	defer watch(t, env, pattern, x)()
	got, ok := Term(env, pattern, x)
	if ok != wantOK || !equalEnvs(got, want) {
		t.Errorf("Term(%s, %s, %s) = %s, %v, not %s, %v", short(env), short(pattern), short(x), short(got), ok, short(want), wantOK)
	}
	m := memory{}
	for _, b := range got {
		m.check(t, b.Term.Args)
	}
	scribbleEnv(got)
}

// checkMatch compares Term and Atom with the results of wantMatch.
func checkMatch(t *testing.T, env []api.Bind, pattern, x api.Term) (ok bool) {
	t.Helper()
	want, ok := wantMatch(env, []api.Term{pattern}, []api.Term{x})
	checkTerm(t, env, pattern, x, want, ok)
	checkAtom(t, env, atom("p", pattern), atom("p", x), want, ok)
	return ok
}

func TestP8_1Table(t *testing.T) {
	const no = "no"
	for _, x := range []struct{ env, pattern, term, want string }{
		{"", "f(V0, V1, V0)", "f(a, V0, a)", "V0 = a; V1 = V0"},
		{"", "f(V0, V1, V0)", "f(a, b, b)", no},
		{"", "3", "3", ""},
		{"", "3", "V0", no},
		{"", "3", "-3", no},
		{"", "f(3)", "f", no},
		{"", "f", "f(3)", no},
		{"V1 = a", "V1", "a", "V1 = a"},
		{"V1 = a", "V1", "b", no},
		{"V1 = a", "V1", "V1", no},
		{"V1 = a", "V0", "b", "V0 = b; V1 = a"},
		{"V1 = a", "V2", "b", "V1 = a; V2 = b"},
		{"V1 = a; V4 = 1", "V3", "f(V3)", "V1 = a; V3 = f(V3); V4 = 1"},
		{"V1 = a; V4 = 1", "f(V9, V0, V2, V3, V5, V1)", "f(9, 0, 2, 3, 5, a)", "V0 = 0; V1 = a; V2 = 2; V3 = 3; V4 = 1; V5 = 5; V9 = 9"},
		// The same variable in the pattern and in the term.
		{"", "V0", "V0", "V0 = V0"},
		{"", "V0", "f(V0)", "V0 = f(V0)"},
		{"", "f(V0, V1)", "f(V1, V0)", "V0 = V1; V1 = V0"},
		{"", "f(V0, V0)", "f(V0, V1)", no},
		{"", "f(V0, V1)", "f(V1, V1)", "V0 = V1; V1 = V1"},
		{"V0 = V1", "V0", "V0", no},
		{"V0 = V1", "V0", "V1", "V0 = V1"},
		{"V0 = f(V1); V1 = a", "V0", "f(a)", no},
		{"V0 = f(V1); V1 = a", "V0", "f(V1)", "V0 = f(V1); V1 = a"},
		{"V0 = V1", "f(V0, V1)", "f(V1, 4)", "V0 = V1; V1 = 4"},
		// A variable of the term is not replaced.
		{"", "f(V0, a)", "f(a, V0)", no},
		{"V0 = a", "a", "V0", no},
		{"V0 = a", "V1", "V0", "V0 = a; V1 = V0"},
		{"", "a", "V0", no},
		{"", "f(V0)", "V0", no},
		// The same variable below functors.
		{"", "f(g(V2), V2)", "f(g(h(1)), h(1))", "V2 = h(1)"},
		{"", "f(g(V2), V2)", "f(g(h(1)), h(2))", no},
		{"", "f(V2, g(V2))", "f(V0, g(V2))", no},
		{"", "f(V2, g(V2))", "f(V0, g(V0))", "V2 = V0"},
		{"", "f(g(V3, V1), g(V1, V3))", "f(g(1, 2), g(2, 1))", "V1 = 2; V3 = 1"},
		{"", "f(g(V3, V1), g(V1, V3))", "f(g(1, 2), g(1, 2))", no},
		{"V1 = V1", "f(g(V1), V0)", "f(g(V1), V2)", "V0 = V2; V1 = V1"},
		{"V1 = V0", "f(g(V1), V0)", "f(g(V1), V2)", no},
		// Functors.
		{"", "f(V0)", "g(1)", no},
		{"", "f(V0)", "f(1, 2)", no},
		{"", "f(V0, V1)", "f(1)", no},
		{"", "f(V0, V1)", "g(1, 2)", no},
		{"", "f", "f", ""},
		{"", "f", "g", no},
		{"", "f", "0", no},
		{"", "0", "f", no},
		{"", "f(f)", "f(g)", no},
		{"", "V0 + V1", "1 + 2", "V0 = 1; V1 = 2"},
		{"", "V0 + V1", "1 - 2", no},
		{"", "V0 + 2", "3 + 2", "V0 = 3"},
		{"", "V0 + 2", "5", no},
		{"V0 = 3", "V0", "1 + 2", no},
		{"V0 = 1 + 2", "V0", "1 + 2", "V0 = 1 + 2"},
		// Lists that are not in order, and variables with two bindings.
		{"V5 = 5; V2 = 2", "V3", "3", "V3 = 3; V5 = 5; V2 = 2"},
		{"V5 = 5; V2 = 2", "V1", "1", "V1 = 1; V5 = 5; V2 = 2"},
		{"V5 = 5; V2 = 2", "V6", "6", "V5 = 5; V2 = 2; V6 = 6"},
		{"V2 = 2; V5 = 5; V1 = 1; V7 = 7", "f(V6, V3, V0, V4, V8)", "f(6, 3, 0, 4, 8)", "V0 = 0; V2 = 2; V3 = 3; V4 = 4; V5 = 5; V1 = 1; V6 = 6; V7 = 7; V8 = 8"},
		{"V5 = 5; V2 = 2", "f(V3, V2, V4)", "f(3, 2, 4)", "V3 = 3; V4 = 4; V5 = 5; V2 = 2"},
		{"V5 = 5; V2 = 2", "f(V4, V2, V3)", "f(4, 3, 3)", no},
		{"V1 = 1; V1 = 2", "V1", "1", "V1 = 1; V1 = 2"},
		{"V1 = 1; V1 = 2", "V1", "2", no},
		{"V1 = 1; V0 = 0; V1 = 2", "V1", "1", "V1 = 1; V0 = 0; V1 = 2"},
		{"V1 = 1; V0 = 0; V1 = 2", "V1", "2", no},
		{"V2 = 1; V0 = 0; V2 = 2", "V1", "5", "V1 = 5; V2 = 1; V0 = 0; V2 = 2"},
		{"V0 = 1; V0 = 2", "V1", "5", "V0 = 1; V0 = 2; V1 = 5"},
	} {
		env, pattern, term := bindings(t, x.env), read(t, x.pattern), read(t, x.term)
		var want []api.Bind
		if x.want != no {
			want = bindings(t, x.want)
		}
		checkTerm(t, roomy(env), roomyTerm(pattern), roomyTerm(term), want, x.want != no)
		checkMatch(t, roomy(env), roomyTerm(pattern), roomyTerm(term))
	}
}

func TestP8_1NoEnvironment(t *testing.T) {
	for _, env := range [][]api.Bind{nil, {}, make([]api.Bind, 0, 3)} {
		checkTerm(t, env, variable(3), functor("a"), []api.Bind{bind(3, functor("a"))}, true)
		checkTerm(t, env, functor("a"), functor("a"), nil, true)
		checkTerm(t, env, functor("a"), functor("b"), nil, false)
	}
}

// With false there is no environment, whatever was matched before.
func TestP8_1NothingWithFalse(t *testing.T) {
	env := []api.Bind{bind(2, number(2))}
	for _, last := range []api.Term{number(1), variable(2), functor("g", variable(7)), unknown(9)} {
		got, ok := Term(env, functor("f", variable(0), variable(1), last), functor("f", number(5), number(6), functor("h")))
		if ok || len(got) != 0 {
			t.Errorf("with the last argument %v: %v, %v", last, got, ok)
		}
	}
}

// Numbers of variables may be any numbers, in the pattern and in the environment.
func TestP8_1NumbersOfVariables(t *testing.T) {
	for _, v := range append([]int{0, 1, api.MaxVar}, noVars...) {
		checkTerm(t, nil, variable(v), variable(v), []api.Bind{bind(v, variable(v))}, true)
		for _, w := range append([]int{0, 1, api.MaxVar}, noVars...) {
			a, b := functor("a"), functor("b")
			switch {
			case v == w:
				checkTerm(t, []api.Bind{bind(v, a)}, variable(w), a, []api.Bind{bind(v, a)}, true)
				checkTerm(t, []api.Bind{bind(v, a)}, variable(w), b, nil, false)
			case v < w:
				checkTerm(t, []api.Bind{bind(v, a)}, variable(w), b, []api.Bind{bind(v, a), bind(w, b)}, true)
				checkTerm(t, nil, functor("f", variable(w), variable(v)), functor("f", b, a), []api.Bind{bind(v, a), bind(w, b)}, true)
			default:
				checkTerm(t, []api.Bind{bind(v, a)}, variable(w), b, []api.Bind{bind(w, b), bind(v, a)}, true)
				checkTerm(t, nil, functor("f", variable(w), variable(v)), functor("f", b, a), []api.Bind{bind(w, b), bind(v, a)}, true)
			}
		}
	}
}

// All fields of a term are kept in a binding; identity ignores those that its kind does not use.
func TestP8_1UnusedFields(t *testing.T) {
	for _, x := range []api.Term{number(3), variable(3), functor("a"), functor("f", filled(number(1))), unknown(7), {Kind: -5}} {
		for _, same := range []api.Term{x, filled(x)} {
			checkTerm(t, nil, variable(1), same, []api.Bind{bind(1, same)}, true)
			checkTerm(t, nil, filled(variable(1)), same, []api.Bind{bind(1, same)}, true)
			checkTerm(t, []api.Bind{bind(1, x)}, variable(1), same, []api.Bind{bind(1, x)}, true)
			checkTerm(t, []api.Bind{bind(1, same)}, variable(1), x, []api.Bind{bind(1, same)}, true)
			checkTerm(t, nil, functor("f", variable(0), variable(0)), functor("f", x, same), []api.Bind{bind(0, x)}, true)
			if x.Kind != api.TVar {
				checkMatch(t, nil, x, same)
				checkMatch(t, nil, same, x)
				if _, ok := Term(nil, same, x); !ok {
					t.Errorf("%v does not match %v", same, x)
				}
			}
		}
	}
}

// A term of an unknown kind has no variables, and matches only what is identical.
func TestP8_1UnknownKinds(t *testing.T) {
	for _, kind := range unknownKinds {
		x := unknown(kind)
		checkTerm(t, nil, x, x, nil, true)
		checkTerm(t, nil, x, api.Term{Kind: kind, Name: "f"}, nil, true)
		checkTerm(t, nil, x, api.Term{Kind: kind, Name: "f", Args: []api.Term{number(1), number(2)}}, nil, true)
		checkTerm(t, nil, x, api.Term{Kind: kind, Name: "g"}, nil, false)
		checkTerm(t, nil, x, api.Term{Kind: kind, Name: "f", Int: 1}, nil, false)
		for _, other := range append(slices.Clone(unknownKinds), api.TInt, api.TVar, api.TFun) {
			if other != kind {
				checkTerm(t, nil, x, api.Term{Kind: other, Name: "f"}, nil, false)
				checkTerm(t, nil, x, unknown(other), nil, false)
			}
		}
		checkTerm(t, nil, functor("f", variable(0)), x, nil, false)
		checkTerm(t, nil, number(0), api.Term{Kind: kind}, nil, false)
	}
}

func TestP8_1Names(t *testing.T) {
	names := []string{"", "f", "F", "fo", "f ", "f\x00", "\xff", "é", "+", "V0", "true"}
	for _, a := range names {
		for _, b := range names {
			checkMatch(t, nil, functor(a, variable(1)), functor(b, number(1)))
			checkMatch(t, nil, functor(a), functor(b))
			if _, ok := Term(nil, functor(a, variable(1)), functor(b, number(1))); ok != (a == b) {
				t.Errorf("%q and %q: %v", a, b, ok)
			}
		}
	}
}

func TestP8_1SmallTerms(t *testing.T) {
	one, two := smallTerms(2), smallTerms(3)
	matched, failed := 0, 0
	count := func(ok bool) {
		if ok {
			matched++
		} else {
			failed++
		}
	}
	for i, pattern := range two {
		for j, x := range two {
			if (i+j)%7 == 0 {
				count(checkMatch(t, nil, pattern, x))
			}
		}
	}
	for _, env := range smallEnvs() {
		for _, pattern := range one {
			for _, x := range one {
				count(checkMatch(t, env, pattern, x))
			}
		}
	}
	if matched < 3000 || failed < 30000 {
		t.Errorf("%d matched, %d did not", matched, failed)
	}
}

func TestP8_1Invalid(t *testing.T) {
	list := invalidTerms()
	for i, x := range list {
		checkTerm(t, nil, variable(0), x, []api.Bind{bind(0, x)}, true)
		checkTerm(t, []api.Bind{bind(0, x)}, variable(0), x, []api.Bind{bind(0, x)}, true)
		for j, y := range list {
			checkMatch(t, nil, x, y)
			if (i+j)%5 == 0 {
				checkMatch(t, []api.Bind{bind(1, x)}, functor("", variable(1), y), functor("", x, y))
				checkMatch(t, []api.Bind{bind(1, x)}, variable(1), y)
			}
		}
	}
}

func TestP8_1Random(t *testing.T) {
	g := newMaker(1)
	matched, failed := 0, 0
	for range 60000 {
		env, pattern := g.env(5), roomyTerm(g.term(4))
		x := g.target(env, pattern)
		if g.random.IntN(5) == 0 {
			x = g.term(4)
		}
		if checkMatch(t, env, pattern, x) {
			matched++
		} else {
			failed++
		}
	}
	if matched < 20000 || failed < 10000 {
		t.Errorf("%d matched, %d did not", matched, failed)
	}
}

// All orders of some variables in an environment, and of others in a pattern.
func TestP8_1Orders(t *testing.T) {
	known, added := permutations([]int{1, 3, 5, 3}), permutations([]int{0, 2, 3, 4, 6})
	for _, vars := range known {
		var env []api.Bind
		for _, v := range vars {
			env = append(env, bind(v, number(7)))
		}
		for _, more := range added {
			pattern, x := functor("f"), functor("f")
			for _, v := range more {
				pattern.Args, x.Args = append(pattern.Args, variable(v)), append(x.Args, number(7))
			}
			if !checkMatch(t, env, pattern, x) {
				t.Errorf("%v does not match %v", pattern, x)
			}
		}
	}
}

func permutations(list []int) [][]int {
	if len(list) == 0 {
		return [][]int{nil}
	}
	var all [][]int
	for i, v := range list {
		for _, rest := range permutations(slices.Concat(list[:i], list[i+1:])) {
			all = append(all, append([]int{v}, rest...))
		}
	}
	return all
}

// Patterns with many variables, in any order, which would take too long if each of them moved or compared all others.
func TestP8_1ManyVariables(t *testing.T) {
	const many = 200000
	for name, number := range map[string]func(i int) int{
		"up": func(i int) int { return i }, "down": func(i int) int { return many - i }, "mixed": func(i int) int { return i * 7919 % many },
	} {
		t.Run(name, func(t *testing.T) {
			pattern := wide(many, func(i int) api.Term { return variable(2 * number(i)) })
			x := wide(many, func(i int) api.Term { return variable(2*number(i) + 1) })
			got, ok := Term(nil, pattern, x)
			if !ok || len(got) != many {
				t.Fatalf("%d bindings, %v", len(got), ok)
			}
			for i, b := range got {
				if i > 0 && got[i-1].Var >= b.Var || b.Term.Kind != api.TVar || b.Term.Int != b.Var+1 {
					t.Fatalf("binding %d is %v", i, b)
				}
			}
			if again, ok := Term(got, pattern, x); !ok || !equalEnvs(again, got) {
				t.Error("a second matching changes the environment")
			}
			slices.Reverse(got)
			odd := wide(many, func(i int) api.Term { return variable(2*number(i) + 1) })
			more, ok := Term(got, functor("f", pattern, odd), functor("f", x, odd))
			if !ok || len(more) != 2*many {
				t.Errorf("%d bindings, %v", len(more), ok)
			}
			if _, ok := Term(got, pattern, odd); !ok {
				t.Error("the entries are not those of the list")
			}
		})
	}
}

func TestP8_1OneVariableManyTimes(t *testing.T) {
	const many = 300
	large := wide(1000, func(i int) api.Term { return functor("g", variable(i), number(i)) })
	pattern := wide(many, func(int) api.Term { return variable(0) })
	checkTerm(t, nil, pattern, wide(many, func(int) api.Term { return large }), []api.Bind{bind(0, large)}, true)
	checkTerm(t, nil, pattern, wide(many, func(i int) api.Term {
		if i == many-1 {
			return wide(1000, number)
		}
		return large
	}), nil, false)
}

func TestP8_1Deep(t *testing.T) {
	const levels = 1 << 16
	got, ok := Term(nil, high(levels-1, variable(2)), high(levels-1, functor("a")))
	if !ok || len(got) != 1 || got[0].Var != 2 || !equal(got[0].Term, functor("a")) {
		t.Errorf("%s, %v", short(got), ok)
	}
	deep := high(levels-2, variable(2))
	got, ok = Term([]api.Bind{bind(5, deep)}, functor("f", variable(5), variable(3)), functor("f", deep, deep))
	if !ok || len(got) != 2 || !equal(got[0].Term, deep) || !equal(got[1].Term, deep) {
		t.Errorf("%d bindings, %v", len(got), ok)
	}
	for _, x := range []api.Term{high(levels-1, functor("b")), high(levels-2, functor("a")), high(levels-1, number(0)), functor("a")} {
		if got, ok := Term(nil, high(levels-1, functor("a")), x); ok || len(got) != 0 {
			t.Errorf("%s, %v", short(got), ok)
		}
	}
}

// The environment of a call may be extended by later calls, in different ways.
func TestP8_1Environments(t *testing.T) {
	first, ok := Term(nil, functor("f", variable(1), variable(3)), functor("f", number(1), number(3)))
	if !ok {
		t.Fatal("no environment")
	}
	for i := range 6 {
		want := fmt.Sprintf("V1 = 1; V2 = %d; V3 = 3", i)
		got, ok := Term(first, variable(2), number(i))
		if !ok || !equalEnvs(got, bindings(t, want)) || len(first) != 2 {
			t.Errorf("%v instead of %s", got, want)
		}
		last, ok := Term(got, variable(math.MaxInt), number(i))
		if !ok || len(last) != 4 || !equalEnvs(last[:3], got) || last[3].Term.Int != i {
			t.Errorf("%v after %v", last, got)
		}
	}
}
