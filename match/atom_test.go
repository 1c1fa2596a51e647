package match

import (
	"testing"

	"constraint/api"
)

func checkAtom(t *testing.T, env []api.Bind, pattern, a api.Atom, want []api.Bind, wantOK bool) {
	t.Helper()
	defer watch(t, env, functor(pattern.Name, pattern.Args...), functor(a.Name, a.Args...))()
	got, ok := Atom(env, pattern, a)
	if ok != wantOK || !equalEnvs(got, want) {
		t.Errorf("Atom(%s, %s, %s) = %s, %v, not %s, %v", short(env), short(pattern), short(a), short(got), ok, short(want), wantOK)
	}
	m := memory{}
	for _, b := range got {
		m.check(t, b.Term.Args)
	}
	scribbleEnv(got)
}

func TestP8_2Table(t *testing.T) {
	v0, v1, v3, v4 := variable(0), variable(1), variable(3), variable(4)
	one := []api.Bind{bind(1, number(1))}
	for _, x := range []struct {
		env        []api.Bind
		pattern, a api.Atom
		want       []api.Bind
		ok         bool
	}{
		{nil, atom("leq", v0, v0), atom("leq", v3, v3), []api.Bind{bind(0, v3)}, true},
		{nil, atom("leq", v0, v0), atom("leq", v3, v4), nil, false},
		{nil, atom("leq", v0, v1), atom("leq", v4, v3), []api.Bind{bind(0, v4), bind(1, v3)}, true},
		{nil, atom("leq", v1, v0), atom("leq", v4, v3), []api.Bind{bind(0, v3), bind(1, v4)}, true},
		{nil, atom("leq", v0, v1), atom("leq", v0), nil, false},
		{nil, atom("leq", v0), atom("leq", v0, v1), nil, false},
		{nil, atom("leq", v0), atom("leq"), nil, false},
		{nil, atom("leq"), atom("leq", v0), nil, false},
		{nil, atom("leq", v0, v1), atom("geq", v0, v1), nil, false},
		{nil, atom("p"), atom("p"), nil, true},
		{one, atom("p"), atom("p"), one, true},
		{one, atom("p"), atom("q"), nil, false},
		{nil, atom("p"), atom("P"), nil, false},
		{nil, atom(""), atom("p"), nil, false},
		{nil, atom("", v0), atom("", v1), []api.Bind{bind(0, v1)}, true},
		{one, atom("p", v1, v0), atom("p", number(1), functor("f", v1)), []api.Bind{bind(0, functor("f", v1)), bind(1, number(1))}, true},
		{one, atom("p", v1, v0), atom("p", v1, functor("f", v1)), nil, false},
		{one, atom("p", v0, v1), atom("p", v1, number(2)), nil, false},
		{nil, atom("p", functor("f", v0), v0), atom("p", functor("f", v1), v1), []api.Bind{bind(0, v1)}, true},
		{nil, atom("p", functor("f", v0), v0), atom("p", functor("f", v1), v0), nil, false},
		{nil, atom("p", v0, functor("a")), atom("p", v1, functor("b")), nil, false},
		{[]api.Bind{bind(4, number(1)), bind(1, number(2)), bind(4, number(3))}, atom("p", v4, v3, v1), atom("p", number(1), v0, number(2)),
			[]api.Bind{bind(3, v0), bind(4, number(1)), bind(1, number(2)), bind(4, number(3))}, true},
		{[]api.Bind{bind(4, number(1)), bind(1, number(2)), bind(4, number(3))}, atom("p", v4), atom("p", number(3)), nil, false},
	} {
		checkAtom(t, roomy(x.env), atom(x.pattern.Name, roomyTerms(x.pattern.Args)...), atom(x.a.Name, roomyTerms(x.a.Args)...), x.want, x.ok)
	}
	checkAtom(t, nil, api.Atom{Name: "p", Args: []api.Term{}}, atom("p"), nil, true)
	checkAtom(t, []api.Bind{}, atom("p"), api.Atom{Name: "p", Args: []api.Term{}}, nil, true)
	checkAtom(t, nil, api.Atom{}, api.Atom{}, nil, true)
}

func TestP8_2Random(t *testing.T) {
	g := newMaker(2)
	matched, failed := 0, 0
	for range 40000 {
		env := g.env(5)
		pattern := functor(pick(g, "p", "p", "p", "q", "Q", ""), roomyTerms(g.list(4))...)
		x := g.target(env, pattern)
		if g.random.IntN(10) == 0 {
			x.Name = "p"
		}
		if g.random.IntN(10) == 0 && x.Kind == api.TFun {
			x.Args = append(x.Args[:len(x.Args):len(x.Args)], g.term(2))
		}
		want, ok := wantMatch(env, pattern.Args, x.Args)
		if x.Name != pattern.Name {
			want, ok = nil, false
		}
		checkAtom(t, env, atom(pattern.Name, pattern.Args...), atom(x.Name, x.Args...), want, ok)
		if ok {
			matched++
		} else {
			failed++
		}
	}
	if matched < 10000 || failed < 5000 {
		t.Errorf("%d matched, %d did not", matched, failed)
	}
}

func TestP8_2ManyArguments(t *testing.T) {
	const many = 100000
	pattern := wide(many, func(i int) api.Term { return variable(many - i) })
	values := wide(many, func(i int) api.Term { return number(many - i) })
	got, ok := Atom(nil, atom("p", pattern.Args...), atom("p", values.Args...))
	if !ok || len(got) != many {
		t.Fatalf("%d bindings, %v", len(got), ok)
	}
	for i, b := range got {
		if b.Var != i+1 || !equal(b.Term, number(i+1)) {
			t.Fatalf("binding %d is %v", i, b)
		}
	}
}
