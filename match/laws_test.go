package match

import (
	"slices"
	"testing"

	"constraint/api"
	"constraint/term"
)

// checkLaws checks what follows for an environment and a pattern, and for a term if the pattern matches it.
func checkLaws(t *testing.T, env []api.Bind, pattern, x api.Term) {
	t.Helper()
	checkFromNothing(t, pattern, x)
	checkKept(t, env, pattern, x)
	checkGround(t, env, pattern, x)
	checkOwnInstance(t, env, pattern)
}

// checkFromNothing checks an environment that begins with nothing.
func checkFromNothing(t *testing.T, pattern, x api.Term) {
	t.Helper()
	env, ok := Term(nil, pattern, x)
	if !ok {
		return
	}
	vars := term.Vars(pattern)
	slices.Sort(vars)
	if !slices.Equal(varsOf(env), vars) {
		t.Errorf("the environment %s does not have the variables of %s in order", short(env), short(pattern))
	}
	for _, fresh := range []int{0, 7} {
		if instance := Instance(env, fresh, pattern); !term.Same(instance, x) {
			t.Errorf("the instance %s of %s is not %s", short(instance), short(pattern), short(x))
		}
	}
}

// checkKept checks that matching keeps the environment, and that a second matching changes nothing.
func checkKept(t *testing.T, env []api.Bind, pattern, x api.Term) {
	t.Helper()
	got, ok := Term(env, pattern, x)
	if !ok {
		return
	}
	left := env
	for _, b := range got {
		if len(left) > 0 && b.Var == left[0].Var {
			if !equal(b.Term, left[0].Term) {
				t.Errorf("the entry %s was replaced by %s", short(left[0]), short(b))
			}
			left = left[1:]
		}
	}
	if len(left) > 0 {
		t.Errorf("the entries %s are missing in %s", short(left), short(got))
	}
	if isAscending(env) && !isAscending(got) {
		t.Errorf("%s is in order, %s is not", short(env), short(got))
	}
	if again, ok := Term(got, pattern, x); !ok || !equalEnvs(again, got) {
		t.Errorf("%s becomes %s, %v by a second matching", short(got), short(again), ok)
	}
	if instance := Instance(got, 9, pattern); !term.Same(instance, x) {
		t.Errorf("the instance %s of %s is not %s", short(instance), short(pattern), short(x))
	}
}

// checkGround checks that a pattern without variables matches what is identical to it, and nothing else.
func checkGround(t *testing.T, env []api.Bind, pattern, x api.Term) {
	t.Helper()
	if !term.Ground(pattern) {
		return
	}
	for _, y := range []api.Term{x, pattern} {
		got, ok := Term(env, pattern, y)
		if ok != term.Same(pattern, y) || ok && !equalEnvs(got, env) {
			t.Errorf("%s and %s: %s, %v", short(pattern), short(y), short(got), ok)
		}
	}
}

// checkOwnInstance checks that a pattern matches its instance if all of its variables have entries.
func checkOwnInstance(t *testing.T, env []api.Bind, pattern api.Term) {
	t.Helper()
	entries := wantEntries(env)
	var want []api.Bind
	for _, v := range term.Vars(pattern) {
		entry, ok := entries[v]
		if !ok {
			return
		}
		want = wantInsert(want, bind(v, entry))
	}
	instance := Instance(env, 7, pattern)
	if got, ok := Term(nil, pattern, instance); !ok || !equalEnvs(got, want) {
		t.Errorf("%s and its instance %s: %s, %v, not %s", short(pattern), short(instance), short(got), ok, short(want))
	}
	if got, ok := Term(env, pattern, instance); !ok || !equalEnvs(got, env) {
		t.Errorf("%s and its instance %s: %s, %v, not %s", short(pattern), short(instance), short(got), ok, short(env))
	}
}

func varsOf(env []api.Bind) []int {
	var vars []int
	for _, b := range env {
		vars = append(vars, b.Var)
	}
	return vars
}

func isAscending(env []api.Bind) bool {
	vars := varsOf(env)
	return slices.IsSorted(vars) && len(slices.Compact(vars)) == len(env)
}

func TestP8_4SmallTerms(t *testing.T) {
	list := smallTerms(2)
	for _, env := range smallEnvs() {
		for _, pattern := range list {
			for _, x := range list {
				checkLaws(t, env, pattern, x)
			}
		}
	}
	for i, pattern := range smallTerms(3) {
		for j, x := range smallTerms(3) {
			if (i+j)%5 == 0 {
				checkFromNothing(t, pattern, x)
			}
		}
	}
}

func TestP8_4Random(t *testing.T) {
	g := newMaker(4)
	matched, own, ground := 0, 0, 0
	for range 60000 {
		env, pattern := g.env(8), g.term(4)
		x := g.target(env, pattern)
		checkLaws(t, env, pattern, x)
		checkFromNothing(t, pattern, g.target(nil, pattern))
		checkLaws(t, nil, x, x)
		if _, ok := Term(env, pattern, x); ok {
			matched++
		}
		entries := wantEntries(env)
		if !slices.ContainsFunc(term.Vars(pattern), func(v int) bool { return !wantEntry(env, v) }) && len(entries) > 1 {
			own++
		}
		if term.Ground(pattern) {
			ground++
		}
	}
	if matched < 25000 || own < 5000 || ground < 5000 {
		t.Errorf("%d matched, %d have all entries, %d are ground", matched, own, ground)
	}
}

// The laws hold for constraints, too, since their arguments are matched as those of a functor.
func TestP8_4Atoms(t *testing.T) {
	g := newMaker(5)
	matched := 0
	for range 20000 {
		env := g.env(5)
		pattern := functor("p", g.list(4)...)
		x := g.target(env, pattern)
		if x.Kind != api.TFun {
			continue
		}
		p, a := atom(pattern.Name, pattern.Args...), atom(x.Name, x.Args...)
		got, ok := Atom(env, p, a)
		viaTerm, okTerm := Term(env, pattern, x)
		if ok != okTerm || !equalEnvs(got, viaTerm) {
			t.Errorf("Atom: %s, %v, Term: %s, %v", short(got), ok, short(viaTerm), okTerm)
		}
		if !ok {
			continue
		}
		matched++
		if instance := InstanceAtom(got, 7, p); !term.SameAtom(instance, a) {
			t.Errorf("the instance %s of %s is not %s", short(instance), short(p), short(a))
		}
		if again, ok := Atom(got, p, a); !ok || !equalEnvs(again, got) {
			t.Errorf("%s becomes %s, %v by a second matching", short(got), short(again), ok)
		}
	}
	if matched < 8000 {
		t.Errorf("%d matched", matched)
	}
}

// What holds for terms that are not valid: identity ignores unused fields.
func TestP8_4Invalid(t *testing.T) {
	list := invalidTerms()
	envs := [][]api.Bind{nil, {bind(0, functor("A")), bind(1, filled(number(1))), bind(5, unknown(8))}, {bind(5, filled(variable(5))), bind(-1, number(1)), bind(5, number(2))}}
	for _, env := range envs {
		for _, pattern := range list {
			for _, x := range list {
				checkLaws(t, env, pattern, x)
			}
		}
	}
}
