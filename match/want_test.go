package match

import (
	"fmt"
	"math/big"
	"slices"

	"constraint/api"
)

// identity returns a text that two terms have in common if, and only if, they are identical.
func identity(t api.Term) string {
	switch t.Kind {
	case api.TVar:
		return fmt.Sprint("V", t.Int)
	case api.TInt:
		return fmt.Sprint("I", t.Int)
	case api.TFun:
		text := fmt.Sprintf("F%q(", t.Name)
		for _, arg := range t.Args {
			text += identity(arg) + ","
		}
		return text + ")"
	}
	return fmt.Sprintf("K%d,%d,%q", t.Kind, t.Int, t.Name)
}

// couple is a pattern and a term.
type couple struct{ pattern, term api.Term }

func couples(patterns, terms []api.Term) []couple {
	var list []couple
	for i, p := range patterns {
		list = append(list, couple{p, terms[i]})
	}
	return list
}

// wantMatch matches one couple after another in a list, in which a functor gives way to its arguments, and inserts each
// binding into the environment at once.
func wantMatch(env []api.Bind, patterns, terms []api.Term) ([]api.Bind, bool) {
	if len(patterns) != len(terms) {
		return nil, false
	}
	list := copyEnv(env)
	for todo := couples(patterns, terms); len(todo) > 0; {
		p, t := todo[0].pattern, todo[0].term
		todo = todo[1:]
		switch {
		case p.Kind == api.TFun && (t.Kind != api.TFun || p.Name != t.Name || len(p.Args) != len(t.Args)):
			return nil, false
		case p.Kind == api.TFun:
			todo = slices.Concat(couples(p.Args, t.Args), todo)
		case p.Kind == api.TVar && !wantEntry(list, p.Int):
			list = wantInsert(list, bind(p.Int, copyTerm(t)))
		case p.Kind == api.TVar:
			if identity(wantEntries(list)[p.Int]) != identity(t) {
				return nil, false
			}
		case identity(p) != identity(t):
			return nil, false
		}
	}
	return list, true
}

func wantInsert(env []api.Bind, b api.Bind) []api.Bind {
	for i, x := range env {
		if x.Var > b.Var {
			return slices.Concat(env[:i], []api.Bind{b}, env[i:])
		}
	}
	return slices.Concat(env, []api.Bind{b})
}

// wantEntries overwrites later bindings by earlier ones, so that the first one of each variable is left.
func wantEntries(env []api.Bind) map[int]api.Term {
	entries := map[int]api.Term{}
	for i := len(env) - 1; i >= 0; i-- {
		entries[env[i].Var] = env[i].Term
	}
	return entries
}

func wantEntry(env []api.Bind, v int) bool {
	_, ok := wantEntries(env)[v]
	return ok
}

// wantInstance replaces variables in a copy of a term, which it walks through level by level. What it put in is not looked at.
func wantInstance(env []api.Bind, fresh int, t api.Term) api.Term {
	entries := wantEntries(env)
	result := copyTerm(t)
	todo := []*api.Term{&result}
	for i := 0; i < len(todo); i++ {
		at := todo[i]
		switch at.Kind {
		case api.TFun:
			at.Int = 0
			for j := range at.Args {
				todo = append(todo, &at.Args[j])
			}
		case api.TInt:
			*at = number(at.Int)
		case api.TVar:
			if entry, ok := entries[at.Int]; ok {
				*at = copyTerm(entry)
			} else {
				*at = variable(wantSum(fresh, at.Int))
			}
		}
	}
	return result
}

// wantSum returns the sum of two numbers, or the second one if the sum is not an int.
func wantSum(fresh, v int) int {
	sum := new(big.Int).Add(big.NewInt(int64(fresh)), big.NewInt(int64(v)))
	if !sum.IsInt64() {
		return v
	}
	return int(sum.Int64())
}

func wantInstances(env []api.Bind, fresh int, list []api.Term) []api.Term {
	var instances []api.Term
	for _, t := range list {
		instances = append(instances, wantInstance(env, fresh, t))
	}
	return instances
}
