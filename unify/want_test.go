package unify

import (
	"cmp"
	"slices"

	"constraint/api"
)

// wantOccurs reports whether a variable is in a valid term.
func wantOccurs(v int, t api.Term) bool {
	return t.Kind == api.TVar && t.Int == v || slices.ContainsFunc(t.Args, func(arg api.Term) bool { return wantOccurs(v, arg) })
}

// wantReplaced returns a valid term with a variable replaced.
func wantReplaced(t api.Term, v int, by api.Term) api.Term {
	if t.Kind == api.TVar && t.Int == v {
		return by
	}
	var args []api.Term
	for _, arg := range t.Args {
		args = append(args, wantReplaced(arg, v, by))
	}
	t.Args = args
	return t
}

// wantSolved solves equations between valid terms by replacing variables in all that remains, one after the other, as
// long as terms do not become far too large.
func wantSolved(a, b []api.Term) (api.Binds, bool) {
	var solved api.Binds
	a, b = slices.Clone(a), slices.Clone(b)
	for len(a) > 0 {
		s, t := a[0], b[0]
		a, b = a[1:], b[1:]
		if equal(s, t) {
			continue
		}
		if t.Kind == api.TVar && (s.Kind != api.TVar || s.Int < t.Int) {
			s, t = t, s
		}
		if s.Kind == api.TVar {
			if wantOccurs(s.Int, t) {
				return nil, false
			}
			for i := range a {
				a[i], b[i] = wantReplaced(a[i], s.Int, t), wantReplaced(b[i], s.Int, t)
			}
			for i := range solved {
				solved[i].Term = wantReplaced(solved[i].Term, s.Int, t)
			}
			solved = append(solved, bind(s.Int, t))
			continue
		}
		if s.Kind != t.Kind || s.Int != t.Int || s.Name != t.Name || len(s.Args) != len(t.Args) {
			return nil, false
		}
		a, b = append(slices.Clone(s.Args), a...), append(slices.Clone(t.Args), b...)
	}
	slices.SortFunc(solved, func(x, y api.Bind) int { return cmp.Compare(x.Var, y.Var) })
	return solved, true
}

// wantAll is what All returns for any two lists.
func wantAll(a, b []api.Term) (api.Binds, api.Errno) {
	if !wantAllValid(a) || !wantAllValid(b) {
		return nil, api.ErrArg
	}
	if len(a) != len(b) {
		return nil, api.ErrArity
	}
	solved, ok := wantSolved(a, b)
	if !ok {
		return nil, api.ErrNone
	}
	for _, x := range solved {
		if !wantValid(x.Term) {
			return nil, api.ErrSize
		}
	}
	return solved, api.OK
}

func wantAllValid(list []api.Term) bool {
	return !slices.ContainsFunc(list, func(t api.Term) bool { return !wantValid(t) })
}
