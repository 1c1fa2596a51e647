package source

import (
	"slices"

	"constraint/api"
)

// Number renames the variables of a rule by their first occurrence.
func Number(r api.Rule) api.Rule {
	n := numbering{}
	// One part after the other, in the order in which occurrences count.
	r.Keep = n.atoms(r.Keep)
	r.Remove = n.atoms(r.Remove)
	r.Guard = n.goals(r.Guard)
	r.Body = n.goals(r.Body)
	r.Vars = len(n)
	return r
}

// numbering contains the new numbers of the variables that it has met. Its methods return copies with new lists, so that a
// caller who changes a result changes no argument.
type numbering map[int]int

func (n numbering) atoms(list []api.Atom) []api.Atom {
	list = slices.Clone(list)
	for i, a := range list {
		list[i].Args = n.terms(a.Args)
	}
	return list
}

func (n numbering) goals(list []api.Goal) []api.Goal {
	list = slices.Clone(list)
	for i, g := range list {
		list[i].Args = n.terms(g.Args)
	}
	return list
}

func (n numbering) terms(list []api.Term) []api.Term {
	list = slices.Clone(list)
	for i, t := range list {
		list[i] = n.term(t)
	}
	return list
}

func (n numbering) term(t api.Term) api.Term {
	if t.Kind == api.TFun {
		t.Args = n.terms(t.Args)
		return t
	}
	if t.Kind == api.TVar {
		t.Int = n.number(t.Int)
	}
	// A term that is no functor does not use its list, so that the variables in it are none of the term.
	t.Args = copies(t.Args)
	return t
}

// number returns the new number of a variable.
func (n numbering) number(v int) int {
	known, ok := n[v]
	if ok {
		return known
	}
	next := len(n)
	n[v] = next
	return next
}

func copies(list []api.Term) []api.Term {
	list = slices.Clone(list)
	for i, t := range list {
		list[i].Args = copies(t.Args)
	}
	return list
}
