package syntax

import "constraint/api"

// numbering gives the variables of a rule or a query their numbers, in the order in which it meets them. Until then the
// number of a variable is the index of its token.
type numbering struct {
	tokens  []api.Token
	numbers map[string]int
	names   []string
}

func newNumbering(tokens []api.Token) *numbering {
	return &numbering{tokens: tokens, numbers: map[string]int{}}
}

// numberRule numbers the variables of a rule.
func numberRule(tokens []api.Token, r *api.Rule) {
	n := newNumbering(tokens)
	n.atoms(r.Keep)
	n.atoms(r.Remove)
	n.goals(r.Guard)
	n.goals(r.Body)
	r.Vars = len(n.names)
}

// numberGoals numbers the variables of a query, and returns their names.
func numberGoals(tokens []api.Token, goals []api.Goal) []string {
	n := newNumbering(tokens)
	n.goals(goals)
	return n.names
}

func (n *numbering) atoms(list []api.Atom) {
	for _, a := range list {
		n.terms(a.Args)
	}
}

func (n *numbering) goals(list []api.Goal) {
	for _, g := range list {
		n.terms(g.Args)
	}
}

func (n *numbering) terms(list []api.Term) {
	for i := range list {
		if t := &list[i]; t.Kind == api.TVar {
			t.Int = n.number(n.tokens[t.Int].Text)
		} else {
			n.terms(t.Args)
		}
	}
}

// number returns the number of a variable.
func (n *numbering) number(word string) int {
	v, known := n.numbers[word]
	if known && word != "_" {
		return v
	}
	v = len(n.names)
	n.numbers[word] = v
	n.names = append(n.names, word)
	return v
}
