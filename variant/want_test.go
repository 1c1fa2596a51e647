package variant

import (
	"fmt"
	"math/big"
	"slices"

	"constraint/api"
)

// wantNodes returns the nodes of terms from left to right, without what terms do not use. A functor gives way to its
// arguments in a list, instead of a call of the function for each of them.
func wantNodes(list []api.Term) []*api.Term {
	var nodes, open []*api.Term
	push := func(terms []api.Term) {
		for i := range slices.Backward(terms) {
			open = append(open, &terms[i])
		}
	}
	push(list)
	for len(open) > 0 {
		at := open[len(open)-1]
		open = open[:len(open)-1]
		nodes = append(nodes, at)
		if at.Kind == api.TFun {
			push(at.Args)
		}
	}
	return nodes
}

// wantVars returns the numbers of the variables of terms, one for each occurrence.
func wantVars(list []api.Term) []int {
	var vars []int
	for _, at := range wantNodes(list) {
		if at.Kind == api.TVar {
			vars = append(vars, at.Int)
		}
	}
	return vars
}

// wantSum returns the exact sum of two numbers, and whether it is an int.
func wantSum(v, k int) (int, bool) {
	sum := new(big.Int).Add(big.NewInt(int64(v)), big.NewInt(int64(k)))
	return int(sum.Int64()), sum.IsInt64()
}

func wantShift(list []api.Term, k int) []api.Term {
	shifted := copyTerms(list)
	for _, at := range wantNodes(shifted) {
		if sum, ok := wantSum(at.Int, k); at.Kind == api.TVar && ok {
			at.Int = sum
		}
	}
	return shifted
}

func wantShiftRule(r api.Rule, k int) api.Rule {
	shifted := copyRule(r)
	for _, args := range places(&shifted) {
		*args = wantShift(*args, k)
	}
	return shifted
}

// wantTop counts up from 0, or from the greatest variable if that is more.
func wantTop(list []api.Term) int {
	top := 0
	if vars := wantVars(list); len(vars) > 0 {
		top = max(top, slices.Max(vars))
	}
	for slices.Contains(wantVars(list), top) {
		next, ok := wantSum(top, 1)
		if !ok {
			return top
		}
		top = next
	}
	return top
}

// wantNumber looks for each variable in the list of those before it.
func wantNumber(list []api.Term) (m []api.Term, vars []int) {
	m = copyTerms(list)
	for _, at := range wantNodes(m) {
		if at.Kind != api.TVar {
			continue
		}
		i := slices.Index(vars, at.Int)
		if i < 0 {
			i, vars = len(vars), append(vars, at.Int)
		}
		at.Int = i
	}
	return m, vars
}

// wantVariants compares the terms without the numbers of their variables, and then each two occurrences of variables in one
// list with those in the other one: they are the same variable in both, or in none.
func wantVariants(a, b []api.Term) bool {
	if wantSkeleton(a) != wantSkeleton(b) {
		return false
	}
	vars, others := wantVars(a), wantVars(b)
	for i := range vars {
		for k := range i {
			if (vars[i] == vars[k]) != (others[i] == others[k]) {
				return false
			}
		}
	}
	return true
}

// wantSkeleton returns a text that two lists of terms have in common if, and only if, they are identical up to the numbers
// of the variables.
func wantSkeleton(list []api.Term) string {
	text := fmt.Sprint(len(list))
	for _, at := range wantNodes(list) {
		switch at.Kind {
		case api.TVar:
			text += " V"
		case api.TInt:
			text += fmt.Sprint(" I", at.Int)
		case api.TFun:
			text += fmt.Sprintf(" F%q/%d", at.Name, len(at.Args))
		default:
			text += fmt.Sprintf(" K%d,%d,%q", at.Kind, at.Int, at.Name)
		}
	}
	return text
}
