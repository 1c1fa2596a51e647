package scope

import (
	"slices"
	"strconv"
	"strings"
	"testing"

	"constraint/api"
)

// checkProgram checks the error of a program and its rule, and what follows from it (P15.5).
func checkProgram(t *testing.T, p api.Program, index int, want api.Errno) {
	t.Helper()
	defer watch(t, &p)()
	for range 2 {
		if i, e := Check(p); i != index || e != want {
			t.Errorf("Check of %s is %d, %d instead of %d, %d", short(p), i, int(e), index, int(want))
		}
	}
	if i, e := wantCheck(p); i != index || e != want {
		t.Errorf("%s is expected to be %d, %d and %d, %d", short(p), i, int(e), index, int(want))
	}
	checkLaws(t, p)
}

func TestP15_1Table(t *testing.T) {
	const leq = "leq(X, X) <=> true. leq(X, Y), leq(Y, X) <=> X = Y. leq(X, Y) \\ leq(X, Y) <=> true. leq(X, Y), leq(Y, Z) ==> leq(X, Z)."
	for _, x := range []struct {
		text  string
		index int
		want  api.Errno
	}{
		{"", 0, api.OK},
		{"constraint p/1.", 0, api.OK},
		{"constraint p/1. constraint p/0, q/6.", 0, api.OK},
		{"p(X) <=> true.", 0, api.ErrName},
		{"constraint p/1. p(X) <=> true. q(X) <=> true.", 1, api.ErrName},
		{"constraint leq/2. " + leq, 0, api.OK},
		{"constraint leq/1. " + leq, 0, api.ErrArity},
		{"constraint leq/2. " + leq + " leq(X, Y) <=> X < Z | true.", 4, api.ErrVar},
		{"constraint leq/2. leq(X, Y) <=> X = Y | true. " + leq, 0, api.ErrKind},
		{"constraint gcd/1. gcd(0) <=> true. gcd(N) \\ gcd(M) <=> 0 < N, N =< M | L is M - N, gcd(L).", 0, api.OK},
		{"constraint p/1, q/0, p/1. p(X) <=> true.", -1, api.ErrTwice},
		{"constraint p/1, p/1. u <=> true.", -1, api.ErrTwice},
		{"constraint p/1, p/2, p/0. p <=> true. p(X) <=> p(X, Y). p(X, X) ==> p, p.", 0, api.OK},
		// Names of rules may be repeated, and may be those of constraints.
		{"constraint p/0. p @ p <=> true. p @ p ==> true. u @ p <=> p.", 0, api.OK},
	} {
		p := programOf(x.text)
		checkProgram(t, p, x.index, x.want)
		checkProgram(t, roomy(p), x.index, x.want)
	}
	checkProgram(t, api.Program{Decls: []api.Decl{}, Rules: []api.Rule{}}, 0, api.OK)
}

// numbered returns different declarations.
func numbered(count int) []api.Decl {
	var list []api.Decl
	for i := range count {
		list = append(list, api.Decl{Name: "p" + strconv.Itoa(i), Arity: i % 7})
	}
	return list
}

func TestP15_1Counts(t *testing.T) {
	r := ruleOf("p0 <=> true.")
	for _, decls := range []int{0, 1, 2, 29, 30, 31, 32, 100, 1000} {
		for _, rules := range []int{0, 1, 2, 39, 40, 41, 42, 100, 1000} {
			p := api.Program{Decls: numbered(decls), Rules: times(rules, r)}
			switch {
			case decls > 30 || rules > 40:
				checkProgram(t, p, -1, api.ErrSize)
			case decls == 0 && rules > 0:
				checkProgram(t, p, 0, api.ErrName)
			default:
				checkProgram(t, p, 0, api.OK)
			}
		}
	}
	// The numbers are checked before what they count, but the declarations before the number of rules.
	checkProgram(t, api.Program{Decls: make([]api.Decl, 31)}, -1, api.ErrSize)
	checkProgram(t, api.Program{Decls: make([]api.Decl, 30)}, -1, api.ErrName)
	checkProgram(t, api.Program{Decls: times(31, api.Decl{Name: "p"}), Rules: times(41, r)}, -1, api.ErrSize)
	checkProgram(t, api.Program{Decls: times(30, api.Decl{Name: "p"}), Rules: times(41, r)}, -1, api.ErrTwice)
	checkProgram(t, api.Program{Decls: declsOf("p/1"), Rules: make([]api.Rule, 41)}, -1, api.ErrSize)
	checkProgram(t, api.Program{Decls: declsOf("p/1"), Rules: make([]api.Rule, 40)}, 0, api.ErrSize)
}

// A declaration of each kind, in each place among others.
func TestP15_1Decls(t *testing.T) {
	others := declsOf("p/1 q/2 p/0")
	for _, rule := range []string{"", "p(X) <=> p.", "p(X) <=> p(X, X, 1, X)."} {
		var rules []api.Rule
		if rule != "" {
			rules = []api.Rule{ruleOf(rule)}
		}
		check := func(d api.Decl, index int, want api.Errno) {
			for _, decls := range insertions(d, others...)[1:] {
				checkProgram(t, api.Program{Decls: decls, Rules: rules}, index, want)
			}
		}
		for _, s := range append(badNames, "", strings.Repeat("z", 1<<10)) {
			for _, arity := range append(badArities, 0, 1, 6) {
				check(api.Decl{Name: s, Arity: arity}, -1, api.ErrName)
			}
		}
		for _, s := range append(goodNames, "p", "q") {
			for _, arity := range badArities {
				check(api.Decl{Name: s, Arity: arity}, -1, api.ErrArity)
			}
			for arity := range 7 {
				d := api.Decl{Name: s, Arity: arity}
				if slices.Contains(others, d) {
					check(d, -1, api.ErrTwice)
					continue
				}
				index, rest := wantCheck(api.Program{Decls: append(others[:3:3], d), Rules: rules})
				check(d, index, rest)
			}
		}
	}
}

// A declaration that is repeated, at each distance, in lists of each length.
func TestP15_1Twice(t *testing.T) {
	for _, length := range []int{2, 3, 4, 10, 29, 30, 31} {
		for first := range length {
			for second := first + 1; second < length; second++ {
				decls := numbered(length)
				decls[second] = decls[first]
				want := api.ErrTwice
				if length > 30 {
					want = api.ErrSize
				}
				checkProgram(t, api.Program{Decls: decls}, -1, want)
				// The name or the arity alone may be repeated.
				decls[second].Arity = (decls[first].Arity + 1) % 7
				if length <= 30 {
					checkProgram(t, api.Program{Decls: decls}, 0, api.OK)
				}
			}
		}
	}
}

// Two faults in declarations, in the same one or in two: the first declaration counts, and then the order of the checks.
func TestP15_1FirstDecl(t *testing.T) {
	faulty := map[api.Errno][]api.Decl{
		api.ErrName: {{Name: "P", Arity: 1}, {Name: "", Arity: -1}, {Name: "is", Arity: 7}}, api.ErrArity: {{Name: "v", Arity: -1}, {Name: "w", Arity: 7}}, api.ErrTwice: {{Name: "p", Arity: 1}},
	}
	for first, list := range faulty {
		for _, others := range faulty {
			for _, a := range list {
				for _, b := range others {
					// A fault that is repeated is found as what it was at first.
					checkProgram(t, api.Program{Decls: []api.Decl{{Name: "p", Arity: 1}, a, b}}, -1, first)
					checkProgram(t, api.Program{Decls: []api.Decl{{Name: "p", Arity: 1}, a, {Name: "q"}, b, a}, Rules: make([]api.Rule, 41)}, -1, first)
				}
			}
		}
	}
}

// Each error of a rule at each index, alone and before and behind other ones.
func TestP15_1Rules(t *testing.T) {
	t.Parallel()
	good := ruleOf("n @ p(X) \\ p(Y) <=> X < Y | p(Z), Z = Y.")
	for _, length := range []int{1, 2, 3, 5, 39, 40, 41} {
		for at := range length {
			if length > 5 && at > 2 && at < length-2 && at != 20 {
				continue
			}
			for i, x := range ruleFaults {
				rules := times(length, good)
				rules[at] = copyOf(good)
				x.change(&rules[at])
				index, want := at, x.want
				if length > 40 {
					index, want = -1, api.ErrSize
				}
				checkProgram(t, api.Program{Decls: declared, Rules: rules}, index, want)
				if at+1 < length {
					// Later rules with other faults make no difference.
					rules[length-1] = copyOf(good)
					ruleFaults[(i+5)%len(ruleFaults)].change(&rules[length-1])
					rules[at+1] = api.Rule{}
					checkProgram(t, api.Program{Decls: declared, Rules: rules}, index, want)
				}
			}
		}
	}
}

// programFault is a change that makes a program invalid, whatever its rules are.
type programFault struct {
	want   api.Errno
	change func(p *api.Program)
}

// programFaults are the faults of a program, in the order in which they are found.
var programFaults = []programFault{
	{api.ErrSize, func(p *api.Program) { p.Decls = append(p.Decls, numbered(30)...) }},
	{api.ErrName, func(p *api.Program) { p.Decls = append([]api.Decl{{Name: "Q", Arity: 9}}, p.Decls...) }},
	{api.ErrArity, func(p *api.Program) { p.Decls = append([]api.Decl{p.Decls[0], {Name: "q", Arity: 7}}, p.Decls[1:]...) }},
	{api.ErrTwice, func(p *api.Program) { p.Decls = append([]api.Decl{p.Decls[0]}, p.Decls...) }},
	{api.ErrName, func(p *api.Program) { p.Decls = append(p.Decls, api.Decl{Name: "is", Arity: 1}) }},
	{api.ErrSize, func(p *api.Program) { p.Rules = append(p.Rules, times(41, ruleOf("p(X) <=> true."))...) }},
}

// Each error of a program together with each later one, and with that of a rule.
func TestP15_1Pairs(t *testing.T) {
	for i, first := range programFaults {
		for _, second := range programFaults[i:] {
			for _, rule := range append([]string{""}, "p(X) <=> true.", "unknown <=> true.", "p(X) <=> X = 1 | true.") {
				p := api.Program{Decls: declsOf("p/1 q/2 r/0")}
				if rule != "" {
					p.Rules = []api.Rule{ruleOf(rule)}
				}
				second.change(&p)
				first.change(&p)
				checkProgram(t, p, -1, first.want)
			}
		}
	}
}

func TestP15_1Large(t *testing.T) {
	t.Parallel()
	long := strings.Repeat("p", 1<<20)
	checkProgram(t, api.Program{Decls: times(300000, api.Decl{Name: "p"})}, -1, api.ErrSize)
	checkProgram(t, api.Program{Decls: times(30, api.Decl{Name: long})}, -1, api.ErrName)
	checkProgram(t, api.Program{Decls: declared, Rules: make([]api.Rule, 300000)}, -1, api.ErrSize)
	p := api.Program{Decls: declared, Rules: times(40, ruleOf("p(X) <=> p(1)."))}
	p.Rules[39].Body = []api.Goal{call("p", circle())}
	if i, e := Check(p); i != 39 || e != api.ErrArg {
		t.Errorf("Check of a program with an endless term is %d, %d", i, int(e))
	}
	p.Rules[39].Body = []api.Goal{call(long)}
	checkProgram(t, p, 39, api.ErrArg)
}

func TestP15_1Random(t *testing.T) {
	t.Parallel()
	g := newMaker(1)
	counts, whole, later := map[api.Errno]int{}, 0, 0
	for range 2500 {
		p := g.program()
		i, e := wantCheck(p)
		checkProgram(t, p, i, e)
		counts[e]++
		if i < 0 {
			whole++
		}
		if i > 0 {
			later++
		}
	}
	for _, e := range []api.Errno{api.OK, api.ErrSize, api.ErrArg, api.ErrName, api.ErrArity, api.ErrTwice, api.ErrKind, api.ErrVar} {
		if counts[e] < 30 || whole < 200 || later < 200 {
			t.Errorf("only %d programs with the error %d: %v, %d, %d", counts[e], int(e), counts, whole, later)
		}
	}
}
