package source

import (
	"fmt"
	"math"
	"strings"
	"testing"

	"constraint/api"
)

// checkProgram checks the text of a program, and what follows from it (P14.4).
func checkProgram(t *testing.T, p api.Program, want string) {
	t.Helper()
	defer watch(t, &p)()
	got := Program(p)
	if got != want {
		t.Errorf("Program(%s) is\n%.400s instead of\n%.400s", short(p), got, want)
	}
	if oracle := wantProgram(p); oracle != want {
		t.Errorf("%s is expected to be\n%.400s and\n%.400s", short(p), oracle, want)
	}
	checkProgramLaws(t, p)
}

// declsOf makes declarations of a text such as "p/1 q/0".
func declsOf(text string) []api.Decl {
	var list []api.Decl
	for _, x := range strings.Fields(text) {
		var d api.Decl
		before, arity, _ := strings.Cut(x, "/")
		d.Name = before
		fmt.Sscan(arity, &d.Arity)
		list = append(list, d)
	}
	return list
}

var (
	shortRule = ruleOf("", "", "p(V3)", "", "")
	gcdRules  = []api.Rule{ruleOf("", "", "gcd(0)", "", ""), ruleOf("", "gcd(V4)", "gcd(V2)", "0 < V4; V4 =< V2", "V9 is V2 - V4; gcd(V9)")}
)

func TestP14_2Program(t *testing.T) {
	for _, x := range []struct {
		decls string
		rules []api.Rule
		want  string
	}{
		{"", nil, ""},
		{"", []api.Rule{}, ""},
		{"gcd/1", gcdRules, "constraint gcd/1.\ngcd(0) <=> true.\ngcd(V0) \\ gcd(V1) <=> 0 < V0, V0 =< V1 | V2 is V1 - V0, gcd(V2).\n"},
		{"gcd/1", nil, "constraint gcd/1.\n"},
		{"p/0", nil, "constraint p/0.\n"},
		{"p/6 q/0 p/6 pQ_1/3", nil, "constraint p/6, q/0, p/6, pQ_1/3.\n"},
		{"", []api.Rule{shortRule}, "p(V0) <=> true.\n"},
		{"", gcdRules, "gcd(0) <=> true.\ngcd(V0) \\ gcd(V1) <=> 0 < V0, V0 =< V1 | V2 is V1 - V0, gcd(V2).\n"},
		// Rules have variables of their own, and calls of what is not declared have a text.
		{"q/2 r/1", []api.Rule{ruleOf("a", "q(V2, V3)", "", "", "s(V3)"), ruleOf("a", "", "q(V3, V2)", "", "s(V2)"), ruleOf("", "q(V1, V1)", "r", "true", "fail")}, "constraint q/2, r/1.\na @ q(V0, V1) ==> s(V1).\na @ q(V0, V1) <=> s(V1).\nq(V0, V0) \\ r <=> true | fail.\n"},
	} {
		p := api.Program{Decls: declsOf(x.decls), Rules: x.rules}
		checkProgram(t, p, x.want)
		checkProgram(t, roomy(p), x.want)
	}
}

func TestP14_2ProgramDecls(t *testing.T) {
	for _, rules := range [][]api.Rule{nil, {shortRule}} {
		after := strings.Repeat("p(V0) <=> true.\n", len(rules))
		for _, s := range goodNames {
			for arity := range 7 {
				checkProgram(t, api.Program{Decls: []api.Decl{{Name: s, Arity: arity}}, Rules: rules}, fmt.Sprintf("constraint %s/%d.\n%s", s, arity, after))
			}
		}
		for _, count := range []int{1, 2, 29, 30, 31, 32, 300} {
			want := "constraint " + repeated("p/1", count) + ".\n" + after
			if count > 30 {
				want = ""
			}
			checkProgram(t, api.Program{Decls: times(count, api.Decl{Name: "p", Arity: 1}), Rules: rules}, want)
		}
		faulty := []api.Decl{{Name: ""}, {Name: "", Arity: 2}}
		for _, s := range badNames {
			faulty = append(faulty, api.Decl{Name: s}, api.Decl{Name: s, Arity: 6})
		}
		for _, n := range []int{-1, -2, 7, 8, 10, 1 << 32, 1<<32 + 1, math.MaxInt, math.MinInt} {
			faulty = append(faulty, api.Decl{Name: "p", Arity: n})
		}
		for _, d := range faulty {
			for _, decls := range insertions(d, declsOf("p/1 q/2")...) {
				checkProgram(t, api.Program{Decls: decls, Rules: rules}, "")
			}
		}
	}
}

func TestP14_2ProgramRules(t *testing.T) {
	t.Parallel()
	for _, decls := range []string{"", "p/1"} {
		before := strings.Repeat("constraint p/1.\n", min(1, len(decls)))
		for _, count := range []int{1, 2, 39, 40, 41, 42, 200} {
			want := before + strings.Repeat("p(V0) <=> true.\n", count)
			if count > 40 {
				want = ""
			}
			checkProgram(t, api.Program{Decls: declsOf(decls), Rules: times(count, shortRule)}, want)
		}
		// A rule without a text among others.
		for name, change := range ruleFaults {
			r := ruleOf("n", "p(V3)", "q(V1)", "V3 < 1", "r(V1)")
			change(&r)
			for _, rules := range insertions(r, shortRule, gcdRules[1]) {
				if Rule(r) != "" {
					t.Errorf("%s: a text", name)
				}
				checkProgram(t, api.Program{Decls: declsOf(decls), Rules: rules}, "")
			}
		}
	}
	checkProgram(t, api.Program{Rules: []api.Rule{{}}}, "")
}

func TestP14_2ProgramTooLong(t *testing.T) {
	t.Parallel()
	long := api.Rule{Name: "n", Keep: []api.Atom{atom("p")}, Body: longBody(4)}
	for _, p := range []api.Program{
		{}, {Decls: declsOf("p/1")}, {Rules: []api.Rule{stretched(t, long, 8000)}}, {Decls: declsOf("p/1"), Rules: []api.Rule{stretched(t, long, 5000), stretched(t, long, 5000)}},
		{Decls: declsOf("p/1 q/6"), Rules: []api.Rule{shortRule, stretched(t, long, 13000), shortRule}},
	} {
		// For the last rule, which has a line feed, too.
		left := 16384 - len(wantProgram(p)) - 1
		for _, more := range []int{-1, 0, 1, 2} {
			p := copyOf(p)
			p.Rules = append(p.Rules, stretched(t, long, left+more))
			got := Program(p)
			if more > 0 && got != "" || more <= 0 && len(got) != 16384+more {
				t.Errorf("a text of %d bytes has %d", 16384+more, len(got))
			}
			checkProgram(t, p, wantProgram(p))
		}
	}
	// A rule whose text is as long as possible leaves no room for its line feed.
	longest := stretched(t, long, 16384)
	if len(Rule(longest)) != 16384 {
		t.Errorf("the text of the rule has %d bytes", len(Rule(longest)))
	}
	checkProgram(t, api.Program{Rules: []api.Rule{longest}}, "")
	checkProgram(t, api.Program{Rules: times(40, longest)}, "")
	checkProgram(t, api.Program{Decls: declsOf("p/1"), Rules: []api.Rule{stretched(t, long, 16384-16)}}, "")
}

// Each reason for the empty text together with each other one.
func TestP14_2ProgramPairs(t *testing.T) {
	t.Parallel()
	faults := map[string]func(p *api.Program){
		"many declarations": func(p *api.Program) { p.Decls = append(p.Decls, times(30, api.Decl{Name: "q"})...) },
		"many rules":        func(p *api.Program) { p.Rules = append(p.Rules, times(40, shortRule)...) },
		"a name":            func(p *api.Program) { p.Decls = append(p.Decls, api.Decl{Name: "P"}) },
		"a low arity":       func(p *api.Program) { p.Decls = append([]api.Decl{{Name: "p", Arity: -1}}, p.Decls...) },
		"a high arity":      func(p *api.Program) { p.Decls = append(p.Decls, api.Decl{Name: "p", Arity: 7}) },
		"a rule":            func(p *api.Program) { p.Rules = append(p.Rules, api.Rule{}) },
		"long rules": func(p *api.Program) {
			p.Rules = append(p.Rules, times(3, stretched(t, api.Rule{Keep: []api.Atom{atom("p")}, Body: longBody(4)}, 6000))...)
		},
	}
	for first, change := range faults {
		for second, other := range faults {
			p := api.Program{Decls: declsOf("p/1"), Rules: []api.Rule{shortRule}}
			change(&p)
			if first != second {
				other(&p)
			}
			checkProgram(t, p, "")
		}
	}
}

func TestP14_2ProgramRandom(t *testing.T) {
	t.Parallel()
	g := newMaker(6)
	count := 0
	for range 1500 {
		p := g.program()
		want := wantProgram(p)
		checkProgram(t, p, want)
		count += min(1, len(want))
	}
	if count < 700 || count > 1400 {
		t.Errorf("%d texts", count)
	}
}
