package source

import (
	"math"
	"strconv"
	"testing"

	"constraint/api"
	"constraint/syntax"
)

// shifted returns a copy of a rule with a number added to all variables, if no sum leaves the range.
func shifted(r api.Rule, by int) (api.Rule, bool) {
	r = copyOf(r)
	for _, args := range argumentsOf(&r) {
		for _, at := range wantNodes(*args) {
			if at.term.Kind != api.TVar {
				continue
			}
			if v := at.term.Int; by > 0 && v > math.MaxInt-by || by < 0 && v < math.MinInt-by {
				return r, false
			}
			at.term.Int += by
		}
	}
	return r, true
}

// checkNumberLaws checks P14.3 for a rule, and returns with how many numbers it was shifted.
func checkNumberLaws(t *testing.T, r api.Rule) int {
	t.Helper()
	once := Number(r)
	want := shown(once)
	if twice := Number(once); shown(twice) != want {
		t.Errorf("%s is numbered as %s, and then as %s", short(r), short(once), short(twice))
	}
	count := 0
	for _, by := range []int{1, 5, -1, -3, api.MaxVar, 1 << 40, math.MaxInt, math.MinInt} {
		other, ok := shifted(r, by)
		if !ok {
			continue
		}
		count++
		if got := Number(other); shown(got) != want {
			t.Errorf("%s is numbered as %s, and shifted by %d as %s", short(r), short(once), by, short(got))
		}
	}
	return count
}

// checkRuleLaws checks that what ParseRule returns for the text of a rule, if it has one, is the rule with numbered variables,
// and that the numbers make no difference.
func checkRuleLaws(t *testing.T, r api.Rule) {
	t.Helper()
	text, numbered := Rule(r), Number(r)
	if again := Rule(r); again != text {
		t.Errorf("%s is first %.400s and then %.400s", short(r), text, again)
	}
	if again := Rule(numbered); again != text {
		t.Errorf("%s is %.400s, and with numbered variables %.400s", short(r), text, again)
	}
	if other, ok := shifted(r, 11); ok && Rule(other) != text {
		t.Errorf("%s is %.400s, and after a shift %.400s", short(r), text, Rule(other))
	}
	if text == "" {
		return
	}
	got, at, e := syntax.ParseRule(text)
	if e != api.OK || at != 0 || shown(got) != shown(numbered) {
		t.Errorf("%.400s is read as %s with the error %d at %d", text, short(got), e, at)
	}
}

// checkGoalsLaws does so for the text of goals, and checks the names of the variables.
func checkGoalsLaws(t *testing.T, l []api.Goal) {
	t.Helper()
	text := Goals(l)
	if again := Goals(l); again != text {
		t.Errorf("%s is first %.400s and then %.400s", short(l), text, again)
	}
	if text == "" {
		return
	}
	want, labels, known := copyOf(l), []string{}, map[int]int{}
	for i := range want {
		for _, at := range wantNodes(want[i].Args) {
			if at.term.Kind != api.TVar {
				continue
			}
			if _, ok := known[at.term.Int]; !ok {
				known[at.term.Int] = len(labels)
				labels = append(labels, "V"+strconv.Itoa(at.term.Int))
			}
			at.term.Int = known[at.term.Int]
		}
	}
	got, names, at, e := syntax.ParseGoals(text)
	if e != api.OK || at != 0 || shown(got) != shown(want) || shown(append([]string{}, names...)) != shown(labels) {
		t.Errorf("%.400s is read as %s with the variables %v and the error %d at %d", text, short(got), names, e, at)
	}
}

// checkProgramLaws does so for the text of a program.
func checkProgramLaws(t *testing.T, p api.Program) {
	t.Helper()
	text := Program(p)
	if again := Program(p); again != text {
		t.Errorf("%s is first %.400s and then %.400s", short(p), text, again)
	}
	if text == "" {
		return
	}
	want := api.Program{Decls: p.Decls}
	for _, r := range p.Rules {
		want.Rules = append(want.Rules, Number(r))
	}
	got, at, e := syntax.Parse(text)
	if e != api.OK || at != 0 || shown(got) != shown(want) {
		t.Errorf("%.400s is read as %s with the error %d at %d", text, short(got), e, at)
	}
	if back := Program(got); back != text {
		t.Errorf("%.400s is written again as %.400s", text, back)
	}
}

func TestP14_3Table(t *testing.T) {
	for _, r := range []api.Rule{
		{}, {Vars: 7}, ruleOf("r", "p(V5)", "q(V5, V2)", "V2 < 1", "r(V7)"), ruleOf("", "p(V0)", "q(V0, V1)", "V1 < 1", "r(V2)"), ruleOf("", "p(1)", "", "", "fail"),
		{Keep: []api.Atom{atom("p", variables(0, 3, -3, 9, 3)...)}, Body: []api.Goal{goal(api.OpTrue, variables(0, 1)...)}, Vars: -1},
		{Name: "N", Guard: []api.Goal{goal(99, filled(variable(2)), unknown(5), filled(number(2)), functor("F", filled(variable(1)), variable(2)))}},
	} {
		if count := checkNumberLaws(t, r); count < 6 {
			t.Errorf("%s was shifted by %d numbers", short(r), count)
		}
	}
	for _, x := range invalidTerms() {
		for _, r := range inEachPart(functor("f", variable(3), x, variable(4))) {
			checkNumberLaws(t, r)
		}
	}
}

func TestP14_3Random(t *testing.T) {
	t.Parallel()
	g := newMaker(3)
	count := 0
	for range 2000 {
		count += checkNumberLaws(t, g.rule())
	}
	if count < 8000 {
		t.Errorf("only %d shifts", count)
	}
}

func TestP14_4Random(t *testing.T) {
	t.Parallel()
	g := newMaker(4)
	rules, goals, programs := 0, 0, 0
	for range 2000 {
		r, l, p := g.rule(), listUpTo(g, api.MaxQuery, g.goal), g.program()
		checkRuleLaws(t, r)
		checkGoalsLaws(t, l)
		checkProgramLaws(t, p)
		rules += min(1, len(Rule(r)))
		goals += min(1, len(Goals(l)))
		programs += min(1, len(Program(p)))
	}
	if rules < 1000 || goals < 800 || programs < 800 {
		t.Errorf("only %d rules, %d lists of goals and %d programs", rules, goals, programs)
	}
}

// What is read from a text has a text itself, which is read as the same.
func TestP14_4Read(t *testing.T) {
	for _, s := range []string{
		"constraint leq/2. leq(X, X) <=> true. leq(X, Y), leq(Y, X) <=> X = Y. leq(X, Y) \\ leq(X, Y) <=> true. leq(X, Y), leq(Y, Z) ==> leq(X, Z).",
		"constraint gcd/1. gcd(0) <=> true. gcd(N) \\ gcd(M) <=> 0 < N, N =< M | L is M - N, gcd(L).",
		"constraint p/0, q/1. n@p\\q(_)<=>X>Y,_>=X|true,X=Y.p==>true|true.",
		"p(-0, -1, ((1 + 2)) + 3) <=> true.", "p <=> fail. # all", "constraint p/0006.", "p(X) ==> ground(f(X, _)), int(Y) | Y is -1, true.",
	} {
		p, _, e := syntax.Parse(s)
		if e != api.OK || Program(p) == "" {
			t.Errorf("%s is not read (%d), or has no text", s, e)
		}
		checkProgramLaws(t, p)
	}
}
