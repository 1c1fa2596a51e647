package source

import (
	"fmt"
	"slices"
	"strings"
	"testing"

	"constraint/api"
)

// checkRule checks the text of a rule, and what follows from it (P14.3, P14.4).
func checkRule(t *testing.T, r api.Rule, want string) {
	t.Helper()
	defer watch(t, &r)()
	got := Rule(r)
	if got != want {
		t.Errorf("Rule(%s) is\n%.400s instead of\n%.400s", short(r), got, want)
	}
	if oracle := wantRule(r); oracle != want {
		t.Errorf("%s is expected to be\n%.400s and\n%.400s", short(r), oracle, want)
	}
	checkRuleLaws(t, r)
}

// checkNone checks that a rule has no text.
func checkNone(t *testing.T, r api.Rule) {
	t.Helper()
	checkRule(t, r, "")
}

func TestP14_2Rule(t *testing.T) {
	for _, x := range []struct {
		rule api.Rule
		want string
	}{
		{ruleOf("", "", "gcd(0)", "", ""), "gcd(0) <=> true."},
		{ruleOf("", "gcd(V4)", "gcd(V2)", "0 < V4; V4 =< V2", "V9 is V2 - V4; gcd(V9)"), "gcd(V0) \\ gcd(V1) <=> 0 < V0, V0 =< V1 | V2 is V1 - V0, gcd(V2)."},
		{ruleOf("t", "e(V0, V1); e(V1, V2)", "", "", "e(V0, V2)"), "t @ e(V0, V1), e(V1, V2) ==> e(V0, V2)."},
		{ruleOf("", "", "leq(V3, V4); leq(V4, V3)", "", "V3 = V4"), "leq(V0, V1), leq(V1, V0) <=> V0 = V1."},
		{ruleOf("", "p(V5)", "q(V5, V2)", "V2 < 1", "r(V7)"), "p(V0) \\ q(V0, V1) <=> V1 < 1 | r(V2)."},
		// The heads, with and without a guard and a body.
		{ruleOf("", "p", "", "", ""), "p ==> true."},
		{ruleOf("", "", "p", "", ""), "p <=> true."},
		{ruleOf("", "p", "q", "", ""), "p \\ q <=> true."},
		{ruleOf("", "p; q", "", "", "r; s"), "p, q ==> r, s."},
		{ruleOf("", "", "p; q", "", "r; s"), "p, q <=> r, s."},
		{ruleOf("", "p; q", "r; s", "", "t"), "p, q \\ r, s <=> t."},
		{ruleOf("", "", "p", "", "true; fail"), "p <=> true, fail."},
		{ruleOf("", "p", "", "true", ""), "p ==> true | true."},
		{ruleOf("", "", "p", "true", ""), "p <=> true | true."},
		{ruleOf("n", "p", "q", "true", "true; true"), "n @ p \\ q <=> true | true, true."},
		{ruleOf("n", "", "q", "int(1); ground(a)", ""), "n @ q <=> int(1), ground(a) | true."},
		{ruleOf("n", "p", "", "fail", "fail"), "n @ p ==> fail | fail."},
		{ruleOf("n", "p(1, -2)", "", "", ""), "n @ p(1, -2) ==> true."},
		// A guard and a body may contain any valid goals.
		{ruleOf("", "", "p", "q(V3); V3 = V2", "V2 < V3; int(V4)"), "p <=> q(V0), V0 = V1 | V1 < V0, int(V2)."},
		{ruleOf("", "", "p", "fail; V1 is 2", "1 =\\= 2"), "p <=> fail, V0 is 2 | 1 =\\= 2."},
		{ruleOf("", "", "p(V1)", "V1 == V1", "ground(f(V1, V1))"), "p(V0) <=> V0 == V0 | ground(f(V0, V0))."},
		// Terms.
		{ruleOf("", "", "p((V3 + 1) * (2 - (V4 - 3)), f(-1, a, g(V3)))", "", "V4 = 7 - 2 - 1; V3 = -1 - -2 * 3"), "p((V0 + 1) * (2 - (V1 - 3)), f(-1, a, g(V0))) <=> V1 = 7 - 2 - 1, V0 = -1 - -2 * 3."},
		{ruleOf("", "", "p(2147483648, -2147483648)", "", "q(0)"), "p(2147483648, -2147483648) <=> q(0)."},
		{ruleOf("", "", "p(V1048576)", "", "p(V1048576, V0)"), "p(V0) <=> p(V0, V1)."},
	} {
		checkRule(t, x.rule, x.want)
		checkRule(t, roomy(x.rule), x.want)
		x.rule.Vars = 77
		checkRule(t, x.rule, x.want)
	}
}

func TestP14_2RuleNames(t *testing.T) {
	r := ruleOf("", "p(V2)", "q", "V2 < 1", "r")
	const text = "p(V0) \\ q <=> V0 < 1 | r."
	checkRule(t, r, text)
	for _, s := range goodNames {
		r.Name = s
		checkRule(t, r, s+" @ "+text)
		checkRule(t, ruleOf(s, "", "p", "", ""), s+" @ p <=> true.")
		checkRule(t, api.Rule{Keep: []api.Atom{atom(s)}}, s+" ==> true.")
		checkRule(t, api.Rule{Keep: []api.Atom{atom("p", functor(s, number(1)))}}, "p("+s+"(1)) ==> true.")
	}
	for _, s := range badNames {
		r.Name = s
		checkNone(t, r)
		checkNone(t, ruleOf(s, "", "p", "", ""))
	}
}

// repeated returns a text, a number of times, with commas between.
func repeated(s string, count int) string { return strings.Join(times(count, s), ", ") }

func TestP14_2RuleHeads(t *testing.T) {
	p, q := atom("p", variable(6)), atom("q", variable(3), variable(6))
	for kept := range api.MaxHeads + 3 {
		for removed := range api.MaxHeads + 3 {
			r := api.Rule{Name: "n", Keep: times(kept, p), Remove: times(removed, q), Guard: goalsOf("V3 < 1"), Body: goalsOf("r(V3)")}
			switch {
			case kept+removed == 0 || kept+removed > 4:
				checkNone(t, r)
			case kept == 0:
				checkRule(t, r, "n @ "+repeated("q(V0, V1)", removed)+" <=> V0 < 1 | r(V0).")
			case removed == 0:
				checkRule(t, r, "n @ "+repeated("p(V0)", kept)+" ==> V1 < 1 | r(V1).")
			default:
				checkRule(t, r, "n @ "+repeated("p(V0)", kept)+" \\ "+repeated("q(V1, V0)", removed)+" <=> V1 < 1 | r(V1).")
			}
		}
	}
}

// insertions returns lists with an element in each place of a list with few others.
func insertions[T any](x T, others ...T) [][]T {
	all := [][]T{{x}}
	for i := range len(others) + 1 {
		all = append(all, slices.Insert(slices.Clone(others), i, x))
	}
	return all
}

func TestP14_2InvalidHeads(t *testing.T) {
	for _, a := range invalidAtoms() {
		for _, heads := range insertions(a, atom("p"), atom("q", variable(1))) {
			checkNone(t, api.Rule{Keep: heads})
			checkNone(t, api.Rule{Remove: heads, Body: goalsOf("q")})
			checkNone(t, api.Rule{Keep: []api.Atom{atom("p")}, Remove: heads})
			checkNone(t, api.Rule{Keep: heads, Remove: []api.Atom{atom("p")}})
		}
	}
}

// Terms, constraints and goals at their limits, and numbers of variables that only become valid.
func TestP14_2RuleLimits(t *testing.T) {
	terms := atLimits()
	for _, v := range noVars {
		terms = append(terms, variable(v), functor("f", variable(v), variable(2)))
	}
	for _, x := range terms {
		one := atom("p", x)
		for _, r := range []api.Rule{
			{Keep: []api.Atom{one}}, {Remove: []api.Atom{one}}, {Keep: []api.Atom{one, atom("q")}, Remove: []api.Atom{atom("r"), one}},
			{Keep: []api.Atom{atom("p")}, Guard: []api.Goal{call("p", x)}}, {Keep: []api.Atom{atom("p")}, Body: []api.Goal{call("p", x)}}, {Keep: []api.Atom{atom("p")}, Guard: []api.Goal{goal(api.OpInt, x)}, Body: []api.Goal{goal(api.OpGround, x)}},
		} {
			if wantRule(r) == "" {
				t.Errorf("%s has no text", short(r))
			}
			checkRule(t, r, wantRule(r))
		}
	}
	// 200 nodes of all arguments together, and one more.
	for _, nodes := range []int{100, 101} {
		x, y := wide(100, variable(3)), wide(nodes, number(-1))
		for _, r := range []api.Rule{
			{Keep: []api.Atom{atom("p", x, y)}}, {Remove: []api.Atom{atom("p"), atom("p", x, y)}}, {Keep: []api.Atom{atom("p")}, Guard: []api.Goal{call("p", x, y)}}, {Keep: []api.Atom{atom("p")}, Body: []api.Goal{call("p", y, x)}},
			{Keep: []api.Atom{atom("p")}, Guard: []api.Goal{goal(api.OpLess, x, y)}}, {Keep: []api.Atom{atom("p")}, Body: []api.Goal{goal(api.OpUnify, x, y)}},
		} {
			if (Rule(r) == "") != (nodes == 101) {
				t.Errorf("%d nodes: %s", nodes, short(Rule(r)))
			}
			checkRule(t, r, wantRule(r))
		}
	}
}

// Each goal in a guard and in a body, alone and among others.
func TestP14_2RuleGoals(t *testing.T) {
	texts := map[string]string{"true": "true", "fail": "fail", "q": "q", "q(V4, a)": "q(V0, a)", "int(V4)": "int(V0)", "ground(f(V4, 1))": "ground(f(V0, 1))"}
	for _, op := range comparisons {
		texts["V4 "+goalWords[op]+" V2 - V4"] = "V0 " + goalWords[op] + " V1 - V0"
		texts["f(1) + a "+goalWords[op]+" -3"] = "f(1) + a " + goalWords[op] + " -3"
	}
	for source, want := range texts {
		checkRule(t, ruleOf("", "", "p", source, ""), "p <=> "+want+" | true.")
		checkRule(t, ruleOf("", "p", "", source, "r"), "p ==> "+want+" | r.")
		checkRule(t, ruleOf("n", "p", "p", "r;"+source+"; fail", ""), "n @ p \\ p <=> r, "+want+", fail | true.")
		checkRule(t, ruleOf("", "", "p", "", source+"; r"), "p <=> "+want+", r.")
		checkRule(t, ruleOf("", "p", "", "", "r(1);"+source), "p ==> r(1), "+want+".")
		checkRule(t, ruleOf("n", "p", "p", source, "r;"+source+"; true"), "n @ p \\ p <=> "+want+" | r, "+want+", true.")
		if source == "true" {
			checkNone(t, ruleOf("", "", "p", "", source))
			checkNone(t, ruleOf("", "p", "", "true", source))
			continue
		}
		checkRule(t, ruleOf("", "", "p", "", source), "p <=> "+want+".")
		checkRule(t, ruleOf("", "p", "", "true", source), "p ==> true | "+want+".")
	}
	for count, text := range []string{"true.", "", "true, true.", "true, true, true."} {
		r, guarded := ruleOf("", "", "p", "", ""), ruleOf("n", "p", "", "fail", "")
		r.Body, guarded.Body = times(count, goal(api.OpTrue)), times(count, goal(api.OpTrue))
		if text == "" {
			checkNone(t, r)
			checkNone(t, guarded)
			continue
		}
		checkRule(t, r, "p <=> "+text)
		checkRule(t, guarded, "n @ p ==> fail | "+text)
	}
}

func TestP14_2RuleCounts(t *testing.T) {
	for _, x := range []struct {
		goal api.Goal
		text string
	}{{call("q"), "q"}, {goal(api.OpTrue), "true"}, {goalOf("V3 < V3 + 1"), "V0 < V0 + 1"}, {goal(api.OpFail), "fail"}} {
		for _, count := range []int{11, 12, 13, 14, 100} {
			text := repeated(x.text, count)
			guard, body := "p <=> "+text+" | true.", "p <=> "+text+"."
			both, other := "p <=> "+text+" | "+text+".", "p <=> "+text+" | fail."
			if count > 12 {
				guard, body, both, other = "", "", "", ""
			}
			r, list := ruleOf("", "", "p", "", ""), times(count, x.goal)
			r.Guard = list
			checkRule(t, r, guard)
			r.Body = goalsOf("fail")
			checkRule(t, r, other)
			r.Body = list
			checkRule(t, r, both)
			r.Guard = nil
			checkRule(t, r, body)
		}
	}
}

func TestP14_2InvalidGoals(t *testing.T) {
	for _, x := range invalidGoals() {
		for _, list := range insertions(x, goal(api.OpTrue), call("q", variable(1))) {
			checkNone(t, api.Rule{Keep: []api.Atom{atom("p")}, Guard: list})
			checkNone(t, api.Rule{Remove: []api.Atom{atom("p")}, Body: list})
			checkNone(t, api.Rule{Keep: []api.Atom{atom("p")}, Guard: goalsOf("true"), Body: list})
			checkNone(t, api.Rule{Remove: []api.Atom{atom("p")}, Guard: list, Body: goalsOf("fail")})
		}
	}
}

// namesIn returns the names in terms.
func namesIn(list []api.Term) []*string {
	var names []*string
	for _, at := range wantNodes(list) {
		if at.term.Kind == api.TFun {
			names = append(names, &at.term.Name)
		}
	}
	return names
}

// stretch makes names longer, by a number of bytes together.
func stretch(t *testing.T, names []*string, bytes int) {
	t.Helper()
	for _, s := range names {
		more := min(bytes, api.MaxName-len(*s))
		*s += strings.Repeat("z", more)
		bytes -= more
	}
	if bytes != 0 {
		t.Fatalf("%d bytes too few", bytes)
	}
}

// stretched returns a rule whose goals are longer, so that its text has a number of bytes.
func stretched(t *testing.T, r api.Rule, bytes int) api.Rule {
	t.Helper()
	r = copyOf(r)
	var names []*string
	for _, args := range argumentsOf(&r) {
		names = append(names, namesIn(*args)...)
	}
	stretch(t, names, bytes-len(textOf(wantNumber(r))))
	return r
}

// longBody returns goals with so many names that they can be stretched to any length that is needed here.
func longBody(count int) []api.Goal {
	var list []api.Goal
	for i := range count {
		list = append(list, []api.Goal{call("q", wide(api.MaxNodes, functor("a"))), goal(api.OpUnify, wide(60, functor("b")), wide(140, functor("c")))}[i%2])
	}
	return list
}

func TestP14_2RuleTooLong(t *testing.T) {
	t.Parallel()
	for _, r := range []api.Rule{
		{Name: "n", Keep: []api.Atom{atom("p")}, Body: longBody(4)}, {Remove: []api.Atom{atom("p")}, Body: longBody(12)}, {Keep: []api.Atom{atom("p")}, Remove: []api.Atom{atom("p")}, Guard: longBody(3), Body: longBody(2)},
		{Remove: times(4, atom("p", wide(api.MaxNodes, functor("a"))))}, {Remove: []api.Atom{atom("p")}, Guard: longBody(5)}, {Keep: times(2, atom("p", wide(api.MaxNodes, functor("a")))), Body: longBody(3)},
	} {
		for _, bytes := range []int{16383, 16384, 16385, 16386} {
			r := stretched(t, r, bytes)
			got := Rule(r)
			if bytes > 16384 && got != "" || bytes <= 16384 && len(got) != bytes {
				t.Errorf("a text of %d bytes has %d", bytes, len(got))
			}
			checkRule(t, r, wantRule(r))
		}
	}
	checkNone(t, stretched(t, api.Rule{Keep: []api.Atom{atom("p")}, Guard: longBody(12), Body: longBody(12)}, 60000))
}

// The text that counts is that with the new numbers of the variables.
func TestP14_2RuleRenamed(t *testing.T) {
	t.Parallel()
	// The head gives the least numbers to V10 to V45, so that V0 and V3 in the body become longer.
	var head []api.Term
	for i := 10; i < 46; i += 6 {
		head = append(head, functor("f", variables(i, i+1, i+2, i+3, i+4, i+5)...))
	}
	longer := api.Rule{Keep: []api.Atom{atom("p", head...)}, Body: append(longBody(3), call("q", wide(api.MaxNodes, variable(0))), call("q", wide(api.MaxNodes, variable(3))))}
	shorter := api.Rule{Keep: []api.Atom{atom("p")}, Body: append(longBody(3), call("q", wide(api.MaxNodes, variable(api.MaxVar))), call("q", wide(api.MaxNodes, variable(api.MaxVar-1))))}
	for _, bytes := range []int{16384, 16385} {
		for name, r := range map[string]api.Rule{"longer": longer, "shorter": shorter} {
			r := stretched(t, r, bytes)
			before := len(textOf(r))
			if got := Rule(r); (got == "") != (bytes > 16384) || (name == "longer") != (before < 16384) {
				t.Errorf("%s: %d bytes become %d, and the text has %d", name, before, bytes, len(got))
			}
			checkRule(t, r, wantRule(r))
		}
	}
}

// What has no text may be very large.
func TestP14_2RuleLarge(t *testing.T) {
	t.Parallel()
	x := veryHigh(1<<16 - 3)
	many := times(100000, variable(3))
	for _, r := range []api.Rule{
		{Keep: []api.Atom{atom("p", x)}}, {Remove: []api.Atom{atom("p")}, Guard: []api.Goal{goal(api.OpLess, x, x)}}, {Keep: []api.Atom{atom("p")}, Body: []api.Goal{call("q", number(1), x)}},
		{Keep: []api.Atom{atom("p", many...)}}, {Remove: times(100000, atom("p"))}, {Keep: []api.Atom{atom("p")}, Guard: times(100000, call("q"))}, {Keep: []api.Atom{atom("p")}, Body: []api.Goal{call("q", functor("f", many...))}},
		{Name: strings.Repeat("n", 1<<20), Keep: []api.Atom{atom("p")}},
	} {
		checkNone(t, r)
	}
}

// ruleFaults are changes after each of which a rule has no text, if the last one of them is not undone.
var ruleFaults = map[string]func(r *api.Rule){
	"the name":         func(r *api.Rule) { r.Name = "N" },
	"a reserved name":  func(r *api.Rule) { r.Name = "is" },
	"no heads":         func(r *api.Rule) { r.Keep, r.Remove = nil, nil },
	"many heads":       func(r *api.Rule) { r.Keep, r.Remove = times(3, atom("p")), times(2, atom("p")) },
	"a kept head":      func(r *api.Rule) { r.Keep = []api.Atom{atom("P")} },
	"a removed head":   func(r *api.Rule) { r.Remove = []api.Atom{atom("p", functor("+"))} },
	"many in a guard":  func(r *api.Rule) { r.Guard = times(13, goal(api.OpTrue)) },
	"a goal of guard":  func(r *api.Rule) { r.Guard = []api.Goal{goal(api.OpInt)} },
	"many in a body":   func(r *api.Rule) { r.Body = times(13, goal(api.OpTrue)) },
	"a goal of body":   func(r *api.Rule) { r.Body = []api.Goal{goal(13)} },
	"true is the body": func(r *api.Rule) { r.Body = []api.Goal{goal(api.OpTrue)} },
	"a deep guard":     func(r *api.Rule) { r.Guard = []api.Goal{goal(api.OpInt, high(21))} },
	"a long body": func(r *api.Rule) {
		r.Body = times(12, call("p", wide(api.MaxNodes, functor(goodNames[len(goodNames)-1]))))
	},
}

// Each reason for the empty text together with each other one.
func TestP14_2RulePairs(t *testing.T) {
	t.Parallel()
	for first, change := range ruleFaults {
		for second, other := range ruleFaults {
			r := ruleOf("n", "p(V3)", "q(V1)", "V3 < 1", "r(V1)")
			checkRule(t, r, "n @ p(V0) \\ q(V1) <=> V0 < 1 | r(V1).")
			change(&r)
			other(&r)
			if got := Rule(r); got != "" {
				t.Errorf("%s and %s: %s", first, second, short(got))
			}
			checkNone(t, r)
		}
	}
}

func TestP14_2RuleRandom(t *testing.T) {
	t.Parallel()
	g := newMaker(2)
	counts := map[string]int{}
	for range 6000 {
		r := g.rule()
		want := wantRule(r)
		counts[rejection(wantNumber(r))]++
		checkRule(t, r, want)
	}
	for _, why := range []string{"", "the name", "no heads", "many heads", "a head", "many in a guard", "many in a body", "a goal", "true is the body"} {
		if counts[why] < 20 {
			t.Errorf("only %d rules with %q: %s", counts[why], why, fmt.Sprint(counts))
		}
	}
}
