package syntax

import (
	"fmt"
	"reflect"
	"strings"
	"testing"

	"constraint/api"
	"constraint/name"
	"constraint/term"
	"constraint/token"
)

// checkLimits checks P13.4 for a rule.
func checkLimits(t *testing.T, s string, r api.Rule) {
	t.Helper()
	heads := append(append([]api.Atom{}, r.Keep...), r.Remove...)
	goals := append(append([]api.Goal{}, r.Guard...), r.Body...)
	valid := (r.Name == "" || name.Right(r.Name)) && len(heads) >= 1 && len(heads) <= api.MaxHeads && len(r.Guard) <= api.MaxGoals && len(r.Body) <= api.MaxGoals
	var args []api.Term
	for _, a := range heads {
		valid = valid && term.RightAtom(a)
		args = append(args, a.Args...)
	}
	for _, g := range goals {
		valid = valid && term.RightGoal(g)
		args = append(args, g.Args...)
	}
	if !valid {
		t.Errorf("%s: %s is not valid", short(s), shownRule(r))
	}
	checkNumbers(t, s, args, r.Vars)
}

// checkNumbers checks that the variables of terms are numbered by their first occurrence.
func checkNumbers(t *testing.T, s string, args []api.Term, count int) {
	t.Helper()
	next := 0
	for _, v := range term.Vars(api.Term{Kind: api.TFun, Args: args}) {
		if v != next {
			t.Errorf("%s: V%d occurs before V%d", short(s), v, next)
			return
		}
		next++
	}
	if next != count {
		t.Errorf("%s: %d variables instead of %d", short(s), next, count)
	}
}

func TestP13_4Random(t *testing.T) {
	t.Parallel()
	g := newMaker(4)
	rules, queries := 0, 0
	for range 6000 {
		s := g.text()
		p, _, e := Parse(s)
		if e == api.OK && len(p.Rules) > 0 {
			rules++
		}
		for _, d := range p.Decls {
			if !name.Right(d.Name) || d.Arity < 0 || d.Arity > api.MaxArity {
				t.Errorf("%s: %+v", short(s), d)
			}
		}
		for _, r := range p.Rules {
			checkLimits(t, s, r)
		}
		if r, _, e := ParseRule(s); e == api.OK {
			checkLimits(t, s, r)
		}
		goals, names, _, e := ParseGoals(s)
		var args []api.Term
		for _, x := range goals {
			if !term.RightGoal(x) {
				t.Errorf("%s: %s is not valid", short(s), shownGoal(x))
			}
			args = append(args, x.Args...)
		}
		for _, x := range names {
			if !name.Variable(x) {
				t.Errorf("%s: the variable %q", short(s), x)
			}
		}
		checkNumbers(t, s, args, len(names))
		if e == api.OK {
			queries++
		}
	}
	if rules < 1000 || queries < 400 {
		t.Errorf("only %d programs and %d queries", rules, queries)
	}
}

// spaced returns the tokens of a text with other white space between them, and their offsets.
func (g *maker) spaced(tokens []api.Token) (string, []int) {
	var s strings.Builder
	var offsets []int
	for i, x := range tokens {
		isDigits := i > 0 && x.Kind == api.KInt && tokens[i-1].Text == "-"
		switch {
		case isDigits && x.At == tokens[i-1].At+1:
		case isDigits || i > 0 && !isApart(tokens[i-1].Text, x.Text):
			s.WriteString(g.gap())
		default:
			s.WriteString(pick(g, "", " ", g.gap()))
		}
		offsets = append(offsets, s.Len())
		s.WriteString(x.Text)
	}
	return s.String(), offsets
}

func TestP13_5Random(t *testing.T) {
	t.Parallel()
	g := newMaker(5)
	faulty := 0
	for range 4000 {
		s := g.text()
		tokens, _, e := token.Scan(s)
		if e != api.OK {
			t.Fatalf("%s has the error %d", short(s), e)
		}
		other, offsets := g.spaced(tokens)
		for call, parsed := range map[string]func(s string) string{"Parse": parsed, "ParseRule": parsedRule, "ParseGoals": parsedGoals} {
			want := parsed(s)
			if isFault(want) {
				faulty++
				for i, x := range tokens {
					if strings.HasSuffix(want, fmt.Sprintf(" %d", x.At)) {
						want = fmt.Sprintf("%s %d", strings.Fields(want)[0], offsets[i])
						break
					}
				}
			}
			compare(t, call, other, parsed(other), want)
		}
	}
	if faulty < 4000 || faulty > 10000 {
		t.Errorf("%d errors", faulty)
	}
}

// Each gap between two tokens, except for a minus sign and an integer.
func TestP13_5Gaps(t *testing.T) {
	for _, s := range samples[:2] {
		list := strings.Fields(s)
		want := parsed(s)
		if isFault(want) {
			t.Errorf("Parse(%s) is %s", short(s), want)
		}
		for i := range len(list) + 1 {
			before, after := strings.Join(list[:i], " "), strings.Join(list[i:], " ")
			for _, gap := range []string{"  ", "\t", "\r", "\n", "\r\n\r\n", "#\n", "# : 2147483649 \xff\n", " # p(X) <=> true.\n\t#\n"} {
				compare(t, "Parse", before+gap+after, parsed(before+gap+after), want)
			}
		}
	}
	checkGoals(t, "p(-1)", "p(-1) # -")
	checkGoals(t, "p(- 1)", "ErrSyntax 4")
	checkGoals(t, "p(-\t1)", "ErrSyntax 4")
	checkGoals(t, "p(-#\n1)", "ErrSyntax 5")
	checkGoals(t, "p(2-1)", "p(-(2, 1)) # -")
	checkGoals(t, "p(2 - 1)", "p(-(2, 1)) # -")
	checkGoals(t, "p(2-#\n1)", "p(-(2, 1)) # -")
}

// checkAppend checks P13.6.
func checkAppend(t *testing.T, p, r string) {
	t.Helper()
	program, rule := parsed(p), parsedRule(r)
	if isFault(program) || isFault(rule) {
		t.Errorf("%s and %s are %s and %s", short(p), short(r), program, rule)
		return
	}
	text, want := p+"\n"+r, program+"\n"+rule
	switch {
	case len(text) > api.MaxSource:
		want = "ErrSize 0"
	case strings.Count(program, "\n") == api.MaxRules:
		tokens, _, _ := token.Scan(r)
		want = fmt.Sprintf("ErrSize %d", len(p)+1+tokens[0].At)
	}
	compare(t, "Parse", text, parsed(text), want)
}

func TestP13_6Table(t *testing.T) {
	rules := []string{"p <=> true.", " # all\n r @ p(X), q(X) \\ r(_) <=> X > 1 | q(Y), Y = X.# all", "p(Y) ==> Y is 2 - -1 | true."}
	for _, r := range rules {
		for _, p := range []string{
			"", " ", "# all", "# p.\n#", "constraint p/1.", "constraint p/1. constraint q/2, r/0. # all", "constraint " + repeated("p/1", ", ", 30) + ".", "p(X) <=> true.", "constraint p/1. p(X) <=> true. p(X) ==> fail.#",
			strings.Repeat(rules[0], 39), strings.Repeat(rules[0], 40), "constraint p/1." + strings.Repeat(rules[1]+"\n", 39), strings.Repeat(rules[2], 40),
		} {
			checkAppend(t, p, r)
			for size := -1; size < 2; size++ {
				checkAppend(t, p+strings.Repeat("#", api.MaxSource-len(p)-len(r)-1+size), r)
				checkAppend(t, p, r+strings.Repeat("\n", api.MaxSource-len(p)-len(r)-1+size))
			}
		}
	}
}

func TestP13_6Random(t *testing.T) {
	t.Parallel()
	g := newMaker(6)
	count := 0
	for range 4000 {
		p, r := g.join(g.program()), g.join(g.rule())
		if isFault(parsed(p)) || isFault(parsedRule(r)) {
			continue
		}
		count++
		checkAppend(t, p, r)
		for range g.random.IntN(4) {
			p += "\n" + r
			checkAppend(t, p, r)
		}
	}
	if count < 1000 {
		t.Errorf("only %d pairs", count)
	}
}

// slicesIn calls visit for all slices in a value.
func slicesIn(v reflect.Value, visit func(list reflect.Value)) {
	switch v.Kind() {
	case reflect.Slice:
		visit(v)
		for i := range v.Len() {
			slicesIn(v.Index(i), visit)
		}
	case reflect.Struct:
		for i := range v.NumField() {
			slicesIn(v.Field(i), visit)
		}
	}
}

// results returns pointers to all that the functions return for a text.
func results(s string) []any {
	p, _, _ := Parse(s)
	r, _, _ := ParseRule(s)
	goals, names, _, _ := ParseGoals(s)
	return []any{&p, &r, &goals, &names}
}

func shownResults(list []any) string {
	return shownProgram(*list[0].(*api.Program)) + shownRule(*list[1].(*api.Rule)) + shownQuery(*list[2].(*[]api.Goal), *list[3].(*[]string))
}

// No two lists of results share memory, also behind their ends.
func TestP13_1Own(t *testing.T) {
	t.Parallel()
	g := newMaker(7)
	for range 1500 {
		s := g.text()
		first, second := results(s), results(s)
		want := shownResults(second)
		owner := map[uintptr]bool{}
		for _, x := range append(first, second...) {
			slicesIn(reflect.ValueOf(x).Elem(), func(list reflect.Value) {
				for i := range list.Cap() {
					at := list.Pointer() + uintptr(i)*list.Type().Elem().Size()
					if owner[at] {
						t.Errorf("%s: two lists share memory", short(s))
					}
					owner[at] = true
				}
			})
		}
		for _, x := range first {
			slicesIn(reflect.ValueOf(x).Elem(), func(list reflect.Value) {
				whole := list.Slice(0, list.Cap())
				for i := range whole.Len() {
					whole.Index(i).SetZero()
				}
			})
		}
		if shownResults(second) != want || shownResults(results(s)) != want {
			t.Errorf("%s: a result has changed", short(s))
		}
	}
}

// The same call has the same result, whatever was called between.
func TestP13_1Again(t *testing.T) {
	s := "constraint p/1. p(X), q(Y) \\ r(Y) <=> X > Z | q(W), p(_)."
	want, wantedRule, wantedGoals := parsed(s), parsedRule(s[16:]), parsedGoals("p(Y, X, _), X > Y")
	for _, other := range []string{"", ":", "p", "p(Y, X) <=> Y > X.", "constraint is/1.", strings.Repeat("p <=> true.", 41), strings.Repeat(" ", api.MaxSource+1), "q(Z, _)"} {
		parsed(other)
		parsedRule(other)
		parsedGoals(other)
		checkParse(t, s, want)
		checkRule(t, s[16:], wantedRule)
		checkGoals(t, "p(Y, X, _), X > Y", wantedGoals)
	}
}
