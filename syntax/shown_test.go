package syntax

import (
	"fmt"
	"strconv"
	"strings"
	"testing"

	"constraint/api"
)

// This file writes results with all their fields, so that two results are equal if what is written is. Operators stand
// before their operands, and what is empty is a dash.

var (
	errnos  = map[api.Errno]string{api.OK: "OK", api.ErrSyntax: "ErrSyntax", api.ErrName: "ErrName", api.ErrSize: "ErrSize", api.ErrRange: "ErrRange"}
	goalOps = strings.Fields("Call True Fail Unify Is Same Apart Less Leq Equal Unequal Int Ground")
)

// unused writes fields that are to be zero.
func unused(values ...any) string {
	for _, x := range values {
		if x != 0 && x != "" {
			return fmt.Sprintf("!%q", fmt.Sprint(values...))
		}
	}
	return ""
}

func shownTerm(t api.Term) string {
	switch t.Kind {
	case api.TInt:
		return strconv.Itoa(t.Int) + unused(t.Name, len(t.Args))
	case api.TVar:
		return "V" + strconv.Itoa(t.Int) + unused(t.Name, len(t.Args))
	case api.TFun:
		return t.Name + shownArgs(t.Args) + unused(t.Int)
	}
	return fmt.Sprintf("%#v", t)
}

func shownArgs(args []api.Term) string {
	if len(args) == 0 {
		return ""
	}
	return "(" + shownList(args, shownTerm) + ")"
}

func shownAtom(a api.Atom) string { return a.Name + shownArgs(a.Args) }

func shownGoal(g api.Goal) string {
	switch {
	case g.Op == api.OpCall:
		return g.Name + shownArgs(g.Args)
	case g.Op < 0 || g.Op >= len(goalOps):
		return fmt.Sprintf("%#v", g)
	}
	return goalOps[g.Op] + shownArgs(g.Args) + unused(g.Name)
}

func shownList[T any](list []T, shown func(x T) string) string {
	var parts []string
	for _, x := range list {
		parts = append(parts, shown(x))
	}
	return orDash(strings.Join(parts, ", "))
}

func orDash(s string) string {
	if s == "" {
		return "-"
	}
	return s
}

// shownRule writes a rule as name @ kept \ removed <=> guard | body # number of variables.
func shownRule(r api.Rule) string {
	return fmt.Sprintf("%s @ %s \\ %s <=> %s | %s # %d", orDash(r.Name), shownList(r.Keep, shownAtom), shownList(r.Remove, shownAtom),
		shownList(r.Guard, shownGoal), shownList(r.Body, shownGoal), r.Vars)
}

func shownDecl(d api.Decl) string { return d.Name + "/" + strconv.Itoa(d.Arity) }

// shownProgram writes the declarations in a line, and each rule in one more.
func shownProgram(p api.Program) string {
	lines := []string{shownList(p.Decls, shownDecl)}
	for _, r := range p.Rules {
		lines = append(lines, shownRule(r))
	}
	return strings.Join(lines, "\n")
}

func shownQuery(goals []api.Goal, names []string) string {
	return shownList(goals, shownGoal) + " # " + orDash(strings.Join(names, " "))
}

// outcome writes the text of a result, or the error and its offset.
func outcome(result, none string, at int, e api.Errno) string {
	switch {
	case e == api.OK && at == 0:
		return result
	case e == api.OK:
		return fmt.Sprintf("%s at %d", result, at)
	case result != none:
		return fmt.Sprintf("%s %d with %s", errnos[e], at, result)
	}
	return fmt.Sprintf("%s %d", errnos[e], at)
}

func parsed(s string) string {
	p, at, e := Parse(s)
	return outcome(shownProgram(p), "-", at, e)
}

func parsedRule(s string) string {
	r, at, e := ParseRule(s)
	return outcome(shownRule(r), "- @ - \\ - <=> - | - # 0", at, e)
}

func parsedGoals(s string) string {
	goals, names, at, e := ParseGoals(s)
	return outcome(shownQuery(goals, names), "- # -", at, e)
}

// short returns the beginning of a text in quotes.
func short(s string) string {
	if len(s) > 300 {
		return fmt.Sprintf("%q.. (%d bytes)", s[:300], len(s))
	}
	return fmt.Sprintf("%q", s)
}

func compare(t *testing.T, call, s, got, want string) {
	t.Helper()
	if got != want {
		t.Errorf("%s(%s) is\n%.600s\ninstead of\n%.600s", call, short(s), got, want)
	}
}

// The three functions check a result that is written in the test, and what the oracle says.
func checkParse(t *testing.T, s, want string) {
	t.Helper()
	compare(t, "Parse", s, parsed(s), want)
	compare(t, "wantParse", s, wantParse(s), want)
}

func checkRule(t *testing.T, s, want string) {
	t.Helper()
	compare(t, "ParseRule", s, parsedRule(s), want)
	compare(t, "wantRule", s, wantRule(s), want)
}

func checkGoals(t *testing.T, s, want string) {
	t.Helper()
	compare(t, "ParseGoals", s, parsedGoals(s), want)
	compare(t, "wantGoals", s, wantGoals(s), want)
}

// checkAll checks all functions against what the oracle says.
func checkAll(t *testing.T, s string) {
	t.Helper()
	compare(t, "Parse", s, parsed(s), wantParse(s))
	compare(t, "ParseRule", s, parsedRule(s), wantRule(s))
	compare(t, "ParseGoals", s, parsedGoals(s), wantGoals(s))
}

func isFault(outcome string) bool { return strings.HasPrefix(outcome, "Err") }

// cut removes the ^ from a text, and returns what is outcome of an error at its place.
func cut(errno, marked string) (s, want string) {
	before, after, _ := strings.Cut(marked, "^")
	return before + after, errno + " " + strconv.Itoa(len(before))
}
