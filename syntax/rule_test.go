package syntax

import (
	"fmt"
	"strings"
	"testing"

	"constraint/api"
)

// checkOneRule checks what ParseRule returns, and that Parse of the same text returns the same rule, or the same error.
func checkOneRule(t *testing.T, s, want string) {
	t.Helper()
	checkRule(t, s, want)
	if !isFault(want) {
		want = "-\n" + want
	}
	checkParse(t, s, want)
}

// ruleFaults checks an error of ParseRule and Parse at the place of ^ in texts.
func ruleFaults(t *testing.T, errno string, marked ...string) {
	t.Helper()
	for _, m := range marked {
		s, want := cut(errno, m)
		checkOneRule(t, s, want)
	}
}

func TestP13_2Table(t *testing.T) {
	for s, want := range map[string]string{
		// The three kinds, with and without a name and a guard.
		`p <=> true.`:                      `- @ - \ p <=> - | - # 0`,
		`p ==> true.`:                      `- @ p \ - <=> - | - # 0`,
		`p \ q <=> true.`:                  `- @ p \ q <=> - | - # 0`,
		`r @ p <=> q.`:                     `r @ - \ p <=> - | q # 0`,
		`r @ p ==> q.`:                     `r @ p \ - <=> - | q # 0`,
		`r @ p \ q <=> r.`:                 `r @ p \ q <=> - | r # 0`,
		`p <=> q | r.`:                     `- @ - \ p <=> q | r # 0`,
		`p ==> q | r.`:                     `- @ p \ - <=> q | r # 0`,
		`p \ q <=> r | s.`:                 `- @ p \ q <=> r | s # 0`,
		`r @ p <=> int(1) | r.`:            `r @ - \ p <=> Int(1) | r # 0`,
		`r @ p ==> 1 < 2, fail | r, s.`:    `r @ p \ - <=> Less(1, 2), Fail | r, s # 0`,
		`r @ p, q \ r, s <=> a, b | c, d.`: `r @ p, q \ r, s <=> a, b | c, d # 0`,
		`p, q, r, s ==> true.`:             `- @ p, q, r, s \ - <=> - | - # 0`,
		`p, q, r \ s <=> true.`:            `- @ p, q, r \ s <=> - | - # 0`,
		`p \ q, r, s <=> true.`:            `- @ p \ q, r, s <=> - | - # 0`,
		// Names.
		`p @ p <=> p.`: `p @ - \ p <=> - | p # 0`,
		`isA @ intX \ true_(constraint1), failing <=> groundz, is_(a), is1 = constraints.`: `isA @ intX \ true_(constraint1), failing <=> - | groundz, is_(a), Unify(is1, constraints) # 0`,
		`aB_1 @ aB_2(aB_3) ==> aB_4.`: `aB_1 @ aB_2(aB_3) \ - <=> - | aB_4 # 0`,
		// A body that is true alone, and all others.
		`p <=> true, true.`:              `- @ - \ p <=> - | True, True # 0`,
		`p <=> true, q.`:                 `- @ - \ p <=> - | True, q # 0`,
		`p <=> q, true.`:                 `- @ - \ p <=> - | q, True # 0`,
		`p <=> true | true.`:             `- @ - \ p <=> True | - # 0`,
		`p ==> true | true.`:             `- @ p \ - <=> True | - # 0`,
		`p \ q <=> true | q.`:            `- @ p \ q <=> True | q # 0`,
		`p <=> true, true | true, true.`: `- @ - \ p <=> True, True | True, True # 0`,
		`p <=> q, true | true.`:          `- @ - \ p <=> q, True | - # 0`,
		`p <=> fail.`:                    `- @ - \ p <=> - | Fail # 0`,
		`p <=> fail | fail.`:             `- @ - \ p <=> Fail | Fail # 0`,
		`p <=> true | fail.`:             `- @ - \ p <=> True | Fail # 0`,
		`p <=> fail | true.`:             `- @ - \ p <=> Fail | - # 0`,
		`p <=> fail, fail.`:              `- @ - \ p <=> - | Fail, Fail # 0`,
		// Heads with arguments.
		`p(1, -1, a, f(b), 1 + 2) <=> true.`: `- @ - \ p(1, -1, a, f(b), +(1, 2)) <=> - | - # 0`,
		`p((1)), q(f((((a))))) ==> true.`:    `- @ p(1), q(f(a)) \ - <=> - | - # 0`,
		`p(p(p)) \ p(p) <=> p.`:              `- @ p(p(p)) \ p(p) <=> - | p # 0`,
		// White space, and none.
		"p<=>true.":          `- @ - \ p <=> - | - # 0`,
		"r@p(1)\\q<=>1<2|r.": `r @ p(1) \ q <=> Less(1, 2) | r # 0`,
		" r\t@\np ( 1 )\r\n\\ q # all\n<=> 1 < 2 | r . # s": `r @ p(1) \ q <=> Less(1, 2) | r # 0`,
	} {
		checkOneRule(t, s, want)
	}
}

// Variables are numbered in the kept heads, the removed heads, the guard and the body.
func TestP13_2Variables(t *testing.T) {
	for s, want := range map[string]string{
		`p(X) <=> true.`:                                          `- @ - \ p(V0) <=> - | - # 1`,
		`p(X, X) <=> true.`:                                       `- @ - \ p(V0, V0) <=> - | - # 1`,
		`p(X, Y, X) ==> q(Y, X).`:                                 `- @ p(V0, V1, V0) \ - <=> - | q(V1, V0) # 2`,
		`p(Y, X) ==> q(X, Y).`:                                    `- @ p(V0, V1) \ - <=> - | q(V1, V0) # 2`,
		`p(_, _) ==> q(_, _).`:                                    `- @ p(V0, V1) \ - <=> - | q(V2, V3) # 4`,
		`p(_, X, _) ==> q(X, _).`:                                 `- @ p(V0, V1, V2) \ - <=> - | q(V1, V3) # 4`,
		`p(_1, _, _1, __) ==> q(__, _, _1).`:                      `- @ p(V0, V1, V0, V2) \ - <=> - | q(V2, V3, V0) # 4`,
		`p(A), q(B) \ r(C), s(D) <=> a(E) | b(F).`:                `- @ p(V0), q(V1) \ r(V2), s(V3) <=> a(V4) | b(V5) # 6`,
		`p(A) \ q(B) <=> a(D), a(C) | b(E, C, B), b(F, E, A, D).`: `- @ p(V0) \ q(V1) <=> a(V2), a(V3) | b(V4, V3, V1), b(V5, V4, V0, V2) # 6`,
		`p <=> X = Y.`:                                            `- @ - \ p <=> - | Unify(V0, V1) # 2`,
		`p <=> q(X) | true.`:                                      `- @ - \ p <=> q(V0) | - # 1`,
		`p <=> X > Y.`:                                            `- @ - \ p <=> - | Less(V0, V1) # 2`,
		`p <=> X > Y | q(X, Y).`:                                  `- @ - \ p <=> Less(V0, V1) | q(V1, V0) # 2`,
		`p <=> X >= Y, q(Z, X) | q(Y).`:                           `- @ - \ p <=> Leq(V0, V1), q(V2, V1) | q(V0) # 3`,
		`p(X) <=> X > Y | X < Y.`:                                 `- @ - \ p(V0) <=> Less(V1, V0) | Less(V0, V1) # 2`,
		`p(X, Y) <=> X > Y | X >= Y.`:                             `- @ - \ p(V0, V1) <=> Less(V1, V0) | Leq(V1, V0) # 2`,
		`p <=> f(X, Y) > g(Y, Z) | q(X, Y, Z).`:                   `- @ - \ p <=> Less(g(V0, V1), f(V2, V0)) | q(V2, V0, V1) # 3`,
		`p <=> _ > f(_, X), _ >= X.`:                              `- @ - \ p <=> - | Less(f(V0, V1), V2), Leq(V1, V3) # 4`,
		`p <=> A > B, C > D, E < F | q(A, B, C, D, E, F).`:        `- @ - \ p <=> Less(V0, V1), Less(V2, V3), Less(V4, V5) | q(V1, V0, V3, V2, V4, V5) # 6`,
		// Names that differ in one byte.
		`p(X, X1, X_, Xx, XX), q(_X, __, Y) <=> q(Y, __, _X, XX, Xx), p(X_, X1, X).`: `- @ - \ p(V0, V1, V2, V3, V4), q(V5, V6, V7) <=> - | q(V7, V6, V5, V4, V3), p(V2, V1, V0) # 8`,
		// The name of a rule, of a constraint and of an atom is no variable.
		`x @ x(X, x) <=> x(x, X).`: `x @ - \ x(V0, x) <=> - | x(x, V0) # 1`,
	} {
		checkOneRule(t, s, want)
	}
	name := strings.Repeat("X", api.MaxName-1)
	checkOneRule(t, "p("+name+"a, "+name+"b) <=> q("+name+"b, "+name+").", `- @ - \ p(V0, V1) <=> - | q(V1, V2) # 3`)
}

// The variables of a rule are not those of another one.
func TestP13_2EachRule(t *testing.T) {
	checkParse(t, "p(X, Y) <=> q(Y). p(Y, X) <=> q(Y). p(Z), q(Y) ==> r(X).", `-
- @ - \ p(V0, V1) <=> - | q(V1) # 2
- @ - \ p(V0, V1) <=> - | q(V0) # 2
- @ p(V0), q(V1) \ - <=> - | r(V2) # 3`)
}

func TestP13_2Syntax(t *testing.T) {
	ruleFaults(t, "ErrSyntax",
		"^.", "^@ p <=> true.", "^X @ p <=> true.", "^1 @ p <=> true.", "^_ @ p <=> true.", "^(p) <=> true.", "^\\ p <=> true.", "^<=> true.", "^==> p.", "^, p <=> true.", "^| p.", "^-1.",
		"p^", "p^.", "p ^q <=> true.", "p ^X.", "p ^1.", "p^/1.", "p ^= q <=> true.", "p ^| q <=> true.", "p ^- q.", "p ^\\= q.", "p ^< = > q.", "p ^== > q.", "p ^=< q.", "p^) <=> true.",
		// The token behind the name of a rule.
		"r @^", "r @ ^.", "r @ ^@ p <=> true.", "r @ ^X <=> true.", "r @ ^1.", "r @ ^<=> true.", "r @ ^\\ p <=> true.", "r @ ^(p) <=> true.", "r @ p ^@ q <=> true.", "r(1) ^@ p <=> true.",
		"r(X) ^@ p <=> true.", "p, r ^@ q <=> true.", "p \\ r ^@ q <=> true.", "p <=> r ^@ q.", "p <=> q | r ^@ q.", "r @ p, q ^@ s ==> true.",
		// Heads.
		"p,^", "p, ^.", "p,^, q <=> true.", "p, ^<=> true.", "p, ^\\ q <=> true.", "p, ^X <=> true.", "p, ^1 <=> true.", "p, ^(q) <=> true.", "p, q^", "p, q ^r <=> true.", "p, q^.",
		"p \\^", "p \\ ^.", "p \\ ^<=> true.", "p \\ ^==> true.", "p \\ ^\\ q <=> true.", "p \\ ^, q <=> true.", "p \\ ^X <=> true.", "p \\ q^", "p \\ q ^==> true.", "p \\ q ^\\ r <=> true.",
		"p \\ q, r ^\\ s <=> true.", "p \\ q, r ^==> true.", "p \\ q ^| r.", "p \\ q^.", "p \\ q ^r <=> true.",
		"p(^", "p(^) <=> true.", "p(^, 1) <=> true.", "p(1^", "p(1^. q", "p(1,^", "p(1,^) <=> true.", "p(1, ^, 2) <=> true.", "p(1 ^2) <=> true.", "p(1 ^= 2) <=> true.", "p(X ^is 1) <=> true.",
		"p(1 ^< 2) <=> true.", "p(1)^) <=> true.", "p(1)^(2) <=> true.", "p(X ^Y) <=> true.", "p(X^(1)) <=> true.", "p(1)^", "p(f(1)^", "p(f(1) ^<=> true.", "p(1 + ^) <=> true.", "p(1^| 2) <=> true.",
		"p(1 ^@ 2) <=> true.", "p(1 ^\\ 2) <=> true.", "p(1 ^==> 2) <=> true.", "p(1 / ^/ 2) <=> true.", "p(1) ^+ 1 <=> true.", "p ^+ 1 <=> true.",
		// Arrows, and what is behind them.
		"p <=>^", "p <=> ^.", "p <=> ^<=> q.", "p <=> ^| q.", "p <=> ^, q.", "p <=> ^@ q.", "p <=> ^\\ q.", "p ==>^", "p ==> ^.", "p ==> ^==> q.", "p ==> ^| q.", "p <=> q^", "p <=> q ^<=> r.",
		"p <=> q ^==> r.", "p <=> q ^\\ r.", "p <=> q ^r.", "p <=> q^) .", "p <=> q,^", "p <=> q, ^.", "p <=> q, ^, r.", "p <=> q, ^| r.", "p <=> q |^", "p <=> q | ^.", "p <=> q | ^| r.", "p <=> q | ^, r.",
		"p <=> q | r ^| s.", "p <=> q | r, s ^| t.", "p <=> q | r^", "p <=> q | r,^", "p <=> q | r, ^.", "p <=> q | r ^<=> s.", "p ==> q | r ^==> s.", "p <=> true ^true.", "p <=> true ^q.",
		"p <=> true^", "p <=> true | true^",
	)
}

func TestP13_2Reserved(t *testing.T) {
	for _, word := range reserved {
		for _, m := range []string{
			"^W @ p <=> true.", "^W", "^W.", "^W <=> true.", "^W(1) <=> true.", "^W, p <=> true.", "^W \\ p <=> true.", "^W ==> true.", "r @ ^W", "r @ ^W <=> true.", "r @ ^W @ p <=> true.",
			"p, ^W <=> true.", "p, ^W(X) <=> true.", "p \\ ^W <=> true.", "p \\ q, ^W <=> true.", "p, q \\ r, ^W", "p(^W) <=> true.", "p(1, ^W) <=> true.", "p(^W(1)) <=> true.", "p(f(^W)) <=> true.",
			"p((^W)) <=> true.", "p(1 + ^W) <=> true.", "p(1 * ^W) <=> true.", "p(1, ^W <=> true.", "p(^W",
		} {
			m = strings.ReplaceAll(m, "W", word)
			s, want := cut("ErrName", m)
			checkRule(t, s, want)
			// A program may begin with a declaration.
			if word != "constraint" || !strings.HasPrefix(m, "^") {
				checkParse(t, s, want)
			}
		}
		// Where the grammar has no name.
		for _, m := range []string{
			"p ^W <=> true.", "p(1) ^W <=> true.", "p(1 ^W) <=> true.", "p(X ^W 1) <=> true.", "p(-^W) <=> true.", "p <=> q ^W.", "p <=> q ^W @ r.", "p @ q ^W", "p <=> true ^W.", "p <=> q | r ^W s.", "p ^W @ q",
		} {
			if word != "is" || !strings.Contains(m, "q ^") && !strings.Contains(m, "r ^") {
				ruleFaults(t, "ErrSyntax", strings.ReplaceAll(m, "W", word))
			}
		}
	}
	s, want := cut("ErrName", "^constraint p/1.")
	checkRule(t, s, want)
}

// The end of the text of a rule, with something behind it or too early.
func TestP13_2End(t *testing.T) {
	for s, want := range map[string]string{
		"":                                 "ErrSyntax 0",
		" ":                                "ErrSyntax 1",
		"\n# all":                          "ErrSyntax 6",
		"p <=> true":                       "ErrSyntax 10",
		"p <=> true # .":                   "ErrSyntax 14",
		"p <=> true. q":                    "ErrSyntax 12",
		"p <=> true. q <=> true.":          "ErrSyntax 12",
		"p <=> true..":                     "ErrSyntax 11",
		"p <=> true. # all\n .":            "ErrSyntax 19",
		"p <=> true. constraint p/1.":      "ErrSyntax 12",
		"p <=> true. constraint":           "ErrSyntax 12",
		"constraint p/1. p <=> true.":      "ErrName 0",
		"p <=> true. is":                   "ErrSyntax 12",
		"p <=> q(1,1,1,1,1,1,1). q":        "ErrSize 6",
		"p <=> true. q(1,1,1,1,1,1,1)":     "ErrSyntax 12",
		"p <=> true. # all":                "- @ - \\ p <=> - | - # 0",
		" # all\n p <=> true . \n # all\n": "- @ - \\ p <=> - | - # 0",
	} {
		checkRule(t, s, want)
	}
	for _, x := range universe {
		checkRule(t, "p <=> true. "+x, "ErrSyntax 12")
		checkRule(t, "p(X) ==> q(X) | r(X).\n"+x+" <=> true.", "ErrSyntax 22")
	}
	for _, s := range []string{"one @ p(f(X), 1), q \\ r(2 * (Y + 1)) <=> X > Y, int(Y) | Z is X, true, q.", "p(X, _) ==> X =:= 1 | fail."} {
		list := words(s)
		for i := range list {
			before := strings.Join(list[:i], " ")
			for _, end := range []string{"", " ", "\n# all", "\t#\n"} {
				checkOneRuleOrEmpty(t, before+end, fmt.Sprintf("ErrSyntax %d", len(before+end)))
			}
		}
	}
}

// checkOneRuleOrEmpty permits that a program is empty.
func checkOneRuleOrEmpty(t *testing.T, s, want string) {
	t.Helper()
	if len(words(s)) > 0 {
		checkOneRule(t, s, want)
		return
	}
	checkRule(t, s, want)
	checkParse(t, s, "-")
}

func TestP13_2Heads(t *testing.T) {
	t.Parallel()
	heads := func(count int) string { return repeated("p(X)", ", ", count) }
	shown := func(count int) string { return orDash(repeated("p(V0)", ", ", count)) }
	for _, name := range []string{"", "r @ "} {
		label := "- @ "
		if name != "" {
			label = name
		}
		for kept := range 5 {
			for removed := range 5 - kept {
				s := name + heads(kept)
				switch {
				case kept > 0 && removed > 0:
					s += " \\ " + heads(removed) + " <=> true."
				case kept > 0:
					s += " ==> true."
				case removed > 0:
					s += heads(removed) + " <=> true."
				default:
					continue
				}
				checkOneRule(t, s, label+shown(kept)+" \\ "+shown(removed)+" <=> - | - # 1")
			}
		}
		for _, x := range append([]string{"", "p(X) <=> true.", "p(1,1,1,1,1,1,1) <=> true.", "p(X) <=> X.", "p, p <=> true.", "is @ p"}, universe...) {
			ruleFaults(t, "ErrSize", name+heads(4)+", ^"+x, name+heads(4)+" \\ ^"+x, name+heads(4)+" # ,\n,#\n^"+x)
			for kept := 1; kept < 4; kept++ {
				ruleFaults(t, "ErrSize", name+heads(kept)+" \\ "+heads(4-kept)+", ^"+x)
			}
		}
		// An error before, or without the separator.
		ruleFaults(t, "ErrSyntax", name+heads(4)+" ^p <=> true.", name+heads(4)+"^.", name+"p \\ "+heads(3)+" ^\\ p <=> true.", name+heads(3)+" \\ ^\\ p, p <=> true.", name+heads(3)+", ^X, p, p, p <=> true.",
			name+heads(3)+", p(^), p, p <=> true.", name+heads(4)+"^", name+heads(4)+" ^| p.")
		ruleFaults(t, "ErrName", name+heads(3)+", ^is, p <=> true.", name+"p, ^true, p, p, p <=> true.")
		ruleFaults(t, "ErrSize", name+heads(3)+", ^p(1,1,1,1,1,1,1), p <=> true.", name+heads(4)+", ^p(1,1,1,1,1,1,1) <=> true.", name+heads(4)+", ^p, p, p, p, p <=> true.")
	}
}

func TestP13_2Goals(t *testing.T) {
	t.Parallel()
	goals := func(count int) string { return repeated("q(X)", ", ", count) }
	shown := func(count int) string { return repeated("q(V0)", ", ", count) }
	for _, count := range []int{1, 2, 11, 12} {
		for _, head := range []string{"p(X) <=> ", "p(X) ==> "} {
			want := "- @ - \\ p(V0) <=> "
			if strings.Contains(head, "==>") {
				want = "- @ p(V0) \\ - <=> "
			}
			checkOneRule(t, head+goals(count)+".", want+"- | "+shown(count)+" # 1")
			checkOneRule(t, head+goals(count)+" | true.", want+shown(count)+" | - # 1")
			checkOneRule(t, head+"true | "+goals(count)+".", want+"True | "+shown(count)+" # 1")
			checkOneRule(t, head+goals(count)+" | "+goals(12)+".", want+shown(count)+" | "+shown(12)+" # 1")
			checkOneRule(t, head+goals(12)+" | "+goals(count)+".", want+shown(12)+" | "+shown(count)+" # 1")
			checkOneRule(t, head+"fail"+strings.Repeat(", true", count-1)+".", want+"- | Fail"+strings.Repeat(", True", count-1)+" # 1")
		}
	}
	for _, x := range append([]string{"", "q.", "q | r.", "X.", "q(1,1,1,1,1,1,1).", "is(1)", "q, q, q."}, universe...) {
		for _, head := range []string{"p <=> ", "r @ p, p \\ p, p <=> ", "p(X) ==> "} {
			ruleFaults(t, "ErrSize", head+goals(12)+", ^"+x, head+"true | "+goals(12)+", ^"+x, head+goals(12)+" | "+goals(12)+", ^"+x, head+goals(3)+" | "+goals(12)+",#\n^"+x)
		}
	}
	ruleFaults(t, "ErrSyntax", "p <=> "+goals(12)+"^", "p <=> "+goals(12)+" ^q.", "p <=> "+goals(12)+" | ^.", "p <=> "+goals(12)+" | ^| q.", "p <=> "+goals(12)+" | q ^| q.", "p <=> "+goals(11)+", ^., q.",
		"p <=> "+goals(11)+", X^, q.", "p <=> "+goals(11)+", (q)^, q, q.", "p <=> q | "+goals(12)+" ^| q.", "p <=> "+goals(6)+", q(^), "+goals(12)+".")
	ruleFaults(t, "ErrName", "p <=> "+goals(11)+", ^is, q.", "p <=> "+goals(12)+" | ^constraint, "+goals(12)+".")
	ruleFaults(t, "ErrSize", "p <=> "+goals(11)+", ^q(1,1,1,1,1,1,1), q.", "p <=> "+goals(12)+", ^q(1,1,1,1,1,1,1).", "p <=> "+goals(12)+", ^"+goals(12)+".", "p <=> "+goals(12)+" | "+goals(12)+", ^"+goals(12)+".",
		"p <=> "+goals(12)+", ^"+goals(12)+" | "+goals(12)+".")
}

func TestP13_2Valid(t *testing.T) {
	t.Parallel()
	six, seven := repeated("1", ", ", 6), repeated("1", ", ", 7)
	for _, args := range []string{six, wide(200), wide(100) + ", " + wide(100), repeated("f("+repeated("a", ",", 6)+")", ", ", 6), high(20), high(20) + ", " + high(20), "1, " + wide(199), "f(" + six + ")"} {
		shown := strings.ReplaceAll(args, ",", ", ")
		shown = strings.Join(strings.Fields(shown), " ")
		checkOneRule(t, "p("+args+") <=> true.", "- @ - \\ p("+shown+") <=> - | - # 0")
		checkOneRule(t, "r @ q, p("+args+") \\ p("+args+"), q <=> true.", "r @ q, p("+shown+") \\ p("+shown+"), q <=> - | - # 0")
	}
	for _, args := range []string{seven, wide(201), wide(101) + ", " + wide(100), high(21), "1, " + high(21), "1, " + wide(200), "f(" + seven + ")", "f(f(" + seven + "))", seven + ", 1, 1", "1 + f(" + seven + ")", repeated("1", "+", 21), repeated("1", " * ", 101)} {
		for _, rest := range []string{" <=> true.", "", ".", " p <=> true.", ", X <=> true.", " \\ is <=> true.", " @ q <=> true.", " <=> X.", ") <=> true.", " true", ", p, p, p, p <=> true."} {
			ruleFaults(t, "ErrSize", "^p("+args+")"+rest, "r @ ^p("+args+")"+rest, "p, ^p("+args+")"+rest, "p \\ ^p("+args+")"+rest, "p(X), q \\ r, ^p("+args+")"+rest)
		}
		// An error in the head comes first.
		ruleFaults(t, "ErrSyntax", "p("+args+",^) <=> true.", "p("+args+"^", "p("+args+" ^2) <=> true.", "p("+args+", ^, X) <=> true.", "p(X ^Y, "+args+") <=> true.")
		ruleFaults(t, "ErrName", "p("+args+", ^is) <=> true.", "p("+args+", f(^true(X))) <=> true.", "p(^fail, "+args+") <=> true.")
	}
}

// errors of heads at the place of ^, behind which anything may follow.
func TestP13_2Pairs(t *testing.T) {
	t.Parallel()
	heads := map[string][]string{
		"ErrSyntax": {"p(^), q <=> ", "p ^q ==> ", "p, ^X \\ q <=> ", "p \\ q ^==> ", "r @ ^@ p <=> ", "p(1 ^2) <=> ", "p(- ^1) <=> "},
		"ErrName":   {"^is @ p <=> ", "p, ^true ==> ", "p(f(^int)) <=> ", "p \\ ^fail <=> "},
		"ErrSize":   {"p, p, p, p, ^p <=> ", "p, p \\ p, p, ^p <=> ", "^p(" + wide(201) + ") <=> ", "p, ^p(" + high(21) + ") \\ q <=> ", "p, p, p, p \\ ^X <=> "},
	}
	goals := map[string][]string{
		"ErrSyntax": {"X^.", "X ^| q.", "q, (q)^, r.", "q | r ^| s.", "q ^q.", "true ^= 1.", "int(1^, 2).", "1 < 2 ^< 3."},
		"ErrName":   {"^is.", "q, X = ^true.", "q | int(^ground).", "q, ^constraint."},
		"ErrSize":   {repeated("q", ",", 12) + ",^q.", "^q(" + wide(201) + "), r.", "q | r, ^int(" + high(21) + ").", "^1 = f(1,1,1,1,1,1,1), r | s."},
	}
	for errno, list := range heads {
		for _, first := range list {
			for _, later := range goals {
				for _, second := range later {
					ruleFaults(t, errno, first+strings.Replace(second, "^", "", 1))
				}
			}
		}
	}
	for errno, list := range goals {
		for _, first := range list {
			ruleFaults(t, errno, "p <=> "+first, "r @ p(X) \\ q <=> "+first, "p ==> "+first)
			for _, later := range goals {
				for _, second := range later {
					second = strings.Replace(second, "^", "", 1)
					// The point, or the bar, is where some of the errors are.
					ruleFaults(t, errno, "p <=> "+first+" "+second, "p <=> "+strings.TrimSuffix(first, ".")+". "+second)
				}
			}
		}
	}
}
