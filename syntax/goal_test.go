package syntax

import (
	"fmt"
	"regexp"
	"slices"
	"strconv"
	"strings"
	"testing"
)

// Goals and terms, which are the same ones in rules and in queries (P13.1 to P13.3).

var shownVariable = regexp.MustCompile(`\bV[0-9]+\b`)

// countVars returns the number of different variables in what is written of a result.
func countVars(shown string) int {
	all := shownVariable.FindAllString(shown, -1)
	slices.Sort(all)
	return len(slices.Compact(all))
}

// checkGoal checks a goal, which is not true, in a query, and in the guard and the body of a rule.
func checkGoal(t *testing.T, goal, want string) {
	t.Helper()
	count := countVars(want)
	for _, x := range []struct{ text, want string }{
		{"p <=> %s.", `- @ - \ p <=> - | %s # %d`},
		{"r @ p ==> %s | true.", `r @ p \ - <=> %s | - # %d`},
		{"p <=> a, %s, b | c.", `- @ - \ p <=> a, %s, b | c # %d`},
		{"p <=> true | a, %s, b.", `- @ - \ p <=> True | a, %s, b # %d`},
	} {
		checkOneRule(t, fmt.Sprintf(x.text, goal), fmt.Sprintf(x.want, want, count))
	}
	for _, x := range []struct{ text, want string }{{"%s", "%s # "}, {"a, %s, b", "a, %s, b # "}} {
		text, shown := fmt.Sprintf(x.text, goal), fmt.Sprintf(x.want, want)
		got := parsedGoals(text)
		names, ok := strings.CutPrefix(got, shown)
		if names == "-" {
			names = ""
		}
		if !ok || len(strings.Fields(names)) != count {
			t.Errorf("ParseGoals(%s) is %s instead of %s", short(text), got, shown)
		}
		compare(t, "ParseGoals", text, got, wantGoals(text))
	}
}

// goalFaults checks an error of a goal at the place of ^ in texts.
func goalFaults(t *testing.T, errno string, marked ...string) {
	t.Helper()
	for _, m := range marked {
		for _, x := range []string{"p <=> %s.", "p ==> %s|true.", "r @ p(X) \\ q <=> a, b(Y), %s.", "p <=> true | %s.", "p <=> true, a | X = Y, %s."} {
			ruleFaults(t, errno, fmt.Sprintf(x, m))
		}
		for _, x := range []string{"%s", "a, X = Y, %s", " # all\n%s"} {
			s, want := cut(errno, fmt.Sprintf(x, m))
			checkGoals(t, s, want)
		}
	}
}

// checkTerm checks a term as an argument, in parentheses and in comparisons.
func checkTerm(t *testing.T, text, want string) {
	t.Helper()
	for _, x := range []struct{ text, want string }{
		{"q(%s)", "q(%s)"}, {"q(a, %s, b)", "q(a, %s, b)"}, {"q(f(%s), (%[1]s))", "q(f(%s), %[1]s)"}, {"%s = a", "Unify(%s, a)"}, {"a == %s", "Same(a, %s)"}, {"a > %s", "Less(%s, a)"},
		{"int(%s)", "Int(%s)"}, {"(%s) * (%[1]s) is (a)", "Is(*(%s, %[1]s), a)"},
	} {
		checkGoal(t, fmt.Sprintf(x.text, text), fmt.Sprintf(x.want, want))
	}
	checkOneRule(t, "p("+text+") <=> true.", fmt.Sprintf(`- @ - \ p(%s) <=> - | - # %d`, want, countVars(want)))
}

// termFaults checks an error of a term at the place of ^ in texts.
func termFaults(t *testing.T, errno string, marked ...string) {
	t.Helper()
	for _, m := range marked {
		for _, x := range []string{"q(%s)", "q(a, %s)", "q(f(%s))", "(%s) = a", "a = (%s)", "int(%s)"} {
			goalFaults(t, errno, fmt.Sprintf(x, m))
		}
		ruleFaults(t, errno, "p("+m+") <=> true.", "p, q \\ r(X, "+m+") <=> true.")
	}
}

var comparisons = map[string]string{"=": "Unify", "is": "Is", "==": "Same", "\\=": "Apart", "<": "Less", "=<": "Leq", "=:=": "Equal", "=\\=": "Unequal", ">": "Less", ">=": "Leq"}

func isExchanged(symbol string) bool { return symbol == ">" || symbol == ">=" }

func TestP13_1Goals(t *testing.T) {
	t.Parallel()
	for goal, want := range map[string]string{
		"fail":                       "Fail",
		"true, true":                 "True, True",
		"true, fail":                 "True, Fail",
		"int(X)":                     "Int(V0)",
		"int(-3)":                    "Int(-3)",
		"int((a))":                   "Int(a)",
		"int ( X + 1 )":              "Int(+(V0, 1))",
		"ground(f(X, 1, X))":         "Ground(f(V0, 1, V0))",
		"ground(X)":                  "Ground(V0)",
		"ground(_), int(_)":          "Ground(V0), Int(V1)",
		"q":                          "q",
		"q(1)":                       "q(1)",
		"q(X, Y, X, _, _)":           "q(V0, V1, V0, V2, V3)",
		"q(1, 2, 3, 4, 5, 6)":        "q(1, 2, 3, 4, 5, 6)",
		"q(q(q))":                    "q(q(q))",
		"q(((1)))":                   "q(1)",
		"isA, truex, fail_, intX(1)": "isA, truex, fail_, intX(1)",
		"ground1(X), constraint1":    "ground1(V0), constraint1",
		"X = Y":                      "Unify(V0, V1)",
		"X > Y":                      "Less(V0, V1)",
		"X > Y, q(X, Y)":             "Less(V0, V1), q(V1, V0)",
		"X >= Y, q(X, Y)":            "Leq(V0, V1), q(V1, V0)",
		"X < Y, q(Y, X)":             "Less(V0, V1), q(V1, V0)",
		"q(X), X > Y, Z >= X":        "q(V0), Less(V1, V0), Leq(V0, V2)",
		"f(X, Y) > g(Y, Z), X = Z":   "Less(g(V0, V1), f(V2, V0)), Unify(V2, V1)",
		"_ > f(_), _ >= X, X > _":    "Less(f(V0), V1), Leq(V2, V3), Less(V4, V2)",
		"X is Y * 2 + 1":             "Is(V0, +(*(V1, 2), 1))",
		"1 is 2":                     "Is(1, 2)",
		"isA is is_":                 "Is(isA, is_)",
		"X=Y":                        "Unify(V0, V1)",
		"X=-1":                       "Unify(V0, -1)",
		"X=<-1":                      "Leq(V0, -1)",
		"X<-1":                       "Less(V0, -1)",
		"X>-1":                       "Less(-1, V0)",
		"X>=-1":                      "Leq(-1, V0)",
		"X==-1":                      "Same(V0, -1)",
		"X=\\=-1":                    "Unequal(V0, -1)",
		"X=:=-1":                     "Equal(V0, -1)",
		"X\\=-1":                     "Apart(V0, -1)",
		"-1--1=-1":                   "Unify(-(-1, -1), -1)",
		"(q) = (q)":                  "Unify(q, q)",
		"((q)) = ((((1))))":          "Unify(q, 1)",
		"(q + 1) = q":                "Unify(+(q, 1), q)",
		"(q(1)) < q(2)":              "Less(q(1), q(2))",
		"q+1=1+q":                    "Unify(+(q, 1), +(1, q))",
	} {
		checkGoal(t, goal, want)
	}
}

// Each comparison of each two expressions.
func TestP13_1Comparisons(t *testing.T) {
	t.Parallel()
	expressions := map[string]string{
		"q": "q", "q(1)": "q(1)", "(q)": "q", "(q(1))": "q(1)", "1": "1", "-1": "-1", "(1)": "1", "(-1)": "-1", "1 + 2": "+(1, 2)", "q - 1": "-(q, 1)", "q(1) * 2": "*(q(1), 2)", "(1) / 2": "/(1, 2)",
		"1 % (2)": "%(1, 2)", "(1 + 2)": "+(1, 2)", "f(f(a), -2)": "f(f(a), -2)", "-7": "-7",
	}
	for symbol, op := range comparisons {
		for left, first := range expressions {
			for right, second := range expressions {
				if isExchanged(symbol) {
					checkGoalOnce(t, left+" "+symbol+" "+right, op+"("+second+", "+first+")")
					continue
				}
				checkGoalOnce(t, left+" "+symbol+" "+right, op+"("+first+", "+second+")")
			}
		}
		want := op + "(f(V0, V1, V2), g(V1, V3, V0, V4)), q(V0, V1, V3)"
		if isExchanged(symbol) {
			want = op + "(g(V0, V1, V2, V3), f(V2, V0, V4)), q(V2, V0, V1)"
		}
		checkGoal(t, "f(X, Y, _) "+symbol+" g(Y, Z, X, _), q(X, Y, Z)", want)
	}
}

func checkGoalOnce(t *testing.T, goal, want string) {
	t.Helper()
	checkOneRule(t, "p <=> "+goal+" | true.", `- @ - \ p <=> `+want+` | - # 0`)
	checkGoals(t, goal, want+" # -")
}

func TestP13_1GoalSyntax(t *testing.T) {
	t.Parallel()
	goalFaults(t, "ErrSyntax",
		// Expressions that are no call.
		"X^", "_^", "1^", "-1^", "(q)^", "(X)^", "(1)^", "((q))^", "(q(1))^", "q + 1^", "1 + q^", "-1 - q^", "q * X^", "q(1) - 1^", "(q) + 1^", "(q + 1)^", "q / q % q^",
		"X^, q", "(q)^, q", "q + 1^, q", "(q) ^q", "X ^q", "1 ^q",
		// What does not follow an expression.
		"q ^X", "q(1) ^q", "q ^1", "q ^q", "X ^Y", "1 ^2", "12^ab", "X ^(1)", "1 ^(2)", "(q)^(1)", "q(1)^(2)", "q ^true", "q ^int(X)", "X ^fail", "X ^constraint", "q^)", "(q)^)", "X ^@ q", "q ^\\ r", "q ^<=> r",
		"X = Y ^Z", "X = Y ^q", "X = Y ^= Z", "X < Y ^< Z", "X is 1 ^is 2", "X == 1 ^\\= 2", "X > 1 ^>= 2", "1 =:= 2 ^=\\= 3", "X = 1 ^(1)", "X = q^)", "X = 1 ^true", "X = Y ^is Z",
		// What does not begin one.
		"^= X", "^== X", "^\\= X", "^< X", "^> 1", "^=< X", "^>= X", "^=:= X", "^=\\= X", "^+ 1", "^* 1", "^/ 1", "^% 1", "^)", "^,", "^@", "^\\", "^<=>", "^==>", "(^)", "(^, 1)", "(^= 1)", "(^+ 1)", "(^|)",
		"X = ^= Y", "X = ^+ 1", "X = ^)", "X = (^)", "X is ^< 1", "X <^", "X =^", "X is^", "X ==^", "X >^", "X >=^", "X =<^", "X =:=^", "X =\\=^", "X \\=^", "q +^", "q *^", "1 -^", "1 /^", "X = 1 +^", "X = 1 %^",
		"1 + ^+ 2", "1 + ^* 2", "1 * ^/ 2", "1 * ^+ 2", "1 % ^% 2", "1 - ^+ 2 = X", "1 + ^= 2", "X = 1 + ^, q",
		// Parentheses.
		"(1^", "((1)^", "(1 ^2) = X", "(1^, 2) = X", "(X ^= Y)", "(X ^is Y)", "(1 + 2^", "q(^)", "q(1,^)", "q(^, 1)", "q(1 ^2)", "q(X ^Y)", "q(1 ^= 1)", "q((1)^", "q(1^", "q(^", "q((^))", "q(f(^))", "q(1, ^, 2)",
		"q(1^| 2)", "q(1 ^. 2)", "(^", "((^", "X = (^", "X = (Y^", "(1 ^| 2)",
		// Goals with words.
		"true ^= X", "true ^(1)", "true ^true", "true ^+ 1", "true ^is 1", "fail ^< 1", "fail ^(X)", "fail ^q", "fail ^fail", "int^", "int ^X", "int ^= 1", "int(^)", "int(1^", "int(^", "int(1 ^= 2)", "int(X^, Y)",
		"int(1^, 2)", "int(X) ^= 1", "int(X) ^+ 1", "int(X)^(Y)", "int ^int(X)", "int ^true", "ground^", "ground ^= 1", "ground(^)", "ground(X^, 1)", "ground(X)^(Y)", "ground(X) ^is 1", "ground ^1",
		"ground(X^", "ground(f(^))", "ground ^,",
		// Other ends of the goal.
		"q,^", "q, ^, q", "q, ^)", "true,^", "int(X),^", "X = Y,^", "X = Y, ^, q",
	)
	// What follows the goals of a query.
	for _, m := range []string{"^", "q^.", "q ^| q", "q ^==> q", "q^. q", "X = 1^.", "X = 1^| q", "true^.", "true, q^| r", "fail ^<=> q", "X^.", "X^| q"} {
		s, want := cut("ErrSyntax", m)
		checkGoals(t, s, want)
	}
}

func TestP13_1GoalReserved(t *testing.T) {
	t.Parallel()
	goalFaults(t, "ErrName", "^is", "^is(1)", "^is 1", "^is = X", "^is is is", "^is, q", "^constraint", "^constraint p/1", "^constraint(X)", "^constraint = 1", "^is + 1", "q, ^is", "q, ^constraint", "true, ^is")
	for _, word := range reserved {
		for _, m := range []string{
			"X = ^W", "X = ^W(1)", "X is ^W", "1 < ^W, q", "1 + ^W", "1 - ^W = 1", "1 * ^W", "q / ^W", "(^W)", "((^W) + 1) = 2", "(^W(X)) = 1", "q(^W)", "q(1, ^W)", "q(^W, 1)", "q(^W(1))", "q(f(^W(1)))", "q((^W))",
			"q(1 + ^W)", "int(^W)", "ground(^W)", "int(^W(X))", "ground(f(^W))", "X >= ^W", "X =:= 1 + ^W", "X = (^W", "q(^W",
		} {
			goalFaults(t, "ErrName", strings.ReplaceAll(m, "W", word))
		}
		// Where the grammar has no name.
		goalFaults(t, "ErrSyntax", "true ^"+word, "fail ^"+word, "int ^"+word, "int(X) ^"+word, "ground ^"+word+"(X)", "X = 1 ^"+word, "q(1 ^"+word+")", "X = -^"+word, "-^"+word, "q(X ^"+word+" 1)", "(X ^"+word+" 1) = 2")
		if word != "is" {
			goalFaults(t, "ErrSyntax", "q ^"+word, "X ^"+word, "1 ^"+word+" 2", "(q) ^"+word)
		}
	}
}

func TestP13_1Terms(t *testing.T) {
	t.Parallel()
	for text, want := range map[string]string{
		"0": "0", "7": "7", "007": "7", "2147483648": "2147483648", "0000000000000002147483648": "2147483648", "-1": "-1", "-0": "0", "-007": "-7", "-2147483648": "-2147483648", "(-5)": "-5", "((((5))))": "5",
		"X": "V0", "Xy1_": "V0", "__": "V0", "_x": "V0", "(X)": "V0", "X + X": "+(V0, V0)", "f(X, Y) - X": "-(f(V0, V1), V0)",
		"a": "a", "(a)": "a", "aB_1": "aB_1", "f(1)": "f(1)", "f(f(f(1)))": "f(f(f(1)))", "f(1, -2, a, g(b), (1), 2 + 3)": "f(1, -2, a, g(b), 1, +(2, 3))", "f (\n1 )": "f(1)", "isA(true_)": "isA(true_)",
		"1 + 2": "+(1, 2)", "1 - 2": "-(1, 2)", "1 * 2": "*(1, 2)", "1 / 2": "/(1, 2)", "1 % 2": "%(1, 2)", "1+2": "+(1, 2)", "a*b": "*(a, b)",
		"7 - 2 - 1": "-(-(7, 2), 1)", "7 - (2 - 1)": "-(7, -(2, 1))", "(7 - 2) - 1": "-(-(7, 2), 1)", "8 / 4 / 2": "/(/(8, 4), 2)", "8 / (4 * 2)": "/(8, *(4, 2))",
		"1 + 2 * 3 - 4 / 5 % 6": "-(+(1, *(2, 3)), %(/(4, 5), 6))", "(1 + 2) * (3 - 4)": "*(+(1, 2), -(3, 4))", "1 * 2 + 3 * 4": "+(*(1, 2), *(3, 4))", "1 * (2 + 3) * 4": "*(*(1, +(2, 3)), 4)",
		"f(1) + g(2) * h": "+(f(1), *(g(2), h))", "f(1 + 2) * 3": "*(f(+(1, 2)), 3)", "a - b - c - d": "-(-(-(a, b), c), d)", "a % b * c / d": "/(*(%(a, b), c), d)",
	} {
		checkTerm(t, text, want)
	}
}

// A minus sign is part of an integer where an operand is expected, and an operator elsewhere.
func TestP13_1Minus(t *testing.T) {
	t.Parallel()
	for text, want := range map[string]string{
		"1 - -2": "-(1, -2)", "1--2": "-(1, -2)", "1 --2": "-(1, -2)", "1- -2": "-(1, -2)", "1-2": "-(1, 2)", "1 -2": "-(1, 2)", "1- 2": "-(1, 2)", "1 - 2": "-(1, 2)", "1 -\n# all\n2": "-(1, 2)", "1#\n-2": "-(1, 2)",
		"-1 - 1": "-(-1, 1)", "-1-1": "-(-1, 1)", "-1--1": "-(-1, -1)", "-1 - -1 - -1": "-(-(-1, -1), -1)", "-1 * -2": "*(-1, -2)", "-1*-2": "*(-1, -2)", "1 + -2": "+(1, -2)", "1+-2": "+(1, -2)", "1/-2": "/(1, -2)",
		"1%-2": "%(1, -2)", "a-1": "-(a, 1)", "a -1": "-(a, 1)", "a--1": "-(a, -1)", "(1)-1": "-(1, 1)", "(-1)-1": "-(-1, 1)", "f(1)-1": "-(f(1), 1)", "f(-1)": "f(-1)", "f(1,-1)": "f(1, -1)", "(-1)": "-1",
		"2 * 3 -4": "-(*(2, 3), 4)", "2 - 3 * -4": "-(2, *(3, -4))", "-2 - X": "-(-2, V0)", "X-1": "-(V0, 1)", "X -1": "-(V0, 1)", "-0 - 0": "-(0, 0)", "1 - (-2)": "-(1, -2)",
	} {
		checkTerm(t, text, want)
	}
	termFaults(t, "ErrSyntax",
		"- ^1", "-\n^1", "-#\n^1", "-\t^2147483648", "1 - - ^2", "1 - -\n^2", "1 -- ^2", "1 * - ^2", "-^-1", "-^-", "- ^- 1", "1 --^-2", "1 - -^- 2", "-^X", "-^_", "- ^X", "-^a", "-^f(1)", "-^(1)",
		"- ^(1)", "-^+ 1", "-^* 1", "-^is", "-^true", "-^)", "-^, 1", "1 -^)", "1 - -^)", "1 - -^X", "1 - -^a", "1 + -^(2)", "1 * -^-2", "-1 ^2", "-12^ab", "-1^(2)", "-1 ^ab + 1", "-^. 1", "-^= 1", "1 - -^= 2",
		"^+1", "^+ 1", "1 + ^+1", "^*1", "-^@", "-^\\",
	)
	goalFaults(t, "ErrSyntax", "X = - ^1", "X = -^Y", "X = -^q", "-^X = 1", "- ^1 = 1", "-^q", "- ^q(1)", "X < -^", "-^", "X is 1 - -^", "X = 1 - - ^1", "-1^", "-1 ^q")
	termFaults(t, "ErrRange", "-^2147483649", "- ^2147483649", "1 - ^2147483649", "^2147483649")
}

// Each two and each three operators.
func TestP13_1Operators(t *testing.T) {
	t.Parallel()
	operators := strings.Fields("+ - * / %")
	strength := map[string]int{"+": 1, "-": 1, "*": 2, "/": 2, "%": 2}
	pair := func(op, a, b string) string { return op + "(" + a + ", " + b + ")" }
	for _, o := range operators {
		for _, p := range operators {
			want := pair(p, pair(o, "1", "2"), "3")
			if strength[p] > strength[o] {
				want = pair(o, "1", pair(p, "2", "3"))
			}
			checkTerm(t, "1 "+o+" 2 "+p+" 3", want)
			checkTerm(t, "(1 "+o+" 2) "+p+" 3", pair(p, pair(o, "1", "2"), "3"))
			checkTerm(t, "1 "+o+" (2 "+p+" 3)", pair(o, "1", pair(p, "2", "3")))
			termFaults(t, "ErrSyntax", "1 "+o+"^", "1 "+o+" 2 "+p+"^", "1 "+o+" (2 "+p+"^)", "(1 "+o+" 2) ^3")
			for _, q := range operators {
				s := "X1 " + o + " 2 " + p + " a " + q + " 4"
				goal := parsedGoals(s + " = 0")
				compare(t, "ParseGoals", s+" = 0", goal, wantGoals(s+" = 0"))
			}
		}
	}
}

// Terms that are nested as deep as possible, and deeper.
func TestP13_1Deep(t *testing.T) {
	t.Parallel()
	for _, count := range []int{1, 2, 19, 20, 21, 100, 1000, 8000} {
		opening, closing := strings.Repeat("(", count), strings.Repeat(")", count)
		checkGoals(t, "X = "+opening+"1"+closing, "Unify(V0, 1) # X")
		checkGoals(t, opening+"q"+closing+" = "+"1", "Unify(q, 1) # -")
		checkGoals(t, opening+"q"+closing, "ErrSyntax "+strconv.Itoa(2*count+1))
		checkGoals(t, opening+"q"+closing[1:], "ErrSyntax "+strconv.Itoa(2*count))
		checkGoals(t, opening+"q"+closing+")", "ErrSyntax "+strconv.Itoa(2*count+1))
		checkGoals(t, opening, "ErrSyntax "+strconv.Itoa(count))
		checkOneRule(t, "p("+opening+"a"+closing+") ==> q.", `- @ p(a) \ - <=> - | q # 0`)
	}
	for depth := 18; depth <= 22; depth++ {
		right := repeated("1", " + (", depth-1) + " + 1" + strings.Repeat(")", depth-2)
		left := strings.Repeat("(", depth-2) + "1" + strings.Repeat(" - 1)", depth-2) + " - 1"
		for _, text := range []string{high(depth), repeated("1", " * ", depth), left, right} {
			for _, goal := range []string{"q(%s)", "%s = 1", "X < %s", "int(%s)", "ground((%s))", "q(1, X, %s)"} {
				goal = fmt.Sprintf(goal, text)
				if depth > 20 {
					goalFaults(t, "ErrSize", "^"+goal)
				} else if got := parsedGoals(goal); isFault(got) || got != wantGoals(goal) {
					t.Errorf("%s is %s", goal, got)
				}
			}
		}
	}
}

// Goals that are as large as possible, and larger.
func TestP13_1Large(t *testing.T) {
	t.Parallel()
	seven := repeated("1", ",", 7)
	for _, goal := range []string{
		"q(" + wide(200) + ")", "q(" + wide(100) + ", " + wide(100) + ")", "q(1, " + wide(199) + ")", wide(100) + " = " + wide(100), "1 > " + wide(199), wide(199) + " is X", "int(" + wide(200) + ")",
		"ground(" + wide(200) + ")", "q(" + high(20) + ", " + high(20) + ")", "q(1, 2, 3, 4, 5, 6)", "q(f(1, 2, 3, 4, 5, 6))", "X < f(1, 2, 3, 4, 5, 6)",
	} {
		for _, s := range []string{"p <=> " + goal + ".", "p ==> " + goal + " | " + goal + ", true."} {
			if got := parsedRule(s); isFault(got) || got != wantRule(s) {
				t.Errorf("%s is %s", s, got)
			}
		}
		if got := parsedGoals(goal); isFault(got) || got != wantGoals(goal) {
			t.Errorf("%s is %s", goal, got)
		}
	}
	for _, goal := range []string{
		"q(" + wide(201) + ")", "q(" + wide(101) + ", " + wide(100) + ")", "q(1, " + wide(200) + ")", wide(101) + " = " + wide(100), wide(100) + " >= " + wide(101), "1 > " + wide(200), wide(200) + " is X",
		"int(" + wide(201) + ")", "ground(" + wide(201) + ")", "q(" + high(21) + ")", "1 =\\= " + high(21), high(21) + " < 1", "int(" + high(21) + ")", "q(" + seven + ")", "q(f(" + seven + "))",
		"X = f(" + seven + ")", "f(" + seven + ") = X", "ground(f(" + seven + "))", "q(" + seven + seven + ")", "1 + f(" + seven + ") < 2", "(f(" + seven + ")) == 1",
	} {
		for _, rest := range []string{"", ", q", ", X", ",", " q", ")", " 1", " true", ", is", " @ q", ", q(" + seven + ")"} {
			goalFaults(t, "ErrSize", "^"+goal+rest)
		}
	}
	// An error in the goal comes first, and before it is complete it has no other one.
	goalFaults(t, "ErrSyntax",
		"q("+seven+",^)", "q("+seven+"^", "q("+seven+" ^2)", "q("+wide(300)+", ^, 1)", "f("+seven+") + 1^", "(f("+seven+"))^", "f("+seven+") =^", "f("+seven+") < ^< 1", "X = f("+seven+") +^", "X = f("+seven+",^)",
		"X = f("+seven+") * ^/ 1", "int(f("+seven+")^, 1)", "int(f("+seven+")^", "f("+seven+") * ^", "1 + f("+seven+")^", "1 + f("+seven+") ^q", "("+wide(300)+")^",
	)
	goalFaults(t, "ErrName", "q("+seven+", ^is)", "f("+seven+") = ^true", "X = f("+seven+", ^fail)", "int(f("+seven+", ^int))", "f("+seven+") + ^ground", "q("+wide(300)+" * ^constraint)")
}
