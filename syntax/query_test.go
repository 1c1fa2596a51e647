package syntax

import (
	"fmt"
	"slices"
	"strconv"
	"strings"
	"testing"

	"constraint/api"
)

func queryFaults(t *testing.T, errno string, marked ...string) {
	t.Helper()
	for _, m := range marked {
		s, want := cut(errno, m)
		checkGoals(t, s, want)
	}
}

func TestP13_3Table(t *testing.T) {
	for s, want := range map[string]string{
		"p(X, _, Y), X = 1":              "p(V0, V1, V2), Unify(V0, 1) # X _ Y",
		"true":                           "True # -",
		"true, true":                     "True, True # -",
		"fail":                           "Fail # -",
		"p":                              "p # -",
		" p\t(\r\n1 ) # all":             "p(1) # -",
		"#\np":                           "p # -",
		"p(X)":                           "p(V0) # X",
		"p(X, X), q(X)":                  "p(V0, V0), q(V0) # X",
		"p(Y, X), q(X, Y)":               "p(V0, V1), q(V1, V0) # Y X",
		"_ = _":                          "Unify(V0, V1) # _ _",
		"_ > _, p(_)":                    "Less(V0, V1), p(V2) # _ _ _",
		"p(_, __, _, __, _1, _)":         "p(V0, V1, V2, V1, V3, V4) # _ __ _ _1 _",
		"X > Y":                          "Less(V0, V1) # Y X",
		"X >= Y":                         "Leq(V0, V1) # Y X",
		"X < Y":                          "Less(V0, V1) # X Y",
		"X =< Y":                         "Leq(V0, V1) # X Y",
		"A > B, B >= C, C < A":           "Less(V0, V1), Leq(V2, V0), Less(V2, V1) # B A C",
		"f(X, Y) > g(Y, Z), p(X, Z)":     "Less(g(V0, V1), f(V2, V0)), p(V2, V1) # Y Z X",
		"_ > X, X >= _":                  "Less(V0, V1), Leq(V2, V0) # X _ _",
		"f(_, X) > f(Y, _)":              "Less(f(V0, V1), f(V2, V3)) # Y _ _ X",
		"p(X, X1, X_, Xx, XX, _X)":       "p(V0, V1, V2, V3, V4, V5) # X X1 X_ Xx XX _X",
		"p(V1, V0), q(V0, V2)":           "p(V0, V1), q(V1, V2) # V1 V0 V2",
		"int(X), ground(Y), X == Y":      "Int(V0), Ground(V1), Same(V0, V1) # X Y",
		"leq(A, B), leq(B, C), leq(C,A)": "leq(V0, V1), leq(V1, V2), leq(V2, V0) # A B C",
		"X is 7 - 2 - 1, true, fail":     "Is(V0, -(-(7, 2), 1)), True, Fail # X",
	} {
		checkGoals(t, s, want)
	}
}

func TestP13_3Names(t *testing.T) {
	t.Parallel()
	stem := strings.Repeat("X", api.MaxName-1)
	checkGoals(t, "p("+stem+"a, "+stem+"b, "+stem+", "+stem+"a)", "p(V0, V1, V2, V0) # "+stem+"a "+stem+"b "+stem)
	// As many variables as a query can have, of which some are equal.
	for _, word := range []func(i int) string{
		func(int) string { return "_" },
		func(i int) string { return "X" + strconv.Itoa(i) },
		func(i int) string { return "X" + strconv.Itoa(i*i%1000) },
		func(i int) string { return strings.Repeat("_", i%5+1) },
	} {
		var names, words, shown []string
		for i := range 40 * 36 {
			x := word(i)
			number := slices.Index(names, x)
			if number < 0 || x == "_" {
				number = len(names)
				names = append(names, x)
			}
			words = append(words, x)
			shown = append(shown, "V"+strconv.Itoa(number))
		}
		checkGoals(t, packed(words), packed(shown)+" # "+strings.Join(names, " "))
	}
	queryFaults(t, "ErrSize", "^X="+repeated("_", "+", 8000))
}

// packed returns goals with 36 terms each.
func packed(terms []string) string {
	var goals []string
	for goal := range slices.Chunk(terms, 36) {
		var args []string
		for list := range slices.Chunk(goal, 6) {
			args = append(args, "f("+strings.Join(list, ", ")+")")
		}
		goals = append(goals, "p("+strings.Join(args, ", ")+")")
	}
	return strings.Join(goals, ", ")
}

func TestP13_3Invalid(t *testing.T) {
	queryFaults(t, "ErrSyntax",
		"^", " ^", "\n^", "# all^", "# all\n^", "^.", "^,", "^, p", "p^.", "p^. q", "p ^.", "p,^", "p, ^.", "p, ^, q", "p ^q", "p ^| q", "p ^<=> q", "p ^==> q", "p ^\\ q", "p ^@ q", "p ^@ q <=> true.", "true^.",
		"p, q^.", "true ^| p", "p ^X", "X^", "1^", "(p)^", "p(X)^.", "X = Y^.", "X > Y ^| true", "p^)", "^)", "p # all\n^.", "p, # all\n^, q", "p ^constraint q/1", "p is 1 ^true",
	)
	queryFaults(t, "ErrName", "^constraint", "^constraint p/1.", "^is", "p, ^is", "p, ^constraint", "p(^true)", "X = ^int(1)", "p(1, f(^fail))", "int(^ground(X))", "true, fail, ^is")
	for _, x := range universe {
		checkGoals(t, "p. "+x, "ErrSyntax 1")
		if x != "," {
			checkGoals(t, "true "+x, "ErrSyntax 5")
		}
	}
}

// Texts that end at each token.
func TestP13_3End(t *testing.T) {
	// Before which tokens the goals are complete.
	for s, complete := range map[string][]int{
		"p ( f ( X ) , -1 ) , X > Y , int ( Y ) , Z is 2 * ( X - 1 ) , true , q": {1, 9, 13, 18, 22, 28, 30, 32},
		"true , ground ( f ( X ) ) , fail":                                       {1, 9, 11},
		"X = Y + f ( _ ) * 2 , p":                                                {3, 5, 8, 10, 12},
	} {
		list := strings.Fields(s)
		for i := range len(list) + 1 {
			before := strings.Join(list[:i], " ")
			for _, end := range []string{"", " ", "\n# all", "\t#\n"} {
				want := fmt.Sprintf("ErrSyntax %d", len(before+end))
				if slices.Contains(complete, i) {
					want = wantGoals(before)
				}
				checkGoals(t, before+end, want)
				if isFault(want) == slices.Contains(complete, i) {
					t.Errorf("%s is %s", before, want)
				}
			}
		}
	}
}

func TestP13_3Limit(t *testing.T) {
	t.Parallel()
	goals := func(count int) string { return repeated("p(X)", ", ", count) }
	for _, count := range []int{1, 2, 12, 13, 39, 40} {
		checkGoals(t, goals(count), repeated("p(V0)", ", ", count)+" # X")
		checkGoals(t, goals(count)+"# all", repeated("p(V0)", ", ", count)+" # X")
		checkGoals(t, repeated("true", ",", count), repeated("True", ", ", count)+" # -")
	}
	for _, x := range append([]string{"", "p", "p(X), X", "X", "p(1,1,1,1,1,1,1)", goals(40), "is(1)", "p."}, universe...) {
		queryFaults(t, "ErrSize", goals(40)+", ^"+x, goals(40)+",#,\n^"+x, repeated("true", ",", 40)+",^"+x)
	}
	queryFaults(t, "ErrSyntax", goals(40)+"^.", goals(40)+" ^p", goals(39)+", ^., p", goals(39)+", X^, p", goals(39)+",^", goals(20)+", p(^), "+goals(30))
	queryFaults(t, "ErrName", goals(39)+", ^is, p", goals(10)+", p(^true), "+goals(40))
	queryFaults(t, "ErrSize", goals(39)+", ^p(1,1,1,1,1,1,1), p", goals(40)+", ^p(1,1,1,1,1,1,1)", goals(40)+", ^"+goals(40))
}

// Texts that are as long as possible.
func TestP13_3Size(t *testing.T) {
	space := strings.Repeat("\n", api.MaxSource-4)
	for _, s := range []string{space + "p(X)", "p(X)" + space, "p(" + space + "X)", "p#" + space[1:] + "(X)"} {
		checkGoals(t, s, "p(V0) # X")
		checkGoals(t, s+" ", "ErrSize 0")
		checkRule(t, s+" ", "ErrSize 0")
	}
	const rule = "p(X) <=> q(X)."
	for _, s := range []string{space[10:] + rule, rule + space[10:], rule + "#" + space[11:]} {
		checkRule(t, s, "- @ - \\ p(V0) <=> - | q(V0) # 1")
		checkRule(t, s+"\n", "ErrSize 0")
		checkParse(t, s+"\n", "ErrSize 0")
	}
}

// All texts of a few tokens, as long as they can be continued.
func TestP13_3All(t *testing.T) {
	for most, alphabet := range map[int]string{
		7: "p X 1 ( ) , = -",
		6: "p X ( ) , true is int > . | <=>",
		5: "p X 1 ( ) , true fail is int ground constraint = < > - + * . @ \\ <=> ==> | /",
	} {
		t.Run("", func(t *testing.T) {
			t.Parallel()
			extend(t, strings.Fields(alphabet), "", most)
		})
	}
}

// extend checks all texts that continue a text, and continues those that are a beginning of a valid one.
func extend(t *testing.T, alphabet []string, s string, left int) {
	checkAll(t, s)
	end := "ErrSyntax " + strconv.Itoa(len(s))
	isBeginning := s == "" || wantParse(s) == end || wantGoals(s) == end || !isFault(wantParse(s)) || !isFault(wantGoals(s))
	if left == 0 || !isBeginning {
		return
	}
	for _, x := range alphabet {
		if !strings.HasSuffix(s, "-") {
			extend(t, alphabet, s+" "+x, left-1)
			continue
		}
		extend(t, alphabet, s+x, left-1)
	}
}
