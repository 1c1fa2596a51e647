package syntax

import (
	"slices"
	"strings"
	"testing"

	"constraint/api"
)

// programFaults checks an error of Parse at the place of ^ in texts.
func programFaults(t *testing.T, errno string, marked ...string) {
	t.Helper()
	for _, m := range marked {
		s, want := cut(errno, m)
		checkParse(t, s, want)
	}
}

func TestP13_1Table(t *testing.T) {
	for s, want := range map[string]string{
		"":              "-",
		" ":             "-",
		"\t\r\n \n":     "-",
		"#":             "-",
		"# p(X) <=> X.": "-",
		"# all\n\n# p":  "-",
		"constraint p/1. r @ p(X) \\ p(Y) <=> X > Y | true.": "p/1\nr @ p(V0) \\ p(V1) <=> Less(V1, V0) | - # 2",
		"p <=> true.":                                          "-\n- @ - \\ p <=> - | - # 0",
		"p <=> true. p <=> true.":                              "-\n- @ - \\ p <=> - | - # 0\n- @ - \\ p <=> - | - # 0",
		"p(X)==>q(Y,X).r@q(Y,X)<=>p(X)#\n.#":                   "-\n- @ p(V0) \\ - <=> - | q(V1, V0) # 2\nr @ - \\ q(V0, V1) <=> - | p(V1) # 2",
		"constraint p/0.":                                      "p/0",
		"constraint p/6.":                                      "p/6",
		"constraint p/00.":                                     "p/0",
		"constraint p/0000000000000000000006.":                 "p/6",
		"constraint p/1, q/2,r/3 , s / 4 .":                    "p/1, q/2, r/3, s/4",
		"constraint p/1. constraint q/2, r/0. constraint s/5.": "p/1, q/2, r/0, s/5",
		"constraint p/1, p/1. constraint p/2.":                 "p/1, p/1, p/2",
		"constraint isA/0, true_/1, constraint1/2.":            "isA/0, true_/1, constraint1/2",
		"constraint p/1.q(a)<=>true.":                          "p/1\n- @ - \\ q(a) <=> - | - # 0",
		`constraint leq/2.
		leq(X, X) <=> true.
		leq(X, Y), leq(Y, X) <=> X = Y.
		leq(X, Y) \ leq(X, Y) <=> true.
		leq(X, Y), leq(Y, Z) ==> leq(X, Z).`: `leq/2
- @ - \ leq(V0, V0) <=> - | - # 1
- @ - \ leq(V0, V1), leq(V1, V0) <=> - | Unify(V0, V1) # 2
- @ leq(V0, V1) \ leq(V0, V1) <=> - | - # 2
- @ leq(V0, V1), leq(V1, V2) \ - <=> - | leq(V0, V2) # 3`,
		`constraint gcd/1.
		gcd(0) <=> true.
		gcd(N) \ gcd(M) <=> 0 < N, N =< M | L is M - N, gcd(L).`: `gcd/1
- @ - \ gcd(0) <=> - | - # 0
- @ gcd(V0) \ gcd(V1) <=> Less(0, V0), Leq(V0, V1) | Is(V2, -(V1, V0)), gcd(V2) # 3`,
	} {
		checkParse(t, s, want)
	}
}

func TestP13_1Declarations(t *testing.T) {
	programFaults(t, "ErrSyntax",
		"constraint^", "constraint ^.", "constraint ^/1.", "constraint ^, p/1.", "constraint ^P/1.", "constraint ^_/1.", "constraint ^1/1.", "constraint ^(p/1).",
		"constraint p^", "constraint p^.", "constraint p ^1.", "constraint p^, q/1.", "constraint p^\\1.", "constraint p ^q/1.", "constraint p^(X).", "constraint p ^@ q <=> true.",
		"constraint p ^<=> true.", "constraint p ^is 1.", "constraint p^", "constraint p ^constraint q/1.",
		"constraint p/^", "constraint p/^.", "constraint p/^,", "constraint p/^/1.", "constraint p/^q.", "constraint p/^X.", "constraint p/^_.", "constraint p/^-1.", "constraint p/^(1).",
		"constraint p/^is.", "constraint p/^constraint q/1.", "constraint p/ # 1^",
		"constraint p/1^", "constraint p/1 ^q/1.", "constraint p/1^/2.", "constraint p/1 ^2.", "constraint p/1^a.", "constraint p/1^+1.", "constraint p/1 ^X.", "constraint p/1 ^| q.",
		"constraint p/1 ^constraint q/1.", "constraint p/1 ^<=> true.", "constraint p/1 ^is 2.",
		"constraint p/1,^", "constraint p/1, ^.", "constraint p/1,^, q/1.", "constraint p/1, ^Q/1.", "constraint p/1, ^2.", "constraint p/1, ^(q/1).", "constraint p/1, q^.", "constraint p/1, q/^.",
		"constraint p/1, q/2^", "constraint p/1, q/2 ^r/1.",
		"constraint p/1.^.", "constraint p/1. ^, q/1.", "constraint p/1. ^X <=> true.", "constraint p/1. ^1.", "constraint p/1. constraint^", "constraint p/1. constraint ^.",
		"constraint p/1. q^", "constraint p/1. q^/1.", "constraint p/1. q^.", "constraint p/1. ^(q) <=> true.",
	)
	programFaults(t, "ErrSize",
		"constraint p/^7.", "constraint p/^007.", "constraint p/^8", "constraint p/^10.", "constraint p/^16.", "constraint p/^60.", "constraint p/^2147483647.", "constraint p/^2147483648.",
		"constraint p/1, q/^7.", "constraint p/^7, q/1.", "constraint p/6. constraint q/^7. r(X) <=> X.",
	)
	programFaults(t, "ErrRange", "constraint p/^2147483649.", "constraint p/7, q/^99999999999.", "constraint is/7. p <=> X = ^18446744073709551617.")
	// The first error from left to right.
	programFaults(t, "ErrSize", "constraint p/^7", "constraint p/^7 q", "constraint p/^7, is/1.", "constraint p/^7, q", "constraint p/^7. q(X) <=> X.", "constraint p/^7, q/8.")
	programFaults(t, "ErrName", "constraint ^is/7.", "constraint ^is", "constraint p/1, ^is/P", "constraint ^true.", "constraint ^constraint/1.", "constraint ^constraint p/1.")
	programFaults(t, "ErrSyntax", "constraint ^P/7.", "constraint p ^7.", "constraint p/ ^is/7.")
}

// Each reserved word where the grammar has a name in a program.
func TestP13_1Reserved(t *testing.T) {
	for _, word := range reserved {
		for _, m := range []string{
			"constraint ^W/1.", "constraint ^W", "constraint p/1, ^W/1.", "constraint p/1. constraint ^W/1.", "constraint p/1, q/2. constraint r/3, ^W/7.",
			"p <=> true. ^W @ p <=> true.", "p <=> true. ^W <=> true.", "p <=> true. ^W", "p <=> true. ^W p/1.", "p <=> true. q, ^W <=> true.", "p <=> true. q @ ^W <=> true.",
			"constraint p/1. p <=> true. q <=> r(^W).",
		} {
			programFaults(t, "ErrName", strings.ReplaceAll(m, "W", word))
		}
		if word != "constraint" {
			programFaults(t, "ErrName", "^"+word+" p/1.", "^"+word, "constraint p/1. ^"+word+" q/1.", "constraint p/1. ^"+word+" @ p <=> true.")
		}
		// Where the grammar has no name.
		programFaults(t, "ErrSyntax", "constraint p ^"+word+".", "constraint p/^"+word, "constraint p/1 ^"+word, "p ^"+word+" <=> true.", "p <=> q. p ^"+word)
	}
	programFaults(t, "ErrName", "p <=> true. ^constraint p/0.", "constraint p/1. p(X) <=> true.\n^constraint q/1.")
	programFaults(t, "ErrSyntax", "constraint^", "constraint ^<=> true.", "constraint ^@ p <=> true.", "constraint^(X) <=> true.")
}

func TestP13_1Decls(t *testing.T) {
	t.Parallel()
	one := func(count int) string { return "constraint " + repeated("p/1", ", ", count) + "." }
	many := func(count int) string { return repeated("constraint p/1.", "\n", count) }
	want := func(count int) string { return repeated("p/1", ", ", count) }
	for _, count := range []int{28, 29, 30} {
		for _, s := range []string{one(count), many(count), one(count-7) + one(7), many(20) + one(count-20), one(count-20) + many(20)} {
			checkParse(t, s, want(count))
			checkParse(t, s+"p <=> true.", want(count)+"\n- @ - \\ p <=> - | - # 0")
		}
	}
	for _, full := range []string{one(30), many(30), one(11) + many(19), many(7) + one(23), one(29) + one(1)} {
		// The token in the place of the name, whatever it is.
		for _, rest := range append([]string{"", "p/1", "p/7.", "p.", "is/1.", "p/1. q(X) <=> X."}, universe...) {
			s, want := cut("ErrSize", full+"constraint ^"+rest)
			checkParse(t, s, want)
			s, want = cut("ErrSize", strings.TrimSuffix(full, ".")+", ^"+rest)
			checkParse(t, s, want)
		}
		programFaults(t, "ErrSyntax", full+"p^/1.", full+"^, p/1.", full+"^P/1.")
		programFaults(t, "ErrName", full+"^is/1.", full+"^true <=> p.")
		programFaults(t, "ErrRange", full+"constraint p/^2147483649.")
	}
	// An error before.
	programFaults(t, "ErrName", one(29)+"constraint ^is/1, p/1.", "constraint ^is/1."+one(40))
	programFaults(t, "ErrSize", one(29)+"constraint p/^7, p/1.", "constraint p/^7."+many(40))
	programFaults(t, "ErrSyntax", one(29)+"constraint p/1^/ p/1.", one(29)+"constraint p ^p/1, p/1.")
	programFaults(t, "ErrSize", one(29)+"constraint p/1, ^p/1.", many(30)+"constraint ^p/1."+many(70), "constraint "+repeated("p/1", ", ", 30)+", ^"+repeated("p/1", ", ", 70)+".")
}

func TestP13_1Rules(t *testing.T) {
	t.Parallel()
	const rule = "p(X) <=> true."
	const shown = "\n- @ - \\ p(V0) <=> - | - # 1"
	for _, count := range []int{1, 2, 39, 40} {
		for _, before := range []string{"", "constraint p/1."} {
			want := "-" + strings.Repeat(shown, count)
			if before != "" {
				want = "p/1" + strings.Repeat(shown, count)
			}
			checkParse(t, before+strings.Repeat(rule, count), want)
			checkParse(t, before+strings.Repeat(rule+"\n", count)+"# all", want)
		}
	}
	full, fewer := strings.Repeat(rule+" ", 40), strings.Repeat(rule+" ", 39)
	for _, rest := range append([]string{"p(X) <=> true.", "p(X) <=> X.", "p", "r @ p <=> true.", "constraint p/1.", "is @ p <=> true.", "p(1,1,1,1,1,1,1) <=> true."}, universe...) {
		programFaults(t, "ErrSize", full+"^"+rest, full+"#\n ^"+rest, "constraint p/1."+full+"^"+rest)
	}
	programFaults(t, "ErrSize", full+"^"+full)
	// Without the separator before it.
	programFaults(t, "ErrSyntax", strings.TrimSuffix(full, ". ")+"^", strings.TrimSuffix(full, ". ")+" ^p <=> true.")
	programFaults(t, "ErrSyntax", fewer+"p(X) <=> ^.", fewer+"^. p <=> true.", fewer+"p^", fewer+"p <=> q ^p <=> true. p <=> true.")
	programFaults(t, "ErrName", fewer+"^is <=> true. p <=> true.", fewer+"^constraint p/1.")
	programFaults(t, "ErrSyntax", full+full+"^:")
	programFaults(t, "ErrRange", full+"p(^2147483649) <=> true.")
}

// An error of package token is the error of the text, whatever is before it.
func TestP13_1Tokens(t *testing.T) {
	long, longVar := strings.Repeat("a", api.MaxName+1), "X"+strings.Repeat("x", api.MaxName)
	for _, before := range []string{
		"", " # all\n", "constraint p/1. ", "p <=> true. ", "p <=> ", "p(", "p(X) <=> X. ", ") ", "constraint is/7. ", "p(1,1,1,1,1,1,1) <=> true. ", strings.Repeat("p <=> true.", 41),
		"p, p, p, p, p ", "true ", strings.Repeat("constraint p/1.", 31),
	} {
		for _, after := range []string{"", " ", ".", " is", ": 2147483649 " + long} {
			checkAllFaults(t, "ErrSyntax", before+"^:"+after, before+"^\xff"+after, before+"^!"+after, before+"^["+after)
			checkAllFaults(t, "ErrName", before+"^"+long+" "+after, before+"^"+longVar+" "+after)
			checkAllFaults(t, "ErrRange", before+"^2147483649"+after, before+"^0099999999999999999999"+after)
			s := before + after
			checkAllFaults(t, "ErrSize", "^"+s+strings.Repeat(" ", api.MaxSource+1-len(s)), "^"+s+strings.Repeat("#", 1<<17), "^"+strings.Repeat("\n", api.MaxSource+1)+s)
		}
	}
}

// checkAllFaults checks an error that all functions return.
func checkAllFaults(t *testing.T, errno string, marked ...string) {
	t.Helper()
	for _, m := range marked {
		s, want := cut(errno, m)
		checkParse(t, s, want)
		checkRule(t, s, want)
		checkGoals(t, s, want)
	}
}

// Texts that are as long as possible.
func TestP13_1Size(t *testing.T) {
	t.Parallel()
	const s = "p(X) <=> true."
	const want = "-\n- @ - \\ p(V0) <=> - | - # 1"
	space := strings.Repeat(" ", api.MaxSource-len(s))
	checkParse(t, s+space, want)
	checkParse(t, space+s, want)
	checkParse(t, "p(X) <=>"+strings.Repeat("\n", len(space))+" true.", want)
	checkParse(t, s+space+" ", "ErrSize 0")
	checkParse(t, " "+space+s, "ErrSize 0")
	checkParse(t, strings.Repeat("#", api.MaxSource), "-")
	checkParse(t, strings.Repeat("#", api.MaxSource+1), "ErrSize 0")
	checkParse(t, "p("+strings.Repeat("0", api.MaxSource-11)+"7) <=> q.", "-\n- @ - \\ p(7) <=> - | q # 0")
	for _, part := range []string{"(", "p(", "1+", "- ", "p ", "p,", "p\\", "X", ".", "p<=>q.", "p,q", "p==>", "constraint ", "a@", "1,"} {
		checkAll(t, strings.Repeat(part, api.MaxSource/len(part)))
		checkAll(t, "p<=>"+strings.Repeat(part, (api.MaxSource-4)/len(part)))
		checkAll(t, "p("+strings.Repeat(part, (api.MaxSource-2)/len(part)))
	}
}

// samples are texts whose tokens are replaced, with spaces between them.
var samples = []string{
	"constraint p / 1 , q / 2 . constraint r / 0 . one @ p ( X ) \\ q ( X , Y ) , r <=> X > Y | W is X - 1 - -2 * 3 . p ( a ) ==> fail .",
	"p @ p , q \\ r <=> int ( X ) , true | ground ( Y ) , ( p + 1 ) = f ( -1 ) .",
	"p ( f ( 1 , X ) , - 2 ) , q <=> X =:= 1 | true .",
	"p ( X , _ ) , true , X =< 2 * ( Y - 1 ) , fail , ground ( f ( X ) ) , int ( -1 )",
}

// Each token after each token, instead of it, and before it.
func TestP13_1EachToken(t *testing.T) {
	for _, s := range samples {
		list := strings.Fields(s)
		for i := range len(list) + 1 {
			t.Run("", func(t *testing.T) {
				t.Parallel()
				before := strings.Join(list[:i], " ")
				checkAll(t, before)
				checkAll(t, before+" ")
				checkAll(t, before+" # all")
				for _, x := range universe {
					checkAll(t, before+" "+x)
					checkAll(t, before+" "+x+" "+strings.Join(list[i:], " "))
					checkAll(t, before+x)
					if i < len(list) {
						checkAll(t, before+" "+x+" "+strings.Join(list[i+1:], " "))
						checkAll(t, strings.Join(slices.Concat(list[:i], list[i+1:]), " "))
					}
				}
			})
		}
	}
}

// faults are rules with an error at the place of ^, which is the same one whatever follows.
var faults = map[string][]string{
	"ErrSyntax": {"p(X) <=> X^.", "p <=> (q)^.", "p ^q <=> true.", "^X <=> true.", "p \\ q ^==> r.", "p(1 - - ^2) <=> true.", "p <=> true | q ^| r.", "p <=> q, ^.", "r @ ^@ p <=> true."},
	"ErrName":   {"^is @ p <=> true.", "p, ^true <=> p.", "p <=> ^constraint.", "p <=> q | X = ^int.", "p(f(^fail)) <=> true.", "r @ ^ground <=> q."},
	"ErrSize": {
		"p, p, p, p, ^p <=> true.", "p, p \\ p, p, ^X <=> true.", "^p(1,1,1,1,1,1,1) <=> true.", "p <=> ^q(f(1,1,1,1,1,1,1)).", "p <=> q | r, ^X = f(1,1,1,1,1,1,1).",
		"p <=> " + repeated("q", ", ", 12) + ", ^.", "p <=> " + repeated("q", ", ", 12) + ", ^q | r.", "p <=> q | " + repeated("r", ", ", 12) + ", ^is.",
	},
}

// Each error, together with each one that comes later in the text.
func TestP13_1Pairs(t *testing.T) {
	t.Parallel()
	for errno, list := range faults {
		for _, first := range list {
			for _, later := range faults {
				for _, second := range later {
					second = strings.Replace(second, "^", "", 1)
					programFaults(t, errno, first+second, "constraint p/1."+first+" "+second, "p <=> true."+first+"\n"+second)
				}
			}
			programFaults(t, errno, first, first+" constraint is/7.", first+"constraint p/1.", first+strings.Repeat("p <=> true.", 41))
			if errno != "ErrName" {
				continue
			}
			programFaults(t, "ErrSize", "constraint p/^7."+strings.Replace(first, "^", "", 1))
			programFaults(t, "ErrName", "constraint p/1, ^is/7."+strings.Replace(first, "^", "", 1))
		}
	}
}

func TestP13_1Random(t *testing.T) {
	for part := range 8 {
		t.Run("", func(t *testing.T) {
			t.Parallel()
			g := newMaker(uint64(part))
			counts := map[string]int{}
			for range 800 {
				s := g.text()
				checkAll(t, s)
				for _, want := range []string{wantParse(s), wantRule(s), wantGoals(s)} {
					kind := "OK"
					if isFault(want) {
						kind, _, _ = strings.Cut(want, " ")
					}
					counts[kind]++
				}
			}
			for kind, least := range map[string]int{"OK": 300, "ErrSyntax": 600, "ErrName": 200, "ErrSize": 20} {
				if counts[kind] < least {
					t.Errorf("only %d results with %s", counts[kind], kind)
				}
			}
		})
	}
}
