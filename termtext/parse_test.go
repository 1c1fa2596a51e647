package termtext

import (
	"strings"
	"testing"

	"constraint/api"
)

func checkParse(t *testing.T, s string, want api.Term, wantErr api.Errno) {
	t.Helper()
	if got, e := Parse(s); e != wantErr || written(got) != written(want) {
		t.Errorf("Parse(%.300q) = %.300s, %d, not %.300s, %d", s, written(got), e, written(want), wantErr)
	}
}

func checkParseAtom(t *testing.T, s string, want api.Atom, wantErr api.Errno) {
	t.Helper()
	if got, e := ParseAtom(s); e != wantErr || written(got) != written(want) {
		t.Errorf("ParseAtom(%.300q) = %.300s, %d, not %.300s, %d", s, written(got), e, written(want), wantErr)
	}
}

// checkBoth compares both functions with what is expected of them.
func checkBoth(t *testing.T, s string) {
	t.Helper()
	x, e := wantParse(s)
	checkParse(t, s, x, e)
	a, e := wantParseAtom(s)
	checkParseAtom(t, s, a, e)
}

func TestP5_2Table(t *testing.T) {
	v, n, f := variable, number, functor
	for _, x := range []struct {
		text string
		want api.Term
	}{
		{"0", n(0)}, {"7", n(7)}, {"10", n(10)}, {"-5", n(-5)}, {"-10", n(-10)}, {"2147483648", n(api.MaxInt)}, {"-2147483648", n(-api.MaxInt)},
		{"V0", v(0)}, {"V10", v(10)}, {"V1048576", v(api.MaxVar)}, {"a", f("a")}, {"aB_1", f("aB_1")}, {"v0", f("v0")}, {"isA", f("isA")}, {"true_", f("true_")},
		{strings.Repeat("z", api.MaxName), f(strings.Repeat("z", api.MaxName))},
		{"((V3))", v(3)}, {"(-1)", n(-1)}, {"((a))", f("a")}, {"(f)", f("f")}, {"((f(((1)))))", f("f", n(1))},
		{"f(1)", f("f", n(1))}, {"f(1,2,3,4,5,6)", f("f", n(1), n(2), n(3), n(4), n(5), n(6))}, {"f(-1,-2)", f("f", n(-1), n(-2))}, {"f(a,g(b),V1)", f("f", f("a"), f("g", f("b")), v(1))},
		{"f(V1,2)*3", f("*", f("f", v(1), n(2)), n(3))}, {"f(1-2,(3))", f("f", f("-", n(1), n(2)), n(3))},
		{"1+2", f("+", n(1), n(2))}, {"1-2", f("-", n(1), n(2))}, {"1*2", f("*", n(1), n(2))}, {"1/2", f("/", n(1), n(2))}, {"1%2", f("%", n(1), n(2))},
		{"2-1", f("-", n(2), n(1))}, {"2--1", f("-", n(2), n(-1))}, {"2 -1", f("-", n(2), n(1))}, {"2 - -1", f("-", n(2), n(-1))}, {"2- 1", f("-", n(2), n(1))}, {"2-0", f("-", n(2), n(0))}, {"2 -0", f("-", n(2), n(0))},
		{"-1-1", f("-", n(-1), n(1))}, {"-1*-2", f("*", n(-1), n(-2))}, {"1+-2", f("+", n(1), n(-2))}, {"a-1", f("-", f("a"), n(1))}, {"V0-1", f("-", v(0), n(1))}, {"(1)-1", f("-", n(1), n(1))}, {"f(1)-1", f("-", f("f", n(1)), n(1))},
		{"7-2-1", f("-", f("-", n(7), n(2)), n(1))}, {"7-(2-1)", f("-", n(7), f("-", n(2), n(1)))}, {"8/4%2*1", f("*", f("%", f("/", n(8), n(4)), n(2)), n(1))},
		{"1+2*3-4", f("-", f("+", n(1), f("*", n(2), n(3))), n(4))}, {"(1+2)*(3-4)", f("*", f("+", n(1), n(2)), f("-", n(3), n(4)))}, {"1*2+3/4", f("+", f("*", n(1), n(2)), f("/", n(3), n(4)))},
		{"  1  ", n(1)}, {" ( 1 ) ", n(1)}, {"f (1)", f("f", n(1))}, {" f  (  V0  ,  a  )  ", f("f", v(0), f("a"))}, {" 1  +  2 ", f("+", n(1), n(2))}, {" ( 1 + a ) * -3 ", f("*", f("+", n(1), f("a")), n(-3))}, {"( ( f ( 1 ) ) )", f("f", n(1))},
	} {
		checkParse(t, x.text, x.want, api.OK)
		if got, e := wantParse(x.text); e != api.OK || written(got) != written(x.want) {
			t.Errorf("%q is expected to be %s, %d", x.text, written(got), e)
		}
	}
}

// failures are texts of neither terms nor constraints, in the order of what is wrong with them.
var failures = map[api.Errno][]string{
	api.ErrSyntax: {
		"", " ", "    ",
		"1 2", "a b", "V0 V1", "1 a", "a 1", "(1) 2", "(1) (2)", "f(1) f(2)", "f(1)(2)", "1(2)", "V0(1)", "V0 (1)", "1a", "12V0", "0a", "1_", "1X", "0 X", "a X", "V0 X", "a 2147483649", "1 is", "(1) is",
		"01", "00", "007", "-0", "-00", "-01", "-007", "1-01", "1--0", "0 0", "02147483649", "099999999999999999999", "-099999999999999999999",
		"-", "--", "- 1", "--1", "- -1", "-a", "-V0", "-X", "-is", "-(1)", "- X", "- 2147483649", "1 - - 2", "1 - - X", "1 -- 2", "1---2", "-f(1)",
		"+", "+1", "*", "*1", "/1", "%1", "1+", "1*", "1 / ", "1 % ", "1 + + 2", "1 + * 2", "1 * / 2", "1 + )", "1 + ,", "(1 + )", "(* 1)", "1 // 2",
		"(", "((", "()", "( )", "f()", "f( )", "f(,)", "f(1,)", "f(,1)", "f(1,,2)", "f(1", "f(1,", "f(1,2", "f(", "f (", "f((1)", "(1", "((1)", "f(1 2)", "f(a b)", "f(1;2)", "f[1]", "(1,2)", "(1,", "1,2", ",", "f(1),", "a,b", "f(1,(2,3))",
		")", "1)", "(1))", "f(1))", "a)", "1 ) 2147483649", "1 ) X", "(1)) X",
		"1.", "a.", "f(1).", "1 = 2", "a = b", "1 < 2", "a | b", "\"a\"", "'a'", "1^2", "a@b", "#", "1 # a", "a:b", "{1}", "1.5", "1e5 ", "0x1",
		"\t1", "1\t", "1\n", "\n1", "1 \r", "f(\t1)", "f(1\n)", "a\x00", "1\x00", "\x00", "f(1\x00)", "1 + \x00", "\x001", "é", "aé", "a\xc3", "\xff", "1\xff", "\u00a01", "1\u2003", "１", "Ａ", "−1", "1\u00d72",
	},
	api.ErrName: {
		"X", "_", "_1", "V", "Va", "V01", "V00", "V-1", "V1048577", "V99999999999999999999", "VV", "V0_", "V0a", "V1V", "X1", "A", "Z9", "f(X)", "f(1, X)", "(X)", "1 + X", "1 - X", "1 -X", "1*X", "((_))", "f(g(X", "X(", "X(1)", "X)", "X 2147483649", "X $", "X$",
		"is", "int", "true", "fail", "ground", "constraint", "is(1)", "true(", "int(V0)", "f(is)", "1 + true", "1 * ground(a)", "fail 1", "is,", "constraint p",
	},
	api.ErrRange: {
		"2147483649", "-2147483649", "2147483649 )", "2147483649a", "2147483649X", "2147483649 X", "4294967296", "4294967297", "9223372036854775807", "9223372036854775808", "-9223372036854775808", "-9223372036854775809", "18446744073709551616", "18446744073709551617", "-18446744073709551617",
		"f(2147483649", "f(1, -2147483649)", "(2147483649", "1 + 2147483649", "1 - 2147483649", "1 --2147483649", "1-2147483649", "1 * 99999999999999999999999999", "2147483649 01", "2147483649 -0", "2147483649$", "21474836480", "2147483649.",
	},
}

func TestP5_2Failures(t *testing.T) {
	for want, texts := range failures {
		for _, s := range texts {
			checkParse(t, s, api.Term{}, want)
			checkParse(t, " "+s, api.Term{}, want)
			if _, e := wantParse(s); e != want {
				t.Errorf("%q is expected to have the error %d", s, e)
			}
		}
	}
}

// The first error counts, whatever follows it.
func TestP5_2First(t *testing.T) {
	for want, texts := range failures {
		for _, s := range texts {
			for _, later := range []string{" X", " 2147483649", " $", ")", " is", " f(1,2,3,4,5,6,7)"} {
				// What ended too early may have another error only now.
				if _, e := wantParse(s + later); e == want {
					checkParse(t, s+later, api.Term{}, want)
				}
			}
		}
	}
	for _, x := range []struct {
		text string
		want api.Errno
	}{
		{"f(X, 2147483649, $", api.ErrName}, {"f(2147483649, X, $", api.ErrRange}, {"f($, X, 2147483649", api.ErrSyntax},
		{"X 01", api.ErrName}, {"01 X", api.ErrSyntax}, {"2147483649 + X", api.ErrRange}, {"X + 2147483649", api.ErrName},
		// a term that is too large
		{"f(1,2,3,4,5,6,7) + X", api.ErrName}, {"f(1,2,3,4,5,6,7) + 2147483649", api.ErrRange}, {"f(1,2,3,4,5,6,7) 1", api.ErrSyntax}, {"f(1,2,3,4,5,6,7", api.ErrSyntax},
		{"f(1,2,3,4,5,6,7,X)", api.ErrName}, {"f(1,2,3,4,5,6,7)", api.ErrSize}, {"f(1,2,3,4,5,6,X)", api.ErrName},
		{strings.Repeat("1+", 300) + "X", api.ErrName}, {strings.Repeat("1+", 300) + "1)", api.ErrSyntax}, {strings.Repeat("1+", 300) + "1", api.ErrSize},
		// a text that is too long
		{strings.Repeat("X", api.MaxSource+1), api.ErrSize}, {strings.Repeat("$", api.MaxSource+1), api.ErrSize}, {strings.Repeat("9", api.MaxSource+1), api.ErrSize},
		{strings.Repeat("X", api.MaxSource), api.ErrName}, {strings.Repeat("$", api.MaxSource), api.ErrSyntax}, {strings.Repeat("9", api.MaxSource), api.ErrRange}, {"-" + strings.Repeat("9", api.MaxSource-1), api.ErrRange}, {strings.Repeat("0", api.MaxSource), api.ErrSyntax},
		{strings.Repeat("a", api.MaxSource), api.ErrName}, {strings.Repeat("z", api.MaxName+1), api.ErrName},
	} {
		checkParse(t, x.text, api.Term{}, x.want)
	}
}

func TestP5_2Sizes(t *testing.T) {
	for _, x := range []api.Term{
		wide(api.MaxNodes), wide(api.MaxNodes + 1), high(api.MaxDepth), high(api.MaxDepth + 1),
		chain("+", api.MaxDepth, true), chain("+", api.MaxDepth+1, true), chain("*", api.MaxDepth, false), chain("*", api.MaxDepth+1, false),
		functor("f", wide(99), wide(100)), functor("+", wide(100), wide(100)), functor("f", make([]api.Term, api.MaxArity+1)...),
		functor("g", functor("f", make([]api.Term, api.MaxArity+1)...)),
	} {
		s := wantText(x)
		if size(x) > api.MaxNodes || depth(x) > api.MaxDepth || arity(x) > api.MaxArity {
			checkParse(t, s, api.Term{}, api.ErrSize)
			checkParse(t, "("+s+")", api.Term{}, api.ErrSize)
		} else {
			checkParse(t, s, x, api.OK)
			checkParse(t, "("+s+")", x, api.OK)
		}
	}
}

func TestP5_2LongTexts(t *testing.T) {
	spaces := strings.Repeat(" ", api.MaxSource-1)
	checkParse(t, "1"+spaces, number(1), api.OK)
	checkParse(t, spaces+"1", number(1), api.OK)
	checkParse(t, spaces+" ", api.Term{}, api.ErrSyntax)
	checkParse(t, " 1"+spaces, api.Term{}, api.ErrSize)
	checkParse(t, spaces+"  ", api.Term{}, api.ErrSize)
	checkParseAtom(t, "p"+spaces, atom("p"), api.OK)
	checkParseAtom(t, spaces+" ", api.Atom{}, api.ErrSyntax)
	checkParseAtom(t, " p"+spaces, api.Atom{}, api.ErrSize)
	checkParseAtom(t, "V"+spaces+" ", api.Atom{}, api.ErrSize)
	half := api.MaxSource/2 - 1
	open, shut := strings.Repeat("(", half), strings.Repeat(")", half)
	checkParse(t, open+"V1"+shut, variable(1), api.OK)
	checkParse(t, open+"V1)"+shut, api.Term{}, api.ErrSize)
	checkParse(t, open+"1"+shut+")", api.Term{}, api.ErrSyntax)
	checkParse(t, open+"("+shut, api.Term{}, api.ErrSyntax)
	checkParse(t, open+"(X"+shut, api.Term{}, api.ErrName)
	checkParse(t, strings.Repeat("(", api.MaxSource), api.Term{}, api.ErrSyntax)
	checkParse(t, strings.Repeat("f(", api.MaxSource/2), api.Term{}, api.ErrSyntax)
	third := (api.MaxSource - 1) / 3
	checkParse(t, strings.Repeat("f(", third)+"1"+strings.Repeat(")", third), api.Term{}, api.ErrSize)
	checkParse(t, strings.Repeat("(1+", (api.MaxSource-1)/4)+"1"+strings.Repeat(")", (api.MaxSource-1)/4), api.Term{}, api.ErrSize)
	checkParse(t, strings.Repeat("1+", half)+"1", api.Term{}, api.ErrSize)
	checkParse(t, "f("+strings.Repeat("1,", half-1)+"1)", api.Term{}, api.ErrSize)
	checkParseAtom(t, "p("+open[:half-1]+"1"+shut[:half-1]+")", atom("p", number(1)), api.OK)
	checkParseAtom(t, "p("+strings.Repeat("1,", half-1)+"1)", api.Atom{}, api.ErrSize)
}

// Each byte in each place of a text, instead of what is there, and beside it.
func TestP5_2Bytes(t *testing.T) {
	for _, s := range []string{"1", "V0", "a", " ", "-1", "f(V0, -1)", "p(1 + 20, a * (V10 - -2))", "f(a,(b))", "isA(1)"} {
		for at := range len(s) + 1 {
			for c := range 256 {
				checkBoth(t, s[:at]+string([]byte{byte(c)})+s[at:])
				checkBoth(t, s[:at]+string([]byte{byte(c)})+s[min(at+1, len(s)):])
			}
			checkBoth(t, s[:at])
			checkBoth(t, s[at:])
		}
	}
}

// All texts that consist of a few parts.
func TestP5_2Parts(t *testing.T) {
	for _, parts := range [][]string{
		{"1", "0", "-", " ", "X", "("},
		{"f", "(", ")", ",", "1", "+", "*"},
		{"V0", "-1", "a", "-", "/", "(", ")", " "},
		{"a", "V", "1", " ", "(", ")", "2147483649"},
		{"is", "i", "s", " ", "f(", "\x00", "01"},
	} {
		checkParts(t, "", parts, 5)
	}
}

func checkParts(t *testing.T, s string, parts []string, more int) {
	checkBoth(t, s)
	if more == 0 {
		return
	}
	for _, part := range parts {
		checkParts(t, s+part, parts, more-1)
	}
}

// Texts of random parts, most of which have an error somewhere, and texts of terms in which something is changed.
func TestP5_2Random(t *testing.T) {
	g := newMaker(2)
	parts := []string{"1", "23", "0", "-", "-4", "+", "*", "/", "%", "(", ")", ",", "f(", "a", "V7", " ", "  ", "X", "is", "01", "2147483648", "2147483649", "$", "\x00"}
	for range 100000 {
		var s strings.Builder
		for range 1 + g.random.IntN(16) {
			s.WriteString(pick(g, parts[:len(parts)-g.random.IntN(8)]...))
		}
		checkBoth(t, s.String())
	}
	for range 20000 {
		s := wantText(g.term(1 + g.random.IntN(4)))
		for range 1 + g.random.IntN(3) {
			at := g.random.IntN(len(s) + 1)
			s = s[:at] + pick(g, parts...) + s[min(at+g.random.IntN(3), len(s)):]
		}
		checkBoth(t, s)
	}
}

func TestP5_2Atoms(t *testing.T) {
	v, n := variable, number
	for _, x := range []struct {
		text string
		want api.Atom
	}{
		{"p", atom("p")}, {" p ", atom("p")}, {"leq( V0 , a )", atom("leq", v(0), functor("a"))}, {" p ( 1 , a ) ", atom("p", n(1), functor("a"))}, {"p(-1)", atom("p", n(-1))},
		{"p(1+2*3,(a),f(b))", atom("p", functor("+", n(1), functor("*", n(2), n(3))), functor("a"), functor("f", functor("b")))}, {"p((1 + 2) * -3)", atom("p", functor("*", functor("+", n(1), n(2)), n(-3)))},
		{"p(1,2,3,4,5,6)", atom("p", n(1), n(2), n(3), n(4), n(5), n(6))}, {"v0", atom("v0")}, {"isA", atom("isA")}, {strings.Repeat("z", api.MaxName), atom(strings.Repeat("z", api.MaxName))},
		{"p(" + wantText(high(api.MaxDepth)) + ")", atom("p", high(api.MaxDepth))}, {"p(" + wantText(wide(api.MaxNodes)) + ")", atom("p", wide(api.MaxNodes))},
		{"p(" + wantText(wide(100)) + "," + wantText(wide(100)) + ")", atom("p", wide(100), wide(100))},
	} {
		checkParseAtom(t, x.text, x.want, api.OK)
		if got, e := wantParseAtom(x.text); e != api.OK || written(got) != written(x.want) {
			t.Errorf("%q is expected to be %s, %d", x.text, written(got), e)
		}
	}
}

func TestP5_2AtomFailures(t *testing.T) {
	for want, texts := range map[api.Errno][]string{
		api.ErrSyntax: {
			"", " ", "V0", "X", "_", "_a", "1", "-1", "0", "2147483649", "-2147483649", "(p)", "( p )", "(", ")", ",", "+", "-", "-p", "V01", "P(1)", "V0(1)", "$", "\x00", "\tp", "\np", "é",
			"p + 1", "p(1) + 1", "p * 2", "p - X", "p(1) % a", "p q", "p(1) q", "p(1) X", "p(1)(2)", "p 1", "p)", "p(1))", "p()", "p( )", "p(1", "p(", "p(1,", "p(1,)", "p(,1)", "p(1 2)", "p,q", "p.", "p\t", "p\x00", "p(1)\x00", "p(01)", "p(-0)", "p(- 1)", "p 2147483649", "p is", "p(1) is",
		},
		api.ErrName:  {"true", "fail", "is", "int", "ground", "constraint", "int(V0)", "true(1)", "is $", "is)", " is", "p(X)", "p(is)", "p(1 + _)", "p(V01)", "p(X, 2147483649", "p(X", strings.Repeat("z", api.MaxName+1)},
		api.ErrRange: {"p(2147483649)", "p(-2147483649)", "p(2147483649", "p(2147483649, X)", "p(1 + 2147483649 2)"},
		api.ErrSize: {
			"p(1,2,3,4,5,6,7)", "p(f(1,2,3,4,5,6,7))", "p(" + wantText(high(api.MaxDepth+1)) + ")", "p(" + wantText(wide(api.MaxNodes+1)) + ")", "p(" + wantText(wide(api.MaxNodes)) + ", 1)",
			"p(" + wantText(wide(100)) + "," + wantText(wide(101)) + ")", strings.Repeat("V", api.MaxSource+1), strings.Repeat(" ", api.MaxSource+1),
		},
	} {
		for _, s := range texts {
			checkParseAtom(t, s, api.Atom{}, want)
			if _, e := wantParseAtom(s); e != want {
				t.Errorf("%q is expected to have the error %d", s, e)
			}
		}
	}
}

// What is read belongs to the caller: appending to a list, or changing it, changes nothing else.
func TestP5_2Memory(t *testing.T) {
	const s = "p(f(1, 2), f(3, 4), 5 + 6)"
	a, _ := ParseAtom(s)
	want := written(a)
	_ = append(a.Args, number(99))
	for _, x := range a.Args {
		_ = append(x.Args, number(99))
	}
	if written(a) != want {
		t.Errorf("%s was changed to %s", want, written(a))
	}
	a.Args[0].Args[0], a.Args[2].Args[1] = number(7), number(8)
	if got := TextAtom(a); got != "p(f(7, 2), f(3, 4), 5 + 8)" {
		t.Errorf("%q", got)
	}
	if b, _ := ParseAtom(s); written(b) != want {
		t.Errorf("%s was read again as %s", want, written(b))
	}
}
