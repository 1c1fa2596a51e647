package token

import (
	"math"
	"strconv"
	"strings"
	"testing"

	"constraint/api"
)

// checkNext checks what Next returns, as it is shown.
func checkNext(t *testing.T, s string, at int, want string) {
	t.Helper()
	if got := shown(Next(s, at)); got != want {
		t.Errorf("Next(%s, %d) is %s instead of %s", short(s), at, got, want)
	}
}

// checkOffsets checks what Next returns for all offsets of a text and those beside them.
func checkOffsets(t *testing.T, s string) {
	t.Helper()
	for at, want := range wantAll(s) {
		x, next, e := Next(s, at)
		if x != want.token || next != want.next || e != want.e {
			t.Errorf("Next(%s, %d) is %s instead of %s", short(s), at, shown(x, next, e), shown(want.token, want.next, want.e))
			return
		}
	}
	checkNext(t, s, -1, "ErrArg 0")
	checkNext(t, s, len(s)+1, "ErrArg 0")
}

func TestP12_1EachOffset(t *testing.T) {
	for s, want := range map[string][]string{
		"  ab12 # c": {
			`name 2 "ab12" 6`, `name 2 "ab12" 6`, `name 2 "ab12" 6`, `name 3 "b12" 6`, `int 4 "12" 6`, `int 5 "2" 6`,
			`end 10 "" 10`, `end 10 "" 10`, `name 9 "c" 10`, `name 9 "c" 10`, `end 10 "" 10`,
		},
		"X_1=:=07a\t": {
			`var 0 "X_1" 3`, `var 1 "_1" 3`, `int 2 "1" 3`, `symbol 3 "=:=" 6`, `ErrSyntax 4`, `symbol 5 "=" 6`, `int 6 "07" 8`,
			`int 7 "7" 8`, `name 8 "a" 9`, `end 10 "" 10`, `end 10 "" 10`,
		},
		"# a:\n<=>": {
			`symbol 5 "<=>" 8`, `name 2 "a" 3`, `name 2 "a" 3`, `ErrSyntax 3`, `symbol 5 "<=>" 8`, `symbol 5 "<=>" 8`, `symbol 6 "=" 7`,
			`symbol 7 ">" 8`, `end 8 "" 8`,
		},
		"2147483649": {
			`ErrRange 0`, `int 1 "147483649" 10`, `int 2 "47483649" 10`, `int 3 "7483649" 10`, `int 4 "483649" 10`, `int 5 "83649" 10`,
			`int 6 "3649" 10`, `int 7 "649" 10`, `int 8 "49" 10`, `int 9 "9" 10`, `end 10 "" 10`,
		},
		// The longest symbol counts, also where a shorter one would leave a longer one behind it.
		"=\\==\\==>": {
			`symbol 0 "=\\=" 3`, `symbol 1 "\\=" 3`, `symbol 2 "==" 4`, `symbol 3 "=\\=" 6`, `symbol 4 "\\=" 6`, `symbol 5 "==>" 8`,
			`symbol 6 "=" 7`, `symbol 7 ">" 8`, `end 8 "" 8`,
		},
		"":     {`end 0 "" 0`},
		"p":    {`name 0 "p" 1`, `end 1 "" 1`},
		"\r":   {`end 1 "" 1`, `end 1 "" 1`},
		"#":    {`end 1 "" 1`, `end 1 "" 1`},
		"#\n":  {`end 2 "" 2`, `end 2 "" 2`, `end 2 "" 2`},
		"#\r7": {`end 3 "" 3`, `int 2 "7" 3`, `int 2 "7" 3`, `end 3 "" 3`},
	} {
		for at := range want {
			checkNext(t, s, at, want[at])
		}
		if len(want) != len(s)+1 {
			t.Errorf("%q has %d bytes, but %d results", s, len(s), len(want))
		}
		checkOffsets(t, s)
	}
}

func TestP12_1OffsetsInvalid(t *testing.T) {
	for _, s := range []string{"", " ", "p", ":", "2147483649", "p(X) <=> 7.", stringOf("a", "a", 41), strings.Repeat(" ", 16384), strings.Repeat("(", 16385)} {
		for _, at := range []int{math.MinInt, math.MinInt + 1, math.MinInt32, -len(s) - 1, -2, -1, len(s) + 1, len(s) + 2, 1 << 31, 1 << 32, math.MaxInt - 1, math.MaxInt} {
			checkNext(t, s, at, "ErrArg 0")
		}
	}
}

func TestP12_1End(t *testing.T) {
	for s, want := range map[string]string{
		" ":             `end 1 "" 1`,
		" \t\r\n \n":    `end 6 "" 6`,
		"#p":            `end 2 "" 2`,
		"  # p # q ":    `end 10 "" 10`,
		"# p\n# q\r\n ": `end 10 "" 10`,
		"##":            `end 2 "" 2`,
		"p":             `name 0 "p" 1`,
		" Xy":           `var 1 "Xy" 3`,
		"\n12":          `int 1 "12" 3`,
		"#\n<=>":        `symbol 2 "<=>" 5`,
		"_":             `var 0 "_" 1`,
		".":             `symbol 0 "." 1`,
	} {
		checkNext(t, s, 0, want)
		checkOffsets(t, s)
	}
}

// Only four bytes are white space, whatever else looks like it.
func TestP12_1Space(t *testing.T) {
	for c := range 256 {
		s := "a" + oneByte(c) + "b"
		if strings.Contains(" \t\r\n", oneByte(c)) {
			checkNext(t, s, 0, `name 0 "a" 1`)
			checkNext(t, s, 1, `name 2 "b" 3`)
		}
		checkOffsets(t, s)
		checkOffsets(t, oneByte(c))
		checkOffsets(t, strings.Repeat(oneByte(c), 3)+"b")
	}
	for _, s := range []string{
		"\v", "\f", "\b", "\x00", "\x1c", "\x1f", "\x7f", "\x85", "\xa0", "\u0085", "\u00a0", "\u1680", "\u2003", "\u2028", "\u3000", "\ufeff", "\ufffd",
	} {
		checkNext(t, s+"p", 0, "ErrSyntax 0")
		checkNext(t, " "+s, 0, "ErrSyntax 1")
		checkNext(t, "p"+s+"q", 0, `name 0 "p" 1`)
		checkNext(t, "p"+s+"q", 1, "ErrSyntax 1")
		checkOffsets(t, " p"+s+s+"q ")
	}
}

func TestP12_1Comments(t *testing.T) {
	for s, want := range map[string]string{
		"#\np":                              `name 2 "p" 3`,
		"# all\n\t# more\n p":               `name 15 "p" 16`,
		"#<=> ( X 7\nY":                     `var 11 "Y" 12`,
		"# a # b # c\n7":                    `int 12 "7" 13`,
		"#:\x00\xff\"!\u00e4\u2028\r\v\n.":  `symbol 14 "." 15`,
		"# 2147483649 \n==":                 `symbol 14 "==" 16`,
		"#\r7\n8":                           `int 4 "8" 5`,
		"#\\\n8":                            `int 3 "8" 4`,
		"\r\n#\r\n:":                        "ErrSyntax 5",
		"#" + stringOf("a", "a", 41) + "\n": `end 43 "" 43`,
		"#\n" + stringOf("a", "a", 41):      "ErrName 2",
		"#\n\n#\n2147483649#":               "ErrRange 5",
	} {
		checkNext(t, s, 0, want)
		checkOffsets(t, s)
	}
	// A comment ends a token as white space does.
	checkNext(t, "ab#c", 0, `name 0 "ab" 2`)
	checkNext(t, "=#\n=", 0, `symbol 0 "=" 1`)
	checkNext(t, "12#3", 0, `int 0 "12" 2`)
}

func TestP12_1FirstByte(t *testing.T) {
	for c := range 256 {
		first := oneByte(c)
		for _, further := range []string{"", "a", "Z", "_", "0", "=", ">", "=>", "=:=", "\n", " ", "#", "\xa4", "\x80\x80"} {
			s := first + further
			x, next, e := Next(s, 0)
			kind, valid := -1, true
			switch {
			case strings.Contains(lowerLetters, first):
				kind = api.KName
			case strings.Contains(upperLetters+"_", first):
				kind = api.KVar
			case strings.Contains(digits, first):
				kind = api.KInt
			case strings.Contains(`@,.()|/\+-*%=<>`, first):
				kind = api.KSymbol
			case !strings.Contains(spaces+"#", first):
				valid = false
			}
			if kind >= 0 && (e != api.OK || x.Kind != kind || x.At != 0 || x.Text != s[:next] || next == 0) {
				t.Errorf("Next(%q, 0) is %s", s, shown(x, next, e))
			}
			if !valid && (e != api.ErrSyntax || next != 0) {
				t.Errorf("Next(%q, 0) is %s", s, shown(x, next, e))
			}
			checkOffsets(t, s)
		}
	}
}

// Each byte at each place of a token, so that no byte beside or between the mentioned ones prolongs it.
func TestP12_1EachByte(t *testing.T) {
	for c := range 256 {
		inner := strings.Contains(wordBytes, oneByte(c))
		digit := strings.Contains(digits, oneByte(c))
		for _, first := range []string{"b", "B", "_", "7"} {
			for size := 1; size < 8; size++ {
				before, after := stringOf(first, "0123456", size), stringOf("8", "90", 8-size)
				s := before + oneByte(c) + after
				whole := inner && first != "7" || digit
				x, next, e := Next(s, 0)
				if whole && (x.Text != s || next != len(s)) || !whole && (x.Text != before || next != len(before)) || e != api.OK {
					t.Errorf("Next(%q, 0) is %s", s, shown(x, next, e))
				}
				checkOffsets(t, s)
			}
		}
	}
}

func TestP12_1Length(t *testing.T) {
	for _, size := range []int{1, 2, 39, 40, 41, 42, 80, 81, 255, 256, 257, 300, 16384} {
		for first, kind := range map[string]string{"a": "name", "z": "name", "A": "var", "Z": "var", "_": "var"} {
			for _, further := range []string{"a", "z", "A", "Z", "0", "9", "_", "aZ_9"} {
				word := stringOf(first, further, size)
				want := "ErrName 0"
				if size <= 40 {
					want = shown(api.Token{Kind: map[string]int{"name": api.KName, "var": api.KVar}[kind], Text: word}, size, api.OK)
				}
				checkNext(t, word, 0, want)
				if size < 300 {
					checkOffsets(t, word)
					checkOffsets(t, " "+word+"(")
					checkOffsets(t, word+"#")
				}
			}
		}
	}
	// The bytes behind the limit do not become a token of their own, but an offset within the word begins a shorter one.
	s := " " + stringOf("x", "1", 41) + " y"
	checkNext(t, s, 0, "ErrName 1")
	checkNext(t, s, 1, "ErrName 1")
	checkNext(t, s, 2, "ErrRange 2")
	checkNext(t, stringOf("x", "y", 41), 1, `name 1 "`+stringOf("y", "y", 40)+`" 41`)
}

func TestP12_1Reserved(t *testing.T) {
	for _, word := range reserved {
		checkNext(t, word, 0, shown(api.Token{Kind: api.KName, Text: word}, len(word), api.OK))
		for _, s := range []string{" " + word + "(", word + "1 ", word + "_", "_" + word, "x" + word, word + word, strings.ToUpper(word), "#\n" + word + "#"} {
			checkOffsets(t, s)
		}
	}
}

func TestP12_1Integers(t *testing.T) {
	for _, s := range []string{
		"0", "7", "9", "00", "007", "0000000000", "2147483647", "2147483648", "02147483648", "00000000000000000000002147483648", "1000000000",
		"1999999999", "2099999999", "999999999", "1147483649", strings.Repeat("0", 16384), strings.Repeat("0", 16383) + "1",
		strings.Repeat("0", 16374) + "2147483648",
	} {
		checkNext(t, s, 0, shown(api.Token{Kind: api.KInt, Text: s}, len(s), api.OK))
	}
	for _, s := range []string{
		"2147483649", "2147483650", "2200000000", "3000000000", "9999999999", "10000000000", "02147483649", "4294967296", "4294967303",
		// Sums that would come back into the range of int, or below zero.
		"9223372036854775807", "9223372036854775808", "18446744073709551615", "18446744073709551616", "18446744073709551617",
		"36893488147419103239", "92233720368547758080", "184467440737095516160", "18446744073709551616000000000000000000000",
		strings.Repeat("0", 16374) + "2147483649", strings.Repeat("9", 16384), strings.Repeat("1", 300), "1" + strings.Repeat("0", 16383),
	} {
		checkNext(t, s, 0, "ErrRange 0")
		if len(s) < 16384 {
			checkNext(t, " "+s, 0, "ErrRange 1")
		}
	}
	// Letters end an integer, but digits do not end a word; a sign is a symbol of its own.
	checkNext(t, "12ab", 0, `int 0 "12" 2`)
	checkNext(t, "12ab", 2, `name 2 "ab" 4`)
	checkNext(t, "12X", 0, `int 0 "12" 2`)
	checkNext(t, "1_000", 0, `int 0 "1" 1`)
	checkNext(t, "1_000", 1, `var 1 "_000" 5`)
	checkNext(t, "0x1F", 0, `int 0 "0" 1`)
	checkNext(t, "1e9", 1, `name 1 "e9" 3`)
	checkNext(t, "-5", 0, `symbol 0 "-" 1`)
	checkNext(t, "1.5", 0, `int 0 "1" 1`)
	checkNext(t, "2147483649a", 0, "ErrRange 0")
	checkNext(t, "2147483648a", 0, `int 0 "2147483648" 10`)
	checkNext(t, "a2147483649", 0, `name 0 "a2147483649" 11`)
	for _, s := range []string{"12ab", "1_000", "0x1F", "1e9", "-5", "1.5", "2147483649a", "2147483648a", "\u0661\u0662", "1\u0662", "\uff11"} {
		checkOffsets(t, s)
	}
}

func TestP12_1Symbols(t *testing.T) {
	for _, symbol := range symbols {
		checkNext(t, symbol, 0, shown(api.Token{Kind: api.KSymbol, Text: symbol}, len(symbol), api.OK))
		for c := range 256 {
			checkOffsets(t, symbol+oneByte(c))
			checkOffsets(t, oneByte(c)+symbol+oneByte(c)+"=")
		}
		for _, second := range symbols {
			checkOffsets(t, symbol+second)
			checkOffsets(t, symbol+" "+second)
			for _, third := range symbols {
				checkOffsets(t, symbol+second+third)
			}
		}
	}
	for s, want := range map[string]string{
		"<=":   `symbol 0 "<" 1`,
		"<=<":  `symbol 0 "<" 1`,
		"<=>>": `symbol 0 "<=>" 3`,
		"=<>":  `symbol 0 "=<" 2`,
		"=<=>": `symbol 0 "=<" 2`,
		"=>":   `symbol 0 "=" 1`,
		"==>":  `symbol 0 "==>" 3`,
		"===>": `symbol 0 "==" 2`,
		"== >": `symbol 0 "==" 2`,
		"=:":   `symbol 0 "=" 1`,
		"=:=:": `symbol 0 "=:=" 3`,
		"=\\":  `symbol 0 "=" 1`,
		"=\\>": `symbol 0 "=" 1`,
		"\\==": `symbol 0 "\\=" 2`,
		">==":  `symbol 0 ">=" 2`,
		"<<":   `symbol 0 "<" 1`,
		"||":   `symbol 0 "|" 1`,
		":=":   "ErrSyntax 0",
		":-":   "ErrSyntax 0",
		"!=":   "ErrSyntax 0",
		"[":    "ErrSyntax 0",
	} {
		checkNext(t, s, 0, want)
		checkOffsets(t, s)
	}
}

func TestP12_1Size(t *testing.T) {
	for _, part := range []string{" ", "#", "p ", "(", "7 ", "<=>", "\n", "# \n"} {
		s := stringOf(part, part, 16384)
		want := wantAll(s)
		for at := 0; at <= len(s); at += 61 {
			checkNext(t, s, at, shown(want[at].token, want[at].next, want[at].e))
		}
		checkNext(t, s, 16384, `end 16384 "" 16384`)
		checkNext(t, s, 16385, "ErrArg 0")
		for _, size := range []int{16385, 16386, 20000, 1 << 16, 1<<16 + 1, 1 << 20} {
			for _, at := range []int{0, 1, 16383, 16384, 16385} {
				checkNext(t, stringOf(part, part, size), at, "ErrSize 0")
			}
			checkNext(t, stringOf(part, part, size), size, "ErrSize 0")
			checkNext(t, stringOf(part, part, size), size+1, "ErrArg 0")
		}
	}
}

// Each error, together with each one that comes later in the table.
func TestP12_1Order(t *testing.T) {
	long, large := stringOf("a", "a", 41), "2147483649"
	over := strings.Repeat(" ", 16385)
	for _, s := range []string{":", long, large, over, over + ":", over + long, over + large, ":" + over, long + over, large + over} {
		checkNext(t, s, -1, "ErrArg 0")
		checkNext(t, s, len(s)+1, "ErrArg 0")
		if len(s) > 16384 {
			checkNext(t, s, 0, "ErrSize 0")
			checkNext(t, s, len(s), "ErrSize 0")
		}
	}
	for first, e := range map[string]string{":": "ErrSyntax", long: "ErrName", large: "ErrRange", stringOf("_", "Z", 41): "ErrName", "\xff": "ErrSyntax"} {
		for _, second := range []string{":", long, large} {
			// The token that begins first counts, whatever error comes later in the text.
			checkNext(t, first+" "+second, 0, e+" 0")
			checkNext(t, "\n "+first+"#"+second, 1, e+" 2")
			checkNext(t, "#"+second+"\n"+first, 0, e+" "+strconv.Itoa(len(second)+2))
			checkNext(t, second+" "+first+" ", len(second), e+" "+strconv.Itoa(len(second)+1))
		}
		// A valid token is returned, whatever follows it.
		checkNext(t, "p "+first, 0, `name 0 "p" 1`)
		checkNext(t, "p "+first, 1, e+" 2")
	}
}

func TestP12_1All(t *testing.T) {
	for most, parts := range alphabets() {
		texts(parts, min(most, 4), func(s string) { checkOffsets(t, s) })
	}
}

func TestP12_1Random(t *testing.T) {
	g := newMaker(1)
	counts := map[api.Errno]int{}
	for i := range 6000 {
		s := g.text(1 + i%12)
		checkOffsets(t, s)
		checkOffsets(t, g.any(20))
		checkOffsets(t, g.bytes(`=<>\:|-@# a_0`+"\n", 20))
		for _, w := range wantAll(s) {
			counts[w.e]++
		}
	}
	for _, e := range []api.Errno{api.OK, api.ErrSyntax, api.ErrName, api.ErrRange} {
		if counts[e] < 1000 {
			t.Errorf("only %d results with %d", counts[e], e)
		}
	}
}

// What stands before an offset has no influence.
func TestP12_1Before(t *testing.T) {
	g := newMaker(2)
	for range 3000 {
		s := g.text(6)
		at := g.random.IntN(len(s) + 1)
		x, next, e := Next(s[at:], 0)
		if e == api.OK {
			x.At += at
		}
		want := shown(x, next+at, e)
		for _, before := range []string{s[:at], strings.Repeat("#", at), strings.Repeat(":", at), strings.Repeat("9", at), strings.Repeat("=", at)} {
			checkNext(t, before+s[at:], at, want)
		}
	}
}

// The same call has the same result, whatever was called between.
func TestP12_1Again(t *testing.T) {
	s := "p(X), 7 # all"
	want := `var 2 "X" 3`
	for _, other := range []string{":", stringOf("a", "a", 41), "2147483649", strings.Repeat(" ", 16385), "", "q"} {
		Next(other, 0)
		Next(other, -1)
		Scan(other)
		Symbol(other, 0)
		checkNext(t, s, 2, want)
	}
}
