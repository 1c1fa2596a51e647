package token

import (
	"math"
	"strings"
	"testing"
)

func checkSymbol(t *testing.T, s string, at int, want string) {
	t.Helper()
	if got := Symbol(s, at); got != want {
		t.Errorf("Symbol(%s, %d) is %q instead of %q", short(s), at, got, want)
	}
}

// checkSymbols checks the symbols at all offsets of a text and beside them.
func checkSymbols(t *testing.T, s string) {
	t.Helper()
	for at := range len(s) + 1 {
		checkSymbol(t, s, at, wantSymbol(s[at:]))
	}
	for _, at := range []int{math.MinInt, -len(s) - 1, -len(s), -2, -1, len(s) + 1, len(s) + 2, len(s) + 3, math.MaxInt} {
		if at < 0 || at > len(s) {
			checkSymbol(t, s, at, "")
		}
	}
}

func TestP12_4Table(t *testing.T) {
	for s, want := range map[string][]string{
		"":         {""},
		"a=:=b":    {"", "=:=", "", "=", "", ""},
		"a=:b":     {"", "=", "", "", ""},
		"=\\==":    {"=\\=", "\\=", "==", "=", ""},
		"<=>=<":    {"<=>", "=", ">=", "=<", "<", ""},
		"===>":     {"==", "==>", "=", ">", ""},
		"<=":       {"<", "=", ""},
		"=\\":      {"=", "\\", ""},
		"@,.()|/":  {"@", ",", ".", "(", ")", "|", "/", ""},
		"+-*%":     {"+", "-", "*", "%", ""},
		" = ":      {"", "=", "", ""},
		"#=\n=":    {"", "=", "", "=", ""},
		"aX_7":     {"", "", "", "", ""},
		"\x00\xff": {"", "", ""},
		":=:":      {"", "=", "", ""},
		"=>=\\=":   {"=", ">=", "=\\=", "\\=", "=", ""},
	} {
		for at := range want {
			checkSymbol(t, s, at, want[at])
		}
		checkSymbols(t, s)
	}
}

func TestP12_4Each(t *testing.T) {
	for _, symbol := range symbols {
		checkSymbol(t, symbol, 0, symbol)
		checkSymbol(t, symbol, len(symbol), "")
		for c := range 256 {
			checkSymbols(t, symbol+oneByte(c))
			checkSymbols(t, oneByte(c)+symbol+"=")
		}
		for _, second := range symbols {
			for _, third := range symbols {
				checkSymbols(t, symbol+second+third)
			}
		}
	}
	for c := range 256 {
		want := ""
		if strings.Contains(`@,.()|/\+-*%=<>`, oneByte(c)) {
			want = oneByte(c)
		}
		checkSymbol(t, oneByte(c), 0, want)
		checkSymbol(t, oneByte(c)+" ", 0, want)
	}
}

func TestP12_4Offsets(t *testing.T) {
	for _, s := range []string{"", "=", "==>", "p(X)", "<=><=>"} {
		for _, at := range []int{math.MinInt, math.MinInt + 1, -1 << 32, -4, -3, -2, -1, len(s), len(s) + 1, len(s) + 2, len(s) + 3, 1 << 32, math.MaxInt - 2, math.MaxInt} {
			checkSymbol(t, s, at, "")
		}
	}
}

// A text may be longer than one of a program.
func TestP12_4Large(t *testing.T) {
	for _, size := range []int{16383, 16384, 16385, 16386, 1 << 20} {
		s := strings.Repeat("=", size)
		checkSymbol(t, s, 0, "==")
		checkSymbol(t, s, size-2, "==")
		checkSymbol(t, s, size-1, "=")
		checkSymbol(t, s, size, "")
		checkSymbol(t, s, size+1, "")
		checkSymbol(t, s+">", size-2, "==>")
		checkSymbol(t, s+">", size-1, "=")
		checkSymbol(t, s+">", size, ">")
		checkSymbol(t, strings.Repeat("a", size)+"<=>", size, "<=>")
		checkSymbol(t, strings.Repeat(":", size), size-1, "")
	}
	checkSymbols(t, strings.Repeat("=<>\\:", 4000))
}

func TestP12_4All(t *testing.T) {
	for most, parts := range alphabets() {
		texts(parts, min(most, 5), func(s string) {
			if len(s) < 40 {
				checkSymbols(t, s)
			}
		})
	}
}

func TestP12_4Random(t *testing.T) {
	g := newMaker(5)
	for i := range 5000 {
		checkSymbols(t, g.text(1+i%10))
		checkSymbols(t, g.any(20))
		checkSymbols(t, g.bytes(`=<>\:`, 30))
	}
}
