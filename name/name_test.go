package name

import (
	"math"
	"strings"
	"testing"

	"constraint/api"
)

const (
	lowerLetters = "abcdefghijklmnopqrstuvwxyz"
	upperLetters = "ABCDEFGHIJKLMNOPQRSTUVWXYZ"
	digits       = "0123456789"
	inner        = lowerLetters + upperLetters + digits + "_"
)

var (
	reservedWords = []string{"constraint", "true", "fail", "is", "int", "ground"}
	operators     = []string{"+", "-", "*", "/", "%"}
)

// oneByte is the string of a byte, which is not the string of the rune with this number.
func oneByte(c int) string { return string([]byte{byte(c)}) }

// stringOf returns a string of a length that begins with first.
func stringOf(first, further string, size int) string {
	return (first + strings.Repeat(further, size))[:size]
}

func contains(list []string, s string) bool {
	for _, x := range list {
		if x == s {
			return true
		}
	}
	return false
}

// shortStrings calls check for all strings of up to two bytes, and for those of up to four bytes of a few kinds.
func shortStrings(check func(s string)) {
	check("")
	for first := range 256 {
		check(oneByte(first))
		for second := range 256 {
			check(oneByte(first) + oneByte(second))
		}
	}
	const some = "aistnruegodVZ_019+-*/% \x00\xc3\xa4"
	var extend func(s string)
	extend = func(s string) {
		check(s)
		if len(s) < 4 {
			for i := range len(some) {
				extend(s + some[i:i+1])
			}
		}
	}
	for i := range len(some) {
		extend(some[i : i+1])
	}
}

// words are strings of a kind each, apart from the short ones.
func words() []string {
	list := []string{"leq2", "isA", "x_1", "Leq", "X1", "_x", "_0", "p-q", "ints", "tru", "constraints"}
	list = append(list, reservedWords...)
	list = append(list, operators...)
	for _, first := range []string{"a", "A", "_", "0", "+", "\x80"} {
		for _, size := range []int{38, 39, 40, 41, 42, 100} {
			list = append(list, stringOf(first, "aZ_9", size))
		}
	}
	return list
}

func TestP2_1Right(t *testing.T) {
	for _, s := range []string{
		"p", "q0", "leq2", "isA", "x_1", "x__", "z", "aZ", "az", "a0", "a9", "a_", "aBC", "v12",
		"isa", "i", "in", "ints", "int2", "int_", "truE", "tru", "failed", "grounds", "constrain", "constraint2", "constraints",
	} {
		if !Right(s) || Variable(s) {
			t.Errorf("%q: Right %v, Variable %v", s, Right(s), Variable(s))
		}
	}
}

func TestP2_1Variable(t *testing.T) {
	for _, s := range []string{
		"_", "__", "_1", "_x", "_X", "X", "A", "Z", "X1", "Leq", "V0", "V012", "V9999999999", "Is", "Int", "TRUE", "Fail", "_is", "_true",
	} {
		if Right(s) || !Variable(s) {
			t.Errorf("%q: Right %v, Variable %v", s, Right(s), Variable(s))
		}
	}
}

func TestP2_1Neither(t *testing.T) {
	for _, s := range append([]string{
		"", "1", "1x", "9", "0X", "p-q", "P-Q", "p q", " p", "p ", "X y", " X", "X\n", "p\n", "\tp", "p(", "p.", "p@q", "p`q", "p[q", "p{q", "p/2",
		"p:q", "p\x00", "\x00p", "X\x00", "p\x80", "p\xff", "X\xff", "\xffX", "\xe4", "\u00e4", "\u00c4", "p\u00e4", "X\u00c4", "p\u0661", "p\uff41", "X\uff3f",
		"\u0430", "\u0410", "p\u0430", "p\u0301",
	}, append(reservedWords, operators...)...) {
		if Right(s) || Variable(s) {
			t.Errorf("%q: Right %v, Variable %v", s, Right(s), Variable(s))
		}
	}
}

// Each byte at each place of a name, so that no byte beside or between the mentioned ones is taken for one of them.
func TestP2_1EachByte(t *testing.T) {
	for c := range 256 {
		s := oneByte(c)
		lower := strings.Contains(lowerLetters, s)
		upper := strings.Contains(upperLetters+"_", s)
		for _, further := range []string{"", "b", "B2_"} {
			if Right(s+further) != lower || Variable(s+further) != upper {
				t.Errorf("%q: Right %v, Variable %v", s+further, Right(s+further), Variable(s+further))
			}
		}
		allowed := strings.Contains(inner, s)
		for size := range 39 {
			further := stringOf("b", "b", 38)
			further = further[:size] + s + further[size:]
			if got := Right("p" + further); got != allowed {
				t.Errorf("Right(%q) = %v", "p"+further, got)
			}
			if got := Variable("X" + further); got != allowed {
				t.Errorf("Variable(%q) = %v", "X"+further, got)
			}
			if got := Variable("_" + further[:size+1]); got != allowed {
				t.Errorf("Variable(%q) = %v", "_"+further[:size+1], got)
			}
		}
	}
}

func TestP2_1Length(t *testing.T) {
	for _, size := range []int{0, 1, 2, 39, 40, 41, 42, 79, 80, 256, 257, 65536 + 40, 1 << 20} {
		inside := size >= 1 && size <= 40
		for _, further := range []string{"a", "Z", "0", "_"} {
			if s := stringOf("a", further, size); Right(s) != inside || Variable(s) {
				t.Errorf("%d bytes a%s..: Right %v, Variable %v", size, further, Right(s), Variable(s))
			}
			for _, first := range []string{"A", "_"} {
				if s := stringOf(first, further, size); Variable(s) != inside || Right(s) {
					t.Errorf("%d bytes %s%s..: Right %v, Variable %v", size, first, further, Right(s), Variable(s))
				}
			}
		}
	}
	if api.MaxName != 40 {
		t.Errorf("MaxName is %d", api.MaxName)
	}
}

// The length counts bytes, and 40 runes of two bytes are too many of them as well as not letters.
func TestP2_1Runes(t *testing.T) {
	for _, size := range []int{1, 19, 20, 21, 40} {
		for _, s := range []string{"p" + strings.Repeat("\u00e4", size), "X" + strings.Repeat("\u0410", size)} {
			if Right(s) || Variable(s) {
				t.Errorf("%q: Right %v, Variable %v", s, Right(s), Variable(s))
			}
		}
	}
}

func TestP2_2Reserved(t *testing.T) {
	for _, s := range reservedWords {
		if !Reserved(s) || Operator(s) {
			t.Errorf("%q: Reserved %v, Operator %v", s, Reserved(s), Operator(s))
		}
		upper, last := strings.ToUpper(s), len(s)-1
		for _, near := range []string{
			upper, upper[:1] + s[1:], s[:last] + upper[last:], s[:last], s[1:], s + "_", s + "s", s + s[last:], "_" + s, s + " ", " " + s, s + "\x00",
		} {
			if Reserved(near) || Operator(near) {
				t.Errorf("%q: Reserved %v, Operator %v", near, Reserved(near), Operator(near))
			}
		}
	}
}

func TestP2_2Operator(t *testing.T) {
	for _, s := range operators {
		if !Operator(s) || Reserved(s) {
			t.Errorf("%q: Operator %v, Reserved %v", s, Operator(s), Reserved(s))
		}
		for _, near := range []string{s + s, s + " ", " " + s, s + "\x00", s + "1", "a" + s} {
			if Operator(near) || Reserved(near) {
				t.Errorf("%q: Operator %v, Reserved %v", near, Operator(near), Reserved(near))
			}
		}
	}
}

// Words and symbols of the language that are neither reserved nor operators.
func TestP2_2Others(t *testing.T) {
	for _, s := range []string{
		"", "p", "X", "_", "0", "mod", "div", "false", "var", "integer", "constraints", "module", "nil", "not",
		"=", "==", "\\=", "<", "=<", ">", ">=", "=:=", "=\\=", "<=>", "==>", "@", ",", ".", "(", ")", "|", "\\", "^", "&", "!", "\u2212", "\u00d7", "\u00f7",
	} {
		if Operator(s) || Reserved(s) {
			t.Errorf("%q: Operator %v, Reserved %v", s, Operator(s), Reserved(s))
		}
	}
}

func TestP2_2ShortStrings(t *testing.T) {
	shortStrings(func(s string) {
		if got := Operator(s); got != contains(operators, s) {
			t.Errorf("Operator(%q) = %v", s, got)
		}
		if got := Reserved(s); got != contains(reservedWords, s) {
			t.Errorf("Reserved(%q) = %v", s, got)
		}
	})
}

func TestP2_3Label(t *testing.T) {
	for _, x := range []struct {
		n    int
		want string
	}{
		{0, "V0"}, {1, "V1"}, {9, "V9"}, {10, "V10"}, {12, "V12"}, {99, "V99"}, {100, "V100"}, {999999, "V999999"}, {1000000, "V1000000"},
		{1048575, "V1048575"}, {1048576, "V1048576"},
		{1048577, ""}, {1048578, ""}, {1 << 31, ""}, {1 << 32, ""}, {1<<32 + 12, ""}, {1 << 62, ""}, {math.MaxInt, ""},
		{-1, ""}, {-12, ""}, {-1048576, ""}, {-1 << 31, ""}, {-1<<32 + 12, ""}, {math.MinInt + 12, ""}, {math.MinInt, ""},
	} {
		if got := Label(x.n); got != x.want {
			t.Errorf("Label(%d) = %q, want %q", x.n, got, x.want)
		}
	}
}

// Counted digit by digit, independently of the package.
func TestP2_3AllLabels(t *testing.T) {
	counter := []byte("V0")
	for n := range api.MaxVar + 1 {
		if got := Label(n); got != string(counter) {
			t.Fatalf("Label(%d) = %q, want %q", n, got, counter)
		}
		at := len(counter) - 1
		for at > 0 && counter[at] == '9' {
			counter[at] = '0'
			at--
		}
		if at > 0 {
			counter[at]++
		} else {
			counter = append([]byte("V1"), counter[1:]...)
		}
	}
	if string(counter) != "V1048577" {
		t.Errorf("counted up to %s", counter)
	}
}

func TestP2_4Number(t *testing.T) {
	for n := range api.MaxVar + 1 {
		if got, ok := Number(Label(n)); got != n || !ok {
			t.Fatalf("Number(%q) = %d, %v", Label(n), got, ok)
		}
	}
	for s, want := range map[string]int{"V0": 0, "V7": 7, "V12": 12, "V1000000": 1000000, "V1048576": 1048576} {
		if got, ok := Number(s); got != want || !ok {
			t.Errorf("Number(%q) = %d, %v", s, got, ok)
		}
	}
}

func TestP2_4NoNumber(t *testing.T) {
	for _, s := range []string{
		"", "V", "X", "v1", "v", "_", "_1", "VV1", "W1", "X1", "1", "12", "1V", "Vx", "VX", "V_", "V1_", "V_1", "V1_0", "V1x", "V1V", "V1V1",
		"V00", "V01", "V012", "V000000012", "V01048576", "V" + strings.Repeat("0", 40) + "1",
		"V-1", "V-0", "V+1", "V+0", "V--1", "V-", "V+", "V 1", " V1", "V1 ", "V1\n", "V1\x00", "\x00V1", "V1.0", "V1e1", "V0x1", "V0b1", "V1,0",
		"V1048577", "V1048578", "V1048580", "V1048586", "V1049000", "V2000000", "V9999999", "V10000000", "V10485760",
		"V2147483648", "V4294967296", "V4294967308", "V9223372036854775807", "V9223372036854775808",
		"V18446744073709551616", "V18446744073709551628", "V99999999999999999999", "V1" + strings.Repeat("0", 5000),
		"V\u0661", "V\uff11", "\uff361", "V\xff", "V1\x80",
	} {
		if n, ok := Number(s); n != 0 || ok {
			t.Errorf("Number(%q) = %d, %v", s, n, ok)
		}
	}
}

// Number returns a number only for its label, and finds each one with up to three digits.
func TestP2_4ShortStrings(t *testing.T) {
	labels := map[string]int{}
	for n := range 1000 {
		labels[Label(n)] = n
	}
	check := func(s string) {
		want, found := labels[s]
		if n, ok := Number(s); n != want || ok != found {
			t.Errorf("Number(%q) = %d, %v", s, n, ok)
		}
	}
	shortStrings(check)
	for first := range 256 {
		for second := range 256 {
			check("V" + oneByte(first) + oneByte(second))
			check("V1" + oneByte(first) + oneByte(second))
		}
	}
}

func TestP2_5OneKind(t *testing.T) {
	check := func(s string) {
		kinds := 0
		for _, is := range []bool{Right(s), Variable(s), Operator(s), Reserved(s)} {
			if is {
				kinds++
			}
		}
		if kinds > 1 {
			t.Errorf("%q: Right %v, Variable %v, Operator %v, Reserved %v", s, Right(s), Variable(s), Operator(s), Reserved(s))
		}
	}
	shortStrings(check)
	for _, s := range words() {
		check(s)
	}
}

func TestP2_5Underscore(t *testing.T) {
	check := func(s string) {
		longer, fits := s+"_", len(s) < api.MaxName
		right := (Right(s) || Reserved(s)) && fits
		variable := Variable(s) && fits
		if s == "" {
			variable = true
		}
		if Right(longer) != right || Variable(longer) != variable || Operator(longer) || Reserved(longer) {
			t.Errorf("%q: Right %v, Variable %v, Operator %v, Reserved %v", longer, Right(longer), Variable(longer), Operator(longer), Reserved(longer))
		}
	}
	shortStrings(check)
	for _, s := range words() {
		check(s)
	}
}

func TestP2_5LabelsAreVariables(t *testing.T) {
	for n := range api.MaxVar + 1 {
		if s := Label(n); !Variable(s) || Right(s) {
			t.Fatalf("%q: Variable %v, Right %v", s, Variable(s), Right(s))
		}
	}
}
