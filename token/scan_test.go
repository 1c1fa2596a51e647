package token

import (
	"fmt"
	"regexp"
	"slices"
	"strings"
	"testing"

	"constraint/api"
)

// between is what may stand between tokens. (A comment that no line feed ends may stand before the end only.)
var between = regexp.MustCompile(`^([ \t\r\n]|#[^\n]*(\n|$))*$`)

// joined returns the texts of tokens, joined by single spaces.
func joined(list []api.Token) string {
	words := make([]string, 0, len(list))
	for _, x := range list {
		words = append(words, x.Text)
	}
	return strings.Join(words, " ")
}

// scanned writes what Scan returns.
func scanned(list []api.Token, at int, e api.Errno) string {
	if len(list) > 60 {
		list = list[:60]
	}
	return fmt.Sprintf("%+v, %d, %s", list, at, errors[e])
}

// checkScan checks what Scan returns, against the tokens of all offsets and against calls of Next.
func checkScan(t *testing.T, s string) {
	t.Helper()
	list, at, e := Scan(s)
	wantList, wantAt, wantE := wantScan(s)
	if !slices.Equal(list, wantList) || at != wantAt || e != wantE {
		t.Errorf("Scan(%s) is %s instead of %s", short(s), scanned(list, at, e), scanned(wantList, wantAt, wantE))
		return
	}
	offset := 0
	for i := 0; ; i++ {
		x, next, err := Next(s, offset)
		if err != api.OK {
			if len(list) != 0 || at != next || e != err {
				t.Errorf("Scan(%s) is %s, but token %d is %s", short(s), scanned(list, at, e), i, shown(x, next, err))
			}
			return
		}
		if e == api.OK && (i >= len(list) || list[i] != x) {
			t.Errorf("Scan(%s) is %s, but token %d is %s", short(s), scanned(list, at, e), i, shown(x, next, err))
			return
		}
		if x.Kind == api.KEnd {
			break
		}
		offset = next
	}
	checkPlaces(t, s, list)
}

// checkPlaces checks that tokens stand at their offsets, which ascend, with nothing but white space and comments between them.
func checkPlaces(t *testing.T, s string, list []api.Token) {
	t.Helper()
	end := 0
	for i, x := range list {
		if x.At < end || !strings.HasPrefix(s[x.At:], x.Text) || !between.MatchString(s[end:x.At]) {
			t.Errorf("%s: after offset %d stands %+v", short(s), end, x)
			return
		}
		if last := i == len(list)-1; last != (x.Kind == api.KEnd) || last != (x.Text == "") {
			t.Errorf("%s: token %d of %d is %+v", short(s), i, len(list), x)
		}
		end = x.At + len(x.Text)
	}
	if end != len(s) {
		t.Errorf("%s: the tokens end at %d", short(s), end)
	}
}

func TestP12_2Table(t *testing.T) {
	for s, want := range map[string]string{
		"":                    "0:end",
		" # all":              "6:end",
		"p(X) <=> 7.":         "0:name p 1:symbol ( 2:var X 3:symbol ) 5:symbol <=> 9:int 7 10:symbol . 11:end",
		"X==>Y":               "0:var X 1:symbol ==> 4:var Y 5:end",
		"X== >Y":              "0:var X 1:symbol == 4:symbol > 5:var Y 6:end",
		"12ab":                "0:int 12 2:name ab 4:end",
		"2147483648":          "0:int 2147483648 10:end",
		"a@p\\q|true.":        "0:name a 1:symbol @ 2:name p 3:symbol \\ 4:name q 5:symbol | 6:name true 10:symbol . 11:end",
		"constraint leq/2.":   "0:name constraint 11:name leq 14:symbol / 15:int 2 16:symbol . 17:end",
		"N=<M,L is M-N%2*_+1": "0:var N 1:symbol =< 3:var M 4:symbol , 5:var L 7:name is 10:var M 11:symbol - 12:var N 13:symbol % 14:int 2 15:symbol * 16:var _ 17:symbol + 18:int 1 19:end",
		"a=\\=b\\=c=:=d>=e=f": "0:name a 1:symbol =\\= 4:name b 5:symbol \\= 7:name c 8:symbol =:= 11:name d 12:symbol >= 14:name e 15:symbol = 16:name f 17:end",
		"\r\n\tp # q\n\n00r#": "3:name p 10:int 00 12:name r 14:end",
		"ground(int)<fail":    "0:name ground 6:symbol ( 7:name int 10:symbol ) 11:symbol < 12:name fail 16:end",
		"- 5-5":               "0:symbol - 2:int 5 3:symbol - 4:int 5 5:end",
	} {
		list, at, e := Scan(s)
		var got []string
		for _, x := range list {
			got = append(got, strings.TrimSpace(fmt.Sprintf("%d:%s %s", x.At, kinds[x.Kind], x.Text)))
		}
		if strings.Join(got, " ") != want || at != 0 || e != api.OK {
			t.Errorf("Scan(%q) is %s instead of %s", s, scanned(list, at, e), want)
		}
		checkScan(t, s)
	}
}

func TestP12_2Invalid(t *testing.T) {
	long, large := stringOf("a", "Z_0", 41), "2147483649"
	for s, want := range map[string]string{
		":":                                     "ErrSyntax 0",
		"p # all\nq:":                           "ErrSyntax 9",
		"p(X) :- q(X).":                         "ErrSyntax 5",
		"a=:b":                                  "ErrSyntax 2",
		"X := 1":                                "ErrSyntax 2",
		"p('a')":                                "ErrSyntax 2",
		"p(a\x00)":                              "ErrSyntax 3",
		"p\u00e4":                               "ErrSyntax 1",
		"\ufeffp":                               "ErrSyntax 0",
		"p\v":                                   "ErrSyntax 1",
		large:                                   "ErrRange 0",
		"p(2147483648, 9999999999)":             "ErrRange 14",
		"-2147483649":                           "ErrRange 1",
		long:                                    "ErrName 0",
		"p(" + stringOf("X", "x", 41) + ")":     "ErrName 2",
		"p, " + long + " : " + large:            "ErrName 3",
		"p, " + large + " " + long + ":":        "ErrRange 3",
		"p, ; " + large + " " + long:            "ErrSyntax 3",
		"# " + long + " : " + large + "\n\n ?":  "ErrSyntax 59",
		"# :\n" + stringOf("_", "_", 41) + " :": "ErrName 4",
		strings.Repeat(" ", 16383) + ":":        "ErrSyntax 16383",
		strings.Repeat("(", 16343) + long:       "ErrName 16343",
		strings.Repeat("9 ", 8186) + "12" + large: "ErrRange 16372",
		strings.Repeat(" ", 16385):                "ErrSize 0",
		":" + strings.Repeat(" ", 16384):          "ErrSize 0",
		long + strings.Repeat(" ", 16384):         "ErrSize 0",
		large + strings.Repeat("(", 16384):        "ErrSize 0",
		"p" + strings.Repeat("#", 1<<20):          "ErrSize 0",
		strings.Repeat("9", 16385):                "ErrSize 0",
	} {
		list, at, e := Scan(s)
		if got := fmt.Sprintf("%s %d", errors[e], at); got != want || len(list) != 0 {
			t.Errorf("Scan(%s) is %s instead of %s", short(s), scanned(list, at, e), want)
		}
		checkScan(t, s)
	}
}

func TestP12_2Large(t *testing.T) {
	for _, part := range []string{" ", "#", "(", "p ", "X\n", "7\t", "<=>", "==> ", "0", "# all\n", "p#\n", "=", "12ab.", "a.B,7 "} {
		for _, size := range []int{16383, 16384, 16385, 1 << 17} {
			s := stringOf(part, part, size)
			checkScan(t, s)
			if list, _, e := Scan(s); size <= 16384 && (e != api.OK || len(list) == 0) {
				t.Errorf("Scan(%s) is error %d", short(s), e)
			}
		}
	}
	if list, _, _ := Scan(strings.Repeat("(", 16384)); len(list) != 16385 {
		t.Errorf("%d tokens", len(list))
	}
}

func TestP12_2All(t *testing.T) {
	for most, parts := range alphabets() {
		texts(parts, most, func(s string) { checkScan(t, s) })
	}
}

func TestP12_2Random(t *testing.T) {
	g := newMaker(3)
	counts := map[api.Errno]int{}
	for i := range 8000 {
		s := g.text(1 + i%40)
		checkScan(t, s)
		_, _, e := Scan(s)
		counts[e]++
		checkScan(t, g.any(8))
		checkScan(t, g.bytes(`=<>\:|-@# a_0`+"\n", 30))
	}
	for _, e := range []api.Errno{api.OK, api.ErrSyntax, api.ErrName, api.ErrRange} {
		if counts[e] < 300 {
			t.Errorf("only %d results with %d", counts[e], e)
		}
	}
}

// A result is a list of its own.
func TestP12_2Own(t *testing.T) {
	const s = "p(X) <=> q."
	first, _, _ := Scan(s)
	second, _, _ := Scan(s)
	for i := range first {
		first[i] = api.Token{Kind: api.KInt, At: -1, Text: "scribble"}
	}
	want, _, _ := wantScan(s)
	if third, _, _ := Scan(s); !slices.Equal(second, want) || !slices.Equal(third, want) {
		t.Errorf("%+v and %+v instead of %+v", second, third, want)
	}
}

// checkJoined checks that tokens that are joined by single spaces are the same ones, but for their offsets, and reports whether
// the joined text is short enough to have tokens.
func checkJoined(t *testing.T, s string) bool {
	t.Helper()
	list, _, e := Scan(s)
	if e != api.OK {
		return false
	}
	short := true
	// The end of the text has an empty text, so that its space may be there or not.
	for _, line := range []string{joined(list), joined(list[:len(list)-1])} {
		again, at, e := Scan(line)
		if len(line) > 16384 {
			short = false
			if len(again) != 0 || at != 0 || e != api.ErrSize {
				t.Errorf("%d bytes: %s", len(line), scanned(again, at, e))
			}
			continue
		}
		same := func(x, y api.Token) bool { return x.Kind == y.Kind && x.Text == y.Text }
		if at != 0 || e != api.OK || !slices.EqualFunc(list, again, same) {
			t.Errorf("%.200q has %s, but %.200q %s", s, scanned(list, 0, api.OK), line, scanned(again, at, e))
			return short
		}
	}
	return short
}

func TestP12_3Table(t *testing.T) {
	for _, s := range []string{
		"", " ", "# all", "p", "p(X)<=>7.", "X==>Y", "X== >Y", "12ab", "1 2 12", "= =", "==", "= = =", "===", "< = >", "<=>", "=<=>", "=\\=\\=",
		"= \\ =", "\\==", "p#\nq", "p#\n#\n#q", "is int", "- 5", "-5", "00 007", "_ _", "__", "a.b.c", "\t\r\n@\n", "2147483648 2147483648",
		stringOf("a", "a", 40) + " " + stringOf("a", "a", 40), stringOf("X", "1", 40) + "#\n" + stringOf("2", "0", 9),
		"gcd(N) \\ gcd(M) <=> 0 < N, N =< M | L is M - N, gcd(L). # the second rule",
	} {
		if !checkJoined(t, s) {
			t.Errorf("%q is too long or invalid", s)
		}
	}
}

func TestP12_3All(t *testing.T) {
	for most, parts := range alphabets() {
		texts(parts, most, func(s string) { checkJoined(t, s) })
	}
}

func TestP12_3Random(t *testing.T) {
	g := newMaker(4)
	count := 0
	for i := range 8000 {
		if checkJoined(t, g.text(1+i%40)) {
			count++
		}
		checkJoined(t, g.bytes(`=<>\|-@# a_0`+"\n", 30))
	}
	if count < 4000 {
		t.Errorf("only %d texts", count)
	}
}

// Joined texts that have as many bytes as possible, and more.
func TestP12_3Size(t *testing.T) {
	for s, want := range map[string]bool{
		strings.Repeat("(", 8191):                                true,
		strings.Repeat("(", 8192):                                true,
		strings.Repeat("(", 8193):                                false,
		strings.Repeat("=", 10922):                               true,
		strings.Repeat("=", 10923):                               false,
		strings.Repeat("=", 16384):                               false,
		strings.Repeat("=<", 5461):                               true,
		strings.Repeat("=<", 5462):                               false,
		strings.Repeat("<=>", 4096):                              true,
		strings.Repeat("<=>", 4097):                              false,
		strings.Repeat("7(", 4096):                               true,
		strings.Repeat("7(", 4097):                               false,
		strings.Repeat("7", 9) + strings.Repeat("(", 16375):      false,
		strings.Repeat(" ", 16383) + "p":                         true,
		strings.Repeat("p  ", 5461):                              true,
		strings.Repeat("0", 16383):                               true,
		strings.Repeat("0", 16382) + "(":                         false,
		strings.Repeat("0", 16381) + "(":                         true,
		strings.Repeat("#"+strings.Repeat(":", 30)+"\n(\n", 480): true,
	} {
		if got := checkJoined(t, s); got != want {
			t.Errorf("%s: %v", short(s), got)
		}
	}
}
