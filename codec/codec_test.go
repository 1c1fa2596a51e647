package codec

import (
	"bytes"
	"math"
	"math/big"
	"strings"
	"testing"

	"constraint/api"
)

const (
	leastInt    = math.MinInt
	greatestInt = math.MaxInt
)

// known are encodings that are written out by hand from the definition.
var known = []struct {
	n    int
	code []byte
}{
	{0, []byte{0}},
	{-1, []byte{1}},
	{1, []byte{2}},
	{-2, []byte{3}},
	{-3, []byte{5}},
	{63, []byte{126}},
	{-64, []byte{127}},
	{64, []byte{128, 1}},
	{-65, []byte{129, 1}},
	{8191, []byte{254, 127}},
	{-8192, []byte{255, 127}},
	{8192, []byte{128, 128, 1}},
	{-8193, []byte{129, 128, 1}},
	{1 << 61, []byte{128, 128, 128, 128, 128, 128, 128, 128, 64}},
	{1<<62 - 1, []byte{254, 255, 255, 255, 255, 255, 255, 255, 127}},
	{-1 << 62, []byte{255, 255, 255, 255, 255, 255, 255, 255, 127}},
	{1 << 62, []byte{128, 128, 128, 128, 128, 128, 128, 128, 128, 1}},
	{-1<<62 - 1, []byte{129, 128, 128, 128, 128, 128, 128, 128, 128, 1}},
	{greatestInt, []byte{254, 255, 255, 255, 255, 255, 255, 255, 255, 1}},
	{leastInt, []byte{255, 255, 255, 255, 255, 255, 255, 255, 255, 1}},
}

// encode follows the definition with numbers of any size, independently of the package.
func encode(n int) []byte {
	u := new(big.Int).Mul(big.NewInt(2), big.NewInt(int64(n)))
	if n < 0 {
		u.Neg(u).Sub(u, big.NewInt(1))
	}
	var code []byte
	for {
		group := new(big.Int)
		u.DivMod(u, big.NewInt(128), group)
		if u.Sign() == 0 {
			return append(code, byte(group.Int64()))
		}
		code = append(code, byte(group.Int64())+128)
	}
}

// samples returns the integers around all powers of two, and some in between.
func samples() []int {
	list := []int{0, leastInt, leastInt + 1, greatestInt, greatestInt - 1}
	for shift := range 63 {
		power := 1 << shift
		for _, near := range []int{power - 1, power, power + 1, power + power/3} {
			list = append(list, near, -near)
		}
	}
	return list
}

func isZeroInt(n, next int) bool { return n == 0 && next == 0 }

// mustInt reads an integer without bounds.
func mustInt(t *testing.T, b []byte, at int) (n, next int) {
	t.Helper()
	n, next, e := Int(b, at, leastInt, greatestInt)
	if e != api.OK {
		t.Fatalf("Int(%v, %d): error %d", b, at, e)
	}
	return n, next
}

func TestP1_1PutInt(t *testing.T) {
	for _, x := range known {
		if got := PutInt(nil, x.n); !bytes.Equal(got, x.code) {
			t.Errorf("PutInt(nil, %d) = %v, want %v", x.n, got, x.code)
		}
		want := append([]byte{200, 0}, x.code...)
		if got := PutInt([]byte{200, 0}, x.n); !bytes.Equal(got, want) {
			t.Errorf("PutInt behind two bytes, %d: %v, want %v", x.n, got, want)
		}
	}
	for _, n := range samples() {
		if got, want := PutInt(nil, n), encode(n); !bytes.Equal(got, want) {
			t.Errorf("PutInt(nil, %d) = %v, want %v", n, got, want)
		}
	}
}

func TestP1_1PutText(t *testing.T) {
	long := strings.Repeat("x", 64)
	for _, x := range []struct{ s, code string }{
		{"", "\x00"},
		{"ab", "\x04ab"},
		{"\x00\xff", "\x04\x00\xff"},
		{"\u00e9", "\x04\xc3\xa9"},
		{long[1:], "\x7e" + long[1:]},
		{long, "\x80\x01" + long},
	} {
		if got := PutText(nil, x.s); string(got) != x.code {
			t.Errorf("PutText(nil, %q) = %q, want %q", x.s, got, x.code)
		}
		if got := PutText([]byte("q"), x.s); string(got) != "q"+x.code {
			t.Errorf("PutText behind a byte, %q: %q, want %q", x.s, got, "q"+x.code)
		}
	}
}

func TestP1_1PutBool(t *testing.T) {
	for _, x := range []struct {
		b    []byte
		x    bool
		want []byte
	}{
		{nil, false, []byte{0}},
		{nil, true, []byte{1}},
		{[]byte{7}, false, []byte{7, 0}},
		{[]byte{7}, true, []byte{7, 1}},
	} {
		if got := PutBool(x.b, x.x); !bytes.Equal(got, x.want) {
			t.Errorf("PutBool(%v, %v) = %v, want %v", x.b, x.x, got, x.want)
		}
	}
}

// Bytes behind the end of an argument belong to the caller: they stay, and two results do not overwrite each other.
func TestP1_1PutLeavesArgument(t *testing.T) {
	puts := map[string]func(b []byte) []byte{
		"PutInt":  func(b []byte) []byte { return PutInt(b, leastInt) },
		"PutText": func(b []byte) []byte { return PutText(b, "abc") },
		"PutBool": func(b []byte) []byte { return PutBool(b, true) },
	}
	for name, put := range puts {
		memory := bytes.Repeat([]byte{9}, 40)
		first := put(memory[:2])
		copied := bytes.Clone(first)
		PutInt(memory[:2], 4)
		if !bytes.Equal(memory, bytes.Repeat([]byte{9}, 40)) {
			t.Errorf("%s changed the memory of its argument: %v", name, memory)
		}
		if !bytes.Equal(first, copied) {
			t.Errorf("%s: a later call changed its result to %v", name, first)
		}
	}
}

func TestP1_2IntValues(t *testing.T) {
	for _, x := range known {
		n, next, e := Int(x.code, 0, leastInt, greatestInt)
		if n != x.n || next != len(x.code) || e != api.OK {
			t.Errorf("Int(%v) = %d, %d, %d, want %d, %d", x.code, n, next, e, x.n, len(x.code))
		}
		b := append(append([]byte{128, 255}, x.code...), 128, 1)
		n, next, e = Int(b, 2, x.n, x.n)
		if n != x.n || next != 2+len(x.code) || e != api.OK {
			t.Errorf("Int(%v, 2) = %d, %d, %d, want %d, %d", b, n, next, e, x.n, 2+len(x.code))
		}
	}
}

// intError is a call of Int that returns an error.
type intError struct {
	name          string
	b             []byte
	at, low, high int
	want          api.Errno
}

func checkIntErrors(t *testing.T, list []intError) {
	t.Helper()
	for _, x := range list {
		before := bytes.Clone(x.b)
		n, next, e := Int(x.b, x.at, x.low, x.high)
		if e != x.want || !isZeroInt(n, next) {
			t.Errorf("%s: Int = %d, %d, %d, want error %d", x.name, n, next, e, x.want)
		}
		if !bytes.Equal(x.b, before) {
			t.Errorf("%s: Int changed its argument", x.name)
		}
	}
}

func TestP1_2IntArguments(t *testing.T) {
	checkIntErrors(t, []intError{
		{"offset -1", []byte{0}, -1, 0, 9, api.ErrArg},
		{"least offset", []byte{0}, leastInt, 0, 9, api.ErrArg},
		{"offset beyond the end", []byte{0}, 2, 0, 9, api.ErrArg},
		{"greatest offset", []byte{0}, greatestInt, 0, 9, api.ErrArg},
		{"offset beyond the end of nil", nil, 1, 0, 9, api.ErrArg},
		{"offset at the end", []byte{0}, 1, 0, 9, api.ErrShort},
		{"offset at the end of nil", nil, 0, 0, 9, api.ErrShort},
		{"bounds exchanged", []byte{0}, 0, 1, 0, api.ErrArg},
		{"extreme bounds exchanged", []byte{0}, 0, greatestInt, leastInt, api.ErrArg},
		{"bounds before a short encoding", []byte{128}, 0, 1, 0, api.ErrArg},
		{"bounds at the end", nil, 0, 1, 0, api.ErrArg},
		{"bounds before a malformed encoding", []byte{128, 0}, 0, 1, 0, api.ErrArg},
	})
}

func TestP1_2IntShortAndForm(t *testing.T) {
	nine := bytes.Repeat([]byte{255}, 9)
	with := func(b ...byte) []byte { return append(bytes.Clone(nine), b...) }
	checkIntErrors(t, []intError{
		{"one byte", []byte{128}, 0, leastInt, greatestInt, api.ErrShort},
		{"behind an offset", []byte{0, 128, 128}, 1, leastInt, greatestInt, api.ErrShort},
		{"nine bytes", nine, 0, leastInt, greatestInt, api.ErrShort},
		{"tenth byte 2", with(2), 0, leastInt, greatestInt, api.ErrForm},
		{"tenth byte 127", with(127), 0, leastInt, greatestInt, api.ErrForm},
		{"tenth byte 128", with(128), 0, leastInt, greatestInt, api.ErrForm},
		{"tenth byte 129 and an eleventh", with(129, 0), 0, leastInt, greatestInt, api.ErrForm},
		{"eleven bytes", with(255, 1), 0, leastInt, greatestInt, api.ErrForm},
		{"tenth byte 0", with(0), 0, leastInt, greatestInt, api.ErrForm},
		{"0 in two bytes", []byte{128, 0}, 0, leastInt, greatestInt, api.ErrForm},
		{"1 in two bytes", []byte{130, 0}, 0, leastInt, greatestInt, api.ErrForm},
		{"0 in three bytes", []byte{128, 128, 0}, 0, leastInt, greatestInt, api.ErrForm},
		{"not the shortest, and out of range", []byte{130, 0}, 0, 5, 9, api.ErrForm},
		{"too long, and out of range", with(2), 0, 5, 9, api.ErrForm},
		{"short, and out of range", []byte{255}, 0, 5, 9, api.ErrShort},
	})
}

func TestP1_2IntRange(t *testing.T) {
	checkIntErrors(t, []intError{
		{"above", []byte{128, 1}, 0, 0, 63, api.ErrRange},
		{"below", []byte{128, 1}, 0, 65, 70, api.ErrRange},
		{"negative below", []byte{5}, 0, -2, 9, api.ErrRange},
		{"negative above", []byte{5}, 0, -9, -4, api.ErrRange},
		{"least int below", PutInt(nil, leastInt), 0, leastInt + 1, greatestInt, api.ErrRange},
		{"greatest int above", PutInt(nil, greatestInt), 0, leastInt, greatestInt - 1, api.ErrRange},
	})
	for _, n := range []int{leastInt, -65, -1, 0, 1, 64, greatestInt} {
		for _, bounds := range [][2]int{{n, n}, {leastInt, n}, {n, greatestInt}} {
			if got, _, e := Int(PutInt(nil, n), 0, bounds[0], bounds[1]); got != n || e != api.OK {
				t.Errorf("Int of %d with the bounds %v: %d, %d", n, bounds, got, e)
			}
		}
	}
}

func TestP1_3TextValues(t *testing.T) {
	long := strings.Repeat("yz", 40)
	for _, x := range []struct {
		b        string
		at, most int
		s        string
		next     int
	}{
		{"\x00", 0, 0, "", 1},
		{"\x04ab", 0, 2, "ab", 3},
		{"\x04abc", 0, greatestInt, "ab", 3},
		{"zz\x02\xff\x80", 2, 1, "\xff", 4},
		{"zz\x00", 2, 5, "", 3},
		{"\xa0\x01" + long, 0, 80, long, 82},
	} {
		s, next, e := Text([]byte(x.b), x.at, x.most)
		if s != x.s || next != x.next || e != api.OK {
			t.Errorf("Text(%q, %d, %d) = %q, %d, %d", x.b, x.at, x.most, s, next, e)
		}
	}
}

func TestP1_3TextErrors(t *testing.T) {
	for _, x := range []struct {
		name, b  string
		at, most int
		want     api.Errno
	}{
		{"offset -1", "\x00", -1, 9, api.ErrArg},
		{"least offset", "\x00", leastInt, 9, api.ErrArg},
		{"offset beyond the end", "\x00", 2, 9, api.ErrArg},
		{"greatest offset", "\x00", greatestInt, 9, api.ErrArg},
		{"negative limit", "\x00", 0, -1, api.ErrArg},
		{"least limit", "\x00", 0, leastInt, api.ErrArg},
		{"negative limit at the end", "\x00", 1, -1, api.ErrArg},
		{"offset at the end", "\x00", 1, 9, api.ErrShort},
		{"length that ends too early", "\x80", 0, 9, api.ErrShort},
		{"length not the shortest", "\x82\x00a", 0, 9, api.ErrForm},
		{"length of too many bits", strings.Repeat("\xff", 9) + "\x02", 0, 9, api.ErrForm},
		{"length of eleven bytes", strings.Repeat("\xff", 10) + "\x01", 0, 9, api.ErrForm},
		{"negative length", "\x01", 0, 9, api.ErrRange},
		{"length above the limit", "\x06abc", 0, 2, api.ErrRange},
		{"length above the limit, too few bytes", "\x06a", 0, 2, api.ErrRange},
		{"one byte too few", "\x06ab", 0, 9, api.ErrShort},
		{"too few bytes", "\x06a", 0, 9, api.ErrShort},
		{"no bytes", "\x02", 0, 9, api.ErrShort},
		{"greatest length", string(PutInt(nil, greatestInt)), 0, greatestInt, api.ErrShort},
		{"greatest length behind an offset", "zz" + string(PutInt(nil, greatestInt)) + "a", 2, greatestInt, api.ErrShort},
	} {
		s, next, e := Text([]byte(x.b), x.at, x.most)
		if e != x.want || s != "" || next != 0 {
			t.Errorf("%s: Text = %q, %d, %d, want error %d", x.name, s, next, e, x.want)
		}
	}
}

// A string that was read stays as it is when the bytes are overwritten.
func TestP1_3TextKeepsNothing(t *testing.T) {
	b := []byte("\x04ab")
	s, _, _ := Text(b, 0, 2)
	b[1] = 'z'
	if s != "ab" {
		t.Errorf("the string became %q", s)
	}
}

func TestP1_4Bool(t *testing.T) {
	for _, x := range []struct {
		b    []byte
		at   int
		x    bool
		next int
		e    api.Errno
	}{
		{[]byte{0}, 0, false, 1, api.OK},
		{[]byte{1}, 0, true, 1, api.OK},
		{[]byte{9, 1, 0}, 1, true, 2, api.OK},
		{[]byte{9, 1, 0}, 2, false, 3, api.OK},
		{[]byte{1}, -1, false, 0, api.ErrArg},
		{[]byte{1}, leastInt, false, 0, api.ErrArg},
		{[]byte{1}, 2, false, 0, api.ErrArg},
		{[]byte{1}, greatestInt, false, 0, api.ErrArg},
		{nil, 1, false, 0, api.ErrArg},
		{[]byte{1}, 1, false, 0, api.ErrShort},
		{nil, 0, false, 0, api.ErrShort},
		{[]byte{2}, 0, false, 0, api.ErrForm},
		{[]byte{128, 0}, 0, false, 0, api.ErrForm},
		{[]byte{129, 0}, 0, false, 0, api.ErrForm},
		{[]byte{255}, 0, false, 0, api.ErrForm},
	} {
		got, next, e := Bool(x.b, x.at)
		if got != x.x || next != x.next || e != x.e {
			t.Errorf("Bool(%v, %d) = %v, %d, %d", x.b, x.at, got, next, e)
		}
	}
}

// prefixes and suffixes are bytes around an encoding that could be mistaken for a part of it.
var (
	prefixes = [][]byte{nil, {0}, {128}, {255, 255, 1}}
	suffixes = [][]byte{nil, {0}, {1}, {128}, {255, 255, 255, 255, 255, 255, 255, 255, 255, 255}}
)

func TestP1_5ReturnInt(t *testing.T) {
	for _, n := range samples() {
		for _, before := range prefixes {
			for _, after := range suffixes {
				b := PutInt(before, n)
				end := len(b)
				b = append(b, after...)
				got, next, e := Int(b, len(before), n, n)
				if got != n || next != end || e != api.OK {
					t.Errorf("%d between %v and %v: %d, %d, %d", n, before, after, got, next, e)
				}
			}
		}
	}
}

func TestP1_5ReturnTextAndBool(t *testing.T) {
	for _, before := range prefixes {
		for _, after := range suffixes {
			for _, size := range []int{0, 1, 2, 63, 64, 65, 8191, 8192, 20000} {
				s := strings.Repeat("\x80a\x00", size/3+1)[:size]
				b := PutText(before, s)
				end := len(b)
				b = append(b, after...)
				got, next, e := Text(b, len(before), size)
				if got != s || next != end || e != api.OK {
					t.Errorf("%d bytes between %v and %v: %d bytes, %d, %d", size, before, after, len(got), next, e)
				}
			}
			for _, x := range []bool{false, true} {
				b := append(PutBool(before, x), after...)
				got, next, e := Bool(b, len(before))
				if got != x || next != len(before)+1 || e != api.OK {
					t.Errorf("%v between %v and %v: %v, %d, %d", x, before, after, got, next, e)
				}
			}
		}
	}
}

func TestP1_5ReturnSequence(t *testing.T) {
	b := PutInt(PutBool(PutText(PutInt(nil, leastInt), "ab"), true), 64)
	n, at := mustInt(t, b, 0)
	s, at, e := Text(b, at, 2)
	x, at, f := Bool(b, at)
	m, at := mustInt(t, b, at)
	if n != leastInt || s != "ab" || !x || m != 64 || at != len(b) || e != api.OK || f != api.OK {
		t.Errorf("the sequence %v was read as %d, %q, %v, %d up to %d", b, n, s, x, m, at)
	}
}

// checkCanonical compares each value that is read from an offset of b with the bytes that it was read from.
func checkCanonical(t *testing.T, b []byte, at int) {
	t.Helper()
	if n, next, e := Int(b, at, leastInt, greatestInt); e == api.OK && !bytes.Equal(encode(n), b[at:next]) {
		t.Errorf("Int(%v, %d) = %d, %d: not its encoding", b, at, n, next)
	}
	if s, next, e := Text(b, at, greatestInt); e == api.OK && string(encode(len(s)))+s != string(b[at:next]) {
		t.Errorf("Text(%v, %d) = %q, %d: not its encoding", b, at, s, next)
	}
	if x, next, e := Bool(b, at); e == api.OK && (next != at+1 || x != (b[at] == 1) || b[at] > 1) {
		t.Errorf("Bool(%v, %d) = %v, %d: not its encoding", b, at, x, next)
	}
}

func TestP1_6CanonicalShort(t *testing.T) {
	for first := range 256 {
		checkCanonical(t, []byte{byte(first)}, 0)
		for second := range 256 {
			checkCanonical(t, []byte{byte(first), byte(second)}, 0)
			checkCanonical(t, []byte{128, byte(first), byte(second), 7}, 1)
			checkCanonical(t, []byte{byte(first), byte(second), 1, 0}, 0)
		}
	}
}

func TestP1_6CanonicalLong(t *testing.T) {
	for size := range 12 {
		for _, group := range []byte{128, 129, 170, 255} {
			b := append(bytes.Repeat([]byte{group}, size), 0, 0)
			for last := range 256 {
				b[size] = byte(last)
				checkCanonical(t, b, 0)
				checkCanonical(t, b[:size+1], 0)
			}
		}
	}
}

func TestP1_7Prefix(t *testing.T) {
	list := samples()
	codes := make([][]byte, len(list))
	for i, n := range list {
		codes[i] = PutInt(nil, n)
	}
	for i, a := range codes {
		for j, b := range codes {
			if list[i] != list[j] && bytes.HasPrefix(b, a) {
				t.Errorf("the encoding %v of %d begins with the encoding %v of %d", b, list[j], a, list[i])
			}
		}
	}
}

// No beginning of an encoding is read as an integer: it ends too early.
func TestP1_7CutEncoding(t *testing.T) {
	for _, n := range samples() {
		code := PutInt(nil, n)
		for size := range code {
			if got, next, e := Int(code[:size], 0, leastInt, greatestInt); e != api.ErrShort || !isZeroInt(got, next) {
				t.Errorf("%d bytes of the encoding of %d: %d, %d, %d", size, n, got, next, e)
			}
		}
	}
}
