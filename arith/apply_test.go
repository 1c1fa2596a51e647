package arith

import (
	"math"
	"math/big"
	"slices"
	"strings"
	"testing"

	"constraint/api"
)

// exact returns the result of an operator, without bounds. b is not 0 where it divides.
func exact(op string, a, b int) *big.Int {
	x, y := big.NewInt(int64(a)), big.NewInt(int64(b))
	switch op {
	case "+":
		return x.Add(x, y)
	case "-":
		return x.Sub(x, y)
	case "*":
		return x.Mul(x, y)
	}
	// The division of package big rounds down if the divisor is positive.
	signed := big.NewInt(int64(b))
	if y.Sign() < 0 {
		x.Neg(x)
		y.Neg(y)
	}
	q, _ := new(big.Int).DivMod(x, y, new(big.Int))
	if op == "/" {
		return q
	}
	return new(big.Int).Sub(big.NewInt(int64(a)), q.Mul(q, signed))
}

// wantApply is Apply for an operator, by exact numbers.
func wantApply(op string, a, b int) (int, api.Errno) {
	limit := big.NewInt(api.MaxInt)
	for _, n := range []int{a, b} {
		if big.NewInt(int64(n)).CmpAbs(limit) > 0 {
			return 0, api.ErrRange
		}
	}
	if b == 0 && strings.Contains("/%", op) {
		return 0, api.ErrZero
	}
	n := exact(op, a, b)
	if n.CmpAbs(limit) > 0 {
		return 0, api.ErrRange
	}
	return int(n.Int64()), api.OK
}

func checkApply(t *testing.T, op string, a, b int) {
	t.Helper()
	want, wantErr := wantApply(op, a, b)
	if n, e := Apply(op, a, b); n != want || e != wantErr {
		t.Errorf("Apply(%q, %d, %d) = %d, %d, not %d, %d", op, a, b, n, e, want, wantErr)
	}
}

func TestP4_1Table(t *testing.T) {
	for _, x := range []struct {
		op         string
		a, b, want int
		err        api.Errno
	}{
		{"+", 1, 2, 3, api.OK}, {"-", 1, 2, -1, api.OK}, {"*", 3, -4, -12, api.OK}, {"+", 0, 0, 0, api.OK}, {"-", 0, -5, 5, api.OK},
		// each combination of signs, with a remainder and without
		{"/", 7, 2, 3, api.OK}, {"/", -7, 2, -4, api.OK}, {"/", 7, -2, -4, api.OK}, {"/", -7, -2, 3, api.OK},
		{"%", 7, 2, 1, api.OK}, {"%", -7, 2, 1, api.OK}, {"%", 7, -2, -1, api.OK}, {"%", -7, -2, -1, api.OK},
		{"/", 6, 2, 3, api.OK}, {"/", -6, 2, -3, api.OK}, {"/", 6, -2, -3, api.OK}, {"/", -6, -2, 3, api.OK},
		{"%", 6, 2, 0, api.OK}, {"%", -6, 2, 0, api.OK}, {"%", 6, -2, 0, api.OK}, {"%", -6, -2, 0, api.OK},
		{"/", 0, 5, 0, api.OK}, {"/", 0, -5, 0, api.OK}, {"%", 0, 5, 0, api.OK}, {"%", 0, -5, 0, api.OK},
		{"/", 1, 9, 0, api.OK}, {"/", -1, 9, -1, api.OK}, {"/", 1, -9, -1, api.OK}, {"/", -1, -9, 0, api.OK},
		{"%", 1, 9, 1, api.OK}, {"%", -1, 9, 8, api.OK}, {"%", 1, -9, -8, api.OK}, {"%", -1, -9, -1, api.OK},
		// results at the limits and one beyond
		{"+", api.MaxInt, 0, api.MaxInt, api.OK}, {"+", api.MaxInt - 1, 1, api.MaxInt, api.OK}, {"+", api.MaxInt, 1, 0, api.ErrRange},
		{"+", -api.MaxInt, 0, -api.MaxInt, api.OK}, {"+", 1 - api.MaxInt, -1, -api.MaxInt, api.OK}, {"+", -api.MaxInt, -1, 0, api.ErrRange},
		{"-", api.MaxInt, 0, api.MaxInt, api.OK}, {"-", api.MaxInt, -1, 0, api.ErrRange}, {"-", 0, api.MaxInt, -api.MaxInt, api.OK},
		{"-", -api.MaxInt, 1, 0, api.ErrRange}, {"-", -1, api.MaxInt, 0, api.ErrRange}, {"-", 0, -api.MaxInt, api.MaxInt, api.OK},
		{"-", api.MaxInt, api.MaxInt, 0, api.OK}, {"+", api.MaxInt, api.MaxInt, 0, api.ErrRange}, {"-", api.MaxInt, -api.MaxInt, 0, api.ErrRange},
		{"*", 65536, 32768, api.MaxInt, api.OK}, {"*", -65536, 32768, -api.MaxInt, api.OK}, {"*", 65536, 32769, 0, api.ErrRange},
		{"*", 65536, 65536, 0, api.ErrRange}, {"*", api.MaxInt, api.MaxInt, 0, api.ErrRange}, {"*", -api.MaxInt, api.MaxInt, 0, api.ErrRange},
		{"*", -api.MaxInt, -1, api.MaxInt, api.OK}, {"*", 715827883, 3, 0, api.ErrRange}, {"*", 715827883, -3, 0, api.ErrRange},
		{"/", api.MaxInt, 1, api.MaxInt, api.OK}, {"/", -api.MaxInt, -1, api.MaxInt, api.OK}, {"/", api.MaxInt, -1, -api.MaxInt, api.OK},
		{"/", -1, api.MaxInt, -1, api.OK}, {"%", -1, api.MaxInt, api.MaxInt - 1, api.OK}, {"%", 1, -api.MaxInt, 1 - api.MaxInt, api.OK},
		{"%", -api.MaxInt, api.MaxInt, 0, api.OK}, {"%", -api.MaxInt, -1, 0, api.OK},
		// a divisor of 0
		{"/", 1, 0, 0, api.ErrZero}, {"/", 0, 0, 0, api.ErrZero}, {"%", -1, 0, 0, api.ErrZero}, {"%", 0, 0, 0, api.ErrZero},
		{"/", api.MaxInt, 0, 0, api.ErrZero}, {"%", -api.MaxInt, 0, 0, api.ErrZero}, {"*", 5, 0, 0, api.OK}, {"+", 5, 0, 5, api.OK}, {"-", 5, 0, 5, api.OK},
		// the order of the errors
		{"^", 1, 1, 0, api.ErrName}, {"^", 1, 0, 0, api.ErrName}, {"^", api.MaxInt + 1, 0, 0, api.ErrName}, {"", 0, math.MinInt, 0, api.ErrName},
		{"/", api.MaxInt + 1, 0, 0, api.ErrRange}, {"%", -api.MaxInt - 1, 0, 0, api.ErrRange},
	} {
		if n, e := Apply(x.op, x.a, x.b); n != x.want || e != x.err {
			t.Errorf("Apply(%q, %d, %d) = %d, %d, not %d, %d", x.op, x.a, x.b, n, e, x.want, x.err)
		}
	}
}

func TestP4_1SmallNumbers(t *testing.T) {
	for _, op := range operators {
		for a := -40; a <= 40; a++ {
			for b := -40; b <= 40; b++ {
				checkApply(t, op, a, b)
			}
		}
	}
}

func TestP4_1Limits(t *testing.T) {
	for _, op := range operators {
		for _, a := range atLimits {
			for _, b := range atLimits {
				checkApply(t, op, a, b)
			}
		}
	}
}

// The exact results of some of these operands are in range, or are so after they have wrapped around.
func TestP4_1OperandsOutOfRange(t *testing.T) {
	for _, op := range operators {
		for _, a := range outOfRange {
			for _, b := range slices.Concat(outOfRange, atLimits) {
				for _, pair := range [][2]int{{a, b}, {b, a}} {
					if n, e := Apply(op, pair[0], pair[1]); n != 0 || e != api.ErrRange {
						t.Errorf("Apply(%q, %d, %d) = %d, %d", op, pair[0], pair[1], n, e)
					}
				}
			}
		}
	}
}

func TestP4_1NoOperators(t *testing.T) {
	names := slices.Concat(noOperators, []string{strings.Repeat("+", 1<<20), "constraint", "true", "fail", "int", "ground", "X", "1"})
	for _, name := range names {
		for _, a := range []int{0, 1, api.MaxInt, api.MaxInt + 1, math.MinInt} {
			for _, b := range []int{0, 1, -api.MaxInt, -api.MaxInt - 1, math.MaxInt} {
				if n, e := Apply(name, a, b); n != 0 || e != api.ErrName {
					t.Errorf("Apply(%s, %d, %d) = %d, %d", short(name), a, b, n, e)
				}
			}
		}
	}
	for char := range 256 {
		name := string([]byte{byte(char)})
		_, e := Apply(name, 1, 1)
		if isOne := strings.Contains("+-*/%", name); isOne != (e == api.OK) {
			t.Errorf("Apply(%q, 1, 1) returns the error %d", name, e)
		}
	}
}

func TestP4_1Random(t *testing.T) {
	g := newMaker(1)
	for range 200000 {
		a, b := g.random.IntN(2*api.MaxInt+1)-api.MaxInt, g.random.IntN(2*api.MaxInt+1)-api.MaxInt
		b >>= g.random.IntN(32)
		checkApply(t, g.operator(), a, b)
	}
}

// checkDivision checks the consequence, and the definition of the quotient: the greatest integer whose product with the
// divisor does not go beyond the dividend.
func checkDivision(t *testing.T, a, b int) {
	t.Helper()
	q, e1 := Apply("/", a, b)
	r, e2 := Apply("%", a, b)
	if e1 != api.OK || e2 != api.OK {
		t.Errorf("%d / %d and %d %% %d have the errors %d and %d", a, b, a, b, e1, e2)
		return
	}
	if a != q*b+r || r != 0 && (r < 0) != (b < 0) || max(r, -r) >= max(b, -b) {
		t.Errorf("%d / %d is %d, and the remainder is %d", a, b, q, r)
	}
	if b > 0 && (q*b > a || (q+1)*b <= a) || b < 0 && (q*b < a || (q+1)*b >= a) {
		t.Errorf("%d / %d is %d, which is not the greatest quotient", a, b, q)
	}
}

func TestP4_5Division(t *testing.T) {
	for a := -50; a <= 50; a++ {
		for b := 1; b <= 50; b++ {
			checkDivision(t, a, b)
			checkDivision(t, a, -b)
		}
	}
	for _, a := range atLimits {
		for _, b := range atLimits {
			if b != 0 {
				checkDivision(t, a, b)
			}
		}
	}
	g := newMaker(2)
	for range 100000 {
		a, b := g.random.IntN(2*api.MaxInt+1)-api.MaxInt, 1+g.random.IntN(api.MaxInt)>>g.random.IntN(31)
		checkDivision(t, a, b)
		checkDivision(t, a, -b)
	}
}
