package term

import (
	"math"
	"reflect"
	"slices"
	"strings"
	"testing"

	"constraint/api"
)

// cell is a node of a term as the standard order sees it. The order of terms is that of the lists of their nodes, from
// left to right, since terms whose first nodes are equal have their next nodes in the same place.
type cell struct {
	rank, kind, number int
	name               string
}

func cells(t api.Term) []cell {
	switch t.Kind {
	case api.TVar:
		return []cell{{rank: 1, number: t.Int}}
	case api.TInt:
		return []cell{{rank: 2, number: t.Int}}
	case api.TFun:
		list := []cell{{rank: 3, number: len(t.Args), name: t.Name}}
		for _, arg := range t.Args {
			list = append(list, cells(arg)...)
		}
		return list
	}
	return []cell{{rank: 4, kind: t.Kind, number: t.Int, name: t.Name}}
}

// sign compares two lists of nodes, independently of the package.
func sign(a, b []cell) int {
	for i := range min(len(a), len(b)) {
		x, y := a[i], b[i]
		if x == y {
			continue
		}
		if x.rank < y.rank || x.rank == y.rank && (x.kind < y.kind || x.kind == y.kind &&
			(x.number < y.number || x.number == y.number && lessBytes(x.name, y.name))) {
			return -1
		}
		return 1
	}
	return 0
}

func lessBytes(a, b string) bool {
	for i := range min(len(a), len(b)) {
		if a[i] != b[i] {
			return a[i] < b[i]
		}
	}
	return len(a) < len(b)
}

// ascending are terms in the standard order, each before the next one.
func ascending() []api.Term {
	list := []api.Term{
		Var(math.MinInt), Var(-1), Var(0), Var(1), Var(7), Var(10), Var(api.MaxVar), Var(1<<32 + 1), Var(math.MaxInt),
		Int(math.MinInt), Int(-api.MaxInt), Int(-10), Int(-9), Int(-1), Int(0), Int(1), Int(3), Int(10), Int(api.MaxInt), Int(1 << 32), Int(math.MaxInt),
		Fun(""), Fun("\x00"), Fun("+"), Fun("A"), Fun("Z"), Fun("_"), Fun("a"), Fun("a\x00"), Fun("aA"), Fun("a_"), Fun("aa"), Fun("ab"), Fun("b"), Fun("z"),
		Fun("z\x7f"), Fun("z\x80"), Fun("\u00e4"), Fun("\xff"),
		Fun("", Var(0)), Fun("a", Fun("\xff")), Fun("a", Fun("f", Var(0))), Fun("f", Var(0)), Fun("f", Var(1)), Fun("f", Int(-5)), Fun("f", Int(0)), Fun("f", Fun("a")),
		Fun("f", Fun("b")), Fun("f", Fun("a", Var(0))), Fun("f", Fun("a", Int(0))), Fun("f", Fun("b", Var(0))), Fun("f", Fun("a", Var(0), Var(0))), Fun("f", api.Term{Kind: 3}),
		Fun("g", Var(0)),
		Fun("*", Var(0), Var(0)), Fun("+", Var(0), Var(0)), Fun("-", Var(0), Var(0)), Fun("f", Var(0), Var(0)), Fun("f", Var(0), Var(1)), Fun("f", Var(0), Int(0)),
		Fun("f", Var(1), Var(0)), Fun("f", Int(0), Var(9)), Fun("f", Int(1), Var(0)), Fun("f", Fun("g", Var(0)), Var(5)), Fun("f", Fun("g", Var(1)), Var(0)),
		Fun("f", api.Term{Kind: 4}, Var(0)), Fun("g", Var(0), Var(0)),
		Fun("a", Var(0), Var(0), Var(0)), Fun("a", Var(0), Var(0), Int(0)), Fun("a", Var(0), Int(0), Var(0)), Fun("a", Int(0), Var(0), Var(0)),
		Fun("", some(7, Var(0))...), Fun("a", some(300, Var(0))...),
	}
	for _, kind := range []int{math.MinInt, -2, -1, 3, 4, math.MaxInt} {
		for _, n := range []int{math.MinInt, -1, 0, 1, math.MaxInt} {
			for _, name := range []string{"", "A", "a", "aa", "b", "\xff"} {
				list = append(list, api.Term{Kind: kind, Int: n, Name: name})
			}
		}
	}
	return list
}

// disguised returns the same term with other values in the fields that are not used.
func disguised(t api.Term) api.Term {
	junk := []api.Term{Fun("zz", Var(3)), Var(1)}
	switch t.Kind {
	case api.TVar, api.TInt:
		t.Name, t.Args = t.Name+"x", append(junk, t.Args...)
	case api.TFun:
		t.Int += 12345
		args := []api.Term{}
		for _, arg := range t.Args {
			args = append(args, disguised(arg))
		}
		t.Args = args
	default:
		t.Args = append(junk, t.Args...)
	}
	return t
}

func compareInts(a, b int) int {
	if a < b {
		return -1
	}
	if a > b {
		return 1
	}
	return 0
}

func checkCompare(t *testing.T, a, b api.Term, want int) {
	t.Helper()
	for _, x := range []struct{ a, b api.Term }{{a, b}, {disguised(a), b}, {a, disguised(b)}, {disguised(a), disguised(b)}} {
		if c := Compare(x.a, x.b); c != want {
			t.Errorf("Compare(%v, %v) = %d, want %d", x.a, x.b, c, want)
		}
		if Same(x.a, x.b) != (want == 0) {
			t.Errorf("Same(%v, %v) = %v", x.a, x.b, Same(x.a, x.b))
		}
	}
}

func TestP3_3Ascending(t *testing.T) {
	list := ascending()
	for i, a := range list {
		for k, b := range list {
			checkCompare(t, a, b, compareInts(i, k))
		}
	}
}

// Terms that differ in one place deep inside, or only in the last one.
func TestP3_3Inside(t *testing.T) {
	list := ascending()
	for i := range len(list) - 1 {
		first, second := around(list[i]), around(list[i+1])
		for k := range first {
			checkCompare(t, first[k], second[k], -1)
			checkCompare(t, second[k], first[k], 1)
			checkCompare(t, first[k], deepCopy(first[k]), 0)
		}
	}
}

// The order of the first different arguments decides, whatever the later ones are.
func TestP3_3FirstDifference(t *testing.T) {
	low, high := Var(0), Fun("b")
	for place := range 6 {
		a, b := some(6, Int(1)), some(6, Int(1))
		a[place], b[place] = low, high
		checkCompare(t, Fun("f", a...), Fun("f", b...), -1)
		for later := place + 1; later < 6; later++ {
			a[later], b[later] = high, low
			checkCompare(t, Fun("f", a...), Fun("f", b...), -1)
			checkCompare(t, Fun("f", b...), Fun("f", a...), 1)
		}
	}
}

func TestP3_3RandomTerms(t *testing.T) {
	g := newMaker(4)
	var list []api.Term
	for range 600 {
		list = append(list, g.term(3))
	}
	for _, a := range list {
		for _, b := range list {
			want := sign(cells(a), cells(b))
			if c := Compare(a, b); c != want || Same(a, b) != (want == 0) {
				t.Fatalf("Compare(%v, %v) = %d, want %d, Same %v", a, b, c, want, Same(a, b))
			}
		}
		checkCompare(t, a, deepCopy(a), 0)
	}
}

// A sorted list is in order everywhere, not only between neighbours.
func TestP3_3Total(t *testing.T) {
	g := newMaker(5)
	list := ascending()
	for range 300 {
		list = append(list, g.term(4))
	}
	g.random.Shuffle(len(list), func(i, k int) { list[i], list[k] = list[k], list[i] })
	slices.SortFunc(list, Compare)
	for i, a := range list {
		for k := i; k < len(list); k++ {
			if c, back := Compare(a, list[k]), Compare(list[k], a); c > 0 || back != -c || i == k && c != 0 {
				t.Fatalf("%v at %d, %v at %d: %d, %d", a, i, list[k], k, c, back)
			}
			if same := reflect.DeepEqual(cells(a), cells(list[k])); Same(a, list[k]) != same {
				t.Fatalf("Same(%v, %v) = %v", a, list[k], !same)
			}
		}
	}
}

func TestP3_3Examples(t *testing.T) {
	list := []api.Term{Var(7), Int(3), Fun("a"), Fun("f", Var(0)), Fun("g", Var(0)), Fun("f", Var(0), Var(0))}
	for i := range len(list) - 1 {
		checkCompare(t, list[i], list[i+1], -1)
	}
	if Compare(Fun("b"), Fun("a", Int(1))) != -1 {
		t.Error("an atom has fewer arguments")
	}
	long := strings.Repeat("a", 1<<16)
	checkCompare(t, Fun(long), Fun(long+"a"), -1)
	checkCompare(t, Fun(long+"b"), Fun(long+"a"), 1)
}
