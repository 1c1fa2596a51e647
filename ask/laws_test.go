package ask

import (
	"testing"

	"constraint/api"
)

// opposites are the results of a test that holds where another one does not.
var opposites = map[int]int{api.Unknown: api.Unknown, api.Entailed: api.Refuted, api.Refuted: api.Entailed}

// checkStays checks that a goal that is entailed or refuted is so under a store, and returns the result; or Unknown if the
// goal is neither, or not valid, or not valid under the store.
func checkStays(t *testing.T, b api.Binds, g api.Goal) int {
	t.Helper()
	if !wantValidGoal(g) || !wantValidGoal(wantUnder(b, g)) {
		return api.Unknown
	}
	result := Test(g)
	if got := In(b, nil, g); result != api.Unknown && got != result {
		t.Errorf("the result of %s is %d, but %d under %s", short(g), result, got, short(b))
	}
	return result
}

func TestP11_4StaysAll(t *testing.T) {
	counts := map[int]int{}
	stores := smallStores()
	for i, g := range smallGoals() {
		// All stores for each goal would take too long.
		for k := i % 13; k < len(stores); k += 13 {
			counts[checkStays(t, stores[k], g)]++
		}
	}
	checkCounts(t, counts, 5000)
}

func TestP11_4StaysRandom(t *testing.T) {
	g := newMaker(5, 0, 1, 2, 3, api.MaxVar)
	counts := map[int]int{}
	for i := range 30000 {
		counts[checkStays(t, g.store(6, 1+i%4), g.goal(1+i%4))]++
	}
	checkCounts(t, counts, 3000)
}

// checkOpposite checks that two tests have opposite results under a store, and returns that of the first one.
func checkOpposite(t *testing.T, b api.Binds, x, y api.Goal) int {
	t.Helper()
	first, second := Test(x), Test(y)
	if second != opposites[first] {
		t.Errorf("the results of %s and %s are %d and %d", short(x), short(y), first, second)
	}
	if !wantValidGoal(wantUnder(b, x)) {
		return first
	}
	if first, second := In(b, nil, x), In(b, nil, y); second != opposites[first] {
		t.Errorf("under %s the results of %s and %s are %d and %d", short(b), short(x), short(y), first, second)
	}
	return first
}

func TestP11_4Terms(t *testing.T) {
	counts := map[int]int{}
	stores := smallStores()
	terms := append(smallTerms(), variable(2), functor("f", variable(2)), functor("g", variable(2), variable(0)))
	for i, x := range terms {
		for k, y := range terms {
			for at := (i + k) % 17; at < len(stores); at += 17 {
				counts[checkOpposite(t, stores[at], goalOf(api.OpSame, x, y), goalOf(api.OpApart, x, y))]++
			}
		}
	}
	checkCounts(t, counts, 500)
	g := newMaker(6, 0, 1, 2, 3, api.MaxVar)
	counts = map[int]int{}
	for i := range 20000 {
		x, y := g.pair(1 + i%4)
		counts[checkOpposite(t, g.store(5, 1+i%3), goalOf(api.OpSame, x, y), goalOf(api.OpApart, x, y))]++
	}
	checkCounts(t, counts, 1500)
}

func TestP11_4Integers(t *testing.T) {
	list := []int{0, 1, -1, 2, -2, 7, 65536, api.MaxInt - 1, api.MaxInt, 1 - api.MaxInt, -api.MaxInt}
	g := newMaker(7, 0)
	for range 200 {
		list = append(list, g.random.IntN(2*api.MaxInt+1)-api.MaxInt)
	}
	counts := map[int]int{}
	for _, n := range list {
		for _, m := range list {
			x, y := number(n), number(m)
			counts[checkOpposite(t, nil, goalOf(api.OpLess, x, y), goalOf(api.OpLeq, y, x))]++
			counts[checkOpposite(t, nil, goalOf(api.OpEqual, x, y), goalOf(api.OpUnequal, x, y))]++
			b := api.Binds{bind(0, x), bind(1, y)}
			v, w := variable(0), variable(1)
			for _, pair := range [][2]api.Goal{{goalOf(api.OpLess, v, w), goalOf(api.OpLeq, w, v)}, {goalOf(api.OpEqual, v, w), goalOf(api.OpUnequal, v, w)}} {
				if first, second := In(b, nil, pair[0]), In(b, nil, pair[1]); first == api.Unknown || second != opposites[first] {
					t.Errorf("under %v the results of %v and %v are %d and %d", b, pair[0], pair[1], first, second)
				}
			}
		}
	}
	if counts[api.Unknown] > 0 || counts[api.Entailed] < 1000 || counts[api.Refuted] < 1000 {
		t.Errorf("the numbers of results are %v", counts)
	}
}

// checkHolds checks that a test that follows from an entailed one is entailed, and returns whether both is so.
func checkHolds(t *testing.T, b api.Binds, a, g api.Goal) bool {
	t.Helper()
	if !Follows(a, g) {
		return false
	}
	// Under a store the arguments are the same again, so that it still follows.
	if x, y := In(b, nil, a), In(b, nil, g); x == api.Entailed && y != x {
		t.Errorf("%s follows from %s, but its result under %s is %d", short(g), short(a), short(b), y)
	}
	if Test(a) != api.Entailed {
		return false
	}
	if got := Test(g); got != api.Entailed {
		t.Errorf("%s follows from %s, but its result is %d", short(g), short(a), got)
	}
	return true
}

func TestP11_4FollowsAll(t *testing.T) {
	terms := append(smallTerms(), number(3), number(-1), functor("-", number(4), number(2)))
	stores := smallStores()
	count := 0
	for i, x := range terms {
		for k, y := range terms {
			for _, from := range tests {
				for _, to := range tests {
					for _, args := range [][]api.Term{{x, y}, {y, x}, {x}} {
						b := stores[(i*31+k*7+from*3+to)%len(stores)]
						if checkHolds(t, b, goalOf(from, x, y), goalOf(to, args...)) {
							count++
						}
						if checkHolds(t, b, goalOf(from, x), goalOf(to, args...)) {
							count++
						}
					}
				}
			}
		}
	}
	if count < 1000 {
		t.Errorf("only %d tests follow from entailed ones", count)
	}
}

func TestP11_4FollowsRandom(t *testing.T) {
	g := newMaker(8, 0, 1, 2, api.MaxVar)
	count := 0
	for i := range 60000 {
		b := g.store(4, 1+i%3)
		x := g.goal(1 + i%3)
		if checkHolds(t, b, x, g.related(b, x)) {
			count++
		}
	}
	if count < 3000 {
		t.Errorf("only %d of the random tests follow from entailed ones", count)
	}
}
