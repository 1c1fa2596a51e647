package ask

import (
	"slices"
	"testing"

	"constraint/api"
)

// checkFollows compares Follows with the wanted result and with that of the definition.
func checkFollows(t *testing.T, a, g api.Goal, want bool) {
	t.Helper()
	if result := wantFollows(a, g); result != want {
		t.Errorf("whether %s follows from %s is %v, not %v", short(g), short(a), result, want)
	}
	list := roomyGoals([]api.Goal{a, g})
	defer watch(t, nil, list)()
	if got := Follows(list[0], list[1]); got != want {
		t.Errorf("Follows(%s, %s) = %v, not %v", short(a), short(g), got, want)
	}
}

func TestP11_3Table(t *testing.T) {
	for _, args := range [][2]string{{"V0", "V1"}, {"V0", "3"}, {"1 + V0", "f(a, V2)"}, {"2", "1"}, {"a", "b"}, {"V0", "f(V0)"}} {
		straight, exchanged := args, [2]string{args[1], args[0]}
		for from, table := range map[string]struct{ straight, exchanged []string }{
			"<":   {[]string{"<", "=<", `=\=`}, []string{`=\=`}},
			"=<":  {[]string{"=<"}, nil},
			"=:=": {[]string{"=:=", "=<"}, []string{"=:=", "=<"}},
			`=\=`: {[]string{`=\=`}, []string{`=\=`}},
			"==":  {[]string{"=="}, []string{"=="}},
			`\=`:  {[]string{`\=`}, []string{`\=`}},
		} {
			for _, to := range []string{"<", "=<", "=:=", `=\=`, "==", `\=`, "=", "is"} {
				a := goal(t, args[0]+" "+from+" "+args[1])
				checkFollows(t, a, goal(t, straight[0]+" "+to+" "+straight[1]), slices.Contains(table.straight, to))
				checkFollows(t, a, goal(t, exchanged[0]+" "+to+" "+exchanged[1]), slices.Contains(table.exchanged, to))
				// with other arguments
				checkFollows(t, a, goal(t, args[0]+" "+to+" V9"), false)
				checkFollows(t, a, goal(t, "V9 "+to+" "+args[1]), false)
				checkFollows(t, a, goal(t, args[1]+" "+to+" V9"), false)
				checkFollows(t, a, goal(t, "V9 "+to+" "+args[0]), false)
				checkFollows(t, a, goal(t, args[0]+" "+to+" "+args[0]), false)
			}
		}
	}
}

// With two identical arguments, their order does not matter.
func TestP11_3Identical(t *testing.T) {
	x := read(t, "f(V0, 1 + a)")
	pairs := map[int][]int{api.OpSame: {api.OpSame}, api.OpApart: {api.OpApart}, api.OpLess: {api.OpLess, api.OpLeq, api.OpUnequal}, api.OpLeq: {api.OpLeq}, api.OpEqual: {api.OpEqual, api.OpLeq}, api.OpUnequal: {api.OpUnequal}}
	for from, list := range pairs {
		for to := range pairs {
			checkFollows(t, goalOf(from, x, x), goalOf(to, x, x), slices.Contains(list, to))
		}
	}
}

func TestP11_3OneArgument(t *testing.T) {
	for _, x := range [][2]string{{"int(V0)", "int(V0)"}, {"int(a)", "int(a)"}, {"ground(V0)", "ground(V0)"}, {"ground(f(V0, V1))", "ground(f(V0, V1))"}} {
		checkFollows(t, goal(t, x[0]), goal(t, x[1]), true)
	}
	for _, x := range [][2]string{
		{"int(V0)", "int(V1)"}, {"int(V0)", "ground(V0)"}, {"ground(V0)", "int(V0)"}, {"int(3)", "ground(3)"}, {"ground(f(V0, V1))", "ground(f(V1, V0))"}, {"ground(f(V0))", "ground(V0)"}, {"ground(V0)", "ground(f(V0))"}, {"int(V0)", "V0 == V0"}, {"int(V0)", "V0 =< V0"}, {"V0 =:= V0", "int(V0)"}, {"V0 == V1", "ground(V0)"}, {"V0 < V1", "int(V0)"}, {"int(V0)", "int(1)"},
		// true of all values, but not by the form
		{"int(V0)", "3 < 5"}, {"V0 < V1", "3 < 5"}, {"V0 < V1", "V0 < V1 + 1"}, {"V0 < 3", "V0 < 4"}, {"V0 == V1", "V0 =:= V1"}, {"V0 == V1", "f(V0) == f(V1)"}, {"V0 < V1", `V0 \= V1`}, {`V0 =\= V1`, `V0 \= V1`}, {"2 < 1", "V0 < V1"}, {"1 + 2 < V0", "3 < V0"},
	} {
		checkFollows(t, goal(t, x[0]), goal(t, x[1]), false)
	}
}

// Nothing follows from a goal that is not a test, and no such goal follows.
func TestP11_3Invalid(t *testing.T) {
	texts := []string{"true", "fail", "V0 = V1", "V1 = V0", "V0 is V1", "p", "p(V0, V1)", "V0 < V1", "V0 =:= V1", "V0 == V1", "int(V0)", "3 < 5"}
	for i, x := range texts {
		for k, y := range texts {
			checkFollows(t, goal(t, x), goal(t, y), i >= 7 && i == k)
		}
	}
	good := goals(t, `V0 < V1; 1 < 1; 1 =:= 1; V0 == V0; 1 \= 2; int(1); ground(V0)`)
	for _, bad := range invalidGoals() {
		checkFollows(t, bad, bad, false)
		for _, g := range good {
			checkFollows(t, bad, g, false)
			checkFollows(t, g, bad, false)
		}
		if len(bad.Args) == 2 {
			exchanged := goalOf(bad.Op, bad.Args[1], bad.Args[0])
			checkFollows(t, bad, exchanged, false)
			checkFollows(t, exchanged, bad, false)
		}
	}
	loop := cyclic()
	for _, op := range tests {
		for _, x := range [][2]api.Goal{{goalOf(op, loop, loop), goalOf(op, loop, loop)}, {goalOf(op, number(1), number(2)), goalOf(op, number(1), loop)}, {goalOf(op, loop), goalOf(op, loop)}} {
			if Follows(x[0], x[1]) {
				t.Errorf("a goal with the operator %d and a term that contains itself follows", op)
			}
		}
	}
}

func TestP11_3Large(t *testing.T) {
	for _, leaf := range []api.Term{number(1), variable(1)} {
		a, b := wide(100, leaf), high(19, leaf)
		for _, op := range []int{api.OpSame, api.OpApart, api.OpEqual, api.OpUnequal} {
			checkFollows(t, goalOf(op, a, b), goalOf(op, b, a), true)
			checkFollows(t, goalOf(op, a, b), goalOf(op, b, wide(99, leaf)), false)
			checkFollows(t, goalOf(op, a, wide(101, leaf)), goalOf(op, wide(101, leaf), a), false)
		}
		checkFollows(t, goalOf(api.OpGround, wide(200, leaf)), goalOf(api.OpGround, wide(200, leaf)), true)
		checkFollows(t, goalOf(api.OpGround, wide(201, leaf)), goalOf(api.OpGround, wide(201, leaf)), false)
	}
}

func TestP11_3All(t *testing.T) {
	list := smallGoals()
	count := map[bool]int{}
	for i, a := range list {
		for k, g := range list {
			// All pairs would take too long: those of the same terms, and some of the others.
			if (i+k)%31 != 0 && len(a.Args) == 2 && len(g.Args) == 2 && !equal(a.Args[0], g.Args[0]) && !equal(a.Args[0], g.Args[1]) {
				continue
			}
			want := wantFollows(a, g)
			if got := Follows(a, g); got != want {
				t.Fatalf("Follows(%v, %v) = %v, not %v", a, g, got, want)
			}
			count[want]++
		}
	}
	if count[true] < 3000 || count[false] < 3000 {
		t.Errorf("%d of the pairs follow, %d do not", count[true], count[false])
	}
}

func TestP11_3Random(t *testing.T) {
	g := newMaker(4, 0, 1, 2, api.MaxVar)
	badGoals := invalidGoals()
	count := map[bool]int{}
	for i := range 30000 {
		a := g.goal(1 + i%3)
		b := g.related(nil, a)
		if i%30 == 0 {
			b = pick(g, badGoals...)
		}
		if i%3 == 0 && len(b.Args) == 2 {
			b.Args = []api.Term{b.Args[1], b.Args[0]}
		}
		want := wantFollows(a, b)
		checkFollows(t, a, b, want)
		count[want]++
	}
	if count[true] < 3000 || count[false] < 3000 {
		t.Errorf("%d of the random pairs follow, %d do not", count[true], count[false])
	}
}
