package term

import (
	"math"
	"math/rand/v2"
	"slices"

	"constraint/api"
)

// maker makes random terms, valid or not, and counts, independently of the package, what it makes.
type maker struct {
	random      *rand.Rand
	size, depth int
	vars        []int
}

func newMaker(seed uint64) *maker {
	return &maker{random: rand.New(rand.NewPCG(seed, 0))}
}

// start begins the counts of a new term.
func (g *maker) start() { g.size, g.depth, g.vars = 0, 0, nil }

// term returns a term with at most a number of levels.
func (g *maker) term(levels int) api.Term { return g.make(levels, 1) }

func (g *maker) make(levels, level int) api.Term {
	g.size++
	g.depth = max(g.depth, level)
	switch kind := g.random.IntN(8); {
	case kind < 2:
		v := g.pick(0, 1, 2, 3, 4, 5, -1, api.MaxVar, math.MaxInt)
		if !slices.Contains(g.vars, v) {
			g.vars = append(g.vars, v)
		}
		return api.Term{Kind: api.TVar, Int: v, Name: g.junkName(), Args: g.junkArgs()}
	case kind < 3:
		return api.Term{Kind: api.TInt, Int: g.number(), Name: g.junkName(), Args: g.junkArgs()}
	case kind < 4:
		return api.Term{Kind: g.pick(3, 4, -1, -2), Int: g.pick(0, 1, -1), Name: g.name(), Args: g.junkArgs()}
	}
	x := api.Term{Kind: api.TFun, Name: g.name()}
	if g.random.IntN(4) == 0 {
		x.Int = g.number()
	}
	if levels > 1 {
		for range g.random.IntN(4) {
			x.Args = append(x.Args, g.make(levels-1, level+1))
		}
	}
	return x
}

func (g *maker) pick(list ...int) int { return list[g.random.IntN(len(list))] }

func (g *maker) number() int {
	return g.pick(0, 1, 2, -1, -2, 10, 9, api.MaxInt, -api.MaxInt, math.MaxInt, math.MinInt)
}

func (g *maker) name() string {
	list := []string{"a", "b", "f", "ab", "A", "", "\xff", "+", "a", "f"}
	return list[g.random.IntN(len(list))]
}

// junkName and junkArgs fill, now and then, fields that are not used.
func (g *maker) junkName() string {
	if g.random.IntN(4) == 0 {
		return g.name()
	}
	return ""
}

func (g *maker) junkArgs() []api.Term {
	if g.random.IntN(4) > 0 {
		return nil
	}
	list := []api.Term{Var(6), Fun("f", Var(7)), Int(3)}
	return list[g.random.IntN(3):]
}
