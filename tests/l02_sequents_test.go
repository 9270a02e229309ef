package tests

import (
	"math"
	"math/rand/v2"
	"slices"
	"testing"

	"loop.example/g01105/impl"
)

func sequent(goal impl.Term, facts ...impl.Term) impl.Sequent {
	return impl.Sequent{Facts: facts, Goal: goal}
}

// validSequents are sequents at the limits and others from a fixed seed, with few symbols and small numbers.
func validSequents() []impl.Sequent {
	list := []impl.Sequent{
		{}, sequent(fact(-1)), sequent(fact(-1, 1), alone(0, 1)), sequent(fact(1e6)), sequent(fact(1e6, 1), fact(-1e6)), sequent(fact(-1e6, repeated(1, 10)...), factsOf(fact(1e6, repeated(-1e6, 10)...), 13)...),
		sequent(alone(9, 1), factsOf(fact(0), 13)...), sequent(alone(4, 1), alone(0, 1), alone(1, 1), alone(2, 1), alone(3, 1)), sequent(alone(3, 1), alone(0, 1), alone(1, 1), alone(2, 1)),
	}
	random := rand.New(rand.NewPCG(5, 6))
	for range 60 {
		symbols := random.Perm(10)[:1+random.IntN(3)]
		small := func() impl.Term {
			x := fact(random.Int64N(9) - 4)
			for _, symbol := range symbols {
				n := []int64{-3, -1, 0, 1, 2}[random.IntN(5)]
				x, _ = impl.AddTerms(x, []impl.Term{alone(symbol, n), fact(0)}[random.IntN(2)])
			}
			return x
		}
		s := sequent(small())
		for range random.IntN(5) {
			s.Facts = append(s.Facts, small())
		}
		if impl.ValidSequent(s) {
			list = append(list, s)
		}
	}
	return list
}

func badSequents() []impl.Sequent {
	list := []impl.Sequent{sequent(fact(0), factsOf(fact(0), 14)...), sequent(fact(-1), factsOf(alone(0, 1), 15)...), sequent(fact(-1), factsOf(fact(0), 100000)...)}
	for _, bad := range badTerms() {
		list = append(list, sequent(bad), sequent(bad, fact(0)), sequent(fact(-1), bad), sequent(fact(-1), fact(0), bad), sequent(fact(-1), bad, fact(0)), sequent(fact(-1), append(factsOf(fact(0), 12), bad)...))
	}
	return list
}

func TestValidFacts(t *testing.T) {
	for _, list := range [][]impl.Term{nil, {}, {fact(0)}, factsOf(fact(-1), 14), validTerms()[:14], validTerms()[20:33]} {
		same(t, shown(list), impl.ValidFacts(list), true)
	}
	for _, list := range append(badLists(), append(factsOf(fact(0), 13), fact(0, 0)), validTerms()[:15]) {
		same(t, shown(list), impl.ValidFacts(list), false)
	}
}

func TestValidSequent(t *testing.T) {
	for _, s := range validSequents() {
		same(t, shown(s), impl.ValidSequent(s), true)
	}
	for _, s := range badSequents() {
		same(t, shown(s), impl.ValidSequent(s), false)
	}
	same(t, "13 facts", impl.ValidSequent(sequent(fact(0), factsOf(fact(1), 13)...)), true)
	same(t, "14 facts", impl.ValidSequent(sequent(fact(0), factsOf(fact(1), 14)...)), false)
}

func TestContextOf(t *testing.T) {
	cases := []struct {
		s    impl.Sequent
		list []impl.Term
	}{
		{sequent(fact(-1, 1), alone(0, 1)), []impl.Term{alone(0, 1), alone(0, -1)}}, {impl.Sequent{}, []impl.Term{fact(-1)}}, {sequent(fact(3, 2, -1)), []impl.Term{fact(-4, -2, 1)}}, {sequent(fact(999999)), []impl.Term{fact(-1e6)}},
		{sequent(fact(-1e6)), []impl.Term{fact(999999)}}, {sequent(fact(1), fact(1e6), alone(9, 5), fact(1e6)), []impl.Term{fact(1e6), alone(9, 5), fact(1e6), fact(-2)}}, {sequent(fact(-1), factsOf(alone(1, 2), 13)...), append(factsOf(alone(1, 2), 13), fact(0))},
	}
	for _, c := range cases {
		list, ok := impl.ContextOf(c.s)
		same(t, shown(c.s), results(list, ok), results(c.list, true))
	}
	for _, s := range append(badSequents(), sequent(fact(1e6)), sequent(fact(1e6, 1), fact(0)), sequent(fact(1e6), factsOf(fact(0), 13)...)) {
		list, ok := impl.ContextOf(s)
		fails(t, shown(s), list, ok)
	}
	for _, s := range validSequents() {
		list, ok := impl.ContextOf(s)
		same(t, "context", ok, s.Goal.Const < 1e6)
		for _, values := range validValues() {
			if ok {
				same(t, shown(s), impl.IsCounter(s, values), allHold(list, values))
			}
		}
	}
}

func TestIsCounter(t *testing.T) {
	s := sequent(fact(-1, 1), alone(0, 1))
	cases := []struct {
		s      impl.Sequent
		values []int64
		is     bool
	}{
		{s, at(), true}, {s, at(1), false}, {s, at(-1), false}, {s, at(0, 5), true}, {sequent(fact(-1)), at(), true}, {sequent(fact(0)), at(), false}, {impl.Sequent{}, at(), false}, {sequent(fact(-1), fact(0)), at(), true},
		{sequent(fact(-1), fact(-1)), at(), false}, {sequent(fact(-1), fact(0), fact(0), fact(-1)), at(), false}, {sequent(fact(-1), append(factsOf(fact(0), 12), alone(9, 1))...), repeated(-1, 10), false}, {sequent(fact(-1), append(factsOf(fact(0), 12), alone(9, 1))...), repeated(1, 10), true},
		{sequent(fact(1e6, 1)), at(-1e6 - 1), true}, {sequent(fact(1e6, 1)), at(-1e6), false}, {sequent(alone(0, 1)), at(-1e9), true}, {sequent(alone(0, -1)), at(1e9), true}, {sequent(alone(9, 1e6)), repeated(-1e9, 10), true},
		{sequent(fact(-1e6, repeated(1e6, 10)...)), repeated(-1e9, 10), true}, {sequent(fact(-1), fact(1e6, repeated(1e6, 10)...)), repeated(1e9, 10), true},
	}
	for _, c := range cases {
		same(t, shown(c.s), impl.IsCounter(c.s, c.values), c.is)
	}
	for _, values := range badValues() {
		same(t, shown(values), impl.IsCounter(s, values) || impl.IsCounter(sequent(fact(-1)), values), false)
	}
	for _, bad := range badSequents() {
		same(t, shown(bad), impl.IsCounter(bad, at()) || impl.IsCounter(bad, repeated(-1, 10)), false)
	}
	for _, s := range validSequents() {
		for _, values := range validValues() {
			same(t, shown(s), impl.IsCounter(s, values), allHold(s.Facts, values) && !allHold([]impl.Term{s.Goal}, values))
		}
	}
}

func TestLeastCounter(t *testing.T) {
	cases := []struct {
		s      impl.Sequent
		reach  int64
		values []int64
	}{
		{sequent(fact(-1, 1), alone(0, 1)), 2, at()}, {sequent(fact(-1)), 0, at()}, {sequent(fact(-1)), 4, at()}, {sequent(alone(0, 1)), 4, at(-4)}, {sequent(alone(0, 1)), 1, at(-1)}, {sequent(alone(0, -1)), 4, at(1)}, {sequent(fact(3, 0, -1)), 4, at(0, 4)},
		{sequent(fact(3, 1)), 4, at(-4)}, {sequent(alone(9, 1)), 3, append(make([]int64, 9), -3)}, {sequent(fact(0, 0, 1, 1)), 2, at(0, -2, -2)}, {sequent(alone(2, 1), fact(0, 0, 1)), 2, at(0, 0, -2)}, {sequent(fact(-1), alone(5, 1)), 2, at()},
		{sequent(fact(-1), fact(-2, 0, 0, 0, 0, 0, 1)), 2, at(0, 0, 0, 0, 0, 2)}, {sequent(fact(-16, -1, 1, -1, 1)), 4, at(-4, -4, -4, -4)}, {sequent(fact(15, -1, 1, -1, 1)), 4, at(4, -4, 4, -4)}, {sequent(alone(3, 1), alone(0, 1), alone(1, 1), alone(2, 1)), 4, at(0, 0, 0, -4)},
		{sequent(fact(-1), append(factsOf(fact(0), 12), alone(9, 1))...), 1, at()}, {sequent(fact(-1), fact(-4, 1), fact(-4, 0, 0, 1), fact(-4, 0, 0, 0, 0, 1), fact(-4, 0, 0, 0, 0, 0, 0, 1)), 4, at(4, 0, 4, 0, 4, 0, 4)},
		{sequent(fact(1e6, 1e6)), 4, at(-4)}, {sequent(fact(-1e6), factsOf(fact(1e6), 13)...), 0, at()},
	}
	for _, c := range cases {
		values, ok := impl.LeastCounter(c.s, c.reach)
		same(t, shown(c.s), results(values, ok), results(c.values, true))
	}
	five := sequent(fact(-1), alone(0, 1), alone(1, 1), alone(2, 1), alone(3, 1), alone(4, 1))
	none := []impl.Sequent{impl.Sequent{}, sequent(fact(1)), sequent(fact(4, 1)), sequent(fact(4, 0, -1)), sequent(fact(-1), fact(-1)), sequent(alone(0, 1), alone(0, 1)), sequent(fact(-1), fact(-5, 1)), five, sequent(fact(-1, repeated(1, 10)...)), sequent(alone(4, -1), alone(0, 1), alone(1, 1), alone(2, 1), alone(3, 1))}
	for _, s := range append(none, badSequents()...) {
		for _, reach := range []int64{0, 1, 4} {
			values, ok := impl.LeastCounter(s, reach)
			fails(t, shown(s), values, ok)
		}
	}
	for _, reach := range []int64{5, -1, 6, 100, math.MaxInt64, math.MinInt64} {
		values, ok := impl.LeastCounter(sequent(fact(-1)), reach)
		fails(t, "reach", values, ok)
	}
}

// counters returns all counterexamples of a sequent with numbers within the reach for its symbols, in no order that matters.
func counters(s impl.Sequent, reach int64) [][]int64 {
	all := [][]int64{make([]int64, 10)}
	for symbol := range 10 {
		uses := func(x impl.Term) bool { return symbol < len(x.Coeffs) && x.Coeffs[symbol] != 0 }
		if !slices.ContainsFunc(append(slices.Clone(s.Facts), s.Goal), uses) {
			continue
		}
		for _, values := range slices.Clone(all) {
			for n := reach; n >= -reach; n-- {
				other := slices.Clone(values)
				other[symbol] = n
				all = append(all, other)
			}
		}
	}
	return slices.DeleteFunc(all, func(values []int64) bool {
		return !allHold(s.Facts, values) || allHold([]impl.Term{s.Goal}, values)
	})
}

func TestLeastOfAllCounters(t *testing.T) {
	for _, s := range validSequents() {
		if symbols, _ := impl.SymbolsOf(append(slices.Clone(s.Facts), s.Goal)); len(symbols) > 3 {
			continue
		}
		for _, reach := range []int64{0, 1, 2, 4} {
			values, ok := impl.LeastCounter(s, reach)
			if all := counters(s, reach); len(all) > 0 {
				same(t, shown(s), results(values, ok), results(slices.MinFunc(all, slices.Compare), true))
			} else {
				fails(t, shown(s), values, ok)
			}
		}
	}
}
