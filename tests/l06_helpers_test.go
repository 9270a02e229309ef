package tests

import (
	"fmt"
	"math/rand/v2"
	"slices"
	"strings"
	"testing"

	"loop.example/g01105/impl"
)

// listOf returns the terms with the texts between semicolons.
func listOf(text string) []impl.Term {
	return termsOf(strings.FieldsFunc(text, func(r rune) bool { return r == ';' })...)
}

// spread returns terms with their symbols replaced by others, each by the one with its index.
func spread(list []impl.Term, symbols ...int) []impl.Term {
	var moved []impl.Term
	for _, x := range list {
		w := wideOf(x.Const)
		for i, n := range x.Coeffs {
			w = w.plus(n, alone(symbols[i], 1))
		}
		moved = append(moved, w.narrow())
	}
	return moved
}

// Lists by the number of their rows behind the second stage, which is the greatest one.
const (
	rows59 = "a-b;a;a+b;-a+b;-a;-a+b;-a;-a;-a+b;-a+b;-b;b;b"
	rows60 = "a-b;a+b;a-b;a+b;a;-a+b;-a;-a+b;-a+b;-a"
	rows61 = "a+b;a-b;a+b;-a;-a+b;-a;-a;-a;-a"
)

// refutes requires the multipliers that refute facts, and that they do.
func refutes(t *testing.T, list []impl.Term, want ...int64) {
	t.Helper()
	what := termsText(list, ";")
	multipliers, ok := impl.RefuteFacts(list)
	same(t, what, results(multipliers, ok), results(want, true))
	same(t, what, impl.IsRefuted(list, multipliers), true)
}

func isNotRefuted(t *testing.T, list []impl.Term) {
	t.Helper()
	multipliers, ok := impl.RefuteFacts(list)
	fails(t, shown(termsText(list, ";")), multipliers, ok)
}

// cutsBy requires the first cut, and the multipliers of its row.
func cutsBy(t *testing.T, list []impl.Term, term string, want ...int64) {
	t.Helper()
	cut, multipliers, ok := impl.FirstCut(list)
	same(t, termsText(list, ";"), results(termsText([]impl.Term{cut}, ""), multipliers, ok), results(term, want, true))
}

func hasNoCut(t *testing.T, list []impl.Term) {
	t.Helper()
	cut, multipliers, ok := impl.FirstCut(list)
	fails(t, shown(termsText(list, ";")), cut, multipliers, ok)
}

// isLeast requires the number that a goal is at least.
func isLeast(t *testing.T, list, goal string, want int64) {
	t.Helper()
	least, ok := impl.LeastOf(listOf(list), termOf(goal))
	same(t, list+" "+goal, results(least, ok), results(want, true))
}

func hasNoLeast(t *testing.T, list []impl.Term, goal impl.Term) {
	t.Helper()
	least, ok := impl.LeastOf(list, goal)
	fails(t, shown(termsText(append(slices.Clone(list), goal), ";")), least, ok)
}

// isProved requires the text of a proof, that it is accepted, and that its number of nodes is the least budget.
func isProved(t *testing.T, text, want string) {
	t.Helper()
	s := claim(text)
	size := int64(strings.Count(want, "/") + 1)
	for _, budget := range []int64{size, size + 1, 60} {
		p, ok := impl.ProveSequent(s, budget)
		same(t, text, results(textOfNodes(p), ok), results(want, true))
		isAccepted(t, s, p)
	}
	for _, budget := range []int64{size - 1, 0, -1, 61} {
		p, ok := impl.ProveSequent(s, budget)
		fails(t, text, p, ok)
	}
}

func isOpen(t *testing.T, s impl.Sequent) {
	t.Helper()
	for _, budget := range []int64{1, 30, 60} {
		p, ok := impl.ProveSequent(s, budget)
		fails(t, fmt.Sprint(sequentTexts([]impl.Sequent{s})), p, ok)
	}
}

// manyLists returns facts from a fixed seed: few ones with small numbers, many ones with tiny numbers, which have many rows, and few ones with numbers up to the limit.
func manyLists(count int) [][]impl.Term {
	random := rand.New(rand.NewPCG(43, 44))
	var lists [][]impl.Term
	for i := range count {
		var list []impl.Term
		limit := []int64{3, 1, 1000, 1000000}[i%4]
		symbols := random.Perm(10)[:2+random.IntN(3)]
		for range random.IntN([]int{7, 15, 6, 5}[i%4]) {
			x := fact(random.Int64N(2*limit+1) - limit)
			for range symbols {
				x.Coeffs = append(x.Coeffs, random.Int64N(2*limit+1)-limit)
			}
			list = append(list, spread([]impl.Term{x}, symbols...)...)
		}
		lists = append(lists, list)
	}
	return lists
}

// tightLists returns facts from a fixed seed of which some do not all hold, and some do.
func tightLists(count int) [][]impl.Term {
	random := rand.New(rand.NewPCG(45, 46))
	var lists [][]impl.Term
	for range count {
		var list []impl.Term
		for range random.IntN(8) {
			list = append(list, smallTerm(random))
		}
		lists = append(lists, list)
	}
	return lists
}

// thinSequents returns sequents from a fixed seed with facts between which there are numbers, but seldom whole ones: n y is at least c, and is at most c or a little more, where this only follows from sums of two facts.
func thinSequents(count int) []impl.Sequent {
	random := rand.New(rand.NewPCG(47, 48))
	var list []impl.Sequent
	for range count {
		var facts []impl.Term
		y := alone(random.IntN(3), 1)
		add := func(number int64, times int64, x impl.Term, sign int64) {
			facts = append(facts, wideOf(number).plus(times, y).plus(sign, x).narrow())
		}
		n := 2 + random.Int64N(3)
		c := random.Int64N(9) - 4
		for _, sign := range []int64{1, -1} {
			x, times := smallTerm(random), random.Int64N(n+1)
			add(0, sign*times, x, 1)
			add(-sign*c+random.Int64N(2)*(1-sign)/2, sign*(n-times), x, -1)
		}
		for range random.IntN(3) {
			facts = append(facts, smallTerm(random))
		}
		random.Shuffle(len(facts), func(i, k int) { facts[i], facts[k] = facts[k], facts[i] })
		list = append(list, sequent(oppositeAgain(facts[0]), facts[1:]...))
	}
	return list
}
