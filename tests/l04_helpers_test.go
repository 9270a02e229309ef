package tests

import (
	"fmt"
	"math/rand/v2"
	"slices"
	"strings"
	"testing"

	"loop.example/g01105/impl"
)

// termsText returns the texts of terms, each followed by a mark.
func termsText(list []impl.Term, mark string) string {
	var text strings.Builder
	for _, t := range list {
		part, ok := impl.TermText(t)
		if !ok {
			part = fmt.Sprintf("(%v)", t)
		}
		text.WriteString(part + mark)
	}
	return text.String()
}

// pathTexts returns a text for each path: its starts, its facts, its ends and its events.
func pathTexts(list []impl.Path) []string {
	var texts []string
	for _, p := range list {
		texts = append(texts, fmt.Sprintf("%d>%d %s|%s|%v", p.From, p.To, termsText(p.Facts, ";"), termsText(p.Ends, ","), p.Events))
	}
	return texts
}

func sequentTexts(list []impl.Sequent) []string {
	var texts []string
	for _, s := range list {
		text, ok := impl.SequentText(s)
		if !ok {
			text = fmt.Sprintf("(%v)", s)
		}
		texts = append(texts, text)
	}
	return texts
}

// arePaths requires the texts of the paths from a start.
func arePaths(t *testing.T, p impl.Program, start int64, want ...string) {
	t.Helper()
	list, ok := impl.PathsFrom(p, start)
	same(t, "paths", results(pathTexts(list), ok), results(want, true))
}

// areConditions requires the texts of the conditions of a start.
func areConditions(t *testing.T, p impl.Program, start int64, want ...string) {
	t.Helper()
	list, ok := impl.ConditionsFrom(p, start)
	same(t, "conditions", results(sequentTexts(list), ok), results(want, true))
}

// exist reports whether a start has paths, and whether it has conditions. Where it has none, all results must be zero values.
func exist(t *testing.T, p impl.Program, start int64) (bool, bool) {
	t.Helper()
	paths, one := impl.PathsFrom(p, start)
	conditions, two := impl.ConditionsFrom(p, start)
	if !one {
		fails(t, "PathsFrom", paths, one)
	}
	if !two {
		fails(t, "ConditionsFrom", conditions, two)
	}
	return one, two
}

// allExist is exist for all starts together.
func allExist(t *testing.T, p impl.Program) (bool, bool) {
	t.Helper()
	paths, one := impl.PathsOfProgram(p)
	conditions, two := impl.ConditionsOfProgram(p)
	if !one {
		fails(t, "PathsOfProgram", paths, one)
	}
	if !two {
		fails(t, "ConditionsOfProgram", conditions, two)
	}
	return one, two
}

// choose returns a body with some parts, one of which is executed.
func choose(parts ...[]impl.Stmt) []impl.Stmt {
	if len(parts) == 1 {
		return parts[0]
	}
	return ifElse(alone(0, 1), parts[0], choose(parts[1:]...))
}

// ways returns a body that does nothing in a number of ways.
func ways(count int) []impl.Stmt {
	return choose(slices.Repeat([][]impl.Stmt{skip()}, count)...)
}

// tame returns a term whose numbers stay small where it is replaced again and again.
func tame(random *rand.Rand) impl.Term {
	t := fact(random.Int64N(10) - 3)
	if random.IntN(4) > 0 {
		t.Coeffs = alone(random.IntN(4), random.Int64N(2)*2-1).Coeffs
	}
	return t
}

func tameTerms(random *rand.Rand, limit int) []impl.Term {
	var list []impl.Term
	for range random.IntN(limit + 1) {
		list = append(list, tame(random))
	}
	return list
}

func tameBody(random *rand.Rand, size int) []impl.Stmt {
	v := random.Int64N(4)
	switch kind := random.IntN(8); {
	case size == 1:
		leaves := [][]impl.Stmt{skip(), set(v, tame(random)), get(v, tame(random)), put(tame(random), tame(random)), emit(v), assert(tame(random)), set(v, fact(random.Int64N(8))), emit(3)}
		return leaves[kind]
	case size == 2 || kind == 0:
		return while(tame(random), tameBody(random, size-1), tameTerms(random, 3)...)
	default:
		first := 1 + random.IntN(size-2)
		one, two := tameBody(random, first), tameBody(random, size-1-first)
		if kind <= 2 {
			return ifElse(tame(random), one, two)
		}
		return both(one, two)
	}
}

// tamePrograms returns programs most of which have paths and conditions.
func tamePrograms(count int) []impl.Program {
	random := rand.New(rand.NewPCG(19, 20))
	var list []impl.Program
	for i := range count {
		list = append(list, impl.Program{Pre: tameTerms(random, 3), Body: tameBody(random, 1+i%30), Post: tameTerms(random, 3)})
	}
	return list
}

// crowdedPrograms returns programs at and beyond the limits of paths, facts, symbols and conditions.
func crowdedPrograms(count int) []impl.Program {
	random := rand.New(rand.NewPCG(21, 22))
	parts := [][]impl.Stmt{
		ways(2), ways(3), ways(4), choose(emit(0), emit(1)), choose(put(fact(3), fact(0)), emit(2)), get(1, alone(1, 1)), assert(alone(2, 1)), put(alone(0, 1), alone(1, 1)),
		sequence(assert(alone(0, 1)), assert(alone(1, -1))), sequence(get(0, fact(1)), get(0, alone(0, 1))), while(alone(3, 1), get(3, fact(7)), alone(1, 1)),
	}
	var list []impl.Program
	for range count {
		body := parts[random.IntN(len(parts))]
		for range 8 {
			if next := both(body, parts[random.IntN(len(parts))]); len(next) <= 30 {
				body = next
			}
		}
		list = append(list, impl.Program{Pre: tameTerms(random, 6), Body: body, Post: tameTerms(random, 6)})
	}
	return list
}
