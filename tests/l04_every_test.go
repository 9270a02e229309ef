package tests

import (
	"math"
	"math/rand/v2"
	"slices"
	"testing"

	"loop.example/g01105/impl"
)

// arguments4 are arguments for every function of chapter 4.
type arguments4 struct {
	P     impl.Program
	Start int64
	State impl.State
}

// allOfChapter4 returns what every function of chapter 4 returns for arguments.
func allOfChapter4(x arguments4) [][]any {
	var all [][]any
	add := func(values ...any) { all = append(all, values) }
	loops, ok := impl.LoopsOf(x.P)
	add(loops, ok)
	facts, ok := impl.StartFacts(x.P, x.Start)
	add(facts, ok)
	holds, ok := impl.HoldsAt(x.P, x.Start, x.State)
	add(holds, ok)
	paths, ok := impl.PathsOfProgram(x.P)
	add(paths, ok)
	paths, ok = impl.PathsFrom(x.P, x.Start)
	add(paths, ok)
	conditions, ok := impl.ConditionsOfProgram(x.P)
	add(conditions, ok)
	conditions, ok = impl.ConditionsFrom(x.P, x.Start)
	add(conditions, ok)
	return all
}

// someArguments4 returns arguments from a fixed seed, valid ones more often than others.
func someArguments4(count int) []arguments4 {
	random := rand.New(rand.NewPCG(23, 24))
	programs := slices.Concat(manyPrograms(100), tamePrograms(100), crowdedPrograms(100), short(badPrograms()))
	starts := append(slices.Repeat([]int64{-1, 0, 1, 2, -2, 30}, 20), oddNumbers()...)
	states := append(slices.Repeat(manyStates(), 10), short(badStates())...)
	var all []arguments4
	for range count {
		all = append(all, arguments4{programs[random.IntN(len(programs))], starts[random.IntN(len(starts))], states[random.IntN(len(states))]})
	}
	return all
}

func TestEveryFunctionOfChapter4(t *testing.T) {
	callEvery(t, someArguments4(1200), allOfChapter4, 100)
}

// TestLongArgumentsOfChapter4 calls each function with arguments that are much too long.
func TestLongArgumentsOfChapter4(t *testing.T) {
	numbers := repeated(math.MaxInt64, 100000)
	for _, p := range longPrograms() {
		callsFail(t, allOfChapter4(arguments4{p, -1, impl.State{Vars: numbers, Cells: numbers}}))
	}
}

func TestNilAndEmptyOfChapter4(t *testing.T) {
	var list []arguments4
	for _, p := range []impl.Program{programOf(skip()), programOf(sequence(get(0, fact(1)), emit(2), while(fact(-1), skip()))), {}} {
		for _, start := range []int64{-1, 0} {
			list = append(list, arguments4{p, start, state()})
		}
	}
	callWithEmpty(t, list, allOfChapter4)
}

func TestSharedArgumentsOfChapter4(t *testing.T) {
	callTogether(t, someArguments4(40), allOfChapter4)
}

func TestResultsOfChapter4AreNew(t *testing.T) {
	callAndOverwrite(t, someArguments4(200), allOfChapter4)
}
