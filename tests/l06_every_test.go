package tests

import (
	"math"
	"math/rand/v2"
	"slices"
	"testing"

	"loop.example/g01105/impl"
)

// arguments6 are arguments for every function of chapter 6.
type arguments6 struct {
	List           []impl.Term
	Symbol, Budget int64
	Multipliers    []int64
	Goal           impl.Term
	S              impl.Sequent
	Sequents       []impl.Sequent
	Proofs         [][]impl.Node
	P              impl.Program
}

// allOfChapter6 returns what every function of chapter 6 returns for arguments.
func allOfChapter6(x arguments6) [][]any {
	var all [][]any
	add := func(values ...any) { all = append(all, values) }
	terms, ok := impl.EliminateSymbol(x.List, x.Symbol)
	add(terms, ok)
	multipliers, ok := impl.RefuteFacts(x.List)
	add(multipliers, ok)
	add(impl.IsRefuted(x.List, x.Multipliers))
	cut, multipliers, ok := impl.FirstCut(x.List)
	add(cut, multipliers, ok)
	least, ok := impl.LeastOf(x.List, x.Goal)
	add(least, ok)
	p, ok := impl.ProveSequent(x.S, x.Budget)
	add(p, ok)
	proofs, ok := impl.ProveAll(x.Sequents, x.Budget)
	add(proofs, ok)
	open, ok := impl.FirstOpen(x.Sequents, x.Budget)
	add(open, ok)
	core, ok := impl.CoreOf(x.S, x.Budget)
	add(core, ok)
	add(impl.AreProved(x.Sequents, x.Proofs))
	proofs, ok = impl.ProveProgram(x.P, x.Budget)
	add(proofs, ok)
	return all
}

// contexts returns the contexts of sequents, some of which have cuts.
func contexts(list []impl.Sequent) [][]impl.Term {
	var all [][]impl.Term
	for _, s := range list {
		all = append(all, contextAgain(s))
	}
	return all
}

// someArguments6 returns arguments from a fixed seed, valid ones more often than others.
func someArguments6(count int) []arguments6 {
	random := rand.New(rand.NewPCG(53, 54))
	lists := slices.Concat(manyLists(150), tightLists(150), contexts(thinSequents(300)), short(badLists())[:20])
	sequents := slices.Concat(thinSequents(400), validSequents(), short(badSequents()))
	numbers := append(slices.Repeat([]int64{0, 1, 2, 3, 5, 9}, 40), oddNumbers()...)
	goals := append(validTerms(), short(badTerms())...)
	programs := slices.Concat(guardedPrograms(200), tamePrograms(40), short(badPrograms()))
	known := manyProofs(100)
	var all []arguments6
	for range count {
		x := arguments6{List: lists[random.IntN(len(lists))], Symbol: numbers[random.IntN(len(numbers))], Budget: numbers[random.IntN(len(numbers))], Goal: goals[random.IntN(len(goals))], S: sequents[random.IntN(len(sequents))], P: programs[random.IntN(len(programs))]}
		x.Multipliers, _ = impl.RefuteFacts(x.List)
		if len(x.Multipliers) > 0 && random.IntN(3) == 0 {
			x.Multipliers[random.IntN(len(x.Multipliers))] = random.Int64N(5) - 1
		}
		for range random.IntN(4) {
			y := known[random.IntN(len(known))]
			x.Sequents, x.Proofs = append(x.Sequents, y.S), append(x.Proofs, y.P)
		}
		switch random.IntN(6) {
		case 0:
			x.Sequents = append(x.Sequents, x.S)
		case 1:
			x.Proofs = append(x.Proofs, nodesOf("c1,1"))
		}
		all = append(all, x)
	}
	return all
}

func TestEveryFunctionOfChapter6(t *testing.T) {
	callEvery(t, someArguments6(1500), allOfChapter6, 100)
}

// TestLongArgumentsOfChapter6 calls each function with arguments that are much too long.
func TestLongArgumentsOfChapter6(t *testing.T) {
	numbers := repeated(math.MinInt64, 100000)
	long := fact(math.MinInt64, numbers...)
	terms, nodes := factsOf(fact(-1), 100000), slices.Repeat([]impl.Node{closing(numbers...)}, 1000)
	for _, p := range longPrograms() {
		x := arguments6{terms, 0, 60, numbers, long, sequent(fact(0), terms...), slices.Repeat([]impl.Sequent{claim("=>0")}, 100000), slices.Repeat([][]impl.Node{nodesOf("c1")}, 100000), p}
		callsFail(t, allOfChapter6(x))
		x.List, x.Goal, x.Multipliers = []impl.Term{long}, fact(0), repeated(1, 100000)
		x.S, x.Sequents, x.Proofs = sequent(long), []impl.Sequent{sequent(long, terms...)}, [][]impl.Node{nodes}
		callsFail(t, allOfChapter6(x))
		x.List, x.Goal, x.Symbol, x.Budget = nil, long, math.MaxInt64, math.MinInt64
		callsFail(t, allOfChapter6(x))
	}
}

func TestNilAndEmptyOfChapter6(t *testing.T) {
	callWithEmpty(t, []arguments6{
		{}, {Budget: 1, P: programOf(skip())}, {List: []impl.Term{fact(-1)}, Multipliers: []int64{1}, S: sequent(fact(0)), Sequents: []impl.Sequent{sequent(fact(0)), {}}, Proofs: [][]impl.Node{nodesOf("c1"), nodesOf("c1")}, Budget: 1, P: programOf(assert(fact(1)))},
		{List: listOf("2a-1;a;-a"), Goal: fact(3), S: sequent(fact(0), fact(0), fact(-1)), Sequents: []impl.Sequent{{}}, Proofs: [][]impl.Node{nil}, Budget: 60, P: read(t, "get a 1", "emit 1")},
	}, allOfChapter6)
}

func TestSharedArgumentsOfChapter6(t *testing.T) {
	callTogether(t, someArguments6(40), allOfChapter6)
}

func TestResultsOfChapter6AreNew(t *testing.T) {
	callAndOverwrite(t, someArguments6(300), allOfChapter6)
}
