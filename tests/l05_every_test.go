package tests

import (
	"math"
	"math/rand/v2"
	"slices"
	"strings"
	"testing"

	"loop.example/g01105/impl"
)

// arguments5 are arguments for every function of chapter 5.
type arguments5 struct {
	S     impl.Sequent
	P, Q  []impl.Node
	K     int64
	Lemma impl.Term
	Extra []impl.Term
	Text  string
}

// allOfChapter5 returns what every function of chapter 5 returns for arguments.
func allOfChapter5(x arguments5) [][]any {
	var all [][]any
	add := func(values ...any) { all = append(all, values) }
	add(impl.IsProof(x.P))
	part, ok := impl.SubproofAt(x.P, x.K)
	add(part, ok)
	depth, ok := impl.DepthOf(x.P)
	add(depth, ok)
	context, ok := impl.ContextAt(x.S, x.P, x.K)
	add(context, ok)
	flaw, ok := impl.FirstFlaw(x.S, x.P)
	add(flaw, ok)
	add(impl.CheckProof(x.S, x.P))
	p, ok := impl.TrivialProof(x.S)
	add(p, ok)
	used, ok := impl.UsedFacts(x.S, x.P)
	add(used, ok)
	s, p, ok := impl.DropUnused(x.S, x.P)
	add(s, p, ok)
	s, p, ok = impl.LiftProof(x.S, x.P, x.Extra)
	add(s, p, ok)
	p, ok = impl.JoinProofs(x.S, x.Lemma, x.Q, x.P)
	add(p, ok)
	text, ok := impl.ProofText(x.P)
	add(text, ok)
	p, ok = impl.ReadProof(x.Text)
	add(p, ok)
	return all
}

// someArguments5 returns arguments from a fixed seed: sequents with their proofs, lemmas, and others.
func someArguments5(count int) []arguments5 {
	random := rand.New(rand.NewPCG(41, 42))
	proofs, joins := manyProofs(200), manyJoined(100)
	lists := short(append(validProofs(), badProofs()...))
	sequents := short(append(validSequents(), badSequents()...))
	terms := append(slices.Repeat(validTerms(), 2), short(badTerms())...)
	extras := append(short(badLists())[:20], nil, []impl.Term{})
	for i := range 40 {
		extras = append(extras, validTerms()[i:][:i%8])
	}
	indices := append(slices.Repeat([]int64{0, 1, 2, 3, 4, -1}, 20), oddNumbers()...)
	texts := append(short(oddStrings()), "c1,1", "t0/c0,1,1", "sa-1/c0,1,0,2/c1,0,0,2", "c", "s0/c/c", "t20/c", "c01")
	var all []arguments5
	for range count {
		x := proofs[random.IntN(len(proofs))]
		y := arguments5{x.S, x.P, lists[random.IntN(len(lists))], indices[random.IntN(len(indices))], terms[random.IntN(len(terms))], extras[random.IntN(len(extras))], texts[random.IntN(len(texts))]}
		switch random.IntN(8) {
		case 0:
			y.S = sequents[random.IntN(len(sequents))]
		case 1:
			y.P = lists[random.IntN(len(lists))]
		case 2:
			changed := changedNodes(x.P)
			y.P = changed[random.IntN(len(changed))]
		case 3, 4:
			z := joins[random.IntN(len(joins))]
			y.S, y.Lemma, y.P, y.Q = z.S, z.Lemma, z.Q, z.P
		case 5:
			y.Text = textOfNodes(x.P)
		}
		all = append(all, y)
	}
	return all
}

func TestEveryFunctionOfChapter5(t *testing.T) {
	callEvery(t, someArguments5(3000), allOfChapter5, 100)
}

// TestLongArgumentsOfChapter5 calls each function with arguments that are much too long.
func TestLongArgumentsOfChapter5(t *testing.T) {
	numbers := repeated(math.MinInt64, 100000)
	long := fact(math.MinInt64, numbers...)
	node := impl.Node{Kind: impl.ProofSplit, Fact: math.MaxInt64, Term: long, Multipliers: numbers}
	terms := factsOf(long, 1000)
	for _, p := range [][]impl.Node{{node}, slices.Repeat([]impl.Node{node}, 1000), slices.Repeat([]impl.Node{tightening(0)}, 100000), {closing(numbers...)}} {
		for _, text := range []string{strings.Repeat("c/", 100000), strings.Repeat("s", 100000), "c" + strings.Repeat("1,", 100000)} {
			callsFail(t, allOfChapter5(arguments5{sequent(long, terms...), p, p, math.MaxInt64, long, terms, text}))
			callsFail(t, allOfChapter5(arguments5{sequent(fact(-1), factsOf(fact(0), 100000)...), p, p, 0, long, terms, text}))
		}
	}
	calls := allOfChapter5(arguments5{claim("-1;=>0"), nodesOf("c1,0"), nodesOf("c1,0"), math.MaxInt64, long, factsOf(fact(0), 100000), ""})
	for _, call := range [][]any{calls[9], calls[10]} {
		fails(t, "long facts", call...)
	}
}

func TestNilAndEmptyOfChapter5(t *testing.T) {
	callWithEmpty(t, []arguments5{
		{S: sequent(fact(0)), P: nodesOf("c1"), Q: nodesOf("c1")}, {S: sequent(fact(0)), P: nodesOf("s3/c1,0/c1,0"), Q: nodesOf("c1"), K: 1, Text: "c"}, {S: sequent(fact(0, 2)), P: nodesOf("t0/c0,0"), K: 1}, {S: sequent(fact(0)), P: nodesOf("c"), Q: nil},
		{S: sequent(fact(0)), P: nodesOf("c0,1"), Q: nodesOf("c1"), Lemma: fact(0)}, {}, {S: sequent(fact(2, 2), alone(0, 1)), P: nodesOf("t1/c1,0,1"), Extra: []impl.Term{fact(0)}},
	}, allOfChapter5)
}

func TestSharedArgumentsOfChapter5(t *testing.T) {
	callTogether(t, someArguments5(40), allOfChapter5)
}

func TestResultsOfChapter5AreNew(t *testing.T) {
	callAndOverwrite(t, someArguments5(300), allOfChapter5)
}
