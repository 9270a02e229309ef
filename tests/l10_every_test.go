package tests

import (
	"math"
	"math/rand/v2"
	"slices"
	"strings"
	"testing"

	"loop.example/g01105/impl"
)

// arguments10 are arguments for every function of chapter 10.
type arguments10 struct {
	P, Q         impl.Policy
	State, Event int64
	Word         []int64
	Code         impl.Annotated
	Text         string
}

// allOfChapter10 returns what every function of chapter 10 returns for arguments.
func allOfChapter10(x arguments10) [][]any {
	var all [][]any
	add := func(values ...any) { all = append(all, values) }
	add(impl.ValidPolicy(x.P))
	state, ok := impl.StepPolicy(x.P, x.State, x.Event)
	add(state, ok)
	count, state, ok := impl.RunPolicy(x.P, x.Word)
	add(count, state, ok)
	set, ok := impl.ReachedStates(x.P)
	add(set, ok)
	p, ok := impl.MinimalPolicy(x.P)
	add(p, ok)
	p, ok = impl.BothPolicies(x.P, x.Q)
	add(p, ok)
	add(impl.IsStricter(x.P, x.Q))
	word, ok := impl.DifferenceOf(x.P, x.Q)
	add(word, ok)
	states, ok := impl.StatesAt(x.P, x.Code)
	add(states, ok)
	at, state, ok := impl.FirstOffence(x.P, x.Code)
	add(at, state, ok)
	allowed, ok := impl.Allows(x.P, x.Code)
	add(allowed, ok)
	text, ok := impl.PolicyText(x.P)
	add(text, ok)
	p, ok = impl.ReadPolicy(x.Text)
	add(p, ok)
	return all
}

// someArguments10 returns arguments from a fixed seed, valid ones more often than others.
func someArguments10(count int) []arguments10 {
	random := rand.New(rand.NewPCG(95, 96))
	pairs := pairsOfPolicies(100)
	bad := short(badPolicies())
	states := append(slices.Repeat(counted(4), 60), oddNumbers()...)
	events := append(slices.Repeat(counted(4), 60), oddNumbers()...)
	words := append(short(badWords()), nil, list(0), repeated(3, 40), repeated(0, 39))
	for length := range 40 {
		word := make([]int64, length)
		for k := range word {
			word[k] = random.Int64N(1 + int64(length)%4)
		}
		words = append(words, word, word[:length/2], word[:length/4])
	}
	codes := slices.Concat(codesToWatch(60), emittingAnnotated(200), short(badAnnotated())[:40])
	texts := short(oddStrings())
	for _, p := range append(manyPolicies(100), limitPolicies()...) {
		text, _ := impl.PolicyText(p)
		texts = append(texts, text, text[:random.IntN(len(text))])
	}
	var all []arguments10
	for range count {
		pair := pairs[random.IntN(len(pairs))]
		x := arguments10{pair[0], pair[1], states[random.IntN(len(states))], events[random.IntN(len(events))], words[random.IntN(len(words))], codes[random.IntN(len(codes))], texts[random.IntN(len(texts))]}
		switch random.IntN(20) {
		case 0:
			x.P = bad[random.IntN(len(bad))]
		case 1:
			x.Q = bad[random.IntN(len(bad))]
		}
		all = append(all, x)
	}
	return all
}

func TestEveryFunctionOfChapter10(t *testing.T) {
	callEvery(t, someArguments10(3000), allOfChapter10, 300)
}

// TestLongArgumentsOfChapter10 calls each function with arguments that are much too long.
func TestLongArgumentsOfChapter10(t *testing.T) {
	long := repeated(math.MinInt64, 100000)
	policies := []impl.Policy{rows(long), rows(slices.Repeat([][]int64{nil}, 100000)...), rows(slices.Repeat([][]int64{repeated(0, 4)}, 13)...), rows(slices.Repeat([][]int64{long}, 1000)...), rows(repeated(math.MaxInt64, 4))}
	facts := factsOf(fact(math.MinInt64, long...), 1000)
	points := slices.Repeat([]impl.Point{{At: math.MaxInt64, Facts: facts[:3]}, {At: math.MinInt64}}, 50000)
	codes := []impl.Annotated{
		{Pre: facts, Post: facts, Code: alike(impl.Instr{Op: math.MinInt64, Arg: math.MaxInt64}, 100000), Points: points}, {Code: alike(impl.Instr{Op: impl.OpEmit}, 100000)}, bare("halt"),
	}
	texts := []string{strings.Repeat("0,0,0,0/", 100000), strings.Repeat("9", 100000), "0,0,0,0/"}
	for i, p := range policies {
		callsFail(t, allOfChapter10(arguments10{p, policies[len(policies)-1-i], int64(i), math.MinInt64, long, codes[i%3], texts[i%3]}))
	}
	// One policy that is valid does not help.
	for i, code := range codes[:2] {
		x := arguments10{policyOf(everything), policies[i], math.MaxInt64, 0, repeated(0, 100000), code, texts[i]}
		for k, call := range allOfChapter10(x) {
			if isIn(int64(k), 1, 2, 5, 6, 7, 8, 9, 10, 12) {
				fails(t, "a long argument", call...)
			}
		}
	}
}

func TestNilAndEmptyOfChapter10(t *testing.T) {
	all := []arguments10{{}, {P: rows(nil)}, {P: policyOf(everything), Q: rows(nil, nil)}}
	for _, text := range []string{everything, nothing, inTurn} {
		for _, a := range []impl.Annotated{{}, bare("halt"), bare("emit 1;load 0;test 0;halt", 0), bare("jump 1;halt", 1), {Points: pointsAt(0)}} {
			all = append(all, arguments10{P: policyOf(text), Q: policyOf(inTurn), Code: a, Text: text})
		}
	}
	callWithEmpty(t, all, allOfChapter10)
}

func TestSharedArgumentsOfChapter10(t *testing.T) {
	callTogether(t, someArguments10(40), allOfChapter10)
}

func TestResultsOfChapter10AreNew(t *testing.T) {
	callAndOverwrite(t, someArguments10(400), allOfChapter10)
}
