package tests

import (
	"math"
	"math/rand/v2"
	"slices"
	"strings"
	"testing"

	"loop.example/g01105/impl"
)

// arguments8 are arguments for every function of chapter 8.
type arguments8 struct {
	A      impl.Annotated
	P      impl.Point
	Number int64
	Text   string
}

// allOfChapter8 returns what every function of chapter 8 returns for arguments.
func allOfChapter8(x arguments8) [][]any {
	var all [][]any
	add := func(values ...any) { all = append(all, values) }
	add(impl.ValidAnnotated(x.A))
	heights, ok := impl.HeightsOf(x.A)
	add(heights, ok)
	open, ok := impl.OpenLoops(x.A)
	add(open, ok)
	longest, ok := impl.LongestWay(x.A)
	add(longest, ok)
	paths, ok := impl.PathsOfCode(x.A)
	add(paths, ok)
	conditions, ok := impl.ConditionsOfCode(x.A)
	add(conditions, ok)
	conditions, ok = impl.ConditionsAt(x.A, x.Number)
	add(conditions, ok)
	a, ok := impl.AddPoint(x.A, x.P)
	add(a, ok)
	a, ok = impl.DropPoint(x.A, x.Number)
	add(a, ok)
	text, ok := impl.AnnotatedText(x.A)
	add(text, ok)
	a, ok = impl.ReadAnnotated(x.Text)
	add(a, ok)
	return all
}

// someArguments8 returns arguments from a fixed seed, valid ones more often than others.
func someArguments8(count int) []arguments8 {
	random := rand.New(rand.NewPCG(77, 78))
	codes := slices.Concat(manyAnnotated(600), tameAnnotated(300), short(badAnnotated()))
	numbers := append(slices.Repeat([]int64{-1, 0, 1, 2, -2, 7, 8}, 20), oddNumbers()...)
	places := append(slices.Repeat(counted(12), 20), numbers...)
	given := short(badGiven())
	texts := short(oddStrings())
	for _, a := range manyAnnotated(300) {
		text, _ := impl.AnnotatedText(a)
		texts = append(texts, text, text[:random.IntN(len(text))])
	}
	var all []arguments8
	for range count {
		x := arguments8{codes[random.IntN(len(codes))], impl.Point{At: places[random.IntN(len(places))], Facts: tameTerms(random, 7)}, numbers[random.IntN(len(numbers))], texts[random.IntN(len(texts))]}
		if random.IntN(8) == 0 {
			x.P.Facts = given[random.IntN(len(given))]
		}
		all = append(all, x)
	}
	return all
}

func TestEveryFunctionOfChapter8(t *testing.T) {
	callEvery(t, someArguments8(3000), allOfChapter8, 100)
}

// TestLongArgumentsOfChapter8 calls each function with arguments that are much too long.
func TestLongArgumentsOfChapter8(t *testing.T) {
	long := fact(math.MinInt64, repeated(math.MinInt64, 100000)...)
	facts := factsOf(long, 1000)
	points := slices.Repeat([]impl.Point{{At: math.MaxInt64, Facts: facts[:3]}, {At: math.MinInt64}}, 50000)
	code := alike(impl.Instr{Op: math.MinInt64, Arg: math.MaxInt64}, 100000)
	text := strings.Repeat("point\nat 1000000a\nhalt\n", 100000)
	callsFail(t, allOfChapter8(arguments8{impl.Annotated{Pre: facts, Post: facts, Code: code, Points: points}, points[0], math.MaxInt64, text}))
	callsFail(t, allOfChapter8(arguments8{impl.Annotated{Code: instrs("jump 0"), Points: points}, points[1], math.MinInt64, "pre " + text}))
	callsFail(t, allOfChapter8(arguments8{impl.Annotated{Code: alike(impl.Instr{Op: impl.OpJump}, 100000)}, impl.Point{}, -1, strings.Repeat("halt\n", 8000)}))
	callsFail(t, allOfChapter8(arguments8{impl.Annotated{Code: instrs("halt"), Points: pointsAt(repeated(0, 100000)...)}, impl.Point{Facts: facts}, 0, strings.Repeat("\n", 100000)}))
}

func TestNilAndEmptyOfChapter8(t *testing.T) {
	list := []arguments8{{}}
	for _, a := range []impl.Annotated{bare("halt"), bare("emit 1;load 0;test 0;halt", 0), bare("jump 0"), {}, {Points: pointsAt(0)}} {
		for _, number := range []int64{-1, 0} {
			list = append(list, arguments8{a, impl.Point{}, number, "point\nhalt\n"})
		}
	}
	callWithEmpty(t, list, allOfChapter8)
}

func TestSharedArgumentsOfChapter8(t *testing.T) {
	callTogether(t, someArguments8(40), allOfChapter8)
}

func TestResultsOfChapter8AreNew(t *testing.T) {
	callAndOverwrite(t, someArguments8(300), allOfChapter8)
}
