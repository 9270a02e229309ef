package tests

import (
	"math"
	"math/rand/v2"
	"slices"
	"testing"

	"loop.example/g01105/impl"
)

// arguments9 are arguments for every function of chapter 9.
type arguments9 struct {
	Term    impl.Term
	Program impl.Program
	Number  int64
	Code    impl.Annotated
}

// allOfChapter9 returns what every function of chapter 9 returns for arguments.
func allOfChapter9(x arguments9) [][]any {
	var all [][]any
	add := func(values ...any) { all = append(all, values) }
	code, ok := impl.CompileTerm(x.Term)
	add(code, ok)
	a, ok := impl.CompileProgram(x.Program)
	add(a, ok)
	length, ok := impl.LengthOf(x.Program)
	add(length, ok)
	places, ok := impl.PlacesOf(x.Program)
	add(places, ok)
	origin, ok := impl.OriginOf(x.Program, x.Number)
	add(origin, ok)
	for _, p := range passes() {
		a, ok := p.change(x.Code)
		add(a, ok)
	}
	return all
}

// someArguments9 returns arguments from a fixed seed, valid ones more often than others.
func someArguments9(count int) []arguments9 {
	random := rand.New(rand.NewPCG(85, 86))
	terms := append(slices.Repeat(validTerms(), 3), badTerms()...)
	programs := slices.Concat(programsToCompile(150), short(badPrograms()))
	numbers := append(slices.Repeat(counted(30), 20), oddNumbers()...)
	codes := slices.Concat(codesToOptimise(200), short(badAnnotated()))
	var all []arguments9
	for range count {
		all = append(all, arguments9{terms[random.IntN(len(terms))], programs[random.IntN(len(programs))], numbers[random.IntN(len(numbers))], codes[random.IntN(len(codes))]})
	}
	return all
}

func TestEveryFunctionOfChapter9(t *testing.T) {
	callEvery(t, someArguments9(2000), allOfChapter9, 500)
}

// TestLongArgumentsOfChapter9 calls each function with arguments that are much too long.
func TestLongArgumentsOfChapter9(t *testing.T) {
	long := fact(math.MinInt64, repeated(math.MinInt64, 100000)...)
	facts := factsOf(long, 1000)
	points := slices.Repeat([]impl.Point{{At: math.MaxInt64, Facts: facts[:3]}, {At: math.MinInt64}}, 50000)
	codes := []impl.Annotated{
		{Pre: facts, Post: facts, Code: alike(impl.Instr{Op: math.MinInt64, Arg: math.MaxInt64}, 100000), Points: points}, {Code: instrs("jump 0"), Points: points},
		{Code: alike(impl.Instr{Op: impl.OpJump}, 100000)}, {Code: instrs("halt"), Points: pointsAt(repeated(0, 100000)...)},
	}
	for i, p := range longPrograms() {
		callsFail(t, allOfChapter9(arguments9{long, p, []int64{0, math.MaxInt64, math.MinInt64, -1}[i], codes[i]}))
	}
}

func TestNilAndEmptyOfChapter9(t *testing.T) {
	var list []arguments9
	for i, body := range [][]impl.Stmt{nil, skip(), set(0, fact(0)), while(fact(0), skip()), assert(alone(0, 1))} {
		codes := []impl.Annotated{{}, bare("halt"), bare("jump 1;halt", 0), bare("push 3;scale 4"), {Points: pointsAt(0)}}
		list = append(list, arguments9{fact(3), programOf(body), 0, codes[i]})
	}
	callWithEmpty(t, list, allOfChapter9)
}

func TestSharedArgumentsOfChapter9(t *testing.T) {
	callTogether(t, someArguments9(40), allOfChapter9)
}

func TestResultsOfChapter9AreNew(t *testing.T) {
	callAndOverwrite(t, someArguments9(300), allOfChapter9)
}
