package tests

import (
	"math"
	"math/rand/v2"
	"slices"
	"strings"
	"testing"

	"loop.example/g01105/impl"
)

// arguments3 are arguments for every function of chapter 3.
type arguments3 struct {
	P, Q   impl.Program
	List   []impl.Term
	State  impl.State
	Number int64
	Text   string
}

// allOfChapter3 returns what every function of chapter 3 returns for arguments.
func allOfChapter3(x arguments3) [][]any {
	var all [][]any
	add := func(values ...any) { all = append(all, values) }
	add(impl.IsBody(x.P.Body))
	add(impl.ValidProgram(x.P))
	add(impl.ValidState(x.State))
	n, ok := impl.EndOf(x.P.Body, x.Number)
	add(n, ok)
	events, ok := impl.EventsIn(x.P)
	add(events, ok)
	holds, ok := impl.HoldsIn(x.List, x.State)
	add(holds, ok)
	last, events, outcome, ok := impl.RunProgram(x.P, x.State, x.Number)
	add(last, events, outcome, ok)
	n, ok = impl.StepsOf(x.P, x.State, x.Number)
	add(n, ok)
	body, ok := impl.NormalBody(x.P.Body)
	add(body, ok)
	body, ok = impl.SimplifyBody(x.P.Body)
	add(body, ok)
	p, ok := impl.JoinPrograms(x.P, x.Q)
	add(p, ok)
	text, ok := impl.ProgramText(x.P)
	add(text, ok)
	p, ok = impl.ReadProgram(x.Text)
	add(p, ok)
	n, ok = impl.FirstBadLine(x.Text)
	add(n, ok)
	return all
}

// someArguments3 returns arguments from a fixed seed, valid ones more often than others.
func someArguments3(count int) []arguments3 {
	random := rand.New(rand.NewPCG(17, 18))
	programs := manyPrograms(200)
	var texts []string
	for _, p := range programs {
		text, _ := impl.ProgramText(p)
		texts = append(texts, text, text[:random.IntN(len(text)+1)], text[:strings.LastIndex(text[:len(text)-1], "\n")+1], "skip\n"+text)
	}
	texts = append(texts, short(oddStrings())...)
	programs = append(programs, short(badPrograms())...)
	lists := append(short(badLists()), nil, []impl.Term{})
	for range 100 {
		lists = append(lists, randomTerms(random, 14))
	}
	states := append(slices.Repeat(manyStates(), 10), short(badStates())...)
	numbers := append(slices.Repeat([]int64{0, 1, 2, 5, 20, 1999, 2000, 2001, -1}, 15), oddNumbers()...)
	var all []arguments3
	for range count {
		all = append(all, arguments3{
			programs[random.IntN(len(programs))], programs[random.IntN(len(programs))], lists[random.IntN(len(lists))],
			states[random.IntN(len(states))], numbers[random.IntN(len(numbers))], texts[random.IntN(len(texts))],
		})
	}
	return all
}

func TestEveryFunctionOfChapter3(t *testing.T) {
	callEvery(t, someArguments3(4000), allOfChapter3, 100)
}

// TestLongArgumentsOfChapter3 calls each function with arguments that are much too long.
func TestLongArgumentsOfChapter3(t *testing.T) {
	numbers := repeated(math.MaxInt64, 100000)
	for _, p := range longPrograms() {
		terms := factsOf(p.Body[0].Sum, 1000)
		callsFail(t, allOfChapter3(arguments3{p, p, terms, impl.State{Vars: numbers, Cells: numbers}, math.MaxInt64, strings.Repeat("if a\n", 100000)}))
	}
}

func TestNilAndEmptyOfChapter3(t *testing.T) {
	list := []arguments3{{}}
	for _, p := range []impl.Program{programOf(skip()), programOf(sequence(set(0, fact(1)), emit(2), while(fact(-1), skip()))), {}} {
		list = append(list, arguments3{P: p, Q: p, State: state(), Number: 2, Text: "skip\n"})
	}
	callWithEmpty(t, list, allOfChapter3)
}

func TestSharedArgumentsOfChapter3(t *testing.T) {
	callTogether(t, someArguments3(40), allOfChapter3)
}

func TestResultsOfChapter3AreNew(t *testing.T) {
	callAndOverwrite(t, someArguments3(300), allOfChapter3)
}
