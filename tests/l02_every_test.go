package tests

import (
	"math"
	"math/rand/v2"
	"reflect"
	"slices"
	"strings"
	"testing"

	"loop.example/g01105/impl"
)

// arguments2 are arguments for every function of chapter 2.
type arguments2 struct {
	A, B                impl.Term
	List                []impl.Term
	Values, Multipliers []int64
	Sequent             impl.Sequent
	Number              int64
	Text                string
}

// allOfChapter2 returns what every function of chapter 2 returns for arguments.
func allOfChapter2(x arguments2) [][]any {
	var all [][]any
	add := func(values ...any) { all = append(all, values) }
	add(impl.ValidTerm(x.A))
	add(impl.SameTerm(x.A, x.B))
	term, ok := impl.AddTerms(x.A, x.B)
	add(term, ok)
	term, ok = impl.ScaleTerm(x.A, x.Number)
	add(term, ok)
	term, ok = impl.OppositeOf(x.A)
	add(term, ok)
	term, ok = impl.SubstituteTerm(x.A, x.List)
	add(term, ok)
	n, ok := impl.EvalTerm(x.A, x.Values)
	add(n, ok)
	set, ok := impl.SymbolsOf(x.List)
	add(set, ok)
	term, ok = impl.TightenTerm(x.A)
	add(term, ok)
	term, ok = impl.CombineTerms(x.List, x.Multipliers)
	add(term, ok)
	add(impl.ValidFacts(x.List))
	add(impl.ValidSequent(x.Sequent))
	list, ok := impl.ContextOf(x.Sequent)
	add(list, ok)
	add(impl.IsCounter(x.Sequent, x.Values))
	values, ok := impl.LeastCounter(x.Sequent, x.Number)
	add(values, ok)
	text, ok := impl.TermText(x.A)
	add(text, ok)
	term, ok = impl.ReadTerm(x.Text)
	add(term, ok)
	text, ok = impl.SequentText(x.Sequent)
	add(text, ok)
	s, ok := impl.ReadSequent(x.Text)
	add(s, ok)
	return all
}

// short leaves out arguments that are so long that many calls with them take too much time.
func short[T any](list []T) []T {
	return slices.DeleteFunc(list, func(x T) bool { return len(wholeText(reflect.ValueOf(x))) > 2000 })
}

// someArguments2 returns arguments from a fixed seed, valid ones more often than others.
func someArguments2(count int) []arguments2 {
	random := rand.New(rand.NewPCG(7, 8))
	terms := append(slices.Repeat(validTerms(), 3), short(badTerms())...)
	lists := append(short(badLists()), nil, []impl.Term{})
	for i := range 150 {
		lists = append(lists, slices.Repeat(validTerms(), 2)[i%50:][:i%16])
	}
	values := append(slices.Repeat(validValues(), 3), short(badValues())...)
	sequents := append(slices.Repeat(validSequents(), 4), short(badSequents())...)
	numbers := append(slices.Repeat([]int64{0, 1, 2, 3, 4, -1, -2, 1e6}, 20), oddNumbers()...)
	texts := []string{"", "0", "a", "2a-b+3", "a;=>a-1", "=>0", "a;", "b+a", "2a-b+3;-2a+b-4;=>-j", "=>", "1a", "\x00", "\u00e4", "a=>b", strings.Repeat("a;", 13) + "=>a"}
	var all []arguments2
	for range count {
		x := arguments2{
			A: terms[random.IntN(len(terms))], B: terms[random.IntN(len(terms))], List: lists[random.IntN(len(lists))], Values: values[random.IntN(len(values))],
			Sequent: sequents[random.IntN(len(sequents))], Number: numbers[random.IntN(len(numbers))], Text: texts[random.IntN(len(texts))],
		}
		x.Multipliers = repeated([]int64{0, 1, 1, 2, 1e6, -1, 1e6 + 1, math.MinInt64}[random.IntN(8)], max(0, len(x.List)+[]int{0, 0, 0, 1, -1}[random.IntN(5)]))
		all = append(all, x)
	}
	return all
}

func TestEveryFunctionOfChapter2(t *testing.T) {
	callEvery(t, someArguments2(3000), allOfChapter2, 20)
}

// TestLongArgumentsOfChapter2 calls each function once with arguments that are much too long.
func TestLongArgumentsOfChapter2(t *testing.T) {
	long := fact(math.MinInt64, repeated(math.MinInt64, 100000)...)
	list := factsOf(long, 1000)
	for _, text := range slices.DeleteFunc(oddStrings(), isTermText) {
		x := arguments2{long, long, list, repeated(math.MaxInt64, 100000), repeated(math.MinInt64, 1000), sequent(long, list...), math.MinInt64, text}
		for _, call := range allOfChapter2(x) {
			fails(t, "call", call...)
		}
	}
}

// TestNilAndEmptyAreTheSame passes each empty list as nil and as an empty slice.
func TestNilAndEmptyAreTheSame(t *testing.T) {
	empty := fact(3)
	empty.Coeffs = []int64{}
	one := arguments2{fact(3), fact(3), nil, nil, nil, sequent(fact(-1)), 2, ""}
	two := arguments2{empty, empty, []impl.Term{}, []int64{}, []int64{}, impl.Sequent{Facts: []impl.Term{}, Goal: fact(-1)}, 2, ""}
	same(t, "nil and empty", filledCalls(allOfChapter2(one)), filledCalls(allOfChapter2(two)))
}

func TestSharedArguments(t *testing.T) {
	callTogether(t, someArguments2(40), allOfChapter2)
}

// TestResultsAreNew writes into results and their unused capacity; arguments and later results must not change.
func TestResultsAreNew(t *testing.T) {
	s := sparedCopy(sequent(fact(5, 6), fact(1, 2, 3), alone(9, 4)))
	before := wholeText(reflect.ValueOf(s))
	for range 2 {
		context, _ := impl.ContextOf(s)
		same(t, "ContextOf", context, []impl.Term{fact(1, 2, 3), alone(9, 4), fact(-6, -6)})
		for i := range context {
			_ = append(context[i].Coeffs[:0], 70, 71, 72, 73)
			context[i].Const = 74
		}
		sum, _ := impl.AddTerms(s.Facts[0], fact(0))
		tight, _ := impl.TightenTerm(s.Goal)
		whole, _ := impl.SubstituteTerm(alone(0, 1), s.Facts[:1])
		same(t, "terms", []impl.Term{sum, tight, whole}, []impl.Term{fact(1, 2, 3), fact(0, 1), fact(1, 2, 3)})
		sum.Coeffs[0], tight.Coeffs[0], whole.Coeffs[0] = 75, 76, 77
		same(t, "arguments", wholeText(reflect.ValueOf(s)), before)
	}
}
