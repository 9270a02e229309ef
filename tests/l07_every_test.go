package tests

import (
	"math"
	"math/rand/v2"
	"slices"
	"strings"
	"testing"

	"loop.example/g01105/impl"
)

// arguments7 are arguments for every function of chapter 7.
type arguments7 struct {
	X            impl.Instr
	A, B         []impl.Instr
	C            impl.Config
	S            impl.State
	Number, Fuel int64
	Line, Text   string
}

// allOfChapter7 returns what every function of chapter 7 returns for arguments.
func allOfChapter7(x arguments7) [][]any {
	var all [][]any
	add := func(values ...any) { all = append(all, values) }
	add(impl.ValidInstr(x.X))
	add(impl.ValidCode(x.A))
	add(impl.ValidConfig(x.A, x.C))
	c, outcome, ok := impl.StepCode(x.A, x.C)
	add(c, outcome, ok)
	last, events, outcome, ok := impl.RunCode(x.A, x.S, x.Fuel)
	add(last, events, outcome, ok)
	counts, ok := impl.CountCode(x.A, x.S, x.Fuel)
	add(counts, ok)
	targets, ok := impl.TargetsOf(x.A, x.Number)
	add(targets, ok)
	reached, ok := impl.ReachableCode(x.A)
	add(reached, ok)
	heights, ok := impl.StackHeights(x.A)
	add(heights, ok)
	leaders, ok := impl.LeadersOf(x.A)
	add(leaders, ok)
	code, ok := impl.ShiftCode(x.A, x.Number)
	add(code, ok)
	code, ok = impl.JoinCode(x.A, x.B)
	add(code, ok)
	text, ok := impl.InstrText(x.X)
	add(text, ok)
	instr, ok := impl.ReadInstr(x.Line)
	add(instr, ok)
	text, ok = impl.CodeText(x.A)
	add(text, ok)
	code, ok = impl.ReadCode(x.Text)
	add(code, ok)
	return all
}

// someArguments7 returns arguments from a fixed seed, valid ones more often than others.
func someArguments7(count int) []arguments7 {
	random := rand.New(rand.NewPCG(61, 62))
	codes := slices.Concat(manyCodes(400), validCodes(), short(badCodes()))
	lines := slices.Concat(badInstrTexts(), short(oddStrings()))
	texts := short(oddStrings())
	for _, code := range manyCodes(100) {
		text, _ := impl.CodeText(code)
		texts = append(texts, text, text[:random.IntN(len(text))])
		lines = append(lines, strings.Split(text, "\n")...)
	}
	states := append(slices.Repeat(manyStates(), 10), short(badStates())...)
	numbers := append(slices.Repeat([]int64{0, 1, 2, 5, 20, 79, 80, 81, -1}, 15), oddNumbers()...)
	fuels := append(slices.Repeat([]int64{0, 1, 2, 5, 20, 300, 2000}, 15), oddNumbers()...)
	wrongConfigs, wrongInstrs := badConfigs(), badInstrs()
	var all []arguments7
	for range count {
		x := arguments7{
			A: codes[random.IntN(len(codes))], B: codes[random.IntN(len(codes))], X: randomInstr(random, 80), S: states[random.IntN(len(states))],
			Number: numbers[random.IntN(len(numbers))], Fuel: fuels[random.IntN(len(fuels))], Line: lines[random.IntN(len(lines))], Text: texts[random.IntN(len(texts))],
		}
		x.C = manyConfigs(random, x.A, 1)[0]
		switch random.IntN(5) {
		case 0:
			x.C = wrongConfigs[random.IntN(len(wrongConfigs))]
		case 1:
			x.X = wrongInstrs[random.IntN(len(wrongInstrs))]
		}
		all = append(all, x)
	}
	return all
}

func TestEveryFunctionOfChapter7(t *testing.T) {
	callEvery(t, someArguments7(4000), allOfChapter7, 100)
}

// TestLongArgumentsOfChapter7 calls each function with arguments that are much too long.
func TestLongArgumentsOfChapter7(t *testing.T) {
	numbers := repeated(math.MinInt64, 100000)
	s := impl.State{Vars: numbers, Cells: numbers}
	for _, x := range []impl.Instr{{Op: math.MinInt64, Arg: math.MaxInt64}, {Op: math.MaxInt64, Arg: math.MinInt64}, {Op: impl.OpJump, Arg: math.MaxInt64}, {Op: impl.OpScale, Arg: math.MinInt64}} {
		code := alike(x, 100000)
		text := strings.Repeat("scale 1000000\n", 100000)
		callsFail(t, allOfChapter7(arguments7{x, code, code, configOf(s, math.MaxInt64, numbers...), s, math.MaxInt64, math.MinInt64, text, text}))
		callsFail(t, allOfChapter7(arguments7{x, code[:1], code[:1], configOf(state(), math.MinInt64), state(), math.MinInt64, math.MaxInt64, "push " + text, text + "halt"}))
		callsFail(t, allOfChapter7(arguments7{x, alike(impl.Instr{}, 100000), nil, configOf(state(), 0), state(), 0, 0, "", ""}))
	}
}

func TestNilAndEmptyOfChapter7(t *testing.T) {
	list := []arguments7{{}}
	for _, code := range [][]impl.Instr{instrs("halt"), instrs("emit 1;load 0;store 1"), nil} {
		list = append(list, arguments7{A: code, B: code, C: configOf(state(), 0), S: state(), Fuel: 5, Line: "halt", Text: "halt\n"})
	}
	callWithEmpty(t, list, allOfChapter7)
}

func TestSharedArgumentsOfChapter7(t *testing.T) {
	callTogether(t, someArguments7(40), allOfChapter7)
}

func TestResultsOfChapter7AreNew(t *testing.T) {
	callAndOverwrite(t, someArguments7(300), allOfChapter7)
}
