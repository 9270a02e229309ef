package tests

import (
	"math"
	"math/big"
	"math/rand/v2"
	"slices"
	"strings"
	"testing"

	"loop.example/g01105/impl"
)

const (
	wideLimit = int64(1e16)
	intLimit  = int64(1e9)
)

// instrs returns the code with a text that has semicolons in place of newlines. It fails for none: where the code is not valid, it is empty.
func instrs(text string) []impl.Instr {
	code, _ := impl.ReadCode(strings.ReplaceAll(text, ";", "\n") + "\n")
	return code
}

// alike returns code of the same instruction.
func alike(x impl.Instr, count int) []impl.Instr {
	return slices.Repeat([]impl.Instr{x}, count)
}

func configOf(s impl.State, at int64, stack ...int64) impl.Config {
	return impl.Config{State: s, Stack: stack, At: at}
}

// opRow is what is known of an operation.
type opRow struct {
	op, low, high int64
	name          string
	pops, pushes  int
}

func opRows() []opRow {
	return []opRow{
		{impl.OpPush, -1e6, 1e6, "push", 0, 1}, {impl.OpLoad, 0, 3, "load", 0, 1}, {impl.OpStore, 0, 3, "store", 1, 0}, {impl.OpAdd, 0, 0, "add", 2, 1},
		{impl.OpScale, -1e6, 1e6, "scale", 1, 1}, {impl.OpJump, 0, 79, "jump", 0, 0}, {impl.OpTest, 0, 79, "test", 1, 0}, {impl.OpGet, 0, 0, "get", 1, 1},
		{impl.OpPut, 0, 0, "put", 2, 0}, {impl.OpEmit, 0, 3, "emit", 0, 0}, {impl.OpCheck, 0, 0, "check", 1, 0}, {impl.OpHalt, 0, 0, "halt", 0, 0},
	}
}

func badInstrs() []impl.Instr {
	list := []impl.Instr{{Op: -1}, {Op: 12}, {Op: math.MinInt64}, {Op: math.MaxInt64}}
	for _, row := range opRows() {
		for _, arg := range []int64{row.low - 1, row.high + 1, math.MinInt64, math.MaxInt64} {
			list = append(list, impl.Instr{Op: row.op, Arg: arg})
		}
	}
	return list
}

// badCodes are no code for any function that takes it.
func badCodes() [][]impl.Instr {
	halt := impl.Instr{Op: impl.OpHalt}
	list := [][]impl.Instr{nil, {}, alike(halt, 81), alike(halt, 100000), make([]impl.Instr, 81)}
	for _, x := range badInstrs() {
		list = append(list, []impl.Instr{x}, []impl.Instr{x, halt}, append(alike(halt, 79), x))
	}
	return list
}

// badConfigs are no configs with any code.
func badConfigs() []impl.Config {
	list := []impl.Config{{}, configOf(state(), -1), configOf(state(), 81), configOf(state(), math.MinInt64), configOf(state(), math.MaxInt64), configOf(state(), 0, repeated(0, 7)...), configOf(state(), 0, repeated(0, 100000)...)}
	for _, n := range []int64{wideLimit + 1, -wideLimit - 1, math.MinInt64, math.MaxInt64} {
		for i := range 6 {
			stack := repeated(0, 6)
			stack[i] = n
			list = append(list, configOf(state(), 0, stack...))
		}
		list = append(list, configOf(state(), 0, n))
	}
	for _, s := range badStates() {
		list = append(list, configOf(s, 0))
	}
	return list
}

// stepOfCodeAgain makes a step by another way: with exact numbers, and with all reasons to stop, of which the first one listed counts.
func stepOfCodeAgain(code []impl.Instr, c impl.Config) (impl.Config, int64) {
	if c.At >= int64(len(code)) {
		return c, impl.OutStack
	}
	x := code[c.At]
	row := opRows()[x.Op]
	left := len(c.Stack) - row.pops
	if left < 0 || row.pushes > 0 && left+row.pushes > 6 {
		return c, impl.OutStack
	}
	next := impl.Config{State: impl.State{Vars: slices.Clone(c.State.Vars), Cells: slices.Clone(c.State.Cells)}, Stack: slices.Clone(c.Stack[:left]), At: c.At + 1}
	taken := bigValues(c.Stack[left:])
	isCell := row.pops == 0 || taken[0].Sign() >= 0 && taken[0].Cmp(big.NewInt(8)) < 0
	var pushed *big.Int
	reasons := map[int64]bool{}
	switch x.Op {
	case impl.OpPush:
		pushed = big.NewInt(x.Arg)
	case impl.OpLoad:
		pushed = big.NewInt(c.State.Vars[x.Arg])
	case impl.OpAdd:
		pushed = new(big.Int).Add(taken[0], taken[1])
	case impl.OpScale:
		pushed = new(big.Int).Mul(taken[0], big.NewInt(x.Arg))
	case impl.OpStore:
		reasons[impl.OutRange] = taken[0].CmpAbs(big.NewInt(intLimit)) > 0
		next.State.Vars[x.Arg] = taken[0].Int64()
	case impl.OpJump:
		next.At = x.Arg
	case impl.OpTest:
		if taken[0].Sign() < 0 {
			next.At = x.Arg
		}
	case impl.OpGet:
		reasons[impl.OutCell] = !isCell
		if isCell {
			pushed = big.NewInt(c.State.Cells[taken[0].Int64()])
		}
	case impl.OpPut:
		reasons[impl.OutCell] = !isCell
		reasons[impl.OutRange] = taken[1].CmpAbs(big.NewInt(intLimit)) > 0
		if isCell {
			next.State.Cells[taken[0].Int64()] = taken[1].Int64()
		}
	case impl.OpCheck:
		reasons[impl.OutAssert] = taken[0].Sign() < 0
	case impl.OpHalt:
		reasons[impl.OutHalt] = true
	}
	if pushed != nil {
		reasons[impl.OutRange] = pushed.CmpAbs(big.NewInt(wideLimit)) > 0
		next.Stack = append(next.Stack, pushed.Int64())
	}
	for _, reason := range []int64{impl.OutHalt, impl.OutCell, impl.OutRange, impl.OutAssert} {
		if reasons[reason] {
			return c, reason
		}
	}
	return next, impl.OutDone
}

// codeRun is what is known of a run of code.
type codeRun struct {
	last    impl.State
	events  []int64
	outcome int64
	counts  []int64
}

func codeRunOf(t *testing.T, code []impl.Instr, s impl.State, fuel int64) codeRun {
	t.Helper()
	last, events, outcome, ok := impl.RunCode(code, s, fuel)
	counts, same := impl.CountCode(code, s, fuel)
	if !ok || !same {
		t.Fatalf("no run of %s from %s", shown(code), shown(s))
	}
	return codeRun{last, events, outcome, counts}
}

func isCodeRun(t *testing.T, what string, got, want codeRun) {
	t.Helper()
	same(t, what, results(got.last, got.events, got.outcome, got.counts), results(want.last, want.events, want.outcome, want.counts))
}

// codeRunBy makes a run with a function that makes one step.
func codeRunBy(code []impl.Instr, s impl.State, fuel int64, step func([]impl.Instr, impl.Config) (impl.Config, int64)) codeRun {
	r := codeRun{outcome: impl.OutFuel, counts: make([]int64, len(code))}
	c := configOf(s, 0)
	for range fuel {
		next, outcome := step(code, c)
		if outcome == impl.OutHalt {
			r.outcome = impl.OutDone
			break
		}
		if outcome != impl.OutDone {
			r.outcome = outcome
			break
		}
		r.counts[c.At]++
		if code[c.At].Op == impl.OpEmit {
			r.events = append(r.events, code[c.At].Arg)
		}
		c = next
	}
	r.last = c.State
	return r
}

func randomInstr(random *rand.Rand, length int) impl.Instr {
	row := opRows()[random.IntN(12)]
	return impl.Instr{Op: row.op, Arg: randomArg(random, row, length)}
}

// randomArg returns an Arg of an operation, small ones more often than others, and places that code of a length has.
func randomArg(random *rand.Rand, row opRow, length int) int64 {
	if row.name == "jump" || row.name == "test" {
		return random.Int64N(int64(length))
	}
	if row.high > 3 && random.IntN(5) < 3 {
		return random.Int64N(9) - 1
	}
	return row.low + random.Int64N(row.high-row.low+1)
}

// levelCode returns code that mostly has heights: they are chosen first, and then instructions that lead from one to the next.
func levelCode(random *rand.Rand, length int) []impl.Instr {
	heights := []int{0}
	for k := range length {
		behind := heights[k] + []int{1, 1, 1, 1, 0, 0, -1, -1, -2}[random.IntN(9)]
		heights = append(heights, min(max(behind, heights[k]/3), 6))
	}
	// placeWith returns a place with a height if it finds one, and rather a later one, so that not all runs are endless.
	placeWith := func(k, height int) (int64, bool) {
		for range 20 {
			place := random.IntN(length)
			if heights[place] == height && (place > k+1 || random.IntN(6) == 0) {
				return int64(place), true
			}
		}
		return 0, false
	}
	var code []impl.Instr
	for k := range length {
		var fitting []impl.Instr
		for _, row := range opRows()[:impl.OpHalt] {
			x, fits := impl.Instr{Op: row.op, Arg: randomArg(random, row, length)}, true
			behind := heights[k] - row.pops + row.pushes
			if row.name == "jump" || row.name == "test" {
				x.Arg, fits = placeWith(k, behind)
			}
			if fits && heights[k] >= row.pops && behind == heights[k+1] {
				fitting = append(fitting, x)
			}
		}
		if len(fitting) == 0 || k == length-1 {
			fitting = []impl.Instr{{Op: impl.OpHalt}}
		}
		code = append(code, fitting[random.IntN(len(fitting))])
	}
	return code
}

// manyCodes returns codes of all lengths from a fixed seed: such with heights, such with one changed instruction, and wild ones.
func manyCodes(count int) [][]impl.Instr {
	random := rand.New(rand.NewPCG(55, 56))
	var list [][]impl.Instr
	for i := range count {
		length := 1 + random.IntN(30)
		if i%10 == 0 {
			length = 1 + random.IntN(80)
		}
		code := levelCode(random, length)
		if i%4 == 2 {
			code[random.IntN(length)] = randomInstr(random, min(length+3, 80))
		}
		for k := range code {
			if i%4 == 3 && random.IntN(3) > 0 {
				code[k] = randomInstr(random, min(length+1, 80))
			}
		}
		list = append(list, code)
	}
	return list
}

// validCodes are one code of each operation with each bound of its Arg, codes at the limits, and others.
func validCodes() [][]impl.Instr {
	list := [][]impl.Instr{alike(impl.Instr{Op: impl.OpHalt}, 80), alike(impl.Instr{Op: impl.OpJump, Arg: 79}, 80), alike(impl.Instr{Op: impl.OpTest, Arg: 79}, 1), instrs("load 0;test 4;emit 1;jump 0;halt")}
	for _, row := range opRows() {
		list = append(list, []impl.Instr{{Op: row.op, Arg: row.low}}, []impl.Instr{{Op: row.op, Arg: row.high}})
	}
	return append(list, manyCodes(200)...)
}

// manyConfigs returns configs of some code, with numbers around limits more often than others.
func manyConfigs(random *rand.Rand, code []impl.Instr, count int) []impl.Config {
	odd := []int64{0, 1, -1, 2, 7, 8, 9, intLimit, intLimit + 1, -intLimit, -intLimit - 1, wideLimit, wideLimit - 1, -wideLimit, 1 - wideLimit, wideLimit / 2, wideLimit/2 + 1, 1e10, 1e10 + 1, -1e10, 18446744073710}
	states := manyStates()
	var list []impl.Config
	for range count {
		c := configOf(states[random.IntN(len(states))], random.Int64N(int64(len(code))+2))
		for range random.IntN(7) {
			c.Stack = append(c.Stack, odd[random.IntN(len(odd))])
		}
		c.At = min(c.At, 80)
		list = append(list, c)
	}
	return list
}
