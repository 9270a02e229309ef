package tests

import (
	"math"
	"math/rand/v2"
	"testing"

	"loop.example/g01105/impl"
)

func TestValidInstr(t *testing.T) {
	for _, row := range opRows() {
		for _, arg := range []int64{row.low, row.high, 0} {
			same(t, row.name, impl.ValidInstr(impl.Instr{Op: row.op, Arg: arg}), true)
		}
	}
	for _, bad := range badInstrs() {
		same(t, shown(bad), impl.ValidInstr(bad), false)
	}
}

func TestValidCode(t *testing.T) {
	for _, code := range validCodes() {
		same(t, shown(code), impl.ValidCode(code), true)
	}
	for _, place := range []int64{0, 1, 2, 79} {
		same(t, "a place", impl.ValidCode([]impl.Instr{{Op: impl.OpJump, Arg: place}}), true)
		same(t, "a place", impl.ValidCode([]impl.Instr{{Op: impl.OpTest, Arg: place}}), true)
	}
	for _, count := range []int{1, 2, 79, 80} {
		same(t, "a length", impl.ValidCode(alike(impl.Instr{}, count)), true)
	}
	for _, bad := range badCodes() {
		same(t, shown(bad), impl.ValidCode(bad), false)
	}
}

func TestValidConfig(t *testing.T) {
	code := instrs("halt;halt")
	for _, at := range []int64{0, 1, 2, 3, 79, 80} {
		for _, stack := range [][]int64{nil, {0}, {wideLimit}, {-wideLimit}, repeated(wideLimit, 6), repeated(-wideLimit, 6)} {
			for _, s := range manyStates() {
				same(t, "a config", impl.ValidConfig(code, configOf(s, at, stack...)), true)
			}
		}
	}
	for _, c := range badConfigs() {
		same(t, shown(c), impl.ValidConfig(code, c), false)
		next, outcome, ok := impl.StepCode(code, c)
		fails(t, shown(c), next, outcome, ok)
	}
	for _, bad := range badCodes() {
		same(t, shown(bad), impl.ValidConfig(bad, configOf(state(), 0)), false)
		next, outcome, ok := impl.StepCode(bad, configOf(state(), 0))
		fails(t, shown(bad), next, outcome, ok)
	}
}

// isStep requires that a step leads to a config, or stops with an outcome and stays at the one before it.
func isStep(t *testing.T, code []impl.Instr, c, want impl.Config, wanted int64) {
	t.Helper()
	next, outcome, ok := impl.StepCode(code, c)
	same(t, shown(code), results(next, outcome, ok), results(want, wanted, true))
}

// isStop requires that the first step of code stops with an outcome.
func isStop(t *testing.T, text string, stack []int64, want int64) {
	t.Helper()
	c := configOf(state(5, 6, 7, 8), 0, stack...)
	isStep(t, instrs(text), c, c, want)
}

// isMove requires that the first step of code goes on at a place with a stack, in the same state.
func isMove(t *testing.T, text string, stack []int64, at int64, want ...int64) {
	t.Helper()
	isStep(t, instrs(text), configOf(state(5, 6, 7, 8), 0, stack...), configOf(state(5, 6, 7, 8), at, want...), impl.OutDone)
}

// list makes calls with lists short.
func list(numbers ...int64) []int64 {
	return numbers
}

func TestStepsThatGoOn(t *testing.T) {
	isMove(t, "push -1000000", nil, 1, -1e6)
	isMove(t, "push 7", list(1, 2, 3, 4, 5), 1, 1, 2, 3, 4, 5, 7)
	isMove(t, "load 0", nil, 1, 5)
	isMove(t, "load 3", list(1), 1, 1, 8)
	isMove(t, "add", list(1, 2, 40), 1, 1, 42)
	isMove(t, "scale -3", list(1, 5), 1, 1, -15)
	isMove(t, "jump 0", list(1), 0, 1)
	isMove(t, "jump 79", nil, 79)
	isMove(t, "jump 1", nil, 1)
	isMove(t, "emit 3", list(1), 1, 1)
	isMove(t, "emit 0", nil, 1)
	isMove(t, "get", list(3, 7), 1, 3, 0)
	isMove(t, "test 7", list(4, -1), 7, 4)
	isMove(t, "test 7", list(4, 0), 1, 4)
	isMove(t, "test 7", list(-1, 1), 1, -1)
	isMove(t, "test 0", list(-wideLimit), 0)
	isMove(t, "test 79", list(wideLimit), 1)
	isMove(t, "check", list(-1, 0), 1, -1)
	isMove(t, "check", list(wideLimit), 1)
}

func TestStepsThatChangeTheState(t *testing.T) {
	store := instrs("halt;store 2;store 0")
	isStep(t, store, configOf(state(1, 2, 3, 4), 1, 9, -5), configOf(state(1, 2, -5, 4), 2, 9), impl.OutDone)
	isStep(t, store, configOf(state(1, 2, -5, 4), 2, 9), configOf(state(9, 2, -5, 4), 3), impl.OutDone)
	put := instrs("put")
	// The number is popped first, and then the index.
	isStep(t, put, configOf(state(), 0, 1, 2, 5), configOf(with(state(), 2, 5), 1, 1), impl.OutDone)
	isStep(t, put, configOf(state(), 0, 5, 2), configOf(with(state(), 5, 2), 1), impl.OutDone)
	isStep(t, put, configOf(with(state(), 7, 3), 0, 7, -intLimit), configOf(with(state(), 7, -intLimit), 1), impl.OutDone)
	isStep(t, instrs("get"), configOf(with(state(), 6, -4), 0, 6), configOf(with(state(), 6, -4), 1, -4), impl.OutDone)
}

// TestStepsBeyondTheEnd also has places that are the length of the code and MaxCode.
func TestStepsBeyondTheEnd(t *testing.T) {
	for _, code := range [][]impl.Instr{instrs("halt"), instrs("push 1;push 2;halt"), alike(impl.Instr{}, 80)} {
		for _, at := range []int64{int64(len(code)), int64(len(code)) + 1, 79, 80} {
			if at >= int64(len(code)) && at <= 80 {
				c := configOf(state(1), at, 3)
				isStep(t, code, c, c, impl.OutStack)
			}
		}
	}
	isStep(t, alike(impl.Instr{}, 80), configOf(state(), 79), configOf(state(), 80, 0), impl.OutDone)
	next, outcome, ok := impl.StepCode(instrs("halt"), configOf(state(), 81))
	fails(t, "beyond MaxCode", next, outcome, ok)
}

func TestStacksThatAreTooLowOrFull(t *testing.T) {
	full := list(1, 2, 3, 4, 5, 6)
	for _, row := range opRows() {
		text, _ := impl.InstrText(impl.Instr{Op: row.op})
		for height := range row.pops {
			isStop(t, text, full[:height], impl.OutStack)
			// With numbers that are no index, negative, and too great for a variable, this is still the first reason.
			isStop(t, text, repeated(-wideLimit, height), impl.OutStack)
		}
		if row.pushes > row.pops {
			isStop(t, text, full, impl.OutStack)
			isStop(t, text, repeated(wideLimit, 6), impl.OutStack)
		}
		_, outcome, _ := impl.StepCode(instrs(text), configOf(state(), 0, repeated(1, 6)...))
		same(t, text+" on a full stack", outcome == impl.OutStack, row.pushes > row.pops)
	}
	isMove(t, "add", full, 1, 1, 2, 3, 4, 11)
	isMove(t, "scale 2", full, 1, 1, 2, 3, 4, 5, 12)
	isMove(t, "get", full, 1, 1, 2, 3, 4, 5, 0)
}

// TestReasonsThatMeet has each pair of reasons of which one instruction can give both.
func TestReasonsThatMeet(t *testing.T) {
	isStop(t, "put", list(8, intLimit+1), impl.OutCell)
	isStop(t, "put", list(-1, -intLimit-1), impl.OutCell)
	isStop(t, "put", list(wideLimit, wideLimit), impl.OutCell)
	isStop(t, "put", list(7, intLimit+1), impl.OutRange)
	isStop(t, "put", list(8), impl.OutStack)
	isStop(t, "put", list(intLimit+1), impl.OutStack)
	isStop(t, "store 0", nil, impl.OutStack)
	isStop(t, "get", nil, impl.OutStack)
	isStop(t, "check", nil, impl.OutStack)
	isStop(t, "scale 1000000", nil, impl.OutStack)
	isStop(t, "add", list(wideLimit), impl.OutStack)
	isStop(t, "halt", repeated(-1, 6), impl.OutHalt)
	isStop(t, "halt", nil, impl.OutHalt)
	c := configOf(state(), 1, -1)
	isStep(t, instrs("halt"), c, c, impl.OutStack)
}

func TestIndicesOfCells(t *testing.T) {
	for _, index := range []int64{-1, 8, 9, wideLimit, -wideLimit} {
		isStop(t, "get", list(4, index), impl.OutCell)
		isStop(t, "put", list(index, 4), impl.OutCell)
	}
	for index := range int64(8) {
		s := with(state(5, 6, 7, 8), int(index), intLimit-index)
		isStep(t, instrs("get"), configOf(s, 0, 4, index), configOf(s, 1, 4, intLimit-index), impl.OutDone)
		isStep(t, instrs("put"), configOf(state(), 0, index, intLimit-index), configOf(with(state(), int(index), intLimit-index), 1), impl.OutDone)
	}
}

func TestNumbersAtTheirLimits(t *testing.T) {
	isMove(t, "add", list(wideLimit, 0), 1, wideLimit)
	isMove(t, "add", list(wideLimit-1, 1), 1, wideLimit)
	isMove(t, "add", list(-1, 1-wideLimit), 1, -wideLimit)
	isMove(t, "add", list(wideLimit, -wideLimit), 1, 0)
	for _, stack := range [][]int64{{wideLimit, 1}, {1, wideLimit}, {-1, -wideLimit}, {wideLimit, wideLimit}, {-wideLimit, -wideLimit}, {wideLimit/2 + 1, wideLimit / 2}} {
		isStop(t, "add", stack, impl.OutRange)
	}
	isMove(t, "scale 1000000", list(1e10), 1, wideLimit)
	isMove(t, "scale -1000000", list(1e10), 1, -wideLimit)
	isMove(t, "scale 1000000", list(-1e10), 1, -wideLimit)
	isMove(t, "scale -1000000", list(-1e10), 1, wideLimit)
	isMove(t, "scale 1", list(wideLimit), 1, wideLimit)
	isMove(t, "scale -1", list(wideLimit), 1, -wideLimit)
	isMove(t, "scale -1", list(-wideLimit), 1, wideLimit)
	isMove(t, "scale 0", list(-wideLimit), 1, 0)
	isMove(t, "scale 3", list(wideLimit/3), 1, wideLimit-1)
	// 353 divides 1e16 + 1.
	beyond := (wideLimit + 1) / 353
	for _, n := range []int64{beyond, -beyond} {
		isStop(t, "scale 353", list(n), impl.OutRange)
		isStop(t, "scale -353", list(n), impl.OutRange)
	}
	isMove(t, "scale 353", list(beyond-1), 1, wideLimit+1-353)
	for _, n := range []int64{1e10 + 1, -1e10 - 1, wideLimit, -wideLimit, wideLimit - 1} {
		isStop(t, "scale 1000000", list(n), impl.OutRange)
		isStop(t, "scale -1000000", list(n), impl.OutRange)
	}
	// The lowest 64 bits of this product are a small number.
	wraps := int64(math.MaxUint64/1000000) + 1
	isStop(t, "scale 1000000", list(wraps), impl.OutRange)
	isStop(t, "scale 1000000", list(-wraps), impl.OutRange)
	isStop(t, "scale -1000000", list(wraps), impl.OutRange)
}

func TestNumbersOfVariablesAndCells(t *testing.T) {
	for _, n := range []int64{intLimit, -intLimit, 0} {
		isStep(t, instrs("store 3"), configOf(state(1, 2), 0, n), configOf(state(1, 2, 0, n), 1), impl.OutDone)
		isStep(t, instrs("put"), configOf(state(1, 2), 0, 3, n), configOf(with(state(1, 2), 3, n), 1), impl.OutDone)
	}
	for _, n := range []int64{intLimit + 1, -intLimit - 1, wideLimit, -wideLimit} {
		isStop(t, "store 3", list(4, n), impl.OutRange)
		isStop(t, "put", list(4, 3, n), impl.OutRange)
	}
	isStop(t, "check", list(0, -1), impl.OutAssert)
	isStop(t, "check", list(-wideLimit), impl.OutAssert)
	for _, n := range []int64{intLimit, -intLimit} {
		isStep(t, instrs("load 1"), configOf(state(0, n), 0), configOf(state(0, n), 1, n), impl.OutDone)
		isStep(t, instrs("get"), configOf(with(state(), 0, n), 0, 0), configOf(with(state(), 0, n), 1, n), impl.OutDone)
	}
}

func TestStepsAgain(t *testing.T) {
	random := rand.New(rand.NewPCG(57, 58))
	outcomes := map[int64]int{}
	for _, code := range append(manyCodes(1200), validCodes()...) {
		for _, c := range manyConfigs(random, code, 20) {
			want, wanted := stepOfCodeAgain(code, c)
			isStep(t, code, c, want, wanted)
			outcomes[wanted]++
			if wanted == impl.OutDone && !impl.ValidConfig(code, want) {
				t.Fatalf("no config: %s", shown(want))
			}
		}
	}
	for _, outcome := range []int64{impl.OutDone, impl.OutCell, impl.OutAssert, impl.OutRange, impl.OutStack, impl.OutHalt} {
		if outcomes[outcome] < 100 {
			t.Errorf("only %d steps with %d", outcomes[outcome], outcome)
		}
	}
}
