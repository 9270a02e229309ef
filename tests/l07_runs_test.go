package tests

import (
	"slices"
	"testing"

	"loop.example/g01105/impl"
)

func TestCodeOfTheExample(t *testing.T) {
	code := instrs("load 0;test 4;emit 1;jump 0;halt")
	isCodeRun(t, "a is less than 0", codeRunOf(t, code, state(-1), 9), codeRun{state(-1), nil, impl.OutDone, list(1, 1, 0, 0, 0)})
	isCodeRun(t, "fuel 3", codeRunOf(t, code, state(-1), 3), codeRun{state(-1), nil, impl.OutDone, list(1, 1, 0, 0, 0)})
	isCodeRun(t, "fuel 2", codeRunOf(t, code, state(-1), 2), codeRun{state(-1), nil, impl.OutFuel, list(1, 1, 0, 0, 0)})
	isCodeRun(t, "fuel 1", codeRunOf(t, code, state(-1), 1), codeRun{state(-1), nil, impl.OutFuel, list(1, 0, 0, 0, 0)})
	isCodeRun(t, "fuel 0", codeRunOf(t, code, state(-1), 0), codeRun{state(-1), nil, impl.OutFuel, list(0, 0, 0, 0, 0)})
	isCodeRun(t, "fuel 9", codeRunOf(t, code, state(0), 9), codeRun{state(0), list(1, 1), impl.OutFuel, list(3, 2, 2, 2, 0)})
	isCodeRun(t, "fuel 2000", codeRunOf(t, code, state(5), 2000), codeRun{state(5), repeated(1, 500), impl.OutFuel, list(500, 500, 500, 500, 0)})
	heights, ok := impl.StackHeights(code)
	same(t, "heights", results(heights, ok), results(list(0, 1, 0, 0, 0), true))
	leaders, ok := impl.LeadersOf(code)
	same(t, "leaders", results(leaders, ok), results(list(0, 2, 4), true))
}

// TestRunsOfCode has runs with each outcome, with fuel that is just enough for the step that stops them, and with one less.
func TestRunsOfCode(t *testing.T) {
	cells := impl.State{Vars: list(2, 0, 0, 0), Cells: list(0, 5, 0, 0, 0, 0, 0, 7)}
	changed := impl.State{Vars: list(7, 0, 0, 0), Cells: list(0, 5, 7, 0, 0, 0, 0, 7)}
	cases := []struct {
		text string
		s    impl.State
		want codeRun
	}{
		{"halt", state(4), codeRun{state(4), nil, impl.OutDone, list(0)}},
		{"emit 2;emit 0;halt;emit 1", state(4), codeRun{state(4), list(2, 0), impl.OutDone, list(1, 1, 0, 0)}},
		{"load 0;push 7;get;put;push 7;store 0;halt", cells, codeRun{changed, nil, impl.OutDone, list(1, 1, 1, 1, 1, 1, 0)}},
		{"load 0;push 7;get;put;push 7;store 0", cells, codeRun{changed, nil, impl.OutStack, list(1, 1, 1, 1, 1, 1)}},
		{"emit 3;push 1;add;emit 1", state(), codeRun{state(), list(3), impl.OutStack, list(1, 1, 0, 0)}},
		{"push 1;jump 0", state(), codeRun{state(), nil, impl.OutStack, list(6, 6)}},
		{"emit 3;jump 79", state(), codeRun{state(), list(3), impl.OutStack, list(1, 1)}},
		{"emit 3;push 8;get;emit 1", state(), codeRun{state(), list(3), impl.OutCell, list(1, 1, 0, 0)}},
		{"push -1;push 1000000;scale 1000000;put", state(), codeRun{state(), nil, impl.OutCell, list(1, 1, 1, 0)}},
		{"push 5;store 1;load 1;scale 1000000;scale 1000;store 1;halt", state(), codeRun{state(0, 5), nil, impl.OutRange, list(1, 1, 1, 1, 1, 0, 0)}},
		{"push 0;check;push -1;check;halt", state(), codeRun{state(), nil, impl.OutAssert, list(1, 1, 1, 0, 0)}},
		{"load 0;push -1;add;store 0;load 0;check;jump 0", state(2), codeRun{state(-1), nil, impl.OutAssert, list(3, 3, 3, 3, 3, 2, 2)}},
		{"load 0;get;store 0;emit 1;jump 0", impl.State{Vars: list(1, 0, 0, 0), Cells: list(9, 3, 0, 0, 0, 0, 0, 0)}, codeRun{impl.State{Vars: list(9, 0, 0, 0), Cells: list(9, 3, 0, 0, 0, 0, 0, 0)}, list(1, 1, 1), impl.OutCell, list(4, 3, 3, 3, 3)}},
		{"load 0;test 6;load 0;push -1;add;store 0;halt", state(1), codeRun{state(0), nil, impl.OutDone, list(1, 1, 1, 1, 1, 1, 0)}},
		{"jump 3;emit 1;halt;emit 2;jump 1", state(), codeRun{state(), list(2, 1), impl.OutDone, list(1, 1, 0, 1, 1)}},
	}
	for _, c := range cases {
		code := instrs(c.text)
		steps := int64(0)
		for _, n := range c.want.counts {
			steps += n
		}
		for _, fuel := range []int64{steps + 1, steps + 2, 1999, 2000} {
			isCodeRun(t, c.text, codeRunOf(t, code, c.s, fuel), c.want)
		}
		less := c.want
		less.outcome = impl.OutFuel
		isCodeRun(t, c.text, codeRunOf(t, code, c.s, steps), less)
	}
}

func TestLongestRunsOfCode(t *testing.T) {
	for _, fuel := range []int64{0, 1, 2, 3, 1999, 2000} {
		isCodeRun(t, "jump", codeRunOf(t, instrs("jump 0"), state(3), fuel), codeRun{state(3), nil, impl.OutFuel, list(fuel)})
		isCodeRun(t, "emit", codeRunOf(t, instrs("emit 1;jump 0"), state(), fuel), codeRun{state(), repeated(1, int((fuel+1)/2)), impl.OutFuel, list((fuel+1)/2, fuel/2)})
	}
	// Seven steps 285 times, and then four: the one that stops is the one for which the last fuel is used.
	loop := "load 0;test 7;load 0;push -1;add;store 0;jump 0;"
	just, more := instrs(loop+"push 0;emit 2;halt"), instrs(loop+"push 0;emit 2;emit 3;halt")
	isCodeRun(t, "enough", codeRunOf(t, just, state(284), 2000), codeRun{state(-1), list(2), impl.OutDone, list(286, 286, 285, 285, 285, 285, 285, 1, 1, 0)})
	isCodeRun(t, "one fewer", codeRunOf(t, just, state(284), 1999), codeRun{state(-1), list(2), impl.OutFuel, list(286, 286, 285, 285, 285, 285, 285, 1, 1, 0)})
	isCodeRun(t, "not enough", codeRunOf(t, more, state(284), 2000), codeRun{state(-1), list(2, 3), impl.OutFuel, list(286, 286, 285, 285, 285, 285, 285, 1, 1, 1, 0)})
}

func TestRunsOfCodeThatFail(t *testing.T) {
	try := func(code []impl.Instr, s impl.State, fuel int64) {
		t.Helper()
		last, events, outcome, ok := impl.RunCode(code, s, fuel)
		fails(t, "RunCode", last, events, outcome, ok)
		counts, ok := impl.CountCode(code, s, fuel)
		fails(t, "CountCode", counts, ok)
	}
	for _, code := range badCodes() {
		try(code, state(), 10)
	}
	good := instrs("emit 1;halt")
	for _, s := range badStates() {
		try(good, s, 10)
	}
	for _, fuel := range append(oddNumbers(), -1, 2001) {
		if fuel < 0 || fuel > 2000 {
			try(good, state(), fuel)
		}
	}
}

// TestRunsOfCodeAreSteps is promise 8: a run makes the steps of StepCode one after another, and counts each one that it has made.
func TestRunsOfCodeAreSteps(t *testing.T) {
	step := func(code []impl.Instr, c impl.Config) (impl.Config, int64) {
		next, outcome, ok := impl.StepCode(code, c)
		if !ok {
			t.Fatalf("no step of %s", shown(c))
		}
		return next, outcome
	}
	outcomes := map[int64]int{}
	for i, code := range manyCodes(1500) {
		s := manyStates()[i%13]
		whole := codeRunBy(code, s, 2000, stepOfCodeAgain)
		outcomes[whole.outcome]++
		steps := int64(0)
		for _, n := range whole.counts {
			steps += n
		}
		isCodeRun(t, shown(code), codeRunOf(t, code, s, 2000), whole)
		for _, fuel := range []int64{0, 1, 2, 10, 300, steps - 1, steps, steps + 1, steps + 2} {
			if fuel >= 0 && fuel <= 2000 && (fuel <= 300 || steps < 2000) {
				got := codeRunOf(t, code, s, fuel)
				isCodeRun(t, shown(code), got, codeRunBy(code, s, fuel, step))
				isCodeRun(t, shown(code), got, codeRunBy(code, s, fuel, stepOfCodeAgain))
			}
		}
	}
	for _, outcome := range []int64{impl.OutDone, impl.OutFuel, impl.OutCell, impl.OutAssert, impl.OutRange, impl.OutStack} {
		if outcomes[outcome] < 10 {
			t.Errorf("only %d runs end with %d", outcomes[outcome], outcome)
		}
	}
	same(t, "OutHalt", outcomes[impl.OutHalt], 0)
}

// TestHeightsHold is promise 8: code with heights never stops with OutStack, and has the height that is told at each step.
func TestHeightsHold(t *testing.T) {
	executed := 0
	for i, code := range append(manyCodes(1500), validCodes()...) {
		heights, ok := impl.StackHeights(code)
		if !ok {
			continue
		}
		for _, s := range manyStates()[i%3:][:10] {
			c, outcome := configOf(s, 0), int64(impl.OutDone)
			for range 300 {
				if heights[c.At] != int64(len(c.Stack)) {
					t.Fatalf("%s has %d numbers at %d", shown(code), len(c.Stack), c.At)
				}
				executed++
				if c, outcome, _ = impl.StepCode(code, c); outcome != impl.OutDone {
					break
				}
			}
			if outcome == impl.OutStack {
				t.Fatalf("%s has heights and stops with OutStack", shown(code))
			}
			_, _, outcome, _ = impl.RunCode(code, s, 2000)
			same(t, "the run stops for its stack", outcome == impl.OutStack, false)
		}
	}
	if executed < 100000 {
		t.Errorf("only %d steps", executed)
	}
}

// lastConfig makes steps as long as the machine goes on, but not more than some, and returns how often it has.
func lastConfig(code []impl.Instr, c impl.Config, limit int) (impl.Config, int64, int) {
	for steps := range limit {
		next, outcome, _ := impl.StepCode(code, c)
		if outcome != impl.OutDone {
			return c, outcome, steps
		}
		c = next
	}
	return c, impl.OutFuel, limit
}

// TestJoinedCodeDoesBoth is promise 8: joined code does what the first code does and then, if that halts, what the second one does from the same state.
func TestJoinedCodeDoesBoth(t *testing.T) {
	codes := manyCodes(1200)
	outcomes := map[int64]int{}
	for i, a := range codes {
		b := codes[(i*7+3)%len(codes)]
		joined, ok := impl.JoinCode(a, b)
		if !ok {
			continue
		}
		for _, s := range manyStates()[i%10:][:3] {
			c, outcome, steps := lastConfig(a, configOf(s, 0), 400)
			if outcome == impl.OutStack && c.At >= int64(len(a)) {
				continue
			}
			outcomes[outcome]++
			_, events, _, _ := impl.RunCode(a, s, int64(steps))
			if outcome != impl.OutHalt {
				got := codeRunOf(t, joined, s, int64(steps)+min(1, int64(400-steps)))
				same(t, "first", results(got.last, got.events, got.outcome), results(c.State, events, outcome))
				continue
			}
			if len(c.Stack) > 0 {
				continue
			}
			outcomes[impl.OutDone]++
			for _, fuel := range []int64{0, 1, 5, 300} {
				second := codeRunOf(t, b, c.State, fuel)
				got := codeRunOf(t, joined, s, int64(steps)+1+fuel)
				same(t, "second", results(got.last, got.events, got.outcome), results(second.last, slices.Concat(events, second.events), second.outcome))
			}
		}
	}
	for _, outcome := range []int64{impl.OutDone, impl.OutFuel, impl.OutCell, impl.OutAssert, impl.OutRange, impl.OutStack, impl.OutHalt} {
		if outcomes[outcome] < 10 {
			t.Errorf("only %d first runs end with %d", outcomes[outcome], outcome)
		}
	}
}
