package tests

import (
	"math/big"
	"slices"
	"testing"

	"loop.example/g01105/impl"
)

// run is what is known of a run.
type run struct {
	last    impl.State
	events  []int64
	outcome int64
	steps   int64
}

func runOf(t *testing.T, p impl.Program, s impl.State, fuel int64) run {
	t.Helper()
	last, events, outcome, ok := impl.RunProgram(p, s, fuel)
	steps, same := impl.StepsOf(p, s, fuel)
	if !ok || !same {
		t.Fatalf("no run of %s from %s", shown(p), shown(s))
	}
	return run{last, events, outcome, steps}
}

func isRun(t *testing.T, what string, got, want run) {
	t.Helper()
	same(t, what, results(got.last, got.events, got.outcome, got.steps), results(want.last, want.events, want.outcome, want.steps))
}

// runAgain runs a body by another way: with a list of what is still to be done, and with exact numbers.
func runAgain(body []impl.Stmt, s impl.State, fuel int64) run {
	r := run{last: impl.State{Vars: slices.Clone(s.Vars), Cells: slices.Clone(s.Cells)}}
	todo := [][]impl.Stmt{body}
	for len(todo) > 0 {
		next := todo[len(todo)-1]
		todo = todo[:len(todo)-1]
		behind := behindOf(next)
		if next[0].Kind == impl.StmtSeq {
			todo = append(todo, behind[1], behind[0])
			continue
		}
		if r.steps == fuel {
			r.outcome = impl.OutFuel
			return r
		}
		r.steps++
		holds := valueOf(next[0].Sum, bigValues(r.last.Vars)).Sign() >= 0
		switch {
		case next[0].Kind == impl.StmtIf && holds:
			todo = append(todo, behind[0])
		case next[0].Kind == impl.StmtIf:
			todo = append(todo, behind[1])
		case next[0].Kind == impl.StmtWhile && holds:
			todo = append(todo, next, behind[0])
		case next[0].Kind == impl.StmtAssert && !holds:
			r.outcome = impl.OutAssert
		default:
			r.outcome = r.stepAgain(next[0])
		}
		if r.outcome != impl.OutDone {
			return r
		}
	}
	return r
}

// stepAgain makes a step that changes something, unless it stops the run.
func (r *run) stepAgain(e impl.Stmt) int64 {
	values := bigValues(r.last.Vars)
	index, n := valueOf(e.Index, values), valueOf(e.Sum, values)
	if isIn(e.Kind, impl.StmtGet, impl.StmtPut) && (index.Sign() < 0 || index.Cmp(big.NewInt(8)) >= 0) {
		return impl.OutCell
	}
	if isIn(e.Kind, impl.StmtSet, impl.StmtPut) && n.CmpAbs(big.NewInt(1e9)) > 0 {
		return impl.OutRange
	}
	switch e.Kind {
	case impl.StmtSet:
		r.last.Vars[e.Var] = n.Int64()
	case impl.StmtGet:
		r.last.Vars[e.Var] = r.last.Cells[index.Int64()]
	case impl.StmtPut:
		r.last.Cells[index.Int64()] = n.Int64()
	case impl.StmtEmit:
		r.events = append(r.events, e.Event)
	}
	return impl.OutDone
}

func TestLoopOfTheExample(t *testing.T) {
	loop := read(t, "while a", "inv a+1", "do", "set a a-1", "end")
	isRun(t, "fuel 7", runOf(t, loop, state(2), 7), run{state(-1), nil, impl.OutDone, 7})
	isRun(t, "fuel 8", runOf(t, loop, state(2), 8), run{state(-1), nil, impl.OutDone, 7})
	isRun(t, "fuel 6", runOf(t, loop, state(2), 6), run{state(-1), nil, impl.OutFuel, 6})
	isRun(t, "fuel 5", runOf(t, loop, state(2), 5), run{state(0), nil, impl.OutFuel, 5})
	isRun(t, "fuel 0", runOf(t, loop, state(2), 0), run{state(2), nil, impl.OutFuel, 0})
}

// with returns a state with another number in a cell.
func with(s impl.State, cell int, n int64) impl.State {
	s.Cells[cell] = n
	return s
}

func TestOneStep(t *testing.T) {
	top := int64(1e9)
	cases := []struct {
		body    []impl.Stmt
		s, last impl.State
		outcome int64
	}{
		{skip(), state(1, 2, 3, 4), state(1, 2, 3, 4), impl.OutDone}, {set(2, fact(3, 2, -1)), state(1, 10), state(1, 10, -5), impl.OutDone}, {set(0, fact(1, 1)), state(4), state(5), impl.OutDone}, {set(3, alone(0, 1)), state(top), state(top, 0, 0, top), impl.OutDone},
		{set(0, fact(1, 1)), state(top), state(top), impl.OutRange}, {set(0, fact(-1, 1)), state(top), state(top - 1), impl.OutDone}, {set(0, fact(-1, 1)), state(-top), state(-top), impl.OutRange}, {set(0, alone(0, -1)), state(top), state(-top), impl.OutDone}, {set(1, fact(0, 1e6)), state(1000), state(1000, top), impl.OutDone},
		{set(1, fact(1, 1e6)), state(1000), state(1000), impl.OutRange}, {set(1, fact(0, 1e6, -1e6)), state(top, top), state(top, 0), impl.OutDone}, {set(1, fact(7, 1e6, 1e6, -1e6, -1e6)), state(top, top, top, top), state(top, 7, top, top), impl.OutDone},
		{set(1, fact(1e6, 1e6, 1e6, 1e6, 1e6)), state(top, top, top, top), state(top, top, top, top), impl.OutRange}, {set(1, fact(-1e6, 1e6, 1e6, 1e6, 1e6)), state(-top, -top, -top, -top), state(-top, -top, -top, -top), impl.OutRange},
		{get(1, fact(7)), with(state(5), 7, 9), with(state(5, 9), 7, 9), impl.OutDone}, {get(1, fact(0)), with(state(5, 5), 0, -top), with(state(5, -top), 0, -top), impl.OutDone}, {get(1, fact(8)), state(5, 5), state(5, 5), impl.OutCell}, {get(1, fact(-1)), state(5, 5), state(5, 5), impl.OutCell},
		{get(0, alone(0, 1)), with(state(3), 3, 4), with(state(4), 3, 4), impl.OutDone}, {get(0, alone(0, 1)), state(8), state(8), impl.OutCell}, {get(0, alone(0, 1e6)), state(top), state(top), impl.OutCell}, {get(0, alone(0, 1e6)), state(-top), state(-top), impl.OutCell}, {get(0, fact(3, 1e6, -1e6)), with(state(top, top), 3, 6), with(state(6, top), 3, 6), impl.OutDone},
		{put(fact(7), fact(2, 1)), state(4), with(state(4), 7, 6), impl.OutDone}, {put(fact(0), fact(0)), with(state(), 0, 3), state(), impl.OutDone}, {put(fact(8), fact(0)), state(1), state(1), impl.OutCell}, {put(fact(-1), fact(0)), state(1), state(1), impl.OutCell}, {put(alone(0, 1), fact(0, 0, 1e6)), state(8, top), state(8, top), impl.OutCell},
		{put(alone(0, 1), fact(0, 0, 1e6)), state(-1, top), state(-1, top), impl.OutCell}, {put(alone(0, 1), fact(0, 0, 1e6)), state(7, top), state(7, top), impl.OutRange}, {put(alone(0, 1), fact(0, 0, 1e6)), state(0, 1001), state(0, 1001), impl.OutRange}, {put(alone(0, 1), fact(0, 0, 1e6)), state(0, -1000), with(state(0, -1000), 0, -top), impl.OutDone},
		{assert(fact(0)), state(), state(), impl.OutDone}, {assert(fact(-1)), state(), state(), impl.OutAssert}, {assert(alone(0, 1)), state(-1), state(-1), impl.OutAssert}, {assert(alone(0, 1)), state(0), state(0), impl.OutDone}, {assert(fact(0, 1e6, 1e6, 1e6, 1e6)), state(top, top, top, top), state(top, top, top, top), impl.OutDone},
		{while(fact(-1), emit(1)), state(), state(), impl.OutDone}, {while(alone(0, 1), emit(1), fact(-1)), state(-1), state(-1), impl.OutDone},
	}
	for _, c := range cases {
		for _, fuel := range []int64{1, 2, 2000} {
			isRun(t, shown(c.body), runOf(t, programOf(c.body), c.s, fuel), run{c.last, nil, c.outcome, 1})
		}
		isRun(t, shown(c.body), runOf(t, programOf(c.body), c.s, 0), run{c.s, nil, impl.OutFuel, 0})
		isRun(t, "in a StmtSeq", runOf(t, programOf(both(c.body, skip())), c.s, 1), run{c.last, nil, max(c.outcome, impl.OutFuel), 1})
	}
}

func TestRuns(t *testing.T) {
	cells := impl.State{Vars: []int64{1, 0, 0, 0}, Cells: []int64{0, 5, 0, 0, 0, 0, 0, 7}}
	cases := []struct {
		lines []string
		s     impl.State
		want  run
	}{
		{[]string{"get b a", "put a+1 b", "emit 2", "assert b"}, cells, run{impl.State{Vars: []int64{1, 5, 0, 0}, Cells: []int64{0, 5, 5, 0, 0, 0, 0, 7}}, []int64{2}, impl.OutDone, 4}},
		{[]string{"emit 0", "emit 3", "assert -1", "emit 1"}, state(), run{state(), []int64{0, 3}, impl.OutAssert, 3}},
		{[]string{"emit 1", "set a 7", "get b a+1", "emit 2"}, state(), run{state(7), []int64{1}, impl.OutCell, 3}},
		{[]string{"set a 1000000", "set a 1000a", "set b a", "set a a+b", "skip"}, state(), run{state(1e9, 1e9), nil, impl.OutRange, 4}},
		{[]string{"if a", "emit 1", "else", "emit 2", "end", "emit 3"}, state(0), run{state(0), []int64{1, 3}, impl.OutDone, 3}},
		{[]string{"if a", "emit 1", "else", "emit 2", "end", "emit 3"}, state(-1), run{state(-1), []int64{2, 3}, impl.OutDone, 3}},
		{[]string{"if a", "assert -1", "else", "skip", "end", "emit 3"}, state(5), run{state(5), nil, impl.OutAssert, 2}},
		{[]string{"while a", "do", "while b", "do", "emit 0", "set b b-1", "end", "set b 1", "set a a-1", "end", "emit 1"}, state(1, 0), run{state(-1, 1), []int64{0, 0, 0, 1}, impl.OutDone, 19}},
		{[]string{"while -a", "do", "set a a+1", "if a", "emit 3", "else", "skip", "end", "end"}, state(-2), run{state(1), []int64{3, 3}, impl.OutDone, 13}},
		{[]string{"while a", "do", "assert a-1", "set a a-1", "end", "emit 1"}, state(2), run{state(0), nil, impl.OutAssert, 8}},
		{[]string{"pre -1", "skip", "post -1"}, state(), run{state(), nil, impl.OutDone, 1}},
		{[]string{"while a", "inv -1", "do", "set a -1", "end"}, state(), run{state(-1), nil, impl.OutDone, 3}},
		{[]string{"set a b", "set b a"}, state(1, 2), run{state(2, 2), nil, impl.OutDone, 2}},
	}
	for _, c := range cases {
		p := read(t, c.lines...)
		for _, fuel := range []int64{c.want.steps, c.want.steps + 1, 2000} {
			isRun(t, shown(c.lines), runOf(t, p, c.s, fuel), c.want)
		}
		less := runOf(t, p, c.s, c.want.steps-1)
		same(t, shown(c.lines), []int64{less.outcome, less.steps}, []int64{impl.OutFuel, c.want.steps - 1})
	}
}

func TestEndlessLoops(t *testing.T) {
	for _, fuel := range []int64{0, 1, 2, 3, 1999, 2000} {
		isRun(t, "skip", runOf(t, read(t, "while 0", "do", "skip", "end"), state(5), fuel), run{state(5), nil, impl.OutFuel, fuel})
		isRun(t, "emit", runOf(t, read(t, "while 0", "do", "emit 1", "end", "emit 2"), state(), fuel), run{state(), repeated(1, int(fuel/2)), impl.OutFuel, fuel})
		count := runOf(t, read(t, "while 0", "do", "set a a+1", "end"), state(), fuel)
		isRun(t, "count", count, run{state(fuel / 2), nil, impl.OutFuel, fuel})
		nested := runOf(t, read(t, "while 0", "do", "while -1", "do", "skip", "end", "emit 3", "end"), state(), fuel)
		isRun(t, "nested", nested, run{state(), repeated(3, int(fuel/3)), impl.OutFuel, fuel})
	}
	p := read(t, "while -a+998", "do", "set a a+1", "end", "skip")
	isRun(t, "2000 steps", runOf(t, p, state(), 2000), run{state(999), nil, impl.OutDone, 2000})
	isRun(t, "1999 steps", runOf(t, p, state(), 1999), run{state(999), nil, impl.OutFuel, 1999})
	isRun(t, "2001 steps", runOf(t, read(t, "while -a+998", "do", "set a a+1", "end", "skip", "emit 1"), state(), 2000), run{state(999), nil, impl.OutFuel, 2000})
}

func TestSequencesMakeNoSteps(t *testing.T) {
	var parts [][]impl.Stmt
	for i := range int64(15) {
		parts = append(parts, emit(i%4))
	}
	events := []int64{0, 1, 2, 3, 0, 1, 2, 3, 0, 1, 2, 3, 0, 1, 2}
	for _, body := range [][]impl.Stmt{sequence(parts...), leftSequence(parts...), both(leftSequence(parts[:7]...), sequence(parts[7:]...)), both(sequence(parts[:8]...), leftSequence(parts[8:]...))} {
		isRun(t, "15", runOf(t, programOf(body), state(), 15), run{state(), events, impl.OutDone, 15})
		isRun(t, "14", runOf(t, programOf(body), state(), 14), run{state(), events[:14], impl.OutFuel, 14})
		isRun(t, "0", runOf(t, programOf(body), state(), 0), run{state(), nil, impl.OutFuel, 0})
	}
}

// TestRunsAgain compares runs with those of the other interpreter, with more fuel than they need, with enough, and with less.
func TestRunsAgain(t *testing.T) {
	outcomes := map[int64]int{}
	for i, p := range manyPrograms(900) {
		s := manyStates()[i%13]
		whole := runAgain(p.Body, s, 2000)
		outcomes[whole.outcome]++
		for _, fuel := range []int64{0, 1, 2, 3, 10, whole.steps / 2, whole.steps - 1, whole.steps, whole.steps + 1, 1999, 2000} {
			if fuel = min(fuel, 2000); fuel >= 0 {
				isRun(t, shown(p), runOf(t, p, s, fuel), runAgain(p.Body, s, fuel))
			}
		}
	}
	for outcome := range int64(5) {
		if outcomes[outcome] < 20 {
			t.Errorf("only %d runs end with %d", outcomes[outcome], outcome)
		}
	}
}

func TestBadRuns(t *testing.T) {
	try := func(p impl.Program, s impl.State, fuel int64) {
		t.Helper()
		last, events, outcome, ok := impl.RunProgram(p, s, fuel)
		fails(t, "RunProgram", last, events, outcome, ok)
		steps, ok := impl.StepsOf(p, s, fuel)
		fails(t, "StepsOf", steps, ok)
	}
	for _, p := range badPrograms() {
		try(p, state(), 10)
	}
	good := programOf(emit(1))
	for _, s := range badStates() {
		try(good, s, 10)
	}
	for _, fuel := range append(oddNumbers(), -1, 2001) {
		if fuel < 0 || fuel > 2000 {
			try(good, state(), fuel)
		}
	}
}
